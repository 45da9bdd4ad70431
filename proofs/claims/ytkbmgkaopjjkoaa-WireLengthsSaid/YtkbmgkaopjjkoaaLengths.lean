/-
  The statement WireLengths of layer 1. Conditions: none.
-/
import Derived.Test.YtkbmgkaopjjkoaaSane
import Derived.Deep.RegionHeld3
import Derived.Lib.Strings
import Derived.Deep.CutBlock
import Derived.Deep.DeepCutAuto
namespace Go.Proofs.Ytkbmgkaopjjkoaa
open Go.RowKit

theorem below_undrew {w w' : World} (h : Below w.drew.heap.size w.drew w') : Below w.heap.size w w' := ⟨h.os, h.tape, h.output, h.size, h.block⟩
theorem use_len (n : Int) (L : Nat) (w : World) (h : WM.okI n) (hL : (WM.encI n).length = L) : Calls Try.prog 14 #[.int .i64 n] w fun e w' => ∃ A c, e = .returned (.slice A L c) ∧ L ≤ c ∧ Holds w' A ((WM.encI n).map B8) ∧ Below w.heap.size w w' := by
  subst hL; exact use_int n w h
theorem max_half (n : Int) : (if n < -1 - n then -1 - n else n) = ((WM.fold n / 2 : Nat) : Int) := by
  rw [WM.fold_half]; split <;> split <;> omega
theorem lenI_le {m n : Int} (h : WM.fold m / 2 ≤ WM.fold n / 2) : (WM.encI m).length ≤ (WM.encI n).length := by
  unfold WM.encI
  rcases Nat.lt_or_ge (WM.fold n) (WM.fold m) with h1 | h1
  · rw [WM.encN_half (WM.fold m) (WM.fold n) (by omega)]; exact Nat.le_refl _
  · exact WM.encN_mono _ _ h1
theorem enc_one (m : Int) : (WM.encI m).length = 1 ↔ WM.fold m / 2 < 64 := by
  unfold WM.encI
  constructor
  · intro h
    by_cases hz : WM.fold m < 128
    · omega
    · rw [WM.encN_hi hz, List.length_cons] at h
      have := WM.encN_pos (WM.fold m / 128)
      omega
  · intro h
    rw [WM.encN_lo (by omega)]; rfl
theorem enc_neg (m : Int) : (WM.encI (-1 - m)).length = (WM.encI m).length := WM.encN_half _ _ (WM.fold_neg m)
/-- No encoding is a proper prefix of another one. -/
theorem enc_apart {m n : Int} (hm : WM.okI m) (hn : WM.okI n) (k : Nat) (hk : k = (WM.encI m).length ∨ k = (WM.encI n).length) (h1 : k ≤ (WM.encI m).length) (h2 : k ≤ (WM.encI n).length) (h : (WM.encI m).take k = (WM.encI n).take k) : m = n := by
  rcases hk with rfl | rfl
  · rw [List.take_length] at h
    have e1 := WM.getI_encI hn.1 hn.2 []
    have e2 := WM.getI_encI hm.1 hm.2 ((WM.encI n).drop (WM.encI m).length)
    have e3 : WM.encI m ++ (WM.encI n).drop (WM.encI m).length = WM.encI n := by have := List.take_append_drop (WM.encI m).length (WM.encI n); rw [← h] at this; exact this
    rw [e3, ← List.append_nil (WM.encI n), e1] at e2
    simp at e2; exact e2.1.symm
  · rw [List.take_length] at h
    have e1 := WM.getI_encI hm.1 hm.2 []
    have e2 := WM.getI_encI hn.1 hn.2 ((WM.encI m).drop (WM.encI n).length)
    have e3 : WM.encI n ++ (WM.encI m).drop (WM.encI n).length = WM.encI m := by have := List.take_append_drop (WM.encI n).length (WM.encI m); rw [h] at this; exact this
    rw [e3, ← List.append_nil (WM.encI m), e1] at e2
    simp at e2; exact e2.1
theorem Holds.take {w : World} {A : Option Addr} {l : List UInt8} (h : Holds w A (l.map B8)) (k : Nat) : Holds w A ((l.take k).map B8) := fun j u hu => by
  rw [List.map_take, List.getElem?_take] at hu
  split at hu
  · exact h j u hu
  · cases hu
theorem conv_take {w : World} {A : Option Addr} {l : List UInt8} (h : Holds w A (l.map B8)) {k : Nat} (hk : k ≤ l.length) (cap : Nat) : (convert 28 9 (.slice A k cap)).run Try.prog w = .ok (.string ⟨(l.take k).toArray⟩) w := by
  have := run_conv w A cap _ (h.take k)
  rwa [List.length_take, Nat.min_eq_left hk] at this

set_option maxRecDepth 100000 in
set_option maxHeartbeats 800000 in
theorem lengths_any (m n : Int) (w : World) (hm : WM.okI m) (hn : WM.okI n) : Calls Try.prog 5 #[.int .i64 m, .int .i64 n] w (TruePost w) := by
  have hm1 := hm.1
  have hm2 := hm.2
  have hn1 := hn.1
  have hn2 := hn.2
  go_enter Try.func5, Try.ntmps5
  go_wp2_with fail
  refine (use_int m _ hm).mono ?_
  rintro e w1 ⟨A1, c1, rfl, hc1, H1, hs1⟩
  go_wp2_with fail
  refine (use_int n _ hn).mono ?_
  rintro e w2 ⟨A2, c2, rfl, hc2, H2, hs2⟩
  go_upto_region 3 with (fail)
  rw [max_half, max_half]
  replace H1 := H1.next hs2
  have hb2 := below_join hs1 hs2
  have hla := WM.encI_pos m
  have hlb := WM.encI_pos n
  have hla2 := WM.encI_le hm
  have hlb2 := WM.encI_le hn
  have hle1 := lenI_le (m := m) (n := n)
  have hle2 := lenI_le (m := n) (n := m)
  have hone := enc_one m
  have HN := Lib.hid (enc_neg m)
  have HX : Hid (m = n → WM.encI m = WM.encI n) := Lib.hid (fun h => by rw [h])
  have HA := Lib.hid (@enc_apart m n hm hn)
  generalize hI : WM.fold m / 2 = I at *
  generalize hK : WM.fold n / 2 = K at *
  clear hI hK
  generalize hx : WM.encI m = xs at *
  generalize hy : WM.encI n = ys at *
  clear hx hy
  have z1 : ((xs.length : Int) == 0) = false := beq_eq_false_iff_ne.2 (by omega)
  have z2 : ((ys.length : Int) == 0) = false := beq_eq_false_iff_ne.2 (by omega)
  have hmin : (if ys.length < xs.length then (ys.length : Int) else (xs.length : Int)) = ((min xs.length ys.length : Nat) : Int) := by split <;> omega
  have HM := Lib.hid hmin
  clear hmin
  go_cut [66] (fun s66 wx => s66 = .bool false ∧ w2 = wx)
  case first =>
    by_cases h1 : xs.length = 1
    · have q1 : ((xs.length : Int) == 1) = true := beq_iff_eq.2 (by omega)
      have hI : I < 64 := hone.1 h1
      have hone2 : xs.length ≤ 1 := by omega
      clear hone h1
      by_cases hIK : I ≤ K
      · have hl := hle1 hIK
        by_cases hKI : K ≤ I
        · have hl2 := hle2 hKI
          clear hle1 hle2
          go_wp2_with fail
          go_meet
          exact ⟨by simp; omega, rfl⟩
        · clear hle1 hle2
          go_wp2_with fail
          go_meet
          exact ⟨by simp; omega, rfl⟩
      · have hl2 := hle2 (by omega)
        clear hle1 hle2
        go_wp2_with fail
        go_meet
        exact ⟨by simp; omega, rfl⟩
    · have q1 : ((xs.length : Int) == 1) = false := beq_eq_false_iff_ne.2 (by omega)
      have hI : 64 ≤ I := by
        rcases Nat.lt_or_ge I 64 with h | h
        · exact absurd (hone.2 h) h1
        · exact h
      clear hone h1
      by_cases hIK : I ≤ K
      · have hl := hle1 hIK
        by_cases hKI : K ≤ I
        · have hl2 := hle2 hKI
          clear hle1 hle2
          go_wp2_with fail
          go_meet
          exact ⟨by simp; omega, rfl⟩
        · clear hle1 hle2
          go_wp2_with fail
          go_meet
          exact ⟨by simp; omega, rfl⟩
      · have hl2 := hle2 (by omega)
        clear hle1 hle2
        go_wp2_with fail
        go_meet
        exact ⟨by simp; omega, rfl⟩
  case rest =>
    obtain ⟨rfl, rfl⟩ := hcut
    clear hle1 hle2 hone
    go_upto_region 6 with (fail)
    rw [HM.out]
    have hk1 : min xs.length ys.length ≤ xs.length := by omega
    have hk2 : min xs.length ys.length ≤ ys.length := by omega
    have hk3 : min xs.length ys.length = xs.length ∨ min xs.length ys.length = ys.length := by omega
    generalize min xs.length ys.length = k at hk1 hk2 hk3
    have hneg : WM.okI (-1 - m) := ⟨by omega, by omega⟩
    have HAk := Lib.hid (HA.out k hk3 hk1 hk2)
    clear hk3 HA HM
    have q0 : ((xs.length : Int) == (xs.length : Int)) = true := by simp
    have hstr : ((⟨(xs.take k).toArray⟩ : ByteArray).toList == (⟨(ys.take k).toArray⟩ : ByteArray).toList) = (m == n) := by
      rw [Lib.toList_data, Lib.toList_data, Bool.eq_iff_iff, beq_iff_eq, beq_iff_eq]
      show xs.take k = ys.take k ↔ m = n
      exact ⟨HAk.out, fun h => by rw [HX.out h]⟩
    have hk5 : k ≤ c1 := by omega
    have hk6 : k ≤ c2 := by omega
    have hcv : ∀ w' : World, Below w2.heap.size w2 w' → (convert 28 9 (.slice A1 k c1)).run Try.prog w' = .ok (.string ⟨(xs.take k).toArray⟩) w' := fun w' hb => conv_take (H1.next hb) hk1 c1
    have hcv2 : ∀ w' : World, Below w2.heap.size w2 w' → (convert 28 9 (.slice A2 k c2)).run Try.prog w' = .ok (.string ⟨(ys.take k).toArray⟩) w' := fun w' hb => conv_take (H2.next hb) hk2 c2
    generalize (⟨(xs.take k).toArray⟩ : ByteArray) = S1 at hcv hstr
    generalize (⟨(ys.take k).toArray⟩ : ByteArray) = S2 at hcv2 hstr
    have hwrap : IntKind.i64.wrap (-1 - m) = -1 - m := IntWalk.i64_in _ ⟨by omega, by omega⟩
    have HC1 := Lib.hid hcv
    have HC2 := Lib.hid hcv2
    have HS := Lib.hid hstr
    clear hcv hcv2 hstr
    have hS : (S1.toList == S2.toList) = (m == n) := HS.out
    by_cases hmn : (m == n) = true
    · rw [hmn] at hS
      have hcv1 := HC1.out
      have hcv2 := HC2.out
      go_region_held3 (fun w' => Below w2.heap.size w2 w')
        (first | assumption | exact Below.refl _ _ | exact (Below.refl _ _).drew | exact below_join (by assumption) (by assumption) | exact below_join (by assumption) (below_undrew (by assumption)))
        (first
          | (go_at_call 12; refine (sanity_any _).mono ?_; rintro e w3 ⟨rfl, hs3⟩)
          | (go_at_call 14; refine (use_len (-1 - m) xs.length _ hneg HN.out).mono ?_; rintro e w4 ⟨A3, c3, rfl, hc3, H3, hs4⟩))
      go_wp2_with fail
      go_ret
      exact ⟨rfl, below_join hb2 (by assumption)⟩
    · have hmf : (m == n) = false := by simpa using hmn
      rw [hmf] at hS
      have hcv1 := HC1.out
      have hcv2 := HC2.out
      go_region_held3 (fun w' => Below w2.heap.size w2 w')
        (first | assumption | exact Below.refl _ _ | exact (Below.refl _ _).drew | exact below_join (by assumption) (by assumption) | exact below_join (by assumption) (below_undrew (by assumption)))
        (first
          | (go_at_call 12; refine (sanity_any _).mono ?_; rintro e w3 ⟨rfl, hs3⟩)
          | (go_at_call 14; refine (use_len (-1 - m) xs.length _ hneg HN.out).mono ?_; rintro e w4 ⟨A3, c3, rfl, hc3, H3, hs4⟩))
      go_wp2_with fail
      go_ret
      exact ⟨rfl, below_join hb2 (by assumption)⟩
end Go.Proofs.Ytkbmgkaopjjkoaa
