/-
  Contracts of the functions that the statement calls, part 21 of 37 (merged texts: Jr4, Jr5, Jr6, Jr8, Jp1). Conditions: as the head of each part says.
-/
import Derived.Test.YthgmlopkcgkjlaaGT
import Derived.ProofKit
import Derived.OpenShut
import Derived.ShutString
import Derived.ChangeOld
import Derived.SizedLaws
import Derived.SliceStrings
import Derived.Deep.Slices
import Derived.Deep.Fields
import Derived.ChangeSame

/-
  Contracts of the walks over the reference's Append, Replace and Do. Conditions: the rows lie there; few bytes.
-/
namespace Go.Proofs.Ythgmlopkcgkjlaa
open Go.RowKit

namespace JM
def appE (sz : Nat) (l : List ByteArray) (r : ByteArray) : Int := if 8000 < r.size then 2 else if sz < useR l + 2 + r.size then 12 else 0
def appL (sz : Nat) (l : List ByteArray) (r : ByteArray) : List ByteArray := if 8000 < r.size then l else if sz < useR l + 2 + r.size then l else l ++ [r]
def appN (sz : Nat) (l : List ByteArray) (r : ByteArray) : Nat := if 8000 < r.size then 0 else if sz < useR l + 2 + r.size then 0 else l.length
def repE (sz : Nat) (l : List ByteArray) : Int := if l.any (fun r => decide (8000 < r.size)) then 2 else if sz < useR l then 12 else 0
def repL (sz : Nat) (o l : List ByteArray) : List ByteArray := if l.any (fun r => decide (8000 < r.size)) then o else if sz < useR l then o else l
theorem app_long {sz : Nat} {l : List ByteArray} {r : ByteArray} (h : 8000 < r.size) : appE sz l r = 2 ∧ appL sz l r = l ∧ appN sz l r = 0 := by
  unfold appE appL appN
  rw [if_pos h, if_pos h, if_pos h]; exact ⟨rfl, rfl, rfl⟩
theorem app_full {sz : Nat} {l : List ByteArray} {r : ByteArray} (h : ¬ 8000 < r.size) (h2 : sz < useR l + 2 + r.size) : appE sz l r = 12 ∧ appL sz l r = l ∧ appN sz l r = 0 := by
  unfold appE appL appN
  rw [if_neg h, if_neg h, if_neg h, if_pos h2, if_pos h2, if_pos h2]; exact ⟨rfl, rfl, rfl⟩
theorem app_good {sz : Nat} {l : List ByteArray} {r : ByteArray} (h : ¬ 8000 < r.size) (h2 : ¬ sz < useR l + 2 + r.size) : appE sz l r = 0 ∧ appL sz l r = l ++ [r] ∧ appN sz l r = l.length := by
  unfold appE appL appN
  rw [if_neg h, if_neg h, if_neg h, if_neg h2, if_neg h2, if_neg h2]; exact ⟨rfl, rfl, rfl⟩
theorem rep_long {sz : Nat} {o l : List ByteArray} (h : l.any (fun r => decide (8000 < r.size)) = true) : repE sz l = 2 ∧ repL sz o l = o := by
  unfold repE repL
  rw [if_pos h, if_pos h]; exact ⟨rfl, rfl⟩
theorem rep_full {sz : Nat} {o l : List ByteArray} (h : l.any (fun r => decide (8000 < r.size)) = false) (h2 : sz < useR l) : repE sz l = 12 ∧ repL sz o l = o := by
  unfold repE repL
  rw [h, if_pos h2, if_pos h2]; exact ⟨rfl, rfl⟩
theorem rep_good {sz : Nat} {o l : List ByteArray} (h : l.any (fun r => decide (8000 < r.size)) = false) (h2 : ¬ sz < useR l) : repE sz l = 0 ∧ repL sz o l = l := by
  unfold repE repL
  rw [h, if_neg h2, if_neg h2]; exact ⟨rfl, rfl⟩
end JM
theorem rused_q (A : Option Addr) (c n : Nat) (l : List ByteArray) (w : World) (hn : l.length = n) (U : Nat) (hU : JM.useR l = U) (hu : U ≤ 1000000) (hA : RowAt w A (l.map Value.string)) :
    Calls Try.prog 45 #[.slice A n c] w fun e w' => e = .returned (.int .i64 (U : Nat)) ∧ w' = w := by
  subst hn hU
  exact (rused_any A c l w hu hA).mono (fun _ _ h => ⟨h.1, h.2.symm⟩)
theorem Try.szSs : (Try.prog.info? 43).map (·.size) = some 1 := by kernel_rfl
theorem RowAt.drewN {w : World} {A : Option Addr} {xs : List Value} (h : RowAt w A xs) (n : Nat) : RowAt (w.drewN n) A xs := h
theorem only_below {L : List Nat} {B : Nat} {a b c : World} (h : Only L a b) (k : Below B b c) (hB : a.heap.size ≤ B) : Only L a c :=
  ⟨k.os.trans h.os, k.tape.trans h.tape, k.output.trans h.output, Nat.le_trans h.size k.size, fun i hi hn => (k.block i (by omega)).trans (h.block i hi hn)⟩
/-- What a row of texts that a walk owns is at its address. -/
theorem own_new {w : World} {base n c : Nat} {A : Option Addr} {l : List ByteArray} (h : w.ownsRow base 9 1 (.slice A n c) n (l.map Value.string)) : RowAt w A (l.map Value.string) ∧ ∀ g, A = some ⟨g, 0, none⟩ → base ≤ g := by
  refine ⟨RowAt.of_own h, fun g hg => ?_⟩
  subst hg
  exact (h.lt g rfl).1
set_option maxRecDepth 100000 in
set_option maxHeartbeats 1600000 in
theorem rappend_any (gr : Nat) (A : Option Addr) (c sz : Nat) (l : List ByteArray) (r : ByteArray) (w : World) (hr : r.size ≤ 8200) (hu : JM.useR l ≤ 100000) (hsz : sz ≤ 100000) (h : JRef w gr A c sz l) :
    Calls Try.prog 76 #[.pointer (some ⟨gr, 0, none⟩), .string r] w fun e w' => e = .returned (.tuple #[.int .i64 (JM.appN sz l r : Nat), .int .i64 (JM.appE sz l r)]) ∧ ∃ A' c', JRef w' gr A' c' sz (JM.appL sz l r) ∧ Only [gr] w w' ∧ (∀ g, A' = some ⟨g, 0, none⟩ → A' = A ∨ w.heap.size ≤ g) := by
  obtain ⟨i0, hi, hz0, hz1, hz2⟩ := info_parts Try.infoS
  obtain ⟨n, hn⟩ : ∃ n, Hid (l.length = n) := ⟨_, rfl⟩
  obtain ⟨U, hU⟩ : ∃ U, Hid (JM.useR l = U) := ⟨_, rfl⟩
  have hn6 : n ≤ 100000 := by have := JM.useR_count l; rw [hn.out] at this; omega
  have hB := h.d
  rw [hn.out] at hB
  have hR := h.r
  have c0 := hB.cell (k := 0) rfl
  have c1 := hB.cell (k := 1) rfl
  have hgl := hB.lt
  by_cases hlong : 8000 < r.size
  · obtain ⟨e1, e2, e3⟩ := JM.app_long (sz := sz) (l := l) hlong
    rw [e1, e2, e3]
    have hli : (8000 : Int) < (r.size : Int) := by omega
    have HH := Lib.hid h
    clear h hR hB e1 e2 e3 hlong
    go_enter Try.func76, Try.ntmps76
    go_wp2
    go_ret2
    exact ⟨rfl, A, c, HH.out, Only.refl _ _, fun g hg => Or.inl rfl⟩
  · have hli : (r.size : Int) ≤ 8000 := by omega
    rw [hU.out] at hu
    by_cases hfull : sz < U + 2 + r.size
    · obtain ⟨e1, e2, e3⟩ := JM.app_full (sz := sz) (l := l) (r := r) hlong (by rw [hU.out]; exact hfull)
      rw [e1, e2, e3]
      have hfi : (sz : Int) < (U : Int) + 2 + (r.size : Int) := by omega
      have HH := Lib.hid h
      clear h hB e1 e2 e3 hlong hfull
      go_enter Try.func76, Try.ntmps76
      go_wp2
      go_quiet ((go_at_call 45; exact Calls.quiet_of_same (rused_q A c n l _ hn.out U hU.out (by omega) (hR.drewN _))))
      have hdn : Below w.heap.size w (w.drewN nq) := below_drewN (Below.refl _ _) nq
      have hJ := HH.out.next hdn
      have ho := Only.of_below (L := [gr]) hdn
      generalize w.drewN nq = wq at hJ ho ⊢
      go_wp2
      go_ret2
      exact ⟨rfl, A, c, hJ, ho, fun g hg => Or.inl rfl⟩
    · obtain ⟨e1, e2, e3⟩ := JM.app_good (sz := sz) (l := l) (r := r) hlong (by rw [hU.out]; exact hfull)
      rw [e1, e2, e3, hn.out]
      have hfi : (U : Int) + 2 + (r.size : Int) ≤ (sz : Int) := by omega
      have HH := Lib.hid h
      clear h hB e1 e2 e3 hlong hfull
      go_enter Try.func76, Try.ntmps76
      go_wp2
      go_quiet ((go_at_call 45; exact Calls.quiet_of_same (rused_q A c n l _ hn.out U hU.out (by omega) (hR.drewN _))))
      have hdn : Below w.heap.size w (w.drewN nq) := below_drewN (Below.refl _ _) nq
      have hJ := HH.out.next hdn
      have ho := Only.of_below (L := [gr]) hdn
      have hB := hJ.d
      rw [hn.out] at hB
      have c0 := hB.cell (k := 0) rfl
      have c1 := hB.cell (k := 1) rfl
      have hRq := hJ.r
      have hszq : w.heap.size ≤ (w.drewN nq).heap.size := hdn.size
      generalize w.drewN nq = wq at hJ ho hB c0 c1 hRq hszq ⊢
      clear hJ hR hdn
      go_wp2_with (with_reducible refine wpList_appS (o := ⟨some 29, .call ⟨.builtin .append, #[.tmp 24, .tmp 28], #[43, 43]⟩, _, _, _, _⟩) (by with_unfolding_all rfl) (.tmp 24) (.tmp 28) (by with_unfolding_all rfl) (by with_unfolding_all rfl) A n c (l.map Value.string) (by with_unfolding_all rfl) hRq (by with_unfolding_all (rw [List.length_map]; exact hn.out)) (strs_one l) (by with_unfolding_all omega) ?_)
      intro v1 w1 hown1 hb1
      obtain ⟨A1, c1', rfl⟩ := own_shape hown1
      have hB1 := hB.next hb1 hB.lt
      have ho1 := ho.trans (Only.of_below hb1)
      have hlt1 := hown1.lt
      have hs1 := hb1.size
      obtain ⟨b0, hb0⟩ : ∃ b0, Hid (wq.heap.size = b0) := ⟨_, rfl⟩
      have hgb : gr < b0 := by have := hb0.out; omega
      have hwb : w.heap.size ≤ b0 := by rw [← hb0.out]; exact hszq
      rw [hb0.out] at hown1 hlt1 hs1
      have hnx : Hid (l.map Value.string ++ [Value.string r] = (l ++ [r]).map Value.string) := by
        have : l.map Value.string ++ [Value.string r] = (l ++ [r]).map Value.string := by simp
        exact this
      obtain ⟨XS, hXS⟩ : ∃ XS, Hid (l.map Value.string = XS) := ⟨_, rfl⟩
      rw [hXS.out] at hown1 hnx
      have hHR := Lib.hid (HH.out.r)
      clear hB hRq hb1 ho c0 c1 hgl
      go_wp2_with (first | (at_builtin; refine wpList_append_own _ rfl _ _ 43 rfl b0 9 i0 _ 1 16 Try.underlying43 hi hz0 hz1 hz2 rfl (by decide) _ _ _ rfl (hown1.alloc _) ⟨w1.heap.size, 0, none⟩ 1 1 [.string r] rfl (by with_unfolding_all rfl) (fun j u hu => one_cellV hu) (one_cell1 rfl) (by unfold maxLen; omega) (by omega) (by with_unfolding_all (simp; omega)) ?_))
      intro v3 w3 hown3 hgrow3 _
      have hbz : Below b0 w1 w3 := ((Below.refl b0 w1).alloc hs1 (.cells #[.string r] 9)).grown hgrow3 (by simp; omega) (fun j hj => (hlt1 j hj).1)
      have hB3 : Blk w3 gr 79 [.int .i64 (sz : Int), .slice A n c] := hB1.next hbz hgb
      have ho3 := only_below ho1 hbz hwb
      rw [hnx.out] at hown3
      obtain ⟨A3, c3, rfl⟩ := own_shape hown3
      have hl3 := own_new hown3
      clear hown1 hlt1 hgrow3 hB1 ho1 hbz hown3
      go_wp2_with (with_reducible refine wpList_put (o := ⟨none, .store 43 (.tmp 36) (.tmp 34), _, _, _, _⟩) (by with_unfolding_all rfl) 43 (.tmp 36) (.tmp 34) (by with_unfolding_all rfl) gr 1 (by with_unfolding_all rfl) (.slice A3 (n + 1) c3) (by with_unfolding_all rfl) hB3 [(.slice A3 (n + 1) c3)] (by with_unfolding_all rfl) (by with_unfolding_all exact Try.szSs) (by with_unfolding_all simp) (by with_unfolding_all exact one_cell1 rfl) ?_)
      intro w4 hu4 hB4
      have hB4' : Blk w4 gr 79 [.int .i64 (sz : Int), .slice A3 (n + 1) c3] := hB4
      have ho4 := ho3.trans (Only.of_upd (L := [gr]) hu4 (by simp))
      have hne : ∀ g, A3 = some ⟨g, 0, none⟩ → g ≠ gr := fun g hg => by have := hl3.2 g hg; omega
      have hR4 := hl3.1.only (Only.of_upd (L := [gr]) hu4 (by simp)) (fun g hg => by simpa using hne g hg)
      have hJ4 : JRef w4 gr A3 c3 sz (l ++ [r]) := ⟨by rw [List.length_append, hn.out]; exact hB4', hR4, hne⟩
      have c1 := hB4'.cell (k := 1) rfl
      clear hB3 hB4 hu4 ho3 hR4 hB4'
      go_wp2
      go_ret2
      exact ⟨rfl, A3, c3, hJ4, ho4, fun g hg => Or.inr (Nat.le_trans hwb (hl3.2 g hg))⟩
/-- The first record that is too long, if there is one. -/
def longAt (l : List ByteArray) (j : Nat) : Prop := ∀ m r, m < j → l[m]? = some r → r.size ≤ 8000
theorem any_false {l : List ByteArray} (h : longAt l l.length) : l.any (fun r => decide (8000 < r.size)) = false := by
  rw [List.any_eq_false]
  intro r hr
  obtain ⟨m, hm, e⟩ := List.mem_iff_getElem.1 hr
  have := h m r hm (by rw [← e]; exact List.getElem?_eq_getElem hm)
  simp; omega
theorem any_true {l : List ByteArray} {j : Nat} {r : ByteArray} (h : l[j]? = some r) (h2 : 8000 < r.size) : l.any (fun r => decide (8000 < r.size)) = true := by
  rw [List.any_eq_true]
  exact ⟨r, List.mem_of_getElem? h, decide_eq_true h2⟩
theorem longAt_next {l : List ByteArray} {j : Nat} {r : ByteArray} (h : longAt l j) (hj : l[j]? = some r) (hr : r.size ≤ 8000) : longAt l (j + 1) := fun m x hm hx => by
  by_cases e : m = j
  · subst e
    rw [hj] at hx
    injection hx with hx
    rw [← hx]; exact hr
  · exact h m x (by omega) hx
set_option maxRecDepth 100000 in
set_option maxHeartbeats 1600000 in
theorem rreplace_any (gr : Nat) (A B : Option Addr) (c cB sz : Nat) (o l : List ByteArray) (w : World) (hu : JM.useR l ≤ 200000) (_hsz : sz ≤ 100000) (h : JRef w gr A c sz o) (hB : RowAt w B (l.map Value.string)) (hBn : ∀ g, B = some ⟨g, 0, none⟩ → g ≠ gr) :
    Calls Try.prog 77 #[.pointer (some ⟨gr, 0, none⟩), .slice B l.length cB] w fun e w' => e = .returned (.int .i64 (JM.repE sz l)) ∧ ∃ A' c', JRef w' gr A' c' sz (JM.repL sz o l) ∧ Only [gr] w w' ∧ (∀ g, A' = some ⟨g, 0, none⟩ → A' = A ∨ w.heap.size ≤ g) := by
  obtain ⟨n, hn⟩ : ∃ n, Hid (l.length = n) := ⟨_, rfl⟩
  obtain ⟨U, hU⟩ : ∃ U, Hid (JM.useR l = U) := ⟨_, rfl⟩
  have hn6 : n ≤ 200000 := by have := JM.useR_count l; rw [hn.out] at this; omega
  have HH := Lib.hid h
  have HB := Lib.hid hB.map
  have HBR := Lib.hid hB
  have hBlk := h.d
  have c0 := hBlk.cell (k := 0) rfl
  have hgl := hBlk.lt
  rw [hU.out] at hu
  rw [hn.out]
  clear h hB hBlk
  go_enter Try.func77, Try.ntmps77
  go_wp2
  go_loopw [5] (fun i wr => ∃ j : Nat, j ≤ n ∧ i = .int .i64 j ∧ longAt l j ∧ w = wr) (fun i _ => n - natOf i)
  case atStart => exact ⟨0, Nat.zero_le _, rfl, fun m r hm => absurd hm (Nat.not_lt_zero _), rfl⟩
  case round =>
    obtain ⟨j, hj, rfl, hla, rfl⟩ := hrel
    by_cases hjn : j < n
    · have hji : (j : Int) < (n : Int) := by omega
      obtain ⟨r, hr⟩ : ∃ r, l[j]? = some r := ⟨_, List.getElem?_eq_getElem (by rw [hn.out]; exact hjn)⟩
      obtain ⟨g, rfl, hc⟩ := HB.out j r hr
      have HLA := Lib.hid hla
      have HR := Lib.hid hr
      clear hr hla hj
      by_cases hlong : 8000 < r.size
      · have hli : (8000 : Int) < (r.size : Int) := by omega
        obtain ⟨e1, e2⟩ := JM.rep_long (sz := sz) (o := o) (any_true HR.out hlong)
        have E1 := Lib.hid e1
        have E2 := Lib.hid e2
        clear e1 e2
        go_wp2
        go_ret
        exact ⟨by rw [E1.out]; rfl, A, c, by rw [E2.out]; exact HH.out, Only.refl _ _, fun g hg => Or.inl rfl⟩
      · have hli : (r.size : Int) ≤ 8000 := by omega
        go_wp2
        go_roundw
        case rel => exact ⟨j + 1, by omega, by go_num, longAt_next HLA.out HR.out (by omega), by first | exact rfl | exact trivial⟩
        case measure => simp [natOf]; omega
    · obtain rfl : j = n := by omega
      have hany : l.any (fun r => decide (8000 < r.size)) = false := any_false (by rw [hn.out]; exact hla)
      have HANY := Lib.hid hany
      clear hla hany hj hjn
      by_cases hfull : sz < U
      · obtain ⟨e1, e2⟩ := JM.rep_full (sz := sz) (o := o) HANY.out (by rw [hU.out]; exact hfull)
        have E1 := Lib.hid e1
        have E2 := Lib.hid e2
        have hfi : (sz : Int) < (U : Int) := by omega
        clear e1 e2 hfull
        go_wp2
        go_quiet ((go_at_call 45; exact Calls.quiet_of_same (rused_q B cB j l _ hn.out U hU.out (by omega) (HBR.out.drewN _))))
        have hdn : Below w.heap.size w (w.drewN nq) := below_drewN (Below.refl _ _) nq
        have hJ := HH.out.next hdn
        have ho := Only.of_below (L := [gr]) hdn
        generalize w.drewN nq = wq at hJ ho ⊢
        go_wp2
        go_ret
        exact ⟨by rw [E1.out]; rfl, A, c, by rw [E2.out]; exact hJ, ho, fun g hg => Or.inl rfl⟩
      · obtain ⟨e1, e2⟩ := JM.rep_good (sz := sz) (o := o) HANY.out (by rw [hU.out]; exact hfull)
        have E1 := Lib.hid e1
        have E2 := Lib.hid e2
        have hfi : (U : Int) ≤ (sz : Int) := by omega
        clear e1 e2 hfull
        go_wp2
        go_quiet ((go_at_call 45; exact Calls.quiet_of_same (rused_q B cB j l _ hn.out U hU.out (by omega) (HBR.out.drewN _))))
        have hdn : Below w.heap.size w (w.drewN nq) := below_drewN (Below.refl _ _) nq
        have hJ := HH.out.next hdn
        have ho := Only.of_below (L := [gr]) hdn
        have hBq := hJ.d
        have hRq : RowAt (w.drewN nq) B (l.map Value.string) := HBR.out
        have hszq : w.heap.size ≤ (w.drewN nq).heap.size := hdn.size
        generalize w.drewN nq = wq at hJ ho hBq hRq hszq ⊢
        clear hJ hdn c0
        go_wp2_with (with_reducible refine wpList_appS (o := ⟨some 29, .call ⟨.builtin .append, #[.tmp 27, .tmp 28], #[43, 43]⟩, _, _, _, _⟩) (by with_unfolding_all rfl) (.tmp 27) (.tmp 28) (by with_unfolding_all rfl) (by with_unfolding_all rfl) B j cB (l.map Value.string) (by with_unfolding_all rfl) hRq (by with_unfolding_all (rw [List.length_map]; exact hn.out)) (strs_one l) (by with_unfolding_all omega) ?_)
        intro v1 w1 hown1 hb1
        obtain ⟨A1, c1', rfl⟩ := own_shape hown1
        have hl1 := own_new hown1
        have hB1 := hBq.next hb1 hBq.lt
        have ho1 := ho.trans (Only.of_below hb1)
        clear hown1 hBq ho hRq
        go_wp2_with (with_reducible refine wpList_put (o := ⟨none, .store 43 (.tmp 31) (.tmp 29), _, _, _, _⟩) (by with_unfolding_all rfl) 43 (.tmp 31) (.tmp 29) (by with_unfolding_all rfl) gr 1 (by with_unfolding_all rfl) (.slice A1 j c1') (by with_unfolding_all rfl) hB1 [(.slice A1 j c1')] (by with_unfolding_all rfl) (by with_unfolding_all exact Try.szSs) (by with_unfolding_all simp) (by with_unfolding_all exact one_cell1 rfl) ?_)
        intro w4 hu4 hB4
        have hB4' : Blk w4 gr 79 [.int .i64 (sz : Int), .slice A1 j c1'] := hB4
        have ho4 := ho1.trans (Only.of_upd (L := [gr]) hu4 (by simp))
        have hne : ∀ g, A1 = some ⟨g, 0, none⟩ → g ≠ gr := fun g hg => by have := hl1.2 g hg; omega
        have hR4 := hl1.1.only (Only.of_upd (L := [gr]) hu4 (by simp)) (fun g hg => by simpa using hne g hg)
        have hJ4 : JRef w4 gr A1 c1' sz l := ⟨by rw [hn.out]; exact hB4', hR4, hne⟩
        clear hB1 hB4 hu4 ho1 hR4 hB4'
        go_wp2
        go_ret
        exact ⟨by rw [E1.out]; rfl, A1, c1', by rw [E2.out]; exact hJ4, ho4, fun g hg => Or.inr (Nat.le_trans hszq (hl1.2 g hg))⟩
end Go.Proofs.Ythgmlopkcgkjlaa

/-
  Contracts of the walks over the reference's Do and Few. Conditions: the rows lie there; few bytes.
-/
namespace Go.Proofs.Ythgmlopkcgkjlaa
open Go.RowKit

theorem useR_rep (n : Nat) (r : ByteArray) : JM.useR (List.replicate n r) = n * (2 + r.size) := by
  induction n with
  | zero => simp [JM.useR]
  | succ n ih =>
    rw [List.replicate_succ]
    show 2 + r.size + JM.useR (List.replicate n r) = _
    rw [ih, Nat.succ_mul]; omega
theorem text_size (x : OpJ) : x.text.size = x.n.toNat := by unfold OpJ.text; rw [str_size, List.length_replicate]
theorem texts_use {x : OpJ} (hn : x.n ≤ 8200) (hk : x.k ≤ 20) : JM.useR x.texts ≤ 200000 := by
  unfold OpJ.texts
  rw [useR_rep, text_size]
  have h1 : x.k.toNat ≤ 20 := by omega
  have h2 : 2 + x.n.toNat ≤ 8202 := by omega
  have := Nat.mul_le_mul h1 h2
  omega
namespace JM
def doN (sz : Nat) (l : List ByteArray) (x : OpJ) : Nat := if x.kind = 1 then appN sz l x.text else 0
def doE (sz : Nat) (l : List ByteArray) (x : OpJ) : Int := if x.kind = 1 then appE sz l x.text else if x.kind = 2 then repE sz x.texts else 0
def doL (sz : Nat) (l : List ByteArray) (x : OpJ) : List ByteArray := if x.kind = 1 then appL sz l x.text else if x.kind = 2 then repL sz l x.texts else l
end JM
set_option maxRecDepth 100000 in
set_option maxHeartbeats 1600000 in
theorem jdo_any (gr : Nat) (A : Option Addr) (c sz : Nat) (l : List ByteArray) (kind n k : Int) (fill : UInt8) (w : World) (hn : n ≤ 8200) (hk : k ≤ 20) (hu : JM.useR l ≤ 100000) (hsz : sz ≤ 100000) (h : JRef w gr A c sz l) :
    Calls Try.prog 40 #[.pointer (some ⟨gr, 0, none⟩), .agg #[.int .i64 kind, .int .i64 n, .int .i64 k, .int .u8 (fill.toNat : Int)]] w fun e w' => e = .returned (.tuple #[.int .i64 (JM.doN sz l ⟨kind, n, k, fill⟩ : Nat), .int .i64 (JM.doE sz l ⟨kind, n, k, fill⟩)]) ∧ ∃ A' c', JRef w' gr A' c' sz (JM.doL sz l ⟨kind, n, k, fill⟩) ∧ Only [gr] w w' ∧ (∀ g, A' = some ⟨g, 0, none⟩ → A' = A ∨ w.heap.size ≤ g) := by
  have HH := Lib.hid h
  have hgl := h.d.lt
  have hun := Try.underlying75
  clear h
  by_cases hk1 : kind = 1
  · have e1 : JM.doN sz l ⟨kind, n, k, fill⟩ = JM.appN sz l (⟨kind, n, k, fill⟩ : OpJ).text := by unfold JM.doN; rw [if_pos hk1]
    have e2 : JM.doE sz l ⟨kind, n, k, fill⟩ = JM.appE sz l (⟨kind, n, k, fill⟩ : OpJ).text := by unfold JM.doE; rw [if_pos hk1]
    have e3 : JM.doL sz l ⟨kind, n, k, fill⟩ = JM.appL sz l (⟨kind, n, k, fill⟩ : OpJ).text := by unfold JM.doL; rw [if_pos hk1]
    have hts := text_size ⟨kind, n, k, fill⟩
    obtain ⟨sT, hsT⟩ : ∃ sT, Hid ((⟨kind, n, k, fill⟩ : OpJ).text = sT) := ⟨_, rfl⟩
    rw [e1, e2, e3, hsT.out]
    rw [hsT.out] at hts
    have hst8 : sT.size ≤ 8200 := by have h2 : sT.size = n.toNat := hts; omega
    clear e1 e2 e3 hts
    subst hk1
    go_enter Try.func40, Try.ntmps40
    go_wp2_with (with_reducible refine wpList_box (o := ⟨some 3, .box 75 (.tmp 1), _, _, _, _⟩) ?g2 75 (.tmp 1) ?o2 (.agg #[.int .i64 1, .int .i64 n, .int .i64 k, .int .u8 (fill.toNat : Int)]) [.int .i64 1, .int .i64 n, .int .i64 k, .int .u8 (fill.toNat : Int)] ?x2 ?c2 ?_)
    try (case g2 => rfl)
    try (case o2 => rfl)
    try (case x2 => rfl)
    try (case c2 => rfl)
    intro gb w1 hgb hs1 hb1 hB1
    have hbel : Below w.heap.size w w1 := hb1.mono (Nat.le_of_eq hgb.out.symm)
    have hB1' : Blk w1 gb 75 [.int .i64 1, .int .i64 n, .int .i64 k, .int .u8 (fill.toNat : Int)] := hB1
    have k0 := hB1'.cell (k := 0) rfl
    have hJ1 := HH.out.next hbel
    clear hb1 hB1 hgb hs1
    go_wp2_with (first | (with_reducible refine wpList_get (o := ⟨some 11, .load 75 (.tmp 3), _, _, _, _⟩) (by with_unfolding_all rfl) 75 (.tmp 3) (by with_unfolding_all rfl) gb 0 (by with_unfolding_all rfl) hB1' [.int .i64 1, .int .i64 n, .int .i64 k, .int .u8 (fill.toNat : Int)] (cs_all _) _ (by with_unfolding_all exact hun) (by with_unfolding_all rfl) (by with_unfolding_all exact Try.sizeJ) ?_) | fail)
    (with_reducible refine (text_any 1 n k fill sT _ hn hsT.out).mono ?_)
    rintro e w2 ⟨rfl, hb2⟩
    have hJ2 := hJ1.next hb2
    have hbel2 := below_join hbel hb2
    clear hJ1 hb2 k0 hB1'
    go_wp2_with fail
    (with_reducible refine (rappend_any gr A c sz l sT _ hst8 hu hsz hJ2).mono ?_)
    rintro e w3 ⟨rfl, A', c', hJ3, ho3, hn3⟩
    have ho := (Only.of_below (L := [gr]) hbel2).trans ho3
    have hsz2 := hbel2.size
    clear hJ2 ho3
    go_wp2
    go_ret2
    exact ⟨rfl, A', c', hJ3, ho, fun g hg => (hn3 g hg).imp id (fun h => Nat.le_trans hsz2 h)⟩
  · by_cases hk2 : kind = 2
    · have e1 : JM.doN sz l ⟨kind, n, k, fill⟩ = 0 := by unfold JM.doN; rw [if_neg hk1]
      have e2 : JM.doE sz l ⟨kind, n, k, fill⟩ = JM.repE sz (⟨kind, n, k, fill⟩ : OpJ).texts := by unfold JM.doE; rw [if_neg hk1, if_pos hk2]
      have e3 : JM.doL sz l ⟨kind, n, k, fill⟩ = JM.repL sz l (⟨kind, n, k, fill⟩ : OpJ).texts := by unfold JM.doL; rw [if_neg hk1, if_pos hk2]
      have htu := texts_use (x := ⟨kind, n, k, fill⟩) hn hk
      rw [e1, e2, e3]
      clear e1 e2 e3 hk1
      subst hk2
      obtain ⟨T, hT⟩ : ∃ T, Hid ((⟨2, n, k, fill⟩ : OpJ).texts = T) := ⟨_, rfl⟩
      rw [hT.out] at htu ⊢
      go_enter Try.func40, Try.ntmps40
      go_wp2_with (with_reducible refine wpList_box (o := ⟨some 3, .box 75 (.tmp 1), _, _, _, _⟩) ?g2 75 (.tmp 1) ?o2 (.agg #[.int .i64 2, .int .i64 n, .int .i64 k, .int .u8 (fill.toNat : Int)]) [.int .i64 2, .int .i64 n, .int .i64 k, .int .u8 (fill.toNat : Int)] ?x2 ?c2 ?_)
      try (case g2 => rfl)
      try (case o2 => rfl)
      try (case x2 => rfl)
      try (case c2 => rfl)
      intro gb w1 hgb hs1 hb1 hB1
      have hbel : Below w.heap.size w w1 := hb1.mono (Nat.le_of_eq hgb.out.symm)
      have hB1' : Blk w1 gb 75 [.int .i64 2, .int .i64 n, .int .i64 k, .int .u8 (fill.toNat : Int)] := hB1
      have k0 := hB1'.cell (k := 0) rfl
      have hJ1 := HH.out.next hbel
      clear hb1 hB1 hgb hs1
      go_wp2_with (first | (with_reducible refine wpList_get (o := ⟨some 19, .load 75 (.tmp 3), _, _, _, _⟩) (by with_unfolding_all rfl) 75 (.tmp 3) (by with_unfolding_all rfl) gb 0 (by with_unfolding_all rfl) hB1' [.int .i64 2, .int .i64 n, .int .i64 k, .int .u8 (fill.toNat : Int)] (cs_all _) _ (by with_unfolding_all exact hun) (by with_unfolding_all rfl) (by with_unfolding_all exact Try.sizeJ) ?_) | fail)
      (with_reducible refine (texts_any 2 n k fill _ hn hk).mono ?_)
      rintro e w2 ⟨v, rfl, hown2, hb2⟩
      rw [hT.out] at hown2
      obtain ⟨A2, c2, rfl⟩ := own_shape hown2
      have hl2 := own_new hown2
      have hJ2 := hJ1.next hb2
      have hbel2 := below_join hbel hb2
      have hgl1 := hJ1.d.lt
      have hne2 : ∀ g, A2 = some ⟨g, 0, none⟩ → g ≠ gr := fun g hg => by have := hl2.2 g hg; omega
      clear hJ1 hb2 k0 hB1' hown2
      go_wp2_with fail
      (with_reducible refine (rreplace_any gr A A2 c c2 sz l T _ htu hsz hJ2 hl2.1 hne2).mono ?_)
      rintro e w3 ⟨rfl, A', c', hJ3, ho3, hn3⟩
      have ho := (Only.of_below (L := [gr]) hbel2).trans ho3
      have hsz2 := hbel2.size
      clear hJ2 ho3
      go_wp2
      go_ret2
      exact ⟨rfl, A', c', hJ3, ho, fun g hg => (hn3 g hg).imp id (fun h => Nat.le_trans hsz2 h)⟩
    · have e1 : JM.doN sz l ⟨kind, n, k, fill⟩ = 0 := by unfold JM.doN; rw [if_neg hk1]
      have e2 : JM.doE sz l ⟨kind, n, k, fill⟩ = 0 := by unfold JM.doE; rw [if_neg hk1, if_neg hk2]
      have e3 : JM.doL sz l ⟨kind, n, k, fill⟩ = l := by unfold JM.doL; rw [if_neg hk1, if_neg hk2]
      have hn1 : (kind == 1) = false := beq_eq_false_iff_ne.2 hk1
      have hn2 : (kind == 2) = false := beq_eq_false_iff_ne.2 hk2
      rw [e1, e2, e3]
      clear e1 e2 e3 hk1 hk2
      go_enter Try.func40, Try.ntmps40
      go_wp2_with (with_reducible refine wpList_box (o := ⟨some 3, .box 75 (.tmp 1), _, _, _, _⟩) ?g2 75 (.tmp 1) ?o2 (.agg #[.int .i64 kind, .int .i64 n, .int .i64 k, .int .u8 (fill.toNat : Int)]) [.int .i64 kind, .int .i64 n, .int .i64 k, .int .u8 (fill.toNat : Int)] ?x2 ?c2 ?_)
      try (case g2 => rfl)
      try (case o2 => rfl)
      try (case x2 => rfl)
      try (case c2 => rfl)
      intro gb w1 hgb hs1 hb1 hB1
      have hbel : Below w.heap.size w w1 := hb1.mono (Nat.le_of_eq hgb.out.symm)
      have k0 := hB1.cell (k := 0) rfl
      have hJ1 := HH.out.next hbel
      clear hb1 hB1 hgb hs1
      go_wp2
      go_ret2
      exact ⟨rfl, A, c, hJ1, Only.of_below hbel, fun g hg => Or.inl rfl⟩
/-- The four cells of a call. -/
def opJ (x : OpJ) : List Value := [.int .i64 x.kind, .int .i64 x.n, .int .i64 x.k, .int .u8 (x.fill.toNat : Int)]
def ScriptJ (n0 : Nat) (w : World) (A : Option Addr) (xs : List OpJ) : Prop :=
  ∀ (j : Nat) (x : OpJ), xs[j]? = some x → ∃ (p : Addr), A = some p ∧ ∀ w', Below n0 w w' → ∀ (q : Nat) (u : Value), (opJ x)[q]? = some u → w'.cell? ((p.add (j * 4)).add q) = some u
theorem ScriptJ.next {n0 : Nat} {w w1 : World} {A : Option Addr} {xs : List OpJ} (h : ScriptJ n0 w A xs) (hb : Below n0 w w1) : ScriptJ n0 w1 A xs := fun j x hx => by
  obtain ⟨p, e, hc⟩ := h j x hx
  exact ⟨p, e, fun w' hw => hc w' (hb.trans hw)⟩
theorem ScriptJ.up {n0 : Nat} {w : World} {A : Option Addr} {xs : List OpJ} (h : ScriptJ n0 w A xs) (hs : n0 ≤ w.heap.size) : ScriptJ w.heap.size w A xs := fun j x hx => by
  obtain ⟨p, e, hc⟩ := h j x hx
  exact ⟨p, e, fun w' hw => hc w' (hw.mono hs)⟩
structure OpJ.few (x : OpJ) : Prop where
  n : x.n ≤ 8200
  k : x.k ≤ 20
def FewRes (xs : List OpJ) (e : Ending) : Prop := ∃ b, e = .returned (.bool b) ∧ (b = true → xs.length ≤ 10 ∧ ∀ x ∈ xs, x.few)
theorem few_no (xs : List OpJ) : FewRes xs (.returned (.bool false)) := ⟨false, rfl, fun h => by cases h⟩
theorem few_yes (xs : List OpJ) (h1 : xs.length ≤ 10) (h2 : ∀ x ∈ xs, x.few) : FewRes xs (.returned (.bool true)) := ⟨true, rfl, fun _ => ⟨h1, h2⟩⟩
set_option maxRecDepth 100000 in
set_option maxHeartbeats 1600000 in
theorem jfew_any (A : Option Addr) (c : Nat) (xs : List OpJ) (w : World) (hl : xs.length ≤ 140737488355328) (hS : ScriptJ w.heap.size w A xs) :
    Calls Try.prog 35 #[.slice A xs.length c] w fun e w' => FewRes xs e ∧ w' = w := by
  have HS := Lib.hid hS
  obtain ⟨n, hn⟩ : ∃ n, Hid (xs.length = n) := ⟨_, rfl⟩
  rw [hn.out] at hl ⊢
  clear hS
  by_cases h10 : n ≤ 10
  · have h10i : (n : Int) ≤ 10 := by omega
    go_enter Try.func35, Try.ntmps35
    go_wp2
    go_loopw [3] (fun i wr => ∃ j : Nat, j ≤ n ∧ i = .int .i64 j ∧ (∀ m x, m < j → xs[m]? = some x → x.few) ∧ w = wr) (fun i _ => n - natOf i)
    case atStart => exact ⟨0, Nat.zero_le _, rfl, fun m x hm => absurd hm (Nat.not_lt_zero m), rfl⟩
    case round =>
      obtain ⟨j, hj, rfl, hdone, rfl⟩ := hrel
      by_cases hjn : j < n
      · have hji : (j : Int) < (n : Int) := by omega
        obtain ⟨x, hx⟩ : ∃ x, xs[j]? = some x := ⟨_, List.getElem?_eq_getElem (by rw [hn.out]; exact hjn)⟩
        obtain ⟨p, rfl, hcw⟩ := HS.out j x hx
        have hc := hcw w (Below.refl _ _)
        have HX := Lib.hid hx
        have HD := Lib.hid hdone
        obtain ⟨kind, xn, xk, fill⟩ := x
        have c1 : w.cell? ⟨(p.add (j * 4)).block, (p.add (j * 4)).off + 1, none⟩ = some (.int .i64 xn) := hc 1 (.int .i64 xn) rfl
        have c2 : w.cell? ⟨(p.add (j * 4)).block, (p.add (j * 4)).off + 2, none⟩ = some (.int .i64 xk) := hc 2 (.int .i64 xk) rfl
        clear hx hdone hj hcw hc
        by_cases hxn : xn ≤ 8200
        · by_cases hxk : xk ≤ 20
          · by_cases hboth : 600 < xn
            · by_cases hb2 : 1 < xk
              · go_wp2
                go_ret
                exact ⟨few_no xs, rfl⟩
              · have hb2' : xk ≤ 1 := by omega
                go_wp2
                go_roundw
                case rel =>
                  refine ⟨j + 1, by omega, by go_num, fun m y hm hy => ?_, by first | exact rfl | exact trivial⟩
                  by_cases hmj : m = j
                  · subst hmj
                    have e := HX.out
                    rw [hy] at e
                    injection e with e
                    rw [e]
                    exact ⟨hxn, hxk⟩
                  · exact HD.out m y (by omega) hy
                case measure => simp [natOf]; omega
            · have hboth' : xn ≤ 600 := by omega
              go_wp2
              go_roundw
              case rel =>
                refine ⟨j + 1, by omega, by go_num, fun m y hm hy => ?_, by first | exact rfl | exact trivial⟩
                by_cases hmj : m = j
                · subst hmj
                  have e := HX.out
                  rw [hy] at e
                  injection e with e
                  rw [e]
                  exact ⟨hxn, hxk⟩
                · exact HD.out m y (by omega) hy
              case measure => simp [natOf]; omega
          · have hxk' : 20 < xk := by omega
            go_wp2
            go_ret
            exact ⟨few_no xs, rfl⟩
        · have hxn' : 8200 < xn := by omega
          go_wp2
          go_ret
          exact ⟨few_no xs, rfl⟩
      · obtain rfl : j = n := by omega
        have HD := Lib.hid hdone
        clear hdone hj hjn
        go_wp2
        go_ret
        refine ⟨few_yes xs (by rw [hn.out]; exact h10) (fun x hx => ?_), rfl⟩
        obtain ⟨m, hm, e⟩ := List.mem_iff_getElem.1 hx
        exact HD.out m x (by rw [← hn.out]; exact hm) (by rw [← e]; exact List.getElem?_eq_getElem hm)
  · have h10i : (10 : Int) < (n : Int) := by omega
    go_enter Try.func35, Try.ntmps35
    go_wp2
    go_ret
    exact ⟨few_no xs, rfl⟩
end Go.Proofs.Ythgmlopkcgkjlaa

/-
  The arguments of layer 5's statements, read: a byte, a small number, a script of calls. Conditions: the row's own.
-/
namespace Go.Proofs.Ythgmlopkcgkjlaa
open Go.ChangeShapes Go.WideShapes Go.ChangeAt Go.RowKit
open Go.Deep (choose_lt)

theorem byte_of {a : Int} (h : (Lit.int .u8 a).wf = true) : ∃ b : UInt8, a = (b.toNat : Int) := by
  have h1 : IntKind.u8.min = 0 := rfl
  have h2 : IntKind.u8.max = 255 := rfl
  simp only [Lit.wf, Bool.and_eq_true, decide_eq_true_eq] at h
  refine ⟨UInt8.ofNat a.toNat, ?_⟩
  rw [UInt8.toNat_ofNat']
  omega
theorem half_of {a : Int} (h : (Lit.int .u16 a).wf = true) : ∃ m : Nat, m < 65536 ∧ a = (m : Int) := by
  have h1 : IntKind.u16.min = 0 := rfl
  have h2 : IntKind.u16.max = 65535 := rfl
  simp only [Lit.wf, Bool.and_eq_true, decide_eq_true_eq] at h
  exact ⟨a.toNat, by omega, by omega⟩
instance : Inhabited OpJ := ⟨⟨0, 0, 0, 0⟩⟩
section
variable {H : Type} {enc : TypeId × Value → H} {W : World} {a : Option Addr} {len cap : Nat} {d : DataW H} {p : List MemPlace}
/-- A call, read in its four cells. -/
theorem op_of {base n' : Nat} {cs' : List Value} {y : DataW H × List MemPlace} (h2 : DataW.trod enc Try.prog W base (fun _ => true) true n' 75 cs' = some y) (hl4 : cs'.length = 4) : ∃ x : OpJ, cs' = opJ x := by
  obtain ⟨ys, n2, hn', hy, hlen, hyl, hfld⟩ := DataW.trod_struct Try.underlying75 h2
  have hys : ys.length = 4 := hyl
  have one : ∀ (j : Nat) (t : TypeId) (k : Nat), k = 1 → j < 4 → DataW.trod enc Try.prog W base (fun _ => true) true n2 t ((cs'.drop j).take k) = ys[j]? → ∃ v y, cs'[j]? = some v ∧ DataW.trod enc Try.prog W base (fun _ => true) true n2 t [v] = some y := fun j t k hk hj h => by
    subst hk
    have hv : cs'[j]? = some (cs'[j]'(by omega)) := List.getElem?_eq_getElem (by omega)
    refine ⟨_, ys[j]'(by omega), hv, ?_⟩
    rw [← List.getElem?_eq_getElem, ← h, List.drop_eq_getElem_cons (by omega)]
    rfl
  obtain ⟨v0, y0, g0, t0⟩ := one 0 3 _ (by kernel_rfl) (by omega) (hfld 0 _ rfl)
  obtain ⟨v1, y1, g1, t1⟩ := one 1 3 _ (by kernel_rfl) (by omega) (hfld 1 _ rfl)
  obtain ⟨v2, y2, g2, t2⟩ := one 2 3 _ (by kernel_rfl) (by omega) (hfld 2 _ rfl)
  obtain ⟨v3, y3, g3, t3⟩ := one 3 5 _ (by kernel_rfl) (by omega) (hfld 3 _ rfl)
  obtain ⟨z0, e0, _, _⟩ := DataW.trod_int Try.underlying3 t0
  obtain ⟨z1, e1, _, _⟩ := DataW.trod_int Try.underlying3 t1
  obtain ⟨z2, e2, _, _⟩ := DataW.trod_int Try.underlying3 t2
  obtain ⟨z3, e3, _, w3⟩ := DataW.trod_int Try.underlying5 t3
  injection e0 with e0 _
  injection e1 with e1 _
  injection e2 with e2 _
  injection e3 with e3 _
  obtain ⟨b, rfl⟩ := byte_of w3
  subst e0 e1 e2 e3
  refine ⟨⟨z0, z1, z2, b⟩, ?_⟩
  apply List.ext_getElem?
  intro i
  match i with
  | 0 => exact g0
  | 1 => exact g1
  | 2 => exact g2
  | 3 => exact g3
  | i + 4 => rw [List.getElem?_eq_none (by omega), List.getElem?_eq_none (by show 4 ≤ i + 4; omega)]
/-- A script that came in. -/
theorem open_opsJ (h : DataW.Trod enc Try.prog W 0 (fun _ => true) true 64 (.slice a len cap) d p) : ∃ xs : List OpJ, len = xs.length ∧ ScriptJ W.heap.size W a xs ∧ LenOf d len := by
  obtain ⟨fuel, hf⟩ := h
  have hf2 : DataW.trod enc Try.prog W 0 (fun _ => true) true fuel 64 [.slice a len cap] = some (d, p) := hf
  rcases Go.Deep.open_slice Try.underlying64 hf2 with ⟨hcs, hx⟩ | ⟨x, n, c, m, fl, D, Pl, hcs, _, hl, hm, hmm, hx, hel⟩
  · injection hcs with hcs _
    injection hcs with e1 e2 e3
    subst e1 e2 e3
    exact ⟨[], rfl, (fun j y hy => by cases hy), .inl rfl⟩
  · injection hcs with hcs _
    injection hcs with e1 e2 e3
    subst e1 e2 e3
    have hmc : m = cap := by simpa using hmm
    have c4 : Try.prog.cellsOf 75 = 4 := by kernel_rfl
    have each : ∀ i, i < m → ∃ y : OpJ, ∀ (q : Nat) (u : Value), (opJ y)[q]? = some u → W.cell? ((x.add (i * 4)).add q) = some u := fun i hi => by
      obtain ⟨cs', h1, h2⟩ := hel i hi
      rw [c4] at h1
      obtain ⟨hl4, hcl, hat⟩ := World.cells?_some h1
      obtain ⟨y, rfl⟩ := op_of h2 hcl
      exact ⟨y, fun q u hu => by rw [hat q (by have := (List.getElem?_eq_some_iff.1 hu).1; exact this)]; exact hu⟩
    obtain ⟨f, hfx⟩ := choose_lt each
    refine ⟨(List.range len).map f, by simp, fun j y hy => ?_, ?_⟩
    · rw [List.getElem?_map] at hy
      have hj : j < len := by
        rcases Nat.lt_or_ge j len with h | h
        · exact h
        · rw [List.getElem?_eq_none (by simp; omega)] at hy; cases hy
      rw [List.getElem?_range hj] at hy
      injection hy with hy
      have hc := hfx j (by omega)
      rw [hy] at hc
      refine ⟨x, rfl, fun w' hb q u hu => ?_⟩
      have h1 := hc q u hu
      exact (hb.cell (p := (x.add (j * 4)).add q) (World.block_lt_of_cell? W _ h1)).trans h1
    · simp only [Prod.mk.injEq] at hx
      exact .inr ⟨_, _, hx.1, by simp⟩
end
end Go.Proofs.Ythgmlopkcgkjlaa

/-
  The arguments of layer 5's statements, read: a call, three bytes, three rows of numbers. Conditions: the row's own.
-/
namespace Go.Proofs.Ythgmlopkcgkjlaa
open Go.ChangeShapes Go.WideShapes Go.ChangeAt Go.RowKit
open Go.Deep (choose_lt)

theorem okWide_arrJ {P : Program} {w : World} {r : Reach} {base : Nat} {t e : TypeId} {n : Nat} {v : Value} (ht : P.underlying t = some (.array n e)) (h : Value.okWide P w r base t v) : ∃ cs, v = .agg cs ∧ cs.size = P.cellsOf t := by
  simp only [Value.okWide, ht] at h
  obtain ⟨cs, h1, h2, _⟩ := h
  exact ⟨cs, h1, h2⟩
section
variable {H : Type} {enc : TypeId × Value → H} {W : World} {d : DataW H} {p : List MemPlace} {cs : Array Value}
theorem open_opA (hs : cs.size = Try.prog.cellsOf 75) (h : DataW.Trod enc Try.prog W 0 (fun _ => true) true 75 (.agg cs) d p) : ∃ x : OpJ, cs = (opJ x).toArray := by
  obtain ⟨fuel, hf⟩ := h
  have c4 : Try.prog.cellsOf 75 = 4 := by kernel_rfl
  have hf2 : DataW.trod enc Try.prog W 0 (fun _ => true) true fuel 75 cs.toList = some (d, p) := hf
  obtain ⟨x, hx⟩ := op_of hf2 (by rw [Array.length_toList, hs, c4])
  exact ⟨x, by rw [← hx]⟩
theorem cells3 {f : Nat → Value} (hl : cs.toList.length = 3) (h : ∀ i, i < 3 → cs.toList[i]? = some (f i)) : cs = #[f 0, f 1, f 2] := by
  apply Array.toList_inj.1
  apply List.ext_getElem?
  intro i
  match i with
  | 0 => exact h 0 (by omega)
  | 1 => exact h 1 (by omega)
  | 2 => exact h 2 (by omega)
  | i + 3 => rw [List.getElem?_eq_none (by omega), List.getElem?_eq_none (by show 3 ≤ i + 3; omega)]
theorem open_tri (hs : cs.size = Try.prog.cellsOf 93) (h : DataW.Trod enc Try.prog W 0 (fun _ => true) true 93 (.agg cs) d p) : ∃ a b c : UInt8, cs = #[.int .u8 (a.toNat : Int), .int .u8 (b.toNat : Int), .int .u8 (c.toNat : Int)] := by
  obtain ⟨fuel, hf⟩ := h
  have c3 : Try.prog.cellsOf 93 = 3 := by kernel_rfl
  have c1 : Try.prog.cellsOf 5 = 1 := by kernel_rfl
  obtain ⟨xs, m, e1, _, hl, hxl, hi⟩ := DataW.trod_array Try.underlying93 hf
  have hcl : cs.toList.length = 3 := by rw [Array.length_toList, hs, c3]
  have each : ∀ i, i < 3 → ∃ q : UInt8, cs.toList[i]? = some (.int .u8 (q.toNat : Int)) := fun i hiN => by
    have h1 := hi i hiN
    have e : (Value.agg cs).cells.toList = cs.toList := rfl
    rw [List.getElem?_eq_getElem (by omega), e, c1, Nat.mul_one] at h1
    obtain ⟨z, hz, _, hw⟩ := DataW.trod_int Try.underlying5 h1
    have h2 : cs.toList[i]? = some (.int .u8 z) := by
      have : ((cs.toList.drop i).take 1)[0]? = some (.int .u8 z) := by rw [hz]; rfl
      rw [List.getElem?_take_of_lt (by omega), List.getElem?_drop] at this
      exact this
    obtain ⟨b, hb⟩ := byte_of hw
    exact ⟨b, by rw [h2, hb]⟩
  obtain ⟨f, hf⟩ := choose_lt (α := UInt8) (n := 3) (p := fun i q => cs.toList[i]? = some (.int .u8 (q.toNat : Int))) each
  exact ⟨f 0, f 1, f 2, cells3 (f := fun i => .int .u8 ((f i).toNat : Int)) hcl hf⟩
theorem open_picks3 (hs : cs.size = Try.prog.cellsOf 94) (h : DataW.Trod enc Try.prog W 0 (fun _ => true) true 94 (.agg cs) d p) : ∃ (A0 A1 A2 : Option Addr) (c0 c1 c2 : Nat) (k0 k1 k2 : List Int), cs = #[.slice A0 k0.length c0, .slice A1 k1.length c1, .slice A2 k2.length c2] ∧ PkAt W A0 k0 ∧ PkAt W A1 k1 ∧ PkAt W A2 k2 := by
  obtain ⟨fuel, hf⟩ := h
  have c3 : Try.prog.cellsOf 94 = 3 := by kernel_rfl
  have c1 : Try.prog.cellsOf 32 = 1 := by kernel_rfl
  obtain ⟨xs, m, e1, _, hl, hxl, hi⟩ := DataW.trod_array Try.underlying94 hf
  have hcl : cs.toList.length = 3 := by rw [Array.length_toList, hs, c3]
  have each : ∀ i, i < 3 → ∃ q : Option Addr × Nat × List Int, cs.toList[i]? = some (.slice q.1 q.2.2.length q.2.1) ∧ PkAt W q.1 q.2.2 := fun i hiN => by
    have h1 := hi i hiN
    have e : (Value.agg cs).cells.toList = cs.toList := rfl
    have hd : (cs.toList.drop (i * 1)).take 1 = [cs.toList[i]'(by omega)] := by rw [Nat.mul_one, List.drop_eq_getElem_cons (by omega)]; rfl
    rw [List.getElem?_eq_getElem (by omega), e, c1, hd] at h1
    obtain ⟨A, l, c, hv, hp, _, _⟩ := ints_of h1
    exact ⟨(A, c, l), by rw [List.getElem?_eq_getElem (by omega), hv], hp⟩
  obtain ⟨f, hf⟩ := choose_lt each
  exact ⟨_, _, _, _, _, _, _, _, _, cells3 (f := fun i => .slice (f i).1 (f i).2.2.length (f i).2.1) hcl (fun i hi => (hf i hi).1), (hf 0 (by omega)).2, (hf 1 (by omega)).2, (hf 2 (by omega)).2⟩
end
end Go.Proofs.Ythgmlopkcgkjlaa

/-
  The program's journal in memory; contracts of the walks over its halfPages, capacity, first, Len, Used, Room, Record, Records. Conditions: the record and the disk lie there; few bytes.
-/
namespace Go.Proofs.Ythgmlopkcgkjlaa
open Go.RowKit Go.Shelf

/-- The program's journal at a record gj: its disk, its half, its records. -/
structure JRec (w : World) (gj gd half : Nat) (A : Option Addr) (c : Nat) (l : List ByteArray) (closed : Bool) : Prop where
  d : Blk w gj 118 [.pointer (some ⟨gd, 0, none⟩), .int .i64 (half : Int), .slice A l.length c, .bool closed]
  r : RowAt w A (l.map Value.string)
  n : ∀ g, A = some ⟨g, 0, none⟩ → g ≠ gj
theorem JRec.only {L : List Nat} {w w' : World} {gj gd half : Nat} {A : Option Addr} {c : Nat} {l : List ByteArray} {cl : Bool} (h : JRec w gj gd half A c l cl) (ho : Only L w w') (h1 : gj ∉ L) (h2 : ∀ g, A = some ⟨g, 0, none⟩ → g ∉ L) : JRec w' gj gd half A c l cl := ⟨h.d.only ho h1, h.r.only ho h2, h.n⟩
theorem JRec.next {w w' : World} {gj gd half : Nat} {A : Option Addr} {c : Nat} {l : List ByteArray} {cl : Bool} (h : JRec w gj gd half A c l cl) (hb : Below w.heap.size w w') : JRec w' gj gd half A c l cl := h.only (Only.of_below (L := []) hb) (by simp) (by simp)
def hpOf (n : Nat) : Nat := (n - 2) / 2
theorem jhalf_any (gj half : Nat) (A : Option Addr) (c : Nat) (l : List ByteArray) (cl : Bool) (gd gp gm k cp : Nat) (Y : List Value) (M : DM) (n : Nat) (w : World) (hn : M.ps.length = n) (h4 : 4 ≤ n) (h40 : n ≤ 40) (h : PRep w gd gp gm cp Y M k) (hj : JRec w gj gd half A c l cl) :
    Calls Try.prog 95 #[.pointer (some ⟨gj, 0, none⟩)] w fun e w' => e = .returned (.int .i64 (hpOf n : Nat)) ∧ w = w' := by
  have c0 := hj.d.cell (k := 0) rfl
  have hq : ((n : Int) - 2).tdiv 2 = ((hpOf n : Nat) : Int) := by unfold hpOf; rw [Int.tdiv_eq_ediv_of_nonneg (by omega)]; omega
  have hqb : hpOf n ≤ 20 := by unfold hpOf; omega
  have HN := Lib.hid hn
  obtain ⟨m, hm⟩ : ∃ m, hpOf n = m := ⟨_, rfl⟩
  rw [hm] at hq hqb
  rw [hm]
  clear hj hn hm
  go_enter Try.func95, Try.ntmps95
  go_wp2_with fail
  (with_reducible refine (len_any gd gp gm k cp Y M _ h).mono ?_)
  rintro e w' ⟨rfl, rfl⟩
  rw [HN.out]
  go_wp2
  go_ret
  exact ⟨rfl, rfl⟩
theorem capOf_eq (n : Nat) : capOf n = hpOf n * 128 := rfl
theorem jcap_any (gj half : Nat) (A : Option Addr) (c : Nat) (l : List ByteArray) (cl : Bool) (gd gp gm k cp : Nat) (Y : List Value) (M : DM) (n : Nat) (w : World) (hn : M.ps.length = n) (h4 : 4 ≤ n) (h40 : n ≤ 40) (h : PRep w gd gp gm cp Y M k) (hj : JRec w gj gd half A c l cl) :
    Calls Try.prog 80 #[.pointer (some ⟨gj, 0, none⟩)] w fun e w' => e = .returned (.int .i64 (capOf n : Nat)) ∧ w = w' := by
  have HC : Hid ((hpOf n : Int) * 128 = ((capOf n : Nat) : Int)) := by
    have : (hpOf n : Int) * 128 = ((capOf n : Nat) : Int) := by rw [capOf_eq]; omega
    exact this
  have hqb : hpOf n ≤ 20 := by unfold hpOf; omega
  have HN := Lib.hid hn
  clear hn
  go_enter Try.func80, Try.ntmps80
  go_wp2_with fail
  (with_reducible refine (jhalf_any gj half A c l cl gd gp gm k cp Y M n _ HN.out h4 h40 h hj).mono ?_)
  rintro e w' ⟨rfl, rfl⟩
  generalize hpOf n = m at HC hqb ⊢
  go_wp2
  go_ret
  exact ⟨by rw [← HC.out]; rfl, rfl⟩
theorem jfirst_any (gj half : Nat) (A : Option Addr) (c : Nat) (l : List ByteArray) (cl : Bool) (gd gp gm k cp : Nat) (Y : List Value) (M : DM) (n x : Nat) (w : World) (hx : x ≤ 1) (hn : M.ps.length = n) (h4 : 4 ≤ n) (h40 : n ≤ 40) (h : PRep w gd gp gm cp Y M k) (hj : JRec w gj gd half A c l cl) :
    Calls Try.prog 112 #[.pointer (some ⟨gj, 0, none⟩), .int .i64 (x : Int)] w fun e w' => e = .returned (.int .i64 (2 + x * hpOf n : Nat)) ∧ w = w' := by
  have hqb : hpOf n ≤ 20 := by unfold hpOf; omega
  have HN := Lib.hid hn
  obtain ⟨m, hm⟩ : ∃ m, Hid (hpOf n = m) := ⟨_, rfl⟩
  rw [hm.out] at hqb
  rw [hm.out]
  clear hn
  rcases (by omega : x = 0 ∨ x = 1) with rfl | rfl
  · have hv : Hid (2 + 0 * m = 2) := by
      have : 2 + 0 * m = 2 := by omega
      exact this
    rw [hv.out]
    go_enter Try.func112, Try.ntmps112
    go_wp2_with fail
    (with_reducible refine (jhalf_any gj half A c l cl gd gp gm k cp Y M n _ HN.out h4 h40 h hj).mono ?_)
    rintro e w' ⟨rfl, rfl⟩
    rw [hm.out]
    go_wp2
    go_ret
    exact ⟨rfl, rfl⟩
  · have hv : Hid (2 + 1 * m = 2 + m) := by
      have : 2 + 1 * m = 2 + m := by omega
      exact this
    rw [hv.out]
    go_enter Try.func112, Try.ntmps112
    go_wp2_with fail
    (with_reducible refine (jhalf_any gj half A c l cl gd gp gm k cp Y M n _ HN.out h4 h40 h hj).mono ?_)
    rintro e w' ⟨rfl, rfl⟩
    rw [hm.out]
    go_wp2
    go_ret
    exact ⟨rfl, rfl⟩
theorem jlen_any (gj gd half : Nat) (A : Option Addr) (c : Nat) (l : List ByteArray) (cl : Bool) (w : World) (hj : JRec w gj gd half A c l cl) :
    Calls Try.prog 43 #[.pointer (some ⟨gj, 0, none⟩)] w fun e w' => e = .returned (.int .i64 (l.length : Nat)) ∧ w' = w := by
  have c2 := hj.d.cell (k := 2) rfl
  generalize l.length = n at c2 ⊢
  clear hj
  go_enter Try.func43, Try.ntmps43
  go_wp2
  go_ret
  exact ⟨rfl, rfl⟩
theorem jused_any (gj gd half : Nat) (A : Option Addr) (c : Nat) (l : List ByteArray) (cl : Bool) (w : World) (hu : JM.useR l ≤ 1000000) (hj : JRec w gj gd half A c l cl) :
    Calls Try.prog 44 #[.pointer (some ⟨gj, 0, none⟩)] w fun e w' => e = .returned (.int .i64 (JM.useR l : Nat)) ∧ w' = w := by
  have c2 := hj.d.cell (k := 2) rfl
  have hR := hj.r
  obtain ⟨U, hU⟩ : ∃ U, Hid (JM.useR l = U) := ⟨_, rfl⟩
  rw [hU.out]
  clear hj
  go_enter Try.func44, Try.ntmps44
  go_wp2_with fail
  (with_reducible refine (use_any A c l _ hu hR).mono ?_)
  rintro e w' ⟨rfl, rfl⟩
  rw [hU.out]
  go_wp2
  go_ret
  exact ⟨rfl, rfl⟩
theorem jroom_any (gj half : Nat) (A : Option Addr) (c : Nat) (l : List ByteArray) (cl : Bool) (gd gp gm k cp : Nat) (Y : List Value) (M : DM) (n : Nat) (w : World) (hn : M.ps.length = n) (h4 : 4 ≤ n) (h40 : n ≤ 40) (hu : JM.useR l ≤ 1000000) (h : PRep w gd gp gm cp Y M k) (hj : JRec w gj gd half A c l cl) :
    Calls Try.prog 46 #[.pointer (some ⟨gj, 0, none⟩)] w fun e w' => e = .returned (.int .i64 ((capOf n : Int) - (JM.useR l : Int))) ∧ w' = w := by
  have hqb : capOf n ≤ 100000 := by unfold capOf; omega
  have HN := Lib.hid hn
  have HU := Lib.hid hu
  obtain ⟨U, hU⟩ : ∃ U, Hid (JM.useR l = U) := ⟨_, rfl⟩
  obtain ⟨C, hC⟩ : ∃ C, Hid (capOf n = C) := ⟨_, rfl⟩
  rw [hU.out] at hu
  rw [hC.out] at hqb
  rw [hU.out, hC.out]
  clear hn
  go_enter Try.func46, Try.ntmps46
  go_wp2_with fail
  (with_reducible refine (jcap_any gj half A c l cl gd gp gm k cp Y M n _ HN.out h4 h40 h hj).mono ?_)
  rintro e w' ⟨rfl, rfl⟩
  rw [hC.out]
  go_wp2_with fail
  (with_reducible refine (jused_any gj gd half A c l cl _ HU.out hj).mono ?_)
  rintro e w' ⟨rfl, rfl⟩
  rw [hU.out]
  clear h hj HU
  go_wp2
  go_ret
  exact ⟨rfl, rfl⟩
theorem jrecord_at (gj gd half : Nat) (A : Option Addr) (c : Nat) (l : List ByteArray) (cl : Bool) (k : Nat) (r : ByteArray) (w : World) (hk : l[k]? = some r) (_hl : l.length ≤ 1000000) (hj : JRec w gj gd half A c l cl) :
    Calls Try.prog 47 #[.pointer (some ⟨gj, 0, none⟩), .int .i64 (k : Int)] w fun e w' => e = .returned (.tuple #[.string r, .bool true]) ∧ w' = w := by
  have c2 := hj.d.cell (k := 2) rfl
  obtain ⟨g, rfl, hc⟩ := hj.r.map k r hk
  have hkl : (k : Int) < (l.length : Int) := by have := (List.getElem?_eq_some_iff.1 hk).1; omega
  generalize l.length = n at c2 hkl
  clear hj hk
  go_enter Try.func47, Try.ntmps47
  go_wp2
  go_ret2
  exact ⟨rfl, rfl⟩
theorem jrecord_no (gj gd half : Nat) (A : Option Addr) (c : Nat) (l : List ByteArray) (cl : Bool) (k : Int) (w : World) (hk : k < 0 ∨ (l.length : Int) ≤ k) (hj : JRec w gj gd half A c l cl) :
    Calls Try.prog 47 #[.pointer (some ⟨gj, 0, none⟩), .int .i64 k] w fun e w' => e = .returned (.tuple #[.string { data := #[] }, .bool false]) ∧ w' = w := by
  have c2 := hj.d.cell (k := 2) rfl
  generalize l.length = n at c2 hk
  clear hj
  by_cases h0 : k < 0
  · clear hk
    go_enter Try.func47, Try.ntmps47
    go_wp2
    go_ret2
    exact ⟨rfl, rfl⟩
  · have h1 : (n : Int) ≤ k := by omega
    have h2 : 0 ≤ k := by omega
    clear hk h0
    go_enter Try.func47, Try.ntmps47
    go_wp2
    go_ret2
    exact ⟨rfl, rfl⟩
end Go.Proofs.Ythgmlopkcgkjlaa
