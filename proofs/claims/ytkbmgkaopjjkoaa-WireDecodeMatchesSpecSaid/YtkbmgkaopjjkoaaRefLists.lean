/-
  Contracts of the walks over the reference's decodings of lists of integers and of byte strings. Conditions: at most 10^9 bytes.
-/
import Derived.Test.YtkbmgkaopjjkoaaRefStr
namespace Go.Proofs.Ytkbmgkaopjjkoaa
open Go.RowKit

/-- What the loop of a list's decoding has done after k rounds. -/
def RefMany {α : Type} (E : TypeId) (f : α → Value) (get : List UInt8 → α × Nat × Int) (l : List UInt8) (n u : Nat) (w : World) (at_ out i : Value) (wr : World) : Prop :=
  ∃ (k d : Nat) (acc : List α), k ≤ n ∧ i = .int .i64 k ∧ at_ = .int .i64 ((u + d : Nat) : Int) ∧ acc.length = k ∧ u + d ≤ l.length ∧
    WM.getMany get n (l.drop u) = comb acc d (WM.getMany get (n - k) ((l.drop u).drop d)) ∧
    wr.ownsRow w.heap.size E 1 out acc.length (acc.map f) ∧ Below w.heap.size w wr
theorem refInt_n {l : List UInt8} {n : Int} {u : Nat} {x : Int} (h : WM.getI l = (n, u, x)) (A : Option Addr) (m cap : Nat) (w : World) (hm : m = l.length) (hl : l.length ≤ 1000000000) (hh : Holds w A (l.map B8)) :
    Calls Try.prog 25 #[.slice A m cap] w fun e w' => e = .returned (.tuple #[.int .i64 n, .int .i64 u, .int .i64 x]) ∧ w = w' := by
  subst hm; exact refInt_at h A cap w hl hh
theorem refBytes_n {l : List UInt8} {s : List UInt8} {u : Nat} {x : Int} (h : WM.getB l = (s, u, x)) (A : Option Addr) (m cap : Nat) (w : World) (hm : m = l.length) (hl : l.length ≤ 1000000000) (hcap : m ≤ cap) (hh : Holds w A (l.map B8)) :
    Calls Try.prog 27 #[.slice A m cap] w fun e w' => e = .returned (.tuple #[.string ⟨s.toArray⟩, .int .i64 u, .int .i64 x]) ∧ w = w' := by
  subst hm
  have := refGetBytes_any A cap l w hl hcap hh
  rw [h] at this
  exact this

set_option maxRecDepth 100000 in
set_option maxHeartbeats 1600000 in
theorem refGetInts_any (A : Option Addr) (cap : Nat) (l : List UInt8) (w : World) (hl : l.length ≤ 1000000000) (hcap : l.length ≤ cap) (hh : Holds w A (l.map B8)) :
    Calls Try.prog 29 #[.slice A l.length cap] w (GetsPost 3 (Value.int .i64) (WM.getAll WM.getI 1 l) w) := by
  obtain ⟨i0, hi, hz0, hz1, hz2⟩ := info_parts Try.info3
  have hL := refLen_any A cap l 1 w hl (by omega) (by omega) hh
  by_cases h0 : (WM.getL l 1).2.2 = 0
  · have hB : WM.getAll WM.getI 1 l = comb [] (WM.getL l 1).2.1 (WM.getMany WM.getI (WM.getL l 1).1 (l.drop (WM.getL l 1).2.1)) := by
      unfold WM.getAll comb; rw [if_pos h0]; rfl
    obtain ⟨_, h1, _, h2⟩ := WM.getL_ok (l := l) (s := 1) (n := (WM.getL l 1).1) (u := (WM.getL l 1).2.1) (by rw [← h0])
    rw [hB]; clear hB
    rw [h0] at hL
    generalize (WM.getL l 1).1 = n at hL h2 ⊢
    generalize (WM.getL l 1).2.1 = u at hL h1 ⊢ h2
    clear h0
    rw [Nat.div_one] at h2
    have HL := Lib.hid hL
    clear hL
    go_enter Try.func29, Try.ntmps29
    go_wp2_with (go_at_call 47; refine HL.out.mono ?_; rintro e w' ⟨rfl, rfl⟩)
    go_loopw [6, 8, 9] (RefMany 3 (Value.int .i64) WM.getI l n u w) (fun _ _ i _ => n - (intOf i).toNat)
    case atStart =>
      refine ⟨0, 0, [], by omega, rfl, rfl, rfl, by omega, comb_start _ _ (fun h => ?_), World.ownsRow_nil _ _ _ _, Below.refl _ _⟩
      have := WM.many_errs WM.codeI n (l.drop u) h; exact ⟨this.1, this.2.1⟩
    case round =>
      obtain ⟨k, d, acc, hk, rfl, rfl, hacc, hd, hM, hown, hb⟩ := hrel
      have HM := Lib.hid hM
      have HA := Lib.hid hacc
      have hal : acc.length ≤ 1000000000 := by omega
      clear hM hacc
      have hsz := hb.size
      by_cases hlt : k < n
      · have hh2 := (hh.keep (Keeps.of hb)).rest (k := u + d) hcap
        by_cases he : (WM.getI (l.drop (u + d))).2.2 = 0
        · have HX := Lib.hid (show WM.getI (l.drop (u + d)) = ((WM.getI (l.drop (u + d))).1, (WM.getI (l.drop (u + d))).2.1, 0) by rw [← he])
          have hu' := (WM.codeI.canon _ _ _ (by simp; omega) HX.out).1
          rw [List.length_drop] at hu'
          generalize (WM.getI (l.drop (u + d))).1 = x at HX
          generalize (WM.getI (l.drop (u + d))).2.1 = q at HX hu'
          clear he
          have hq : 1 ≤ q := (WM.getI_ok HX.out).2.1
          have hne : ¬ cap = u + d := by omega
          rw [if_neg hne] at hh2
          have HH := Lib.hid hh2
          have hlt3 := hown.lt
          clear hh2
          go_wp2_with fail
          refine (refInt_n HX.out _ _ _ _ (by rw [List.length_drop]) (by rw [List.length_drop]; omega) HH.out).mono ?_
          rintro e w' ⟨rfl, rfl⟩
          go_wp2_with (at_builtin; refine wpList_append_own _ rfl _ _ 22 rfl w.heap.size 3 i0 (.int .i64 0) 1 8 Try.underlying22 hi hz0 hz1 hz2 rfl (by decide) _ _ _ rfl (hown.alloc _) ⟨wr.heap.size, 0, none⟩ 1 1 [.int .i64 x] rfl rfl ?c1 ?c2 ?c3 ?c4 ?c5 ?_)
          case c1 => exact fun j u hu => one_cell hu
          case c2 => intro u hu; simp at hu; subst hu; rfl
          case c3 => unfold maxLen; omega
          case c4 => omega
          case c5 => simp; omega
          intro v4 w4 hown4 hgrow _
          have hb4 := (hb.alloc (by omega) _).grown hgrow (by simp; omega) (fun k hk => (hlt3 k hk).1)
          have HO4 := Lib.hid hown4
          clear hown hgrow hown4
          go_wp2_with fail
          go_roundw
          case rel =>
            refine ⟨k + 1, d + q, acc ++ [x], by omega, by go_num, by go_num, by simp [HA.out], by omega, ?_, ?_, hb4⟩
            · have e1 := HM.out
              rw [show n - k = (n - (k + 1)) + 1 by omega] at e1
              exact comb_step e1 (by rw [List.drop_drop]; exact HX.out)
            · rw [List.length_append, List.map_append]
              exact HO4.out
          case measure => simp [intOf]; omega
        · have HX := Lib.hid (show WM.getI (l.drop (u + d)) = ((WM.getI (l.drop (u + d))).1, (WM.getI (l.drop (u + d))).2.1, (WM.getI (l.drop (u + d))).2.2) from rfl)
          generalize (WM.getI (l.drop (u + d))).1 = x at HX
          generalize (WM.getI (l.drop (u + d))).2.1 = q at HX
          generalize (WM.getI (l.drop (u + d))).2.2 = er at HX he
          have b0 : (er != 0) = true := by rw [bne_iff_ne]; exact he
          have HE := Lib.hid he
          clear he
          have hfin : WM.getMany WM.getI n (l.drop u) = ([], 0, er) := by
            have e1 := HM.out
            rw [show n - k = (n - (k + 1)) + 1 by omega] at e1
            exact comb_fail e1 (by rw [List.drop_drop]; exact HX.out) HE.out
          have HF := Lib.hid hfin
          clear hfin
          have HH := Lib.hid hh2
          clear hh2
          go_wp2_with fail
          all_goals
            refine (refInt_n HX.out _ _ _ _ (by rw [List.length_drop]) (by rw [List.length_drop]; omega) (by have h := HH.out; first | (rw [if_pos (by omega)] at h; exact h) | (rw [if_neg (by omega)] at h; exact h))).mono ?_
            rintro e w' ⟨rfl, rfl⟩
            go_wp2_with fail
            go_ret3
            exact GetsPost.nil (by rw [HF.out]; unfold comb; rw [if_neg HE.out]) hb rfl rfl rfl
      · have hkn : k = n := by omega
        go_wp2_with fail
        go_ret3
        subst hkn
        exact GetsPost.row (comb_done HM.out) hb hown rfl rfl
  · have hB : WM.getAll WM.getI 1 l = ([], 0, (WM.getL l 1).2.2) := by unfold WM.getAll; rw [if_neg h0]
    rw [hB]; clear hB
    have b0 : ((WM.getL l 1).2.2 != 0) = true := by rw [bne_iff_ne]; exact h0
    generalize (WM.getL l 1).1 = n at hL
    generalize (WM.getL l 1).2.1 = u at hL
    generalize (WM.getL l 1).2.2 = x at hL b0 ⊢
    clear h0
    have HL := Lib.hid hL
    clear hL hh
    go_enter Try.func29, Try.ntmps29
    go_wp2_with (go_at_call 47; refine HL.out.mono ?_; rintro e w' ⟨rfl, rfl⟩)
    go_ret3
    exact GetsPost.nil rfl (Below.refl _ _) rfl rfl rfl

set_option maxRecDepth 100000 in
set_option maxHeartbeats 1600000 in
theorem refGetStrings_any (A : Option Addr) (cap : Nat) (l : List UInt8) (w : World) (hl : l.length ≤ 1000000000) (hcap : l.length ≤ cap) (hh : Holds w A (l.map B8)) :
    Calls Try.prog 32 #[.slice A l.length cap] w (GetsPost 9 strV (WM.getAll WM.getB 1 l) w) := by
  obtain ⟨i0, hi, hz0, hz1, hz2⟩ := info_parts Try.info9
  have hL := refLen_any A cap l 1 w hl (by omega) (by omega) hh
  by_cases h0 : (WM.getL l 1).2.2 = 0
  · have hB : WM.getAll WM.getB 1 l = comb [] (WM.getL l 1).2.1 (WM.getMany WM.getB (WM.getL l 1).1 (l.drop (WM.getL l 1).2.1)) := by
      unfold WM.getAll comb; rw [if_pos h0]; rfl
    obtain ⟨_, h1, _, h2⟩ := WM.getL_ok (l := l) (s := 1) (n := (WM.getL l 1).1) (u := (WM.getL l 1).2.1) (by rw [← h0])
    rw [hB]; clear hB
    rw [h0] at hL
    generalize (WM.getL l 1).1 = n at hL h2 ⊢
    generalize (WM.getL l 1).2.1 = u at hL h1 ⊢ h2
    clear h0
    rw [Nat.div_one] at h2
    have HL := Lib.hid hL
    clear hL
    go_enter Try.func32, Try.ntmps32
    go_wp2_with (go_at_call 47; refine HL.out.mono ?_; rintro e w' ⟨rfl, rfl⟩)
    go_loopw [6, 8, 9] (RefMany 9 strV WM.getB l n u w) (fun _ _ i _ => n - (intOf i).toNat)
    case atStart =>
      refine ⟨0, 0, [], by omega, rfl, rfl, rfl, by omega, comb_start _ _ (fun h => ?_), World.ownsRow_nil _ _ _ _, Below.refl _ _⟩
      have := WM.many_errs WM.codeB n (l.drop u) h; exact ⟨this.1, this.2.1⟩
    case round =>
      obtain ⟨k, d, acc, hk, rfl, rfl, hacc, hd, hM, hown, hb⟩ := hrel
      have HM := Lib.hid hM
      have HA := Lib.hid hacc
      have hal : acc.length ≤ 1000000000 := by omega
      clear hM hacc
      have hsz := hb.size
      by_cases hlt : k < n
      · have hh2 := (hh.keep (Keeps.of hb)).rest (k := u + d) hcap
        by_cases he : (WM.getB (l.drop (u + d))).2.2 = 0
        · have HX := Lib.hid (show WM.getB (l.drop (u + d)) = ((WM.getB (l.drop (u + d))).1, (WM.getB (l.drop (u + d))).2.1, 0) by rw [← he])
          have hu' := (WM.codeB.canon _ _ _ (by simp; omega) HX.out).1
          rw [List.length_drop] at hu'
          generalize (WM.getB (l.drop (u + d))).1 = x at HX
          generalize (WM.getB (l.drop (u + d))).2.1 = q at HX hu'
          clear he
          have hq : 1 ≤ q := strs_one HX.out
          have hne : ¬ cap = u + d := by omega
          rw [if_neg hne] at hh2
          have HH := Lib.hid hh2
          have hlt3 := hown.lt
          clear hh2
          go_wp2_with fail
          refine (refBytes_n HX.out _ _ _ _ (by rw [List.length_drop]) (by rw [List.length_drop]; omega) (by omega) HH.out).mono ?_
          rintro e w' ⟨rfl, rfl⟩
          go_wp2_with (at_builtin; refine wpList_append_own _ rfl _ _ 23 rfl w.heap.size 9 i0 (.string ByteArray.empty) 1 16 Try.underlying23 hi hz0 hz1 hz2 rfl (by decide) _ _ _ rfl (hown.alloc _) ⟨wr.heap.size, 0, none⟩ 1 1 [strV x] rfl rfl ?c1 ?c2 ?c3 ?c4 ?c5 ?_)
          case c1 => exact fun j u hu => one_cell hu
          case c2 => intro u hu; simp at hu; subst hu; rfl
          case c3 => unfold maxLen; omega
          case c4 => omega
          case c5 => simp; omega
          intro v4 w4 hown4 hgrow _
          have hb4 := (hb.alloc (by omega) _).grown hgrow (by simp; omega) (fun k hk => (hlt3 k hk).1)
          have HO4 := Lib.hid hown4
          clear hown hgrow hown4
          go_wp2_with fail
          go_roundw
          case rel =>
            refine ⟨k + 1, d + q, acc ++ [x], by omega, by go_num, by go_num, by simp [HA.out], by omega, ?_, ?_, hb4⟩
            · have e1 := HM.out
              rw [show n - k = (n - (k + 1)) + 1 by omega] at e1
              exact comb_step e1 (by rw [List.drop_drop]; exact HX.out)
            · rw [List.length_append, List.map_append]
              exact HO4.out
          case measure => simp [intOf]; omega
        · have HX := Lib.hid (show WM.getB (l.drop (u + d)) = ((WM.getB (l.drop (u + d))).1, (WM.getB (l.drop (u + d))).2.1, (WM.getB (l.drop (u + d))).2.2) from rfl)
          generalize (WM.getB (l.drop (u + d))).1 = x at HX
          generalize (WM.getB (l.drop (u + d))).2.1 = q at HX
          generalize (WM.getB (l.drop (u + d))).2.2 = er at HX he
          have b0 : (er != 0) = true := by rw [bne_iff_ne]; exact he
          have HE := Lib.hid he
          clear he
          have hfin : WM.getMany WM.getB n (l.drop u) = ([], 0, er) := by
            have e1 := HM.out
            rw [show n - k = (n - (k + 1)) + 1 by omega] at e1
            exact comb_fail e1 (by rw [List.drop_drop]; exact HX.out) HE.out
          have HF := Lib.hid hfin
          clear hfin
          have HH := Lib.hid hh2
          clear hh2
          go_wp2_with fail
          all_goals
            refine (refBytes_n HX.out _ _ _ _ (by rw [List.length_drop]) (by rw [List.length_drop]; omega) (by omega) (by have h := HH.out; first | (rw [if_pos (by omega)] at h; exact h) | (rw [if_neg (by omega)] at h; exact h))).mono ?_
            rintro e w' ⟨rfl, rfl⟩
            go_wp2_with fail
            go_ret3
            exact GetsPost.nil (by rw [HF.out]; unfold comb; rw [if_neg HE.out]) hb rfl rfl rfl
      · have hkn : k = n := by omega
        go_wp2_with fail
        go_ret3
        subst hkn
        exact GetsPost.row (comb_done HM.out) hb hown rfl rfl
  · have hB : WM.getAll WM.getB 1 l = ([], 0, (WM.getL l 1).2.2) := by unfold WM.getAll; rw [if_neg h0]
    rw [hB]; clear hB
    have b0 : ((WM.getL l 1).2.2 != 0) = true := by rw [bne_iff_ne]; exact h0
    generalize (WM.getL l 1).1 = n at hL
    generalize (WM.getL l 1).2.1 = u at hL
    generalize (WM.getL l 1).2.2 = x at hL b0 ⊢
    clear h0
    have HL := Lib.hid hL
    clear hL hh
    go_enter Try.func32, Try.ntmps32
    go_wp2_with (go_at_call 47; refine HL.out.mono ?_; rintro e w' ⟨rfl, rfl⟩)
    go_ret3
    exact GetsPost.nil rfl (Below.refl _ _) rfl rfl rfl
end Go.Proofs.Ytkbmgkaopjjkoaa
