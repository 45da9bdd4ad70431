/-
  The walk of BitsRangesMatchSpec. Conditions: the library's variable lies there.
-/
import Derived.Test.YtbldnhpbmfmepaaDoorKLg
namespace Go.Proofs.YtbldnhpbmfmepaaDoor
set_option linter.unusedVariables false
set_option linter.unusedSimpArgs false
open Go.RowKit

set_option maxRecDepth 100000 in
set_option maxHeartbeats 3200000 in
theorem ranges_bad (a wd lo hi : Int) (w : World) (hb : ¬ rangeOk a wd lo hi) (hG : GOk w) :
    Calls Tryd.prog 7 #[.int .i64 a, .int .i64 wd, .int .i64 lo, .int .i64 hi] w fun e w' => e = .returned (.bool true) ∧ Below w.heap.size w w' := by
  have HG := Lib.hid hG
  have C1 := Lib.hid (fun w => (range_bad a wd lo hi w hb).mono fun e w' h => (⟨h.1, h.2 ▸ Below.refl _ _⟩ : _ ∧ Below w.heap.size w w'))
  have C2 := Lib.hid (fun w => (rrange_bad a wd lo hi w hb).mono fun e w' h => (⟨h.1, h.2 ▸ Below.refl _ _⟩ : _ ∧ Below w.heap.size w w'))
  clear hG hb
  go_enter Tryd.func7, Tryd.ntmps7
  go_wp2_with fail
  (with_reducible refine (sanity_any _ HG.out).mono ?_)
  rintro e w1 ⟨rfl, hb1⟩
  have hbe : Below w.heap.size w w1 := hb1
  clear hb1
  go_wp2_with fail
  (with_reducible refine (C1.out _).mono ?_)
  rintro e w2 ⟨rfl, hb2⟩
  have hbe := below_join hbe hb2
  clear hb2
  go_wp2_with fail
  (with_reducible refine (C2.out _).mono ?_)
  rintro e w3 ⟨rfl, hb3⟩
  have hbe := below_join hbe hb3
  clear hb3
  go_wp2_with fail
  (with_reducible refine (rsame_self [] 0 rfl (by decide) none none 0 0 _ (pats_nil _ _) (pats_nil _ _)).mono ?_)
  rintro e w4 ⟨rfl, hb4⟩
  have hbe := below_join hbe hb4
  clear hb4
  go_wp2
  go_ret
  exact ⟨rfl, hbe⟩
set_option maxRecDepth 100000 in
set_option maxHeartbeats 3200000 in
theorem ranges_good (a wd lo hi : Nat) (w : World) (h1 : 1 ≤ wd) (h2 : a % 16 + wd ≤ 16) (h3 : a + wd ≤ 160) (h4 : lo ≤ hi) (h5 : hi < 2 ^ wd) (hG : GOk w) :
    Calls Tryd.prog 7 #[.int .i64 (a : Int), .int .i64 (wd : Int), .int .i64 (lo : Int), .int .i64 (hi : Int)] w fun e w' => e = .returned (.bool true) ∧ Below w.heap.size w w' := by
  have HG := Lib.hid hG
  obtain ⟨n, hn⟩ : ∃ n, (rangeL a wd lo hi).length = n := ⟨_, rfl⟩
  have hnl : n ≤ 140737488355328 := by have := range_len (a := a) h1 h2 h4 h5; rw [hn] at this; omega
  have c1 := fun w => range_pats a wd lo hi w n hn h1 h2 h3 h4 h5
  have c2 := fun w => rrange_pats a wd lo hi w n hn h1 h2 h3 h4 h5
  obtain ⟨L, hL⟩ : ∃ L, rangeL a wd lo hi = L := ⟨_, rfl⟩
  rw [hL] at c1 c2 hn
  have c3 := fun A B c d w h1 h2 => rsame_self L n hn hnl A B c d w h1 h2
  have C1 := Lib.hid c1
  have C2 := Lib.hid c2
  have C3 := Lib.hid c3
  clear c1 c2 c3 hL hn hnl h1 h2 h3 h4 h5 hG
  go_enter Tryd.func7, Tryd.ntmps7
  go_wp2_with fail
  (with_reducible refine (sanity_any _ HG.out).mono ?_)
  rintro e w1 ⟨rfl, hb1⟩
  have hbe : Below w.heap.size w w1 := hb1
  clear hb1
  go_wp2_with fail
  (with_reducible refine (C1.out _).mono ?_)
  rintro e w2 ⟨A1, c1, rfl, M1, hb2⟩
  have hbe := below_join hbe hb2
  clear hb2
  go_wp2_with fail
  (with_reducible refine (C2.out _).mono ?_)
  rintro e w3 ⟨A2, c2, rfl, M2, hb3⟩
  have M1 := M1.next hb3
  have hbe := below_join hbe hb3
  clear hb3
  go_wp2_with fail
  (with_reducible refine (C3.out _ _ _ _ _ M1 M2).mono ?_)
  rintro e w4 ⟨rfl, hb4⟩
  have M1 := M1.next hb4
  have M2 := M2.next hb4
  have hbe := below_join hbe hb4
  clear hb4
  go_wp2
  go_ret
  exact ⟨rfl, hbe⟩
/-- Whatever comes in. -/
theorem rangesLaw_any (a wd lo hi : Int) (w : World) (hG : GOk w) :
    Calls Tryd.prog 7 #[.int .i64 a, .int .i64 wd, .int .i64 lo, .int .i64 hi] w fun e w' => e = .returned (.bool true) ∧ Below w.heap.size w w' := by
  by_cases hc : rangeOk a wd lo hi
  · obtain ⟨a, wd, lo, hi, rfl, rfl, rfl, rfl, h1, h2, h3, h4, h5⟩ := ok_nat hc
    exact ranges_good a wd lo hi w h1 h2 h3 h4 h5 hG
  · exact ranges_bad a wd lo hi w hc hG
end Go.Proofs.YtbldnhpbmfmepaaDoor
