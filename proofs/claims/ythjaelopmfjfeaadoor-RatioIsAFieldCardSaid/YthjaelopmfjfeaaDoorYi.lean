/-
  Contracts of the walk over two operations, one after the other. Conditions: normal ratios.
-/
import Derived.Test.YthjaelopmfjfeaaDoorYe
namespace Go.Proofs.YthjaelopmfjfeaaDoor
set_option linter.unusedVariables false
set_option linter.unusedSimpArgs false
open Go.RowKit Go.Shelf
set_option linter.unusedVariables false

theorem ansQ_three (p : Rat) : ∃ N D k : Int, ansQ p = .returned (.tuple #[.agg #[.int .i64 N, .int .i64 D], .int .i64 k]) ∧ ((fits p ∧ k = 0 ∧ N = p.num ∧ D = (p.den : Int)) ∨ (¬ fits p ∧ k = 17 ∧ N = 0 ∧ D = 0)) := by
  unfold ansQ
  split
  next h => exact ⟨_, _, _, rfl, .inl ⟨h, rfl, rfl, rfl⟩⟩
  next h => exact ⟨_, _, _, rfl, .inr ⟨h, rfl, rfl, rfl⟩⟩
/-- What two operations give: the second result, if both are not too large. -/
def bothE (P R : Rat) : Ending := if fits P ∧ fits R then .returned (.tuple #[.agg (qC R).toArray, .bool true]) else .returned (.tuple #[.agg zC.toArray, .bool false])
theorem bothE_form (P R : Rat) : ∃ (N D : Int) (o : Bool), bothE P R = .returned (.tuple #[.agg [Value.int .i64 N, Value.int .i64 D].toArray, .bool o]) ∧ (o = true → fits P ∧ fits R ∧ N = R.num ∧ D = (R.den : Int)) := by
  unfold bothE
  split
  next h => exact ⟨_, _, _, rfl, fun _ => ⟨h.1, h.2, rfl, rfl⟩⟩
  next h => exact ⟨0, 0, _, rfl, fun e => by cases e⟩
set_option maxRecDepth 100000 in
set_option maxHeartbeats 3200000 in
theorem bothAA_any (p q r : Rat) (w : World) (hp : fits p) (hq : fits q) (hr : fits r) :
    Calls Tryd.prog 33 #[.func (.func 17) #[] #[], .agg (qC p).toArray, .agg (qC q).toArray, .func (.func 17) #[] #[], .agg (qC r).toArray] w fun e w' => e = bothE (p + q) ((p + q) + r) ∧ Below w.heap.size w w' := by
  have hp2 : qC p = [Value.int .i64 p.num, Value.int .i64 (p.den : Int)] := rfl
  have hq2 : qC q = [Value.int .i64 q.num, Value.int .i64 (q.den : Int)] := rfl
  have hr2 : qC r = [Value.int .i64 r.num, Value.int .i64 (r.den : Int)] := rfl
  obtain ⟨N1, D1, k1, h1, g1⟩ := ansQ_three (p + q)
  have x1 := fun w => add_any p q w hp hq
  rw [h1, hp2, hq2] at x1
  have X1 := Lib.hid x1
  obtain ⟨N2, D2, k2, h2, g2⟩ := ansQ_three ((p + q) + r)
  have x2 : fits (p + q) → ∀ w, Calls Tryd.prog 17 #[.agg [Value.int .i64 (p + q).num, Value.int .i64 ((p + q).den : Int)].toArray, .agg [Value.int .i64 r.num, Value.int .i64 (r.den : Int)].toArray] w fun e w' => e = .returned (.tuple #[.agg #[.int .i64 N2, .int .i64 D2], .int .i64 k2]) ∧ Below w.heap.size w w' := fun h w => by
    have x := add_any (p + q) r w h hr
    rw [h2, hr2, show qC (p + q) = [Value.int .i64 (p + q).num, Value.int .i64 ((p + q).den : Int)] from rfl] at x
    exact x
  have X2 := Lib.hid x2
  have G1 := Lib.hid g1
  have G2 := Lib.hid g2
  rw [hp2, hq2, hr2]
  clear x1 x2 g1 g2 h1 h2 hp hq hr hp2 hq2 hr2
  go_enter Tryd.func33, Tryd.ntmps33
  go_wp2_with (with_reducible refine wpList_box (o := ⟨some 6, .box 23 (.tmp 1), _, _, _, _⟩) ?g6 23 (.tmp 1) ?o6 (.agg [Value.int .i64 p.num, Value.int .i64 (p.den : Int)].toArray) [Value.int .i64 p.num, Value.int .i64 (p.den : Int)] ?x6 ?c6 ?_)
  try (case g6 => rfl)
  try (case o6 => rfl)
  try (case x6 => rfl)
  try (case c6 => rfl)
  intro g6 w1 hg6 hs1 hb1 B6
  have hb1 := hb1.mono (Nat.le_of_eq hg6.out.symm)
  have hbe : Below w.heap.size w w1 := hb1
  clear hb1 hg6 hs1
  go_wp2_with (with_reducible refine wpList_box (o := ⟨some 7, .box 23 (.tmp 2), _, _, _, _⟩) ?g7 23 (.tmp 2) ?o7 (.agg [Value.int .i64 q.num, Value.int .i64 (q.den : Int)].toArray) [Value.int .i64 q.num, Value.int .i64 (q.den : Int)] ?x7 ?c7 ?_)
  try (case g7 => rfl)
  try (case o7 => rfl)
  try (case x7 => rfl)
  try (case c7 => rfl)
  intro g7 w2 hg7 hs2 hb2 B7
  have hb2 := hb2.mono (Nat.le_of_eq hg7.out.symm)
  have B6 := B6.next hb2 B6.lt
  have hbe := below_join hbe hb2
  clear hb2 hg7 hs2
  go_wp2_with (with_reducible refine wpList_box (o := ⟨some 9, .box 23 (.tmp 4), _, _, _, _⟩) ?g9 23 (.tmp 4) ?o9 (.agg [Value.int .i64 r.num, Value.int .i64 (r.den : Int)].toArray) [Value.int .i64 r.num, Value.int .i64 (r.den : Int)] ?x9 ?c9 ?_)
  try (case g9 => rfl)
  try (case o9 => rfl)
  try (case x9 => rfl)
  try (case c9 => rfl)
  intro g9 w3 hg9 hs3 hb3 B9
  have hb3 := hb3.mono (Nat.le_of_eq hg9.out.symm)
  have B6 := B6.next hb3 B6.lt
  have B7 := B7.next hb3 B7.lt
  have hbe := below_join hbe hb3
  clear hb3 hg9 hs3
  go_wp2_with (with_reducible refine wpList_alloc (o := ⟨some 10, .alloc 23, _, _, _, _⟩) (by with_unfolding_all rfl) 23 (by with_unfolding_all rfl) (.agg zC.toArray) zC (by exact Tryd.zeroQ) (by with_unfolding_all rfl) ?_)
  intro g10 w4 hg10 hs4 hb4 B10
  have hl10 : w.heap.size ≤ g10 := Nat.le_trans hbe.size (Nat.le_of_eq hg10.out.symm)
  have ne6_10 : g6 ≠ g10 := by have := B6.lt; have := hg10.out; omega
  have ne7_10 : g7 ≠ g10 := by have := B7.lt; have := hg10.out; omega
  have ne9_10 : g9 ≠ g10 := by have := B9.lt; have := hg10.out; omega
  have hb4 := hb4.mono (Nat.le_of_eq hg10.out.symm)
  have B6 := B6.next hb4 B6.lt
  have B7 := B7.next hb4 B7.lt
  have B9 := B9.next hb4 B9.lt
  have hbe := below_join hbe hb4
  clear hb4 hg10 hs4
  have z60 := B6.cell (k := 0) rfl
  have z61 := B6.cell (k := 1) rfl
  have z70 := B7.cell (k := 0) rfl
  have z71 := B7.cell (k := 1) rfl
  go_wp2_with fail
  (with_reducible refine (X1.out _).mono ?_)
  rintro e w5 ⟨rfl, hb5⟩
  have B6 := B6.next hb5 B6.lt
  have B7 := B7.next hb5 B7.lt
  have B9 := B9.next hb5 B9.lt
  have B10 := B10.next hb5 B10.lt
  have hbe := below_join hbe hb5
  clear hb5
  clear z60 z61 z70 z71
  go_wp2_with (with_reducible refine wpList_alloc (o := ⟨some 12, .alloc 23, _, _, _, _⟩) (by with_unfolding_all rfl) 23 (by with_unfolding_all rfl) (.agg zC.toArray) zC (by exact Tryd.zeroQ) (by with_unfolding_all rfl) ?_)
  intro g12 w6 hg12 hs6 hb6 B12
  have hl12 : w.heap.size ≤ g12 := Nat.le_trans hbe.size (Nat.le_of_eq hg12.out.symm)
  have ne6_12 : g6 ≠ g12 := by have := B6.lt; have := hg12.out; omega
  have ne7_12 : g7 ≠ g12 := by have := B7.lt; have := hg12.out; omega
  have ne9_12 : g9 ≠ g12 := by have := B9.lt; have := hg12.out; omega
  have ne10_12 : g10 ≠ g12 := by have := B10.lt; have := hg12.out; omega
  have hb6 := hb6.mono (Nat.le_of_eq hg12.out.symm)
  have B6 := B6.next hb6 B6.lt
  have B7 := B7.next hb6 B7.lt
  have B9 := B9.next hb6 B9.lt
  have B10 := B10.next hb6 B10.lt
  have hbe := below_join hbe hb6
  clear hb6 hg12 hs6
  go_wp2_with (with_reducible refine wpList_put (o := ⟨none, .store 23 (.tmp 12) (.tmp 21), _, _, _, _⟩) (by with_unfolding_all rfl) 23 (.tmp 12) (.tmp 21) (by with_unfolding_all rfl) g12 0 (by with_unfolding_all rfl) (.agg [Value.int .i64 N1, Value.int .i64 D1].toArray) (by with_unfolding_all rfl) B12 [Value.int .i64 N1, Value.int .i64 D1] (by with_unfolding_all rfl) (by with_unfolding_all (exact Tryd.szQ)) (by with_unfolding_all (exact Nat.le_refl 2)) (by with_unfolding_all (exact int_one _ _)) ?_)
  clear B12
  intro w7 hu7 B12
  rw [splice_all _ _ (by rfl)] at B12
  have hbe := hbe.trans (hu7.below (B := w.heap.size) hl12)
  have B6 := B6.upd hu7 (by first | exact ne6_12 | exact ne12_6.symm)
  have B7 := B7.upd hu7 (by first | exact ne7_12 | exact ne12_7.symm)
  have B9 := B9.upd hu7 (by first | exact ne9_12 | exact ne12_9.symm)
  have B10 := B10.upd hu7 (by first | exact ne10_12 | exact ne12_10.symm)
  clear hu7
  rcases G1.out with ⟨f1, rfl, rfl, rfl⟩ | ⟨f1, rfl, _, _⟩
  · skip
    have X2 := Lib.hid (X2.out f1)
    have z120 := B12.cell (k := 0) rfl
    have z121 := B12.cell (k := 1) rfl
    have z90 := B9.cell (k := 0) rfl
    have z91 := B9.cell (k := 1) rfl
    go_wp2_with fail
    (with_reducible refine (X2.out _).mono ?_)
    rintro e w8 ⟨rfl, hb8⟩
    have B6 := B6.next hb8 B6.lt
    have B7 := B7.next hb8 B7.lt
    have B9 := B9.next hb8 B9.lt
    have B10 := B10.next hb8 B10.lt
    have B12 := B12.next hb8 B12.lt
    have hbe := below_join hbe hb8
    clear hb8
    clear z120 z121 z90 z91
    go_wp2_with (with_reducible refine wpList_alloc (o := ⟨some 14, .alloc 23, _, _, _, _⟩) (by with_unfolding_all rfl) 23 (by with_unfolding_all rfl) (.agg zC.toArray) zC (by exact Tryd.zeroQ) (by with_unfolding_all rfl) ?_)
    intro g14 w9 hg14 hs9 hb9 B14
    have hl14 : w.heap.size ≤ g14 := Nat.le_trans hbe.size (Nat.le_of_eq hg14.out.symm)
    have ne6_14 : g6 ≠ g14 := by have := B6.lt; have := hg14.out; omega
    have ne7_14 : g7 ≠ g14 := by have := B7.lt; have := hg14.out; omega
    have ne9_14 : g9 ≠ g14 := by have := B9.lt; have := hg14.out; omega
    have ne10_14 : g10 ≠ g14 := by have := B10.lt; have := hg14.out; omega
    have ne12_14 : g12 ≠ g14 := by have := B12.lt; have := hg14.out; omega
    have hb9 := hb9.mono (Nat.le_of_eq hg14.out.symm)
    have B6 := B6.next hb9 B6.lt
    have B7 := B7.next hb9 B7.lt
    have B9 := B9.next hb9 B9.lt
    have B10 := B10.next hb9 B10.lt
    have B12 := B12.next hb9 B12.lt
    have hbe := below_join hbe hb9
    clear hb9 hg14 hs9
    go_wp2_with (with_reducible refine wpList_put (o := ⟨none, .store 23 (.tmp 14) (.tmp 31), _, _, _, _⟩) (by with_unfolding_all rfl) 23 (.tmp 14) (.tmp 31) (by with_unfolding_all rfl) g14 0 (by with_unfolding_all rfl) (.agg [Value.int .i64 N2, Value.int .i64 D2].toArray) (by with_unfolding_all rfl) B14 [Value.int .i64 N2, Value.int .i64 D2] (by with_unfolding_all rfl) (by with_unfolding_all (exact Tryd.szQ)) (by with_unfolding_all (exact Nat.le_refl 2)) (by with_unfolding_all (exact int_one _ _)) ?_)
    clear B14
    intro w10 hu10 B14
    rw [splice_all _ _ (by rfl)] at B14
    have hbe := hbe.trans (hu10.below (B := w.heap.size) hl14)
    have B6 := B6.upd hu10 (by first | exact ne6_14 | exact ne14_6.symm)
    have B7 := B7.upd hu10 (by first | exact ne7_14 | exact ne14_7.symm)
    have B9 := B9.upd hu10 (by first | exact ne9_14 | exact ne14_9.symm)
    have B10 := B10.upd hu10 (by first | exact ne10_14 | exact ne14_10.symm)
    have B12 := B12.upd hu10 (by first | exact ne12_14 | exact ne14_12.symm)
    clear hu10
    have z140 := B14.cell (k := 0) rfl
    have z141 := B14.cell (k := 1) rfl
    have ne10_x : True := trivial
    rcases G2.out with ⟨f2, rfl, rfl, rfl⟩ | ⟨f2, rfl, rfl, rfl⟩
    · skip
      have he : bothE (p + q) ((p + q) + r) = .returned (.tuple #[.agg [Value.int .i64 ((p + q) + r).num, Value.int .i64 (((p + q) + r).den : Int)].toArray, .bool true]) := by unfold bothE; rw [if_pos ⟨f1, f2⟩]; rfl
      have HE := Lib.hid he
      clear he
      go_wp2_with (with_reducible refine wpList_put (o := ⟨none, .store 23 (.tmp 10) (.tmp 33), _, _, _, _⟩) (by with_unfolding_all rfl) 23 (.tmp 10) (.tmp 33) (by with_unfolding_all rfl) g10 0 (by with_unfolding_all rfl) (.agg [Value.int .i64 ((p + q) + r).num, Value.int .i64 (((p + q) + r).den : Int)].toArray) (by with_unfolding_all rfl) B10 [Value.int .i64 ((p + q) + r).num, Value.int .i64 (((p + q) + r).den : Int)] (by with_unfolding_all rfl) (by with_unfolding_all (exact Tryd.szQ)) (by with_unfolding_all (exact Nat.le_refl 2)) (by with_unfolding_all (exact int_one _ _)) ?_)
      clear B10
      intro w11 hu11 B10
      rw [splice_all _ _ (by rfl)] at B10
      have hbe := hbe.trans (hu11.below (B := w.heap.size) hl10)
      clear hu11
      go_wp2
      exact bodyPost_ret (results_cell_two rfl _ _ g10 _ _ _ _ _ rfl rfl B10 Tryd.underlying23 rfl Tryd.szQ) rfl ⟨by rw [HE.out]; rfl, hbe⟩
    · skip
      have he : bothE (p + q) ((p + q) + r) = .returned (.tuple #[.agg [Value.int .i64 0, Value.int .i64 0].toArray, .bool false]) := by unfold bothE; rw [if_neg (fun h => f2 h.2)]; rfl
      have HE := Lib.hid he
      clear he
      go_wp2_with (with_reducible refine wpList_put (o := ⟨none, .store 23 (.tmp 10) (.tmp 33), _, _, _, _⟩) (by with_unfolding_all rfl) 23 (.tmp 10) (.tmp 33) (by with_unfolding_all rfl) g10 0 (by with_unfolding_all rfl) (.agg [Value.int .i64 0, Value.int .i64 0].toArray) (by with_unfolding_all rfl) B10 [Value.int .i64 0, Value.int .i64 0] (by with_unfolding_all rfl) (by with_unfolding_all (exact Tryd.szQ)) (by with_unfolding_all (exact Nat.le_refl 2)) (by with_unfolding_all (exact int_one _ _)) ?_)
      clear B10
      intro w11 hu11 B10
      rw [splice_all _ _ (by rfl)] at B10
      have hbe := hbe.trans (hu11.below (B := w.heap.size) hl10)
      clear hu11
      go_wp2
      exact bodyPost_ret (results_cell_two rfl _ _ g10 _ _ _ _ _ rfl rfl B10 Tryd.underlying23 rfl Tryd.szQ) rfl ⟨by rw [HE.out]; rfl, hbe⟩
  · skip
    have he : bothE (p + q) ((p + q) + r) = .returned (.tuple #[.agg zC.toArray, .bool false]) := by unfold bothE; rw [if_neg (fun h => f1 h.1)]
    have HE := Lib.hid he
    clear he
    go_wp2_with (first | (with_reducible refine wpList_build (o := ⟨some 25, .build 23 #[], _, _, _, _⟩) (by with_unfolding_all rfl) 23 #[] (by with_unfolding_all rfl) #[] (by with_unfolding_all rfl) (.agg zC.toArray) (by with_unfolding_all exact fun w => run_buildQ0 w) ?_) | (with_reducible refine wpList_put (o := ⟨none, .store 23 (.tmp 10) (.tmp 25), _, _, _, _⟩) (by with_unfolding_all rfl) 23 (.tmp 10) (.tmp 25) (by with_unfolding_all rfl) g10 0 (by with_unfolding_all rfl) (.agg zC.toArray) (by with_unfolding_all rfl) B10 zC (by with_unfolding_all rfl) (by with_unfolding_all (exact Tryd.szQ)) (by with_unfolding_all (exact Nat.le_refl 2)) (by with_unfolding_all (exact int_one _ _)) ?_))
    clear B10
    intro w8 hu8 B10
    rw [splice_all _ _ (by rfl)] at B10
    have hbe := hbe.trans (hu8.below (B := w.heap.size) hl10)
    clear hu8
    go_wp2
    exact bodyPost_ret (results_cell_two rfl _ _ g10 _ _ _ _ _ rfl rfl B10 Tryd.underlying23 rfl Tryd.szQ) rfl ⟨by rw [HE.out]; rfl, hbe⟩
set_option maxRecDepth 100000 in
set_option maxHeartbeats 3200000 in
theorem bothMM_any (p q r : Rat) (w : World) (hp : fits p) (hq : fits q) (hr : fits r) :
    Calls Tryd.prog 33 #[.func (.func 21) #[] #[], .agg (qC p).toArray, .agg (qC q).toArray, .func (.func 21) #[] #[], .agg (qC r).toArray] w fun e w' => e = bothE (p * q) ((p * q) * r) ∧ Below w.heap.size w w' := by
  have hp2 : qC p = [Value.int .i64 p.num, Value.int .i64 (p.den : Int)] := rfl
  have hq2 : qC q = [Value.int .i64 q.num, Value.int .i64 (q.den : Int)] := rfl
  have hr2 : qC r = [Value.int .i64 r.num, Value.int .i64 (r.den : Int)] := rfl
  obtain ⟨N1, D1, k1, h1, g1⟩ := ansQ_three (p * q)
  have x1 := fun w => mul_any p q w hp hq
  rw [h1, hp2, hq2] at x1
  have X1 := Lib.hid x1
  obtain ⟨N2, D2, k2, h2, g2⟩ := ansQ_three ((p * q) * r)
  have x2 : fits (p * q) → ∀ w, Calls Tryd.prog 21 #[.agg [Value.int .i64 (p * q).num, Value.int .i64 ((p * q).den : Int)].toArray, .agg [Value.int .i64 r.num, Value.int .i64 (r.den : Int)].toArray] w fun e w' => e = .returned (.tuple #[.agg #[.int .i64 N2, .int .i64 D2], .int .i64 k2]) ∧ Below w.heap.size w w' := fun h w => by
    have x := mul_any (p * q) r w h hr
    rw [h2, hr2, show qC (p * q) = [Value.int .i64 (p * q).num, Value.int .i64 ((p * q).den : Int)] from rfl] at x
    exact x
  have X2 := Lib.hid x2
  have G1 := Lib.hid g1
  have G2 := Lib.hid g2
  rw [hp2, hq2, hr2]
  clear x1 x2 g1 g2 h1 h2 hp hq hr hp2 hq2 hr2
  go_enter Tryd.func33, Tryd.ntmps33
  go_wp2_with (with_reducible refine wpList_box (o := ⟨some 6, .box 23 (.tmp 1), _, _, _, _⟩) ?g6 23 (.tmp 1) ?o6 (.agg [Value.int .i64 p.num, Value.int .i64 (p.den : Int)].toArray) [Value.int .i64 p.num, Value.int .i64 (p.den : Int)] ?x6 ?c6 ?_)
  try (case g6 => rfl)
  try (case o6 => rfl)
  try (case x6 => rfl)
  try (case c6 => rfl)
  intro g6 w1 hg6 hs1 hb1 B6
  have hb1 := hb1.mono (Nat.le_of_eq hg6.out.symm)
  have hbe : Below w.heap.size w w1 := hb1
  clear hb1 hg6 hs1
  go_wp2_with (with_reducible refine wpList_box (o := ⟨some 7, .box 23 (.tmp 2), _, _, _, _⟩) ?g7 23 (.tmp 2) ?o7 (.agg [Value.int .i64 q.num, Value.int .i64 (q.den : Int)].toArray) [Value.int .i64 q.num, Value.int .i64 (q.den : Int)] ?x7 ?c7 ?_)
  try (case g7 => rfl)
  try (case o7 => rfl)
  try (case x7 => rfl)
  try (case c7 => rfl)
  intro g7 w2 hg7 hs2 hb2 B7
  have hb2 := hb2.mono (Nat.le_of_eq hg7.out.symm)
  have B6 := B6.next hb2 B6.lt
  have hbe := below_join hbe hb2
  clear hb2 hg7 hs2
  go_wp2_with (with_reducible refine wpList_box (o := ⟨some 9, .box 23 (.tmp 4), _, _, _, _⟩) ?g9 23 (.tmp 4) ?o9 (.agg [Value.int .i64 r.num, Value.int .i64 (r.den : Int)].toArray) [Value.int .i64 r.num, Value.int .i64 (r.den : Int)] ?x9 ?c9 ?_)
  try (case g9 => rfl)
  try (case o9 => rfl)
  try (case x9 => rfl)
  try (case c9 => rfl)
  intro g9 w3 hg9 hs3 hb3 B9
  have hb3 := hb3.mono (Nat.le_of_eq hg9.out.symm)
  have B6 := B6.next hb3 B6.lt
  have B7 := B7.next hb3 B7.lt
  have hbe := below_join hbe hb3
  clear hb3 hg9 hs3
  go_wp2_with (with_reducible refine wpList_alloc (o := ⟨some 10, .alloc 23, _, _, _, _⟩) (by with_unfolding_all rfl) 23 (by with_unfolding_all rfl) (.agg zC.toArray) zC (by exact Tryd.zeroQ) (by with_unfolding_all rfl) ?_)
  intro g10 w4 hg10 hs4 hb4 B10
  have hl10 : w.heap.size ≤ g10 := Nat.le_trans hbe.size (Nat.le_of_eq hg10.out.symm)
  have ne6_10 : g6 ≠ g10 := by have := B6.lt; have := hg10.out; omega
  have ne7_10 : g7 ≠ g10 := by have := B7.lt; have := hg10.out; omega
  have ne9_10 : g9 ≠ g10 := by have := B9.lt; have := hg10.out; omega
  have hb4 := hb4.mono (Nat.le_of_eq hg10.out.symm)
  have B6 := B6.next hb4 B6.lt
  have B7 := B7.next hb4 B7.lt
  have B9 := B9.next hb4 B9.lt
  have hbe := below_join hbe hb4
  clear hb4 hg10 hs4
  have z60 := B6.cell (k := 0) rfl
  have z61 := B6.cell (k := 1) rfl
  have z70 := B7.cell (k := 0) rfl
  have z71 := B7.cell (k := 1) rfl
  go_wp2_with fail
  (with_reducible refine (X1.out _).mono ?_)
  rintro e w5 ⟨rfl, hb5⟩
  have B6 := B6.next hb5 B6.lt
  have B7 := B7.next hb5 B7.lt
  have B9 := B9.next hb5 B9.lt
  have B10 := B10.next hb5 B10.lt
  have hbe := below_join hbe hb5
  clear hb5
  clear z60 z61 z70 z71
  go_wp2_with (with_reducible refine wpList_alloc (o := ⟨some 12, .alloc 23, _, _, _, _⟩) (by with_unfolding_all rfl) 23 (by with_unfolding_all rfl) (.agg zC.toArray) zC (by exact Tryd.zeroQ) (by with_unfolding_all rfl) ?_)
  intro g12 w6 hg12 hs6 hb6 B12
  have hl12 : w.heap.size ≤ g12 := Nat.le_trans hbe.size (Nat.le_of_eq hg12.out.symm)
  have ne6_12 : g6 ≠ g12 := by have := B6.lt; have := hg12.out; omega
  have ne7_12 : g7 ≠ g12 := by have := B7.lt; have := hg12.out; omega
  have ne9_12 : g9 ≠ g12 := by have := B9.lt; have := hg12.out; omega
  have ne10_12 : g10 ≠ g12 := by have := B10.lt; have := hg12.out; omega
  have hb6 := hb6.mono (Nat.le_of_eq hg12.out.symm)
  have B6 := B6.next hb6 B6.lt
  have B7 := B7.next hb6 B7.lt
  have B9 := B9.next hb6 B9.lt
  have B10 := B10.next hb6 B10.lt
  have hbe := below_join hbe hb6
  clear hb6 hg12 hs6
  go_wp2_with (with_reducible refine wpList_put (o := ⟨none, .store 23 (.tmp 12) (.tmp 21), _, _, _, _⟩) (by with_unfolding_all rfl) 23 (.tmp 12) (.tmp 21) (by with_unfolding_all rfl) g12 0 (by with_unfolding_all rfl) (.agg [Value.int .i64 N1, Value.int .i64 D1].toArray) (by with_unfolding_all rfl) B12 [Value.int .i64 N1, Value.int .i64 D1] (by with_unfolding_all rfl) (by with_unfolding_all (exact Tryd.szQ)) (by with_unfolding_all (exact Nat.le_refl 2)) (by with_unfolding_all (exact int_one _ _)) ?_)
  clear B12
  intro w7 hu7 B12
  rw [splice_all _ _ (by rfl)] at B12
  have hbe := hbe.trans (hu7.below (B := w.heap.size) hl12)
  have B6 := B6.upd hu7 (by first | exact ne6_12 | exact ne12_6.symm)
  have B7 := B7.upd hu7 (by first | exact ne7_12 | exact ne12_7.symm)
  have B9 := B9.upd hu7 (by first | exact ne9_12 | exact ne12_9.symm)
  have B10 := B10.upd hu7 (by first | exact ne10_12 | exact ne12_10.symm)
  clear hu7
  rcases G1.out with ⟨f1, rfl, rfl, rfl⟩ | ⟨f1, rfl, _, _⟩
  · skip
    have X2 := Lib.hid (X2.out f1)
    have z120 := B12.cell (k := 0) rfl
    have z121 := B12.cell (k := 1) rfl
    have z90 := B9.cell (k := 0) rfl
    have z91 := B9.cell (k := 1) rfl
    go_wp2_with fail
    (with_reducible refine (X2.out _).mono ?_)
    rintro e w8 ⟨rfl, hb8⟩
    have B6 := B6.next hb8 B6.lt
    have B7 := B7.next hb8 B7.lt
    have B9 := B9.next hb8 B9.lt
    have B10 := B10.next hb8 B10.lt
    have B12 := B12.next hb8 B12.lt
    have hbe := below_join hbe hb8
    clear hb8
    clear z120 z121 z90 z91
    go_wp2_with (with_reducible refine wpList_alloc (o := ⟨some 14, .alloc 23, _, _, _, _⟩) (by with_unfolding_all rfl) 23 (by with_unfolding_all rfl) (.agg zC.toArray) zC (by exact Tryd.zeroQ) (by with_unfolding_all rfl) ?_)
    intro g14 w9 hg14 hs9 hb9 B14
    have hl14 : w.heap.size ≤ g14 := Nat.le_trans hbe.size (Nat.le_of_eq hg14.out.symm)
    have ne6_14 : g6 ≠ g14 := by have := B6.lt; have := hg14.out; omega
    have ne7_14 : g7 ≠ g14 := by have := B7.lt; have := hg14.out; omega
    have ne9_14 : g9 ≠ g14 := by have := B9.lt; have := hg14.out; omega
    have ne10_14 : g10 ≠ g14 := by have := B10.lt; have := hg14.out; omega
    have ne12_14 : g12 ≠ g14 := by have := B12.lt; have := hg14.out; omega
    have hb9 := hb9.mono (Nat.le_of_eq hg14.out.symm)
    have B6 := B6.next hb9 B6.lt
    have B7 := B7.next hb9 B7.lt
    have B9 := B9.next hb9 B9.lt
    have B10 := B10.next hb9 B10.lt
    have B12 := B12.next hb9 B12.lt
    have hbe := below_join hbe hb9
    clear hb9 hg14 hs9
    go_wp2_with (with_reducible refine wpList_put (o := ⟨none, .store 23 (.tmp 14) (.tmp 31), _, _, _, _⟩) (by with_unfolding_all rfl) 23 (.tmp 14) (.tmp 31) (by with_unfolding_all rfl) g14 0 (by with_unfolding_all rfl) (.agg [Value.int .i64 N2, Value.int .i64 D2].toArray) (by with_unfolding_all rfl) B14 [Value.int .i64 N2, Value.int .i64 D2] (by with_unfolding_all rfl) (by with_unfolding_all (exact Tryd.szQ)) (by with_unfolding_all (exact Nat.le_refl 2)) (by with_unfolding_all (exact int_one _ _)) ?_)
    clear B14
    intro w10 hu10 B14
    rw [splice_all _ _ (by rfl)] at B14
    have hbe := hbe.trans (hu10.below (B := w.heap.size) hl14)
    have B6 := B6.upd hu10 (by first | exact ne6_14 | exact ne14_6.symm)
    have B7 := B7.upd hu10 (by first | exact ne7_14 | exact ne14_7.symm)
    have B9 := B9.upd hu10 (by first | exact ne9_14 | exact ne14_9.symm)
    have B10 := B10.upd hu10 (by first | exact ne10_14 | exact ne14_10.symm)
    have B12 := B12.upd hu10 (by first | exact ne12_14 | exact ne14_12.symm)
    clear hu10
    have z140 := B14.cell (k := 0) rfl
    have z141 := B14.cell (k := 1) rfl
    have ne10_x : True := trivial
    rcases G2.out with ⟨f2, rfl, rfl, rfl⟩ | ⟨f2, rfl, rfl, rfl⟩
    · skip
      have he : bothE (p * q) ((p * q) * r) = .returned (.tuple #[.agg [Value.int .i64 ((p * q) * r).num, Value.int .i64 (((p * q) * r).den : Int)].toArray, .bool true]) := by unfold bothE; rw [if_pos ⟨f1, f2⟩]; rfl
      have HE := Lib.hid he
      clear he
      go_wp2_with (with_reducible refine wpList_put (o := ⟨none, .store 23 (.tmp 10) (.tmp 33), _, _, _, _⟩) (by with_unfolding_all rfl) 23 (.tmp 10) (.tmp 33) (by with_unfolding_all rfl) g10 0 (by with_unfolding_all rfl) (.agg [Value.int .i64 ((p * q) * r).num, Value.int .i64 (((p * q) * r).den : Int)].toArray) (by with_unfolding_all rfl) B10 [Value.int .i64 ((p * q) * r).num, Value.int .i64 (((p * q) * r).den : Int)] (by with_unfolding_all rfl) (by with_unfolding_all (exact Tryd.szQ)) (by with_unfolding_all (exact Nat.le_refl 2)) (by with_unfolding_all (exact int_one _ _)) ?_)
      clear B10
      intro w11 hu11 B10
      rw [splice_all _ _ (by rfl)] at B10
      have hbe := hbe.trans (hu11.below (B := w.heap.size) hl10)
      clear hu11
      go_wp2
      exact bodyPost_ret (results_cell_two rfl _ _ g10 _ _ _ _ _ rfl rfl B10 Tryd.underlying23 rfl Tryd.szQ) rfl ⟨by rw [HE.out]; rfl, hbe⟩
    · skip
      have he : bothE (p * q) ((p * q) * r) = .returned (.tuple #[.agg [Value.int .i64 0, Value.int .i64 0].toArray, .bool false]) := by unfold bothE; rw [if_neg (fun h => f2 h.2)]; rfl
      have HE := Lib.hid he
      clear he
      go_wp2_with (with_reducible refine wpList_put (o := ⟨none, .store 23 (.tmp 10) (.tmp 33), _, _, _, _⟩) (by with_unfolding_all rfl) 23 (.tmp 10) (.tmp 33) (by with_unfolding_all rfl) g10 0 (by with_unfolding_all rfl) (.agg [Value.int .i64 0, Value.int .i64 0].toArray) (by with_unfolding_all rfl) B10 [Value.int .i64 0, Value.int .i64 0] (by with_unfolding_all rfl) (by with_unfolding_all (exact Tryd.szQ)) (by with_unfolding_all (exact Nat.le_refl 2)) (by with_unfolding_all (exact int_one _ _)) ?_)
      clear B10
      intro w11 hu11 B10
      rw [splice_all _ _ (by rfl)] at B10
      have hbe := hbe.trans (hu11.below (B := w.heap.size) hl10)
      clear hu11
      go_wp2
      exact bodyPost_ret (results_cell_two rfl _ _ g10 _ _ _ _ _ rfl rfl B10 Tryd.underlying23 rfl Tryd.szQ) rfl ⟨by rw [HE.out]; rfl, hbe⟩
  · skip
    have he : bothE (p * q) ((p * q) * r) = .returned (.tuple #[.agg zC.toArray, .bool false]) := by unfold bothE; rw [if_neg (fun h => f1 h.1)]
    have HE := Lib.hid he
    clear he
    go_wp2_with (first | (with_reducible refine wpList_build (o := ⟨some 25, .build 23 #[], _, _, _, _⟩) (by with_unfolding_all rfl) 23 #[] (by with_unfolding_all rfl) #[] (by with_unfolding_all rfl) (.agg zC.toArray) (by with_unfolding_all exact fun w => run_buildQ0 w) ?_) | (with_reducible refine wpList_put (o := ⟨none, .store 23 (.tmp 10) (.tmp 25), _, _, _, _⟩) (by with_unfolding_all rfl) 23 (.tmp 10) (.tmp 25) (by with_unfolding_all rfl) g10 0 (by with_unfolding_all rfl) (.agg zC.toArray) (by with_unfolding_all rfl) B10 zC (by with_unfolding_all rfl) (by with_unfolding_all (exact Tryd.szQ)) (by with_unfolding_all (exact Nat.le_refl 2)) (by with_unfolding_all (exact int_one _ _)) ?_))
    clear B10
    intro w8 hu8 B10
    rw [splice_all _ _ (by rfl)] at B10
    have hbe := hbe.trans (hu8.below (B := w.heap.size) hl10)
    clear hu8
    go_wp2
    exact bodyPost_ret (results_cell_two rfl _ _ g10 _ _ _ _ _ rfl rfl B10 Tryd.underlying23 rfl Tryd.szQ) rfl ⟨by rw [HE.out]; rfl, hbe⟩
set_option maxRecDepth 100000 in
set_option maxHeartbeats 3200000 in
theorem bothAM_any (p q r : Rat) (w : World) (hp : fits p) (hq : fits q) (hr : fits r) :
    Calls Tryd.prog 33 #[.func (.func 17) #[] #[], .agg (qC p).toArray, .agg (qC q).toArray, .func (.func 21) #[] #[], .agg (qC r).toArray] w fun e w' => e = bothE (p + q) ((p + q) * r) ∧ Below w.heap.size w w' := by
  have hp2 : qC p = [Value.int .i64 p.num, Value.int .i64 (p.den : Int)] := rfl
  have hq2 : qC q = [Value.int .i64 q.num, Value.int .i64 (q.den : Int)] := rfl
  have hr2 : qC r = [Value.int .i64 r.num, Value.int .i64 (r.den : Int)] := rfl
  obtain ⟨N1, D1, k1, h1, g1⟩ := ansQ_three (p + q)
  have x1 := fun w => add_any p q w hp hq
  rw [h1, hp2, hq2] at x1
  have X1 := Lib.hid x1
  obtain ⟨N2, D2, k2, h2, g2⟩ := ansQ_three ((p + q) * r)
  have x2 : fits (p + q) → ∀ w, Calls Tryd.prog 21 #[.agg [Value.int .i64 (p + q).num, Value.int .i64 ((p + q).den : Int)].toArray, .agg [Value.int .i64 r.num, Value.int .i64 (r.den : Int)].toArray] w fun e w' => e = .returned (.tuple #[.agg #[.int .i64 N2, .int .i64 D2], .int .i64 k2]) ∧ Below w.heap.size w w' := fun h w => by
    have x := mul_any (p + q) r w h hr
    rw [h2, hr2, show qC (p + q) = [Value.int .i64 (p + q).num, Value.int .i64 ((p + q).den : Int)] from rfl] at x
    exact x
  have X2 := Lib.hid x2
  have G1 := Lib.hid g1
  have G2 := Lib.hid g2
  rw [hp2, hq2, hr2]
  clear x1 x2 g1 g2 h1 h2 hp hq hr hp2 hq2 hr2
  go_enter Tryd.func33, Tryd.ntmps33
  go_wp2_with (with_reducible refine wpList_box (o := ⟨some 6, .box 23 (.tmp 1), _, _, _, _⟩) ?g6 23 (.tmp 1) ?o6 (.agg [Value.int .i64 p.num, Value.int .i64 (p.den : Int)].toArray) [Value.int .i64 p.num, Value.int .i64 (p.den : Int)] ?x6 ?c6 ?_)
  try (case g6 => rfl)
  try (case o6 => rfl)
  try (case x6 => rfl)
  try (case c6 => rfl)
  intro g6 w1 hg6 hs1 hb1 B6
  have hb1 := hb1.mono (Nat.le_of_eq hg6.out.symm)
  have hbe : Below w.heap.size w w1 := hb1
  clear hb1 hg6 hs1
  go_wp2_with (with_reducible refine wpList_box (o := ⟨some 7, .box 23 (.tmp 2), _, _, _, _⟩) ?g7 23 (.tmp 2) ?o7 (.agg [Value.int .i64 q.num, Value.int .i64 (q.den : Int)].toArray) [Value.int .i64 q.num, Value.int .i64 (q.den : Int)] ?x7 ?c7 ?_)
  try (case g7 => rfl)
  try (case o7 => rfl)
  try (case x7 => rfl)
  try (case c7 => rfl)
  intro g7 w2 hg7 hs2 hb2 B7
  have hb2 := hb2.mono (Nat.le_of_eq hg7.out.symm)
  have B6 := B6.next hb2 B6.lt
  have hbe := below_join hbe hb2
  clear hb2 hg7 hs2
  go_wp2_with (with_reducible refine wpList_box (o := ⟨some 9, .box 23 (.tmp 4), _, _, _, _⟩) ?g9 23 (.tmp 4) ?o9 (.agg [Value.int .i64 r.num, Value.int .i64 (r.den : Int)].toArray) [Value.int .i64 r.num, Value.int .i64 (r.den : Int)] ?x9 ?c9 ?_)
  try (case g9 => rfl)
  try (case o9 => rfl)
  try (case x9 => rfl)
  try (case c9 => rfl)
  intro g9 w3 hg9 hs3 hb3 B9
  have hb3 := hb3.mono (Nat.le_of_eq hg9.out.symm)
  have B6 := B6.next hb3 B6.lt
  have B7 := B7.next hb3 B7.lt
  have hbe := below_join hbe hb3
  clear hb3 hg9 hs3
  go_wp2_with (with_reducible refine wpList_alloc (o := ⟨some 10, .alloc 23, _, _, _, _⟩) (by with_unfolding_all rfl) 23 (by with_unfolding_all rfl) (.agg zC.toArray) zC (by exact Tryd.zeroQ) (by with_unfolding_all rfl) ?_)
  intro g10 w4 hg10 hs4 hb4 B10
  have hl10 : w.heap.size ≤ g10 := Nat.le_trans hbe.size (Nat.le_of_eq hg10.out.symm)
  have ne6_10 : g6 ≠ g10 := by have := B6.lt; have := hg10.out; omega
  have ne7_10 : g7 ≠ g10 := by have := B7.lt; have := hg10.out; omega
  have ne9_10 : g9 ≠ g10 := by have := B9.lt; have := hg10.out; omega
  have hb4 := hb4.mono (Nat.le_of_eq hg10.out.symm)
  have B6 := B6.next hb4 B6.lt
  have B7 := B7.next hb4 B7.lt
  have B9 := B9.next hb4 B9.lt
  have hbe := below_join hbe hb4
  clear hb4 hg10 hs4
  have z60 := B6.cell (k := 0) rfl
  have z61 := B6.cell (k := 1) rfl
  have z70 := B7.cell (k := 0) rfl
  have z71 := B7.cell (k := 1) rfl
  go_wp2_with fail
  (with_reducible refine (X1.out _).mono ?_)
  rintro e w5 ⟨rfl, hb5⟩
  have B6 := B6.next hb5 B6.lt
  have B7 := B7.next hb5 B7.lt
  have B9 := B9.next hb5 B9.lt
  have B10 := B10.next hb5 B10.lt
  have hbe := below_join hbe hb5
  clear hb5
  clear z60 z61 z70 z71
  go_wp2_with (with_reducible refine wpList_alloc (o := ⟨some 12, .alloc 23, _, _, _, _⟩) (by with_unfolding_all rfl) 23 (by with_unfolding_all rfl) (.agg zC.toArray) zC (by exact Tryd.zeroQ) (by with_unfolding_all rfl) ?_)
  intro g12 w6 hg12 hs6 hb6 B12
  have hl12 : w.heap.size ≤ g12 := Nat.le_trans hbe.size (Nat.le_of_eq hg12.out.symm)
  have ne6_12 : g6 ≠ g12 := by have := B6.lt; have := hg12.out; omega
  have ne7_12 : g7 ≠ g12 := by have := B7.lt; have := hg12.out; omega
  have ne9_12 : g9 ≠ g12 := by have := B9.lt; have := hg12.out; omega
  have ne10_12 : g10 ≠ g12 := by have := B10.lt; have := hg12.out; omega
  have hb6 := hb6.mono (Nat.le_of_eq hg12.out.symm)
  have B6 := B6.next hb6 B6.lt
  have B7 := B7.next hb6 B7.lt
  have B9 := B9.next hb6 B9.lt
  have B10 := B10.next hb6 B10.lt
  have hbe := below_join hbe hb6
  clear hb6 hg12 hs6
  go_wp2_with (with_reducible refine wpList_put (o := ⟨none, .store 23 (.tmp 12) (.tmp 21), _, _, _, _⟩) (by with_unfolding_all rfl) 23 (.tmp 12) (.tmp 21) (by with_unfolding_all rfl) g12 0 (by with_unfolding_all rfl) (.agg [Value.int .i64 N1, Value.int .i64 D1].toArray) (by with_unfolding_all rfl) B12 [Value.int .i64 N1, Value.int .i64 D1] (by with_unfolding_all rfl) (by with_unfolding_all (exact Tryd.szQ)) (by with_unfolding_all (exact Nat.le_refl 2)) (by with_unfolding_all (exact int_one _ _)) ?_)
  clear B12
  intro w7 hu7 B12
  rw [splice_all _ _ (by rfl)] at B12
  have hbe := hbe.trans (hu7.below (B := w.heap.size) hl12)
  have B6 := B6.upd hu7 (by first | exact ne6_12 | exact ne12_6.symm)
  have B7 := B7.upd hu7 (by first | exact ne7_12 | exact ne12_7.symm)
  have B9 := B9.upd hu7 (by first | exact ne9_12 | exact ne12_9.symm)
  have B10 := B10.upd hu7 (by first | exact ne10_12 | exact ne12_10.symm)
  clear hu7
  rcases G1.out with ⟨f1, rfl, rfl, rfl⟩ | ⟨f1, rfl, _, _⟩
  · skip
    have X2 := Lib.hid (X2.out f1)
    have z120 := B12.cell (k := 0) rfl
    have z121 := B12.cell (k := 1) rfl
    have z90 := B9.cell (k := 0) rfl
    have z91 := B9.cell (k := 1) rfl
    go_wp2_with fail
    (with_reducible refine (X2.out _).mono ?_)
    rintro e w8 ⟨rfl, hb8⟩
    have B6 := B6.next hb8 B6.lt
    have B7 := B7.next hb8 B7.lt
    have B9 := B9.next hb8 B9.lt
    have B10 := B10.next hb8 B10.lt
    have B12 := B12.next hb8 B12.lt
    have hbe := below_join hbe hb8
    clear hb8
    clear z120 z121 z90 z91
    go_wp2_with (with_reducible refine wpList_alloc (o := ⟨some 14, .alloc 23, _, _, _, _⟩) (by with_unfolding_all rfl) 23 (by with_unfolding_all rfl) (.agg zC.toArray) zC (by exact Tryd.zeroQ) (by with_unfolding_all rfl) ?_)
    intro g14 w9 hg14 hs9 hb9 B14
    have hl14 : w.heap.size ≤ g14 := Nat.le_trans hbe.size (Nat.le_of_eq hg14.out.symm)
    have ne6_14 : g6 ≠ g14 := by have := B6.lt; have := hg14.out; omega
    have ne7_14 : g7 ≠ g14 := by have := B7.lt; have := hg14.out; omega
    have ne9_14 : g9 ≠ g14 := by have := B9.lt; have := hg14.out; omega
    have ne10_14 : g10 ≠ g14 := by have := B10.lt; have := hg14.out; omega
    have ne12_14 : g12 ≠ g14 := by have := B12.lt; have := hg14.out; omega
    have hb9 := hb9.mono (Nat.le_of_eq hg14.out.symm)
    have B6 := B6.next hb9 B6.lt
    have B7 := B7.next hb9 B7.lt
    have B9 := B9.next hb9 B9.lt
    have B10 := B10.next hb9 B10.lt
    have B12 := B12.next hb9 B12.lt
    have hbe := below_join hbe hb9
    clear hb9 hg14 hs9
    go_wp2_with (with_reducible refine wpList_put (o := ⟨none, .store 23 (.tmp 14) (.tmp 31), _, _, _, _⟩) (by with_unfolding_all rfl) 23 (.tmp 14) (.tmp 31) (by with_unfolding_all rfl) g14 0 (by with_unfolding_all rfl) (.agg [Value.int .i64 N2, Value.int .i64 D2].toArray) (by with_unfolding_all rfl) B14 [Value.int .i64 N2, Value.int .i64 D2] (by with_unfolding_all rfl) (by with_unfolding_all (exact Tryd.szQ)) (by with_unfolding_all (exact Nat.le_refl 2)) (by with_unfolding_all (exact int_one _ _)) ?_)
    clear B14
    intro w10 hu10 B14
    rw [splice_all _ _ (by rfl)] at B14
    have hbe := hbe.trans (hu10.below (B := w.heap.size) hl14)
    have B6 := B6.upd hu10 (by first | exact ne6_14 | exact ne14_6.symm)
    have B7 := B7.upd hu10 (by first | exact ne7_14 | exact ne14_7.symm)
    have B9 := B9.upd hu10 (by first | exact ne9_14 | exact ne14_9.symm)
    have B10 := B10.upd hu10 (by first | exact ne10_14 | exact ne14_10.symm)
    have B12 := B12.upd hu10 (by first | exact ne12_14 | exact ne14_12.symm)
    clear hu10
    have z140 := B14.cell (k := 0) rfl
    have z141 := B14.cell (k := 1) rfl
    have ne10_x : True := trivial
    rcases G2.out with ⟨f2, rfl, rfl, rfl⟩ | ⟨f2, rfl, rfl, rfl⟩
    · skip
      have he : bothE (p + q) ((p + q) * r) = .returned (.tuple #[.agg [Value.int .i64 ((p + q) * r).num, Value.int .i64 (((p + q) * r).den : Int)].toArray, .bool true]) := by unfold bothE; rw [if_pos ⟨f1, f2⟩]; rfl
      have HE := Lib.hid he
      clear he
      go_wp2_with (with_reducible refine wpList_put (o := ⟨none, .store 23 (.tmp 10) (.tmp 33), _, _, _, _⟩) (by with_unfolding_all rfl) 23 (.tmp 10) (.tmp 33) (by with_unfolding_all rfl) g10 0 (by with_unfolding_all rfl) (.agg [Value.int .i64 ((p + q) * r).num, Value.int .i64 (((p + q) * r).den : Int)].toArray) (by with_unfolding_all rfl) B10 [Value.int .i64 ((p + q) * r).num, Value.int .i64 (((p + q) * r).den : Int)] (by with_unfolding_all rfl) (by with_unfolding_all (exact Tryd.szQ)) (by with_unfolding_all (exact Nat.le_refl 2)) (by with_unfolding_all (exact int_one _ _)) ?_)
      clear B10
      intro w11 hu11 B10
      rw [splice_all _ _ (by rfl)] at B10
      have hbe := hbe.trans (hu11.below (B := w.heap.size) hl10)
      clear hu11
      go_wp2
      exact bodyPost_ret (results_cell_two rfl _ _ g10 _ _ _ _ _ rfl rfl B10 Tryd.underlying23 rfl Tryd.szQ) rfl ⟨by rw [HE.out]; rfl, hbe⟩
    · skip
      have he : bothE (p + q) ((p + q) * r) = .returned (.tuple #[.agg [Value.int .i64 0, Value.int .i64 0].toArray, .bool false]) := by unfold bothE; rw [if_neg (fun h => f2 h.2)]; rfl
      have HE := Lib.hid he
      clear he
      go_wp2_with (with_reducible refine wpList_put (o := ⟨none, .store 23 (.tmp 10) (.tmp 33), _, _, _, _⟩) (by with_unfolding_all rfl) 23 (.tmp 10) (.tmp 33) (by with_unfolding_all rfl) g10 0 (by with_unfolding_all rfl) (.agg [Value.int .i64 0, Value.int .i64 0].toArray) (by with_unfolding_all rfl) B10 [Value.int .i64 0, Value.int .i64 0] (by with_unfolding_all rfl) (by with_unfolding_all (exact Tryd.szQ)) (by with_unfolding_all (exact Nat.le_refl 2)) (by with_unfolding_all (exact int_one _ _)) ?_)
      clear B10
      intro w11 hu11 B10
      rw [splice_all _ _ (by rfl)] at B10
      have hbe := hbe.trans (hu11.below (B := w.heap.size) hl10)
      clear hu11
      go_wp2
      exact bodyPost_ret (results_cell_two rfl _ _ g10 _ _ _ _ _ rfl rfl B10 Tryd.underlying23 rfl Tryd.szQ) rfl ⟨by rw [HE.out]; rfl, hbe⟩
  · skip
    have he : bothE (p + q) ((p + q) * r) = .returned (.tuple #[.agg zC.toArray, .bool false]) := by unfold bothE; rw [if_neg (fun h => f1 h.1)]
    have HE := Lib.hid he
    clear he
    go_wp2_with (first | (with_reducible refine wpList_build (o := ⟨some 25, .build 23 #[], _, _, _, _⟩) (by with_unfolding_all rfl) 23 #[] (by with_unfolding_all rfl) #[] (by with_unfolding_all rfl) (.agg zC.toArray) (by with_unfolding_all exact fun w => run_buildQ0 w) ?_) | (with_reducible refine wpList_put (o := ⟨none, .store 23 (.tmp 10) (.tmp 25), _, _, _, _⟩) (by with_unfolding_all rfl) 23 (.tmp 10) (.tmp 25) (by with_unfolding_all rfl) g10 0 (by with_unfolding_all rfl) (.agg zC.toArray) (by with_unfolding_all rfl) B10 zC (by with_unfolding_all rfl) (by with_unfolding_all (exact Tryd.szQ)) (by with_unfolding_all (exact Nat.le_refl 2)) (by with_unfolding_all (exact int_one _ _)) ?_))
    clear B10
    intro w8 hu8 B10
    rw [splice_all _ _ (by rfl)] at B10
    have hbe := hbe.trans (hu8.below (B := w.heap.size) hl10)
    clear hu8
    go_wp2
    exact bodyPost_ret (results_cell_two rfl _ _ g10 _ _ _ _ _ rfl rfl B10 Tryd.underlying23 rfl Tryd.szQ) rfl ⟨by rw [HE.out]; rfl, hbe⟩
end Go.Proofs.YthjaelopmfjfeaaDoor
