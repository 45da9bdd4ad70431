/-
  The walk of BitsModsMatchSpec. Conditions: the library's variable lies there.
-/
import Derived.Test.YtbldnhpbmfmepaaDoorGZ
import Derived.Test.YtbldnhpbmfmepaaDoorGD
import Derived.Test.YtbldnhpbmfmepaaDoorGI
namespace Go.Proofs.YtbldnhpbmfmepaaDoor
set_option linter.unusedVariables false
set_option linter.unusedSimpArgs false
open Go.RowKit

set_option maxRecDepth 100000 in
set_option maxHeartbeats 6400000 in
theorem mods_bad (m1 b1 m2 b2 lh pm pb : List Int) (w : World) (h1 : m1.length = 10) (h2 : b1.length = 10) (h3 : m2.length = 10) (h4 : b2.length = 10) (h5 : lh.length = 10) (h6 : pm.length = 10) (h7 : pb.length = 10) (hG : GOk w)
    (hbad : ¬ (pairI m1 b1 = true ∧ pairI m2 b2 = true ∧ rightI lh ∧ pairI pm pb = true)) :
    Calls Tryd.prog 4 #[.agg (m1.map iV ++ b1.map iV).toArray, .agg (m2.map iV ++ b2.map iV).toArray, .agg (lh.map iV).toArray, .agg (pm.map iV ++ pb.map iV).toArray] w fun e w' => e = .returned (.bool true) ∧ Below w.heap.size w w' := by
  have c1 := fun w => rightMod_any m1 b1 w h1 h2
  have c2 := fun w => rrightMod_any m1 b1 w h1 h2
  have c3 := fun w => rrightMod_any m2 b2 w h3 h4
  have c4 := fun w => heads_any lh lh w h5 h5
  have c5 := fun w => rright_any pm pb w h6 h7
  obtain ⟨A, hA⟩ : ∃ A, pairI m1 b1 = A := ⟨_, rfl⟩
  obtain ⟨B, hB⟩ : ∃ A, pairI m2 b2 = A := ⟨_, rfl⟩
  obtain ⟨C, hC⟩ : ∃ A, (decide (rightI lh) && decide (rightI lh)) = A := ⟨_, rfl⟩
  obtain ⟨D, hD⟩ : ∃ A, pairI pm pb = A := ⟨_, rfl⟩
  have hno : Hid (¬ (A = true ∧ B = true ∧ C = true ∧ D = true)) := by
    have : ¬ (A = true ∧ B = true ∧ C = true ∧ D = true) := fun hc => hbad (by
      have a3 := hC.trans hc.2.2.1
      rw [Bool.and_self, decide_eq_true_eq] at a3
      exact ⟨hA.trans hc.1, hB.trans hc.2.1, a3, hD.trans hc.2.2.2⟩)
    exact this
  rw [hA] at c1 c2
  rw [hB] at c3
  rw [hC] at c4
  rw [hD] at c5
  have C1 := Lib.hid c1
  have C2 := Lib.hid c2
  have C3 := Lib.hid c3
  have C4 := Lib.hid c4
  have C5 := Lib.hid c5
  have HG := Lib.hid hG
  have z1 : (Tryd.prog.info? 43).map (·.size) = some (m1.map iV ++ b1.map iV).length := by rw [List.length_append, List.length_map, List.length_map, h1, h2]; exact Tryd.szM
  have z2 : (Tryd.prog.info? 43).map (·.size) = some (m2.map iV ++ b2.map iV).length := by rw [List.length_append, List.length_map, List.length_map, h3, h4]; exact Tryd.szM
  have z3 : (Tryd.prog.info? 23).map (·.size) = some (lh.map iV).length := by rw [List.length_map, h5]; exact Tryd.szH
  have z4 : (Tryd.prog.info? 25).map (·.size) = some (pm.map iV ++ pb.map iV).length := by rw [List.length_append, List.length_map, List.length_map, h6, h7]; exact Tryd.szP
  have Z1 := Lib.hid z1
  have Z2 := Lib.hid z2
  have Z3 := Lib.hid z3
  have Z4 := Lib.hid z4
  clear c1 c2 c3 c4 c5 h1 h2 h3 h4 h5 h6 h7 hG hbad hA hB hC hD z1 z2 z3 z4
  go_enter Tryd.func4, Tryd.ntmps4
  go_wp2_with (with_reducible refine wpList_box (o := ⟨some 4, .box 43 (.tmp 0), _, _, _, _⟩) ?g4 43 (.tmp 0) ?o4 (.agg (m1.map iV ++ b1.map iV).toArray) (m1.map iV ++ b1.map iV) ?x4 ?c4 ?_)
  try (case g4 => rfl)
  try (case o4 => rfl)
  try (case x4 => rfl)
  try (case c4 => rfl)
  intro g4 w1 hg4 hs1 hb1 B4
  have hb1 := hb1.mono (Nat.le_of_eq hg4.out.symm)
  have hbe : Below w.heap.size w w1 := hb1
  clear hb1 hg4 hs1
  go_wp2_with (with_reducible refine wpList_box (o := ⟨some 5, .box 43 (.tmp 1), _, _, _, _⟩) ?g5 43 (.tmp 1) ?o5 (.agg (m2.map iV ++ b2.map iV).toArray) (m2.map iV ++ b2.map iV) ?x5 ?c5 ?_)
  try (case g5 => rfl)
  try (case o5 => rfl)
  try (case x5 => rfl)
  try (case c5 => rfl)
  intro g5 w2 hg5 hs2 hb2 B5
  have hb2 := hb2.mono (Nat.le_of_eq hg5.out.symm)
  have B4 := B4.next hb2 B4.lt
  have hbe := below_join hbe hb2
  clear hb2 hg5 hs2
  go_wp2_with (with_reducible refine wpList_box (o := ⟨some 6, .box 23 (.tmp 2), _, _, _, _⟩) ?g6 23 (.tmp 2) ?o6 (.agg (lh.map iV).toArray) (lh.map iV) ?x6 ?c6 ?_)
  try (case g6 => rfl)
  try (case o6 => rfl)
  try (case x6 => rfl)
  try (case c6 => rfl)
  intro g6 w3 hg6 hs3 hb3 B6
  have hb3 := hb3.mono (Nat.le_of_eq hg6.out.symm)
  have B4 := B4.next hb3 B4.lt
  have B5 := B5.next hb3 B5.lt
  have hbe := below_join hbe hb3
  clear hb3 hg6 hs3
  go_wp2_with (with_reducible refine wpList_box (o := ⟨some 7, .box 25 (.tmp 3), _, _, _, _⟩) ?g7 25 (.tmp 3) ?o7 (.agg (pm.map iV ++ pb.map iV).toArray) (pm.map iV ++ pb.map iV) ?x7 ?c7 ?_)
  try (case g7 => rfl)
  try (case o7 => rfl)
  try (case x7 => rfl)
  try (case c7 => rfl)
  intro g7 w4 hg7 hs4 hb4 B7
  have hb4 := hb4.mono (Nat.le_of_eq hg7.out.symm)
  have B4 := B4.next hb4 B4.lt
  have B5 := B5.next hb4 B5.lt
  have B6 := B6.next hb4 B6.lt
  have hbe := below_join hbe hb4
  clear hb4 hg7 hs4
  go_wp2_with fail
  (with_reducible refine (sanity_any _ (HG.out.next hbe)).mono ?_)
  rintro e w5 ⟨rfl, hb5⟩
  have B4 := B4.next hb5 B4.lt
  have B5 := B5.next hb5 B5.lt
  have B6 := B6.next hb5 B6.lt
  have B7 := B7.next hb5 B7.lt
  have hbe := below_join hbe hb5
  clear hb5
  go_wp2_with (first | (with_reducible refine wpList_getg (o := ⟨some 16, .load 43 (.tmp 4), _, _, _, _⟩) (by with_unfolding_all rfl) 43 (.tmp 4) (by with_unfolding_all rfl) g4 0 (by with_unfolding_all rfl) B4 (m1.map iV ++ b1.map iV) (cs_all _) _ (by exact Tryd.underlying43) (by with_unfolding_all rfl) (by (exact Z1.out)) ?_))
  (with_reducible refine (C2.out _).mono ?_)
  rintro e w6 ⟨rfl, hb6⟩
  have B4 := B4.next hb6 B4.lt
  have B5 := B5.next hb6 B5.lt
  have B6 := B6.next hb6 B6.lt
  have B7 := B7.next hb6 B7.lt
  have hbe := below_join hbe hb6
  clear hb6
  go_wp2_with (first | (with_reducible refine wpList_getg (o := ⟨some 18, .load 43 (.tmp 4), _, _, _, _⟩) (by with_unfolding_all rfl) 43 (.tmp 4) (by with_unfolding_all rfl) g4 0 (by with_unfolding_all rfl) B4 (m1.map iV ++ b1.map iV) (cs_all _) _ (by exact Tryd.underlying43) (by with_unfolding_all rfl) (by (exact Z1.out)) ?_))
  (with_reducible refine (C1.out _).mono ?_)
  rintro e w7 ⟨rfl, hb7⟩
  have B4 := B4.next hb7 B4.lt
  have B5 := B5.next hb7 B5.lt
  have B6 := B6.next hb7 B6.lt
  have B7 := B7.next hb7 B7.lt
  have hbe := below_join hbe hb7
  clear hb7
  rcases A with _ | _
  · go_wp2
    go_ret
    exact ⟨rfl, hbe⟩
  · skip
    go_wp2_with (first | (with_reducible refine wpList_getg (o := ⟨some 25, .load 43 (.tmp 5), _, _, _, _⟩) (by with_unfolding_all rfl) 43 (.tmp 5) (by with_unfolding_all rfl) g5 0 (by with_unfolding_all rfl) B5 (m2.map iV ++ b2.map iV) (cs_all _) _ (by exact Tryd.underlying43) (by with_unfolding_all rfl) (by (exact Z2.out)) ?_))
    (with_reducible refine (C3.out _).mono ?_)
    rintro e w8 ⟨rfl, hb8⟩
    have B4 := B4.next hb8 B4.lt
    have B5 := B5.next hb8 B5.lt
    have B6 := B6.next hb8 B6.lt
    have B7 := B7.next hb8 B7.lt
    have hbe := below_join hbe hb8
    clear hb8
    rcases B with _ | _
    · go_wp2
      go_ret
      exact ⟨rfl, hbe⟩
    · skip
      go_wp2_with (first | (with_reducible refine wpList_getg (o := ⟨some 30, .load 23 (.tmp 6), _, _, _, _⟩) (by with_unfolding_all rfl) 23 (.tmp 6) (by with_unfolding_all rfl) g6 0 (by with_unfolding_all rfl) B6 (lh.map iV) (cs_all _) _ (by exact Tryd.underlying23) (by with_unfolding_all rfl) (by (exact Z3.out)) ?_) | (with_reducible refine wpList_getg (o := ⟨some 31, .load 23 (.tmp 6), _, _, _, _⟩) (by with_unfolding_all rfl) 23 (.tmp 6) (by with_unfolding_all rfl) g6 0 (by with_unfolding_all rfl) B6 (lh.map iV) (cs_all _) _ (by exact Tryd.underlying23) (by with_unfolding_all rfl) (by (exact Z3.out)) ?_))
      (with_reducible refine (C4.out _).mono ?_)
      rintro e w9 ⟨rfl, hb9⟩
      have B4 := B4.next hb9 B4.lt
      have B5 := B5.next hb9 B5.lt
      have B6 := B6.next hb9 B6.lt
      have B7 := B7.next hb9 B7.lt
      have hbe := below_join hbe hb9
      clear hb9
      rcases C with _ | _
      · go_wp2
        go_ret
        exact ⟨rfl, hbe⟩
      · skip
        go_wp2_with (first | (with_reducible refine wpList_getg (o := ⟨some 36, .load 25 (.tmp 7), _, _, _, _⟩) (by with_unfolding_all rfl) 25 (.tmp 7) (by with_unfolding_all rfl) g7 0 (by with_unfolding_all rfl) B7 (pm.map iV ++ pb.map iV) (cs_all _) _ (by exact Tryd.underlying25) (by with_unfolding_all rfl) (by (exact Z4.out)) ?_))
        (with_reducible refine (C5.out _).mono ?_)
        rintro e w10 ⟨rfl, hb10⟩
        have B4 := B4.next hb10 B4.lt
        have B5 := B5.next hb10 B5.lt
        have B6 := B6.next hb10 B6.lt
        have B7 := B7.next hb10 B7.lt
        have hbe := below_join hbe hb10
        clear hb10
        rcases D with _ | _
        · go_wp2
          go_ret
          exact ⟨rfl, hbe⟩
        · skip
          exact absurd (by refine ⟨?_, ?_, ?_, ?_⟩ <;> trivial) hno.out
set_option maxRecDepth 100000 in
set_option maxHeartbeats 12800000 in
theorem mods_good (m n : Pat) (h : Nat → Bool) (p : Pat) (w : World) (hm : m.ok) (hn : n.ok) (hp : p.ok) (hG : GOk w) :
    Calls Tryd.prog 4 #[.agg m.cells.toArray, .agg n.cells.toArray, .agg (H h).toArray, .agg p.cells.toArray] w fun e w' => e = .returned (.bool true) ∧ Below w.heap.size w w' := by
  have HM := Lib.hid hm
  have HN := Lib.hid hn
  have HP := Lib.hid hp
  have HG := Lib.hid hG
  obtain ⟨X, hX⟩ : ∃ X, p.backV m = X := ⟨_, rfl⟩
  obtain ⟨O, hO⟩ : ∃ O, decide (p.over m) = O := ⟨_, rfl⟩
  have c1 := fun w => back_any p m w
  have c2 := fun w => rback_any p m w hp
  rw [hX, hO] at c1 c2
  obtain ⟨a, ha⟩ : ∃ a, m.app h = a := ⟨_, rfl⟩
  have c3 := fun w => apply_any m h w
  have c4 := fun w => rapply_any m h w hm
  rw [ha] at c3 c4
  obtain ⟨T, hT⟩ : ∃ T, m.then n = T := ⟨_, rfl⟩
  have c5 := fun w => then_any m n w
  have c6 := fun w => rthen_any m n w hn
  rw [hT] at c5 c6
  obtain ⟨I, hI⟩ : ∃ I, p.image m = I := ⟨_, rfl⟩
  have c7 := fun w => image_any p m w
  have c8 := fun w => rimage_any p m w hm
  rw [hI] at c7 c8
  have C1 := Lib.hid c1
  have C2 := Lib.hid c2
  have C3 := Lib.hid c3
  have C4 := Lib.hid c4
  have C5 := Lib.hid c5
  have C6 := Lib.hid c6
  have C7 := Lib.hid c7
  have C8 := Lib.hid c8
  clear c1 c2 c3 c4 c5 c6 c7 c8 hX hO ha hT hI hm hn hp hG
  have eT : ∀ w, (binOp .eql 43 (.agg T.cells.toArray) (.agg T.cells.toArray)).run Tryd.prog w = .ok (.bool true) w := fun w => by rw [eql_mod]; simp
  have eI : ∀ w, (binOp .eql 25 (.agg I.cells.toArray) (.agg I.cells.toArray)).run Tryd.prog w = .ok (.bool true) w := fun w => by rw [eql_pat]; simp
  have eX : ∀ w, (binOp .eql 25 (.agg X.cells.toArray) (.agg X.cells.toArray)).run Tryd.prog w = .ok (.bool true) w := fun w => by rw [eql_pat]; simp
  have ea : ∀ w, (binOp .eql 23 (.agg (H a).toArray) (.agg (H a).toArray)).run Tryd.prog w = .ok (.bool true) w := fun w => by rw [H_iV, eql_head w _ _ (HI_length _) (HI_length _)]; simp
  have hguP := Tryd.guardP
  have hguH := Tryd.guardH
  have hguM := Tryd.guardM
  go_enter Tryd.func4, Tryd.ntmps4
  go_wp2_with (with_reducible refine wpList_box (o := ⟨some 4, .box 43 (.tmp 0), _, _, _, _⟩) ?g4 43 (.tmp 0) ?o4 (.agg m.cells.toArray) m.cells ?x4 ?c4 ?_)
  try (case g4 => rfl)
  try (case o4 => rfl)
  try (case x4 => rfl)
  try (case c4 => rfl)
  intro g4 w1 hg4 hs1 hb1 B4
  have hb1 := hb1.mono (Nat.le_of_eq hg4.out.symm)
  have hbe : Below w.heap.size w w1 := hb1
  clear hb1 hg4 hs1
  go_wp2_with (with_reducible refine wpList_box (o := ⟨some 5, .box 43 (.tmp 1), _, _, _, _⟩) ?g5 43 (.tmp 1) ?o5 (.agg n.cells.toArray) n.cells ?x5 ?c5 ?_)
  try (case g5 => rfl)
  try (case o5 => rfl)
  try (case x5 => rfl)
  try (case c5 => rfl)
  intro g5 w2 hg5 hs2 hb2 B5
  have hb2 := hb2.mono (Nat.le_of_eq hg5.out.symm)
  have B4 := B4.next hb2 B4.lt
  have hbe := below_join hbe hb2
  clear hb2 hg5 hs2
  go_wp2_with (with_reducible refine wpList_box (o := ⟨some 6, .box 23 (.tmp 2), _, _, _, _⟩) ?g6 23 (.tmp 2) ?o6 (.agg (H h).toArray) (H h) ?x6 ?c6 ?_)
  try (case g6 => rfl)
  try (case o6 => rfl)
  try (case x6 => rfl)
  try (case c6 => rfl)
  intro g6 w3 hg6 hs3 hb3 B6
  have hb3 := hb3.mono (Nat.le_of_eq hg6.out.symm)
  have B4 := B4.next hb3 B4.lt
  have B5 := B5.next hb3 B5.lt
  have hbe := below_join hbe hb3
  clear hb3 hg6 hs3
  go_wp2_with (with_reducible refine wpList_box (o := ⟨some 7, .box 25 (.tmp 3), _, _, _, _⟩) ?g7 25 (.tmp 3) ?o7 (.agg p.cells.toArray) p.cells ?x7 ?c7 ?_)
  try (case g7 => rfl)
  try (case o7 => rfl)
  try (case x7 => rfl)
  try (case c7 => rfl)
  intro g7 w4 hg7 hs4 hb4 B7
  have hb4 := hb4.mono (Nat.le_of_eq hg7.out.symm)
  have B4 := B4.next hb4 B4.lt
  have B5 := B5.next hb4 B5.lt
  have B6 := B6.next hb4 B6.lt
  have hbe := below_join hbe hb4
  clear hb4 hg7 hs4
  go_wp2_with fail
  (with_reducible refine (sanity_any _ (HG.out.next hbe)).mono ?_)
  rintro e w5 ⟨rfl, hb5⟩
  have B4 := B4.next hb5 B4.lt
  have B5 := B5.next hb5 B5.lt
  have B6 := B6.next hb5 B6.lt
  have B7 := B7.next hb5 B7.lt
  have hbe := below_join hbe hb5
  clear hb5
  go_wp2_with (first | (with_reducible refine wpList_getg (o := ⟨some 16, .load 43 (.tmp 4), _, _, _, _⟩) (by with_unfolding_all rfl) 43 (.tmp 4) (by with_unfolding_all rfl) g4 0 (by with_unfolding_all rfl) B4 m.cells (cs_all _) _ (by exact Tryd.underlying43) (by with_unfolding_all rfl) (by (rw [Pat.cells_length]; exact Tryd.szM)) ?_))
  (with_reducible refine (rrightMod_p _ HM.out).mono ?_)
  rintro e w6 ⟨rfl, hb6⟩
  have B4 := B4.next hb6 B4.lt
  have B5 := B5.next hb6 B5.lt
  have B6 := B6.next hb6 B6.lt
  have B7 := B7.next hb6 B7.lt
  have hbe := below_join hbe hb6
  clear hb6
  go_wp2_with (first | (with_reducible refine wpList_getg (o := ⟨some 18, .load 43 (.tmp 4), _, _, _, _⟩) (by with_unfolding_all rfl) 43 (.tmp 4) (by with_unfolding_all rfl) g4 0 (by with_unfolding_all rfl) B4 m.cells (cs_all _) _ (by exact Tryd.underlying43) (by with_unfolding_all rfl) (by (rw [Pat.cells_length]; exact Tryd.szM)) ?_))
  (with_reducible refine (rightMod_p _ HM.out).mono ?_)
  rintro e w7 ⟨rfl, hb7⟩
  have B4 := B4.next hb7 B4.lt
  have B5 := B5.next hb7 B5.lt
  have B6 := B6.next hb7 B6.lt
  have B7 := B7.next hb7 B7.lt
  have hbe := below_join hbe hb7
  clear hb7
  go_wp2_with (first | (with_reducible refine wpList_getg (o := ⟨some 25, .load 43 (.tmp 5), _, _, _, _⟩) (by with_unfolding_all rfl) 43 (.tmp 5) (by with_unfolding_all rfl) g5 0 (by with_unfolding_all rfl) B5 n.cells (cs_all _) _ (by exact Tryd.underlying43) (by with_unfolding_all rfl) (by (rw [Pat.cells_length]; exact Tryd.szM)) ?_))
  (with_reducible refine (rrightMod_p _ HN.out).mono ?_)
  rintro e w8 ⟨rfl, hb8⟩
  have B4 := B4.next hb8 B4.lt
  have B5 := B5.next hb8 B5.lt
  have B6 := B6.next hb8 B6.lt
  have B7 := B7.next hb8 B7.lt
  have hbe := below_join hbe hb8
  clear hb8
  go_wp2_with (first | (with_reducible refine wpList_getg (o := ⟨some 30, .load 23 (.tmp 6), _, _, _, _⟩) (by with_unfolding_all rfl) 23 (.tmp 6) (by with_unfolding_all rfl) g6 0 (by with_unfolding_all rfl) B6 (H h) (cs_all _) _ (by exact Tryd.underlying23) (by with_unfolding_all rfl) (by (rw [H_length]; exact Tryd.szH)) ?_) | (with_reducible refine wpList_getg (o := ⟨some 31, .load 23 (.tmp 6), _, _, _, _⟩) (by with_unfolding_all rfl) 23 (.tmp 6) (by with_unfolding_all rfl) g6 0 (by with_unfolding_all rfl) B6 (H h) (cs_all _) _ (by exact Tryd.underlying23) (by with_unfolding_all rfl) (by (rw [H_length]; exact Tryd.szH)) ?_))
  (with_reducible refine (heads_h _ _ _).mono ?_)
  rintro e w9 ⟨rfl, hb9⟩
  have B4 := B4.next hb9 B4.lt
  have B5 := B5.next hb9 B5.lt
  have B6 := B6.next hb9 B6.lt
  have B7 := B7.next hb9 B7.lt
  have hbe := below_join hbe hb9
  clear hb9
  go_wp2_with (first | (with_reducible refine wpList_getg (o := ⟨some 36, .load 25 (.tmp 7), _, _, _, _⟩) (by with_unfolding_all rfl) 25 (.tmp 7) (by with_unfolding_all rfl) g7 0 (by with_unfolding_all rfl) B7 p.cells (cs_all _) _ (by exact Tryd.underlying25) (by with_unfolding_all rfl) (by (rw [Pat.cells_length]; exact Tryd.szP)) ?_))
  (with_reducible refine (rright_p _ HP.out).mono ?_)
  rintro e w10 ⟨rfl, hb10⟩
  have B4 := B4.next hb10 B4.lt
  have B5 := B5.next hb10 B5.lt
  have B6 := B6.next hb10 B6.lt
  have B7 := B7.next hb10 B7.lt
  have hbe := below_join hbe hb10
  clear hb10
  go_wp2_with (first | (with_reducible refine wpList_getg (o := ⟨some 42, .load 25 (.tmp 7), _, _, _, _⟩) (by with_unfolding_all rfl) 25 (.tmp 7) (by with_unfolding_all rfl) g7 0 (by with_unfolding_all rfl) B7 p.cells (cs_all _) _ (by exact Tryd.underlying25) (by with_unfolding_all rfl) (by (rw [Pat.cells_length]; exact Tryd.szP)) ?_) | (with_reducible refine wpList_getg (o := ⟨some 43, .load 43 (.tmp 4), _, _, _, _⟩) (by with_unfolding_all rfl) 43 (.tmp 4) (by with_unfolding_all rfl) g4 0 (by with_unfolding_all rfl) B4 m.cells (cs_all _) _ (by exact Tryd.underlying43) (by with_unfolding_all rfl) (by (rw [Pat.cells_length]; exact Tryd.szM)) ?_))
  (with_reducible refine (C1.out _).mono ?_)
  rintro e w11 ⟨rfl, hb11⟩
  have B4 := B4.next hb11 B4.lt
  have B5 := B5.next hb11 B5.lt
  have B6 := B6.next hb11 B6.lt
  have B7 := B7.next hb11 B7.lt
  have hbe := below_join hbe hb11
  clear hb11
  go_wp2_with (with_reducible refine wpList_alloc (o := ⟨some 11, .alloc 25, _, _, _, _⟩) (by with_unfolding_all rfl) 25 (by with_unfolding_all rfl) (.agg (H no ++ H no).toArray) (H no ++ H no) (by exact Tryd.zeroPt) (by with_unfolding_all rfl) ?_)
  intro g11 w12 hg11 hs12 hb12 hB12
  have hl12 : w11.heap.size ≤ g11 := Nat.le_of_eq hg11.out.symm
  have hb12 := hb12.mono hl12
  go_wp2_with (with_reducible refine wpList_put (o := ⟨none, .store 25 (.tmp 11) (.tmp 45), _, _, _, _⟩) (by with_unfolding_all rfl) 25 (.tmp 11) (.tmp 45) (by with_unfolding_all rfl) g11 0 (by with_unfolding_all rfl) (.agg X.cells.toArray) (by with_unfolding_all rfl) hB12 X.cells (by with_unfolding_all rfl) (by with_unfolding_all (rw [Pat.cells_length]; exact Tryd.szP)) (by with_unfolding_all (rw [Pat.cells_length, List.length_append, H_length] <;> omega)) (by with_unfolding_all (exact cells_one _)) ?_)
  intro w13 hu13 B11
  rw [splice_all _ _ (by rw [Pat.cells_length, List.length_append, H_length])] at B11
  have hb13 := hb12.trans (hu13.below (B := w11.heap.size) hl12)
  have B4 := B4.next hb13 B4.lt
  have B5 := B5.next hb13 B5.lt
  have B6 := B6.next hb13 B6.lt
  have B7 := B7.next hb13 B7.lt
  have hbe := below_join hbe hb13
  clear hb12 hb13 hu13 hB12 hl12 hg11 hs12
  go_wp2_with (first | (with_reducible refine wpList_getg (o := ⟨some 48, .load 25 (.tmp 7), _, _, _, _⟩) (by with_unfolding_all rfl) 25 (.tmp 7) (by with_unfolding_all rfl) g7 0 (by with_unfolding_all rfl) B7 p.cells (cs_all _) _ (by exact Tryd.underlying25) (by with_unfolding_all rfl) (by (rw [Pat.cells_length]; exact Tryd.szP)) ?_) | (with_reducible refine wpList_getg (o := ⟨some 49, .load 43 (.tmp 4), _, _, _, _⟩) (by with_unfolding_all rfl) 43 (.tmp 4) (by with_unfolding_all rfl) g4 0 (by with_unfolding_all rfl) B4 m.cells (cs_all _) _ (by exact Tryd.underlying43) (by with_unfolding_all rfl) (by (rw [Pat.cells_length]; exact Tryd.szM)) ?_))
  (with_reducible refine (C2.out _).mono ?_)
  rintro e w14 ⟨rfl, hb14⟩
  have B4 := B4.next hb14 B4.lt
  have B5 := B5.next hb14 B5.lt
  have B6 := B6.next hb14 B6.lt
  have B7 := B7.next hb14 B7.lt
  have B11 := B11.next hb14 B11.lt
  have hbe := below_join hbe hb14
  clear hb14
  go_wp2_with (with_reducible refine wpList_alloc (o := ⟨some 13, .alloc 25, _, _, _, _⟩) (by with_unfolding_all rfl) 25 (by with_unfolding_all rfl) (.agg (H no ++ H no).toArray) (H no ++ H no) (by exact Tryd.zeroPt) (by with_unfolding_all rfl) ?_)
  intro g13 w15 hg13 hs15 hb15 hB15
  have hl15 : w14.heap.size ≤ g13 := Nat.le_of_eq hg13.out.symm
  have hb15 := hb15.mono hl15
  go_wp2_with (with_reducible refine wpList_put (o := ⟨none, .store 25 (.tmp 13) (.tmp 51), _, _, _, _⟩) (by with_unfolding_all rfl) 25 (.tmp 13) (.tmp 51) (by with_unfolding_all rfl) g13 0 (by with_unfolding_all rfl) (.agg X.cells.toArray) (by with_unfolding_all rfl) hB15 X.cells (by with_unfolding_all rfl) (by with_unfolding_all (rw [Pat.cells_length]; exact Tryd.szP)) (by with_unfolding_all (rw [Pat.cells_length, List.length_append, H_length] <;> omega)) (by with_unfolding_all (exact cells_one _)) ?_)
  intro w16 hu16 B13
  rw [splice_all _ _ (by rw [Pat.cells_length, List.length_append, H_length])] at B13
  have hb16 := hb15.trans (hu16.below (B := w14.heap.size) hl15)
  have B4 := B4.next hb16 B4.lt
  have B5 := B5.next hb16 B5.lt
  have B6 := B6.next hb16 B6.lt
  have B7 := B7.next hb16 B7.lt
  have B11 := B11.next hb16 B11.lt
  have hbe := below_join hbe hb16
  clear hb15 hb16 hu16 hB15 hl15 hg13 hs15
  go_wp2
  have hdd := below_drew w16
  have K4_0 : Hid (∀ w', Below w16.heap.size w16 w' → w'.rangeAt g4 0 m.cells) := (fun w' h => blk_range (B4.next h B4.lt) : ∀ w', Below w16.heap.size w16 w' → w'.rangeAt g4 0 m.cells)
  have Z4_0 : (Tryd.prog.info? 43).map (·.size) = some m.cells.length := by (rw [Pat.cells_length]; exact Tryd.szM)
  have K5_0 : Hid (∀ w', Below w16.heap.size w16 w' → w'.rangeAt g5 0 n.cells) := (fun w' h => blk_range (B5.next h B5.lt) : ∀ w', Below w16.heap.size w16 w' → w'.rangeAt g5 0 n.cells)
  have Z5_0 : (Tryd.prog.info? 43).map (·.size) = some n.cells.length := by (rw [Pat.cells_length]; exact Tryd.szM)
  have K6_0 : Hid (∀ w', Below w16.heap.size w16 w' → w'.rangeAt g6 0 (H h)) := (fun w' h => blk_range (B6.next h B6.lt) : ∀ w', Below w16.heap.size w16 w' → w'.rangeAt g6 0 (H h))
  have Z6_0 : (Tryd.prog.info? 23).map (·.size) = some (H h).length := by (rw [H_length]; exact Tryd.szH)
  have K7_0 : Hid (∀ w', Below w16.heap.size w16 w' → w'.rangeAt g7 0 p.cells) := (fun w' h => blk_range (B7.next h B7.lt) : ∀ w', Below w16.heap.size w16 w' → w'.rangeAt g7 0 p.cells)
  have Z7_0 : (Tryd.prog.info? 25).map (·.size) = some p.cells.length := by (rw [Pat.cells_length]; exact Tryd.szP)
  have K11_0 : Hid (∀ w', Below w16.heap.size w16 w' → w'.rangeAt g11 0 X.cells) := (fun w' h => blk_range (B11.next h B11.lt) : ∀ w', Below w16.heap.size w16 w' → w'.rangeAt g11 0 X.cells)
  have Z11_0 : (Tryd.prog.info? 25).map (·.size) = some X.cells.length := by (rw [Pat.cells_length]; exact Tryd.szP)
  have K13_0 : Hid (∀ w', Below w16.heap.size w16 w' → w'.rangeAt g13 0 X.cells) := (fun w' h => blk_range (B13.next h B13.lt) : ∀ w', Below w16.heap.size w16 w' → w'.rangeAt g13 0 X.cells)
  have Z13_0 : (Tryd.prog.info? 25).map (·.size) = some X.cells.length := by (rw [Pat.cells_length]; exact Tryd.szP)
  refine wp_region_held_drew (S := fun w' => Below w16.heap.size w16 w') (by kernel_rfl) hdd (fun hHeld => ?_)
  generalize w16.drew = wd at hdd hHeld ⊢
  refine wpAnyH_take (i := 0) (v := ?vj0) rfl (by kernel_rfl) (by kernel_rfl) (by kernel_rfl) (fun _ _ _ h => h) (Or.inl ⟨by rfl, ?yj0⟩) (by assumption) ?rj0
  case yj0 => intro w hSw; (try dsimp only at hSw); go_simp <;> (try with_reducible rfl)
  (try simp only [List.getElem_toArray, List.getElem_cons_zero, Act.put, List.setIfInBounds_toArray, List.set_cons_zero, List.set_cons_succ])
  refine wpAnyH_take (i := 1) (v := ?vj1) rfl (by kernel_rfl) (by kernel_rfl) (by kernel_rfl) (fun _ _ _ h => h) (Or.inl ⟨by rfl, ?yj1⟩) (by assumption) ?rj1
  case yj1 => intro w hSw; (try dsimp only at hSw); go_simp <;> (try with_reducible rfl)
  (try simp only [List.getElem_toArray, List.getElem_cons_succ, List.getElem_cons_zero, Act.put, List.setIfInBounds_toArray, List.set_cons_zero, List.set_cons_succ])
  refine' wpAnyH_take (i := 2) (v := _) rfl (by kernel_rfl) (by kernel_rfl) (by kernel_rfl) (fun _ _ _ h => h) (yieldsIf_load_mid (by rfl) _ _ (by rfl) _ _ (by rfl) _ _ ?Sj2 ?uj2 ?dj2 ?ij2) (by assumption) ?rj2
  case Sj2 => exact (by intro w h; exact K4_0.out _ h)
  case uj2 => exact Tryd.underlying43
  case dj2 => rfl
  case ij2 => exact Z4_0
  (try simp only [List.getElem_toArray, List.getElem_cons_succ, List.getElem_cons_zero, Act.put, List.setIfInBounds_toArray, List.set_cons_zero, List.set_cons_succ])
  refine' wpAnyH_take (i := 3) (v := _) rfl (by kernel_rfl) (by kernel_rfl) (by kernel_rfl) (fun _ _ _ h => h) (yieldsIf_load_mid (by rfl) _ _ (by rfl) _ _ (by rfl) _ _ ?Sj3 ?uj3 ?dj3 ?ij3) (by assumption) ?rj3
  case Sj3 => exact (by intro w h; exact K6_0.out _ h)
  case uj3 => exact Tryd.underlying23
  case dj3 => rfl
  case ij3 => exact Z6_0
  (try simp only [List.getElem_toArray, List.getElem_cons_succ, List.getElem_cons_zero, Act.put, List.setIfInBounds_toArray, List.set_cons_zero, List.set_cons_succ])
  refine' wpAnyH_take (i := 5) (v := _) rfl (by kernel_rfl) (by kernel_rfl) (by kernel_rfl) (fun _ _ _ h => h) (yieldsIf_load_mid (by rfl) _ _ (by rfl) _ _ (by rfl) _ _ ?Sj5 ?uj5 ?dj5 ?ij5) (by assumption) ?rj5
  case Sj5 => exact (by intro w h; exact K4_0.out _ h)
  case uj5 => exact Tryd.underlying43
  case dj5 => rfl
  case ij5 => exact Z4_0
  (try simp only [List.getElem_toArray, List.getElem_cons_succ, List.getElem_cons_zero, Act.put, List.setIfInBounds_toArray, List.set_cons_zero, List.set_cons_succ])
  refine' wpAnyH_take (i := 6) (v := _) rfl (by kernel_rfl) (by kernel_rfl) (by kernel_rfl) (fun _ _ _ h => h) (yieldsIf_load_mid (by rfl) _ _ (by rfl) _ _ (by rfl) _ _ ?Sj6 ?uj6 ?dj6 ?ij6) (by assumption) ?rj6
  case Sj6 => exact (by intro w h; exact K6_0.out _ h)
  case uj6 => exact Tryd.underlying23
  case dj6 => rfl
  case ij6 => exact Z6_0
  (try simp only [List.getElem_toArray, List.getElem_cons_succ, List.getElem_cons_zero, Act.put, List.setIfInBounds_toArray, List.set_cons_zero, List.set_cons_succ])
  refine wpAnyH_ready (rs := [4]) (by kernel_rfl) (by simp) ?_
  refine AllReadyH.cons rfl (fun K hK => ?_) AllReadyH.nil
  go_simp
  go_wp2_with fail
  (with_reducible refine (C3.out _).mono ?_)
  rintro e w17 ⟨rfl, hb17⟩
  have hk17 := below_join hdd hb17
  refine hK.out _ _ hk17 (fun hHeld => ?_)
  clear hK K hb17 hdd
  refine wpAnyH_ready (rs := [7]) (by kernel_rfl) (by simp) ?_
  refine AllReadyH.cons rfl (fun K hK => ?_) AllReadyH.nil
  go_simp
  go_wp2_with fail
  (with_reducible refine (C4.out _).mono ?_)
  rintro e w18 ⟨rfl, hb18⟩
  have hk18 := below_join hk17 hb18
  refine hK.out _ _ hk18 (fun hHeld => ?_)
  clear hK K hb18 hk17
  refine wpAnyH_take (i := 8) (v := ?vj8) rfl (by kernel_rfl) (by kernel_rfl) (by kernel_rfl) (fun _ _ _ h => h) (Or.inl ⟨by rfl, ?yj8⟩) (by assumption) ?rj8
  case yj8 => intro w hSw; (try dsimp only at hSw); go_simp <;> (try with_reducible rfl)
  (try simp only [List.getElem_toArray, List.getElem_cons_succ, List.getElem_cons_zero, Act.put, List.setIfInBounds_toArray, List.set_cons_zero, List.set_cons_succ])
  refine wpAnyH_take (i := 9) (v := ?vj9) rfl (by kernel_rfl) (by kernel_rfl) (by kernel_rfl) (fun _ _ _ h => h) (Or.inl ⟨by rfl, ?yj9⟩) (by assumption) ?rj9
  case yj9 => intro w hSw; (try dsimp only at hSw); go_simp <;> (try with_reducible rfl)
  (try simp only [List.getElem_toArray, List.getElem_cons_succ, List.getElem_cons_zero, Act.put, List.setIfInBounds_toArray, List.set_cons_zero, List.set_cons_succ])
  refine wpAnyH_take (i := 10) (v := ?vj10) rfl (by kernel_rfl) (by kernel_rfl) (by kernel_rfl) (fun _ _ _ h => h) (Or.inl ⟨by rfl, ?yj10⟩) (by assumption) ?rj10
  case yj10 => intro w hSw; (try dsimp only at hSw); go_simp <;> (try with_reducible rfl)
  (try simp only [List.getElem_toArray, List.getElem_cons_succ, List.getElem_cons_zero, Act.put, List.setIfInBounds_toArray, List.set_cons_zero, List.set_cons_succ])
  refine' wpAnyH_take (i := 11) (v := _) rfl (by kernel_rfl) (by kernel_rfl) (by kernel_rfl) (fun _ _ _ h => h) (yieldsIf_load_mid (by rfl) _ _ (by rfl) _ _ (by rfl) _ _ ?Sj11 ?uj11 ?dj11 ?ij11) (by assumption) ?rj11
  case Sj11 => exact (by intro w h; exact K4_0.out _ h)
  case uj11 => exact Tryd.underlying43
  case dj11 => rfl
  case ij11 => exact Z4_0
  (try simp only [List.getElem_toArray, List.getElem_cons_succ, List.getElem_cons_zero, Act.put, List.setIfInBounds_toArray, List.set_cons_zero, List.set_cons_succ])
  refine' wpAnyH_take (i := 12) (v := _) rfl (by kernel_rfl) (by kernel_rfl) (by kernel_rfl) (fun _ _ _ h => h) (yieldsIf_load_mid (by rfl) _ _ (by rfl) _ _ (by rfl) _ _ ?Sj12 ?uj12 ?dj12 ?ij12) (by assumption) ?rj12
  case Sj12 => exact (by intro w h; exact K5_0.out _ h)
  case uj12 => exact Tryd.underlying43
  case dj12 => rfl
  case ij12 => exact Z5_0
  (try simp only [List.getElem_toArray, List.getElem_cons_succ, List.getElem_cons_zero, Act.put, List.setIfInBounds_toArray, List.set_cons_zero, List.set_cons_succ])
  refine' wpAnyH_take (i := 14) (v := _) rfl (by kernel_rfl) (by kernel_rfl) (by kernel_rfl) (fun _ _ _ h => h) (yieldsIf_load_mid (by rfl) _ _ (by rfl) _ _ (by rfl) _ _ ?Sj14 ?uj14 ?dj14 ?ij14) (by assumption) ?rj14
  case Sj14 => exact (by intro w h; exact K4_0.out _ h)
  case uj14 => exact Tryd.underlying43
  case dj14 => rfl
  case ij14 => exact Z4_0
  (try simp only [List.getElem_toArray, List.getElem_cons_succ, List.getElem_cons_zero, Act.put, List.setIfInBounds_toArray, List.set_cons_zero, List.set_cons_succ])
  refine' wpAnyH_take (i := 15) (v := _) rfl (by kernel_rfl) (by kernel_rfl) (by kernel_rfl) (fun _ _ _ h => h) (yieldsIf_load_mid (by rfl) _ _ (by rfl) _ _ (by rfl) _ _ ?Sj15 ?uj15 ?dj15 ?ij15) (by assumption) ?rj15
  case Sj15 => exact (by intro w h; exact K5_0.out _ h)
  case uj15 => exact Tryd.underlying43
  case dj15 => rfl
  case ij15 => exact Z5_0
  (try simp only [List.getElem_toArray, List.getElem_cons_succ, List.getElem_cons_zero, Act.put, List.setIfInBounds_toArray, List.set_cons_zero, List.set_cons_succ])
  refine wpAnyH_ready (rs := [13]) (by kernel_rfl) (by simp) ?_
  refine AllReadyH.cons rfl (fun K hK => ?_) AllReadyH.nil
  go_simp
  go_wp2_with fail
  (with_reducible refine (C5.out _).mono ?_)
  rintro e w19 ⟨rfl, hb19⟩
  have hk19 := below_join hk18 hb19
  refine hK.out _ _ hk19 (fun hHeld => ?_)
  clear hK K hb19 hk18
  refine wpAnyH_ready (rs := [16]) (by kernel_rfl) (by simp) ?_
  refine AllReadyH.cons rfl (fun K hK => ?_) AllReadyH.nil
  go_simp
  go_wp2_with fail
  (with_reducible refine (C6.out _).mono ?_)
  rintro e w20 ⟨rfl, hb20⟩
  have hk20 := below_join hk19 hb20
  refine hK.out _ _ hk20 (fun hHeld => ?_)
  clear hK K hb20 hk19
  refine wpAnyH_take (i := 17) (v := ?vj17) rfl (by kernel_rfl) (by kernel_rfl) (by kernel_rfl) (fun _ _ _ h => h) (Or.inl ⟨by rfl, ?yj17⟩) (by assumption) ?rj17
  case yj17 => intro w hSw; (try dsimp only at hSw); go_simp <;> (try with_reducible rfl)
  (try simp only [List.getElem_toArray, List.getElem_cons_succ, List.getElem_cons_zero, Act.put, List.setIfInBounds_toArray, List.set_cons_zero, List.set_cons_succ])
  refine wpAnyH_take (i := 18) (v := ?vj18) rfl (by kernel_rfl) (by kernel_rfl) (by kernel_rfl) (fun _ _ _ h => h) (Or.inl ⟨by rfl, ?yj18⟩) (by assumption) ?rj18
  case yj18 => intro w hSw; (try dsimp only at hSw); go_simp <;> (try with_reducible rfl)
  (try simp only [List.getElem_toArray, List.getElem_cons_succ, List.getElem_cons_zero, Act.put, List.setIfInBounds_toArray, List.set_cons_zero, List.set_cons_succ])
  refine wpAnyH_take (i := 19) (v := ?vj19) rfl (by kernel_rfl) (by kernel_rfl) (by kernel_rfl) (fun _ _ _ h => h) (Or.inl ⟨by rfl, ?yj19⟩) (by assumption) ?rj19
  case yj19 => intro w hSw; (try dsimp only at hSw); go_simp <;> (try with_reducible rfl)
  (try simp only [List.getElem_toArray, List.getElem_cons_succ, List.getElem_cons_zero, Act.put, List.setIfInBounds_toArray, List.set_cons_zero, List.set_cons_succ])
  refine' wpAnyH_take (i := 20) (v := _) rfl (by kernel_rfl) (by kernel_rfl) (by kernel_rfl) (fun _ _ _ h => h) (yieldsIf_load_mid (by rfl) _ _ (by rfl) _ _ (by rfl) _ _ ?Sj20 ?uj20 ?dj20 ?ij20) (by assumption) ?rj20
  case Sj20 => exact (by intro w h; exact K7_0.out _ h)
  case uj20 => exact Tryd.underlying25
  case dj20 => rfl
  case ij20 => exact Z7_0
  (try simp only [List.getElem_toArray, List.getElem_cons_succ, List.getElem_cons_zero, Act.put, List.setIfInBounds_toArray, List.set_cons_zero, List.set_cons_succ])
  refine' wpAnyH_take (i := 21) (v := _) rfl (by kernel_rfl) (by kernel_rfl) (by kernel_rfl) (fun _ _ _ h => h) (yieldsIf_load_mid (by rfl) _ _ (by rfl) _ _ (by rfl) _ _ ?Sj21 ?uj21 ?dj21 ?ij21) (by assumption) ?rj21
  case Sj21 => exact (by intro w h; exact K4_0.out _ h)
  case uj21 => exact Tryd.underlying43
  case dj21 => rfl
  case ij21 => exact Z4_0
  (try simp only [List.getElem_toArray, List.getElem_cons_succ, List.getElem_cons_zero, Act.put, List.setIfInBounds_toArray, List.set_cons_zero, List.set_cons_succ])
  refine' wpAnyH_take (i := 23) (v := _) rfl (by kernel_rfl) (by kernel_rfl) (by kernel_rfl) (fun _ _ _ h => h) (yieldsIf_load_mid (by rfl) _ _ (by rfl) _ _ (by rfl) _ _ ?Sj23 ?uj23 ?dj23 ?ij23) (by assumption) ?rj23
  case Sj23 => exact (by intro w h; exact K7_0.out _ h)
  case uj23 => exact Tryd.underlying25
  case dj23 => rfl
  case ij23 => exact Z7_0
  (try simp only [List.getElem_toArray, List.getElem_cons_succ, List.getElem_cons_zero, Act.put, List.setIfInBounds_toArray, List.set_cons_zero, List.set_cons_succ])
  refine' wpAnyH_take (i := 24) (v := _) rfl (by kernel_rfl) (by kernel_rfl) (by kernel_rfl) (fun _ _ _ h => h) (yieldsIf_load_mid (by rfl) _ _ (by rfl) _ _ (by rfl) _ _ ?Sj24 ?uj24 ?dj24 ?ij24) (by assumption) ?rj24
  case Sj24 => exact (by intro w h; exact K4_0.out _ h)
  case uj24 => exact Tryd.underlying43
  case dj24 => rfl
  case ij24 => exact Z4_0
  (try simp only [List.getElem_toArray, List.getElem_cons_succ, List.getElem_cons_zero, Act.put, List.setIfInBounds_toArray, List.set_cons_zero, List.set_cons_succ])
  refine wpAnyH_ready (rs := [22]) (by kernel_rfl) (by simp) ?_
  refine AllReadyH.cons rfl (fun K hK => ?_) AllReadyH.nil
  go_simp
  go_wp2_with fail
  (with_reducible refine (C7.out _).mono ?_)
  rintro e w21 ⟨rfl, hb21⟩
  have hk21 := below_join hk20 hb21
  refine hK.out _ _ hk21 (fun hHeld => ?_)
  clear hK K hb21 hk20
  refine wpAnyH_ready (rs := [25]) (by kernel_rfl) (by simp) ?_
  refine AllReadyH.cons rfl (fun K hK => ?_) AllReadyH.nil
  go_simp
  go_wp2_with fail
  (with_reducible refine (C8.out _).mono ?_)
  rintro e w22 ⟨rfl, hb22⟩
  have hk22 := below_join hk21 hb22
  refine hK.out _ _ hk22 (fun hHeld => ?_)
  clear hK K hb22 hk21
  refine wpAnyH_take (i := 26) (v := ?vj26) rfl (by kernel_rfl) (by kernel_rfl) (by kernel_rfl) (fun _ _ _ h => h) (Or.inl ⟨by rfl, ?yj26⟩) (by assumption) ?rj26
  case yj26 => intro w hSw; (try dsimp only at hSw); go_simp <;> (try with_reducible rfl)
  (try simp only [List.getElem_toArray, List.getElem_cons_succ, List.getElem_cons_zero, Act.put, List.setIfInBounds_toArray, List.set_cons_zero, List.set_cons_succ])
  refine wpAnyH_take (i := 27) (v := ?vj27) rfl (by kernel_rfl) (by kernel_rfl) (by kernel_rfl) (fun _ _ _ h => h) (Or.inl ⟨by rfl, ?yj27⟩) (by assumption) ?rj27
  case yj27 => intro w hSw; (try dsimp only at hSw); go_simp <;> (try with_reducible rfl)
  (try simp only [List.getElem_toArray, List.getElem_cons_succ, List.getElem_cons_zero, Act.put, List.setIfInBounds_toArray, List.set_cons_zero, List.set_cons_succ])
  refine wpAnyH_take (i := 28) (v := ?vj28) rfl (by kernel_rfl) (by kernel_rfl) (by kernel_rfl) (fun _ _ _ h => h) (Or.inl ⟨by rfl, ?yj28⟩) (by assumption) ?rj28
  case yj28 => intro w hSw; (try dsimp only at hSw); go_simp <;> (try with_reducible rfl)
  (try simp only [List.getElem_toArray, List.getElem_cons_succ, List.getElem_cons_zero, Act.put, List.setIfInBounds_toArray, List.set_cons_zero, List.set_cons_succ])
  refine' wpAnyH_take (i := 29) (v := _) rfl (by kernel_rfl) (by kernel_rfl) (by kernel_rfl) (fun _ _ _ h => h) (yieldsIf_load_mid (by rfl) _ _ (by rfl) _ _ (by rfl) _ _ ?Sj29 ?uj29 ?dj29 ?ij29) (by assumption) ?rj29
  case Sj29 => exact (by intro w h; exact K11_0.out _ h)
  case uj29 => exact Tryd.underlying25
  case dj29 => rfl
  case ij29 => exact Z11_0
  (try simp only [List.getElem_toArray, List.getElem_cons_succ, List.getElem_cons_zero, Act.put, List.setIfInBounds_toArray, List.set_cons_zero, List.set_cons_succ])
  refine' wpAnyH_take (i := 30) (v := _) rfl (by kernel_rfl) (by kernel_rfl) (by kernel_rfl) (fun _ _ _ h => h) (yieldsIf_load_mid (by rfl) _ _ (by rfl) _ _ (by rfl) _ _ ?Sj30 ?uj30 ?dj30 ?ij30) (by assumption) ?rj30
  case Sj30 => exact (by intro w h; exact K13_0.out _ h)
  case uj30 => exact Tryd.underlying25
  case dj30 => rfl
  case ij30 => exact Z13_0
  (try simp only [List.getElem_toArray, List.getElem_cons_succ, List.getElem_cons_zero, Act.put, List.setIfInBounds_toArray, List.set_cons_zero, List.set_cons_succ])
  refine wpAnyH_take (i := 31) (v := ?vj31) rfl (by kernel_rfl) (by kernel_rfl) (by kernel_rfl) (fun _ _ _ h => h) (Or.inl ⟨by rfl, ?yj31⟩) (by assumption) ?rj31
  case yj31 => intro w hSw; (try dsimp only at hSw); go_simp <;> (try with_reducible rfl)
  (try simp only [List.getElem_toArray, List.getElem_cons_succ, List.getElem_cons_zero, Act.put, List.setIfInBounds_toArray, List.set_cons_zero, List.set_cons_succ])
  refine wpAnyH_take (i := 32) (v := ?vj32) rfl (by kernel_rfl) (by kernel_rfl) (by kernel_rfl) (fun _ _ _ h => h) (Or.inl ⟨by rfl, ?yj32⟩) (by assumption) ?rj32
  case yj32 => intro w hSw; (try dsimp only at hSw); go_simp <;> (try with_reducible rfl)
  (try simp only [List.getElem_toArray, List.getElem_cons_succ, List.getElem_cons_zero, Act.put, List.setIfInBounds_toArray, List.set_cons_zero, List.set_cons_succ])
  refine wpAnyH_take (i := 33) (v := ?vj33) rfl (by kernel_rfl) (by kernel_rfl) (by kernel_rfl) (fun _ _ _ h => h) (Or.inl ⟨by rfl, ?yj33⟩) (by assumption) ?rj33
  case yj33 => intro w hSw; (try dsimp only at hSw); go_simp <;> (try with_reducible rfl)
  (try simp only [List.getElem_toArray, List.getElem_cons_succ, List.getElem_cons_zero, Act.put, List.setIfInBounds_toArray, List.set_cons_zero, List.set_cons_succ])
  refine wpAnyH_take (i := 34) (v := ?vj34) rfl (by kernel_rfl) (by kernel_rfl) (by kernel_rfl) (fun _ _ _ h => h) (Or.inl ⟨by rfl, ?yj34⟩) (by assumption) ?rj34
  case yj34 => intro w hSw; (try dsimp only at hSw); go_simp <;> (try with_reducible rfl)
  (try simp only [List.getElem_toArray, List.getElem_cons_succ, List.getElem_cons_zero, Act.put, List.setIfInBounds_toArray, List.set_cons_zero, List.set_cons_succ])
  refine wpAnyH_take (i := 35) (v := ?vj35) rfl (by kernel_rfl) (by kernel_rfl) (by kernel_rfl) (fun _ _ _ h => h) (Or.inl ⟨by rfl, ?yj35⟩) (by assumption) ?rj35
  case yj35 => intro w hSw; (try dsimp only at hSw); go_simp <;> (try with_reducible rfl)
  (try simp only [List.getElem_toArray, List.getElem_cons_succ, List.getElem_cons_zero, Act.put, List.setIfInBounds_toArray, List.set_cons_zero, List.set_cons_succ])
  refine wpAnyH_take (i := 36) (v := ?vj36) rfl (by kernel_rfl) (by kernel_rfl) (by kernel_rfl) (fun _ _ _ h => h) (Or.inl ⟨by rfl, ?yj36⟩) (by assumption) ?rj36
  case yj36 => intro w hSw; (try dsimp only at hSw); go_simp <;> (try with_reducible rfl)
  (try simp only [List.getElem_toArray, List.getElem_cons_succ, List.getElem_cons_zero, Act.put, List.setIfInBounds_toArray, List.set_cons_zero, List.set_cons_succ])
  refine wpAnyH_take (i := 37) (v := ?vj37) rfl (by kernel_rfl) (by kernel_rfl) (by kernel_rfl) (fun _ _ _ h => h) (Or.inl ⟨by rfl, ?yj37⟩) (by assumption) ?rj37
  case yj37 => intro w hSw; (try dsimp only at hSw); go_simp <;> (try with_reducible rfl)
  (try simp only [List.getElem_toArray, List.getElem_cons_succ, List.getElem_cons_zero, Act.put, List.setIfInBounds_toArray, List.set_cons_zero, List.set_cons_succ])
  refine wpAnyH_take (i := 38) (v := ?vj38) rfl (by kernel_rfl) (by kernel_rfl) (by kernel_rfl) (fun _ _ _ h => h) (Or.inl ⟨by rfl, ?yj38⟩) (by assumption) ?rj38
  case yj38 => intro w hSw; (try dsimp only at hSw); go_simp <;> (try with_reducible rfl)
  (try simp only [List.getElem_toArray, List.getElem_cons_succ, List.getElem_cons_zero, Act.put, List.setIfInBounds_toArray, List.set_cons_zero, List.set_cons_succ])
  refine wpAnyH_done (by kernel_rfl) ?_ _
  clear hHeld K4_0 Z4_0 K5_0 Z5_0 K6_0 Z6_0 K7_0 Z7_0 K11_0 Z11_0 K13_0 Z13_0
  have B4 := B4.next hk22 B4.lt
  have B5 := B5.next hk22 B5.lt
  have B6 := B6.next hk22 B6.lt
  have B7 := B7.next hk22 B7.lt
  have B11 := B11.next hk22 B11.lt
  have B13 := B13.next hk22 B13.lt
  have hbe := below_join hbe hk22
  clear hk22
  go_wp2
  go_ret
  exact ⟨rfl, hbe⟩
/-- Whatever comes in. -/
theorem modsLaw_any (m1 b1 m2 b2 lh pm pb : List Int) (w : World) (h1 : m1.length = 10) (h2 : b1.length = 10) (h3 : m2.length = 10) (h4 : b2.length = 10) (h5 : lh.length = 10) (h6 : pm.length = 10) (h7 : pb.length = 10) (hG : GOk w) :
    Calls Tryd.prog 4 #[.agg (m1.map iV ++ b1.map iV).toArray, .agg (m2.map iV ++ b2.map iV).toArray, .agg (lh.map iV).toArray, .agg (pm.map iV ++ pb.map iV).toArray] w fun e w' => e = .returned (.bool true) ∧ Below w.heap.size w w' := by
  by_cases hc : pairI m1 b1 = true ∧ pairI m2 b2 = true ∧ rightI lh ∧ pairI pm pb = true
  · obtain ⟨m, hm, rfl, rfl⟩ := right_pat h1 h2 hc.1
    obtain ⟨n, hn, rfl, rfl⟩ := right_pat h3 h4 hc.2.1
    obtain ⟨h, rfl⟩ := right_head h5 hc.2.2.1
    obtain ⟨p, hp, rfl, rfl⟩ := right_pat h6 h7 hc.2.2.2
    rw [← H_iV, ← H_iV, ← H_iV, ← H_iV, ← H_iV, ← H_iV, ← H_iV]
    exact mods_good m n h p w hm hn hp hG
  · exact mods_bad m1 b1 m2 b2 lh pm pb w h1 h2 h3 h4 h5 h6 h7 hG hc
end Go.Proofs.YtbldnhpbmfmepaaDoor
