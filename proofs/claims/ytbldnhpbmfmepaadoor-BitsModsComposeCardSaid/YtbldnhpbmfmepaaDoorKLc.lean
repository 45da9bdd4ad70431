/-
  The walk of BitsModsCompose. Conditions: the library's variable lies there.
-/
import Derived.Test.YtbldnhpbmfmepaaDoorGZ
import Derived.Test.YtbldnhpbmfmepaaDoorGD
import Derived.Test.YtbldnhpbmfmepaaDoorGY
namespace Go.Proofs.YtbldnhpbmfmepaaDoor
set_option linter.unusedVariables false
set_option linter.unusedSimpArgs false
open Go.RowKit

set_option maxRecDepth 100000 in
set_option maxHeartbeats 6400000 in
theorem comp_bad (m1 b1 m2 b2 lh pm pb : List Int) (w : World) (h1 : m1.length = 10) (h2 : b1.length = 10) (h3 : m2.length = 10) (h4 : b2.length = 10) (h5 : lh.length = 10) (h6 : pm.length = 10) (h7 : pb.length = 10) (hG : GOk w)
    (hbad : ¬ (pairI m1 b1 = true ∧ pairI m2 b2 = true ∧ rightI lh ∧ pairI pm pb = true)) :
    Calls Tryd.prog 11 #[.agg (m1.map iV ++ b1.map iV).toArray, .agg (m2.map iV ++ b2.map iV).toArray, .agg (lh.map iV).toArray, .agg (pm.map iV ++ pb.map iV).toArray] w fun e w' => e = .returned (.bool true) ∧ Below w.heap.size w w' := by
  have c1 := fun w => rightMod_any m1 b1 w h1 h2
  have c2 := fun w => rrightMod_any m1 b1 w h1 h2
  have c3 := fun w => rrightMod_any m2 b2 w h3 h4
  have c4 := fun w => heads_any lh lh w h5 h5
  have c5 := fun w => rright_any pm pb w h6 h7
  obtain ⟨A, hA⟩ : ∃ A, pairI m1 b1 = A := ⟨_, rfl⟩
  obtain ⟨B, hB⟩ : ∃ A, pairI m2 b2 = A := ⟨_, rfl⟩
  obtain ⟨C, hC⟩ : ∃ A, (decide (rightI lh) && decide (rightI lh)) = A := ⟨_, rfl⟩
  obtain ⟨D, hD⟩ : ∃ A, pairI pm pb = A := ⟨_, rfl⟩
  have hno : Hid (¬ (A = true ∧ B = true ∧ C = true ∧ D = true)) := by
    have : ¬ (A = true ∧ B = true ∧ C = true ∧ D = true) := fun hc => hbad (by
      have a3 := hC.trans hc.2.2.1
      rw [Bool.and_self, decide_eq_true_eq] at a3
      exact ⟨hA.trans hc.1, hB.trans hc.2.1, a3, hD.trans hc.2.2.2⟩)
    exact this
  rw [hA] at c1 c2
  rw [hB] at c3
  rw [hC] at c4
  rw [hD] at c5
  have C1 := Lib.hid c1
  have C2 := Lib.hid c2
  have C3 := Lib.hid c3
  have C4 := Lib.hid c4
  have C5 := Lib.hid c5
  have HG := Lib.hid hG
  have z1 : (Tryd.prog.info? 43).map (·.size) = some (m1.map iV ++ b1.map iV).length := by rw [List.length_append, List.length_map, List.length_map, h1, h2]; exact Tryd.szM
  have z2 : (Tryd.prog.info? 43).map (·.size) = some (m2.map iV ++ b2.map iV).length := by rw [List.length_append, List.length_map, List.length_map, h3, h4]; exact Tryd.szM
  have z3 : (Tryd.prog.info? 23).map (·.size) = some (lh.map iV).length := by rw [List.length_map, h5]; exact Tryd.szH
  have z4 : (Tryd.prog.info? 25).map (·.size) = some (pm.map iV ++ pb.map iV).length := by rw [List.length_append, List.length_map, List.length_map, h6, h7]; exact Tryd.szP
  have Z1 := Lib.hid z1
  have Z2 := Lib.hid z2
  have Z3 := Lib.hid z3
  have Z4 := Lib.hid z4
  clear c1 c2 c3 c4 c5 h1 h2 h3 h4 h5 h6 h7 hG hbad hA hB hC hD z1 z2 z3 z4
  go_enter Tryd.func11, Tryd.ntmps11
  go_wp2_with (with_reducible refine wpList_box (o := ⟨some 4, .box 43 (.tmp 0), _, _, _, _⟩) ?g4 43 (.tmp 0) ?o4 (.agg (m1.map iV ++ b1.map iV).toArray) (m1.map iV ++ b1.map iV) ?x4 ?c4 ?_)
  try (case g4 => rfl)
  try (case o4 => rfl)
  try (case x4 => rfl)
  try (case c4 => rfl)
  intro g4 w1 hg4 hs1 hb1 B4
  have hb1 := hb1.mono (Nat.le_of_eq hg4.out.symm)
  have hbe : Below w.heap.size w w1 := hb1
  clear hb1 hg4 hs1
  go_wp2_with (with_reducible refine wpList_box (o := ⟨some 5, .box 43 (.tmp 1), _, _, _, _⟩) ?g5 43 (.tmp 1) ?o5 (.agg (m2.map iV ++ b2.map iV).toArray) (m2.map iV ++ b2.map iV) ?x5 ?c5 ?_)
  try (case g5 => rfl)
  try (case o5 => rfl)
  try (case x5 => rfl)
  try (case c5 => rfl)
  intro g5 w2 hg5 hs2 hb2 B5
  have hb2 := hb2.mono (Nat.le_of_eq hg5.out.symm)
  have B4 := B4.next hb2 B4.lt
  have hbe := below_join hbe hb2
  clear hb2 hg5 hs2
  go_wp2_with (with_reducible refine wpList_box (o := ⟨some 6, .box 23 (.tmp 2), _, _, _, _⟩) ?g6 23 (.tmp 2) ?o6 (.agg (lh.map iV).toArray) (lh.map iV) ?x6 ?c6 ?_)
  try (case g6 => rfl)
  try (case o6 => rfl)
  try (case x6 => rfl)
  try (case c6 => rfl)
  intro g6 w3 hg6 hs3 hb3 B6
  have hb3 := hb3.mono (Nat.le_of_eq hg6.out.symm)
  have B4 := B4.next hb3 B4.lt
  have B5 := B5.next hb3 B5.lt
  have hbe := below_join hbe hb3
  clear hb3 hg6 hs3
  go_wp2_with (with_reducible refine wpList_box (o := ⟨some 7, .box 25 (.tmp 3), _, _, _, _⟩) ?g7 25 (.tmp 3) ?o7 (.agg (pm.map iV ++ pb.map iV).toArray) (pm.map iV ++ pb.map iV) ?x7 ?c7 ?_)
  try (case g7 => rfl)
  try (case o7 => rfl)
  try (case x7 => rfl)
  try (case c7 => rfl)
  intro g7 w4 hg7 hs4 hb4 B7
  have hb4 := hb4.mono (Nat.le_of_eq hg7.out.symm)
  have B4 := B4.next hb4 B4.lt
  have B5 := B5.next hb4 B5.lt
  have B6 := B6.next hb4 B6.lt
  have hbe := below_join hbe hb4
  clear hb4 hg7 hs4
  go_wp2_with fail
  (with_reducible refine (sanity_any _ (HG.out.next hbe)).mono ?_)
  rintro e w5 ⟨rfl, hb5⟩
  have B4 := B4.next hb5 B4.lt
  have B5 := B5.next hb5 B5.lt
  have B6 := B6.next hb5 B6.lt
  have B7 := B7.next hb5 B7.lt
  have hbe := below_join hbe hb5
  clear hb5
  go_wp2_with (first | (with_reducible refine wpList_getg (o := ⟨some 16, .load 43 (.tmp 4), _, _, _, _⟩) (by with_unfolding_all rfl) 43 (.tmp 4) (by with_unfolding_all rfl) g4 0 (by with_unfolding_all rfl) B4 (m1.map iV ++ b1.map iV) (cs_all _) _ (by exact Tryd.underlying43) (by with_unfolding_all rfl) (by (exact Z1.out)) ?_))
  (with_reducible refine (C2.out _).mono ?_)
  rintro e w6 ⟨rfl, hb6⟩
  have B4 := B4.next hb6 B4.lt
  have B5 := B5.next hb6 B5.lt
  have B6 := B6.next hb6 B6.lt
  have B7 := B7.next hb6 B7.lt
  have hbe := below_join hbe hb6
  clear hb6
  rcases A with _ | _
  · go_wp2
    go_ret
    exact ⟨rfl, hbe⟩
  · skip
    go_wp2_with (first | (with_reducible refine wpList_getg (o := ⟨some 20, .load 43 (.tmp 5), _, _, _, _⟩) (by with_unfolding_all rfl) 43 (.tmp 5) (by with_unfolding_all rfl) g5 0 (by with_unfolding_all rfl) B5 (m2.map iV ++ b2.map iV) (cs_all _) _ (by exact Tryd.underlying43) (by with_unfolding_all rfl) (by (exact Z2.out)) ?_))
    (with_reducible refine (C3.out _).mono ?_)
    rintro e w7 ⟨rfl, hb7⟩
    have B4 := B4.next hb7 B4.lt
    have B5 := B5.next hb7 B5.lt
    have B6 := B6.next hb7 B6.lt
    have B7 := B7.next hb7 B7.lt
    have hbe := below_join hbe hb7
    clear hb7
    rcases B with _ | _
    · go_wp2
      go_ret
      exact ⟨rfl, hbe⟩
    · skip
      go_wp2_with (first | (with_reducible refine wpList_getg (o := ⟨some 25, .load 23 (.tmp 6), _, _, _, _⟩) (by with_unfolding_all rfl) 23 (.tmp 6) (by with_unfolding_all rfl) g6 0 (by with_unfolding_all rfl) B6 (lh.map iV) (cs_all _) _ (by exact Tryd.underlying23) (by with_unfolding_all rfl) (by (exact Z3.out)) ?_) | (with_reducible refine wpList_getg (o := ⟨some 26, .load 23 (.tmp 6), _, _, _, _⟩) (by with_unfolding_all rfl) 23 (.tmp 6) (by with_unfolding_all rfl) g6 0 (by with_unfolding_all rfl) B6 (lh.map iV) (cs_all _) _ (by exact Tryd.underlying23) (by with_unfolding_all rfl) (by (exact Z3.out)) ?_))
      (with_reducible refine (C4.out _).mono ?_)
      rintro e w8 ⟨rfl, hb8⟩
      have B4 := B4.next hb8 B4.lt
      have B5 := B5.next hb8 B5.lt
      have B6 := B6.next hb8 B6.lt
      have B7 := B7.next hb8 B7.lt
      have hbe := below_join hbe hb8
      clear hb8
      rcases C with _ | _
      · go_wp2
        go_ret
        exact ⟨rfl, hbe⟩
      · skip
        go_wp2_with (first | (with_reducible refine wpList_getg (o := ⟨some 31, .load 25 (.tmp 7), _, _, _, _⟩) (by with_unfolding_all rfl) 25 (.tmp 7) (by with_unfolding_all rfl) g7 0 (by with_unfolding_all rfl) B7 (pm.map iV ++ pb.map iV) (cs_all _) _ (by exact Tryd.underlying25) (by with_unfolding_all rfl) (by (exact Z4.out)) ?_))
        (with_reducible refine (C5.out _).mono ?_)
        rintro e w9 ⟨rfl, hb9⟩
        have B4 := B4.next hb9 B4.lt
        have B5 := B5.next hb9 B5.lt
        have B6 := B6.next hb9 B6.lt
        have B7 := B7.next hb9 B7.lt
        have hbe := below_join hbe hb9
        clear hb9
        rcases D with _ | _
        · go_wp2
          go_ret
          exact ⟨rfl, hbe⟩
        · skip
          exact absurd (by refine ⟨?_, ?_, ?_, ?_⟩ <;> trivial) hno.out
set_option maxRecDepth 100000 in
set_option maxHeartbeats 12800000 in
theorem comp_good (m n : Pat) (h : Nat → Bool) (p : Pat) (w : World) (hm : m.ok) (hn : n.ok) (hp : p.ok) (hG : GOk w) :
    Calls Tryd.prog 11 #[.agg m.cells.toArray, .agg n.cells.toArray, .agg (H h).toArray, .agg p.cells.toArray] w fun e w' => e = .returned (.bool true) ∧ Below w.heap.size w w' := by
  have HM := Lib.hid hm
  have HN := Lib.hid hn
  have HP := Lib.hid hp
  have HG := Lib.hid hG
  obtain ⟨g, hg⟩ : ∃ g, m.app h = g := ⟨_, rfl⟩
  obtain ⟨u, hu⟩ : ∃ u, n.app g = u := ⟨_, rfl⟩
  obtain ⟨T, hT⟩ : ∃ T, m.then n = T := ⟨_, rfl⟩
  obtain ⟨I, hI⟩ : ∃ I, p.image m = I := ⟨_, rfl⟩
  obtain ⟨X, hX⟩ : ∃ X, p.backV m = X := ⟨_, rfl⟩
  obtain ⟨O, hO⟩ : ∃ O, decide (p.over m) = O := ⟨_, rfl⟩
  obtain ⟨f, hf⟩ : ∃ f, p.app h = f := ⟨_, rfl⟩
  have c1 := fun w => apply_any m h w
  rw [hg] at c1
  have c2 := fun w => then_any m n w
  rw [hT] at c2
  have c3 : ∀ w, Calls Tryd.prog 46 #[.agg T.cells.toArray, .agg (H h).toArray] w fun e w' => e = .returned (.agg (H u).toArray) ∧ Below w.heap.size w w' := fun w => by
    have := apply_any T h w
    have e : H (T.app h) = H u := by rw [H_iV, H_iV, ← hT, ← hu, ← hg, Pat.then_app]
    rw [e] at this
    exact this
  have c4 := fun w => apply_any n g w
  rw [hu] at c4
  have c5 := fun w => back_any p m w
  rw [hX, hO] at c5
  obtain ⟨S, hS⟩ : ∃ S, decide (p.hit g) = S := ⟨_, rfl⟩
  have c6 := fun w => rmatch_m w p g hS
  obtain ⟨V, hV⟩ : ∃ V, decide (X.hit h) = V := ⟨_, rfl⟩
  have c7 := fun w => rmatch_m w X h hV
  have hSV : (O && V) = S := by
    have key := Pat.back_hit (p := p) hm h
    rw [hg] at key
    rw [← hO, ← hV, ← hS, ← hX]
    unfold Pat.backV
    by_cases ho : p.over m
    · rw [if_pos ho, decide_eq_true ho, Bool.true_and]
      by_cases hb : (p.back m).hit h
      · rw [decide_eq_true hb, decide_eq_true (key.2 ⟨ho, hb⟩)]
      · rw [decide_eq_false hb, decide_eq_false fun hc => hb (key.1 hc).2]
    · rw [decide_eq_false ho, Bool.false_and, decide_eq_false fun hc => ho (key.1 hc).1]
  have c8 := fun w => image_any p m w
  rw [hI] at c8
  obtain ⟨Y, hY⟩ : ∃ Y, decide (p.hit h) = Y := ⟨_, rfl⟩
  have c9 := fun w => rmatch_m w p h hY
  obtain ⟨J, hJ⟩ : ∃ J, decide (I.hit g) = J := ⟨_, rfl⟩
  have c10 := fun w => rmatch_m w I g hJ
  have hYJ : Y = true → J = true := fun hy => by
    rw [← hJ, ← hI, ← hg]
    exact decide_eq_true (Pat.image_hit (of_decide_eq_true (hY.trans hy)))
  obtain ⟨K', hK'⟩ : ∃ K, decide (I.hit h) = K := ⟨_, rfl⟩
  have c11 := fun w => rmatch_m w I h hK'
  have c12 := fun w => apply_any p h w
  rw [hf] at c12
  have c13 : K' = true → ∀ w, Calls Tryd.prog 30 #[.agg p.cells.toArray, .agg (H f).toArray] w fun e w' => e = .returned (.bool true) ∧ Below w.heap.size w w' := fun hk w => by
    have := Pat.image_from hp hm (by rw [hI]; exact of_decide_eq_true (hK'.trans hk)) (h := h)
    exact rmatch_m w p f (by rw [← hf]; exact decide_eq_true this.1)
  have c14 : K' = true → ∀ w, Calls Tryd.prog 46 #[.agg m.cells.toArray, .agg (H f).toArray] w fun e w' => e = .returned (.agg (H h).toArray) ∧ Below w.heap.size w w' := fun hk w => by
    have hh := Pat.image_from hp hm (by rw [hI]; exact of_decide_eq_true (hK'.trans hk)) (h := h)
    have := apply_any m f w
    rw [← hf] at this
    rw [show H (m.app (p.app h)) = H h by rw [H_iV, H_iV, hh.2], hf] at this
    exact this
  have C1 := Lib.hid c1
  have C2 := Lib.hid c2
  have C3 := Lib.hid c3
  have C4 := Lib.hid c4
  have C5 := Lib.hid c5
  have C6 := Lib.hid c6
  have C7 := Lib.hid c7
  have C8 := Lib.hid c8
  have C9 := Lib.hid c9
  have C10 := Lib.hid c10
  have C11 := Lib.hid c11
  have C12 := Lib.hid c12
  have C13 := Lib.hid c13
  have C14 := Lib.hid c14
  have HYJ := Lib.hid hYJ
  clear c1 c2 c3 c4 c5 c6 c7 c8 c9 c10 c11 c12 c13 c14 hX hO hT hI hm hn hp hG hg hu hf hS hV hY hJ hK' hYJ
  have eu : ∀ w, (binOp .neq 23 (.agg (H u).toArray) (.agg (H u).toArray)).run Tryd.prog w = .ok (.bool false) w := fun w => by rw [H_iV, neq_head w _ _ (HI_length _) (HI_length _)]; simp
  have eh : ∀ w, (binOp .eql 23 (.agg (H h).toArray) (.agg (H h).toArray)).run Tryd.prog w = .ok (.bool true) w := fun w => by rw [H_iV, eql_head w _ _ (HI_length _) (HI_length _)]; simp
  have bm : ∀ w, (Instr.build 43 #[(0, .agg (H p.m).toArray), (1, .agg (H p.b).toArray)]).run Tryd.prog w = .ok (.agg p.cells.toArray) w := fun w => run_buildM w _ _ (H_length _) (H_length _)
  have hguH := Tryd.guardH
  go_enter Tryd.func11, Tryd.ntmps11
  go_wp2_with (with_reducible refine wpList_box (o := ⟨some 4, .box 43 (.tmp 0), _, _, _, _⟩) ?g4 43 (.tmp 0) ?o4 (.agg m.cells.toArray) m.cells ?x4 ?c4 ?_)
  try (case g4 => rfl)
  try (case o4 => rfl)
  try (case x4 => rfl)
  try (case c4 => rfl)
  intro g4 w1 hg4 hs1 hb1 B4
  have hb1 := hb1.mono (Nat.le_of_eq hg4.out.symm)
  have hbe : Below w.heap.size w w1 := hb1
  clear hb1 hg4 hs1
  go_wp2_with (with_reducible refine wpList_box (o := ⟨some 5, .box 43 (.tmp 1), _, _, _, _⟩) ?g5 43 (.tmp 1) ?o5 (.agg n.cells.toArray) n.cells ?x5 ?c5 ?_)
  try (case g5 => rfl)
  try (case o5 => rfl)
  try (case x5 => rfl)
  try (case c5 => rfl)
  intro g5 w2 hg5 hs2 hb2 B5
  have hb2 := hb2.mono (Nat.le_of_eq hg5.out.symm)
  have B4 := B4.next hb2 B4.lt
  have hbe := below_join hbe hb2
  clear hb2 hg5 hs2
  go_wp2_with (with_reducible refine wpList_box (o := ⟨some 6, .box 23 (.tmp 2), _, _, _, _⟩) ?g6 23 (.tmp 2) ?o6 (.agg (H h).toArray) (H h) ?x6 ?c6 ?_)
  try (case g6 => rfl)
  try (case o6 => rfl)
  try (case x6 => rfl)
  try (case c6 => rfl)
  intro g6 w3 hg6 hs3 hb3 B6
  have hb3 := hb3.mono (Nat.le_of_eq hg6.out.symm)
  have B4 := B4.next hb3 B4.lt
  have B5 := B5.next hb3 B5.lt
  have hbe := below_join hbe hb3
  clear hb3 hg6 hs3
  go_wp2_with (with_reducible refine wpList_box (o := ⟨some 7, .box 25 (.tmp 3), _, _, _, _⟩) ?g7 25 (.tmp 3) ?o7 (.agg p.cells.toArray) p.cells ?x7 ?c7 ?_)
  try (case g7 => rfl)
  try (case o7 => rfl)
  try (case x7 => rfl)
  try (case c7 => rfl)
  intro g7 w4 hg7 hs4 hb4 B7
  have hb4 := hb4.mono (Nat.le_of_eq hg7.out.symm)
  have B4 := B4.next hb4 B4.lt
  have B5 := B5.next hb4 B5.lt
  have B6 := B6.next hb4 B6.lt
  have hbe := below_join hbe hb4
  clear hb4 hg7 hs4
  go_wp2_with fail
  (with_reducible refine (sanity_any _ (HG.out.next hbe)).mono ?_)
  rintro e w5 ⟨rfl, hb5⟩
  have B4 := B4.next hb5 B4.lt
  have B5 := B5.next hb5 B5.lt
  have B6 := B6.next hb5 B6.lt
  have B7 := B7.next hb5 B7.lt
  have hbe := below_join hbe hb5
  clear hb5
  go_wp2_with (first | (with_reducible refine wpList_getg (o := ⟨some 16, .load 43 (.tmp 4), _, _, _, _⟩) (by with_unfolding_all rfl) 43 (.tmp 4) (by with_unfolding_all rfl) g4 0 (by with_unfolding_all rfl) B4 m.cells (cs_all _) _ (by exact Tryd.underlying43) (by with_unfolding_all rfl) (by (rw [Pat.cells_length]; exact Tryd.szM)) ?_))
  (with_reducible refine (rrightMod_p _ HM.out).mono ?_)
  rintro e w6 ⟨rfl, hb6⟩
  have B4 := B4.next hb6 B4.lt
  have B5 := B5.next hb6 B5.lt
  have B6 := B6.next hb6 B6.lt
  have B7 := B7.next hb6 B7.lt
  have hbe := below_join hbe hb6
  clear hb6
  go_wp2_with (first | (with_reducible refine wpList_getg (o := ⟨some 20, .load 43 (.tmp 5), _, _, _, _⟩) (by with_unfolding_all rfl) 43 (.tmp 5) (by with_unfolding_all rfl) g5 0 (by with_unfolding_all rfl) B5 n.cells (cs_all _) _ (by exact Tryd.underlying43) (by with_unfolding_all rfl) (by (rw [Pat.cells_length]; exact Tryd.szM)) ?_))
  (with_reducible refine (rrightMod_p _ HN.out).mono ?_)
  rintro e w7 ⟨rfl, hb7⟩
  have B4 := B4.next hb7 B4.lt
  have B5 := B5.next hb7 B5.lt
  have B6 := B6.next hb7 B6.lt
  have B7 := B7.next hb7 B7.lt
  have hbe := below_join hbe hb7
  clear hb7
  go_wp2_with (first | (with_reducible refine wpList_getg (o := ⟨some 25, .load 23 (.tmp 6), _, _, _, _⟩) (by with_unfolding_all rfl) 23 (.tmp 6) (by with_unfolding_all rfl) g6 0 (by with_unfolding_all rfl) B6 (H h) (cs_all _) _ (by exact Tryd.underlying23) (by with_unfolding_all rfl) (by (rw [H_length]; exact Tryd.szH)) ?_) | (with_reducible refine wpList_getg (o := ⟨some 26, .load 23 (.tmp 6), _, _, _, _⟩) (by with_unfolding_all rfl) 23 (.tmp 6) (by with_unfolding_all rfl) g6 0 (by with_unfolding_all rfl) B6 (H h) (cs_all _) _ (by exact Tryd.underlying23) (by with_unfolding_all rfl) (by (rw [H_length]; exact Tryd.szH)) ?_))
  (with_reducible refine (heads_h _ _ _).mono ?_)
  rintro e w8 ⟨rfl, hb8⟩
  have B4 := B4.next hb8 B4.lt
  have B5 := B5.next hb8 B5.lt
  have B6 := B6.next hb8 B6.lt
  have B7 := B7.next hb8 B7.lt
  have hbe := below_join hbe hb8
  clear hb8
  go_wp2_with (first | (with_reducible refine wpList_getg (o := ⟨some 31, .load 25 (.tmp 7), _, _, _, _⟩) (by with_unfolding_all rfl) 25 (.tmp 7) (by with_unfolding_all rfl) g7 0 (by with_unfolding_all rfl) B7 p.cells (cs_all _) _ (by exact Tryd.underlying25) (by with_unfolding_all rfl) (by (rw [Pat.cells_length]; exact Tryd.szP)) ?_))
  (with_reducible refine (rright_p _ HP.out).mono ?_)
  rintro e w9 ⟨rfl, hb9⟩
  have B4 := B4.next hb9 B4.lt
  have B5 := B5.next hb9 B5.lt
  have B6 := B6.next hb9 B6.lt
  have B7 := B7.next hb9 B7.lt
  have hbe := below_join hbe hb9
  clear hb9
  go_wp2_with (first | (with_reducible refine wpList_getg (o := ⟨some 36, .load 43 (.tmp 4), _, _, _, _⟩) (by with_unfolding_all rfl) 43 (.tmp 4) (by with_unfolding_all rfl) g4 0 (by with_unfolding_all rfl) B4 m.cells (cs_all _) _ (by exact Tryd.underlying43) (by with_unfolding_all rfl) (by (rw [Pat.cells_length]; exact Tryd.szM)) ?_) | (with_reducible refine wpList_getg (o := ⟨some 37, .load 23 (.tmp 6), _, _, _, _⟩) (by with_unfolding_all rfl) 23 (.tmp 6) (by with_unfolding_all rfl) g6 0 (by with_unfolding_all rfl) B6 (H h) (cs_all _) _ (by exact Tryd.underlying23) (by with_unfolding_all rfl) (by (rw [H_length]; exact Tryd.szH)) ?_))
  (with_reducible refine (C1.out _).mono ?_)
  rintro e w10 ⟨rfl, hb10⟩
  have B4 := B4.next hb10 B4.lt
  have B5 := B5.next hb10 B5.lt
  have B6 := B6.next hb10 B6.lt
  have B7 := B7.next hb10 B7.lt
  have hbe := below_join hbe hb10
  clear hb10
  go_wp2_with (with_reducible refine wpList_alloc (o := ⟨some 10, .alloc 23, _, _, _, _⟩) (by with_unfolding_all rfl) 23 (by with_unfolding_all rfl) (.agg (H no).toArray) (H no) (by exact Tryd.zeroH) (by with_unfolding_all rfl) ?_)
  intro g10 w11 hg10 hs11 hb11 hB11
  have hl11 : w10.heap.size ≤ g10 := Nat.le_of_eq hg10.out.symm
  have hb11 := hb11.mono hl11
  go_wp2_with (with_reducible refine wpList_put (o := ⟨none, .store 23 (.tmp 10) (.tmp 38), _, _, _, _⟩) (by with_unfolding_all rfl) 23 (.tmp 10) (.tmp 38) (by with_unfolding_all rfl) g10 0 (by with_unfolding_all rfl) (.agg (H g).toArray) (by with_unfolding_all rfl) hB11 (H g) (by with_unfolding_all rfl) (by with_unfolding_all (rw [H_length]; exact Tryd.szH)) (by with_unfolding_all (rw [H_length, H_length] <;> omega)) (by with_unfolding_all (exact H_one _)) ?_)
  intro w12 hu12 B10
  rw [splice_all _ _ (by rw [H_length, H_length])] at B10
  have hb12 := hb11.trans (hu12.below (B := w10.heap.size) hl11)
  have B4 := B4.next hb12 B4.lt
  have B5 := B5.next hb12 B5.lt
  have B6 := B6.next hb12 B6.lt
  have B7 := B7.next hb12 B7.lt
  have hbe := below_join hbe hb12
  clear hb11 hb12 hu12 hB11 hl11 hg10 hs11
  go_wp2
  have hdd := below_drew w12
  have K4_0 : Hid (∀ w', Below w12.heap.size w12 w' → w'.rangeAt g4 0 m.cells) := (fun w' h => blk_range (B4.next h B4.lt) : ∀ w', Below w12.heap.size w12 w' → w'.rangeAt g4 0 m.cells)
  have Z4_0 : (Tryd.prog.info? 43).map (·.size) = some m.cells.length := by (rw [Pat.cells_length]; exact Tryd.szM)
  have K5_0 : Hid (∀ w', Below w12.heap.size w12 w' → w'.rangeAt g5 0 n.cells) := (fun w' h => blk_range (B5.next h B5.lt) : ∀ w', Below w12.heap.size w12 w' → w'.rangeAt g5 0 n.cells)
  have Z5_0 : (Tryd.prog.info? 43).map (·.size) = some n.cells.length := by (rw [Pat.cells_length]; exact Tryd.szM)
  have K6_0 : Hid (∀ w', Below w12.heap.size w12 w' → w'.rangeAt g6 0 (H h)) := (fun w' h => blk_range (B6.next h B6.lt) : ∀ w', Below w12.heap.size w12 w' → w'.rangeAt g6 0 (H h))
  have Z6_0 : (Tryd.prog.info? 23).map (·.size) = some (H h).length := by (rw [H_length]; exact Tryd.szH)
  have K10_0 : Hid (∀ w', Below w12.heap.size w12 w' → w'.rangeAt g10 0 (H g)) := (fun w' h => blk_range (B10.next h B10.lt) : ∀ w', Below w12.heap.size w12 w' → w'.rangeAt g10 0 (H g))
  have Z10_0 : (Tryd.prog.info? 23).map (·.size) = some (H g).length := by (rw [H_length]; exact Tryd.szH)
  refine wp_region_held_drew (S := fun w' => Below w12.heap.size w12 w') (by kernel_rfl) hdd (fun hHeld => ?_)
  generalize w12.drew = wd at hdd hHeld ⊢
  refine' wpAnyH_take (i := 0) (v := _) rfl (by kernel_rfl) (by kernel_rfl) (by kernel_rfl) (fun _ _ _ h => h) (yieldsIf_load_mid (by rfl) _ _ (by rfl) _ _ (by rfl) _ _ ?Sab_0 ?uab_0 ?dab_0 ?iab_0) (by assumption) ?rab_0
  case Sab_0 => exact (by intro w h; exact K4_0.out _ h)
  case uab_0 => exact Tryd.underlying43
  case dab_0 => rfl
  case iab_0 => exact Z4_0
  (try simp only [List.getElem_toArray, List.getElem_cons_zero, Act.put, List.setIfInBounds_toArray, List.set_cons_zero, List.set_cons_succ])
  refine' wpAnyH_take (i := 1) (v := _) rfl (by kernel_rfl) (by kernel_rfl) (by kernel_rfl) (fun _ _ _ h => h) (yieldsIf_load_mid (by rfl) _ _ (by rfl) _ _ (by rfl) _ _ ?Sab_1 ?uab_1 ?dab_1 ?iab_1) (by assumption) ?rab_1
  case Sab_1 => exact (by intro w h; exact K5_0.out _ h)
  case uab_1 => exact Tryd.underlying43
  case dab_1 => rfl
  case iab_1 => exact Z5_0
  (try simp only [List.getElem_toArray, List.getElem_cons_succ, List.getElem_cons_zero, Act.put, List.setIfInBounds_toArray, List.set_cons_zero, List.set_cons_succ])
  refine' wpAnyH_take (i := 3) (v := _) rfl (by kernel_rfl) (by kernel_rfl) (by kernel_rfl) (fun _ _ _ h => h) (yieldsIf_load_mid (by rfl) _ _ (by rfl) _ _ (by rfl) _ _ ?Sab_3 ?uab_3 ?dab_3 ?iab_3) (by assumption) ?rab_3
  case Sab_3 => exact (by intro w h; exact K6_0.out _ h)
  case uab_3 => exact Tryd.underlying23
  case dab_3 => rfl
  case iab_3 => exact Z6_0
  (try simp only [List.getElem_toArray, List.getElem_cons_succ, List.getElem_cons_zero, Act.put, List.setIfInBounds_toArray, List.set_cons_zero, List.set_cons_succ])
  refine' wpAnyH_take (i := 5) (v := _) rfl (by kernel_rfl) (by kernel_rfl) (by kernel_rfl) (fun _ _ _ h => h) (yieldsIf_load_mid (by rfl) _ _ (by rfl) _ _ (by rfl) _ _ ?Sab_5 ?uab_5 ?dab_5 ?iab_5) (by assumption) ?rab_5
  case Sab_5 => exact (by intro w h; exact K5_0.out _ h)
  case uab_5 => exact Tryd.underlying43
  case dab_5 => rfl
  case iab_5 => exact Z5_0
  (try simp only [List.getElem_toArray, List.getElem_cons_succ, List.getElem_cons_zero, Act.put, List.setIfInBounds_toArray, List.set_cons_zero, List.set_cons_succ])
  refine' wpAnyH_take (i := 6) (v := _) rfl (by kernel_rfl) (by kernel_rfl) (by kernel_rfl) (fun _ _ _ h => h) (yieldsIf_load_mid (by rfl) _ _ (by rfl) _ _ (by rfl) _ _ ?Sab_6 ?uab_6 ?dab_6 ?iab_6) (by assumption) ?rab_6
  case Sab_6 => exact (by intro w h; exact K10_0.out _ h)
  case uab_6 => exact Tryd.underlying23
  case dab_6 => rfl
  case iab_6 => exact Z10_0
  (try simp only [List.getElem_toArray, List.getElem_cons_succ, List.getElem_cons_zero, Act.put, List.setIfInBounds_toArray, List.set_cons_zero, List.set_cons_succ])
  refine wpAnyH_ready (rs := [2]) (by kernel_rfl) (by simp) ?_
  refine AllReadyH.cons rfl (fun K hK => ?_) AllReadyH.nil
  go_simp
  go_wp2_with fail
  (with_reducible refine (C2.out _).mono ?_)
  rintro e w13 ⟨rfl, hb13⟩
  have hk13 := below_join hdd hb13
  refine hK.out _ _ hk13 (fun hHeld => ?_)
  clear hK K hb13 hdd
  refine wpAnyH_ready (rs := [4]) (by kernel_rfl) (by simp) ?_
  refine AllReadyH.cons rfl (fun K hK => ?_) AllReadyH.nil
  go_simp
  go_wp2_with fail
  (with_reducible refine (C3.out _).mono ?_)
  rintro e w14 ⟨rfl, hb14⟩
  have hk14 := below_join hk13 hb14
  refine hK.out _ _ hk14 (fun hHeld => ?_)
  clear hK K hb14 hk13
  refine wpAnyH_ready (rs := [7]) (by kernel_rfl) (by simp) ?_
  refine AllReadyH.cons rfl (fun K hK => ?_) AllReadyH.nil
  go_simp
  go_wp2_with fail
  (with_reducible refine (C4.out _).mono ?_)
  rintro e w15 ⟨rfl, hb15⟩
  have hk15 := below_join hk14 hb15
  refine hK.out _ _ hk15 (fun hHeld => ?_)
  clear hK K hb15 hk14
  refine wpAnyH_take (i := 8) (v := ?vab_8) rfl (by kernel_rfl) (by kernel_rfl) (by kernel_rfl) (fun _ _ _ h => h) (Or.inl ⟨by rfl, ?yab_8⟩) (by assumption) ?rab_8
  case yab_8 => intro w hSw; (try dsimp only at hSw); go_simp <;> (try with_reducible rfl)
  (try simp only [List.getElem_toArray, List.getElem_cons_succ, List.getElem_cons_zero, Act.put, List.setIfInBounds_toArray, List.set_cons_zero, List.set_cons_succ])
  refine wpAnyH_done (by kernel_rfl) ?_ _
  clear hHeld K4_0 Z4_0 K5_0 Z5_0 K6_0 Z6_0 K10_0 Z10_0
  have B4 := B4.next hk15 B4.lt
  have B5 := B5.next hk15 B5.lt
  have B6 := B6.next hk15 B6.lt
  have B7 := B7.next hk15 B7.lt
  have B10 := B10.next hk15 B10.lt
  have hbe := below_join hbe hk15
  clear hk15
  go_wp2_with (first | (with_reducible refine wpList_getg (o := ⟨some 49, .load 25 (.tmp 7), _, _, _, _⟩) (by with_unfolding_all rfl) 25 (.tmp 7) (by with_unfolding_all rfl) g7 0 (by with_unfolding_all rfl) B7 p.cells (cs_all _) _ (by exact Tryd.underlying25) (by with_unfolding_all rfl) (by (rw [Pat.cells_length]; exact Tryd.szP)) ?_) | (with_reducible refine wpList_getg (o := ⟨some 50, .load 43 (.tmp 4), _, _, _, _⟩) (by with_unfolding_all rfl) 43 (.tmp 4) (by with_unfolding_all rfl) g4 0 (by with_unfolding_all rfl) B4 m.cells (cs_all _) _ (by exact Tryd.underlying43) (by with_unfolding_all rfl) (by (rw [Pat.cells_length]; exact Tryd.szM)) ?_))
  (with_reducible refine (C5.out _).mono ?_)
  rintro e w16 ⟨rfl, hb16⟩
  have B4 := B4.next hb16 B4.lt
  have B5 := B5.next hb16 B5.lt
  have B6 := B6.next hb16 B6.lt
  have B7 := B7.next hb16 B7.lt
  have B10 := B10.next hb16 B10.lt
  have hbe := below_join hbe hb16
  clear hb16
  go_wp2_with (with_reducible refine wpList_alloc (o := ⟨some 11, .alloc 25, _, _, _, _⟩) (by with_unfolding_all rfl) 25 (by with_unfolding_all rfl) (.agg (H no ++ H no).toArray) (H no ++ H no) (by exact Tryd.zeroPt) (by with_unfolding_all rfl) ?_)
  intro g11 w17 hg11 hs17 hb17 hB17
  have hl17 : w16.heap.size ≤ g11 := Nat.le_of_eq hg11.out.symm
  have hb17 := hb17.mono hl17
  go_wp2_with (with_reducible refine wpList_put (o := ⟨none, .store 25 (.tmp 11) (.tmp 52), _, _, _, _⟩) (by with_unfolding_all rfl) 25 (.tmp 11) (.tmp 52) (by with_unfolding_all rfl) g11 0 (by with_unfolding_all rfl) (.agg X.cells.toArray) (by with_unfolding_all rfl) hB17 X.cells (by with_unfolding_all rfl) (by with_unfolding_all (rw [Pat.cells_length]; exact Tryd.szP)) (by with_unfolding_all (rw [Pat.cells_length, List.length_append, H_length] <;> omega)) (by with_unfolding_all (exact cells_one _)) ?_)
  intro w18 hu18 B11
  rw [splice_all _ _ (by rw [Pat.cells_length, List.length_append, H_length])] at B11
  have hb18 := hb17.trans (hu18.below (B := w16.heap.size) hl17)
  have B4 := B4.next hb18 B4.lt
  have B5 := B5.next hb18 B5.lt
  have B6 := B6.next hb18 B6.lt
  have B7 := B7.next hb18 B7.lt
  have B10 := B10.next hb18 B10.lt
  have hbe := below_join hbe hb18
  clear hb17 hb18 hu18 hB17 hl17 hg11 hs17
  go_wp2_with (first | (with_reducible refine wpList_getg (o := ⟨some 54, .load 25 (.tmp 7), _, _, _, _⟩) (by with_unfolding_all rfl) 25 (.tmp 7) (by with_unfolding_all rfl) g7 0 (by with_unfolding_all rfl) B7 p.cells (cs_all _) _ (by exact Tryd.underlying25) (by with_unfolding_all rfl) (by (rw [Pat.cells_length]; exact Tryd.szP)) ?_) | (with_reducible refine wpList_getg (o := ⟨some 55, .load 23 (.tmp 10), _, _, _, _⟩) (by with_unfolding_all rfl) 23 (.tmp 10) (by with_unfolding_all rfl) g10 0 (by with_unfolding_all rfl) B10 (H g) (cs_all _) _ (by exact Tryd.underlying23) (by with_unfolding_all rfl) (by (rw [H_length]; exact Tryd.szH)) ?_))
  (with_reducible refine (C6.out _).mono ?_)
  rintro e w19 ⟨rfl, hb19⟩
  have B4 := B4.next hb19 B4.lt
  have B5 := B5.next hb19 B5.lt
  have B6 := B6.next hb19 B6.lt
  have B7 := B7.next hb19 B7.lt
  have B10 := B10.next hb19 B10.lt
  have B11 := B11.next hb19 B11.lt
  have hbe := below_join hbe hb19
  clear hb19
  have hfin : Hid ((O && V) = S) := hSV
  clear hSV
  rcases O with _ | _
  · skip
    have hs : S = false := hfin.out.symm
    subst hs
    go_wp2_with (first | (with_reducible refine wpList_getg (o := ⟨some 64, .load 25 (.tmp 7), _, _, _, _⟩) (by with_unfolding_all rfl) 25 (.tmp 7) (by with_unfolding_all rfl) g7 0 (by with_unfolding_all rfl) B7 p.cells (cs_all _) _ (by exact Tryd.underlying25) (by with_unfolding_all rfl) (by (rw [Pat.cells_length]; exact Tryd.szP)) ?_) | (with_reducible refine wpList_getg (o := ⟨some 65, .load 43 (.tmp 4), _, _, _, _⟩) (by with_unfolding_all rfl) 43 (.tmp 4) (by with_unfolding_all rfl) g4 0 (by with_unfolding_all rfl) B4 m.cells (cs_all _) _ (by exact Tryd.underlying43) (by with_unfolding_all rfl) (by (rw [Pat.cells_length]; exact Tryd.szM)) ?_))
    (with_reducible refine (C8.out _).mono ?_)
    rintro e w20 ⟨rfl, hb20⟩
    have B4 := B4.next hb20 B4.lt
    have B5 := B5.next hb20 B5.lt
    have B6 := B6.next hb20 B6.lt
    have B7 := B7.next hb20 B7.lt
    have B10 := B10.next hb20 B10.lt
    have B11 := B11.next hb20 B11.lt
    have hbe := below_join hbe hb20
    clear hb20
    go_wp2_with (with_reducible refine wpList_alloc (o := ⟨some 13, .alloc 25, _, _, _, _⟩) (by with_unfolding_all rfl) 25 (by with_unfolding_all rfl) (.agg (H no ++ H no).toArray) (H no ++ H no) (by exact Tryd.zeroPt) (by with_unfolding_all rfl) ?_)
    intro g13 w21 hg13 hs21 hb21 hB21
    have hl21 : w20.heap.size ≤ g13 := Nat.le_of_eq hg13.out.symm
    have hb21 := hb21.mono hl21
    go_wp2_with (with_reducible refine wpList_put (o := ⟨none, .store 25 (.tmp 13) (.tmp 66), _, _, _, _⟩) (by with_unfolding_all rfl) 25 (.tmp 13) (.tmp 66) (by with_unfolding_all rfl) g13 0 (by with_unfolding_all rfl) (.agg I.cells.toArray) (by with_unfolding_all rfl) hB21 I.cells (by with_unfolding_all rfl) (by with_unfolding_all (rw [Pat.cells_length]; exact Tryd.szP)) (by with_unfolding_all (rw [Pat.cells_length, List.length_append, H_length] <;> omega)) (by with_unfolding_all (exact cells_one _)) ?_)
    intro w22 hu22 B13
    rw [splice_all _ _ (by rw [Pat.cells_length, List.length_append, H_length])] at B13
    have hb22 := hb21.trans (hu22.below (B := w20.heap.size) hl21)
    have B4 := B4.next hb22 B4.lt
    have B5 := B5.next hb22 B5.lt
    have B6 := B6.next hb22 B6.lt
    have B7 := B7.next hb22 B7.lt
    have B10 := B10.next hb22 B10.lt
    have B11 := B11.next hb22 B11.lt
    have hbe := below_join hbe hb22
    clear hb21 hb22 hu22 hB21 hl21 hg13 hs21
    go_wp2_with (first | (with_reducible refine wpList_getg (o := ⟨some 67, .load 25 (.tmp 7), _, _, _, _⟩) (by with_unfolding_all rfl) 25 (.tmp 7) (by with_unfolding_all rfl) g7 0 (by with_unfolding_all rfl) B7 p.cells (cs_all _) _ (by exact Tryd.underlying25) (by with_unfolding_all rfl) (by (rw [Pat.cells_length]; exact Tryd.szP)) ?_) | (with_reducible refine wpList_getg (o := ⟨some 68, .load 23 (.tmp 6), _, _, _, _⟩) (by with_unfolding_all rfl) 23 (.tmp 6) (by with_unfolding_all rfl) g6 0 (by with_unfolding_all rfl) B6 (H h) (cs_all _) _ (by exact Tryd.underlying23) (by with_unfolding_all rfl) (by (rw [H_length]; exact Tryd.szH)) ?_))
    (with_reducible refine (C9.out _).mono ?_)
    rintro e w23 ⟨rfl, hb23⟩
    have B4 := B4.next hb23 B4.lt
    have B5 := B5.next hb23 B5.lt
    have B6 := B6.next hb23 B6.lt
    have B7 := B7.next hb23 B7.lt
    have B10 := B10.next hb23 B10.lt
    have B11 := B11.next hb23 B11.lt
    have B13 := B13.next hb23 B13.lt
    have hbe := below_join hbe hb23
    clear hb23
    rcases Y with _ | _
    · skip
      go_wp2_with (first | (with_reducible refine wpList_getg (o := ⟨some 76, .load 25 (.tmp 13), _, _, _, _⟩) (by with_unfolding_all rfl) 25 (.tmp 13) (by with_unfolding_all rfl) g13 0 (by with_unfolding_all rfl) B13 I.cells (cs_all _) _ (by exact Tryd.underlying25) (by with_unfolding_all rfl) (by (rw [Pat.cells_length]; exact Tryd.szP)) ?_) | (with_reducible refine wpList_getg (o := ⟨some 77, .load 23 (.tmp 6), _, _, _, _⟩) (by with_unfolding_all rfl) 23 (.tmp 6) (by with_unfolding_all rfl) g6 0 (by with_unfolding_all rfl) B6 (H h) (cs_all _) _ (by exact Tryd.underlying23) (by with_unfolding_all rfl) (by (rw [H_length]; exact Tryd.szH)) ?_))
      (with_reducible refine (C11.out _).mono ?_)
      rintro e w24 ⟨rfl, hb24⟩
      have B4 := B4.next hb24 B4.lt
      have B5 := B5.next hb24 B5.lt
      have B6 := B6.next hb24 B6.lt
      have B7 := B7.next hb24 B7.lt
      have B10 := B10.next hb24 B10.lt
      have B11 := B11.next hb24 B11.lt
      have B13 := B13.next hb24 B13.lt
      have hbe := below_join hbe hb24
      clear hb24
      rcases K' with _ | _
      · go_wp2
        go_ret
        exact ⟨rfl, hbe⟩
      · skip
        have D13 := Lib.hid (C13.out rfl)
        have D14 := Lib.hid (C14.out rfl)
        clear C13 C14
        go_wp2_with (first | (with_reducible refine wpList_getg (o := ⟨some 82, .load 23 (.tmp 81), _, _, _, _⟩) (by with_unfolding_all rfl) 23 (.tmp 81) (by with_unfolding_all rfl) g7 0 (by with_unfolding_all rfl) B7 (H p.m) (cells_take_m p) _ (by exact Tryd.underlying23) (by with_unfolding_all rfl) (by (rw [H_length]; exact Tryd.szH)) ?_) | (with_reducible refine wpList_getg (o := ⟨some 84, .load 23 (.tmp 83), _, _, _, _⟩) (by with_unfolding_all rfl) 23 (.tmp 83) (by with_unfolding_all rfl) g7 10 (by with_unfolding_all rfl) B7 (H p.b) (cells_take_b p) _ (by exact Tryd.underlying23) (by with_unfolding_all rfl) (by (rw [H_length]; exact Tryd.szH)) ?_) | (with_reducible refine wpList_build (o := ⟨some 85, .build 43 #[(0, .tmp 82), (1, .tmp 84)], _, _, _, _⟩) (by with_unfolding_all rfl) 43 #[(0, .tmp 82), (1, .tmp 84)] (by with_unfolding_all rfl) #[(0, .agg (H p.m).toArray), (1, .agg (H p.b).toArray)] (by with_unfolding_all rfl) (.agg p.cells.toArray) bm ?_) | (with_reducible refine wpList_getg (o := ⟨some 86, .load 23 (.tmp 6), _, _, _, _⟩) (by with_unfolding_all rfl) 23 (.tmp 6) (by with_unfolding_all rfl) g6 0 (by with_unfolding_all rfl) B6 (H h) (cs_all _) _ (by exact Tryd.underlying23) (by with_unfolding_all rfl) (by (rw [H_length]; exact Tryd.szH)) ?_))
        (with_reducible refine (C12.out _).mono ?_)
        rintro e w25 ⟨rfl, hb25⟩
        have B4 := B4.next hb25 B4.lt
        have B5 := B5.next hb25 B5.lt
        have B6 := B6.next hb25 B6.lt
        have B7 := B7.next hb25 B7.lt
        have B10 := B10.next hb25 B10.lt
        have B11 := B11.next hb25 B11.lt
        have B13 := B13.next hb25 B13.lt
        have hbe := below_join hbe hb25
        clear hb25
        go_wp2_with (with_reducible refine wpList_alloc (o := ⟨some 14, .alloc 23, _, _, _, _⟩) (by with_unfolding_all rfl) 23 (by with_unfolding_all rfl) (.agg (H no).toArray) (H no) (by exact Tryd.zeroH) (by with_unfolding_all rfl) ?_)
        intro g14 w26 hg14 hs26 hb26 hB26
        have hl26 : w25.heap.size ≤ g14 := Nat.le_of_eq hg14.out.symm
        have hb26 := hb26.mono hl26
        go_wp2_with (with_reducible refine wpList_put (o := ⟨none, .store 23 (.tmp 14) (.tmp 87), _, _, _, _⟩) (by with_unfolding_all rfl) 23 (.tmp 14) (.tmp 87) (by with_unfolding_all rfl) g14 0 (by with_unfolding_all rfl) (.agg (H f).toArray) (by with_unfolding_all rfl) hB26 (H f) (by with_unfolding_all rfl) (by with_unfolding_all (rw [H_length]; exact Tryd.szH)) (by with_unfolding_all (rw [H_length, H_length] <;> omega)) (by with_unfolding_all (exact H_one _)) ?_)
        intro w27 hu27 B14
        rw [splice_all _ _ (by rw [H_length, H_length])] at B14
        have hb27 := hb26.trans (hu27.below (B := w25.heap.size) hl26)
        have B4 := B4.next hb27 B4.lt
        have B5 := B5.next hb27 B5.lt
        have B6 := B6.next hb27 B6.lt
        have B7 := B7.next hb27 B7.lt
        have B10 := B10.next hb27 B10.lt
        have B11 := B11.next hb27 B11.lt
        have B13 := B13.next hb27 B13.lt
        have hbe := below_join hbe hb27
        clear hb26 hb27 hu27 hB26 hl26 hg14 hs26
        go_wp2
        have hdd := below_drew w27
        have K4_0 : Hid (∀ w', Below w27.heap.size w27 w' → w'.rangeAt g4 0 m.cells) := (fun w' h => blk_range (B4.next h B4.lt) : ∀ w', Below w27.heap.size w27 w' → w'.rangeAt g4 0 m.cells)
        have Z4_0 : (Tryd.prog.info? 43).map (·.size) = some m.cells.length := by (rw [Pat.cells_length]; exact Tryd.szM)
        have K6_0 : Hid (∀ w', Below w27.heap.size w27 w' → w'.rangeAt g6 0 (H h)) := (fun w' h => blk_range (B6.next h B6.lt) : ∀ w', Below w27.heap.size w27 w' → w'.rangeAt g6 0 (H h))
        have Z6_0 : (Tryd.prog.info? 23).map (·.size) = some (H h).length := by (rw [H_length]; exact Tryd.szH)
        have K7_0 : Hid (∀ w', Below w27.heap.size w27 w' → w'.rangeAt g7 0 p.cells) := (fun w' h => blk_range (B7.next h B7.lt) : ∀ w', Below w27.heap.size w27 w' → w'.rangeAt g7 0 p.cells)
        have Z7_0 : (Tryd.prog.info? 25).map (·.size) = some p.cells.length := by (rw [Pat.cells_length]; exact Tryd.szP)
        have K14_0 : Hid (∀ w', Below w27.heap.size w27 w' → w'.rangeAt g14 0 (H f)) := (fun w' h => blk_range (B14.next h B14.lt) : ∀ w', Below w27.heap.size w27 w' → w'.rangeAt g14 0 (H f))
        have Z14_0 : (Tryd.prog.info? 23).map (·.size) = some (H f).length := by (rw [H_length]; exact Tryd.szH)
        refine wp_region_held_drew (S := fun w' => Below w27.heap.size w27 w') (by kernel_rfl) hdd (fun hHeld => ?_)
        generalize w27.drew = wd at hdd hHeld ⊢
        refine wpAnyH_take (i := 0) (v := ?vac_0) rfl (by kernel_rfl) (by kernel_rfl) (by kernel_rfl) (fun _ _ _ h => h) (Or.inl ⟨by rfl, ?yac_0⟩) (by assumption) ?rac_0
        case yac_0 => intro w hSw; (try dsimp only at hSw); go_simp <;> (try with_reducible rfl)
        (try simp only [List.getElem_toArray, List.getElem_cons_zero, Act.put, List.setIfInBounds_toArray, List.set_cons_zero, List.set_cons_succ])
        refine wpAnyH_take (i := 1) (v := ?vac_1) rfl (by kernel_rfl) (by kernel_rfl) (by kernel_rfl) (fun _ _ _ h => h) (Or.inl ⟨by rfl, ?yac_1⟩) (by assumption) ?rac_1
        case yac_1 => intro w hSw; (try dsimp only at hSw); go_simp <;> (try with_reducible rfl)
        (try simp only [List.getElem_toArray, List.getElem_cons_succ, List.getElem_cons_zero, Act.put, List.setIfInBounds_toArray, List.set_cons_zero, List.set_cons_succ])
        refine' wpAnyH_take (i := 2) (v := _) rfl (by kernel_rfl) (by kernel_rfl) (by kernel_rfl) (fun _ _ _ h => h) (yieldsIf_load_mid (by rfl) _ _ (by rfl) _ _ (by rfl) _ _ ?Sac_2 ?uac_2 ?dac_2 ?iac_2) (by assumption) ?rac_2
        case Sac_2 => exact (by intro w h; exact K7_0.out _ h)
        case uac_2 => exact Tryd.underlying25
        case dac_2 => rfl
        case iac_2 => exact Z7_0
        (try simp only [List.getElem_toArray, List.getElem_cons_succ, List.getElem_cons_zero, Act.put, List.setIfInBounds_toArray, List.set_cons_zero, List.set_cons_succ])
        refine' wpAnyH_take (i := 3) (v := _) rfl (by kernel_rfl) (by kernel_rfl) (by kernel_rfl) (fun _ _ _ h => h) (yieldsIf_load_mid (by rfl) _ _ (by rfl) _ _ (by rfl) _ _ ?Sac_3 ?uac_3 ?dac_3 ?iac_3) (by assumption) ?rac_3
        case Sac_3 => exact (by intro w h; exact K14_0.out _ h)
        case uac_3 => exact Tryd.underlying23
        case dac_3 => rfl
        case iac_3 => exact Z14_0
        (try simp only [List.getElem_toArray, List.getElem_cons_succ, List.getElem_cons_zero, Act.put, List.setIfInBounds_toArray, List.set_cons_zero, List.set_cons_succ])
        refine wpAnyH_ready (rs := [4]) (by kernel_rfl) (by simp) ?_
        refine AllReadyH.cons rfl (fun K hK => ?_) AllReadyH.nil
        go_simp
        go_wp2_with fail
        (with_reducible refine (D13.out _).mono ?_)
        rintro e w28 ⟨rfl, hb28⟩
        have hk28 := below_join hdd hb28
        refine hK.out _ _ hk28 (fun hHeld => ?_)
        clear hK K hb28 hdd
        refine wpAnyH_take (i := 5) (v := ?vac_5) rfl (by kernel_rfl) (by kernel_rfl) (by kernel_rfl) (fun _ _ _ h => h) (Or.inl ⟨by rfl, ?yac_5⟩) (by assumption) ?rac_5
        case yac_5 => intro w hSw; (try dsimp only at hSw); go_simp <;> (try with_reducible rfl)
        (try simp only [List.getElem_toArray, List.getElem_cons_succ, List.getElem_cons_zero, Act.put, List.setIfInBounds_toArray, List.set_cons_zero, List.set_cons_succ])
        refine wpAnyH_take (i := 6) (v := ?vac_6) rfl (by kernel_rfl) (by kernel_rfl) (by kernel_rfl) (fun _ _ _ h => h) (Or.inl ⟨by rfl, ?yac_6⟩) (by assumption) ?rac_6
        case yac_6 => intro w hSw; (try dsimp only at hSw); go_simp <;> (try with_reducible rfl)
        (try simp only [List.getElem_toArray, List.getElem_cons_succ, List.getElem_cons_zero, Act.put, List.setIfInBounds_toArray, List.set_cons_zero, List.set_cons_succ])
        refine' wpAnyH_take (i := 7) (v := _) rfl (by kernel_rfl) (by kernel_rfl) (by kernel_rfl) (fun _ _ _ h => h) (yieldsIf_load_mid (by rfl) _ _ (by rfl) _ _ (by rfl) _ _ ?Sac_7 ?uac_7 ?dac_7 ?iac_7) (by assumption) ?rac_7
        case Sac_7 => exact (by intro w h; exact K4_0.out _ h)
        case uac_7 => exact Tryd.underlying43
        case dac_7 => rfl
        case iac_7 => exact Z4_0
        (try simp only [List.getElem_toArray, List.getElem_cons_succ, List.getElem_cons_zero, Act.put, List.setIfInBounds_toArray, List.set_cons_zero, List.set_cons_succ])
        refine' wpAnyH_take (i := 8) (v := _) rfl (by kernel_rfl) (by kernel_rfl) (by kernel_rfl) (fun _ _ _ h => h) (yieldsIf_load_mid (by rfl) _ _ (by rfl) _ _ (by rfl) _ _ ?Sac_8 ?uac_8 ?dac_8 ?iac_8) (by assumption) ?rac_8
        case Sac_8 => exact (by intro w h; exact K14_0.out _ h)
        case uac_8 => exact Tryd.underlying23
        case dac_8 => rfl
        case iac_8 => exact Z14_0
        (try simp only [List.getElem_toArray, List.getElem_cons_succ, List.getElem_cons_zero, Act.put, List.setIfInBounds_toArray, List.set_cons_zero, List.set_cons_succ])
        refine' wpAnyH_take (i := 10) (v := _) rfl (by kernel_rfl) (by kernel_rfl) (by kernel_rfl) (fun _ _ _ h => h) (yieldsIf_load_mid (by rfl) _ _ (by rfl) _ _ (by rfl) _ _ ?Sac_10 ?uac_10 ?dac_10 ?iac_10) (by assumption) ?rac_10
        case Sac_10 => exact (by intro w h; exact K6_0.out _ h)
        case uac_10 => exact Tryd.underlying23
        case dac_10 => rfl
        case iac_10 => exact Z6_0
        (try simp only [List.getElem_toArray, List.getElem_cons_succ, List.getElem_cons_zero, Act.put, List.setIfInBounds_toArray, List.set_cons_zero, List.set_cons_succ])
        refine wpAnyH_ready (rs := [9]) (by kernel_rfl) (by simp) ?_
        refine AllReadyH.cons rfl (fun K hK => ?_) AllReadyH.nil
        go_simp
        go_wp2_with fail
        (with_reducible refine (D14.out _).mono ?_)
        rintro e w29 ⟨rfl, hb29⟩
        have hk29 := below_join hk28 hb29
        refine hK.out _ _ hk29 (fun hHeld => ?_)
        clear hK K hb29 hk28
        refine wpAnyH_take (i := 11) (v := ?vac_11) rfl (by kernel_rfl) (by kernel_rfl) (by kernel_rfl) (fun _ _ _ h => h) (Or.inl ⟨by rfl, ?yac_11⟩) (by assumption) ?rac_11
        case yac_11 => intro w hSw; (try dsimp only at hSw); go_simp <;> (try with_reducible rfl)
        (try simp only [List.getElem_toArray, List.getElem_cons_succ, List.getElem_cons_zero, Act.put, List.setIfInBounds_toArray, List.set_cons_zero, List.set_cons_succ])
        refine wpAnyH_take (i := 12) (v := ?vac_12) rfl (by kernel_rfl) (by kernel_rfl) (by kernel_rfl) (fun _ _ _ h => h) (Or.inl ⟨by rfl, ?yac_12⟩) (by assumption) ?rac_12
        case yac_12 => intro w hSw; (try dsimp only at hSw); go_simp <;> (try with_reducible rfl)
        (try simp only [List.getElem_toArray, List.getElem_cons_succ, List.getElem_cons_zero, Act.put, List.setIfInBounds_toArray, List.set_cons_zero, List.set_cons_succ])
        refine wpAnyH_take (i := 13) (v := ?vac_13) rfl (by kernel_rfl) (by kernel_rfl) (by kernel_rfl) (fun _ _ _ h => h) (Or.inl ⟨by rfl, ?yac_13⟩) (by assumption) ?rac_13
        case yac_13 => intro w hSw; (try dsimp only at hSw); go_simp <;> (try with_reducible rfl)
        (try simp only [List.getElem_toArray, List.getElem_cons_succ, List.getElem_cons_zero, Act.put, List.setIfInBounds_toArray, List.set_cons_zero, List.set_cons_succ])
        refine wpAnyH_done (by kernel_rfl) ?_ _
        clear hHeld K4_0 Z4_0 K6_0 Z6_0 K7_0 Z7_0 K14_0 Z14_0
        have B4 := B4.next hk29 B4.lt
        have B5 := B5.next hk29 B5.lt
        have B6 := B6.next hk29 B6.lt
        have B7 := B7.next hk29 B7.lt
        have B10 := B10.next hk29 B10.lt
        have B11 := B11.next hk29 B11.lt
        have B13 := B13.next hk29 B13.lt
        have B14 := B14.next hk29 B14.lt
        have hbe := below_join hbe hk29
        clear hk29
        go_wp2
        go_ret
        exact ⟨rfl, hbe⟩
    · skip
      have hj := HYJ.out rfl
      subst hj
      go_wp2_with (first | (with_reducible refine wpList_getg (o := ⟨some 71, .load 25 (.tmp 13), _, _, _, _⟩) (by with_unfolding_all rfl) 25 (.tmp 13) (by with_unfolding_all rfl) g13 0 (by with_unfolding_all rfl) B13 I.cells (cs_all _) _ (by exact Tryd.underlying25) (by with_unfolding_all rfl) (by (rw [Pat.cells_length]; exact Tryd.szP)) ?_) | (with_reducible refine wpList_getg (o := ⟨some 72, .load 23 (.tmp 10), _, _, _, _⟩) (by with_unfolding_all rfl) 23 (.tmp 10) (by with_unfolding_all rfl) g10 0 (by with_unfolding_all rfl) B10 (H g) (cs_all _) _ (by exact Tryd.underlying23) (by with_unfolding_all rfl) (by (rw [H_length]; exact Tryd.szH)) ?_))
      (with_reducible refine (C10.out _).mono ?_)
      rintro e w24 ⟨rfl, hb24⟩
      have B4 := B4.next hb24 B4.lt
      have B5 := B5.next hb24 B5.lt
      have B6 := B6.next hb24 B6.lt
      have B7 := B7.next hb24 B7.lt
      have B10 := B10.next hb24 B10.lt
      have B11 := B11.next hb24 B11.lt
      have B13 := B13.next hb24 B13.lt
      have hbe := below_join hbe hb24
      clear hb24
      go_wp2_with (first | (with_reducible refine wpList_getg (o := ⟨some 76, .load 25 (.tmp 13), _, _, _, _⟩) (by with_unfolding_all rfl) 25 (.tmp 13) (by with_unfolding_all rfl) g13 0 (by with_unfolding_all rfl) B13 I.cells (cs_all _) _ (by exact Tryd.underlying25) (by with_unfolding_all rfl) (by (rw [Pat.cells_length]; exact Tryd.szP)) ?_) | (with_reducible refine wpList_getg (o := ⟨some 77, .load 23 (.tmp 6), _, _, _, _⟩) (by with_unfolding_all rfl) 23 (.tmp 6) (by with_unfolding_all rfl) g6 0 (by with_unfolding_all rfl) B6 (H h) (cs_all _) _ (by exact Tryd.underlying23) (by with_unfolding_all rfl) (by (rw [H_length]; exact Tryd.szH)) ?_))
      (with_reducible refine (C11.out _).mono ?_)
      rintro e w25 ⟨rfl, hb25⟩
      have B4 := B4.next hb25 B4.lt
      have B5 := B5.next hb25 B5.lt
      have B6 := B6.next hb25 B6.lt
      have B7 := B7.next hb25 B7.lt
      have B10 := B10.next hb25 B10.lt
      have B11 := B11.next hb25 B11.lt
      have B13 := B13.next hb25 B13.lt
      have hbe := below_join hbe hb25
      clear hb25
      rcases K' with _ | _
      · go_wp2
        go_ret
        exact ⟨rfl, hbe⟩
      · skip
        have D13 := Lib.hid (C13.out rfl)
        have D14 := Lib.hid (C14.out rfl)
        clear C13 C14
        go_wp2_with (first | (with_reducible refine wpList_getg (o := ⟨some 82, .load 23 (.tmp 81), _, _, _, _⟩) (by with_unfolding_all rfl) 23 (.tmp 81) (by with_unfolding_all rfl) g7 0 (by with_unfolding_all rfl) B7 (H p.m) (cells_take_m p) _ (by exact Tryd.underlying23) (by with_unfolding_all rfl) (by (rw [H_length]; exact Tryd.szH)) ?_) | (with_reducible refine wpList_getg (o := ⟨some 84, .load 23 (.tmp 83), _, _, _, _⟩) (by with_unfolding_all rfl) 23 (.tmp 83) (by with_unfolding_all rfl) g7 10 (by with_unfolding_all rfl) B7 (H p.b) (cells_take_b p) _ (by exact Tryd.underlying23) (by with_unfolding_all rfl) (by (rw [H_length]; exact Tryd.szH)) ?_) | (with_reducible refine wpList_build (o := ⟨some 85, .build 43 #[(0, .tmp 82), (1, .tmp 84)], _, _, _, _⟩) (by with_unfolding_all rfl) 43 #[(0, .tmp 82), (1, .tmp 84)] (by with_unfolding_all rfl) #[(0, .agg (H p.m).toArray), (1, .agg (H p.b).toArray)] (by with_unfolding_all rfl) (.agg p.cells.toArray) bm ?_) | (with_reducible refine wpList_getg (o := ⟨some 86, .load 23 (.tmp 6), _, _, _, _⟩) (by with_unfolding_all rfl) 23 (.tmp 6) (by with_unfolding_all rfl) g6 0 (by with_unfolding_all rfl) B6 (H h) (cs_all _) _ (by exact Tryd.underlying23) (by with_unfolding_all rfl) (by (rw [H_length]; exact Tryd.szH)) ?_))
        (with_reducible refine (C12.out _).mono ?_)
        rintro e w26 ⟨rfl, hb26⟩
        have B4 := B4.next hb26 B4.lt
        have B5 := B5.next hb26 B5.lt
        have B6 := B6.next hb26 B6.lt
        have B7 := B7.next hb26 B7.lt
        have B10 := B10.next hb26 B10.lt
        have B11 := B11.next hb26 B11.lt
        have B13 := B13.next hb26 B13.lt
        have hbe := below_join hbe hb26
        clear hb26
        go_wp2_with (with_reducible refine wpList_alloc (o := ⟨some 14, .alloc 23, _, _, _, _⟩) (by with_unfolding_all rfl) 23 (by with_unfolding_all rfl) (.agg (H no).toArray) (H no) (by exact Tryd.zeroH) (by with_unfolding_all rfl) ?_)
        intro g14 w27 hg14 hs27 hb27 hB27
        have hl27 : w26.heap.size ≤ g14 := Nat.le_of_eq hg14.out.symm
        have hb27 := hb27.mono hl27
        go_wp2_with (with_reducible refine wpList_put (o := ⟨none, .store 23 (.tmp 14) (.tmp 87), _, _, _, _⟩) (by with_unfolding_all rfl) 23 (.tmp 14) (.tmp 87) (by with_unfolding_all rfl) g14 0 (by with_unfolding_all rfl) (.agg (H f).toArray) (by with_unfolding_all rfl) hB27 (H f) (by with_unfolding_all rfl) (by with_unfolding_all (rw [H_length]; exact Tryd.szH)) (by with_unfolding_all (rw [H_length, H_length] <;> omega)) (by with_unfolding_all (exact H_one _)) ?_)
        intro w28 hu28 B14
        rw [splice_all _ _ (by rw [H_length, H_length])] at B14
        have hb28 := hb27.trans (hu28.below (B := w26.heap.size) hl27)
        have B4 := B4.next hb28 B4.lt
        have B5 := B5.next hb28 B5.lt
        have B6 := B6.next hb28 B6.lt
        have B7 := B7.next hb28 B7.lt
        have B10 := B10.next hb28 B10.lt
        have B11 := B11.next hb28 B11.lt
        have B13 := B13.next hb28 B13.lt
        have hbe := below_join hbe hb28
        clear hb27 hb28 hu28 hB27 hl27 hg14 hs27
        go_wp2
        have hdd := below_drew w28
        have K4_0 : Hid (∀ w', Below w28.heap.size w28 w' → w'.rangeAt g4 0 m.cells) := (fun w' h => blk_range (B4.next h B4.lt) : ∀ w', Below w28.heap.size w28 w' → w'.rangeAt g4 0 m.cells)
        have Z4_0 : (Tryd.prog.info? 43).map (·.size) = some m.cells.length := by (rw [Pat.cells_length]; exact Tryd.szM)
        have K6_0 : Hid (∀ w', Below w28.heap.size w28 w' → w'.rangeAt g6 0 (H h)) := (fun w' h => blk_range (B6.next h B6.lt) : ∀ w', Below w28.heap.size w28 w' → w'.rangeAt g6 0 (H h))
        have Z6_0 : (Tryd.prog.info? 23).map (·.size) = some (H h).length := by (rw [H_length]; exact Tryd.szH)
        have K7_0 : Hid (∀ w', Below w28.heap.size w28 w' → w'.rangeAt g7 0 p.cells) := (fun w' h => blk_range (B7.next h B7.lt) : ∀ w', Below w28.heap.size w28 w' → w'.rangeAt g7 0 p.cells)
        have Z7_0 : (Tryd.prog.info? 25).map (·.size) = some p.cells.length := by (rw [Pat.cells_length]; exact Tryd.szP)
        have K14_0 : Hid (∀ w', Below w28.heap.size w28 w' → w'.rangeAt g14 0 (H f)) := (fun w' h => blk_range (B14.next h B14.lt) : ∀ w', Below w28.heap.size w28 w' → w'.rangeAt g14 0 (H f))
        have Z14_0 : (Tryd.prog.info? 23).map (·.size) = some (H f).length := by (rw [H_length]; exact Tryd.szH)
        refine wp_region_held_drew (S := fun w' => Below w28.heap.size w28 w') (by kernel_rfl) hdd (fun hHeld => ?_)
        generalize w28.drew = wd at hdd hHeld ⊢
        refine wpAnyH_take (i := 0) (v := ?vad_0) rfl (by kernel_rfl) (by kernel_rfl) (by kernel_rfl) (fun _ _ _ h => h) (Or.inl ⟨by rfl, ?yad_0⟩) (by assumption) ?rad_0
        case yad_0 => intro w hSw; (try dsimp only at hSw); go_simp <;> (try with_reducible rfl)
        (try simp only [List.getElem_toArray, List.getElem_cons_zero, Act.put, List.setIfInBounds_toArray, List.set_cons_zero, List.set_cons_succ])
        refine wpAnyH_take (i := 1) (v := ?vad_1) rfl (by kernel_rfl) (by kernel_rfl) (by kernel_rfl) (fun _ _ _ h => h) (Or.inl ⟨by rfl, ?yad_1⟩) (by assumption) ?rad_1
        case yad_1 => intro w hSw; (try dsimp only at hSw); go_simp <;> (try with_reducible rfl)
        (try simp only [List.getElem_toArray, List.getElem_cons_succ, List.getElem_cons_zero, Act.put, List.setIfInBounds_toArray, List.set_cons_zero, List.set_cons_succ])
        refine' wpAnyH_take (i := 2) (v := _) rfl (by kernel_rfl) (by kernel_rfl) (by kernel_rfl) (fun _ _ _ h => h) (yieldsIf_load_mid (by rfl) _ _ (by rfl) _ _ (by rfl) _ _ ?Sad_2 ?uad_2 ?dad_2 ?iad_2) (by assumption) ?rad_2
        case Sad_2 => exact (by intro w h; exact K7_0.out _ h)
        case uad_2 => exact Tryd.underlying25
        case dad_2 => rfl
        case iad_2 => exact Z7_0
        (try simp only [List.getElem_toArray, List.getElem_cons_succ, List.getElem_cons_zero, Act.put, List.setIfInBounds_toArray, List.set_cons_zero, List.set_cons_succ])
        refine' wpAnyH_take (i := 3) (v := _) rfl (by kernel_rfl) (by kernel_rfl) (by kernel_rfl) (fun _ _ _ h => h) (yieldsIf_load_mid (by rfl) _ _ (by rfl) _ _ (by rfl) _ _ ?Sad_3 ?uad_3 ?dad_3 ?iad_3) (by assumption) ?rad_3
        case Sad_3 => exact (by intro w h; exact K14_0.out _ h)
        case uad_3 => exact Tryd.underlying23
        case dad_3 => rfl
        case iad_3 => exact Z14_0
        (try simp only [List.getElem_toArray, List.getElem_cons_succ, List.getElem_cons_zero, Act.put, List.setIfInBounds_toArray, List.set_cons_zero, List.set_cons_succ])
        refine wpAnyH_ready (rs := [4]) (by kernel_rfl) (by simp) ?_
        refine AllReadyH.cons rfl (fun K hK => ?_) AllReadyH.nil
        go_simp
        go_wp2_with fail
        (with_reducible refine (D13.out _).mono ?_)
        rintro e w29 ⟨rfl, hb29⟩
        have hk29 := below_join hdd hb29
        refine hK.out _ _ hk29 (fun hHeld => ?_)
        clear hK K hb29 hdd
        refine wpAnyH_take (i := 5) (v := ?vad_5) rfl (by kernel_rfl) (by kernel_rfl) (by kernel_rfl) (fun _ _ _ h => h) (Or.inl ⟨by rfl, ?yad_5⟩) (by assumption) ?rad_5
        case yad_5 => intro w hSw; (try dsimp only at hSw); go_simp <;> (try with_reducible rfl)
        (try simp only [List.getElem_toArray, List.getElem_cons_succ, List.getElem_cons_zero, Act.put, List.setIfInBounds_toArray, List.set_cons_zero, List.set_cons_succ])
        refine wpAnyH_take (i := 6) (v := ?vad_6) rfl (by kernel_rfl) (by kernel_rfl) (by kernel_rfl) (fun _ _ _ h => h) (Or.inl ⟨by rfl, ?yad_6⟩) (by assumption) ?rad_6
        case yad_6 => intro w hSw; (try dsimp only at hSw); go_simp <;> (try with_reducible rfl)
        (try simp only [List.getElem_toArray, List.getElem_cons_succ, List.getElem_cons_zero, Act.put, List.setIfInBounds_toArray, List.set_cons_zero, List.set_cons_succ])
        refine' wpAnyH_take (i := 7) (v := _) rfl (by kernel_rfl) (by kernel_rfl) (by kernel_rfl) (fun _ _ _ h => h) (yieldsIf_load_mid (by rfl) _ _ (by rfl) _ _ (by rfl) _ _ ?Sad_7 ?uad_7 ?dad_7 ?iad_7) (by assumption) ?rad_7
        case Sad_7 => exact (by intro w h; exact K4_0.out _ h)
        case uad_7 => exact Tryd.underlying43
        case dad_7 => rfl
        case iad_7 => exact Z4_0
        (try simp only [List.getElem_toArray, List.getElem_cons_succ, List.getElem_cons_zero, Act.put, List.setIfInBounds_toArray, List.set_cons_zero, List.set_cons_succ])
        refine' wpAnyH_take (i := 8) (v := _) rfl (by kernel_rfl) (by kernel_rfl) (by kernel_rfl) (fun _ _ _ h => h) (yieldsIf_load_mid (by rfl) _ _ (by rfl) _ _ (by rfl) _ _ ?Sad_8 ?uad_8 ?dad_8 ?iad_8) (by assumption) ?rad_8
        case Sad_8 => exact (by intro w h; exact K14_0.out _ h)
        case uad_8 => exact Tryd.underlying23
        case dad_8 => rfl
        case iad_8 => exact Z14_0
        (try simp only [List.getElem_toArray, List.getElem_cons_succ, List.getElem_cons_zero, Act.put, List.setIfInBounds_toArray, List.set_cons_zero, List.set_cons_succ])
        refine' wpAnyH_take (i := 10) (v := _) rfl (by kernel_rfl) (by kernel_rfl) (by kernel_rfl) (fun _ _ _ h => h) (yieldsIf_load_mid (by rfl) _ _ (by rfl) _ _ (by rfl) _ _ ?Sad_10 ?uad_10 ?dad_10 ?iad_10) (by assumption) ?rad_10
        case Sad_10 => exact (by intro w h; exact K6_0.out _ h)
        case uad_10 => exact Tryd.underlying23
        case dad_10 => rfl
        case iad_10 => exact Z6_0
        (try simp only [List.getElem_toArray, List.getElem_cons_succ, List.getElem_cons_zero, Act.put, List.setIfInBounds_toArray, List.set_cons_zero, List.set_cons_succ])
        refine wpAnyH_ready (rs := [9]) (by kernel_rfl) (by simp) ?_
        refine AllReadyH.cons rfl (fun K hK => ?_) AllReadyH.nil
        go_simp
        go_wp2_with fail
        (with_reducible refine (D14.out _).mono ?_)
        rintro e w30 ⟨rfl, hb30⟩
        have hk30 := below_join hk29 hb30
        refine hK.out _ _ hk30 (fun hHeld => ?_)
        clear hK K hb30 hk29
        refine wpAnyH_take (i := 11) (v := ?vad_11) rfl (by kernel_rfl) (by kernel_rfl) (by kernel_rfl) (fun _ _ _ h => h) (Or.inl ⟨by rfl, ?yad_11⟩) (by assumption) ?rad_11
        case yad_11 => intro w hSw; (try dsimp only at hSw); go_simp <;> (try with_reducible rfl)
        (try simp only [List.getElem_toArray, List.getElem_cons_succ, List.getElem_cons_zero, Act.put, List.setIfInBounds_toArray, List.set_cons_zero, List.set_cons_succ])
        refine wpAnyH_take (i := 12) (v := ?vad_12) rfl (by kernel_rfl) (by kernel_rfl) (by kernel_rfl) (fun _ _ _ h => h) (Or.inl ⟨by rfl, ?yad_12⟩) (by assumption) ?rad_12
        case yad_12 => intro w hSw; (try dsimp only at hSw); go_simp <;> (try with_reducible rfl)
        (try simp only [List.getElem_toArray, List.getElem_cons_succ, List.getElem_cons_zero, Act.put, List.setIfInBounds_toArray, List.set_cons_zero, List.set_cons_succ])
        refine wpAnyH_take (i := 13) (v := ?vad_13) rfl (by kernel_rfl) (by kernel_rfl) (by kernel_rfl) (fun _ _ _ h => h) (Or.inl ⟨by rfl, ?yad_13⟩) (by assumption) ?rad_13
        case yad_13 => intro w hSw; (try dsimp only at hSw); go_simp <;> (try with_reducible rfl)
        (try simp only [List.getElem_toArray, List.getElem_cons_succ, List.getElem_cons_zero, Act.put, List.setIfInBounds_toArray, List.set_cons_zero, List.set_cons_succ])
        refine wpAnyH_done (by kernel_rfl) ?_ _
        clear hHeld K4_0 Z4_0 K6_0 Z6_0 K7_0 Z7_0 K14_0 Z14_0
        have B4 := B4.next hk30 B4.lt
        have B5 := B5.next hk30 B5.lt
        have B6 := B6.next hk30 B6.lt
        have B7 := B7.next hk30 B7.lt
        have B10 := B10.next hk30 B10.lt
        have B11 := B11.next hk30 B11.lt
        have B13 := B13.next hk30 B13.lt
        have B14 := B14.next hk30 B14.lt
        have hbe := below_join hbe hk30
        clear hk30
        go_wp2
        go_ret
        exact ⟨rfl, hbe⟩
  · skip
    go_wp2_with (first | (with_reducible refine wpList_getg (o := ⟨some 59, .load 25 (.tmp 11), _, _, _, _⟩) (by with_unfolding_all rfl) 25 (.tmp 11) (by with_unfolding_all rfl) g11 0 (by with_unfolding_all rfl) B11 X.cells (cs_all _) _ (by exact Tryd.underlying25) (by with_unfolding_all rfl) (by (rw [Pat.cells_length]; exact Tryd.szP)) ?_) | (with_reducible refine wpList_getg (o := ⟨some 60, .load 23 (.tmp 6), _, _, _, _⟩) (by with_unfolding_all rfl) 23 (.tmp 6) (by with_unfolding_all rfl) g6 0 (by with_unfolding_all rfl) B6 (H h) (cs_all _) _ (by exact Tryd.underlying23) (by with_unfolding_all rfl) (by (rw [H_length]; exact Tryd.szH)) ?_))
    (with_reducible refine (C7.out _).mono ?_)
    rintro e w20 ⟨rfl, hb20⟩
    have B4 := B4.next hb20 B4.lt
    have B5 := B5.next hb20 B5.lt
    have B6 := B6.next hb20 B6.lt
    have B7 := B7.next hb20 B7.lt
    have B10 := B10.next hb20 B10.lt
    have B11 := B11.next hb20 B11.lt
    have hbe := below_join hbe hb20
    clear hb20
    have hs : S = V := by have := hfin.out; rw [Bool.true_and] at this; exact this.symm
    subst hs
    go_wp2_with (first | (with_reducible refine wpList_getg (o := ⟨some 64, .load 25 (.tmp 7), _, _, _, _⟩) (by with_unfolding_all rfl) 25 (.tmp 7) (by with_unfolding_all rfl) g7 0 (by with_unfolding_all rfl) B7 p.cells (cs_all _) _ (by exact Tryd.underlying25) (by with_unfolding_all rfl) (by (rw [Pat.cells_length]; exact Tryd.szP)) ?_) | (with_reducible refine wpList_getg (o := ⟨some 65, .load 43 (.tmp 4), _, _, _, _⟩) (by with_unfolding_all rfl) 43 (.tmp 4) (by with_unfolding_all rfl) g4 0 (by with_unfolding_all rfl) B4 m.cells (cs_all _) _ (by exact Tryd.underlying43) (by with_unfolding_all rfl) (by (rw [Pat.cells_length]; exact Tryd.szM)) ?_))
    (with_reducible refine (C8.out _).mono ?_)
    rintro e w21 ⟨rfl, hb21⟩
    have B4 := B4.next hb21 B4.lt
    have B5 := B5.next hb21 B5.lt
    have B6 := B6.next hb21 B6.lt
    have B7 := B7.next hb21 B7.lt
    have B10 := B10.next hb21 B10.lt
    have B11 := B11.next hb21 B11.lt
    have hbe := below_join hbe hb21
    clear hb21
    go_wp2_with (with_reducible refine wpList_alloc (o := ⟨some 13, .alloc 25, _, _, _, _⟩) (by with_unfolding_all rfl) 25 (by with_unfolding_all rfl) (.agg (H no ++ H no).toArray) (H no ++ H no) (by exact Tryd.zeroPt) (by with_unfolding_all rfl) ?_)
    intro g13 w22 hg13 hs22 hb22 hB22
    have hl22 : w21.heap.size ≤ g13 := Nat.le_of_eq hg13.out.symm
    have hb22 := hb22.mono hl22
    go_wp2_with (with_reducible refine wpList_put (o := ⟨none, .store 25 (.tmp 13) (.tmp 66), _, _, _, _⟩) (by with_unfolding_all rfl) 25 (.tmp 13) (.tmp 66) (by with_unfolding_all rfl) g13 0 (by with_unfolding_all rfl) (.agg I.cells.toArray) (by with_unfolding_all rfl) hB22 I.cells (by with_unfolding_all rfl) (by with_unfolding_all (rw [Pat.cells_length]; exact Tryd.szP)) (by with_unfolding_all (rw [Pat.cells_length, List.length_append, H_length] <;> omega)) (by with_unfolding_all (exact cells_one _)) ?_)
    intro w23 hu23 B13
    rw [splice_all _ _ (by rw [Pat.cells_length, List.length_append, H_length])] at B13
    have hb23 := hb22.trans (hu23.below (B := w21.heap.size) hl22)
    have B4 := B4.next hb23 B4.lt
    have B5 := B5.next hb23 B5.lt
    have B6 := B6.next hb23 B6.lt
    have B7 := B7.next hb23 B7.lt
    have B10 := B10.next hb23 B10.lt
    have B11 := B11.next hb23 B11.lt
    have hbe := below_join hbe hb23
    clear hb22 hb23 hu23 hB22 hl22 hg13 hs22
    go_wp2_with (first | (with_reducible refine wpList_getg (o := ⟨some 67, .load 25 (.tmp 7), _, _, _, _⟩) (by with_unfolding_all rfl) 25 (.tmp 7) (by with_unfolding_all rfl) g7 0 (by with_unfolding_all rfl) B7 p.cells (cs_all _) _ (by exact Tryd.underlying25) (by with_unfolding_all rfl) (by (rw [Pat.cells_length]; exact Tryd.szP)) ?_) | (with_reducible refine wpList_getg (o := ⟨some 68, .load 23 (.tmp 6), _, _, _, _⟩) (by with_unfolding_all rfl) 23 (.tmp 6) (by with_unfolding_all rfl) g6 0 (by with_unfolding_all rfl) B6 (H h) (cs_all _) _ (by exact Tryd.underlying23) (by with_unfolding_all rfl) (by (rw [H_length]; exact Tryd.szH)) ?_))
    (with_reducible refine (C9.out _).mono ?_)
    rintro e w24 ⟨rfl, hb24⟩
    have B4 := B4.next hb24 B4.lt
    have B5 := B5.next hb24 B5.lt
    have B6 := B6.next hb24 B6.lt
    have B7 := B7.next hb24 B7.lt
    have B10 := B10.next hb24 B10.lt
    have B11 := B11.next hb24 B11.lt
    have B13 := B13.next hb24 B13.lt
    have hbe := below_join hbe hb24
    clear hb24
    rcases Y with _ | _
    · skip
      go_wp2_with (first | (with_reducible refine wpList_getg (o := ⟨some 76, .load 25 (.tmp 13), _, _, _, _⟩) (by with_unfolding_all rfl) 25 (.tmp 13) (by with_unfolding_all rfl) g13 0 (by with_unfolding_all rfl) B13 I.cells (cs_all _) _ (by exact Tryd.underlying25) (by with_unfolding_all rfl) (by (rw [Pat.cells_length]; exact Tryd.szP)) ?_) | (with_reducible refine wpList_getg (o := ⟨some 77, .load 23 (.tmp 6), _, _, _, _⟩) (by with_unfolding_all rfl) 23 (.tmp 6) (by with_unfolding_all rfl) g6 0 (by with_unfolding_all rfl) B6 (H h) (cs_all _) _ (by exact Tryd.underlying23) (by with_unfolding_all rfl) (by (rw [H_length]; exact Tryd.szH)) ?_))
      (with_reducible refine (C11.out _).mono ?_)
      rintro e w25 ⟨rfl, hb25⟩
      have B4 := B4.next hb25 B4.lt
      have B5 := B5.next hb25 B5.lt
      have B6 := B6.next hb25 B6.lt
      have B7 := B7.next hb25 B7.lt
      have B10 := B10.next hb25 B10.lt
      have B11 := B11.next hb25 B11.lt
      have B13 := B13.next hb25 B13.lt
      have hbe := below_join hbe hb25
      clear hb25
      rcases K' with _ | _
      · go_wp2
        go_ret
        exact ⟨rfl, hbe⟩
      · skip
        have D13 := Lib.hid (C13.out rfl)
        have D14 := Lib.hid (C14.out rfl)
        clear C13 C14
        go_wp2_with (first | (with_reducible refine wpList_getg (o := ⟨some 82, .load 23 (.tmp 81), _, _, _, _⟩) (by with_unfolding_all rfl) 23 (.tmp 81) (by with_unfolding_all rfl) g7 0 (by with_unfolding_all rfl) B7 (H p.m) (cells_take_m p) _ (by exact Tryd.underlying23) (by with_unfolding_all rfl) (by (rw [H_length]; exact Tryd.szH)) ?_) | (with_reducible refine wpList_getg (o := ⟨some 84, .load 23 (.tmp 83), _, _, _, _⟩) (by with_unfolding_all rfl) 23 (.tmp 83) (by with_unfolding_all rfl) g7 10 (by with_unfolding_all rfl) B7 (H p.b) (cells_take_b p) _ (by exact Tryd.underlying23) (by with_unfolding_all rfl) (by (rw [H_length]; exact Tryd.szH)) ?_) | (with_reducible refine wpList_build (o := ⟨some 85, .build 43 #[(0, .tmp 82), (1, .tmp 84)], _, _, _, _⟩) (by with_unfolding_all rfl) 43 #[(0, .tmp 82), (1, .tmp 84)] (by with_unfolding_all rfl) #[(0, .agg (H p.m).toArray), (1, .agg (H p.b).toArray)] (by with_unfolding_all rfl) (.agg p.cells.toArray) bm ?_) | (with_reducible refine wpList_getg (o := ⟨some 86, .load 23 (.tmp 6), _, _, _, _⟩) (by with_unfolding_all rfl) 23 (.tmp 6) (by with_unfolding_all rfl) g6 0 (by with_unfolding_all rfl) B6 (H h) (cs_all _) _ (by exact Tryd.underlying23) (by with_unfolding_all rfl) (by (rw [H_length]; exact Tryd.szH)) ?_))
        (with_reducible refine (C12.out _).mono ?_)
        rintro e w26 ⟨rfl, hb26⟩
        have B4 := B4.next hb26 B4.lt
        have B5 := B5.next hb26 B5.lt
        have B6 := B6.next hb26 B6.lt
        have B7 := B7.next hb26 B7.lt
        have B10 := B10.next hb26 B10.lt
        have B11 := B11.next hb26 B11.lt
        have B13 := B13.next hb26 B13.lt
        have hbe := below_join hbe hb26
        clear hb26
        go_wp2_with (with_reducible refine wpList_alloc (o := ⟨some 14, .alloc 23, _, _, _, _⟩) (by with_unfolding_all rfl) 23 (by with_unfolding_all rfl) (.agg (H no).toArray) (H no) (by exact Tryd.zeroH) (by with_unfolding_all rfl) ?_)
        intro g14 w27 hg14 hs27 hb27 hB27
        have hl27 : w26.heap.size ≤ g14 := Nat.le_of_eq hg14.out.symm
        have hb27 := hb27.mono hl27
        go_wp2_with (with_reducible refine wpList_put (o := ⟨none, .store 23 (.tmp 14) (.tmp 87), _, _, _, _⟩) (by with_unfolding_all rfl) 23 (.tmp 14) (.tmp 87) (by with_unfolding_all rfl) g14 0 (by with_unfolding_all rfl) (.agg (H f).toArray) (by with_unfolding_all rfl) hB27 (H f) (by with_unfolding_all rfl) (by with_unfolding_all (rw [H_length]; exact Tryd.szH)) (by with_unfolding_all (rw [H_length, H_length] <;> omega)) (by with_unfolding_all (exact H_one _)) ?_)
        intro w28 hu28 B14
        rw [splice_all _ _ (by rw [H_length, H_length])] at B14
        have hb28 := hb27.trans (hu28.below (B := w26.heap.size) hl27)
        have B4 := B4.next hb28 B4.lt
        have B5 := B5.next hb28 B5.lt
        have B6 := B6.next hb28 B6.lt
        have B7 := B7.next hb28 B7.lt
        have B10 := B10.next hb28 B10.lt
        have B11 := B11.next hb28 B11.lt
        have B13 := B13.next hb28 B13.lt
        have hbe := below_join hbe hb28
        clear hb27 hb28 hu28 hB27 hl27 hg14 hs27
        go_wp2
        have hdd := below_drew w28
        have K4_0 : Hid (∀ w', Below w28.heap.size w28 w' → w'.rangeAt g4 0 m.cells) := (fun w' h => blk_range (B4.next h B4.lt) : ∀ w', Below w28.heap.size w28 w' → w'.rangeAt g4 0 m.cells)
        have Z4_0 : (Tryd.prog.info? 43).map (·.size) = some m.cells.length := by (rw [Pat.cells_length]; exact Tryd.szM)
        have K6_0 : Hid (∀ w', Below w28.heap.size w28 w' → w'.rangeAt g6 0 (H h)) := (fun w' h => blk_range (B6.next h B6.lt) : ∀ w', Below w28.heap.size w28 w' → w'.rangeAt g6 0 (H h))
        have Z6_0 : (Tryd.prog.info? 23).map (·.size) = some (H h).length := by (rw [H_length]; exact Tryd.szH)
        have K7_0 : Hid (∀ w', Below w28.heap.size w28 w' → w'.rangeAt g7 0 p.cells) := (fun w' h => blk_range (B7.next h B7.lt) : ∀ w', Below w28.heap.size w28 w' → w'.rangeAt g7 0 p.cells)
        have Z7_0 : (Tryd.prog.info? 25).map (·.size) = some p.cells.length := by (rw [Pat.cells_length]; exact Tryd.szP)
        have K14_0 : Hid (∀ w', Below w28.heap.size w28 w' → w'.rangeAt g14 0 (H f)) := (fun w' h => blk_range (B14.next h B14.lt) : ∀ w', Below w28.heap.size w28 w' → w'.rangeAt g14 0 (H f))
        have Z14_0 : (Tryd.prog.info? 23).map (·.size) = some (H f).length := by (rw [H_length]; exact Tryd.szH)
        refine wp_region_held_drew (S := fun w' => Below w28.heap.size w28 w') (by kernel_rfl) hdd (fun hHeld => ?_)
        generalize w28.drew = wd at hdd hHeld ⊢
        refine wpAnyH_take (i := 0) (v := ?vae_0) rfl (by kernel_rfl) (by kernel_rfl) (by kernel_rfl) (fun _ _ _ h => h) (Or.inl ⟨by rfl, ?yae_0⟩) (by assumption) ?rae_0
        case yae_0 => intro w hSw; (try dsimp only at hSw); go_simp <;> (try with_reducible rfl)
        (try simp only [List.getElem_toArray, List.getElem_cons_zero, Act.put, List.setIfInBounds_toArray, List.set_cons_zero, List.set_cons_succ])
        refine wpAnyH_take (i := 1) (v := ?vae_1) rfl (by kernel_rfl) (by kernel_rfl) (by kernel_rfl) (fun _ _ _ h => h) (Or.inl ⟨by rfl, ?yae_1⟩) (by assumption) ?rae_1
        case yae_1 => intro w hSw; (try dsimp only at hSw); go_simp <;> (try with_reducible rfl)
        (try simp only [List.getElem_toArray, List.getElem_cons_succ, List.getElem_cons_zero, Act.put, List.setIfInBounds_toArray, List.set_cons_zero, List.set_cons_succ])
        refine' wpAnyH_take (i := 2) (v := _) rfl (by kernel_rfl) (by kernel_rfl) (by kernel_rfl) (fun _ _ _ h => h) (yieldsIf_load_mid (by rfl) _ _ (by rfl) _ _ (by rfl) _ _ ?Sae_2 ?uae_2 ?dae_2 ?iae_2) (by assumption) ?rae_2
        case Sae_2 => exact (by intro w h; exact K7_0.out _ h)
        case uae_2 => exact Tryd.underlying25
        case dae_2 => rfl
        case iae_2 => exact Z7_0
        (try simp only [List.getElem_toArray, List.getElem_cons_succ, List.getElem_cons_zero, Act.put, List.setIfInBounds_toArray, List.set_cons_zero, List.set_cons_succ])
        refine' wpAnyH_take (i := 3) (v := _) rfl (by kernel_rfl) (by kernel_rfl) (by kernel_rfl) (fun _ _ _ h => h) (yieldsIf_load_mid (by rfl) _ _ (by rfl) _ _ (by rfl) _ _ ?Sae_3 ?uae_3 ?dae_3 ?iae_3) (by assumption) ?rae_3
        case Sae_3 => exact (by intro w h; exact K14_0.out _ h)
        case uae_3 => exact Tryd.underlying23
        case dae_3 => rfl
        case iae_3 => exact Z14_0
        (try simp only [List.getElem_toArray, List.getElem_cons_succ, List.getElem_cons_zero, Act.put, List.setIfInBounds_toArray, List.set_cons_zero, List.set_cons_succ])
        refine wpAnyH_ready (rs := [4]) (by kernel_rfl) (by simp) ?_
        refine AllReadyH.cons rfl (fun K hK => ?_) AllReadyH.nil
        go_simp
        go_wp2_with fail
        (with_reducible refine (D13.out _).mono ?_)
        rintro e w29 ⟨rfl, hb29⟩
        have hk29 := below_join hdd hb29
        refine hK.out _ _ hk29 (fun hHeld => ?_)
        clear hK K hb29 hdd
        refine wpAnyH_take (i := 5) (v := ?vae_5) rfl (by kernel_rfl) (by kernel_rfl) (by kernel_rfl) (fun _ _ _ h => h) (Or.inl ⟨by rfl, ?yae_5⟩) (by assumption) ?rae_5
        case yae_5 => intro w hSw; (try dsimp only at hSw); go_simp <;> (try with_reducible rfl)
        (try simp only [List.getElem_toArray, List.getElem_cons_succ, List.getElem_cons_zero, Act.put, List.setIfInBounds_toArray, List.set_cons_zero, List.set_cons_succ])
        refine wpAnyH_take (i := 6) (v := ?vae_6) rfl (by kernel_rfl) (by kernel_rfl) (by kernel_rfl) (fun _ _ _ h => h) (Or.inl ⟨by rfl, ?yae_6⟩) (by assumption) ?rae_6
        case yae_6 => intro w hSw; (try dsimp only at hSw); go_simp <;> (try with_reducible rfl)
        (try simp only [List.getElem_toArray, List.getElem_cons_succ, List.getElem_cons_zero, Act.put, List.setIfInBounds_toArray, List.set_cons_zero, List.set_cons_succ])
        refine' wpAnyH_take (i := 7) (v := _) rfl (by kernel_rfl) (by kernel_rfl) (by kernel_rfl) (fun _ _ _ h => h) (yieldsIf_load_mid (by rfl) _ _ (by rfl) _ _ (by rfl) _ _ ?Sae_7 ?uae_7 ?dae_7 ?iae_7) (by assumption) ?rae_7
        case Sae_7 => exact (by intro w h; exact K4_0.out _ h)
        case uae_7 => exact Tryd.underlying43
        case dae_7 => rfl
        case iae_7 => exact Z4_0
        (try simp only [List.getElem_toArray, List.getElem_cons_succ, List.getElem_cons_zero, Act.put, List.setIfInBounds_toArray, List.set_cons_zero, List.set_cons_succ])
        refine' wpAnyH_take (i := 8) (v := _) rfl (by kernel_rfl) (by kernel_rfl) (by kernel_rfl) (fun _ _ _ h => h) (yieldsIf_load_mid (by rfl) _ _ (by rfl) _ _ (by rfl) _ _ ?Sae_8 ?uae_8 ?dae_8 ?iae_8) (by assumption) ?rae_8
        case Sae_8 => exact (by intro w h; exact K14_0.out _ h)
        case uae_8 => exact Tryd.underlying23
        case dae_8 => rfl
        case iae_8 => exact Z14_0
        (try simp only [List.getElem_toArray, List.getElem_cons_succ, List.getElem_cons_zero, Act.put, List.setIfInBounds_toArray, List.set_cons_zero, List.set_cons_succ])
        refine' wpAnyH_take (i := 10) (v := _) rfl (by kernel_rfl) (by kernel_rfl) (by kernel_rfl) (fun _ _ _ h => h) (yieldsIf_load_mid (by rfl) _ _ (by rfl) _ _ (by rfl) _ _ ?Sae_10 ?uae_10 ?dae_10 ?iae_10) (by assumption) ?rae_10
        case Sae_10 => exact (by intro w h; exact K6_0.out _ h)
        case uae_10 => exact Tryd.underlying23
        case dae_10 => rfl
        case iae_10 => exact Z6_0
        (try simp only [List.getElem_toArray, List.getElem_cons_succ, List.getElem_cons_zero, Act.put, List.setIfInBounds_toArray, List.set_cons_zero, List.set_cons_succ])
        refine wpAnyH_ready (rs := [9]) (by kernel_rfl) (by simp) ?_
        refine AllReadyH.cons rfl (fun K hK => ?_) AllReadyH.nil
        go_simp
        go_wp2_with fail
        (with_reducible refine (D14.out _).mono ?_)
        rintro e w30 ⟨rfl, hb30⟩
        have hk30 := below_join hk29 hb30
        refine hK.out _ _ hk30 (fun hHeld => ?_)
        clear hK K hb30 hk29
        refine wpAnyH_take (i := 11) (v := ?vae_11) rfl (by kernel_rfl) (by kernel_rfl) (by kernel_rfl) (fun _ _ _ h => h) (Or.inl ⟨by rfl, ?yae_11⟩) (by assumption) ?rae_11
        case yae_11 => intro w hSw; (try dsimp only at hSw); go_simp <;> (try with_reducible rfl)
        (try simp only [List.getElem_toArray, List.getElem_cons_succ, List.getElem_cons_zero, Act.put, List.setIfInBounds_toArray, List.set_cons_zero, List.set_cons_succ])
        refine wpAnyH_take (i := 12) (v := ?vae_12) rfl (by kernel_rfl) (by kernel_rfl) (by kernel_rfl) (fun _ _ _ h => h) (Or.inl ⟨by rfl, ?yae_12⟩) (by assumption) ?rae_12
        case yae_12 => intro w hSw; (try dsimp only at hSw); go_simp <;> (try with_reducible rfl)
        (try simp only [List.getElem_toArray, List.getElem_cons_succ, List.getElem_cons_zero, Act.put, List.setIfInBounds_toArray, List.set_cons_zero, List.set_cons_succ])
        refine wpAnyH_take (i := 13) (v := ?vae_13) rfl (by kernel_rfl) (by kernel_rfl) (by kernel_rfl) (fun _ _ _ h => h) (Or.inl ⟨by rfl, ?yae_13⟩) (by assumption) ?rae_13
        case yae_13 => intro w hSw; (try dsimp only at hSw); go_simp <;> (try with_reducible rfl)
        (try simp only [List.getElem_toArray, List.getElem_cons_succ, List.getElem_cons_zero, Act.put, List.setIfInBounds_toArray, List.set_cons_zero, List.set_cons_succ])
        refine wpAnyH_done (by kernel_rfl) ?_ _
        clear hHeld K4_0 Z4_0 K6_0 Z6_0 K7_0 Z7_0 K14_0 Z14_0
        have B4 := B4.next hk30 B4.lt
        have B5 := B5.next hk30 B5.lt
        have B6 := B6.next hk30 B6.lt
        have B7 := B7.next hk30 B7.lt
        have B10 := B10.next hk30 B10.lt
        have B11 := B11.next hk30 B11.lt
        have B13 := B13.next hk30 B13.lt
        have B14 := B14.next hk30 B14.lt
        have hbe := below_join hbe hk30
        clear hk30
        go_wp2
        go_ret
        exact ⟨rfl, hbe⟩
    · skip
      have hj := HYJ.out rfl
      subst hj
      go_wp2_with (first | (with_reducible refine wpList_getg (o := ⟨some 71, .load 25 (.tmp 13), _, _, _, _⟩) (by with_unfolding_all rfl) 25 (.tmp 13) (by with_unfolding_all rfl) g13 0 (by with_unfolding_all rfl) B13 I.cells (cs_all _) _ (by exact Tryd.underlying25) (by with_unfolding_all rfl) (by (rw [Pat.cells_length]; exact Tryd.szP)) ?_) | (with_reducible refine wpList_getg (o := ⟨some 72, .load 23 (.tmp 10), _, _, _, _⟩) (by with_unfolding_all rfl) 23 (.tmp 10) (by with_unfolding_all rfl) g10 0 (by with_unfolding_all rfl) B10 (H g) (cs_all _) _ (by exact Tryd.underlying23) (by with_unfolding_all rfl) (by (rw [H_length]; exact Tryd.szH)) ?_))
      (with_reducible refine (C10.out _).mono ?_)
      rintro e w25 ⟨rfl, hb25⟩
      have B4 := B4.next hb25 B4.lt
      have B5 := B5.next hb25 B5.lt
      have B6 := B6.next hb25 B6.lt
      have B7 := B7.next hb25 B7.lt
      have B10 := B10.next hb25 B10.lt
      have B11 := B11.next hb25 B11.lt
      have B13 := B13.next hb25 B13.lt
      have hbe := below_join hbe hb25
      clear hb25
      go_wp2_with (first | (with_reducible refine wpList_getg (o := ⟨some 76, .load 25 (.tmp 13), _, _, _, _⟩) (by with_unfolding_all rfl) 25 (.tmp 13) (by with_unfolding_all rfl) g13 0 (by with_unfolding_all rfl) B13 I.cells (cs_all _) _ (by exact Tryd.underlying25) (by with_unfolding_all rfl) (by (rw [Pat.cells_length]; exact Tryd.szP)) ?_) | (with_reducible refine wpList_getg (o := ⟨some 77, .load 23 (.tmp 6), _, _, _, _⟩) (by with_unfolding_all rfl) 23 (.tmp 6) (by with_unfolding_all rfl) g6 0 (by with_unfolding_all rfl) B6 (H h) (cs_all _) _ (by exact Tryd.underlying23) (by with_unfolding_all rfl) (by (rw [H_length]; exact Tryd.szH)) ?_))
      (with_reducible refine (C11.out _).mono ?_)
      rintro e w26 ⟨rfl, hb26⟩
      have B4 := B4.next hb26 B4.lt
      have B5 := B5.next hb26 B5.lt
      have B6 := B6.next hb26 B6.lt
      have B7 := B7.next hb26 B7.lt
      have B10 := B10.next hb26 B10.lt
      have B11 := B11.next hb26 B11.lt
      have B13 := B13.next hb26 B13.lt
      have hbe := below_join hbe hb26
      clear hb26
      rcases K' with _ | _
      · go_wp2
        go_ret
        exact ⟨rfl, hbe⟩
      · skip
        have D13 := Lib.hid (C13.out rfl)
        have D14 := Lib.hid (C14.out rfl)
        clear C13 C14
        go_wp2_with (first | (with_reducible refine wpList_getg (o := ⟨some 82, .load 23 (.tmp 81), _, _, _, _⟩) (by with_unfolding_all rfl) 23 (.tmp 81) (by with_unfolding_all rfl) g7 0 (by with_unfolding_all rfl) B7 (H p.m) (cells_take_m p) _ (by exact Tryd.underlying23) (by with_unfolding_all rfl) (by (rw [H_length]; exact Tryd.szH)) ?_) | (with_reducible refine wpList_getg (o := ⟨some 84, .load 23 (.tmp 83), _, _, _, _⟩) (by with_unfolding_all rfl) 23 (.tmp 83) (by with_unfolding_all rfl) g7 10 (by with_unfolding_all rfl) B7 (H p.b) (cells_take_b p) _ (by exact Tryd.underlying23) (by with_unfolding_all rfl) (by (rw [H_length]; exact Tryd.szH)) ?_) | (with_reducible refine wpList_build (o := ⟨some 85, .build 43 #[(0, .tmp 82), (1, .tmp 84)], _, _, _, _⟩) (by with_unfolding_all rfl) 43 #[(0, .tmp 82), (1, .tmp 84)] (by with_unfolding_all rfl) #[(0, .agg (H p.m).toArray), (1, .agg (H p.b).toArray)] (by with_unfolding_all rfl) (.agg p.cells.toArray) bm ?_) | (with_reducible refine wpList_getg (o := ⟨some 86, .load 23 (.tmp 6), _, _, _, _⟩) (by with_unfolding_all rfl) 23 (.tmp 6) (by with_unfolding_all rfl) g6 0 (by with_unfolding_all rfl) B6 (H h) (cs_all _) _ (by exact Tryd.underlying23) (by with_unfolding_all rfl) (by (rw [H_length]; exact Tryd.szH)) ?_))
        (with_reducible refine (C12.out _).mono ?_)
        rintro e w27 ⟨rfl, hb27⟩
        have B4 := B4.next hb27 B4.lt
        have B5 := B5.next hb27 B5.lt
        have B6 := B6.next hb27 B6.lt
        have B7 := B7.next hb27 B7.lt
        have B10 := B10.next hb27 B10.lt
        have B11 := B11.next hb27 B11.lt
        have B13 := B13.next hb27 B13.lt
        have hbe := below_join hbe hb27
        clear hb27
        go_wp2_with (with_reducible refine wpList_alloc (o := ⟨some 14, .alloc 23, _, _, _, _⟩) (by with_unfolding_all rfl) 23 (by with_unfolding_all rfl) (.agg (H no).toArray) (H no) (by exact Tryd.zeroH) (by with_unfolding_all rfl) ?_)
        intro g14 w28 hg14 hs28 hb28 hB28
        have hl28 : w27.heap.size ≤ g14 := Nat.le_of_eq hg14.out.symm
        have hb28 := hb28.mono hl28
        go_wp2_with (with_reducible refine wpList_put (o := ⟨none, .store 23 (.tmp 14) (.tmp 87), _, _, _, _⟩) (by with_unfolding_all rfl) 23 (.tmp 14) (.tmp 87) (by with_unfolding_all rfl) g14 0 (by with_unfolding_all rfl) (.agg (H f).toArray) (by with_unfolding_all rfl) hB28 (H f) (by with_unfolding_all rfl) (by with_unfolding_all (rw [H_length]; exact Tryd.szH)) (by with_unfolding_all (rw [H_length, H_length] <;> omega)) (by with_unfolding_all (exact H_one _)) ?_)
        intro w29 hu29 B14
        rw [splice_all _ _ (by rw [H_length, H_length])] at B14
        have hb29 := hb28.trans (hu29.below (B := w27.heap.size) hl28)
        have B4 := B4.next hb29 B4.lt
        have B5 := B5.next hb29 B5.lt
        have B6 := B6.next hb29 B6.lt
        have B7 := B7.next hb29 B7.lt
        have B10 := B10.next hb29 B10.lt
        have B11 := B11.next hb29 B11.lt
        have B13 := B13.next hb29 B13.lt
        have hbe := below_join hbe hb29
        clear hb28 hb29 hu29 hB28 hl28 hg14 hs28
        go_wp2
        have hdd := below_drew w29
        have K4_0 : Hid (∀ w', Below w29.heap.size w29 w' → w'.rangeAt g4 0 m.cells) := (fun w' h => blk_range (B4.next h B4.lt) : ∀ w', Below w29.heap.size w29 w' → w'.rangeAt g4 0 m.cells)
        have Z4_0 : (Tryd.prog.info? 43).map (·.size) = some m.cells.length := by (rw [Pat.cells_length]; exact Tryd.szM)
        have K6_0 : Hid (∀ w', Below w29.heap.size w29 w' → w'.rangeAt g6 0 (H h)) := (fun w' h => blk_range (B6.next h B6.lt) : ∀ w', Below w29.heap.size w29 w' → w'.rangeAt g6 0 (H h))
        have Z6_0 : (Tryd.prog.info? 23).map (·.size) = some (H h).length := by (rw [H_length]; exact Tryd.szH)
        have K7_0 : Hid (∀ w', Below w29.heap.size w29 w' → w'.rangeAt g7 0 p.cells) := (fun w' h => blk_range (B7.next h B7.lt) : ∀ w', Below w29.heap.size w29 w' → w'.rangeAt g7 0 p.cells)
        have Z7_0 : (Tryd.prog.info? 25).map (·.size) = some p.cells.length := by (rw [Pat.cells_length]; exact Tryd.szP)
        have K14_0 : Hid (∀ w', Below w29.heap.size w29 w' → w'.rangeAt g14 0 (H f)) := (fun w' h => blk_range (B14.next h B14.lt) : ∀ w', Below w29.heap.size w29 w' → w'.rangeAt g14 0 (H f))
        have Z14_0 : (Tryd.prog.info? 23).map (·.size) = some (H f).length := by (rw [H_length]; exact Tryd.szH)
        refine wp_region_held_drew (S := fun w' => Below w29.heap.size w29 w') (by kernel_rfl) hdd (fun hHeld => ?_)
        generalize w29.drew = wd at hdd hHeld ⊢
        refine wpAnyH_take (i := 0) (v := ?vaf_0) rfl (by kernel_rfl) (by kernel_rfl) (by kernel_rfl) (fun _ _ _ h => h) (Or.inl ⟨by rfl, ?yaf_0⟩) (by assumption) ?raf_0
        case yaf_0 => intro w hSw; (try dsimp only at hSw); go_simp <;> (try with_reducible rfl)
        (try simp only [List.getElem_toArray, List.getElem_cons_zero, Act.put, List.setIfInBounds_toArray, List.set_cons_zero, List.set_cons_succ])
        refine wpAnyH_take (i := 1) (v := ?vaf_1) rfl (by kernel_rfl) (by kernel_rfl) (by kernel_rfl) (fun _ _ _ h => h) (Or.inl ⟨by rfl, ?yaf_1⟩) (by assumption) ?raf_1
        case yaf_1 => intro w hSw; (try dsimp only at hSw); go_simp <;> (try with_reducible rfl)
        (try simp only [List.getElem_toArray, List.getElem_cons_succ, List.getElem_cons_zero, Act.put, List.setIfInBounds_toArray, List.set_cons_zero, List.set_cons_succ])
        refine' wpAnyH_take (i := 2) (v := _) rfl (by kernel_rfl) (by kernel_rfl) (by kernel_rfl) (fun _ _ _ h => h) (yieldsIf_load_mid (by rfl) _ _ (by rfl) _ _ (by rfl) _ _ ?Saf_2 ?uaf_2 ?daf_2 ?iaf_2) (by assumption) ?raf_2
        case Saf_2 => exact (by intro w h; exact K7_0.out _ h)
        case uaf_2 => exact Tryd.underlying25
        case daf_2 => rfl
        case iaf_2 => exact Z7_0
        (try simp only [List.getElem_toArray, List.getElem_cons_succ, List.getElem_cons_zero, Act.put, List.setIfInBounds_toArray, List.set_cons_zero, List.set_cons_succ])
        refine' wpAnyH_take (i := 3) (v := _) rfl (by kernel_rfl) (by kernel_rfl) (by kernel_rfl) (fun _ _ _ h => h) (yieldsIf_load_mid (by rfl) _ _ (by rfl) _ _ (by rfl) _ _ ?Saf_3 ?uaf_3 ?daf_3 ?iaf_3) (by assumption) ?raf_3
        case Saf_3 => exact (by intro w h; exact K14_0.out _ h)
        case uaf_3 => exact Tryd.underlying23
        case daf_3 => rfl
        case iaf_3 => exact Z14_0
        (try simp only [List.getElem_toArray, List.getElem_cons_succ, List.getElem_cons_zero, Act.put, List.setIfInBounds_toArray, List.set_cons_zero, List.set_cons_succ])
        refine wpAnyH_ready (rs := [4]) (by kernel_rfl) (by simp) ?_
        refine AllReadyH.cons rfl (fun K hK => ?_) AllReadyH.nil
        go_simp
        go_wp2_with fail
        (with_reducible refine (D13.out _).mono ?_)
        rintro e w30 ⟨rfl, hb30⟩
        have hk30 := below_join hdd hb30
        refine hK.out _ _ hk30 (fun hHeld => ?_)
        clear hK K hb30 hdd
        refine wpAnyH_take (i := 5) (v := ?vaf_5) rfl (by kernel_rfl) (by kernel_rfl) (by kernel_rfl) (fun _ _ _ h => h) (Or.inl ⟨by rfl, ?yaf_5⟩) (by assumption) ?raf_5
        case yaf_5 => intro w hSw; (try dsimp only at hSw); go_simp <;> (try with_reducible rfl)
        (try simp only [List.getElem_toArray, List.getElem_cons_succ, List.getElem_cons_zero, Act.put, List.setIfInBounds_toArray, List.set_cons_zero, List.set_cons_succ])
        refine wpAnyH_take (i := 6) (v := ?vaf_6) rfl (by kernel_rfl) (by kernel_rfl) (by kernel_rfl) (fun _ _ _ h => h) (Or.inl ⟨by rfl, ?yaf_6⟩) (by assumption) ?raf_6
        case yaf_6 => intro w hSw; (try dsimp only at hSw); go_simp <;> (try with_reducible rfl)
        (try simp only [List.getElem_toArray, List.getElem_cons_succ, List.getElem_cons_zero, Act.put, List.setIfInBounds_toArray, List.set_cons_zero, List.set_cons_succ])
        refine' wpAnyH_take (i := 7) (v := _) rfl (by kernel_rfl) (by kernel_rfl) (by kernel_rfl) (fun _ _ _ h => h) (yieldsIf_load_mid (by rfl) _ _ (by rfl) _ _ (by rfl) _ _ ?Saf_7 ?uaf_7 ?daf_7 ?iaf_7) (by assumption) ?raf_7
        case Saf_7 => exact (by intro w h; exact K4_0.out _ h)
        case uaf_7 => exact Tryd.underlying43
        case daf_7 => rfl
        case iaf_7 => exact Z4_0
        (try simp only [List.getElem_toArray, List.getElem_cons_succ, List.getElem_cons_zero, Act.put, List.setIfInBounds_toArray, List.set_cons_zero, List.set_cons_succ])
        refine' wpAnyH_take (i := 8) (v := _) rfl (by kernel_rfl) (by kernel_rfl) (by kernel_rfl) (fun _ _ _ h => h) (yieldsIf_load_mid (by rfl) _ _ (by rfl) _ _ (by rfl) _ _ ?Saf_8 ?uaf_8 ?daf_8 ?iaf_8) (by assumption) ?raf_8
        case Saf_8 => exact (by intro w h; exact K14_0.out _ h)
        case uaf_8 => exact Tryd.underlying23
        case daf_8 => rfl
        case iaf_8 => exact Z14_0
        (try simp only [List.getElem_toArray, List.getElem_cons_succ, List.getElem_cons_zero, Act.put, List.setIfInBounds_toArray, List.set_cons_zero, List.set_cons_succ])
        refine' wpAnyH_take (i := 10) (v := _) rfl (by kernel_rfl) (by kernel_rfl) (by kernel_rfl) (fun _ _ _ h => h) (yieldsIf_load_mid (by rfl) _ _ (by rfl) _ _ (by rfl) _ _ ?Saf_10 ?uaf_10 ?daf_10 ?iaf_10) (by assumption) ?raf_10
        case Saf_10 => exact (by intro w h; exact K6_0.out _ h)
        case uaf_10 => exact Tryd.underlying23
        case daf_10 => rfl
        case iaf_10 => exact Z6_0
        (try simp only [List.getElem_toArray, List.getElem_cons_succ, List.getElem_cons_zero, Act.put, List.setIfInBounds_toArray, List.set_cons_zero, List.set_cons_succ])
        refine wpAnyH_ready (rs := [9]) (by kernel_rfl) (by simp) ?_
        refine AllReadyH.cons rfl (fun K hK => ?_) AllReadyH.nil
        go_simp
        go_wp2_with fail
        (with_reducible refine (D14.out _).mono ?_)
        rintro e w31 ⟨rfl, hb31⟩
        have hk31 := below_join hk30 hb31
        refine hK.out _ _ hk31 (fun hHeld => ?_)
        clear hK K hb31 hk30
        refine wpAnyH_take (i := 11) (v := ?vaf_11) rfl (by kernel_rfl) (by kernel_rfl) (by kernel_rfl) (fun _ _ _ h => h) (Or.inl ⟨by rfl, ?yaf_11⟩) (by assumption) ?raf_11
        case yaf_11 => intro w hSw; (try dsimp only at hSw); go_simp <;> (try with_reducible rfl)
        (try simp only [List.getElem_toArray, List.getElem_cons_succ, List.getElem_cons_zero, Act.put, List.setIfInBounds_toArray, List.set_cons_zero, List.set_cons_succ])
        refine wpAnyH_take (i := 12) (v := ?vaf_12) rfl (by kernel_rfl) (by kernel_rfl) (by kernel_rfl) (fun _ _ _ h => h) (Or.inl ⟨by rfl, ?yaf_12⟩) (by assumption) ?raf_12
        case yaf_12 => intro w hSw; (try dsimp only at hSw); go_simp <;> (try with_reducible rfl)
        (try simp only [List.getElem_toArray, List.getElem_cons_succ, List.getElem_cons_zero, Act.put, List.setIfInBounds_toArray, List.set_cons_zero, List.set_cons_succ])
        refine wpAnyH_take (i := 13) (v := ?vaf_13) rfl (by kernel_rfl) (by kernel_rfl) (by kernel_rfl) (fun _ _ _ h => h) (Or.inl ⟨by rfl, ?yaf_13⟩) (by assumption) ?raf_13
        case yaf_13 => intro w hSw; (try dsimp only at hSw); go_simp <;> (try with_reducible rfl)
        (try simp only [List.getElem_toArray, List.getElem_cons_succ, List.getElem_cons_zero, Act.put, List.setIfInBounds_toArray, List.set_cons_zero, List.set_cons_succ])
        refine wpAnyH_done (by kernel_rfl) ?_ _
        clear hHeld K4_0 Z4_0 K6_0 Z6_0 K7_0 Z7_0 K14_0 Z14_0
        have B4 := B4.next hk31 B4.lt
        have B5 := B5.next hk31 B5.lt
        have B6 := B6.next hk31 B6.lt
        have B7 := B7.next hk31 B7.lt
        have B10 := B10.next hk31 B10.lt
        have B11 := B11.next hk31 B11.lt
        have B13 := B13.next hk31 B13.lt
        have B14 := B14.next hk31 B14.lt
        have hbe := below_join hbe hk31
        clear hk31
        go_wp2
        go_ret
        exact ⟨rfl, hbe⟩
/-- Whatever comes in. -/
theorem compLaw_any (m1 b1 m2 b2 lh pm pb : List Int) (w : World) (h1 : m1.length = 10) (h2 : b1.length = 10) (h3 : m2.length = 10) (h4 : b2.length = 10) (h5 : lh.length = 10) (h6 : pm.length = 10) (h7 : pb.length = 10) (hG : GOk w) :
    Calls Tryd.prog 11 #[.agg (m1.map iV ++ b1.map iV).toArray, .agg (m2.map iV ++ b2.map iV).toArray, .agg (lh.map iV).toArray, .agg (pm.map iV ++ pb.map iV).toArray] w fun e w' => e = .returned (.bool true) ∧ Below w.heap.size w w' := by
  by_cases hc : pairI m1 b1 = true ∧ pairI m2 b2 = true ∧ rightI lh ∧ pairI pm pb = true
  · obtain ⟨m, hm, rfl, rfl⟩ := right_pat h1 h2 hc.1
    obtain ⟨n, hn, rfl, rfl⟩ := right_pat h3 h4 hc.2.1
    obtain ⟨h, rfl⟩ := right_head h5 hc.2.2.1
    obtain ⟨p, hp, rfl, rfl⟩ := right_pat h6 h7 hc.2.2.2
    rw [← H_iV, ← H_iV, ← H_iV, ← H_iV, ← H_iV, ← H_iV, ← H_iV]
    exact comp_good m n h p w hm hn hp hG
  · exact comp_bad m1 b1 m2 b2 lh pm pb w h1 h2 h3 h4 h5 h6 h7 hG hc
end Go.Proofs.YtbldnhpbmfmepaaDoor
