/-
  The walk of BitsAlgebra. Conditions: the library's variable lies there.
-/
import Derived.Test.YtbldnhpbmfmepaaDoorKLk
namespace Go.Proofs.YtbldnhpbmfmepaaDoor
set_option linter.unusedVariables false
set_option linter.unusedSimpArgs false
open Go.RowKit

set_option maxRecDepth 100000 in
set_option maxHeartbeats 6400000 in
theorem alg_bad (pm pb qm qb rm rb lh : List Int) (w : World) (h1 : pm.length = 10) (h2 : pb.length = 10) (h3 : qm.length = 10) (h4 : qb.length = 10) (h5 : rm.length = 10) (h6 : rb.length = 10) (h7 : lh.length = 10) (hG : GOk w)
    (hbad : ¬ ((pairI pm pb = true ∧ pairI qm qb = true ∧ pairI rm rb = true) ∧ rightI lh)) :
    Calls Tryd.prog 12 #[.agg (pm.map iV ++ pb.map iV).toArray, .agg (qm.map iV ++ qb.map iV).toArray, .agg (rm.map iV ++ rb.map iV).toArray, .agg (lh.map iV).toArray] w fun e w' => e = .returned (.bool true) ∧ Below w.heap.size w w' := by
  obtain ⟨E, hE⟩ : ∃ E, Hid ((pairI pm pb && pairI qm qb && pairI rm rb) = E) := ⟨_, rfl⟩
  have c4 := fun w => heads_any lh lh w h7 h7
  obtain ⟨C, hC⟩ : ∃ A, (decide (rightI lh) && decide (rightI lh)) = A := ⟨_, rfl⟩
  have hno : Hid (¬ (E = true ∧ C = true)) := by
    have : ¬ (E = true ∧ C = true) := fun hc => hbad (by
      have a3 := hC.trans hc.2
      rw [Bool.and_self, decide_eq_true_eq] at a3
      have a2 := hE.out.trans hc.1
      rw [Bool.and_eq_true, Bool.and_eq_true] at a2
      exact ⟨⟨a2.1.1, a2.1.2, a2.2⟩, a3⟩)
    exact this
  rw [hC] at c4
  have C4 := Lib.hid c4
  have HG := Lib.hid hG
  have HP := Lib.hid (⟨h1, h2⟩ : (pm, pb).1.length = 10 ∧ (pm, pb).2.length = 10)
  have HQ := Lib.hid (⟨h3, h4⟩ : (qm, qb).1.length = 10 ∧ (qm, qb).2.length = 10)
  have HR := Lib.hid (⟨h5, h6⟩ : (rm, rb).1.length = 10 ∧ (rm, rb).2.length = 10)
  have z1 : (Tryd.prog.info? 25).map (·.size) = some (pm.map iV ++ pb.map iV).length := by rw [List.length_append, List.length_map, List.length_map, h1, h2]; exact Tryd.szP
  have z2 : (Tryd.prog.info? 25).map (·.size) = some (qm.map iV ++ qb.map iV).length := by rw [List.length_append, List.length_map, List.length_map, h3, h4]; exact Tryd.szP
  have z3 : (Tryd.prog.info? 25).map (·.size) = some (rm.map iV ++ rb.map iV).length := by rw [List.length_append, List.length_map, List.length_map, h5, h6]; exact Tryd.szP
  have z4 : (Tryd.prog.info? 23).map (·.size) = some (lh.map iV).length := by rw [List.length_map, h7]; exact Tryd.szH
  have Z1 := Lib.hid z1
  have Z2 := Lib.hid z2
  have Z3 := Lib.hid z3
  have Z4 := Lib.hid z4
  clear c4 h1 h2 h3 h4 h5 h6 h7 hG hbad hC z1 z2 z3 z4
  go_enter Tryd.func12, Tryd.ntmps12
  go_wp2_with (with_reducible refine wpList_box (o := ⟨some 4, .box 25 (.tmp 0), _, _, _, _⟩) ?g4 25 (.tmp 0) ?o4 (.agg (pm.map iV ++ pb.map iV).toArray) (pm.map iV ++ pb.map iV) ?x4 ?c4 ?_)
  try (case g4 => rfl)
  try (case o4 => rfl)
  try (case x4 => rfl)
  try (case c4 => rfl)
  intro g4 w1 hg4 hs1 hb1 B4
  have hb1 := hb1.mono (Nat.le_of_eq hg4.out.symm)
  have hbe : Below w.heap.size w w1 := hb1
  clear hb1 hg4 hs1
  go_wp2_with (with_reducible refine wpList_box (o := ⟨some 5, .box 25 (.tmp 1), _, _, _, _⟩) ?g5 25 (.tmp 1) ?o5 (.agg (qm.map iV ++ qb.map iV).toArray) (qm.map iV ++ qb.map iV) ?x5 ?c5 ?_)
  try (case g5 => rfl)
  try (case o5 => rfl)
  try (case x5 => rfl)
  try (case c5 => rfl)
  intro g5 w2 hg5 hs2 hb2 B5
  have hb2 := hb2.mono (Nat.le_of_eq hg5.out.symm)
  have B4 := B4.next hb2 B4.lt
  have hbe := below_join hbe hb2
  clear hb2 hg5 hs2
  go_wp2_with (with_reducible refine wpList_box (o := ⟨some 6, .box 25 (.tmp 2), _, _, _, _⟩) ?g6 25 (.tmp 2) ?o6 (.agg (rm.map iV ++ rb.map iV).toArray) (rm.map iV ++ rb.map iV) ?x6 ?c6 ?_)
  try (case g6 => rfl)
  try (case o6 => rfl)
  try (case x6 => rfl)
  try (case c6 => rfl)
  intro g6 w3 hg6 hs3 hb3 B6
  have hb3 := hb3.mono (Nat.le_of_eq hg6.out.symm)
  have B4 := B4.next hb3 B4.lt
  have B5 := B5.next hb3 B5.lt
  have hbe := below_join hbe hb3
  clear hb3 hg6 hs3
  go_wp2_with (with_reducible refine wpList_box (o := ⟨some 7, .box 23 (.tmp 3), _, _, _, _⟩) ?g7 23 (.tmp 3) ?o7 (.agg (lh.map iV).toArray) (lh.map iV) ?x7 ?c7 ?_)
  try (case g7 => rfl)
  try (case o7 => rfl)
  try (case x7 => rfl)
  try (case c7 => rfl)
  intro g7 w4 hg7 hs4 hb4 B7
  have hb4 := hb4.mono (Nat.le_of_eq hg7.out.symm)
  have B4 := B4.next hb4 B4.lt
  have B5 := B5.next hb4 B5.lt
  have B6 := B6.next hb4 B6.lt
  have hbe := below_join hbe hb4
  clear hb4 hg7 hs4
  go_wp2_with fail
  (with_reducible refine (sanity_any _ (HG.out.next hbe)).mono ?_)
  rintro e w5 ⟨rfl, hb5⟩
  have B4 := B4.next hb5 B4.lt
  have B5 := B5.next hb5 B5.lt
  have B6 := B6.next hb5 B6.lt
  have B7 := B7.next hb5 B7.lt
  have hbe := below_join hbe hb5
  clear hb5
  go_wp2_with (first | (with_reducible refine wpList_getg (o := ⟨some 25, .load 25 (.tmp 4), _, _, _, _⟩) (by with_unfolding_all rfl) 25 (.tmp 4) (by with_unfolding_all rfl) g4 0 (by with_unfolding_all rfl) B4 (pm.map iV ++ pb.map iV) (cs_all _) _ (by exact Tryd.underlying25) (by with_unfolding_all rfl) (by (exact Z1.out)) ?_) | (with_reducible refine wpList_getg (o := ⟨some 26, .load 25 (.tmp 5), _, _, _, _⟩) (by with_unfolding_all rfl) 25 (.tmp 5) (by with_unfolding_all rfl) g5 0 (by with_unfolding_all rfl) B5 (qm.map iV ++ qb.map iV) (cs_all _) _ (by exact Tryd.underlying25) (by with_unfolding_all rfl) (by (exact Z2.out)) ?_) | (with_reducible refine wpList_getg (o := ⟨some 27, .load 25 (.tmp 6), _, _, _, _⟩) (by with_unfolding_all rfl) 25 (.tmp 6) (by with_unfolding_all rfl) g6 0 (by with_unfolding_all rfl) B6 (rm.map iV ++ rb.map iV) (cs_all _) _ (by exact Tryd.underlying25) (by with_unfolding_all rfl) (by (exact Z3.out)) ?_) | (with_reducible refine wpList_rslice3 (o := ⟨some 28, .buildSlice 31 3 #[(0, .tmp 25), (1, .tmp 26), (2, .tmp 27)], _, _, _, _⟩) (by with_unfolding_all rfl) (.tmp 25) (.tmp 26) (.tmp 27) (by with_unfolding_all rfl) (pm, pb) (qm, qb) (rm, rb) HP.out HQ.out HR.out (by with_unfolding_all rfl) (by with_unfolding_all rfl) (by with_unfolding_all rfl) ?_))
  intro gs w6 hgs hb6 hlt PS
  have B4 := B4.next hb6 B4.lt
  have B5 := B5.next hb6 B5.lt
  have B6 := B6.next hb6 B6.lt
  have B7 := B7.next hb6 B7.lt
  have hbe := below_join hbe hb6
  clear hb6 hgs
  clear hlt
  have hra := fun w h => rrightAll_r3 gs 3 (pm, pb) (qm, qb) (rm, rb) w HP.out HQ.out HR.out rfl h
  rw [show (pairI (pm, pb).1 (pm, pb).2 && pairI (qm, qb).1 (qm, qb).2 && pairI (rm, rb).1 (rm, rb).2) = E from hE.out] at hra
  go_wp2_with fail
  (with_reducible refine (hra _ PS).mono ?_)
  rintro e w7 ⟨rfl, hb7⟩
  have B4 := B4.next hb7 B4.lt
  have B5 := B5.next hb7 B5.lt
  have B6 := B6.next hb7 B6.lt
  have B7 := B7.next hb7 B7.lt
  have hbe := below_join hbe hb7
  clear hb7
  clear hra PS
  rcases E with _ | _
  · go_wp2
    go_ret
    exact ⟨rfl, hbe⟩
  · skip
    go_wp2_with (first | (with_reducible refine wpList_getg (o := ⟨some 32, .load 23 (.tmp 7), _, _, _, _⟩) (by with_unfolding_all rfl) 23 (.tmp 7) (by with_unfolding_all rfl) g7 0 (by with_unfolding_all rfl) B7 (lh.map iV) (cs_all _) _ (by exact Tryd.underlying23) (by with_unfolding_all rfl) (by (exact Z4.out)) ?_) | (with_reducible refine wpList_getg (o := ⟨some 33, .load 23 (.tmp 7), _, _, _, _⟩) (by with_unfolding_all rfl) 23 (.tmp 7) (by with_unfolding_all rfl) g7 0 (by with_unfolding_all rfl) B7 (lh.map iV) (cs_all _) _ (by exact Tryd.underlying23) (by with_unfolding_all rfl) (by (exact Z4.out)) ?_))
    (with_reducible refine (C4.out _).mono ?_)
    rintro e w8 ⟨rfl, hb8⟩
    have B4 := B4.next hb8 B4.lt
    have B5 := B5.next hb8 B5.lt
    have B6 := B6.next hb8 B6.lt
    have B7 := B7.next hb8 B7.lt
    have hbe := below_join hbe hb8
    clear hb8
    rcases C with _ | _
    · go_wp2
      go_ret
      exact ⟨rfl, hbe⟩
    · exact absurd (by refine ⟨?_, ?_⟩ <;> trivial) hno.out
set_option maxRecDepth 100000 in
set_option maxHeartbeats 25600000 in
theorem alg_good (p q r : Pat) (h : Nat → Bool) (w : World) (hp : p.ok) (hq : q.ok) (hr : r.ok) (hG : GOk w) :
    Calls Tryd.prog 12 #[.agg p.cells.toArray, .agg q.cells.toArray, .agg r.cells.toArray, .agg (H h).toArray] w fun e w' => e = .returned (.bool true) ∧ Below w.heap.size w w' := by
  have HP := Lib.hid hp
  have HQ := Lib.hid hq
  have HR := Lib.hid hr
  have HG := Lib.hid hG
  have hra : ∀ gs c w, PatsAt w (some ⟨gs, 0, none⟩) [p, q, r] → Calls Tryd.prog 20 #[.slice (some ⟨gs, 0, none⟩) 3 c] w fun e w' => e = .returned (.bool true) ∧ Below w.heap.size w w' := fun gs c w hS => rrightAll_p (some ⟨gs, 0, none⟩) c [p, q, r] w (by show 3 ≤ _; decide) (fun x hx => by
    simp only [List.mem_cons, List.mem_nil_iff, or_false] at hx
    rcases hx with rfl | rfl | rfl
    · exact hp
    · exact hq
    · exact hr) hS
  have C0 := Lib.hid hra
  obtain ⟨A, hA⟩ : ∃ A, p.andV q = A := ⟨_, rfl⟩
  obtain ⟨O, hO⟩ : ∃ O, decide (p.over q) = O := ⟨_, rfl⟩
  have c1 := fun w => and_any p q w
  have c2 := fun w => and_any q p w
  have hsym : decide (q.over p) = decide (p.over q) := by
    by_cases hh : p.over q
    · rw [decide_eq_true hh, decide_eq_true (Pat.over_comm.1 hh)]
    · rw [decide_eq_false hh, decide_eq_false fun hc => hh (Pat.over_comm.1 hc)]
  rw [Pat.cells_congr (Pat.andV_symm q p), hsym] at c2
  have c3 := fun w => overlapV_any p q w
  have hAok : A.ok := by rw [← hA]; exact Pat.andV_ok hp hq
  have hcov := Pat.covers_and hp hq
  have c4 := fun w => covers_any p q w
  have hhit := Pat.and_hit hp hq h
  have hown : O = true → ∀ g, A.hit g → q.hit g := fun ho g hg => ((Pat.and_hit hp hq g).1 ⟨of_decide_eq_true (hO.trans ho), by rw [hA]; exact hg⟩).2
  have hzero : O = false → A.cells = Pat.zero.cells := fun ho => by rw [← hA, show p.andV q = .zero from if_neg (of_decide_eq_false (hO.trans ho))]
  obtain ⟨S, hS⟩ : ∃ S, A.same q = S := ⟨_, rfl⟩
  rw [hA, hO] at c1 c2
  rw [hO] at c3
  rw [hA, hO, hS] at hcov
  rw [← hcov] at c4
  obtain ⟨M, hM⟩ : ∃ M, decide (A.hit h) = M := ⟨_, rfl⟩
  obtain ⟨M1, hM1⟩ : ∃ M, decide (p.hit h) = M := ⟨_, rfl⟩
  obtain ⟨M2, hM2⟩ : ∃ M, decide (q.hit h) = M := ⟨_, rfl⟩
  have c5 := fun w => rmatch_m w A h hM
  have c6 := fun w => rmatch_m w p h hM1
  have c7 := fun w => rmatch_m w q h hM2
  have hmm : (O && M) = (M1 && M2) := by
    rw [← hO, ← hM, ← hM1, ← hM2, ← hA, Bool.eq_iff_iff, Bool.and_eq_true, Bool.and_eq_true, decide_eq_true_eq, decide_eq_true_eq, decide_eq_true_eq, decide_eq_true_eq]
    exact hhit
  obtain ⟨E, hE⟩ : ∃ E, p.same q = E := ⟨_, rfl⟩
  have c8 := fun g1 g2 c1 c2 w h1 h2 ha hb => same_one g1 g2 c1 c2 p q hE w hp hq h1 h2 ha hb
  have c9 := fun g1 g2 c1 c2 w h1 h2 ha hb => same_own g1 g2 c1 c2 q A w hq hAok h1 h2 ha hb
  obtain ⟨B, hB⟩ : ∃ B, q.andV r = B := ⟨_, rfl⟩
  obtain ⟨O2, hO2⟩ : ∃ O, decide (q.over r) = O := ⟨_, rfl⟩
  have c10 := fun w => and_any q r w
  obtain ⟨X, hX⟩ : ∃ X, A.andV r = X := ⟨_, rfl⟩
  obtain ⟨L, hL⟩ : ∃ L, decide (A.over r) = L := ⟨_, rfl⟩
  have c11 := fun w => and_any A r w
  rw [hX, hL] at c11
  have c12 : O = true → O2 = true → ∀ w, Calls Tryd.prog 38 #[.agg p.cells.toArray, .agg B.cells.toArray] w fun e w' => e = .returned (.tuple #[.agg X.cells.toArray, .bool L]) ∧ Below w.heap.size w w' := fun h1 h2 w => by
    have ha := Pat.and_assoc hp hq hr (of_decide_eq_true (hO.trans h1)) (of_decide_eq_true (hO2.trans h2))
    have := and_any p B w
    rw [← hB, ← Pat.cells_congr ha.2, ← ha.1, hA, hX, hL, hB] at this
    exact this
  rw [hB, hO2] at c10
  have e1 : ∀ w, (binOp .neq 25 (.agg A.cells.toArray) (.agg A.cells.toArray)).run Tryd.prog w = .ok (.bool false) w := fun w => by rw [neq_pat]; simp
  have e2 : ∀ w, (binOp .eql 25 (.agg A.cells.toArray) (.agg q.cells.toArray)).run Tryd.prog w = .ok (.bool S) w := fun w => by rw [eql_pat, ← hS]; rfl
  have e3 : O = false → ∀ w, (binOp .neq 25 (.agg A.cells.toArray) (.agg Pat.zero.cells.toArray)).run Tryd.prog w = .ok (.bool false) w := fun ho w => by rw [hzero ho, neq_pat]; simp
  have e4 : ∀ w, (binOp .eql 25 (.agg p.cells.toArray) (.agg q.cells.toArray)).run Tryd.prog w = .ok (.bool E) w := fun w => by rw [eql_pat, ← hE]; rfl
  have e5 : ∀ w, (binOp .eql 25 (.agg X.cells.toArray) (.agg X.cells.toArray)).run Tryd.prog w = .ok (.bool true) w := fun w => by rw [eql_pat]; simp
  have hguP := Tryd.guardP
  have C1 := Lib.hid c1
  have C2 := Lib.hid c2
  have C3 := Lib.hid c3
  have C4 := Lib.hid c4
  have C5 := Lib.hid c5
  have C6 := Lib.hid c6
  have C7 := Lib.hid c7
  have C8 := Lib.hid c8
  have C9 := Lib.hid c9
  have C10 := Lib.hid c10
  have C11 := Lib.hid c11
  have C12 := Lib.hid c12
  have HOWN := Lib.hid hown
  have E3 := Lib.hid e3
  have HMM := Lib.hid hmm
  have hbz : ∀ w, (Instr.build 25 #[]).run Tryd.prog w = .ok (.agg Pat.zero.cells.toArray) w := fun w => run_buildP0 w
  clear hra c1 c2 c3 c4 c5 c6 c7 c8 c9 c10 c11 c12 hp hq hr hG hA hO hAok hcov hhit hown hzero hS hM hM1 hM2 hmm hE hB hO2 hX hL e3 hsym
  go_enter Tryd.func12, Tryd.ntmps12
  go_wp2_with (with_reducible refine wpList_box (o := ⟨some 4, .box 25 (.tmp 0), _, _, _, _⟩) ?g4 25 (.tmp 0) ?o4 (.agg p.cells.toArray) p.cells ?x4 ?c4 ?_)
  try (case g4 => rfl)
  try (case o4 => rfl)
  try (case x4 => rfl)
  try (case c4 => rfl)
  intro g4 w1 hg4 hs1 hb1 B4
  have hb1 := hb1.mono (Nat.le_of_eq hg4.out.symm)
  have hbe : Below w.heap.size w w1 := hb1
  clear hb1 hg4 hs1
  go_wp2_with (with_reducible refine wpList_box (o := ⟨some 5, .box 25 (.tmp 1), _, _, _, _⟩) ?g5 25 (.tmp 1) ?o5 (.agg q.cells.toArray) q.cells ?x5 ?c5 ?_)
  try (case g5 => rfl)
  try (case o5 => rfl)
  try (case x5 => rfl)
  try (case c5 => rfl)
  intro g5 w2 hg5 hs2 hb2 B5
  have hb2 := hb2.mono (Nat.le_of_eq hg5.out.symm)
  have B4 := B4.next hb2 B4.lt
  have hbe := below_join hbe hb2
  clear hb2 hg5 hs2
  go_wp2_with (with_reducible refine wpList_box (o := ⟨some 6, .box 25 (.tmp 2), _, _, _, _⟩) ?g6 25 (.tmp 2) ?o6 (.agg r.cells.toArray) r.cells ?x6 ?c6 ?_)
  try (case g6 => rfl)
  try (case o6 => rfl)
  try (case x6 => rfl)
  try (case c6 => rfl)
  intro g6 w3 hg6 hs3 hb3 B6
  have hb3 := hb3.mono (Nat.le_of_eq hg6.out.symm)
  have B4 := B4.next hb3 B4.lt
  have B5 := B5.next hb3 B5.lt
  have hbe := below_join hbe hb3
  clear hb3 hg6 hs3
  go_wp2_with (with_reducible refine wpList_box (o := ⟨some 7, .box 23 (.tmp 3), _, _, _, _⟩) ?g7 23 (.tmp 3) ?o7 (.agg (H h).toArray) (H h) ?x7 ?c7 ?_)
  try (case g7 => rfl)
  try (case o7 => rfl)
  try (case x7 => rfl)
  try (case c7 => rfl)
  intro g7 w4 hg7 hs4 hb4 B7
  have hb4 := hb4.mono (Nat.le_of_eq hg7.out.symm)
  have B4 := B4.next hb4 B4.lt
  have B5 := B5.next hb4 B5.lt
  have B6 := B6.next hb4 B6.lt
  have hbe := below_join hbe hb4
  clear hb4 hg7 hs4
  go_wp2_with fail
  (with_reducible refine (sanity_any _ (HG.out.next hbe)).mono ?_)
  rintro e w5 ⟨rfl, hb5⟩
  have B4 := B4.next hb5 B4.lt
  have B5 := B5.next hb5 B5.lt
  have B6 := B6.next hb5 B6.lt
  have B7 := B7.next hb5 B7.lt
  have hbe := below_join hbe hb5
  clear hb5
  go_wp2_with (first | (with_reducible refine wpList_getg (o := ⟨some 25, .load 25 (.tmp 4), _, _, _, _⟩) (by with_unfolding_all rfl) 25 (.tmp 4) (by with_unfolding_all rfl) g4 0 (by with_unfolding_all rfl) B4 p.cells (cs_all _) _ (by exact Tryd.underlying25) (by with_unfolding_all rfl) (by (rw [Pat.cells_length]; exact Tryd.szP)) ?_) | (with_reducible refine wpList_getg (o := ⟨some 26, .load 25 (.tmp 5), _, _, _, _⟩) (by with_unfolding_all rfl) 25 (.tmp 5) (by with_unfolding_all rfl) g5 0 (by with_unfolding_all rfl) B5 q.cells (cs_all _) _ (by exact Tryd.underlying25) (by with_unfolding_all rfl) (by (rw [Pat.cells_length]; exact Tryd.szP)) ?_) | (with_reducible refine wpList_getg (o := ⟨some 27, .load 25 (.tmp 6), _, _, _, _⟩) (by with_unfolding_all rfl) 25 (.tmp 6) (by with_unfolding_all rfl) g6 0 (by with_unfolding_all rfl) B6 r.cells (cs_all _) _ (by exact Tryd.underlying25) (by with_unfolding_all rfl) (by (rw [Pat.cells_length]; exact Tryd.szP)) ?_) | (with_reducible refine wpList_rslice3 (o := ⟨some 28, .buildSlice 31 3 #[(0, .tmp 25), (1, .tmp 26), (2, .tmp 27)], _, _, _, _⟩) (by with_unfolding_all rfl) (.tmp 25) (.tmp 26) (.tmp 27) (by with_unfolding_all rfl) (HI p.m, HI p.b) (HI q.m, HI q.b) (HI r.m, HI r.b) ⟨HI_length _, HI_length _⟩ ⟨HI_length _, HI_length _⟩ ⟨HI_length _, HI_length _⟩ (by with_unfolding_all rw [rawCells_pat]; rfl) (by with_unfolding_all rw [rawCells_pat]; rfl) (by with_unfolding_all rw [rawCells_pat]; rfl) ?_))
  intro gs w6 hgs hb6 hlt PS
  have B4 := B4.next hb6 B4.lt
  have B5 := B5.next hb6 B5.lt
  have B6 := B6.next hb6 B6.lt
  have B7 := B7.next hb6 B7.lt
  have hbe := below_join hbe hb6
  clear hb6 hgs
  have PS : PatsAt _ _ [p, q, r] := RawAt.pats (l := [p, q, r]) PS
  go_wp2_with fail
  (with_reducible refine (C0.out gs _ _ PS).mono ?_)
  rintro e w7 ⟨rfl, hb7⟩
  have B4 := B4.next hb7 B4.lt
  have B5 := B5.next hb7 B5.lt
  have B6 := B6.next hb7 B6.lt
  have B7 := B7.next hb7 B7.lt
  have hbe := below_join hbe hb7
  clear hb7
  clear PS hlt
  go_wp2_with (first | (with_reducible refine wpList_getg (o := ⟨some 32, .load 23 (.tmp 7), _, _, _, _⟩) (by with_unfolding_all rfl) 23 (.tmp 7) (by with_unfolding_all rfl) g7 0 (by with_unfolding_all rfl) B7 (H h) (cs_all _) _ (by exact Tryd.underlying23) (by with_unfolding_all rfl) (by (rw [H_length]; exact Tryd.szH)) ?_) | (with_reducible refine wpList_getg (o := ⟨some 33, .load 23 (.tmp 7), _, _, _, _⟩) (by with_unfolding_all rfl) 23 (.tmp 7) (by with_unfolding_all rfl) g7 0 (by with_unfolding_all rfl) B7 (H h) (cs_all _) _ (by exact Tryd.underlying23) (by with_unfolding_all rfl) (by (rw [H_length]; exact Tryd.szH)) ?_))
  (with_reducible refine (heads_h _ _ _).mono ?_)
  rintro e w8 ⟨rfl, hb8⟩
  have B4 := B4.next hb8 B4.lt
  have B5 := B5.next hb8 B5.lt
  have B6 := B6.next hb8 B6.lt
  have B7 := B7.next hb8 B7.lt
  have hbe := below_join hbe hb8
  clear hb8
  go_wp2_with (first | (with_reducible refine wpList_getg (o := ⟨some 39, .load 25 (.tmp 4), _, _, _, _⟩) (by with_unfolding_all rfl) 25 (.tmp 4) (by with_unfolding_all rfl) g4 0 (by with_unfolding_all rfl) B4 p.cells (cs_all _) _ (by exact Tryd.underlying25) (by with_unfolding_all rfl) (by (rw [Pat.cells_length]; exact Tryd.szP)) ?_) | (with_reducible refine wpList_getg (o := ⟨some 40, .load 25 (.tmp 5), _, _, _, _⟩) (by with_unfolding_all rfl) 25 (.tmp 5) (by with_unfolding_all rfl) g5 0 (by with_unfolding_all rfl) B5 q.cells (cs_all _) _ (by exact Tryd.underlying25) (by with_unfolding_all rfl) (by (rw [Pat.cells_length]; exact Tryd.szP)) ?_))
  (with_reducible refine (C1.out _).mono ?_)
  rintro e w9 ⟨rfl, hb9⟩
  have B4 := B4.next hb9 B4.lt
  have B5 := B5.next hb9 B5.lt
  have B6 := B6.next hb9 B6.lt
  have B7 := B7.next hb9 B7.lt
  have hbe := below_join hbe hb9
  clear hb9
  go_wp2_with (with_reducible refine wpList_alloc (o := ⟨some 10, .alloc 25, _, _, _, _⟩) (by with_unfolding_all rfl) 25 (by with_unfolding_all rfl) (.agg (H no ++ H no).toArray) (H no ++ H no) (by exact Tryd.zeroPt) (by with_unfolding_all rfl) ?_)
  intro g10 w10 hg10 hs10 hb10 hB10
  have hl10 : w9.heap.size ≤ g10 := Nat.le_of_eq hg10.out.symm
  have hb10 := hb10.mono hl10
  go_wp2_with (with_reducible refine wpList_put (o := ⟨none, .store 25 (.tmp 10) (.tmp 42), _, _, _, _⟩) (by with_unfolding_all rfl) 25 (.tmp 10) (.tmp 42) (by with_unfolding_all rfl) g10 0 (by with_unfolding_all rfl) (.agg A.cells.toArray) (by with_unfolding_all rfl) hB10 A.cells (by with_unfolding_all rfl) (by with_unfolding_all (rw [Pat.cells_length]; exact Tryd.szP)) (by with_unfolding_all (rw [Pat.cells_length, List.length_append, H_length] <;> omega)) (by with_unfolding_all (exact cells_one _)) ?_)
  intro w11 hu11 B10
  rw [splice_all _ _ (by rw [Pat.cells_length, List.length_append, H_length])] at B10
  have hb11 := hb10.trans (hu11.below (B := w9.heap.size) hl10)
  have B4 := B4.next hb11 B4.lt
  have B5 := B5.next hb11 B5.lt
  have B6 := B6.next hb11 B6.lt
  have B7 := B7.next hb11 B7.lt
  have hbe := below_join hbe hb11
  clear hb10 hb11 hu11 hB10 hl10 hg10 hs10
  go_wp2_with (first | (with_reducible refine wpList_getg (o := ⟨some 45, .load 25 (.tmp 5), _, _, _, _⟩) (by with_unfolding_all rfl) 25 (.tmp 5) (by with_unfolding_all rfl) g5 0 (by with_unfolding_all rfl) B5 q.cells (cs_all _) _ (by exact Tryd.underlying25) (by with_unfolding_all rfl) (by (rw [Pat.cells_length]; exact Tryd.szP)) ?_) | (with_reducible refine wpList_getg (o := ⟨some 46, .load 25 (.tmp 4), _, _, _, _⟩) (by with_unfolding_all rfl) 25 (.tmp 4) (by with_unfolding_all rfl) g4 0 (by with_unfolding_all rfl) B4 p.cells (cs_all _) _ (by exact Tryd.underlying25) (by with_unfolding_all rfl) (by (rw [Pat.cells_length]; exact Tryd.szP)) ?_))
  (with_reducible refine (C2.out _).mono ?_)
  rintro e w12 ⟨rfl, hb12⟩
  have B4 := B4.next hb12 B4.lt
  have B5 := B5.next hb12 B5.lt
  have B6 := B6.next hb12 B6.lt
  have B7 := B7.next hb12 B7.lt
  have B10 := B10.next hb12 B10.lt
  have hbe := below_join hbe hb12
  clear hb12
  go_wp2_with (with_reducible refine wpList_alloc (o := ⟨some 12, .alloc 25, _, _, _, _⟩) (by with_unfolding_all rfl) 25 (by with_unfolding_all rfl) (.agg (H no ++ H no).toArray) (H no ++ H no) (by exact Tryd.zeroPt) (by with_unfolding_all rfl) ?_)
  intro g12 w13 hg12 hs13 hb13 hB13
  have hl13 : w12.heap.size ≤ g12 := Nat.le_of_eq hg12.out.symm
  have hb13 := hb13.mono hl13
  go_wp2_with (with_reducible refine wpList_put (o := ⟨none, .store 25 (.tmp 12) (.tmp 48), _, _, _, _⟩) (by with_unfolding_all rfl) 25 (.tmp 12) (.tmp 48) (by with_unfolding_all rfl) g12 0 (by with_unfolding_all rfl) (.agg A.cells.toArray) (by with_unfolding_all rfl) hB13 A.cells (by with_unfolding_all rfl) (by with_unfolding_all (rw [Pat.cells_length]; exact Tryd.szP)) (by with_unfolding_all (rw [Pat.cells_length, List.length_append, H_length] <;> omega)) (by with_unfolding_all (exact cells_one _)) ?_)
  intro w14 hu14 B12
  rw [splice_all _ _ (by rw [Pat.cells_length, List.length_append, H_length])] at B12
  have hb14 := hb13.trans (hu14.below (B := w12.heap.size) hl13)
  have B4 := B4.next hb14 B4.lt
  have B5 := B5.next hb14 B5.lt
  have B6 := B6.next hb14 B6.lt
  have B7 := B7.next hb14 B7.lt
  have B10 := B10.next hb14 B10.lt
  have hbe := below_join hbe hb14
  clear hb13 hb14 hu14 hB13 hl13 hg12 hs13
  rcases O with _ | _
  · skip
    have hx3 := E3.out rfl
    clear E3
    go_wp2_with (first | (with_reducible refine wpList_getg (o := ⟨some 50, .load 25 (.tmp 10), _, _, _, _⟩) (by with_unfolding_all rfl) 25 (.tmp 10) (by with_unfolding_all rfl) g10 0 (by with_unfolding_all rfl) B10 A.cells (cs_all _) _ (by exact Tryd.underlying25) (by with_unfolding_all rfl) (by (rw [Pat.cells_length]; exact Tryd.szP)) ?_) | (with_reducible refine wpList_getg (o := ⟨some 51, .load 25 (.tmp 12), _, _, _, _⟩) (by with_unfolding_all rfl) 25 (.tmp 12) (by with_unfolding_all rfl) g12 0 (by with_unfolding_all rfl) B12 A.cells (cs_all _) _ (by exact Tryd.underlying25) (by with_unfolding_all rfl) (by (rw [Pat.cells_length]; exact Tryd.szP)) ?_) | (with_reducible refine wpList_getg (o := ⟨some 60, .load 25 (.tmp 4), _, _, _, _⟩) (by with_unfolding_all rfl) 25 (.tmp 4) (by with_unfolding_all rfl) g4 0 (by with_unfolding_all rfl) B4 p.cells (cs_all _) _ (by exact Tryd.underlying25) (by with_unfolding_all rfl) (by (rw [Pat.cells_length]; exact Tryd.szP)) ?_) | (with_reducible refine wpList_getg (o := ⟨some 61, .load 25 (.tmp 5), _, _, _, _⟩) (by with_unfolding_all rfl) 25 (.tmp 5) (by with_unfolding_all rfl) g5 0 (by with_unfolding_all rfl) B5 q.cells (cs_all _) _ (by exact Tryd.underlying25) (by with_unfolding_all rfl) (by (rw [Pat.cells_length]; exact Tryd.szP)) ?_))
    (with_reducible refine (C3.out _).mono ?_)
    rintro e w15 ⟨rfl, hb15⟩
    have B4 := B4.next hb15 B4.lt
    have B5 := B5.next hb15 B5.lt
    have B6 := B6.next hb15 B6.lt
    have B7 := B7.next hb15 B7.lt
    have B10 := B10.next hb15 B10.lt
    have B12 := B12.next hb15 B12.lt
    have hbe := below_join hbe hb15
    clear hb15
    go_wp2_with (first | (with_reducible refine wpList_getg (o := ⟨some 66, .load 25 (.tmp 4), _, _, _, _⟩) (by with_unfolding_all rfl) 25 (.tmp 4) (by with_unfolding_all rfl) g4 0 (by with_unfolding_all rfl) B4 p.cells (cs_all _) _ (by exact Tryd.underlying25) (by with_unfolding_all rfl) (by (rw [Pat.cells_length]; exact Tryd.szP)) ?_) | (with_reducible refine wpList_getg (o := ⟨some 67, .load 25 (.tmp 5), _, _, _, _⟩) (by with_unfolding_all rfl) 25 (.tmp 5) (by with_unfolding_all rfl) g5 0 (by with_unfolding_all rfl) B5 q.cells (cs_all _) _ (by exact Tryd.underlying25) (by with_unfolding_all rfl) (by (rw [Pat.cells_length]; exact Tryd.szP)) ?_))
    (with_reducible refine (C4.out _).mono ?_)
    rintro e w16 ⟨rfl, hb16⟩
    have B4 := B4.next hb16 B4.lt
    have B5 := B5.next hb16 B5.lt
    have B6 := B6.next hb16 B6.lt
    have B7 := B7.next hb16 B7.lt
    have B10 := B10.next hb16 B10.lt
    have B12 := B12.next hb16 B12.lt
    have hbe := below_join hbe hb16
    clear hb16
    have hfin : Hid (false = (M1 && M2)) := by have : (false && M) = (M1 && M2) := HMM.out; rw [Bool.false_and] at this; exact this
    clear HMM
    go_wp2_with (first | (with_reducible refine wpList_getg (o := ⟨some 71, .load 25 (.tmp 10), _, _, _, _⟩) (by with_unfolding_all rfl) 25 (.tmp 10) (by with_unfolding_all rfl) g10 0 (by with_unfolding_all rfl) B10 A.cells (cs_all _) _ (by exact Tryd.underlying25) (by with_unfolding_all rfl) (by (rw [Pat.cells_length]; exact Tryd.szP)) ?_) | (with_reducible refine wpList_getg (o := ⟨some 72, .load 25 (.tmp 5), _, _, _, _⟩) (by with_unfolding_all rfl) 25 (.tmp 5) (by with_unfolding_all rfl) g5 0 (by with_unfolding_all rfl) B5 q.cells (cs_all _) _ (by exact Tryd.underlying25) (by with_unfolding_all rfl) (by (rw [Pat.cells_length]; exact Tryd.szP)) ?_) | (with_reducible refine wpList_getg (o := ⟨some 81, .load 25 (.tmp 10), _, _, _, _⟩) (by with_unfolding_all rfl) 25 (.tmp 10) (by with_unfolding_all rfl) g10 0 (by with_unfolding_all rfl) B10 A.cells (cs_all _) _ (by exact Tryd.underlying25) (by with_unfolding_all rfl) (by (rw [Pat.cells_length]; exact Tryd.szP)) ?_) | (with_reducible refine wpList_buildw (o := ⟨some 82, .build 25 #[], _, _, _, _⟩) (by with_unfolding_all rfl) 25 #[] (by with_unfolding_all rfl) #[] (by with_unfolding_all rfl) (.agg Pat.zero.cells.toArray) hbz ?_))
    rcases M1 with _ | _
    · skip
      clear hfin
      have hdd := below_drew w16
      have K4_0 : Hid (∀ w', Below w16.heap.size w16 w' → w'.rangeAt g4 0 p.cells) := (fun w' h => blk_range (B4.next h B4.lt) : ∀ w', Below w16.heap.size w16 w' → w'.rangeAt g4 0 p.cells)
      have Z4_0 : (Tryd.prog.info? 25).map (·.size) = some p.cells.length := by (rw [Pat.cells_length]; exact Tryd.szP)
      have K7_0 : Hid (∀ w', Below w16.heap.size w16 w' → w'.rangeAt g7 0 (H h)) := (fun w' h => blk_range (B7.next h B7.lt) : ∀ w', Below w16.heap.size w16 w' → w'.rangeAt g7 0 (H h))
      have Z7_0 : (Tryd.prog.info? 23).map (·.size) = some (H h).length := by (rw [H_length]; exact Tryd.szH)
      refine wp_region_held_drew (S := fun w' => Below w16.heap.size w16 w') (by kernel_rfl) hdd (fun hHeld => ?_)
      generalize w16.drew = wd at hdd hHeld ⊢
      refine wpAnyH_take (i := 0) (v := ?vaa_0) rfl (by kernel_rfl) (by kernel_rfl) (by kernel_rfl) (fun _ _ _ h => h) (Or.inl ⟨by rfl, ?yaa_0⟩) (by assumption) ?raa_0
      case yaa_0 => intro w hSw; (try dsimp only at hSw); go_simp <;> (try with_reducible rfl)
      (try simp only [List.getElem_toArray, List.getElem_cons_zero, Act.put, List.setIfInBounds_toArray, List.set_cons_zero, List.set_cons_succ])
      refine wpAnyH_take (i := 1) (v := ?vaa_1) rfl (by kernel_rfl) (by kernel_rfl) (by kernel_rfl) (fun _ _ _ h => h) (Or.inl ⟨by rfl, ?yaa_1⟩) (by assumption) ?raa_1
      case yaa_1 => intro w hSw; (try dsimp only at hSw); go_simp <;> (try with_reducible rfl)
      (try simp only [List.getElem_toArray, List.getElem_cons_succ, List.getElem_cons_zero, Act.put, List.setIfInBounds_toArray, List.set_cons_zero, List.set_cons_succ])
      refine wpAnyH_take (i := 2) (v := undef) rfl (by kernel_rfl) (by kernel_rfl) (by kernel_rfl) (fun _ _ _ h => h) (Or.inr ⟨by rfl, rfl⟩) (by assumption) ?raa_2
      (try simp only [List.getElem_toArray, List.getElem_cons_succ, List.getElem_cons_zero, Act.put, List.setIfInBounds_toArray, List.set_cons_zero, List.set_cons_succ])
      refine wpAnyH_take (i := 3) (v := undef) rfl (by kernel_rfl) (by kernel_rfl) (by kernel_rfl) (fun _ _ _ h => h) (Or.inr ⟨by rfl, rfl⟩) (by assumption) ?raa_3
      (try simp only [List.getElem_toArray, List.getElem_cons_succ, List.getElem_cons_zero, Act.put, List.setIfInBounds_toArray, List.set_cons_zero, List.set_cons_succ])
      refine wpAnyH_take (i := 4) (v := undef) rfl (by kernel_rfl) (by kernel_rfl) (by kernel_rfl) (fun _ _ _ h => h) (Or.inr ⟨by rfl, rfl⟩) (by assumption) ?raa_4
      (try simp only [List.getElem_toArray, List.getElem_cons_succ, List.getElem_cons_zero, Act.put, List.setIfInBounds_toArray, List.set_cons_zero, List.set_cons_succ])
      refine wpAnyH_take (i := 5) (v := ?vaa_5) rfl (by kernel_rfl) (by kernel_rfl) (by kernel_rfl) (fun _ _ _ h => h) (Or.inl ⟨by rfl, ?yaa_5⟩) (by assumption) ?raa_5
      case yaa_5 => intro w hSw; (try dsimp only at hSw); go_simp <;> (try with_reducible rfl)
      (try simp only [List.getElem_toArray, List.getElem_cons_succ, List.getElem_cons_zero, Act.put, List.setIfInBounds_toArray, List.set_cons_zero, List.set_cons_succ])
      refine' wpAnyH_take (i := 6) (v := _) rfl (by kernel_rfl) (by kernel_rfl) (by kernel_rfl) (fun _ _ _ h => h) (yieldsIf_load_mid (by rfl) _ _ (by rfl) _ _ (by rfl) _ _ ?Saa_6 ?uaa_6 ?daa_6 ?iaa_6) (by assumption) ?raa_6
      case Saa_6 => exact (by intro w h; exact K4_0.out _ h)
      case uaa_6 => exact Tryd.underlying25
      case daa_6 => rfl
      case iaa_6 => exact Z4_0
      (try simp only [List.getElem_toArray, List.getElem_cons_succ, List.getElem_cons_zero, Act.put, List.setIfInBounds_toArray, List.set_cons_zero, List.set_cons_succ])
      refine' wpAnyH_take (i := 7) (v := _) rfl (by kernel_rfl) (by kernel_rfl) (by kernel_rfl) (fun _ _ _ h => h) (yieldsIf_load_mid (by rfl) _ _ (by rfl) _ _ (by rfl) _ _ ?Saa_7 ?uaa_7 ?daa_7 ?iaa_7) (by assumption) ?raa_7
      case Saa_7 => exact (by intro w h; exact K7_0.out _ h)
      case uaa_7 => exact Tryd.underlying23
      case daa_7 => rfl
      case iaa_7 => exact Z7_0
      (try simp only [List.getElem_toArray, List.getElem_cons_succ, List.getElem_cons_zero, Act.put, List.setIfInBounds_toArray, List.set_cons_zero, List.set_cons_succ])
      refine wpAnyH_ready (rs := [8]) (by kernel_rfl) (by simp) ?_
      refine AllReadyH.cons rfl (fun K hK => ?_) AllReadyH.nil
      go_simp
      go_wp2_with fail
      (with_reducible refine (C6.out _).mono ?_)
      rintro e w17 ⟨rfl, hb17⟩
      have hk17 := below_join hdd hb17
      refine hK.out _ _ hk17 (fun hHeld => ?_)
      clear hK K hb17 hdd
      refine wpAnyH_take (i := 9) (v := ?vaa_9) rfl (by kernel_rfl) (by kernel_rfl) (by kernel_rfl) (fun _ _ _ h => h) (Or.inl ⟨by rfl, ?yaa_9⟩) (by assumption) ?raa_9
      case yaa_9 => intro w hSw; (try dsimp only at hSw); go_simp <;> (try with_reducible rfl)
      (try simp only [List.getElem_toArray, List.getElem_cons_succ, List.getElem_cons_zero, Act.put, List.setIfInBounds_toArray, List.set_cons_zero, List.set_cons_succ])
      refine wpAnyH_take (i := 10) (v := undef) rfl (by kernel_rfl) (by kernel_rfl) (by kernel_rfl) (fun _ _ _ h => h) (Or.inr ⟨by rfl, rfl⟩) (by assumption) ?raa_10
      (try simp only [List.getElem_toArray, List.getElem_cons_succ, List.getElem_cons_zero, Act.put, List.setIfInBounds_toArray, List.set_cons_zero, List.set_cons_succ])
      refine wpAnyH_take (i := 11) (v := undef) rfl (by kernel_rfl) (by kernel_rfl) (by kernel_rfl) (fun _ _ _ h => h) (Or.inr ⟨by rfl, rfl⟩) (by assumption) ?raa_11
      (try simp only [List.getElem_toArray, List.getElem_cons_succ, List.getElem_cons_zero, Act.put, List.setIfInBounds_toArray, List.set_cons_zero, List.set_cons_succ])
      refine wpAnyH_take (i := 12) (v := undef) rfl (by kernel_rfl) (by kernel_rfl) (by kernel_rfl) (fun _ _ _ h => h) (Or.inr ⟨by rfl, rfl⟩) (by assumption) ?raa_12
      (try simp only [List.getElem_toArray, List.getElem_cons_succ, List.getElem_cons_zero, Act.put, List.setIfInBounds_toArray, List.set_cons_zero, List.set_cons_succ])
      refine wpAnyH_take (i := 13) (v := ?vaa_13) rfl (by kernel_rfl) (by kernel_rfl) (by kernel_rfl) (fun _ _ _ h => h) (Or.inl ⟨by rfl, ?yaa_13⟩) (by assumption) ?raa_13
      case yaa_13 => intro w hSw; (try dsimp only at hSw); go_simp <;> (try with_reducible rfl)
      (try simp only [List.getElem_toArray, List.getElem_cons_succ, List.getElem_cons_zero, Act.put, List.setIfInBounds_toArray, List.set_cons_zero, List.set_cons_succ])
      refine wpAnyH_take (i := 14) (v := ?vaa_14) rfl (by kernel_rfl) (by kernel_rfl) (by kernel_rfl) (fun _ _ _ h => h) (Or.inl ⟨by rfl, ?yaa_14⟩) (by assumption) ?raa_14
      case yaa_14 => intro w hSw; (try dsimp only at hSw); go_simp <;> (try with_reducible rfl)
      (try simp only [List.getElem_toArray, List.getElem_cons_succ, List.getElem_cons_zero, Act.put, List.setIfInBounds_toArray, List.set_cons_zero, List.set_cons_succ])
      refine wpAnyH_done (by kernel_rfl) ?_ _
      clear hHeld K4_0 Z4_0 K7_0 Z7_0
      have B4 := B4.next hk17 B4.lt
      have B5 := B5.next hk17 B5.lt
      have B6 := B6.next hk17 B6.lt
      have B7 := B7.next hk17 B7.lt
      have B10 := B10.next hk17 B10.lt
      have B12 := B12.next hk17 B12.lt
      have hbe := below_join hbe hk17
      clear hk17
      go_wp2_with (first | (with_reducible refine wpList_getg (o := ⟨some 102, .load 25 (.tmp 4), _, _, _, _⟩) (by with_unfolding_all rfl) 25 (.tmp 4) (by with_unfolding_all rfl) g4 0 (by with_unfolding_all rfl) B4 p.cells (cs_all _) _ (by exact Tryd.underlying25) (by with_unfolding_all rfl) (by (rw [Pat.cells_length]; exact Tryd.szP)) ?_) | (with_reducible refine wpList_getg (o := ⟨some 104, .load 25 (.tmp 5), _, _, _, _⟩) (by with_unfolding_all rfl) 25 (.tmp 5) (by with_unfolding_all rfl) g5 0 (by with_unfolding_all rfl) B5 q.cells (cs_all _) _ (by exact Tryd.underlying25) (by with_unfolding_all rfl) (by (rw [Pat.cells_length]; exact Tryd.szP)) ?_) | (with_reducible refine wpList_slice1 (o := ⟨some 103, .buildSlice 31 1 #[(0, .tmp 102)], _, _, _, _⟩) (by with_unfolding_all rfl) (.tmp 102) (by with_unfolding_all rfl) p (by with_unfolding_all rfl) ?_))
      intro ga w18 hga hb18 la PA
      have B4 := B4.next hb18 B4.lt
      have B5 := B5.next hb18 B5.lt
      have B6 := B6.next hb18 B6.lt
      have B7 := B7.next hb18 B7.lt
      have B10 := B10.next hb18 B10.lt
      have B12 := B12.next hb18 B12.lt
      have hbe := below_join hbe hb18
      clear hb18 hga
      go_wp2_with (first | (with_reducible refine wpList_getg (o := ⟨some 104, .load 25 (.tmp 5), _, _, _, _⟩) (by with_unfolding_all rfl) 25 (.tmp 5) (by with_unfolding_all rfl) g5 0 (by with_unfolding_all rfl) B5 q.cells (cs_all _) _ (by exact Tryd.underlying25) (by with_unfolding_all rfl) (by (rw [Pat.cells_length]; exact Tryd.szP)) ?_) | (with_reducible refine wpList_slice1 (o := ⟨some 105, .buildSlice 31 1 #[(0, .tmp 104)], _, _, _, _⟩) (by with_unfolding_all rfl) (.tmp 104) (by with_unfolding_all rfl) q (by with_unfolding_all rfl) ?_))
      intro gb w19 hgb hb19 lb PB
      have la := Nat.lt_of_lt_of_le la hb19.size
      have PA := PA.next hb19
      have B4 := B4.next hb19 B4.lt
      have B5 := B5.next hb19 B5.lt
      have B6 := B6.next hb19 B6.lt
      have B7 := B7.next hb19 B7.lt
      have B10 := B10.next hb19 B10.lt
      have B12 := B12.next hb19 B12.lt
      have hbe := below_join hbe hb19
      clear hb19 hgb
      go_wp2_with fail
      (with_reducible refine (C8.out ga gb _ _ _ la lb PA PB).mono ?_)
      rintro e w20 ⟨f1, rfl, hb20⟩
      have B4 := B4.next hb20 B4.lt
      have B5 := B5.next hb20 B5.lt
      have B6 := B6.next hb20 B6.lt
      have B7 := B7.next hb20 B7.lt
      have B10 := B10.next hb20 B10.lt
      have B12 := B12.next hb20 B12.lt
      have hbe := below_join hbe hb20
      clear hb20
      clear PA PB la lb
      go_wp2_with (with_reducible refine wpList_alloc (o := ⟨some 14, .alloc 23, _, _, _, _⟩) (by with_unfolding_all rfl) 23 (by with_unfolding_all rfl) (.agg (H no).toArray) (H no) (by exact Tryd.zeroH) (by with_unfolding_all rfl) ?_)
      intro g14 w21 hg14 hs21 hb21 hB21
      have hl21 : w20.heap.size ≤ g14 := Nat.le_of_eq hg14.out.symm
      have hb21 := hb21.mono hl21
      go_wp2_with (with_reducible refine wpList_put (o := ⟨none, .store 23 (.tmp 14) (.tmp 107), _, _, _, _⟩) (by with_unfolding_all rfl) 23 (.tmp 14) (.tmp 107) (by with_unfolding_all rfl) g14 0 (by with_unfolding_all rfl) (.agg (H f1).toArray) (by with_unfolding_all rfl) hB21 (H f1) (by with_unfolding_all rfl) (by with_unfolding_all (rw [H_length]; exact Tryd.szH)) (by with_unfolding_all (rw [H_length, H_length] <;> omega)) (by with_unfolding_all (exact H_one _)) ?_)
      intro w22 hu22 B14
      rw [splice_all _ _ (by rw [H_length, H_length])] at B14
      have hb22 := hb21.trans (hu22.below (B := w20.heap.size) hl21)
      have B4 := B4.next hb22 B4.lt
      have B5 := B5.next hb22 B5.lt
      have B6 := B6.next hb22 B6.lt
      have B7 := B7.next hb22 B7.lt
      have B10 := B10.next hb22 B10.lt
      have B12 := B12.next hb22 B12.lt
      have hbe := below_join hbe hb22
      clear hb21 hb22 hu22 hB21 hl21 hg14 hs21
      go_wp2_with (first | (with_reducible refine wpList_getg (o := ⟨some 110, .load 25 (.tmp 5), _, _, _, _⟩) (by with_unfolding_all rfl) 25 (.tmp 5) (by with_unfolding_all rfl) g5 0 (by with_unfolding_all rfl) B5 q.cells (cs_all _) _ (by exact Tryd.underlying25) (by with_unfolding_all rfl) (by (rw [Pat.cells_length]; exact Tryd.szP)) ?_) | (with_reducible refine wpList_getg (o := ⟨some 111, .load 25 (.tmp 10), _, _, _, _⟩) (by with_unfolding_all rfl) 25 (.tmp 10) (by with_unfolding_all rfl) g10 0 (by with_unfolding_all rfl) B10 A.cells (cs_all _) _ (by exact Tryd.underlying25) (by with_unfolding_all rfl) (by (rw [Pat.cells_length]; exact Tryd.szP)) ?_) | (with_reducible refine wpList_slice2 (o := ⟨some 112, .buildSlice 31 2 #[(0, .tmp 110), (1, .tmp 111)], _, _, _, _⟩) (by with_unfolding_all rfl) (.tmp 110) (.tmp 111) (by with_unfolding_all rfl) q A (by with_unfolding_all rfl) (by with_unfolding_all rfl) ?_))
      intro ga w23 hga hb23 la PA
      have B4 := B4.next hb23 B4.lt
      have B5 := B5.next hb23 B5.lt
      have B6 := B6.next hb23 B6.lt
      have B7 := B7.next hb23 B7.lt
      have B10 := B10.next hb23 B10.lt
      have B12 := B12.next hb23 B12.lt
      have B14 := B14.next hb23 B14.lt
      have hbe := below_join hbe hb23
      clear hb23 hga
      go_wp2_with (first | (with_reducible refine wpList_getg (o := ⟨some 113, .load 25 (.tmp 5), _, _, _, _⟩) (by with_unfolding_all rfl) 25 (.tmp 5) (by with_unfolding_all rfl) g5 0 (by with_unfolding_all rfl) B5 q.cells (cs_all _) _ (by exact Tryd.underlying25) (by with_unfolding_all rfl) (by (rw [Pat.cells_length]; exact Tryd.szP)) ?_) | (with_reducible refine wpList_slice1 (o := ⟨some 114, .buildSlice 31 1 #[(0, .tmp 113)], _, _, _, _⟩) (by with_unfolding_all rfl) (.tmp 113) (by with_unfolding_all rfl) q (by with_unfolding_all rfl) ?_))
      intro gb w24 hgb hb24 lb PB
      have la := Nat.lt_of_lt_of_le la hb24.size
      have PA := PA.next hb24
      have B4 := B4.next hb24 B4.lt
      have B5 := B5.next hb24 B5.lt
      have B6 := B6.next hb24 B6.lt
      have B7 := B7.next hb24 B7.lt
      have B10 := B10.next hb24 B10.lt
      have B12 := B12.next hb24 B12.lt
      have B14 := B14.next hb24 B14.lt
      have hbe := below_join hbe hb24
      clear hb24 hgb
      go_wp2_with fail
      (with_reducible refine (C9.out ga gb _ _ _ la lb PA PB).mono ?_)
      rintro e w25 ⟨f2, bo, rfl, hbo, hb25⟩
      have B4 := B4.next hb25 B4.lt
      have B5 := B5.next hb25 B5.lt
      have B6 := B6.next hb25 B6.lt
      have B7 := B7.next hb25 B7.lt
      have B10 := B10.next hb25 B10.lt
      have B12 := B12.next hb25 B12.lt
      have B14 := B14.next hb25 B14.lt
      have hbe := below_join hbe hb25
      clear hb25
      clear PA PB la lb
      clear hbo
      go_wp2_with (with_reducible refine wpList_alloc (o := ⟨some 16, .alloc 23, _, _, _, _⟩) (by with_unfolding_all rfl) 23 (by with_unfolding_all rfl) (.agg (H no).toArray) (H no) (by exact Tryd.zeroH) (by with_unfolding_all rfl) ?_)
      intro g16 w26 hg16 hs26 hb26 hB26
      have hl26 : w25.heap.size ≤ g16 := Nat.le_of_eq hg16.out.symm
      have hb26 := hb26.mono hl26
      go_wp2_with (with_reducible refine wpList_put (o := ⟨none, .store 23 (.tmp 16) (.tmp 116), _, _, _, _⟩) (by with_unfolding_all rfl) 23 (.tmp 16) (.tmp 116) (by with_unfolding_all rfl) g16 0 (by with_unfolding_all rfl) (.agg (H f2).toArray) (by with_unfolding_all rfl) hB26 (H f2) (by with_unfolding_all rfl) (by with_unfolding_all (rw [H_length]; exact Tryd.szH)) (by with_unfolding_all (rw [H_length, H_length] <;> omega)) (by with_unfolding_all (exact H_one _)) ?_)
      intro w27 hu27 B16
      rw [splice_all _ _ (by rw [H_length, H_length])] at B16
      have hb27 := hb26.trans (hu27.below (B := w25.heap.size) hl26)
      have B4 := B4.next hb27 B4.lt
      have B5 := B5.next hb27 B5.lt
      have B6 := B6.next hb27 B6.lt
      have B7 := B7.next hb27 B7.lt
      have B10 := B10.next hb27 B10.lt
      have B12 := B12.next hb27 B12.lt
      have B14 := B14.next hb27 B14.lt
      have hbe := below_join hbe hb27
      clear hb26 hb27 hu27 hB26 hl26 hg16 hs26
      go_wp2_with (first | (with_reducible refine wpList_getg (o := ⟨some 119, .load 25 (.tmp 4), _, _, _, _⟩) (by with_unfolding_all rfl) 25 (.tmp 4) (by with_unfolding_all rfl) g4 0 (by with_unfolding_all rfl) B4 p.cells (cs_all _) _ (by exact Tryd.underlying25) (by with_unfolding_all rfl) (by (rw [Pat.cells_length]; exact Tryd.szP)) ?_) | (with_reducible refine wpList_getg (o := ⟨some 120, .load 25 (.tmp 5), _, _, _, _⟩) (by with_unfolding_all rfl) 25 (.tmp 5) (by with_unfolding_all rfl) g5 0 (by with_unfolding_all rfl) B5 q.cells (cs_all _) _ (by exact Tryd.underlying25) (by with_unfolding_all rfl) (by (rw [Pat.cells_length]; exact Tryd.szP)) ?_) | (with_reducible refine wpList_getg (o := ⟨some 131, .load 25 (.tmp 5), _, _, _, _⟩) (by with_unfolding_all rfl) 25 (.tmp 5) (by with_unfolding_all rfl) g5 0 (by with_unfolding_all rfl) B5 q.cells (cs_all _) _ (by exact Tryd.underlying25) (by with_unfolding_all rfl) (by (rw [Pat.cells_length]; exact Tryd.szP)) ?_) | (with_reducible refine wpList_getg (o := ⟨some 132, .load 25 (.tmp 6), _, _, _, _⟩) (by with_unfolding_all rfl) 25 (.tmp 6) (by with_unfolding_all rfl) g6 0 (by with_unfolding_all rfl) B6 r.cells (cs_all _) _ (by exact Tryd.underlying25) (by with_unfolding_all rfl) (by (rw [Pat.cells_length]; exact Tryd.szP)) ?_))
      (with_reducible refine (C10.out _).mono ?_)
      rintro e w28 ⟨rfl, hb28⟩
      have B4 := B4.next hb28 B4.lt
      have B5 := B5.next hb28 B5.lt
      have B6 := B6.next hb28 B6.lt
      have B7 := B7.next hb28 B7.lt
      have B10 := B10.next hb28 B10.lt
      have B12 := B12.next hb28 B12.lt
      have B14 := B14.next hb28 B14.lt
      have B16 := B16.next hb28 B16.lt
      have hbe := below_join hbe hb28
      clear hb28
      go_wp2_with (with_reducible refine wpList_alloc (o := ⟨some 18, .alloc 25, _, _, _, _⟩) (by with_unfolding_all rfl) 25 (by with_unfolding_all rfl) (.agg (H no ++ H no).toArray) (H no ++ H no) (by exact Tryd.zeroPt) (by with_unfolding_all rfl) ?_)
      intro g18 w29 hg18 hs29 hb29 hB29
      have hl29 : w28.heap.size ≤ g18 := Nat.le_of_eq hg18.out.symm
      have hb29 := hb29.mono hl29
      go_wp2_with (with_reducible refine wpList_put (o := ⟨none, .store 25 (.tmp 18) (.tmp 134), _, _, _, _⟩) (by with_unfolding_all rfl) 25 (.tmp 18) (.tmp 134) (by with_unfolding_all rfl) g18 0 (by with_unfolding_all rfl) (.agg B.cells.toArray) (by with_unfolding_all rfl) hB29 B.cells (by with_unfolding_all rfl) (by with_unfolding_all (rw [Pat.cells_length]; exact Tryd.szP)) (by with_unfolding_all (rw [Pat.cells_length, List.length_append, H_length] <;> omega)) (by with_unfolding_all (exact cells_one _)) ?_)
      intro w30 hu30 B18
      rw [splice_all _ _ (by rw [Pat.cells_length, List.length_append, H_length])] at B18
      have hb30 := hb29.trans (hu30.below (B := w28.heap.size) hl29)
      have B4 := B4.next hb30 B4.lt
      have B5 := B5.next hb30 B5.lt
      have B6 := B6.next hb30 B6.lt
      have B7 := B7.next hb30 B7.lt
      have B10 := B10.next hb30 B10.lt
      have B12 := B12.next hb30 B12.lt
      have B14 := B14.next hb30 B14.lt
      have B16 := B16.next hb30 B16.lt
      have hbe := below_join hbe hb30
      clear hb29 hb30 hu30 hB29 hl29 hg18 hs29
      go_wp2
      go_ret
      exact ⟨rfl, hbe⟩
    · skip
      have hM : M2 = false := by have := hfin.out; simpa using this.symm
      subst hM
      clear hfin
      have hdd := below_drew w16
      have K4_0 : Hid (∀ w', Below w16.heap.size w16 w' → w'.rangeAt g4 0 p.cells) := (fun w' h => blk_range (B4.next h B4.lt) : ∀ w', Below w16.heap.size w16 w' → w'.rangeAt g4 0 p.cells)
      have Z4_0 : (Tryd.prog.info? 25).map (·.size) = some p.cells.length := by (rw [Pat.cells_length]; exact Tryd.szP)
      have K5_0 : Hid (∀ w', Below w16.heap.size w16 w' → w'.rangeAt g5 0 q.cells) := (fun w' h => blk_range (B5.next h B5.lt) : ∀ w', Below w16.heap.size w16 w' → w'.rangeAt g5 0 q.cells)
      have Z5_0 : (Tryd.prog.info? 25).map (·.size) = some q.cells.length := by (rw [Pat.cells_length]; exact Tryd.szP)
      have K7_0 : Hid (∀ w', Below w16.heap.size w16 w' → w'.rangeAt g7 0 (H h)) := (fun w' h => blk_range (B7.next h B7.lt) : ∀ w', Below w16.heap.size w16 w' → w'.rangeAt g7 0 (H h))
      have Z7_0 : (Tryd.prog.info? 23).map (·.size) = some (H h).length := by (rw [H_length]; exact Tryd.szH)
      refine wp_region_held_drew (S := fun w' => Below w16.heap.size w16 w') (by kernel_rfl) hdd (fun hHeld => ?_)
      generalize w16.drew = wd at hdd hHeld ⊢
      refine wpAnyH_take (i := 0) (v := ?vab_0) rfl (by kernel_rfl) (by kernel_rfl) (by kernel_rfl) (fun _ _ _ h => h) (Or.inl ⟨by rfl, ?yab_0⟩) (by assumption) ?rab_0
      case yab_0 => intro w hSw; (try dsimp only at hSw); go_simp <;> (try with_reducible rfl)
      (try simp only [List.getElem_toArray, List.getElem_cons_zero, Act.put, List.setIfInBounds_toArray, List.set_cons_zero, List.set_cons_succ])
      refine wpAnyH_take (i := 1) (v := ?vab_1) rfl (by kernel_rfl) (by kernel_rfl) (by kernel_rfl) (fun _ _ _ h => h) (Or.inl ⟨by rfl, ?yab_1⟩) (by assumption) ?rab_1
      case yab_1 => intro w hSw; (try dsimp only at hSw); go_simp <;> (try with_reducible rfl)
      (try simp only [List.getElem_toArray, List.getElem_cons_succ, List.getElem_cons_zero, Act.put, List.setIfInBounds_toArray, List.set_cons_zero, List.set_cons_succ])
      refine wpAnyH_take (i := 2) (v := undef) rfl (by kernel_rfl) (by kernel_rfl) (by kernel_rfl) (fun _ _ _ h => h) (Or.inr ⟨by rfl, rfl⟩) (by assumption) ?rab_2
      (try simp only [List.getElem_toArray, List.getElem_cons_succ, List.getElem_cons_zero, Act.put, List.setIfInBounds_toArray, List.set_cons_zero, List.set_cons_succ])
      refine wpAnyH_take (i := 3) (v := undef) rfl (by kernel_rfl) (by kernel_rfl) (by kernel_rfl) (fun _ _ _ h => h) (Or.inr ⟨by rfl, rfl⟩) (by assumption) ?rab_3
      (try simp only [List.getElem_toArray, List.getElem_cons_succ, List.getElem_cons_zero, Act.put, List.setIfInBounds_toArray, List.set_cons_zero, List.set_cons_succ])
      refine wpAnyH_take (i := 4) (v := undef) rfl (by kernel_rfl) (by kernel_rfl) (by kernel_rfl) (fun _ _ _ h => h) (Or.inr ⟨by rfl, rfl⟩) (by assumption) ?rab_4
      (try simp only [List.getElem_toArray, List.getElem_cons_succ, List.getElem_cons_zero, Act.put, List.setIfInBounds_toArray, List.set_cons_zero, List.set_cons_succ])
      refine wpAnyH_take (i := 5) (v := ?vab_5) rfl (by kernel_rfl) (by kernel_rfl) (by kernel_rfl) (fun _ _ _ h => h) (Or.inl ⟨by rfl, ?yab_5⟩) (by assumption) ?rab_5
      case yab_5 => intro w hSw; (try dsimp only at hSw); go_simp <;> (try with_reducible rfl)
      (try simp only [List.getElem_toArray, List.getElem_cons_succ, List.getElem_cons_zero, Act.put, List.setIfInBounds_toArray, List.set_cons_zero, List.set_cons_succ])
      refine' wpAnyH_take (i := 6) (v := _) rfl (by kernel_rfl) (by kernel_rfl) (by kernel_rfl) (fun _ _ _ h => h) (yieldsIf_load_mid (by rfl) _ _ (by rfl) _ _ (by rfl) _ _ ?Sab_6 ?uab_6 ?dab_6 ?iab_6) (by assumption) ?rab_6
      case Sab_6 => exact (by intro w h; exact K4_0.out _ h)
      case uab_6 => exact Tryd.underlying25
      case dab_6 => rfl
      case iab_6 => exact Z4_0
      (try simp only [List.getElem_toArray, List.getElem_cons_succ, List.getElem_cons_zero, Act.put, List.setIfInBounds_toArray, List.set_cons_zero, List.set_cons_succ])
      refine' wpAnyH_take (i := 7) (v := _) rfl (by kernel_rfl) (by kernel_rfl) (by kernel_rfl) (fun _ _ _ h => h) (yieldsIf_load_mid (by rfl) _ _ (by rfl) _ _ (by rfl) _ _ ?Sab_7 ?uab_7 ?dab_7 ?iab_7) (by assumption) ?rab_7
      case Sab_7 => exact (by intro w h; exact K7_0.out _ h)
      case uab_7 => exact Tryd.underlying23
      case dab_7 => rfl
      case iab_7 => exact Z7_0
      (try simp only [List.getElem_toArray, List.getElem_cons_succ, List.getElem_cons_zero, Act.put, List.setIfInBounds_toArray, List.set_cons_zero, List.set_cons_succ])
      refine wpAnyH_ready (rs := [8]) (by kernel_rfl) (by simp) ?_
      refine AllReadyH.cons rfl (fun K hK => ?_) AllReadyH.nil
      go_simp
      go_wp2_with fail
      (with_reducible refine (C6.out _).mono ?_)
      rintro e w17 ⟨rfl, hb17⟩
      have hk17 := below_join hdd hb17
      refine hK.out _ _ hk17 (fun hHeld => ?_)
      clear hK K hb17 hdd
      refine wpAnyH_take (i := 9) (v := ?vab_9) rfl (by kernel_rfl) (by kernel_rfl) (by kernel_rfl) (fun _ _ _ h => h) (Or.inl ⟨by rfl, ?yab_9⟩) (by assumption) ?rab_9
      case yab_9 => intro w hSw; (try dsimp only at hSw); go_simp <;> (try with_reducible rfl)
      (try simp only [List.getElem_toArray, List.getElem_cons_succ, List.getElem_cons_zero, Act.put, List.setIfInBounds_toArray, List.set_cons_zero, List.set_cons_succ])
      refine' wpAnyH_take (i := 10) (v := _) rfl (by kernel_rfl) (by kernel_rfl) (by kernel_rfl) (fun _ _ _ h => h) (yieldsIf_load_mid (by rfl) _ _ (by rfl) _ _ (by rfl) _ _ ?Sab_10 ?uab_10 ?dab_10 ?iab_10) (by assumption) ?rab_10
      case Sab_10 => exact (by intro w h; exact K5_0.out _ h)
      case uab_10 => exact Tryd.underlying25
      case dab_10 => rfl
      case iab_10 => exact Z5_0
      (try simp only [List.getElem_toArray, List.getElem_cons_succ, List.getElem_cons_zero, Act.put, List.setIfInBounds_toArray, List.set_cons_zero, List.set_cons_succ])
      refine' wpAnyH_take (i := 11) (v := _) rfl (by kernel_rfl) (by kernel_rfl) (by kernel_rfl) (fun _ _ _ h => h) (yieldsIf_load_mid (by rfl) _ _ (by rfl) _ _ (by rfl) _ _ ?Sab_11 ?uab_11 ?dab_11 ?iab_11) (by assumption) ?rab_11
      case Sab_11 => exact (by intro w h; exact K7_0.out _ h)
      case uab_11 => exact Tryd.underlying23
      case dab_11 => rfl
      case iab_11 => exact Z7_0
      (try simp only [List.getElem_toArray, List.getElem_cons_succ, List.getElem_cons_zero, Act.put, List.setIfInBounds_toArray, List.set_cons_zero, List.set_cons_succ])
      refine wpAnyH_ready (rs := [12]) (by kernel_rfl) (by simp) ?_
      refine AllReadyH.cons rfl (fun K hK => ?_) AllReadyH.nil
      go_simp
      go_wp2_with fail
      (with_reducible refine (C7.out _).mono ?_)
      rintro e w18 ⟨rfl, hb18⟩
      have hk18 := below_join hk17 hb18
      refine hK.out _ _ hk18 (fun hHeld => ?_)
      clear hK K hb18 hk17
      refine wpAnyH_take (i := 13) (v := ?vab_13) rfl (by kernel_rfl) (by kernel_rfl) (by kernel_rfl) (fun _ _ _ h => h) (Or.inl ⟨by rfl, ?yab_13⟩) (by assumption) ?rab_13
      case yab_13 => intro w hSw; (try dsimp only at hSw); go_simp <;> (try with_reducible rfl)
      (try simp only [List.getElem_toArray, List.getElem_cons_succ, List.getElem_cons_zero, Act.put, List.setIfInBounds_toArray, List.set_cons_zero, List.set_cons_succ])
      refine wpAnyH_take (i := 14) (v := ?vab_14) rfl (by kernel_rfl) (by kernel_rfl) (by kernel_rfl) (fun _ _ _ h => h) (Or.inl ⟨by rfl, ?yab_14⟩) (by assumption) ?rab_14
      case yab_14 => intro w hSw; (try dsimp only at hSw); go_simp <;> (try with_reducible rfl)
      (try simp only [List.getElem_toArray, List.getElem_cons_succ, List.getElem_cons_zero, Act.put, List.setIfInBounds_toArray, List.set_cons_zero, List.set_cons_succ])
      refine wpAnyH_done (by kernel_rfl) ?_ _
      clear hHeld K4_0 Z4_0 K5_0 Z5_0 K7_0 Z7_0
      have B4 := B4.next hk18 B4.lt
      have B5 := B5.next hk18 B5.lt
      have B6 := B6.next hk18 B6.lt
      have B7 := B7.next hk18 B7.lt
      have B10 := B10.next hk18 B10.lt
      have B12 := B12.next hk18 B12.lt
      have hbe := below_join hbe hk18
      clear hk18
      go_wp2_with (first | (with_reducible refine wpList_getg (o := ⟨some 102, .load 25 (.tmp 4), _, _, _, _⟩) (by with_unfolding_all rfl) 25 (.tmp 4) (by with_unfolding_all rfl) g4 0 (by with_unfolding_all rfl) B4 p.cells (cs_all _) _ (by exact Tryd.underlying25) (by with_unfolding_all rfl) (by (rw [Pat.cells_length]; exact Tryd.szP)) ?_) | (with_reducible refine wpList_getg (o := ⟨some 104, .load 25 (.tmp 5), _, _, _, _⟩) (by with_unfolding_all rfl) 25 (.tmp 5) (by with_unfolding_all rfl) g5 0 (by with_unfolding_all rfl) B5 q.cells (cs_all _) _ (by exact Tryd.underlying25) (by with_unfolding_all rfl) (by (rw [Pat.cells_length]; exact Tryd.szP)) ?_) | (with_reducible refine wpList_slice1 (o := ⟨some 103, .buildSlice 31 1 #[(0, .tmp 102)], _, _, _, _⟩) (by with_unfolding_all rfl) (.tmp 102) (by with_unfolding_all rfl) p (by with_unfolding_all rfl) ?_))
      intro ga w19 hga hb19 la PA
      have B4 := B4.next hb19 B4.lt
      have B5 := B5.next hb19 B5.lt
      have B6 := B6.next hb19 B6.lt
      have B7 := B7.next hb19 B7.lt
      have B10 := B10.next hb19 B10.lt
      have B12 := B12.next hb19 B12.lt
      have hbe := below_join hbe hb19
      clear hb19 hga
      go_wp2_with (first | (with_reducible refine wpList_getg (o := ⟨some 104, .load 25 (.tmp 5), _, _, _, _⟩) (by with_unfolding_all rfl) 25 (.tmp 5) (by with_unfolding_all rfl) g5 0 (by with_unfolding_all rfl) B5 q.cells (cs_all _) _ (by exact Tryd.underlying25) (by with_unfolding_all rfl) (by (rw [Pat.cells_length]; exact Tryd.szP)) ?_) | (with_reducible refine wpList_slice1 (o := ⟨some 105, .buildSlice 31 1 #[(0, .tmp 104)], _, _, _, _⟩) (by with_unfolding_all rfl) (.tmp 104) (by with_unfolding_all rfl) q (by with_unfolding_all rfl) ?_))
      intro gb w20 hgb hb20 lb PB
      have la := Nat.lt_of_lt_of_le la hb20.size
      have PA := PA.next hb20
      have B4 := B4.next hb20 B4.lt
      have B5 := B5.next hb20 B5.lt
      have B6 := B6.next hb20 B6.lt
      have B7 := B7.next hb20 B7.lt
      have B10 := B10.next hb20 B10.lt
      have B12 := B12.next hb20 B12.lt
      have hbe := below_join hbe hb20
      clear hb20 hgb
      go_wp2_with fail
      (with_reducible refine (C8.out ga gb _ _ _ la lb PA PB).mono ?_)
      rintro e w21 ⟨f1, rfl, hb21⟩
      have B4 := B4.next hb21 B4.lt
      have B5 := B5.next hb21 B5.lt
      have B6 := B6.next hb21 B6.lt
      have B7 := B7.next hb21 B7.lt
      have B10 := B10.next hb21 B10.lt
      have B12 := B12.next hb21 B12.lt
      have hbe := below_join hbe hb21
      clear hb21
      clear PA PB la lb
      go_wp2_with (with_reducible refine wpList_alloc (o := ⟨some 14, .alloc 23, _, _, _, _⟩) (by with_unfolding_all rfl) 23 (by with_unfolding_all rfl) (.agg (H no).toArray) (H no) (by exact Tryd.zeroH) (by with_unfolding_all rfl) ?_)
      intro g14 w22 hg14 hs22 hb22 hB22
      have hl22 : w21.heap.size ≤ g14 := Nat.le_of_eq hg14.out.symm
      have hb22 := hb22.mono hl22
      go_wp2_with (with_reducible refine wpList_put (o := ⟨none, .store 23 (.tmp 14) (.tmp 107), _, _, _, _⟩) (by with_unfolding_all rfl) 23 (.tmp 14) (.tmp 107) (by with_unfolding_all rfl) g14 0 (by with_unfolding_all rfl) (.agg (H f1).toArray) (by with_unfolding_all rfl) hB22 (H f1) (by with_unfolding_all rfl) (by with_unfolding_all (rw [H_length]; exact Tryd.szH)) (by with_unfolding_all (rw [H_length, H_length] <;> omega)) (by with_unfolding_all (exact H_one _)) ?_)
      intro w23 hu23 B14
      rw [splice_all _ _ (by rw [H_length, H_length])] at B14
      have hb23 := hb22.trans (hu23.below (B := w21.heap.size) hl22)
      have B4 := B4.next hb23 B4.lt
      have B5 := B5.next hb23 B5.lt
      have B6 := B6.next hb23 B6.lt
      have B7 := B7.next hb23 B7.lt
      have B10 := B10.next hb23 B10.lt
      have B12 := B12.next hb23 B12.lt
      have hbe := below_join hbe hb23
      clear hb22 hb23 hu23 hB22 hl22 hg14 hs22
      go_wp2_with (first | (with_reducible refine wpList_getg (o := ⟨some 110, .load 25 (.tmp 5), _, _, _, _⟩) (by with_unfolding_all rfl) 25 (.tmp 5) (by with_unfolding_all rfl) g5 0 (by with_unfolding_all rfl) B5 q.cells (cs_all _) _ (by exact Tryd.underlying25) (by with_unfolding_all rfl) (by (rw [Pat.cells_length]; exact Tryd.szP)) ?_) | (with_reducible refine wpList_getg (o := ⟨some 111, .load 25 (.tmp 10), _, _, _, _⟩) (by with_unfolding_all rfl) 25 (.tmp 10) (by with_unfolding_all rfl) g10 0 (by with_unfolding_all rfl) B10 A.cells (cs_all _) _ (by exact Tryd.underlying25) (by with_unfolding_all rfl) (by (rw [Pat.cells_length]; exact Tryd.szP)) ?_) | (with_reducible refine wpList_slice2 (o := ⟨some 112, .buildSlice 31 2 #[(0, .tmp 110), (1, .tmp 111)], _, _, _, _⟩) (by with_unfolding_all rfl) (.tmp 110) (.tmp 111) (by with_unfolding_all rfl) q A (by with_unfolding_all rfl) (by with_unfolding_all rfl) ?_))
      intro ga w24 hga hb24 la PA
      have B4 := B4.next hb24 B4.lt
      have B5 := B5.next hb24 B5.lt
      have B6 := B6.next hb24 B6.lt
      have B7 := B7.next hb24 B7.lt
      have B10 := B10.next hb24 B10.lt
      have B12 := B12.next hb24 B12.lt
      have B14 := B14.next hb24 B14.lt
      have hbe := below_join hbe hb24
      clear hb24 hga
      go_wp2_with (first | (with_reducible refine wpList_getg (o := ⟨some 113, .load 25 (.tmp 5), _, _, _, _⟩) (by with_unfolding_all rfl) 25 (.tmp 5) (by with_unfolding_all rfl) g5 0 (by with_unfolding_all rfl) B5 q.cells (cs_all _) _ (by exact Tryd.underlying25) (by with_unfolding_all rfl) (by (rw [Pat.cells_length]; exact Tryd.szP)) ?_) | (with_reducible refine wpList_slice1 (o := ⟨some 114, .buildSlice 31 1 #[(0, .tmp 113)], _, _, _, _⟩) (by with_unfolding_all rfl) (.tmp 113) (by with_unfolding_all rfl) q (by with_unfolding_all rfl) ?_))
      intro gb w25 hgb hb25 lb PB
      have la := Nat.lt_of_lt_of_le la hb25.size
      have PA := PA.next hb25
      have B4 := B4.next hb25 B4.lt
      have B5 := B5.next hb25 B5.lt
      have B6 := B6.next hb25 B6.lt
      have B7 := B7.next hb25 B7.lt
      have B10 := B10.next hb25 B10.lt
      have B12 := B12.next hb25 B12.lt
      have B14 := B14.next hb25 B14.lt
      have hbe := below_join hbe hb25
      clear hb25 hgb
      go_wp2_with fail
      (with_reducible refine (C9.out ga gb _ _ _ la lb PA PB).mono ?_)
      rintro e w26 ⟨f2, bo, rfl, hbo, hb26⟩
      have B4 := B4.next hb26 B4.lt
      have B5 := B5.next hb26 B5.lt
      have B6 := B6.next hb26 B6.lt
      have B7 := B7.next hb26 B7.lt
      have B10 := B10.next hb26 B10.lt
      have B12 := B12.next hb26 B12.lt
      have B14 := B14.next hb26 B14.lt
      have hbe := below_join hbe hb26
      clear hb26
      clear PA PB la lb
      clear hbo
      go_wp2_with (with_reducible refine wpList_alloc (o := ⟨some 16, .alloc 23, _, _, _, _⟩) (by with_unfolding_all rfl) 23 (by with_unfolding_all rfl) (.agg (H no).toArray) (H no) (by exact Tryd.zeroH) (by with_unfolding_all rfl) ?_)
      intro g16 w27 hg16 hs27 hb27 hB27
      have hl27 : w26.heap.size ≤ g16 := Nat.le_of_eq hg16.out.symm
      have hb27 := hb27.mono hl27
      go_wp2_with (with_reducible refine wpList_put (o := ⟨none, .store 23 (.tmp 16) (.tmp 116), _, _, _, _⟩) (by with_unfolding_all rfl) 23 (.tmp 16) (.tmp 116) (by with_unfolding_all rfl) g16 0 (by with_unfolding_all rfl) (.agg (H f2).toArray) (by with_unfolding_all rfl) hB27 (H f2) (by with_unfolding_all rfl) (by with_unfolding_all (rw [H_length]; exact Tryd.szH)) (by with_unfolding_all (rw [H_length, H_length] <;> omega)) (by with_unfolding_all (exact H_one _)) ?_)
      intro w28 hu28 B16
      rw [splice_all _ _ (by rw [H_length, H_length])] at B16
      have hb28 := hb27.trans (hu28.below (B := w26.heap.size) hl27)
      have B4 := B4.next hb28 B4.lt
      have B5 := B5.next hb28 B5.lt
      have B6 := B6.next hb28 B6.lt
      have B7 := B7.next hb28 B7.lt
      have B10 := B10.next hb28 B10.lt
      have B12 := B12.next hb28 B12.lt
      have B14 := B14.next hb28 B14.lt
      have hbe := below_join hbe hb28
      clear hb27 hb28 hu28 hB27 hl27 hg16 hs27
      go_wp2_with (first | (with_reducible refine wpList_getg (o := ⟨some 119, .load 25 (.tmp 4), _, _, _, _⟩) (by with_unfolding_all rfl) 25 (.tmp 4) (by with_unfolding_all rfl) g4 0 (by with_unfolding_all rfl) B4 p.cells (cs_all _) _ (by exact Tryd.underlying25) (by with_unfolding_all rfl) (by (rw [Pat.cells_length]; exact Tryd.szP)) ?_) | (with_reducible refine wpList_getg (o := ⟨some 120, .load 25 (.tmp 5), _, _, _, _⟩) (by with_unfolding_all rfl) 25 (.tmp 5) (by with_unfolding_all rfl) g5 0 (by with_unfolding_all rfl) B5 q.cells (cs_all _) _ (by exact Tryd.underlying25) (by with_unfolding_all rfl) (by (rw [Pat.cells_length]; exact Tryd.szP)) ?_) | (with_reducible refine wpList_getg (o := ⟨some 131, .load 25 (.tmp 5), _, _, _, _⟩) (by with_unfolding_all rfl) 25 (.tmp 5) (by with_unfolding_all rfl) g5 0 (by with_unfolding_all rfl) B5 q.cells (cs_all _) _ (by exact Tryd.underlying25) (by with_unfolding_all rfl) (by (rw [Pat.cells_length]; exact Tryd.szP)) ?_) | (with_reducible refine wpList_getg (o := ⟨some 132, .load 25 (.tmp 6), _, _, _, _⟩) (by with_unfolding_all rfl) 25 (.tmp 6) (by with_unfolding_all rfl) g6 0 (by with_unfolding_all rfl) B6 r.cells (cs_all _) _ (by exact Tryd.underlying25) (by with_unfolding_all rfl) (by (rw [Pat.cells_length]; exact Tryd.szP)) ?_))
      (with_reducible refine (C10.out _).mono ?_)
      rintro e w29 ⟨rfl, hb29⟩
      have B4 := B4.next hb29 B4.lt
      have B5 := B5.next hb29 B5.lt
      have B6 := B6.next hb29 B6.lt
      have B7 := B7.next hb29 B7.lt
      have B10 := B10.next hb29 B10.lt
      have B12 := B12.next hb29 B12.lt
      have B14 := B14.next hb29 B14.lt
      have B16 := B16.next hb29 B16.lt
      have hbe := below_join hbe hb29
      clear hb29
      go_wp2_with (with_reducible refine wpList_alloc (o := ⟨some 18, .alloc 25, _, _, _, _⟩) (by with_unfolding_all rfl) 25 (by with_unfolding_all rfl) (.agg (H no ++ H no).toArray) (H no ++ H no) (by exact Tryd.zeroPt) (by with_unfolding_all rfl) ?_)
      intro g18 w30 hg18 hs30 hb30 hB30
      have hl30 : w29.heap.size ≤ g18 := Nat.le_of_eq hg18.out.symm
      have hb30 := hb30.mono hl30
      go_wp2_with (with_reducible refine wpList_put (o := ⟨none, .store 25 (.tmp 18) (.tmp 134), _, _, _, _⟩) (by with_unfolding_all rfl) 25 (.tmp 18) (.tmp 134) (by with_unfolding_all rfl) g18 0 (by with_unfolding_all rfl) (.agg B.cells.toArray) (by with_unfolding_all rfl) hB30 B.cells (by with_unfolding_all rfl) (by with_unfolding_all (rw [Pat.cells_length]; exact Tryd.szP)) (by with_unfolding_all (rw [Pat.cells_length, List.length_append, H_length] <;> omega)) (by with_unfolding_all (exact cells_one _)) ?_)
      intro w31 hu31 B18
      rw [splice_all _ _ (by rw [Pat.cells_length, List.length_append, H_length])] at B18
      have hb31 := hb30.trans (hu31.below (B := w29.heap.size) hl30)
      have B4 := B4.next hb31 B4.lt
      have B5 := B5.next hb31 B5.lt
      have B6 := B6.next hb31 B6.lt
      have B7 := B7.next hb31 B7.lt
      have B10 := B10.next hb31 B10.lt
      have B12 := B12.next hb31 B12.lt
      have B14 := B14.next hb31 B14.lt
      have B16 := B16.next hb31 B16.lt
      have hbe := below_join hbe hb31
      clear hb30 hb31 hu31 hB30 hl30 hg18 hs30
      go_wp2
      go_ret
      exact ⟨rfl, hbe⟩
  · skip
    clear E3
    go_wp2_with (first | (with_reducible refine wpList_getg (o := ⟨some 50, .load 25 (.tmp 10), _, _, _, _⟩) (by with_unfolding_all rfl) 25 (.tmp 10) (by with_unfolding_all rfl) g10 0 (by with_unfolding_all rfl) B10 A.cells (cs_all _) _ (by exact Tryd.underlying25) (by with_unfolding_all rfl) (by (rw [Pat.cells_length]; exact Tryd.szP)) ?_) | (with_reducible refine wpList_getg (o := ⟨some 51, .load 25 (.tmp 12), _, _, _, _⟩) (by with_unfolding_all rfl) 25 (.tmp 12) (by with_unfolding_all rfl) g12 0 (by with_unfolding_all rfl) B12 A.cells (cs_all _) _ (by exact Tryd.underlying25) (by with_unfolding_all rfl) (by (rw [Pat.cells_length]; exact Tryd.szP)) ?_) | (with_reducible refine wpList_getg (o := ⟨some 60, .load 25 (.tmp 4), _, _, _, _⟩) (by with_unfolding_all rfl) 25 (.tmp 4) (by with_unfolding_all rfl) g4 0 (by with_unfolding_all rfl) B4 p.cells (cs_all _) _ (by exact Tryd.underlying25) (by with_unfolding_all rfl) (by (rw [Pat.cells_length]; exact Tryd.szP)) ?_) | (with_reducible refine wpList_getg (o := ⟨some 61, .load 25 (.tmp 5), _, _, _, _⟩) (by with_unfolding_all rfl) 25 (.tmp 5) (by with_unfolding_all rfl) g5 0 (by with_unfolding_all rfl) B5 q.cells (cs_all _) _ (by exact Tryd.underlying25) (by with_unfolding_all rfl) (by (rw [Pat.cells_length]; exact Tryd.szP)) ?_))
    (with_reducible refine (C3.out _).mono ?_)
    rintro e w15 ⟨rfl, hb15⟩
    have B4 := B4.next hb15 B4.lt
    have B5 := B5.next hb15 B5.lt
    have B6 := B6.next hb15 B6.lt
    have B7 := B7.next hb15 B7.lt
    have B10 := B10.next hb15 B10.lt
    have B12 := B12.next hb15 B12.lt
    have hbe := below_join hbe hb15
    clear hb15
    go_wp2_with (first | (with_reducible refine wpList_getg (o := ⟨some 66, .load 25 (.tmp 4), _, _, _, _⟩) (by with_unfolding_all rfl) 25 (.tmp 4) (by with_unfolding_all rfl) g4 0 (by with_unfolding_all rfl) B4 p.cells (cs_all _) _ (by exact Tryd.underlying25) (by with_unfolding_all rfl) (by (rw [Pat.cells_length]; exact Tryd.szP)) ?_) | (with_reducible refine wpList_getg (o := ⟨some 67, .load 25 (.tmp 5), _, _, _, _⟩) (by with_unfolding_all rfl) 25 (.tmp 5) (by with_unfolding_all rfl) g5 0 (by with_unfolding_all rfl) B5 q.cells (cs_all _) _ (by exact Tryd.underlying25) (by with_unfolding_all rfl) (by (rw [Pat.cells_length]; exact Tryd.szP)) ?_))
    (with_reducible refine (C4.out _).mono ?_)
    rintro e w16 ⟨rfl, hb16⟩
    have B4 := B4.next hb16 B4.lt
    have B5 := B5.next hb16 B5.lt
    have B6 := B6.next hb16 B6.lt
    have B7 := B7.next hb16 B7.lt
    have B10 := B10.next hb16 B10.lt
    have B12 := B12.next hb16 B12.lt
    have hbe := below_join hbe hb16
    clear hb16
    have hfin : Hid (M = (M1 && M2)) := by have : (true && M) = (M1 && M2) := HMM.out; rw [Bool.true_and] at this; exact this
    clear HMM
    go_wp2_with (first | (with_reducible refine wpList_getg (o := ⟨some 71, .load 25 (.tmp 10), _, _, _, _⟩) (by with_unfolding_all rfl) 25 (.tmp 10) (by with_unfolding_all rfl) g10 0 (by with_unfolding_all rfl) B10 A.cells (cs_all _) _ (by exact Tryd.underlying25) (by with_unfolding_all rfl) (by (rw [Pat.cells_length]; exact Tryd.szP)) ?_) | (with_reducible refine wpList_getg (o := ⟨some 72, .load 25 (.tmp 5), _, _, _, _⟩) (by with_unfolding_all rfl) 25 (.tmp 5) (by with_unfolding_all rfl) g5 0 (by with_unfolding_all rfl) B5 q.cells (cs_all _) _ (by exact Tryd.underlying25) (by with_unfolding_all rfl) (by (rw [Pat.cells_length]; exact Tryd.szP)) ?_) | (with_reducible refine wpList_getg (o := ⟨some 81, .load 25 (.tmp 10), _, _, _, _⟩) (by with_unfolding_all rfl) 25 (.tmp 10) (by with_unfolding_all rfl) g10 0 (by with_unfolding_all rfl) B10 A.cells (cs_all _) _ (by exact Tryd.underlying25) (by with_unfolding_all rfl) (by (rw [Pat.cells_length]; exact Tryd.szP)) ?_) | (with_reducible refine wpList_buildw (o := ⟨some 82, .build 25 #[], _, _, _, _⟩) (by with_unfolding_all rfl) 25 #[] (by with_unfolding_all rfl) #[] (by with_unfolding_all rfl) (.agg Pat.zero.cells.toArray) hbz ?_))
    rcases M1 with _ | _
    · skip
      have hM : M = false := by have := hfin.out; simpa using this
      subst hM
      clear hfin
      have hdd := below_drew w16
      have K4_0 : Hid (∀ w', Below w16.heap.size w16 w' → w'.rangeAt g4 0 p.cells) := (fun w' h => blk_range (B4.next h B4.lt) : ∀ w', Below w16.heap.size w16 w' → w'.rangeAt g4 0 p.cells)
      have Z4_0 : (Tryd.prog.info? 25).map (·.size) = some p.cells.length := by (rw [Pat.cells_length]; exact Tryd.szP)
      have K7_0 : Hid (∀ w', Below w16.heap.size w16 w' → w'.rangeAt g7 0 (H h)) := (fun w' h => blk_range (B7.next h B7.lt) : ∀ w', Below w16.heap.size w16 w' → w'.rangeAt g7 0 (H h))
      have Z7_0 : (Tryd.prog.info? 23).map (·.size) = some (H h).length := by (rw [H_length]; exact Tryd.szH)
      have K10_0 : Hid (∀ w', Below w16.heap.size w16 w' → w'.rangeAt g10 0 A.cells) := (fun w' h => blk_range (B10.next h B10.lt) : ∀ w', Below w16.heap.size w16 w' → w'.rangeAt g10 0 A.cells)
      have Z10_0 : (Tryd.prog.info? 25).map (·.size) = some A.cells.length := by (rw [Pat.cells_length]; exact Tryd.szP)
      refine wp_region_held_drew (S := fun w' => Below w16.heap.size w16 w') (by kernel_rfl) hdd (fun hHeld => ?_)
      generalize w16.drew = wd at hdd hHeld ⊢
      refine wpAnyH_take (i := 0) (v := ?vac_0) rfl (by kernel_rfl) (by kernel_rfl) (by kernel_rfl) (fun _ _ _ h => h) (Or.inl ⟨by rfl, ?yac_0⟩) (by assumption) ?rac_0
      case yac_0 => intro w hSw; (try dsimp only at hSw); go_simp <;> (try with_reducible rfl)
      (try simp only [List.getElem_toArray, List.getElem_cons_zero, Act.put, List.setIfInBounds_toArray, List.set_cons_zero, List.set_cons_succ])
      refine wpAnyH_take (i := 1) (v := ?vac_1) rfl (by kernel_rfl) (by kernel_rfl) (by kernel_rfl) (fun _ _ _ h => h) (Or.inl ⟨by rfl, ?yac_1⟩) (by assumption) ?rac_1
      case yac_1 => intro w hSw; (try dsimp only at hSw); go_simp <;> (try with_reducible rfl)
      (try simp only [List.getElem_toArray, List.getElem_cons_succ, List.getElem_cons_zero, Act.put, List.setIfInBounds_toArray, List.set_cons_zero, List.set_cons_succ])
      refine' wpAnyH_take (i := 2) (v := _) rfl (by kernel_rfl) (by kernel_rfl) (by kernel_rfl) (fun _ _ _ h => h) (yieldsIf_load_mid (by rfl) _ _ (by rfl) _ _ (by rfl) _ _ ?Sac_2 ?uac_2 ?dac_2 ?iac_2) (by assumption) ?rac_2
      case Sac_2 => exact (by intro w h; exact K10_0.out _ h)
      case uac_2 => exact Tryd.underlying25
      case dac_2 => rfl
      case iac_2 => exact Z10_0
      (try simp only [List.getElem_toArray, List.getElem_cons_succ, List.getElem_cons_zero, Act.put, List.setIfInBounds_toArray, List.set_cons_zero, List.set_cons_succ])
      refine' wpAnyH_take (i := 3) (v := _) rfl (by kernel_rfl) (by kernel_rfl) (by kernel_rfl) (fun _ _ _ h => h) (yieldsIf_load_mid (by rfl) _ _ (by rfl) _ _ (by rfl) _ _ ?Sac_3 ?uac_3 ?dac_3 ?iac_3) (by assumption) ?rac_3
      case Sac_3 => exact (by intro w h; exact K7_0.out _ h)
      case uac_3 => exact Tryd.underlying23
      case dac_3 => rfl
      case iac_3 => exact Z7_0
      (try simp only [List.getElem_toArray, List.getElem_cons_succ, List.getElem_cons_zero, Act.put, List.setIfInBounds_toArray, List.set_cons_zero, List.set_cons_succ])
      refine' wpAnyH_take (i := 6) (v := _) rfl (by kernel_rfl) (by kernel_rfl) (by kernel_rfl) (fun _ _ _ h => h) (yieldsIf_load_mid (by rfl) _ _ (by rfl) _ _ (by rfl) _ _ ?Sac_6 ?uac_6 ?dac_6 ?iac_6) (by assumption) ?rac_6
      case Sac_6 => exact (by intro w h; exact K4_0.out _ h)
      case uac_6 => exact Tryd.underlying25
      case dac_6 => rfl
      case iac_6 => exact Z4_0
      (try simp only [List.getElem_toArray, List.getElem_cons_succ, List.getElem_cons_zero, Act.put, List.setIfInBounds_toArray, List.set_cons_zero, List.set_cons_succ])
      refine' wpAnyH_take (i := 7) (v := _) rfl (by kernel_rfl) (by kernel_rfl) (by kernel_rfl) (fun _ _ _ h => h) (yieldsIf_load_mid (by rfl) _ _ (by rfl) _ _ (by rfl) _ _ ?Sac_7 ?uac_7 ?dac_7 ?iac_7) (by assumption) ?rac_7
      case Sac_7 => exact (by intro w h; exact K7_0.out _ h)
      case uac_7 => exact Tryd.underlying23
      case dac_7 => rfl
      case iac_7 => exact Z7_0
      (try simp only [List.getElem_toArray, List.getElem_cons_succ, List.getElem_cons_zero, Act.put, List.setIfInBounds_toArray, List.set_cons_zero, List.set_cons_succ])
      refine wpAnyH_ready (rs := [4]) (by kernel_rfl) (by simp) ?_
      refine AllReadyH.cons rfl (fun K hK => ?_) AllReadyH.nil
      go_simp
      go_wp2_with fail
      (with_reducible refine (C5.out _).mono ?_)
      rintro e w17 ⟨rfl, hb17⟩
      have hk17 := below_join hdd hb17
      refine hK.out _ _ hk17 (fun hHeld => ?_)
      clear hK K hb17 hdd
      refine wpAnyH_take (i := 5) (v := ?vac_5) rfl (by kernel_rfl) (by kernel_rfl) (by kernel_rfl) (fun _ _ _ h => h) (Or.inl ⟨by rfl, ?yac_5⟩) (by assumption) ?rac_5
      case yac_5 => intro w hSw; (try dsimp only at hSw); go_simp <;> (try with_reducible rfl)
      (try simp only [List.getElem_toArray, List.getElem_cons_succ, List.getElem_cons_zero, Act.put, List.setIfInBounds_toArray, List.set_cons_zero, List.set_cons_succ])
      refine wpAnyH_ready (rs := [8]) (by kernel_rfl) (by simp) ?_
      refine AllReadyH.cons rfl (fun K hK => ?_) AllReadyH.nil
      go_simp
      go_wp2_with fail
      (with_reducible refine (C6.out _).mono ?_)
      rintro e w18 ⟨rfl, hb18⟩
      have hk18 := below_join hk17 hb18
      refine hK.out _ _ hk18 (fun hHeld => ?_)
      clear hK K hb18 hk17
      refine wpAnyH_take (i := 9) (v := ?vac_9) rfl (by kernel_rfl) (by kernel_rfl) (by kernel_rfl) (fun _ _ _ h => h) (Or.inl ⟨by rfl, ?yac_9⟩) (by assumption) ?rac_9
      case yac_9 => intro w hSw; (try dsimp only at hSw); go_simp <;> (try with_reducible rfl)
      (try simp only [List.getElem_toArray, List.getElem_cons_succ, List.getElem_cons_zero, Act.put, List.setIfInBounds_toArray, List.set_cons_zero, List.set_cons_succ])
      refine wpAnyH_take (i := 10) (v := undef) rfl (by kernel_rfl) (by kernel_rfl) (by kernel_rfl) (fun _ _ _ h => h) (Or.inr ⟨by rfl, rfl⟩) (by assumption) ?rac_10
      (try simp only [List.getElem_toArray, List.getElem_cons_succ, List.getElem_cons_zero, Act.put, List.setIfInBounds_toArray, List.set_cons_zero, List.set_cons_succ])
      refine wpAnyH_take (i := 11) (v := undef) rfl (by kernel_rfl) (by kernel_rfl) (by kernel_rfl) (fun _ _ _ h => h) (Or.inr ⟨by rfl, rfl⟩) (by assumption) ?rac_11
      (try simp only [List.getElem_toArray, List.getElem_cons_succ, List.getElem_cons_zero, Act.put, List.setIfInBounds_toArray, List.set_cons_zero, List.set_cons_succ])
      refine wpAnyH_take (i := 12) (v := undef) rfl (by kernel_rfl) (by kernel_rfl) (by kernel_rfl) (fun _ _ _ h => h) (Or.inr ⟨by rfl, rfl⟩) (by assumption) ?rac_12
      (try simp only [List.getElem_toArray, List.getElem_cons_succ, List.getElem_cons_zero, Act.put, List.setIfInBounds_toArray, List.set_cons_zero, List.set_cons_succ])
      refine wpAnyH_take (i := 13) (v := ?vac_13) rfl (by kernel_rfl) (by kernel_rfl) (by kernel_rfl) (fun _ _ _ h => h) (Or.inl ⟨by rfl, ?yac_13⟩) (by assumption) ?rac_13
      case yac_13 => intro w hSw; (try dsimp only at hSw); go_simp <;> (try with_reducible rfl)
      (try simp only [List.getElem_toArray, List.getElem_cons_succ, List.getElem_cons_zero, Act.put, List.setIfInBounds_toArray, List.set_cons_zero, List.set_cons_succ])
      refine wpAnyH_take (i := 14) (v := ?vac_14) rfl (by kernel_rfl) (by kernel_rfl) (by kernel_rfl) (fun _ _ _ h => h) (Or.inl ⟨by rfl, ?yac_14⟩) (by assumption) ?rac_14
      case yac_14 => intro w hSw; (try dsimp only at hSw); go_simp <;> (try with_reducible rfl)
      (try simp only [List.getElem_toArray, List.getElem_cons_succ, List.getElem_cons_zero, Act.put, List.setIfInBounds_toArray, List.set_cons_zero, List.set_cons_succ])
      refine wpAnyH_done (by kernel_rfl) ?_ _
      clear hHeld K4_0 Z4_0 K7_0 Z7_0 K10_0 Z10_0
      have B4 := B4.next hk18 B4.lt
      have B5 := B5.next hk18 B5.lt
      have B6 := B6.next hk18 B6.lt
      have B7 := B7.next hk18 B7.lt
      have B10 := B10.next hk18 B10.lt
      have B12 := B12.next hk18 B12.lt
      have hbe := below_join hbe hk18
      clear hk18
      go_wp2_with (first | (with_reducible refine wpList_getg (o := ⟨some 102, .load 25 (.tmp 4), _, _, _, _⟩) (by with_unfolding_all rfl) 25 (.tmp 4) (by with_unfolding_all rfl) g4 0 (by with_unfolding_all rfl) B4 p.cells (cs_all _) _ (by exact Tryd.underlying25) (by with_unfolding_all rfl) (by (rw [Pat.cells_length]; exact Tryd.szP)) ?_) | (with_reducible refine wpList_getg (o := ⟨some 104, .load 25 (.tmp 5), _, _, _, _⟩) (by with_unfolding_all rfl) 25 (.tmp 5) (by with_unfolding_all rfl) g5 0 (by with_unfolding_all rfl) B5 q.cells (cs_all _) _ (by exact Tryd.underlying25) (by with_unfolding_all rfl) (by (rw [Pat.cells_length]; exact Tryd.szP)) ?_) | (with_reducible refine wpList_slice1 (o := ⟨some 103, .buildSlice 31 1 #[(0, .tmp 102)], _, _, _, _⟩) (by with_unfolding_all rfl) (.tmp 102) (by with_unfolding_all rfl) p (by with_unfolding_all rfl) ?_))
      intro ga w19 hga hb19 la PA
      have B4 := B4.next hb19 B4.lt
      have B5 := B5.next hb19 B5.lt
      have B6 := B6.next hb19 B6.lt
      have B7 := B7.next hb19 B7.lt
      have B10 := B10.next hb19 B10.lt
      have B12 := B12.next hb19 B12.lt
      have hbe := below_join hbe hb19
      clear hb19 hga
      go_wp2_with (first | (with_reducible refine wpList_getg (o := ⟨some 104, .load 25 (.tmp 5), _, _, _, _⟩) (by with_unfolding_all rfl) 25 (.tmp 5) (by with_unfolding_all rfl) g5 0 (by with_unfolding_all rfl) B5 q.cells (cs_all _) _ (by exact Tryd.underlying25) (by with_unfolding_all rfl) (by (rw [Pat.cells_length]; exact Tryd.szP)) ?_) | (with_reducible refine wpList_slice1 (o := ⟨some 105, .buildSlice 31 1 #[(0, .tmp 104)], _, _, _, _⟩) (by with_unfolding_all rfl) (.tmp 104) (by with_unfolding_all rfl) q (by with_unfolding_all rfl) ?_))
      intro gb w20 hgb hb20 lb PB
      have la := Nat.lt_of_lt_of_le la hb20.size
      have PA := PA.next hb20
      have B4 := B4.next hb20 B4.lt
      have B5 := B5.next hb20 B5.lt
      have B6 := B6.next hb20 B6.lt
      have B7 := B7.next hb20 B7.lt
      have B10 := B10.next hb20 B10.lt
      have B12 := B12.next hb20 B12.lt
      have hbe := below_join hbe hb20
      clear hb20 hgb
      go_wp2_with fail
      (with_reducible refine (C8.out ga gb _ _ _ la lb PA PB).mono ?_)
      rintro e w21 ⟨f1, rfl, hb21⟩
      have B4 := B4.next hb21 B4.lt
      have B5 := B5.next hb21 B5.lt
      have B6 := B6.next hb21 B6.lt
      have B7 := B7.next hb21 B7.lt
      have B10 := B10.next hb21 B10.lt
      have B12 := B12.next hb21 B12.lt
      have hbe := below_join hbe hb21
      clear hb21
      clear PA PB la lb
      go_wp2_with (with_reducible refine wpList_alloc (o := ⟨some 14, .alloc 23, _, _, _, _⟩) (by with_unfolding_all rfl) 23 (by with_unfolding_all rfl) (.agg (H no).toArray) (H no) (by exact Tryd.zeroH) (by with_unfolding_all rfl) ?_)
      intro g14 w22 hg14 hs22 hb22 hB22
      have hl22 : w21.heap.size ≤ g14 := Nat.le_of_eq hg14.out.symm
      have hb22 := hb22.mono hl22
      go_wp2_with (with_reducible refine wpList_put (o := ⟨none, .store 23 (.tmp 14) (.tmp 107), _, _, _, _⟩) (by with_unfolding_all rfl) 23 (.tmp 14) (.tmp 107) (by with_unfolding_all rfl) g14 0 (by with_unfolding_all rfl) (.agg (H f1).toArray) (by with_unfolding_all rfl) hB22 (H f1) (by with_unfolding_all rfl) (by with_unfolding_all (rw [H_length]; exact Tryd.szH)) (by with_unfolding_all (rw [H_length, H_length] <;> omega)) (by with_unfolding_all (exact H_one _)) ?_)
      intro w23 hu23 B14
      rw [splice_all _ _ (by rw [H_length, H_length])] at B14
      have hb23 := hb22.trans (hu23.below (B := w21.heap.size) hl22)
      have B4 := B4.next hb23 B4.lt
      have B5 := B5.next hb23 B5.lt
      have B6 := B6.next hb23 B6.lt
      have B7 := B7.next hb23 B7.lt
      have B10 := B10.next hb23 B10.lt
      have B12 := B12.next hb23 B12.lt
      have hbe := below_join hbe hb23
      clear hb22 hb23 hu23 hB22 hl22 hg14 hs22
      go_wp2_with (first | (with_reducible refine wpList_getg (o := ⟨some 110, .load 25 (.tmp 5), _, _, _, _⟩) (by with_unfolding_all rfl) 25 (.tmp 5) (by with_unfolding_all rfl) g5 0 (by with_unfolding_all rfl) B5 q.cells (cs_all _) _ (by exact Tryd.underlying25) (by with_unfolding_all rfl) (by (rw [Pat.cells_length]; exact Tryd.szP)) ?_) | (with_reducible refine wpList_getg (o := ⟨some 111, .load 25 (.tmp 10), _, _, _, _⟩) (by with_unfolding_all rfl) 25 (.tmp 10) (by with_unfolding_all rfl) g10 0 (by with_unfolding_all rfl) B10 A.cells (cs_all _) _ (by exact Tryd.underlying25) (by with_unfolding_all rfl) (by (rw [Pat.cells_length]; exact Tryd.szP)) ?_) | (with_reducible refine wpList_slice2 (o := ⟨some 112, .buildSlice 31 2 #[(0, .tmp 110), (1, .tmp 111)], _, _, _, _⟩) (by with_unfolding_all rfl) (.tmp 110) (.tmp 111) (by with_unfolding_all rfl) q A (by with_unfolding_all rfl) (by with_unfolding_all rfl) ?_))
      intro ga w24 hga hb24 la PA
      have B4 := B4.next hb24 B4.lt
      have B5 := B5.next hb24 B5.lt
      have B6 := B6.next hb24 B6.lt
      have B7 := B7.next hb24 B7.lt
      have B10 := B10.next hb24 B10.lt
      have B12 := B12.next hb24 B12.lt
      have B14 := B14.next hb24 B14.lt
      have hbe := below_join hbe hb24
      clear hb24 hga
      go_wp2_with (first | (with_reducible refine wpList_getg (o := ⟨some 113, .load 25 (.tmp 5), _, _, _, _⟩) (by with_unfolding_all rfl) 25 (.tmp 5) (by with_unfolding_all rfl) g5 0 (by with_unfolding_all rfl) B5 q.cells (cs_all _) _ (by exact Tryd.underlying25) (by with_unfolding_all rfl) (by (rw [Pat.cells_length]; exact Tryd.szP)) ?_) | (with_reducible refine wpList_slice1 (o := ⟨some 114, .buildSlice 31 1 #[(0, .tmp 113)], _, _, _, _⟩) (by with_unfolding_all rfl) (.tmp 113) (by with_unfolding_all rfl) q (by with_unfolding_all rfl) ?_))
      intro gb w25 hgb hb25 lb PB
      have la := Nat.lt_of_lt_of_le la hb25.size
      have PA := PA.next hb25
      have B4 := B4.next hb25 B4.lt
      have B5 := B5.next hb25 B5.lt
      have B6 := B6.next hb25 B6.lt
      have B7 := B7.next hb25 B7.lt
      have B10 := B10.next hb25 B10.lt
      have B12 := B12.next hb25 B12.lt
      have B14 := B14.next hb25 B14.lt
      have hbe := below_join hbe hb25
      clear hb25 hgb
      go_wp2_with fail
      (with_reducible refine (C9.out ga gb _ _ _ la lb PA PB).mono ?_)
      rintro e w26 ⟨f2, bo, rfl, hbo, hb26⟩
      have B4 := B4.next hb26 B4.lt
      have B5 := B5.next hb26 B5.lt
      have B6 := B6.next hb26 B6.lt
      have B7 := B7.next hb26 B7.lt
      have B10 := B10.next hb26 B10.lt
      have B12 := B12.next hb26 B12.lt
      have B14 := B14.next hb26 B14.lt
      have hbe := below_join hbe hb26
      clear hb26
      clear PA PB la lb
      have hb1 : bo = true := hbo (HOWN.out (by trivial))
      subst hb1
      clear hbo
      go_wp2_with (with_reducible refine wpList_alloc (o := ⟨some 16, .alloc 23, _, _, _, _⟩) (by with_unfolding_all rfl) 23 (by with_unfolding_all rfl) (.agg (H no).toArray) (H no) (by exact Tryd.zeroH) (by with_unfolding_all rfl) ?_)
      intro g16 w27 hg16 hs27 hb27 hB27
      have hl27 : w26.heap.size ≤ g16 := Nat.le_of_eq hg16.out.symm
      have hb27 := hb27.mono hl27
      go_wp2_with (with_reducible refine wpList_put (o := ⟨none, .store 23 (.tmp 16) (.tmp 116), _, _, _, _⟩) (by with_unfolding_all rfl) 23 (.tmp 16) (.tmp 116) (by with_unfolding_all rfl) g16 0 (by with_unfolding_all rfl) (.agg (H f2).toArray) (by with_unfolding_all rfl) hB27 (H f2) (by with_unfolding_all rfl) (by with_unfolding_all (rw [H_length]; exact Tryd.szH)) (by with_unfolding_all (rw [H_length, H_length] <;> omega)) (by with_unfolding_all (exact H_one _)) ?_)
      intro w28 hu28 B16
      rw [splice_all _ _ (by rw [H_length, H_length])] at B16
      have hb28 := hb27.trans (hu28.below (B := w26.heap.size) hl27)
      have B4 := B4.next hb28 B4.lt
      have B5 := B5.next hb28 B5.lt
      have B6 := B6.next hb28 B6.lt
      have B7 := B7.next hb28 B7.lt
      have B10 := B10.next hb28 B10.lt
      have B12 := B12.next hb28 B12.lt
      have B14 := B14.next hb28 B14.lt
      have hbe := below_join hbe hb28
      clear hb27 hb28 hu28 hB27 hl27 hg16 hs27
      go_wp2_with (first | (with_reducible refine wpList_getg (o := ⟨some 119, .load 25 (.tmp 4), _, _, _, _⟩) (by with_unfolding_all rfl) 25 (.tmp 4) (by with_unfolding_all rfl) g4 0 (by with_unfolding_all rfl) B4 p.cells (cs_all _) _ (by exact Tryd.underlying25) (by with_unfolding_all rfl) (by (rw [Pat.cells_length]; exact Tryd.szP)) ?_) | (with_reducible refine wpList_getg (o := ⟨some 120, .load 25 (.tmp 5), _, _, _, _⟩) (by with_unfolding_all rfl) 25 (.tmp 5) (by with_unfolding_all rfl) g5 0 (by with_unfolding_all rfl) B5 q.cells (cs_all _) _ (by exact Tryd.underlying25) (by with_unfolding_all rfl) (by (rw [Pat.cells_length]; exact Tryd.szP)) ?_) | (with_reducible refine wpList_getg (o := ⟨some 131, .load 25 (.tmp 5), _, _, _, _⟩) (by with_unfolding_all rfl) 25 (.tmp 5) (by with_unfolding_all rfl) g5 0 (by with_unfolding_all rfl) B5 q.cells (cs_all _) _ (by exact Tryd.underlying25) (by with_unfolding_all rfl) (by (rw [Pat.cells_length]; exact Tryd.szP)) ?_) | (with_reducible refine wpList_getg (o := ⟨some 132, .load 25 (.tmp 6), _, _, _, _⟩) (by with_unfolding_all rfl) 25 (.tmp 6) (by with_unfolding_all rfl) g6 0 (by with_unfolding_all rfl) B6 r.cells (cs_all _) _ (by exact Tryd.underlying25) (by with_unfolding_all rfl) (by (rw [Pat.cells_length]; exact Tryd.szP)) ?_))
      (with_reducible refine (C10.out _).mono ?_)
      rintro e w29 ⟨rfl, hb29⟩
      have B4 := B4.next hb29 B4.lt
      have B5 := B5.next hb29 B5.lt
      have B6 := B6.next hb29 B6.lt
      have B7 := B7.next hb29 B7.lt
      have B10 := B10.next hb29 B10.lt
      have B12 := B12.next hb29 B12.lt
      have B14 := B14.next hb29 B14.lt
      have B16 := B16.next hb29 B16.lt
      have hbe := below_join hbe hb29
      clear hb29
      go_wp2_with (with_reducible refine wpList_alloc (o := ⟨some 18, .alloc 25, _, _, _, _⟩) (by with_unfolding_all rfl) 25 (by with_unfolding_all rfl) (.agg (H no ++ H no).toArray) (H no ++ H no) (by exact Tryd.zeroPt) (by with_unfolding_all rfl) ?_)
      intro g18 w30 hg18 hs30 hb30 hB30
      have hl30 : w29.heap.size ≤ g18 := Nat.le_of_eq hg18.out.symm
      have hb30 := hb30.mono hl30
      go_wp2_with (with_reducible refine wpList_put (o := ⟨none, .store 25 (.tmp 18) (.tmp 134), _, _, _, _⟩) (by with_unfolding_all rfl) 25 (.tmp 18) (.tmp 134) (by with_unfolding_all rfl) g18 0 (by with_unfolding_all rfl) (.agg B.cells.toArray) (by with_unfolding_all rfl) hB30 B.cells (by with_unfolding_all rfl) (by with_unfolding_all (rw [Pat.cells_length]; exact Tryd.szP)) (by with_unfolding_all (rw [Pat.cells_length, List.length_append, H_length] <;> omega)) (by with_unfolding_all (exact cells_one _)) ?_)
      intro w31 hu31 B18
      rw [splice_all _ _ (by rw [Pat.cells_length, List.length_append, H_length])] at B18
      have hb31 := hb30.trans (hu31.below (B := w29.heap.size) hl30)
      have B4 := B4.next hb31 B4.lt
      have B5 := B5.next hb31 B5.lt
      have B6 := B6.next hb31 B6.lt
      have B7 := B7.next hb31 B7.lt
      have B10 := B10.next hb31 B10.lt
      have B12 := B12.next hb31 B12.lt
      have B14 := B14.next hb31 B14.lt
      have B16 := B16.next hb31 B16.lt
      have hbe := below_join hbe hb31
      clear hb30 hb31 hu31 hB30 hl30 hg18 hs30
      rcases O2 with _ | _
      · go_wp2
        go_ret
        exact ⟨rfl, hbe⟩
      · skip
        have D12 := Lib.hid (C12.out (by trivial) (by trivial))
        clear C12
        go_wp2_with (first | (with_reducible refine wpList_getg (o := ⟨some 144, .load 25 (.tmp 10), _, _, _, _⟩) (by with_unfolding_all rfl) 25 (.tmp 10) (by with_unfolding_all rfl) g10 0 (by with_unfolding_all rfl) B10 A.cells (cs_all _) _ (by exact Tryd.underlying25) (by with_unfolding_all rfl) (by (rw [Pat.cells_length]; exact Tryd.szP)) ?_) | (with_reducible refine wpList_getg (o := ⟨some 145, .load 25 (.tmp 6), _, _, _, _⟩) (by with_unfolding_all rfl) 25 (.tmp 6) (by with_unfolding_all rfl) g6 0 (by with_unfolding_all rfl) B6 r.cells (cs_all _) _ (by exact Tryd.underlying25) (by with_unfolding_all rfl) (by (rw [Pat.cells_length]; exact Tryd.szP)) ?_))
        (with_reducible refine (C11.out _).mono ?_)
        rintro e w32 ⟨rfl, hb32⟩
        have B4 := B4.next hb32 B4.lt
        have B5 := B5.next hb32 B5.lt
        have B6 := B6.next hb32 B6.lt
        have B7 := B7.next hb32 B7.lt
        have B10 := B10.next hb32 B10.lt
        have B12 := B12.next hb32 B12.lt
        have B14 := B14.next hb32 B14.lt
        have B16 := B16.next hb32 B16.lt
        have B18 := B18.next hb32 B18.lt
        have hbe := below_join hbe hb32
        clear hb32
        go_wp2_with (with_reducible refine wpList_alloc (o := ⟨some 20, .alloc 25, _, _, _, _⟩) (by with_unfolding_all rfl) 25 (by with_unfolding_all rfl) (.agg (H no ++ H no).toArray) (H no ++ H no) (by exact Tryd.zeroPt) (by with_unfolding_all rfl) ?_)
        intro g20 w33 hg20 hs33 hb33 hB33
        have hl33 : w32.heap.size ≤ g20 := Nat.le_of_eq hg20.out.symm
        have hb33 := hb33.mono hl33
        go_wp2_with (with_reducible refine wpList_put (o := ⟨none, .store 25 (.tmp 20) (.tmp 147), _, _, _, _⟩) (by with_unfolding_all rfl) 25 (.tmp 20) (.tmp 147) (by with_unfolding_all rfl) g20 0 (by with_unfolding_all rfl) (.agg X.cells.toArray) (by with_unfolding_all rfl) hB33 X.cells (by with_unfolding_all rfl) (by with_unfolding_all (rw [Pat.cells_length]; exact Tryd.szP)) (by with_unfolding_all (rw [Pat.cells_length, List.length_append, H_length] <;> omega)) (by with_unfolding_all (exact cells_one _)) ?_)
        intro w34 hu34 B20
        rw [splice_all _ _ (by rw [Pat.cells_length, List.length_append, H_length])] at B20
        have hb34 := hb33.trans (hu34.below (B := w32.heap.size) hl33)
        have B4 := B4.next hb34 B4.lt
        have B5 := B5.next hb34 B5.lt
        have B6 := B6.next hb34 B6.lt
        have B7 := B7.next hb34 B7.lt
        have B10 := B10.next hb34 B10.lt
        have B12 := B12.next hb34 B12.lt
        have B14 := B14.next hb34 B14.lt
        have B16 := B16.next hb34 B16.lt
        have B18 := B18.next hb34 B18.lt
        have hbe := below_join hbe hb34
        clear hb33 hb34 hu34 hB33 hl33 hg20 hs33
        go_wp2_with (first | (with_reducible refine wpList_getg (o := ⟨some 150, .load 25 (.tmp 4), _, _, _, _⟩) (by with_unfolding_all rfl) 25 (.tmp 4) (by with_unfolding_all rfl) g4 0 (by with_unfolding_all rfl) B4 p.cells (cs_all _) _ (by exact Tryd.underlying25) (by with_unfolding_all rfl) (by (rw [Pat.cells_length]; exact Tryd.szP)) ?_) | (with_reducible refine wpList_getg (o := ⟨some 151, .load 25 (.tmp 18), _, _, _, _⟩) (by with_unfolding_all rfl) 25 (.tmp 18) (by with_unfolding_all rfl) g18 0 (by with_unfolding_all rfl) B18 B.cells (cs_all _) _ (by exact Tryd.underlying25) (by with_unfolding_all rfl) (by (rw [Pat.cells_length]; exact Tryd.szP)) ?_))
        (with_reducible refine (D12.out _).mono ?_)
        rintro e w35 ⟨rfl, hb35⟩
        have B4 := B4.next hb35 B4.lt
        have B5 := B5.next hb35 B5.lt
        have B6 := B6.next hb35 B6.lt
        have B7 := B7.next hb35 B7.lt
        have B10 := B10.next hb35 B10.lt
        have B12 := B12.next hb35 B12.lt
        have B14 := B14.next hb35 B14.lt
        have B16 := B16.next hb35 B16.lt
        have B18 := B18.next hb35 B18.lt
        have B20 := B20.next hb35 B20.lt
        have hbe := below_join hbe hb35
        clear hb35
        go_wp2_with (with_reducible refine wpList_alloc (o := ⟨some 22, .alloc 25, _, _, _, _⟩) (by with_unfolding_all rfl) 25 (by with_unfolding_all rfl) (.agg (H no ++ H no).toArray) (H no ++ H no) (by exact Tryd.zeroPt) (by with_unfolding_all rfl) ?_)
        intro g22 w36 hg22 hs36 hb36 hB36
        have hl36 : w35.heap.size ≤ g22 := Nat.le_of_eq hg22.out.symm
        have hb36 := hb36.mono hl36
        go_wp2_with (with_reducible refine wpList_put (o := ⟨none, .store 25 (.tmp 22) (.tmp 153), _, _, _, _⟩) (by with_unfolding_all rfl) 25 (.tmp 22) (.tmp 153) (by with_unfolding_all rfl) g22 0 (by with_unfolding_all rfl) (.agg X.cells.toArray) (by with_unfolding_all rfl) hB36 X.cells (by with_unfolding_all rfl) (by with_unfolding_all (rw [Pat.cells_length]; exact Tryd.szP)) (by with_unfolding_all (rw [Pat.cells_length, List.length_append, H_length] <;> omega)) (by with_unfolding_all (exact cells_one _)) ?_)
        intro w37 hu37 B22
        rw [splice_all _ _ (by rw [Pat.cells_length, List.length_append, H_length])] at B22
        have hb37 := hb36.trans (hu37.below (B := w35.heap.size) hl36)
        have B4 := B4.next hb37 B4.lt
        have B5 := B5.next hb37 B5.lt
        have B6 := B6.next hb37 B6.lt
        have B7 := B7.next hb37 B7.lt
        have B10 := B10.next hb37 B10.lt
        have B12 := B12.next hb37 B12.lt
        have B14 := B14.next hb37 B14.lt
        have B16 := B16.next hb37 B16.lt
        have B18 := B18.next hb37 B18.lt
        have B20 := B20.next hb37 B20.lt
        have hbe := below_join hbe hb37
        clear hb36 hb37 hu37 hB36 hl36 hg22 hs36
        go_wp2_with (first | (with_reducible refine wpList_getg (o := ⟨some 157, .load 25 (.tmp 20), _, _, _, _⟩) (by with_unfolding_all rfl) 25 (.tmp 20) (by with_unfolding_all rfl) g20 0 (by with_unfolding_all rfl) B20 X.cells (cs_all _) _ (by exact Tryd.underlying25) (by with_unfolding_all rfl) (by (rw [Pat.cells_length]; exact Tryd.szP)) ?_) | (with_reducible refine wpList_getg (o := ⟨some 158, .load 25 (.tmp 22), _, _, _, _⟩) (by with_unfolding_all rfl) 25 (.tmp 22) (by with_unfolding_all rfl) g22 0 (by with_unfolding_all rfl) B22 X.cells (cs_all _) _ (by exact Tryd.underlying25) (by with_unfolding_all rfl) (by (rw [Pat.cells_length]; exact Tryd.szP)) ?_))
        go_ret
        exact ⟨rfl, hbe⟩
    · skip
      have hM : M = M2 := by have := hfin.out; simpa using this
      subst hM
      clear hfin
      have hdd := below_drew w16
      have K4_0 : Hid (∀ w', Below w16.heap.size w16 w' → w'.rangeAt g4 0 p.cells) := (fun w' h => blk_range (B4.next h B4.lt) : ∀ w', Below w16.heap.size w16 w' → w'.rangeAt g4 0 p.cells)
      have Z4_0 : (Tryd.prog.info? 25).map (·.size) = some p.cells.length := by (rw [Pat.cells_length]; exact Tryd.szP)
      have K5_0 : Hid (∀ w', Below w16.heap.size w16 w' → w'.rangeAt g5 0 q.cells) := (fun w' h => blk_range (B5.next h B5.lt) : ∀ w', Below w16.heap.size w16 w' → w'.rangeAt g5 0 q.cells)
      have Z5_0 : (Tryd.prog.info? 25).map (·.size) = some q.cells.length := by (rw [Pat.cells_length]; exact Tryd.szP)
      have K7_0 : Hid (∀ w', Below w16.heap.size w16 w' → w'.rangeAt g7 0 (H h)) := (fun w' h => blk_range (B7.next h B7.lt) : ∀ w', Below w16.heap.size w16 w' → w'.rangeAt g7 0 (H h))
      have Z7_0 : (Tryd.prog.info? 23).map (·.size) = some (H h).length := by (rw [H_length]; exact Tryd.szH)
      have K10_0 : Hid (∀ w', Below w16.heap.size w16 w' → w'.rangeAt g10 0 A.cells) := (fun w' h => blk_range (B10.next h B10.lt) : ∀ w', Below w16.heap.size w16 w' → w'.rangeAt g10 0 A.cells)
      have Z10_0 : (Tryd.prog.info? 25).map (·.size) = some A.cells.length := by (rw [Pat.cells_length]; exact Tryd.szP)
      refine wp_region_held_drew (S := fun w' => Below w16.heap.size w16 w') (by kernel_rfl) hdd (fun hHeld => ?_)
      generalize w16.drew = wd at hdd hHeld ⊢
      refine wpAnyH_take (i := 0) (v := ?vad_0) rfl (by kernel_rfl) (by kernel_rfl) (by kernel_rfl) (fun _ _ _ h => h) (Or.inl ⟨by rfl, ?yad_0⟩) (by assumption) ?rad_0
      case yad_0 => intro w hSw; (try dsimp only at hSw); go_simp <;> (try with_reducible rfl)
      (try simp only [List.getElem_toArray, List.getElem_cons_zero, Act.put, List.setIfInBounds_toArray, List.set_cons_zero, List.set_cons_succ])
      refine wpAnyH_take (i := 1) (v := ?vad_1) rfl (by kernel_rfl) (by kernel_rfl) (by kernel_rfl) (fun _ _ _ h => h) (Or.inl ⟨by rfl, ?yad_1⟩) (by assumption) ?rad_1
      case yad_1 => intro w hSw; (try dsimp only at hSw); go_simp <;> (try with_reducible rfl)
      (try simp only [List.getElem_toArray, List.getElem_cons_succ, List.getElem_cons_zero, Act.put, List.setIfInBounds_toArray, List.set_cons_zero, List.set_cons_succ])
      refine' wpAnyH_take (i := 2) (v := _) rfl (by kernel_rfl) (by kernel_rfl) (by kernel_rfl) (fun _ _ _ h => h) (yieldsIf_load_mid (by rfl) _ _ (by rfl) _ _ (by rfl) _ _ ?Sad_2 ?uad_2 ?dad_2 ?iad_2) (by assumption) ?rad_2
      case Sad_2 => exact (by intro w h; exact K10_0.out _ h)
      case uad_2 => exact Tryd.underlying25
      case dad_2 => rfl
      case iad_2 => exact Z10_0
      (try simp only [List.getElem_toArray, List.getElem_cons_succ, List.getElem_cons_zero, Act.put, List.setIfInBounds_toArray, List.set_cons_zero, List.set_cons_succ])
      refine' wpAnyH_take (i := 3) (v := _) rfl (by kernel_rfl) (by kernel_rfl) (by kernel_rfl) (fun _ _ _ h => h) (yieldsIf_load_mid (by rfl) _ _ (by rfl) _ _ (by rfl) _ _ ?Sad_3 ?uad_3 ?dad_3 ?iad_3) (by assumption) ?rad_3
      case Sad_3 => exact (by intro w h; exact K7_0.out _ h)
      case uad_3 => exact Tryd.underlying23
      case dad_3 => rfl
      case iad_3 => exact Z7_0
      (try simp only [List.getElem_toArray, List.getElem_cons_succ, List.getElem_cons_zero, Act.put, List.setIfInBounds_toArray, List.set_cons_zero, List.set_cons_succ])
      refine' wpAnyH_take (i := 6) (v := _) rfl (by kernel_rfl) (by kernel_rfl) (by kernel_rfl) (fun _ _ _ h => h) (yieldsIf_load_mid (by rfl) _ _ (by rfl) _ _ (by rfl) _ _ ?Sad_6 ?uad_6 ?dad_6 ?iad_6) (by assumption) ?rad_6
      case Sad_6 => exact (by intro w h; exact K4_0.out _ h)
      case uad_6 => exact Tryd.underlying25
      case dad_6 => rfl
      case iad_6 => exact Z4_0
      (try simp only [List.getElem_toArray, List.getElem_cons_succ, List.getElem_cons_zero, Act.put, List.setIfInBounds_toArray, List.set_cons_zero, List.set_cons_succ])
      refine' wpAnyH_take (i := 7) (v := _) rfl (by kernel_rfl) (by kernel_rfl) (by kernel_rfl) (fun _ _ _ h => h) (yieldsIf_load_mid (by rfl) _ _ (by rfl) _ _ (by rfl) _ _ ?Sad_7 ?uad_7 ?dad_7 ?iad_7) (by assumption) ?rad_7
      case Sad_7 => exact (by intro w h; exact K7_0.out _ h)
      case uad_7 => exact Tryd.underlying23
      case dad_7 => rfl
      case iad_7 => exact Z7_0
      (try simp only [List.getElem_toArray, List.getElem_cons_succ, List.getElem_cons_zero, Act.put, List.setIfInBounds_toArray, List.set_cons_zero, List.set_cons_succ])
      refine wpAnyH_ready (rs := [4]) (by kernel_rfl) (by simp) ?_
      refine AllReadyH.cons rfl (fun K hK => ?_) AllReadyH.nil
      go_simp
      go_wp2_with fail
      (with_reducible refine (C5.out _).mono ?_)
      rintro e w17 ⟨rfl, hb17⟩
      have hk17 := below_join hdd hb17
      refine hK.out _ _ hk17 (fun hHeld => ?_)
      clear hK K hb17 hdd
      refine wpAnyH_take (i := 5) (v := ?vad_5) rfl (by kernel_rfl) (by kernel_rfl) (by kernel_rfl) (fun _ _ _ h => h) (Or.inl ⟨by rfl, ?yad_5⟩) (by assumption) ?rad_5
      case yad_5 => intro w hSw; (try dsimp only at hSw); go_simp <;> (try with_reducible rfl)
      (try simp only [List.getElem_toArray, List.getElem_cons_succ, List.getElem_cons_zero, Act.put, List.setIfInBounds_toArray, List.set_cons_zero, List.set_cons_succ])
      refine wpAnyH_ready (rs := [8]) (by kernel_rfl) (by simp) ?_
      refine AllReadyH.cons rfl (fun K hK => ?_) AllReadyH.nil
      go_simp
      go_wp2_with fail
      (with_reducible refine (C6.out _).mono ?_)
      rintro e w18 ⟨rfl, hb18⟩
      have hk18 := below_join hk17 hb18
      refine hK.out _ _ hk18 (fun hHeld => ?_)
      clear hK K hb18 hk17
      refine wpAnyH_take (i := 9) (v := ?vad_9) rfl (by kernel_rfl) (by kernel_rfl) (by kernel_rfl) (fun _ _ _ h => h) (Or.inl ⟨by rfl, ?yad_9⟩) (by assumption) ?rad_9
      case yad_9 => intro w hSw; (try dsimp only at hSw); go_simp <;> (try with_reducible rfl)
      (try simp only [List.getElem_toArray, List.getElem_cons_succ, List.getElem_cons_zero, Act.put, List.setIfInBounds_toArray, List.set_cons_zero, List.set_cons_succ])
      refine' wpAnyH_take (i := 10) (v := _) rfl (by kernel_rfl) (by kernel_rfl) (by kernel_rfl) (fun _ _ _ h => h) (yieldsIf_load_mid (by rfl) _ _ (by rfl) _ _ (by rfl) _ _ ?Sad_10 ?uad_10 ?dad_10 ?iad_10) (by assumption) ?rad_10
      case Sad_10 => exact (by intro w h; exact K5_0.out _ h)
      case uad_10 => exact Tryd.underlying25
      case dad_10 => rfl
      case iad_10 => exact Z5_0
      (try simp only [List.getElem_toArray, List.getElem_cons_succ, List.getElem_cons_zero, Act.put, List.setIfInBounds_toArray, List.set_cons_zero, List.set_cons_succ])
      refine' wpAnyH_take (i := 11) (v := _) rfl (by kernel_rfl) (by kernel_rfl) (by kernel_rfl) (fun _ _ _ h => h) (yieldsIf_load_mid (by rfl) _ _ (by rfl) _ _ (by rfl) _ _ ?Sad_11 ?uad_11 ?dad_11 ?iad_11) (by assumption) ?rad_11
      case Sad_11 => exact (by intro w h; exact K7_0.out _ h)
      case uad_11 => exact Tryd.underlying23
      case dad_11 => rfl
      case iad_11 => exact Z7_0
      (try simp only [List.getElem_toArray, List.getElem_cons_succ, List.getElem_cons_zero, Act.put, List.setIfInBounds_toArray, List.set_cons_zero, List.set_cons_succ])
      refine wpAnyH_ready (rs := [12]) (by kernel_rfl) (by simp) ?_
      refine AllReadyH.cons rfl (fun K hK => ?_) AllReadyH.nil
      go_simp
      go_wp2_with fail
      (with_reducible refine (C7.out _).mono ?_)
      rintro e w19 ⟨rfl, hb19⟩
      have hk19 := below_join hk18 hb19
      refine hK.out _ _ hk19 (fun hHeld => ?_)
      clear hK K hb19 hk18
      refine wpAnyH_take (i := 13) (v := ?vad_13) rfl (by kernel_rfl) (by kernel_rfl) (by kernel_rfl) (fun _ _ _ h => h) (Or.inl ⟨by rfl, ?yad_13⟩) (by assumption) ?rad_13
      case yad_13 => intro w hSw; (try dsimp only at hSw); go_simp <;> (try with_reducible rfl)
      (try simp only [List.getElem_toArray, List.getElem_cons_succ, List.getElem_cons_zero, Act.put, List.setIfInBounds_toArray, List.set_cons_zero, List.set_cons_succ])
      refine wpAnyH_take (i := 14) (v := ?vad_14) rfl (by kernel_rfl) (by kernel_rfl) (by kernel_rfl) (fun _ _ _ h => h) (Or.inl ⟨by rfl, ?yad_14⟩) (by assumption) ?rad_14
      case yad_14 => intro w hSw; (try dsimp only at hSw); go_simp <;> (try with_reducible rfl)
      (try simp only [List.getElem_toArray, List.getElem_cons_succ, List.getElem_cons_zero, Act.put, List.setIfInBounds_toArray, List.set_cons_zero, List.set_cons_succ])
      refine wpAnyH_done (by kernel_rfl) ?_ _
      clear hHeld K4_0 Z4_0 K5_0 Z5_0 K7_0 Z7_0 K10_0 Z10_0
      have B4 := B4.next hk19 B4.lt
      have B5 := B5.next hk19 B5.lt
      have B6 := B6.next hk19 B6.lt
      have B7 := B7.next hk19 B7.lt
      have B10 := B10.next hk19 B10.lt
      have B12 := B12.next hk19 B12.lt
      have hbe := below_join hbe hk19
      clear hk19
      go_wp2_with (first | (with_reducible refine wpList_getg (o := ⟨some 102, .load 25 (.tmp 4), _, _, _, _⟩) (by with_unfolding_all rfl) 25 (.tmp 4) (by with_unfolding_all rfl) g4 0 (by with_unfolding_all rfl) B4 p.cells (cs_all _) _ (by exact Tryd.underlying25) (by with_unfolding_all rfl) (by (rw [Pat.cells_length]; exact Tryd.szP)) ?_) | (with_reducible refine wpList_getg (o := ⟨some 104, .load 25 (.tmp 5), _, _, _, _⟩) (by with_unfolding_all rfl) 25 (.tmp 5) (by with_unfolding_all rfl) g5 0 (by with_unfolding_all rfl) B5 q.cells (cs_all _) _ (by exact Tryd.underlying25) (by with_unfolding_all rfl) (by (rw [Pat.cells_length]; exact Tryd.szP)) ?_) | (with_reducible refine wpList_slice1 (o := ⟨some 103, .buildSlice 31 1 #[(0, .tmp 102)], _, _, _, _⟩) (by with_unfolding_all rfl) (.tmp 102) (by with_unfolding_all rfl) p (by with_unfolding_all rfl) ?_))
      intro ga w20 hga hb20 la PA
      have B4 := B4.next hb20 B4.lt
      have B5 := B5.next hb20 B5.lt
      have B6 := B6.next hb20 B6.lt
      have B7 := B7.next hb20 B7.lt
      have B10 := B10.next hb20 B10.lt
      have B12 := B12.next hb20 B12.lt
      have hbe := below_join hbe hb20
      clear hb20 hga
      go_wp2_with (first | (with_reducible refine wpList_getg (o := ⟨some 104, .load 25 (.tmp 5), _, _, _, _⟩) (by with_unfolding_all rfl) 25 (.tmp 5) (by with_unfolding_all rfl) g5 0 (by with_unfolding_all rfl) B5 q.cells (cs_all _) _ (by exact Tryd.underlying25) (by with_unfolding_all rfl) (by (rw [Pat.cells_length]; exact Tryd.szP)) ?_) | (with_reducible refine wpList_slice1 (o := ⟨some 105, .buildSlice 31 1 #[(0, .tmp 104)], _, _, _, _⟩) (by with_unfolding_all rfl) (.tmp 104) (by with_unfolding_all rfl) q (by with_unfolding_all rfl) ?_))
      intro gb w21 hgb hb21 lb PB
      have la := Nat.lt_of_lt_of_le la hb21.size
      have PA := PA.next hb21
      have B4 := B4.next hb21 B4.lt
      have B5 := B5.next hb21 B5.lt
      have B6 := B6.next hb21 B6.lt
      have B7 := B7.next hb21 B7.lt
      have B10 := B10.next hb21 B10.lt
      have B12 := B12.next hb21 B12.lt
      have hbe := below_join hbe hb21
      clear hb21 hgb
      go_wp2_with fail
      (with_reducible refine (C8.out ga gb _ _ _ la lb PA PB).mono ?_)
      rintro e w22 ⟨f1, rfl, hb22⟩
      have B4 := B4.next hb22 B4.lt
      have B5 := B5.next hb22 B5.lt
      have B6 := B6.next hb22 B6.lt
      have B7 := B7.next hb22 B7.lt
      have B10 := B10.next hb22 B10.lt
      have B12 := B12.next hb22 B12.lt
      have hbe := below_join hbe hb22
      clear hb22
      clear PA PB la lb
      go_wp2_with (with_reducible refine wpList_alloc (o := ⟨some 14, .alloc 23, _, _, _, _⟩) (by with_unfolding_all rfl) 23 (by with_unfolding_all rfl) (.agg (H no).toArray) (H no) (by exact Tryd.zeroH) (by with_unfolding_all rfl) ?_)
      intro g14 w23 hg14 hs23 hb23 hB23
      have hl23 : w22.heap.size ≤ g14 := Nat.le_of_eq hg14.out.symm
      have hb23 := hb23.mono hl23
      go_wp2_with (with_reducible refine wpList_put (o := ⟨none, .store 23 (.tmp 14) (.tmp 107), _, _, _, _⟩) (by with_unfolding_all rfl) 23 (.tmp 14) (.tmp 107) (by with_unfolding_all rfl) g14 0 (by with_unfolding_all rfl) (.agg (H f1).toArray) (by with_unfolding_all rfl) hB23 (H f1) (by with_unfolding_all rfl) (by with_unfolding_all (rw [H_length]; exact Tryd.szH)) (by with_unfolding_all (rw [H_length, H_length] <;> omega)) (by with_unfolding_all (exact H_one _)) ?_)
      intro w24 hu24 B14
      rw [splice_all _ _ (by rw [H_length, H_length])] at B14
      have hb24 := hb23.trans (hu24.below (B := w22.heap.size) hl23)
      have B4 := B4.next hb24 B4.lt
      have B5 := B5.next hb24 B5.lt
      have B6 := B6.next hb24 B6.lt
      have B7 := B7.next hb24 B7.lt
      have B10 := B10.next hb24 B10.lt
      have B12 := B12.next hb24 B12.lt
      have hbe := below_join hbe hb24
      clear hb23 hb24 hu24 hB23 hl23 hg14 hs23
      go_wp2_with (first | (with_reducible refine wpList_getg (o := ⟨some 110, .load 25 (.tmp 5), _, _, _, _⟩) (by with_unfolding_all rfl) 25 (.tmp 5) (by with_unfolding_all rfl) g5 0 (by with_unfolding_all rfl) B5 q.cells (cs_all _) _ (by exact Tryd.underlying25) (by with_unfolding_all rfl) (by (rw [Pat.cells_length]; exact Tryd.szP)) ?_) | (with_reducible refine wpList_getg (o := ⟨some 111, .load 25 (.tmp 10), _, _, _, _⟩) (by with_unfolding_all rfl) 25 (.tmp 10) (by with_unfolding_all rfl) g10 0 (by with_unfolding_all rfl) B10 A.cells (cs_all _) _ (by exact Tryd.underlying25) (by with_unfolding_all rfl) (by (rw [Pat.cells_length]; exact Tryd.szP)) ?_) | (with_reducible refine wpList_slice2 (o := ⟨some 112, .buildSlice 31 2 #[(0, .tmp 110), (1, .tmp 111)], _, _, _, _⟩) (by with_unfolding_all rfl) (.tmp 110) (.tmp 111) (by with_unfolding_all rfl) q A (by with_unfolding_all rfl) (by with_unfolding_all rfl) ?_))
      intro ga w25 hga hb25 la PA
      have B4 := B4.next hb25 B4.lt
      have B5 := B5.next hb25 B5.lt
      have B6 := B6.next hb25 B6.lt
      have B7 := B7.next hb25 B7.lt
      have B10 := B10.next hb25 B10.lt
      have B12 := B12.next hb25 B12.lt
      have B14 := B14.next hb25 B14.lt
      have hbe := below_join hbe hb25
      clear hb25 hga
      go_wp2_with (first | (with_reducible refine wpList_getg (o := ⟨some 113, .load 25 (.tmp 5), _, _, _, _⟩) (by with_unfolding_all rfl) 25 (.tmp 5) (by with_unfolding_all rfl) g5 0 (by with_unfolding_all rfl) B5 q.cells (cs_all _) _ (by exact Tryd.underlying25) (by with_unfolding_all rfl) (by (rw [Pat.cells_length]; exact Tryd.szP)) ?_) | (with_reducible refine wpList_slice1 (o := ⟨some 114, .buildSlice 31 1 #[(0, .tmp 113)], _, _, _, _⟩) (by with_unfolding_all rfl) (.tmp 113) (by with_unfolding_all rfl) q (by with_unfolding_all rfl) ?_))
      intro gb w26 hgb hb26 lb PB
      have la := Nat.lt_of_lt_of_le la hb26.size
      have PA := PA.next hb26
      have B4 := B4.next hb26 B4.lt
      have B5 := B5.next hb26 B5.lt
      have B6 := B6.next hb26 B6.lt
      have B7 := B7.next hb26 B7.lt
      have B10 := B10.next hb26 B10.lt
      have B12 := B12.next hb26 B12.lt
      have B14 := B14.next hb26 B14.lt
      have hbe := below_join hbe hb26
      clear hb26 hgb
      go_wp2_with fail
      (with_reducible refine (C9.out ga gb _ _ _ la lb PA PB).mono ?_)
      rintro e w27 ⟨f2, bo, rfl, hbo, hb27⟩
      have B4 := B4.next hb27 B4.lt
      have B5 := B5.next hb27 B5.lt
      have B6 := B6.next hb27 B6.lt
      have B7 := B7.next hb27 B7.lt
      have B10 := B10.next hb27 B10.lt
      have B12 := B12.next hb27 B12.lt
      have B14 := B14.next hb27 B14.lt
      have hbe := below_join hbe hb27
      clear hb27
      clear PA PB la lb
      have hb1 : bo = true := hbo (HOWN.out (by trivial))
      subst hb1
      clear hbo
      go_wp2_with (with_reducible refine wpList_alloc (o := ⟨some 16, .alloc 23, _, _, _, _⟩) (by with_unfolding_all rfl) 23 (by with_unfolding_all rfl) (.agg (H no).toArray) (H no) (by exact Tryd.zeroH) (by with_unfolding_all rfl) ?_)
      intro g16 w28 hg16 hs28 hb28 hB28
      have hl28 : w27.heap.size ≤ g16 := Nat.le_of_eq hg16.out.symm
      have hb28 := hb28.mono hl28
      go_wp2_with (with_reducible refine wpList_put (o := ⟨none, .store 23 (.tmp 16) (.tmp 116), _, _, _, _⟩) (by with_unfolding_all rfl) 23 (.tmp 16) (.tmp 116) (by with_unfolding_all rfl) g16 0 (by with_unfolding_all rfl) (.agg (H f2).toArray) (by with_unfolding_all rfl) hB28 (H f2) (by with_unfolding_all rfl) (by with_unfolding_all (rw [H_length]; exact Tryd.szH)) (by with_unfolding_all (rw [H_length, H_length] <;> omega)) (by with_unfolding_all (exact H_one _)) ?_)
      intro w29 hu29 B16
      rw [splice_all _ _ (by rw [H_length, H_length])] at B16
      have hb29 := hb28.trans (hu29.below (B := w27.heap.size) hl28)
      have B4 := B4.next hb29 B4.lt
      have B5 := B5.next hb29 B5.lt
      have B6 := B6.next hb29 B6.lt
      have B7 := B7.next hb29 B7.lt
      have B10 := B10.next hb29 B10.lt
      have B12 := B12.next hb29 B12.lt
      have B14 := B14.next hb29 B14.lt
      have hbe := below_join hbe hb29
      clear hb28 hb29 hu29 hB28 hl28 hg16 hs28
      go_wp2_with (first | (with_reducible refine wpList_getg (o := ⟨some 119, .load 25 (.tmp 4), _, _, _, _⟩) (by with_unfolding_all rfl) 25 (.tmp 4) (by with_unfolding_all rfl) g4 0 (by with_unfolding_all rfl) B4 p.cells (cs_all _) _ (by exact Tryd.underlying25) (by with_unfolding_all rfl) (by (rw [Pat.cells_length]; exact Tryd.szP)) ?_) | (with_reducible refine wpList_getg (o := ⟨some 120, .load 25 (.tmp 5), _, _, _, _⟩) (by with_unfolding_all rfl) 25 (.tmp 5) (by with_unfolding_all rfl) g5 0 (by with_unfolding_all rfl) B5 q.cells (cs_all _) _ (by exact Tryd.underlying25) (by with_unfolding_all rfl) (by (rw [Pat.cells_length]; exact Tryd.szP)) ?_) | (with_reducible refine wpList_getg (o := ⟨some 131, .load 25 (.tmp 5), _, _, _, _⟩) (by with_unfolding_all rfl) 25 (.tmp 5) (by with_unfolding_all rfl) g5 0 (by with_unfolding_all rfl) B5 q.cells (cs_all _) _ (by exact Tryd.underlying25) (by with_unfolding_all rfl) (by (rw [Pat.cells_length]; exact Tryd.szP)) ?_) | (with_reducible refine wpList_getg (o := ⟨some 132, .load 25 (.tmp 6), _, _, _, _⟩) (by with_unfolding_all rfl) 25 (.tmp 6) (by with_unfolding_all rfl) g6 0 (by with_unfolding_all rfl) B6 r.cells (cs_all _) _ (by exact Tryd.underlying25) (by with_unfolding_all rfl) (by (rw [Pat.cells_length]; exact Tryd.szP)) ?_))
      (with_reducible refine (C10.out _).mono ?_)
      rintro e w30 ⟨rfl, hb30⟩
      have B4 := B4.next hb30 B4.lt
      have B5 := B5.next hb30 B5.lt
      have B6 := B6.next hb30 B6.lt
      have B7 := B7.next hb30 B7.lt
      have B10 := B10.next hb30 B10.lt
      have B12 := B12.next hb30 B12.lt
      have B14 := B14.next hb30 B14.lt
      have B16 := B16.next hb30 B16.lt
      have hbe := below_join hbe hb30
      clear hb30
      go_wp2_with (with_reducible refine wpList_alloc (o := ⟨some 18, .alloc 25, _, _, _, _⟩) (by with_unfolding_all rfl) 25 (by with_unfolding_all rfl) (.agg (H no ++ H no).toArray) (H no ++ H no) (by exact Tryd.zeroPt) (by with_unfolding_all rfl) ?_)
      intro g18 w31 hg18 hs31 hb31 hB31
      have hl31 : w30.heap.size ≤ g18 := Nat.le_of_eq hg18.out.symm
      have hb31 := hb31.mono hl31
      go_wp2_with (with_reducible refine wpList_put (o := ⟨none, .store 25 (.tmp 18) (.tmp 134), _, _, _, _⟩) (by with_unfolding_all rfl) 25 (.tmp 18) (.tmp 134) (by with_unfolding_all rfl) g18 0 (by with_unfolding_all rfl) (.agg B.cells.toArray) (by with_unfolding_all rfl) hB31 B.cells (by with_unfolding_all rfl) (by with_unfolding_all (rw [Pat.cells_length]; exact Tryd.szP)) (by with_unfolding_all (rw [Pat.cells_length, List.length_append, H_length] <;> omega)) (by with_unfolding_all (exact cells_one _)) ?_)
      intro w32 hu32 B18
      rw [splice_all _ _ (by rw [Pat.cells_length, List.length_append, H_length])] at B18
      have hb32 := hb31.trans (hu32.below (B := w30.heap.size) hl31)
      have B4 := B4.next hb32 B4.lt
      have B5 := B5.next hb32 B5.lt
      have B6 := B6.next hb32 B6.lt
      have B7 := B7.next hb32 B7.lt
      have B10 := B10.next hb32 B10.lt
      have B12 := B12.next hb32 B12.lt
      have B14 := B14.next hb32 B14.lt
      have B16 := B16.next hb32 B16.lt
      have hbe := below_join hbe hb32
      clear hb31 hb32 hu32 hB31 hl31 hg18 hs31
      rcases O2 with _ | _
      · go_wp2
        go_ret
        exact ⟨rfl, hbe⟩
      · skip
        have D12 := Lib.hid (C12.out (by trivial) (by trivial))
        clear C12
        go_wp2_with (first | (with_reducible refine wpList_getg (o := ⟨some 144, .load 25 (.tmp 10), _, _, _, _⟩) (by with_unfolding_all rfl) 25 (.tmp 10) (by with_unfolding_all rfl) g10 0 (by with_unfolding_all rfl) B10 A.cells (cs_all _) _ (by exact Tryd.underlying25) (by with_unfolding_all rfl) (by (rw [Pat.cells_length]; exact Tryd.szP)) ?_) | (with_reducible refine wpList_getg (o := ⟨some 145, .load 25 (.tmp 6), _, _, _, _⟩) (by with_unfolding_all rfl) 25 (.tmp 6) (by with_unfolding_all rfl) g6 0 (by with_unfolding_all rfl) B6 r.cells (cs_all _) _ (by exact Tryd.underlying25) (by with_unfolding_all rfl) (by (rw [Pat.cells_length]; exact Tryd.szP)) ?_))
        (with_reducible refine (C11.out _).mono ?_)
        rintro e w33 ⟨rfl, hb33⟩
        have B4 := B4.next hb33 B4.lt
        have B5 := B5.next hb33 B5.lt
        have B6 := B6.next hb33 B6.lt
        have B7 := B7.next hb33 B7.lt
        have B10 := B10.next hb33 B10.lt
        have B12 := B12.next hb33 B12.lt
        have B14 := B14.next hb33 B14.lt
        have B16 := B16.next hb33 B16.lt
        have B18 := B18.next hb33 B18.lt
        have hbe := below_join hbe hb33
        clear hb33
        go_wp2_with (with_reducible refine wpList_alloc (o := ⟨some 20, .alloc 25, _, _, _, _⟩) (by with_unfolding_all rfl) 25 (by with_unfolding_all rfl) (.agg (H no ++ H no).toArray) (H no ++ H no) (by exact Tryd.zeroPt) (by with_unfolding_all rfl) ?_)
        intro g20 w34 hg20 hs34 hb34 hB34
        have hl34 : w33.heap.size ≤ g20 := Nat.le_of_eq hg20.out.symm
        have hb34 := hb34.mono hl34
        go_wp2_with (with_reducible refine wpList_put (o := ⟨none, .store 25 (.tmp 20) (.tmp 147), _, _, _, _⟩) (by with_unfolding_all rfl) 25 (.tmp 20) (.tmp 147) (by with_unfolding_all rfl) g20 0 (by with_unfolding_all rfl) (.agg X.cells.toArray) (by with_unfolding_all rfl) hB34 X.cells (by with_unfolding_all rfl) (by with_unfolding_all (rw [Pat.cells_length]; exact Tryd.szP)) (by with_unfolding_all (rw [Pat.cells_length, List.length_append, H_length] <;> omega)) (by with_unfolding_all (exact cells_one _)) ?_)
        intro w35 hu35 B20
        rw [splice_all _ _ (by rw [Pat.cells_length, List.length_append, H_length])] at B20
        have hb35 := hb34.trans (hu35.below (B := w33.heap.size) hl34)
        have B4 := B4.next hb35 B4.lt
        have B5 := B5.next hb35 B5.lt
        have B6 := B6.next hb35 B6.lt
        have B7 := B7.next hb35 B7.lt
        have B10 := B10.next hb35 B10.lt
        have B12 := B12.next hb35 B12.lt
        have B14 := B14.next hb35 B14.lt
        have B16 := B16.next hb35 B16.lt
        have B18 := B18.next hb35 B18.lt
        have hbe := below_join hbe hb35
        clear hb34 hb35 hu35 hB34 hl34 hg20 hs34
        go_wp2_with (first | (with_reducible refine wpList_getg (o := ⟨some 150, .load 25 (.tmp 4), _, _, _, _⟩) (by with_unfolding_all rfl) 25 (.tmp 4) (by with_unfolding_all rfl) g4 0 (by with_unfolding_all rfl) B4 p.cells (cs_all _) _ (by exact Tryd.underlying25) (by with_unfolding_all rfl) (by (rw [Pat.cells_length]; exact Tryd.szP)) ?_) | (with_reducible refine wpList_getg (o := ⟨some 151, .load 25 (.tmp 18), _, _, _, _⟩) (by with_unfolding_all rfl) 25 (.tmp 18) (by with_unfolding_all rfl) g18 0 (by with_unfolding_all rfl) B18 B.cells (cs_all _) _ (by exact Tryd.underlying25) (by with_unfolding_all rfl) (by (rw [Pat.cells_length]; exact Tryd.szP)) ?_))
        (with_reducible refine (D12.out _).mono ?_)
        rintro e w36 ⟨rfl, hb36⟩
        have B4 := B4.next hb36 B4.lt
        have B5 := B5.next hb36 B5.lt
        have B6 := B6.next hb36 B6.lt
        have B7 := B7.next hb36 B7.lt
        have B10 := B10.next hb36 B10.lt
        have B12 := B12.next hb36 B12.lt
        have B14 := B14.next hb36 B14.lt
        have B16 := B16.next hb36 B16.lt
        have B18 := B18.next hb36 B18.lt
        have B20 := B20.next hb36 B20.lt
        have hbe := below_join hbe hb36
        clear hb36
        go_wp2_with (with_reducible refine wpList_alloc (o := ⟨some 22, .alloc 25, _, _, _, _⟩) (by with_unfolding_all rfl) 25 (by with_unfolding_all rfl) (.agg (H no ++ H no).toArray) (H no ++ H no) (by exact Tryd.zeroPt) (by with_unfolding_all rfl) ?_)
        intro g22 w37 hg22 hs37 hb37 hB37
        have hl37 : w36.heap.size ≤ g22 := Nat.le_of_eq hg22.out.symm
        have hb37 := hb37.mono hl37
        go_wp2_with (with_reducible refine wpList_put (o := ⟨none, .store 25 (.tmp 22) (.tmp 153), _, _, _, _⟩) (by with_unfolding_all rfl) 25 (.tmp 22) (.tmp 153) (by with_unfolding_all rfl) g22 0 (by with_unfolding_all rfl) (.agg X.cells.toArray) (by with_unfolding_all rfl) hB37 X.cells (by with_unfolding_all rfl) (by with_unfolding_all (rw [Pat.cells_length]; exact Tryd.szP)) (by with_unfolding_all (rw [Pat.cells_length, List.length_append, H_length] <;> omega)) (by with_unfolding_all (exact cells_one _)) ?_)
        intro w38 hu38 B22
        rw [splice_all _ _ (by rw [Pat.cells_length, List.length_append, H_length])] at B22
        have hb38 := hb37.trans (hu38.below (B := w36.heap.size) hl37)
        have B4 := B4.next hb38 B4.lt
        have B5 := B5.next hb38 B5.lt
        have B6 := B6.next hb38 B6.lt
        have B7 := B7.next hb38 B7.lt
        have B10 := B10.next hb38 B10.lt
        have B12 := B12.next hb38 B12.lt
        have B14 := B14.next hb38 B14.lt
        have B16 := B16.next hb38 B16.lt
        have B18 := B18.next hb38 B18.lt
        have B20 := B20.next hb38 B20.lt
        have hbe := below_join hbe hb38
        clear hb37 hb38 hu38 hB37 hl37 hg22 hs37
        go_wp2_with (first | (with_reducible refine wpList_getg (o := ⟨some 157, .load 25 (.tmp 20), _, _, _, _⟩) (by with_unfolding_all rfl) 25 (.tmp 20) (by with_unfolding_all rfl) g20 0 (by with_unfolding_all rfl) B20 X.cells (cs_all _) _ (by exact Tryd.underlying25) (by with_unfolding_all rfl) (by (rw [Pat.cells_length]; exact Tryd.szP)) ?_) | (with_reducible refine wpList_getg (o := ⟨some 158, .load 25 (.tmp 22), _, _, _, _⟩) (by with_unfolding_all rfl) 25 (.tmp 22) (by with_unfolding_all rfl) g22 0 (by with_unfolding_all rfl) B22 X.cells (cs_all _) _ (by exact Tryd.underlying25) (by with_unfolding_all rfl) (by (rw [Pat.cells_length]; exact Tryd.szP)) ?_))
        go_ret
        exact ⟨rfl, hbe⟩
/-- Whatever comes in. -/
theorem algLaw_any (pm pb qm qb rm rb lh : List Int) (w : World) (h1 : pm.length = 10) (h2 : pb.length = 10) (h3 : qm.length = 10) (h4 : qb.length = 10) (h5 : rm.length = 10) (h6 : rb.length = 10) (h7 : lh.length = 10) (hG : GOk w) :
    Calls Tryd.prog 12 #[.agg (pm.map iV ++ pb.map iV).toArray, .agg (qm.map iV ++ qb.map iV).toArray, .agg (rm.map iV ++ rb.map iV).toArray, .agg (lh.map iV).toArray] w fun e w' => e = .returned (.bool true) ∧ Below w.heap.size w w' := by
  by_cases hc : (pairI pm pb = true ∧ pairI qm qb = true ∧ pairI rm rb = true) ∧ rightI lh
  · obtain ⟨p, hp, rfl, rfl⟩ := right_pat h1 h2 hc.1.1
    obtain ⟨q, hq, rfl, rfl⟩ := right_pat h3 h4 hc.1.2.1
    obtain ⟨r, hr, rfl, rfl⟩ := right_pat h5 h6 hc.1.2.2
    obtain ⟨h, rfl⟩ := right_head h7 hc.2
    rw [← H_iV, ← H_iV, ← H_iV, ← H_iV, ← H_iV, ← H_iV, ← H_iV]
    exact alg_good p q r h w hp hq hr hG
  · exact alg_bad pm pb qm qb rm rb lh w h1 h2 h3 h4 h5 h6 h7 hG hc
end Go.Proofs.YtbldnhpbmfmepaaDoor
