/-
  The walk of BitsMatchSpec. Conditions: the library's variable lies there.
-/
import Derived.Test.YtbldnhpbmfmepaaDoorGZ
import Derived.Test.YtbldnhpbmfmepaaDoorGK
import Derived.Test.YtbldnhpbmfmepaaDoorGJ
import Derived.Test.YtbldnhpbmfmepaaDoorGH
namespace Go.Proofs.YtbldnhpbmfmepaaDoor
set_option linter.unusedVariables false
set_option linter.unusedSimpArgs false
open Go.RowKit

set_option maxRecDepth 100000 in
set_option maxHeartbeats 6400000 in
theorem match_bad (lg lh pm pb qm qb : List Int) (i : Int) (w : World) (h1 : lg.length = 10) (h2 : lh.length = 10) (h3 : pm.length = 10) (h4 : pb.length = 10) (h5 : qm.length = 10) (h6 : qb.length = 10) (hG : GOk w)
    (hbad : ¬ ((rightI lg ∧ rightI lh) ∧ (pairI pm pb = true ∧ pairI qm qb = true) ∧ 0 ≤ i ∧ i ≤ 159)) :
    Calls Tryd.prog 3 #[.agg (lg.map iV).toArray, .agg (lh.map iV).toArray, .agg (pm.map iV ++ pb.map iV).toArray, .agg (qm.map iV ++ qb.map iV).toArray, .int .i64 i] w fun e w' => e = .returned (.bool true) ∧ Below w.heap.size w w' := by
  obtain ⟨D, hD⟩ : ∃ D, Hid ((decide (rightI lg) && decide (rightI lh)) = D) := ⟨_, rfl⟩
  obtain ⟨E, hE⟩ : ∃ E, Hid ((pairI pm pb && pairI qm qb) = E) := ⟨_, rfl⟩
  have hno : Hid (¬ (D = true ∧ E = true ∧ 0 ≤ i ∧ i ≤ 159)) := by
    have : ¬ (D = true ∧ E = true ∧ 0 ≤ i ∧ i ≤ 159) := fun hc => hbad (by
      have a1 := hD.out.trans hc.1
      have a2 := hE.out.trans hc.2.1
      rw [Bool.and_eq_true, decide_eq_true_eq, decide_eq_true_eq] at a1
      rw [Bool.and_eq_true] at a2
      exact ⟨a1, a2, hc.2.2⟩)
    exact this
  have hhe := fun w => heads_any lg lh w h1 h2
  rw [hD.out] at hhe
  have HHE := Lib.hid hhe
  obtain ⟨R, hR⟩ : ∃ R, Hid (decide (rightI lg) = R) := ⟨_, rfl⟩
  have c1 := fun w => rightHead_any lg w h1
  have c2 := fun w => rrightHead_any lg w h1
  rw [hR.out] at c1 c2
  have C1 := Lib.hid c1
  have C2 := Lib.hid c2
  obtain ⟨S, hS⟩ : ∃ S, Hid (pairI pm pb = S) := ⟨_, rfl⟩
  have c3 := fun w => right_any pm pb w h3 h4
  have c4 := fun w => rright_any pm pb w h3 h4
  rw [hS.out] at c3 c4
  have C3 := Lib.hid c3
  have C4 := Lib.hid c4
  have HP := Lib.hid (⟨h3, h4⟩ : (pm, pb).1.length = 10 ∧ (pm, pb).2.length = 10)
  have HQ := Lib.hid (⟨h5, h6⟩ : (qm, qb).1.length = 10 ∧ (qm, qb).2.length = 10)
  have HG := Lib.hid hG
  have z1 : (Tryd.prog.info? 23).map (·.size) = some (lg.map iV).length := by rw [List.length_map, h1]; exact Tryd.szH
  have z2 : (Tryd.prog.info? 23).map (·.size) = some (lh.map iV).length := by rw [List.length_map, h2]; exact Tryd.szH
  have z3 : (Tryd.prog.info? 25).map (·.size) = some (pm.map iV ++ pb.map iV).length := by rw [List.length_append, List.length_map, List.length_map, h3, h4]; exact Tryd.szP
  have z4 : (Tryd.prog.info? 25).map (·.size) = some (qm.map iV ++ qb.map iV).length := by rw [List.length_append, List.length_map, List.length_map, h5, h6]; exact Tryd.szP
  have Z1 := Lib.hid z1
  have Z2 := Lib.hid z2
  have Z3 := Lib.hid z3
  have Z4 := Lib.hid z4
  clear hhe c1 c2 c3 c4 h1 h2 h3 h4 h5 h6 hG hbad hD hR hS z1 z2 z3 z4
  go_enter Tryd.func3, Tryd.ntmps3
  go_wp2_with (with_reducible refine wpList_box (o := ⟨some 5, .box 23 (.tmp 0), _, _, _, _⟩) ?g5 23 (.tmp 0) ?o5 (.agg (lg.map iV).toArray) (lg.map iV) ?x5 ?c5 ?_)
  try (case g5 => rfl)
  try (case o5 => rfl)
  try (case x5 => rfl)
  try (case c5 => rfl)
  intro g5 w1 hg5 hs1 hb1 B5
  have hb1 := hb1.mono (Nat.le_of_eq hg5.out.symm)
  have hbe : Below w.heap.size w w1 := hb1
  clear hb1 hg5 hs1
  go_wp2_with (with_reducible refine wpList_box (o := ⟨some 6, .box 23 (.tmp 1), _, _, _, _⟩) ?g6 23 (.tmp 1) ?o6 (.agg (lh.map iV).toArray) (lh.map iV) ?x6 ?c6 ?_)
  try (case g6 => rfl)
  try (case o6 => rfl)
  try (case x6 => rfl)
  try (case c6 => rfl)
  intro g6 w2 hg6 hs2 hb2 B6
  have hb2 := hb2.mono (Nat.le_of_eq hg6.out.symm)
  have B5 := B5.next hb2 B5.lt
  have hbe := below_join hbe hb2
  clear hb2 hg6 hs2
  go_wp2_with (with_reducible refine wpList_box (o := ⟨some 7, .box 25 (.tmp 2), _, _, _, _⟩) ?g7 25 (.tmp 2) ?o7 (.agg (pm.map iV ++ pb.map iV).toArray) (pm.map iV ++ pb.map iV) ?x7 ?c7 ?_)
  try (case g7 => rfl)
  try (case o7 => rfl)
  try (case x7 => rfl)
  try (case c7 => rfl)
  intro g7 w3 hg7 hs3 hb3 B7
  have hb3 := hb3.mono (Nat.le_of_eq hg7.out.symm)
  have B5 := B5.next hb3 B5.lt
  have B6 := B6.next hb3 B6.lt
  have hbe := below_join hbe hb3
  clear hb3 hg7 hs3
  go_wp2_with (with_reducible refine wpList_box (o := ⟨some 8, .box 25 (.tmp 3), _, _, _, _⟩) ?g8 25 (.tmp 3) ?o8 (.agg (qm.map iV ++ qb.map iV).toArray) (qm.map iV ++ qb.map iV) ?x8 ?c8 ?_)
  try (case g8 => rfl)
  try (case o8 => rfl)
  try (case x8 => rfl)
  try (case c8 => rfl)
  intro g8 w4 hg8 hs4 hb4 B8
  have hb4 := hb4.mono (Nat.le_of_eq hg8.out.symm)
  have B5 := B5.next hb4 B5.lt
  have B6 := B6.next hb4 B6.lt
  have B7 := B7.next hb4 B7.lt
  have hbe := below_join hbe hb4
  clear hb4 hg8 hs4
  go_wp2_with fail
  (with_reducible refine (sanity_any _ (HG.out.next hbe)).mono ?_)
  rintro e w5 ⟨rfl, hb5⟩
  have B5 := B5.next hb5 B5.lt
  have B6 := B6.next hb5 B6.lt
  have B7 := B7.next hb5 B7.lt
  have B8 := B8.next hb5 B8.lt
  have hbe := below_join hbe hb5
  clear hb5
  go_wp2
  have hdd := below_drew w5
  have K5_0 : Hid (∀ w', Below w5.heap.size w5 w' → w'.rangeAt g5 0 (lg.map iV)) := (fun w' h => blk_range (B5.next h B5.lt) : ∀ w', Below w5.heap.size w5 w' → w'.rangeAt g5 0 (lg.map iV))
  have Z5_0 : (Tryd.prog.info? 23).map (·.size) = some (lg.map iV).length := by (exact Z1.out)
  have K7_0 : Hid (∀ w', Below w5.heap.size w5 w' → w'.rangeAt g7 0 (pm.map iV ++ pb.map iV)) := (fun w' h => blk_range (B7.next h B7.lt) : ∀ w', Below w5.heap.size w5 w' → w'.rangeAt g7 0 (pm.map iV ++ pb.map iV))
  have Z7_0 : (Tryd.prog.info? 25).map (·.size) = some (pm.map iV ++ pb.map iV).length := by (exact Z3.out)
  refine wp_region_held_drew (S := fun w' => Below w5.heap.size w5 w') (by kernel_rfl) hdd (fun hHeld => ?_)
  generalize w5.drew = wd at hdd hHeld ⊢
  refine' wpAnyH_take (i := 0) (v := _) rfl (by kernel_rfl) (by kernel_rfl) (by kernel_rfl) (fun _ _ _ h => h) (yieldsIf_load_mid (by rfl) _ _ (by rfl) _ _ (by rfl) _ _ ?Sc0 ?uc0 ?dc0 ?ic0) (by assumption) ?rc0
  case Sc0 => exact (by intro w h; exact K5_0.out _ h)
  case uc0 => exact Tryd.underlying23
  case dc0 => rfl
  case ic0 => exact Z5_0
  (try simp only [List.getElem_toArray, List.getElem_cons_zero, Act.put, List.setIfInBounds_toArray, List.set_cons_zero, List.set_cons_succ])
  refine' wpAnyH_take (i := 2) (v := _) rfl (by kernel_rfl) (by kernel_rfl) (by kernel_rfl) (fun _ _ _ h => h) (yieldsIf_load_mid (by rfl) _ _ (by rfl) _ _ (by rfl) _ _ ?Sc2 ?uc2 ?dc2 ?ic2) (by assumption) ?rc2
  case Sc2 => exact (by intro w h; exact K5_0.out _ h)
  case uc2 => exact Tryd.underlying23
  case dc2 => rfl
  case ic2 => exact Z5_0
  (try simp only [List.getElem_toArray, List.getElem_cons_succ, List.getElem_cons_zero, Act.put, List.setIfInBounds_toArray, List.set_cons_zero, List.set_cons_succ])
  refine wpAnyH_ready (rs := [1]) (by kernel_rfl) (by simp) ?_
  refine AllReadyH.cons rfl (fun K hK => ?_) AllReadyH.nil
  go_simp
  go_wp2_with fail
  (with_reducible refine (C1.out _).mono ?_)
  rintro e w6 ⟨rfl, hb6⟩
  have hk6 := below_join hdd hb6
  refine hK.out _ _ hk6 (fun hHeld => ?_)
  clear hK K hb6 hdd
  refine wpAnyH_ready (rs := [3]) (by kernel_rfl) (by simp) ?_
  refine AllReadyH.cons rfl (fun K hK => ?_) AllReadyH.nil
  go_simp
  go_wp2_with fail
  (with_reducible refine (C2.out _).mono ?_)
  rintro e w7 ⟨rfl, hb7⟩
  have hk7 := below_join hk6 hb7
  refine hK.out _ _ hk7 (fun hHeld => ?_)
  clear hK K hb7 hk6
  refine wpAnyH_take (i := 4) (v := ?vc4) rfl (by kernel_rfl) (by kernel_rfl) (by kernel_rfl) (fun _ _ _ h => h) (Or.inl ⟨by rfl, ?yc4⟩) (by assumption) ?rc4
  case yc4 => intro w hSw; (try dsimp only at hSw); go_simp <;> (try with_reducible rfl)
  (try simp only [List.getElem_toArray, List.getElem_cons_succ, List.getElem_cons_zero, Act.put, List.setIfInBounds_toArray, List.set_cons_zero, List.set_cons_succ])
  refine wpAnyH_take (i := 5) (v := ?vc5) rfl (by kernel_rfl) (by kernel_rfl) (by kernel_rfl) (fun _ _ _ h => h) (Or.inl ⟨by rfl, ?yc5⟩) (by assumption) ?rc5
  case yc5 => intro w hSw; (try dsimp only at hSw); go_simp <;> (try with_reducible rfl)
  (try simp only [List.getElem_toArray, List.getElem_cons_succ, List.getElem_cons_zero, Act.put, List.setIfInBounds_toArray, List.set_cons_zero, List.set_cons_succ])
  refine' wpAnyH_take (i := 6) (v := _) rfl (by kernel_rfl) (by kernel_rfl) (by kernel_rfl) (fun _ _ _ h => h) (yieldsIf_load_mid (by rfl) _ _ (by rfl) _ _ (by rfl) _ _ ?Sc6 ?uc6 ?dc6 ?ic6) (by assumption) ?rc6
  case Sc6 => exact (by intro w h; exact K7_0.out _ h)
  case uc6 => exact Tryd.underlying25
  case dc6 => rfl
  case ic6 => exact Z7_0
  (try simp only [List.getElem_toArray, List.getElem_cons_succ, List.getElem_cons_zero, Act.put, List.setIfInBounds_toArray, List.set_cons_zero, List.set_cons_succ])
  refine' wpAnyH_take (i := 8) (v := _) rfl (by kernel_rfl) (by kernel_rfl) (by kernel_rfl) (fun _ _ _ h => h) (yieldsIf_load_mid (by rfl) _ _ (by rfl) _ _ (by rfl) _ _ ?Sc8 ?uc8 ?dc8 ?ic8) (by assumption) ?rc8
  case Sc8 => exact (by intro w h; exact K7_0.out _ h)
  case uc8 => exact Tryd.underlying25
  case dc8 => rfl
  case ic8 => exact Z7_0
  (try simp only [List.getElem_toArray, List.getElem_cons_succ, List.getElem_cons_zero, Act.put, List.setIfInBounds_toArray, List.set_cons_zero, List.set_cons_succ])
  refine wpAnyH_ready (rs := [7]) (by kernel_rfl) (by simp) ?_
  refine AllReadyH.cons rfl (fun K hK => ?_) AllReadyH.nil
  go_simp
  go_wp2_with fail
  (with_reducible refine (C3.out _).mono ?_)
  rintro e w8 ⟨rfl, hb8⟩
  have hk8 := below_join hk7 hb8
  refine hK.out _ _ hk8 (fun hHeld => ?_)
  clear hK K hb8 hk7
  refine wpAnyH_ready (rs := [9]) (by kernel_rfl) (by simp) ?_
  refine AllReadyH.cons rfl (fun K hK => ?_) AllReadyH.nil
  go_simp
  go_wp2_with fail
  (with_reducible refine (C4.out _).mono ?_)
  rintro e w9 ⟨rfl, hb9⟩
  have hk9 := below_join hk8 hb9
  refine hK.out _ _ hk9 (fun hHeld => ?_)
  clear hK K hb9 hk8
  refine wpAnyH_take (i := 10) (v := ?vc10) rfl (by kernel_rfl) (by kernel_rfl) (by kernel_rfl) (fun _ _ _ h => h) (Or.inl ⟨by rfl, ?yc10⟩) (by assumption) ?rc10
  case yc10 => intro w hSw; (try dsimp only at hSw); go_simp <;> (try with_reducible rfl)
  (try simp only [List.getElem_toArray, List.getElem_cons_succ, List.getElem_cons_zero, Act.put, List.setIfInBounds_toArray, List.set_cons_zero, List.set_cons_succ])
  refine wpAnyH_take (i := 11) (v := ?vc11) rfl (by kernel_rfl) (by kernel_rfl) (by kernel_rfl) (fun _ _ _ h => h) (Or.inl ⟨by rfl, ?yc11⟩) (by assumption) ?rc11
  case yc11 => intro w hSw; (try dsimp only at hSw); go_simp <;> (try with_reducible rfl)
  (try simp only [List.getElem_toArray, List.getElem_cons_succ, List.getElem_cons_zero, Act.put, List.setIfInBounds_toArray, List.set_cons_zero, List.set_cons_succ])
  refine wpAnyH_done (by kernel_rfl) ?_ _
  clear hHeld K5_0 Z5_0 K7_0 Z7_0
  have B5 := B5.next hk9 B5.lt
  have B6 := B6.next hk9 B6.lt
  have B7 := B7.next hk9 B7.lt
  have B8 := B8.next hk9 B8.lt
  have hbe := below_join hbe hk9
  clear hk9
  go_wp2_with (first | (with_reducible refine wpList_getg (o := ⟨some 35, .load 23 (.tmp 5), _, _, _, _⟩) (by with_unfolding_all rfl) 23 (.tmp 5) (by with_unfolding_all rfl) g5 0 (by with_unfolding_all rfl) B5 (lg.map iV) (cs_all _) _ (by exact Tryd.underlying23) (by with_unfolding_all rfl) (by (exact Z1.out)) ?_) | (with_reducible refine wpList_getg (o := ⟨some 36, .load 23 (.tmp 6), _, _, _, _⟩) (by with_unfolding_all rfl) 23 (.tmp 6) (by with_unfolding_all rfl) g6 0 (by with_unfolding_all rfl) B6 (lh.map iV) (cs_all _) _ (by exact Tryd.underlying23) (by with_unfolding_all rfl) (by (exact Z2.out)) ?_))
  (with_reducible refine (HHE.out _).mono ?_)
  rintro e w10 ⟨rfl, hb10⟩
  have B5 := B5.next hb10 B5.lt
  have B6 := B6.next hb10 B6.lt
  have B7 := B7.next hb10 B7.lt
  have B8 := B8.next hb10 B8.lt
  have hbe := below_join hbe hb10
  clear hb10
  rcases D with _ | _
  · go_wp2
    go_ret
    exact ⟨rfl, hbe⟩
  · skip
    go_wp2_with (first | (with_reducible refine wpList_getg (o := ⟨some 40, .load 25 (.tmp 7), _, _, _, _⟩) (by with_unfolding_all rfl) 25 (.tmp 7) (by with_unfolding_all rfl) g7 0 (by with_unfolding_all rfl) B7 (pm.map iV ++ pb.map iV) (cs_all _) _ (by exact Tryd.underlying25) (by with_unfolding_all rfl) (by (exact Z3.out)) ?_) | (with_reducible refine wpList_getg (o := ⟨some 41, .load 25 (.tmp 8), _, _, _, _⟩) (by with_unfolding_all rfl) 25 (.tmp 8) (by with_unfolding_all rfl) g8 0 (by with_unfolding_all rfl) B8 (qm.map iV ++ qb.map iV) (cs_all _) _ (by exact Tryd.underlying25) (by with_unfolding_all rfl) (by (exact Z4.out)) ?_) | (with_reducible refine wpList_rslice2 (o := ⟨some 42, .buildSlice 31 2 #[(0, .tmp 40), (1, .tmp 41)], _, _, _, _⟩) (by with_unfolding_all rfl) (.tmp 40) (.tmp 41) (by with_unfolding_all rfl) (pm, pb) (qm, qb) HP.out HQ.out (by with_unfolding_all rfl) (by with_unfolding_all rfl) ?_))
    intro gs w11 hgs hb11 hlt PS
    have B5 := B5.next hb11 B5.lt
    have B6 := B6.next hb11 B6.lt
    have B7 := B7.next hb11 B7.lt
    have B8 := B8.next hb11 B8.lt
    have hbe := below_join hbe hb11
    clear hb11 hgs hlt
    have hra := fun w h => rrightAll_r2 gs 2 (pm, pb) (qm, qb) w HP.out HQ.out rfl h
    rw [show (pairI (pm, pb).1 (pm, pb).2 && pairI (qm, qb).1 (qm, qb).2) = E from hE.out] at hra
    go_wp2_with fail
    (with_reducible refine (hra _ PS).mono ?_)
    rintro e w12 ⟨rfl, hb12⟩
    have B5 := B5.next hb12 B5.lt
    have B6 := B6.next hb12 B6.lt
    have B7 := B7.next hb12 B7.lt
    have B8 := B8.next hb12 B8.lt
    have hbe := below_join hbe hb12
    clear hb12
    clear hra PS
    rcases E with _ | _
    · go_wp2
      go_ret
      exact ⟨rfl, hbe⟩
    · by_cases hi : i < 0
      · go_wp2
        go_ret
        exact ⟨rfl, hbe⟩
      · have hi2 : i > 159 := Classical.byContradiction fun hn => hno.out (by refine ⟨?_, ?_, ?_, ?_⟩ <;> first | trivial | omega)
        go_wp2
        go_ret
        exact ⟨rfl, hbe⟩
set_option maxRecDepth 100000 in
set_option maxHeartbeats 12800000 in
theorem match_good (f g : Nat → Bool) (p q : Pat) (i : Nat) (w : World) (hp : p.ok) (hq : q.ok) (hi : i < 160) (hG : GOk w) :
    Calls Tryd.prog 3 #[.agg (H f).toArray, .agg (H g).toArray, .agg p.cells.toArray, .agg q.cells.toArray, .int .i64 (i : Int)] w fun e w' => e = .returned (.bool true) ∧ Below w.heap.size w w' := by
  have HP := Lib.hid hp
  have HQ := Lib.hid hq
  have HG := Lib.hid hG
  have HI' := Lib.hid hi
  obtain ⟨b, hb0⟩ : ∃ b : Int, Hid (((g i).toNat : Int) = b) := ⟨_, rfl⟩
  have c1 := fun w => bit_any g i w hi
  have c2 := fun w => rbit_any g i w hi
  rw [hb0.out] at c1 c2
  obtain ⟨c, hc0⟩ : ∃ c : Int, Hid (cmpH f g = c) := ⟨_, rfl⟩
  have c3 := fun w => compareHeads_any f g w
  have c4 := fun w => rcompareHeads_any f g w
  rw [hc0.out] at c3 c4
  obtain ⟨d, hd0⟩ : ∃ d : Int, Hid (p.cmp q = d) := ⟨_, rfl⟩
  have c5 := fun w => compare_any p q w
  have c6 := fun w => rcompare_any p q w
  rw [hd0.out] at c5 c6
  obtain ⟨X, hX⟩ : ∃ X, Hid (Pat.exact g = X) := ⟨_, rfl⟩
  have c7 := fun w => exact_any g w
  have c8 := fun w => rexact_any g w
  rw [hX.out] at c7 c8
  obtain ⟨M, hM⟩ : ∃ M, decide (p.hit g) = M := ⟨_, rfl⟩
  have c9 := fun w => match_m w hp g hM
  have c10 := fun w => rmatch_m w p g hM
  have c11 := fun w => least_any p w
  obtain ⟨n, hn⟩ : ∃ n : Nat, Hid (160 - cnt p.m 0 160 = n) := ⟨_, rfl⟩
  have c12 := fun w => free_any p w
  have c13 := fun w => rfree_any p w
  have hfree : (160 : Int) - (cnt p.m 0 160 : Int) = (n : Int) := by have := cnt_le p.m 0 160; have := hn.out; omega
  rw [hn.out] at c13
  rw [hfree] at c12
  obtain ⟨O, hO⟩ : ∃ O, Hid (decide (p.over q) = O) := ⟨_, rfl⟩
  have c14 := fun w => overlapV_any p q w
  have c15 := fun w => roverlap_any p q w hp hq
  have c18 := fun w => and_any p q w
  have c19 := fun w => rand_any p q w hp hq
  rw [hO.out] at c14 c15 c18 c19
  obtain ⟨V, hV⟩ : ∃ V, Hid (p.covers q = V) := ⟨_, rfl⟩
  have c16 := fun w => covers_any p q w
  have c17 := fun w => rcovers_any p q w hp hq
  rw [hV.out] at c16 c17
  obtain ⟨A, hA⟩ : ∃ A, Hid (p.andV q = A) := ⟨_, rfl⟩
  rw [hA.out] at c18 c19
  obtain ⟨J, hJ⟩ : ∃ J, Hid (p.joinV q = J) := ⟨_, rfl⟩
  obtain ⟨K', hK'⟩ : ∃ K, Hid (p.joins q = K) := ⟨_, rfl⟩
  have c20 := fun w => join2_any p q w
  have c21 := fun w => rjoin_any p q w
  rw [hJ.out, hK'.out] at c20 c21
  have C1 := Lib.hid c1
  have C2 := Lib.hid c2
  have C3 := Lib.hid c3
  have C4 := Lib.hid c4
  have C5 := Lib.hid c5
  have C6 := Lib.hid c6
  have C7 := Lib.hid c7
  have C8 := Lib.hid c8
  have C9 := Lib.hid c9
  have C10 := Lib.hid c10
  have C11 := Lib.hid c11
  have C12 := Lib.hid c12
  have C13 := Lib.hid c13
  have C14 := Lib.hid c14
  have C15 := Lib.hid c15
  have C16 := Lib.hid c16
  have C17 := Lib.hid c17
  have C18 := Lib.hid c18
  have C19 := Lib.hid c19
  have C20 := Lib.hid c20
  have C21 := Lib.hid c21
  clear c1 c2 c3 c4 c5 c6 c7 c8 c9 c10 c11 c12 c13 c14 c15 c16 c17 c18 c19 c20 c21 hfree hM hp hq hG hi
  have eP : ∀ (x : Pat) w, (binOp .eql 25 (.agg x.cells.toArray) (.agg x.cells.toArray)).run Tryd.prog w = .ok (.bool true) w := fun x w => by rw [eql_pat]; simp
  have eH : ∀ (x : Nat → Bool) w, (binOp .eql 23 (.agg (H x).toArray) (.agg (H x).toArray)).run Tryd.prog w = .ok (.bool true) w := fun x w => by rw [H_iV, eql_head w _ _ (HI_length _) (HI_length _)]; simp
  have eX := eP X
  have eA := eP A
  have eJ := eP J
  have eB := eH p.b
  have hguP := Tryd.guardP
  have hguH := Tryd.guardH
  have i1 : ¬ ((i : Int) < 0) := by omega
  have i2 : ¬ ((i : Int) > 159) := by have := HI'.out; omega
  clear eP eH
  go_enter Tryd.func3, Tryd.ntmps3
  go_wp2_with (with_reducible refine wpList_box (o := ⟨some 5, .box 23 (.tmp 0), _, _, _, _⟩) ?g5 23 (.tmp 0) ?o5 (.agg (H f).toArray) (H f) ?x5 ?c5 ?_)
  try (case g5 => rfl)
  try (case o5 => rfl)
  try (case x5 => rfl)
  try (case c5 => rfl)
  intro g5 w1 hg5 hs1 hb1 B5
  have hb1 := hb1.mono (Nat.le_of_eq hg5.out.symm)
  have hbe : Below w.heap.size w w1 := hb1
  clear hb1 hg5 hs1
  go_wp2_with (with_reducible refine wpList_box (o := ⟨some 6, .box 23 (.tmp 1), _, _, _, _⟩) ?g6 23 (.tmp 1) ?o6 (.agg (H g).toArray) (H g) ?x6 ?c6 ?_)
  try (case g6 => rfl)
  try (case o6 => rfl)
  try (case x6 => rfl)
  try (case c6 => rfl)
  intro g6 w2 hg6 hs2 hb2 B6
  have hb2 := hb2.mono (Nat.le_of_eq hg6.out.symm)
  have B5 := B5.next hb2 B5.lt
  have hbe := below_join hbe hb2
  clear hb2 hg6 hs2
  go_wp2_with (with_reducible refine wpList_box (o := ⟨some 7, .box 25 (.tmp 2), _, _, _, _⟩) ?g7 25 (.tmp 2) ?o7 (.agg p.cells.toArray) p.cells ?x7 ?c7 ?_)
  try (case g7 => rfl)
  try (case o7 => rfl)
  try (case x7 => rfl)
  try (case c7 => rfl)
  intro g7 w3 hg7 hs3 hb3 B7
  have hb3 := hb3.mono (Nat.le_of_eq hg7.out.symm)
  have B5 := B5.next hb3 B5.lt
  have B6 := B6.next hb3 B6.lt
  have hbe := below_join hbe hb3
  clear hb3 hg7 hs3
  go_wp2_with (with_reducible refine wpList_box (o := ⟨some 8, .box 25 (.tmp 3), _, _, _, _⟩) ?g8 25 (.tmp 3) ?o8 (.agg q.cells.toArray) q.cells ?x8 ?c8 ?_)
  try (case g8 => rfl)
  try (case o8 => rfl)
  try (case x8 => rfl)
  try (case c8 => rfl)
  intro g8 w4 hg8 hs4 hb4 B8
  have hb4 := hb4.mono (Nat.le_of_eq hg8.out.symm)
  have B5 := B5.next hb4 B5.lt
  have B6 := B6.next hb4 B6.lt
  have B7 := B7.next hb4 B7.lt
  have hbe := below_join hbe hb4
  clear hb4 hg8 hs4
  go_wp2_with fail
  (with_reducible refine (sanity_any _ (HG.out.next hbe)).mono ?_)
  rintro e w5 ⟨rfl, hb5⟩
  have B5 := B5.next hb5 B5.lt
  have B6 := B6.next hb5 B6.lt
  have B7 := B7.next hb5 B7.lt
  have B8 := B8.next hb5 B8.lt
  have hbe := below_join hbe hb5
  clear hb5
  go_wp2
  have hdd := below_drew w5
  have K5_0 : Hid (∀ w', Below w5.heap.size w5 w' → w'.rangeAt g5 0 (H f)) := (fun w' h => blk_range (B5.next h B5.lt) : ∀ w', Below w5.heap.size w5 w' → w'.rangeAt g5 0 (H f))
  have Z5_0 : (Tryd.prog.info? 23).map (·.size) = some (H f).length := by (rw [H_length]; exact Tryd.szH)
  have K7_0 : Hid (∀ w', Below w5.heap.size w5 w' → w'.rangeAt g7 0 p.cells) := (fun w' h => blk_range (B7.next h B7.lt) : ∀ w', Below w5.heap.size w5 w' → w'.rangeAt g7 0 p.cells)
  have Z7_0 : (Tryd.prog.info? 25).map (·.size) = some p.cells.length := by (rw [Pat.cells_length]; exact Tryd.szP)
  refine wp_region_held_drew (S := fun w' => Below w5.heap.size w5 w') (by kernel_rfl) hdd (fun hHeld => ?_)
  generalize w5.drew = wd at hdd hHeld ⊢
  refine' wpAnyH_take (i := 0) (v := _) rfl (by kernel_rfl) (by kernel_rfl) (by kernel_rfl) (fun _ _ _ h => h) (yieldsIf_load_mid (by rfl) _ _ (by rfl) _ _ (by rfl) _ _ ?Sc0 ?uc0 ?dc0 ?ic0) (by assumption) ?rc0
  case Sc0 => exact (by intro w h; exact K5_0.out _ h)
  case uc0 => exact Tryd.underlying23
  case dc0 => rfl
  case ic0 => exact Z5_0
  (try simp only [List.getElem_toArray, List.getElem_cons_zero, Act.put, List.setIfInBounds_toArray, List.set_cons_zero, List.set_cons_succ])
  refine' wpAnyH_take (i := 2) (v := _) rfl (by kernel_rfl) (by kernel_rfl) (by kernel_rfl) (fun _ _ _ h => h) (yieldsIf_load_mid (by rfl) _ _ (by rfl) _ _ (by rfl) _ _ ?Sc2 ?uc2 ?dc2 ?ic2) (by assumption) ?rc2
  case Sc2 => exact (by intro w h; exact K5_0.out _ h)
  case uc2 => exact Tryd.underlying23
  case dc2 => rfl
  case ic2 => exact Z5_0
  (try simp only [List.getElem_toArray, List.getElem_cons_succ, List.getElem_cons_zero, Act.put, List.setIfInBounds_toArray, List.set_cons_zero, List.set_cons_succ])
  refine wpAnyH_ready (rs := [1]) (by kernel_rfl) (by simp) ?_
  refine AllReadyH.cons rfl (fun K hK => ?_) AllReadyH.nil
  go_simp
  go_wp2_with fail
  (with_reducible refine (rightHead_h _ _).mono ?_)
  rintro e w6 ⟨rfl, hb6⟩
  have hk6 := below_join hdd hb6
  refine hK.out _ _ hk6 (fun hHeld => ?_)
  clear hK K hb6 hdd
  refine wpAnyH_ready (rs := [3]) (by kernel_rfl) (by simp) ?_
  refine AllReadyH.cons rfl (fun K hK => ?_) AllReadyH.nil
  go_simp
  go_wp2_with fail
  (with_reducible refine (rrightHead_h _ _).mono ?_)
  rintro e w7 ⟨rfl, hb7⟩
  have hk7 := below_join hk6 hb7
  refine hK.out _ _ hk7 (fun hHeld => ?_)
  clear hK K hb7 hk6
  refine wpAnyH_take (i := 4) (v := ?vc4) rfl (by kernel_rfl) (by kernel_rfl) (by kernel_rfl) (fun _ _ _ h => h) (Or.inl ⟨by rfl, ?yc4⟩) (by assumption) ?rc4
  case yc4 => intro w hSw; (try dsimp only at hSw); go_simp <;> (try with_reducible rfl)
  (try simp only [List.getElem_toArray, List.getElem_cons_succ, List.getElem_cons_zero, Act.put, List.setIfInBounds_toArray, List.set_cons_zero, List.set_cons_succ])
  refine wpAnyH_take (i := 5) (v := ?vc5) rfl (by kernel_rfl) (by kernel_rfl) (by kernel_rfl) (fun _ _ _ h => h) (Or.inl ⟨by rfl, ?yc5⟩) (by assumption) ?rc5
  case yc5 => intro w hSw; (try dsimp only at hSw); go_simp <;> (try with_reducible rfl)
  (try simp only [List.getElem_toArray, List.getElem_cons_succ, List.getElem_cons_zero, Act.put, List.setIfInBounds_toArray, List.set_cons_zero, List.set_cons_succ])
  refine' wpAnyH_take (i := 6) (v := _) rfl (by kernel_rfl) (by kernel_rfl) (by kernel_rfl) (fun _ _ _ h => h) (yieldsIf_load_mid (by rfl) _ _ (by rfl) _ _ (by rfl) _ _ ?Sc6 ?uc6 ?dc6 ?ic6) (by assumption) ?rc6
  case Sc6 => exact (by intro w h; exact K7_0.out _ h)
  case uc6 => exact Tryd.underlying25
  case dc6 => rfl
  case ic6 => exact Z7_0
  (try simp only [List.getElem_toArray, List.getElem_cons_succ, List.getElem_cons_zero, Act.put, List.setIfInBounds_toArray, List.set_cons_zero, List.set_cons_succ])
  refine' wpAnyH_take (i := 8) (v := _) rfl (by kernel_rfl) (by kernel_rfl) (by kernel_rfl) (fun _ _ _ h => h) (yieldsIf_load_mid (by rfl) _ _ (by rfl) _ _ (by rfl) _ _ ?Sc8 ?uc8 ?dc8 ?ic8) (by assumption) ?rc8
  case Sc8 => exact (by intro w h; exact K7_0.out _ h)
  case uc8 => exact Tryd.underlying25
  case dc8 => rfl
  case ic8 => exact Z7_0
  (try simp only [List.getElem_toArray, List.getElem_cons_succ, List.getElem_cons_zero, Act.put, List.setIfInBounds_toArray, List.set_cons_zero, List.set_cons_succ])
  refine wpAnyH_ready (rs := [7]) (by kernel_rfl) (by simp) ?_
  refine AllReadyH.cons rfl (fun K hK => ?_) AllReadyH.nil
  go_simp
  go_wp2_with fail
  (with_reducible refine (right_p _ HP.out).mono ?_)
  rintro e w8 ⟨rfl, hb8⟩
  have hk8 := below_join hk7 hb8
  refine hK.out _ _ hk8 (fun hHeld => ?_)
  clear hK K hb8 hk7
  refine wpAnyH_ready (rs := [9]) (by kernel_rfl) (by simp) ?_
  refine AllReadyH.cons rfl (fun K hK => ?_) AllReadyH.nil
  go_simp
  go_wp2_with fail
  (with_reducible refine (rright_p _ HP.out).mono ?_)
  rintro e w9 ⟨rfl, hb9⟩
  have hk9 := below_join hk8 hb9
  refine hK.out _ _ hk9 (fun hHeld => ?_)
  clear hK K hb9 hk8
  refine wpAnyH_take (i := 10) (v := ?vc10) rfl (by kernel_rfl) (by kernel_rfl) (by kernel_rfl) (fun _ _ _ h => h) (Or.inl ⟨by rfl, ?yc10⟩) (by assumption) ?rc10
  case yc10 => intro w hSw; (try dsimp only at hSw); go_simp <;> (try with_reducible rfl)
  (try simp only [List.getElem_toArray, List.getElem_cons_succ, List.getElem_cons_zero, Act.put, List.setIfInBounds_toArray, List.set_cons_zero, List.set_cons_succ])
  refine wpAnyH_take (i := 11) (v := ?vc11) rfl (by kernel_rfl) (by kernel_rfl) (by kernel_rfl) (fun _ _ _ h => h) (Or.inl ⟨by rfl, ?yc11⟩) (by assumption) ?rc11
  case yc11 => intro w hSw; (try dsimp only at hSw); go_simp <;> (try with_reducible rfl)
  (try simp only [List.getElem_toArray, List.getElem_cons_succ, List.getElem_cons_zero, Act.put, List.setIfInBounds_toArray, List.set_cons_zero, List.set_cons_succ])
  refine wpAnyH_done (by kernel_rfl) ?_ _
  clear hHeld K5_0 Z5_0 K7_0 Z7_0
  have B5 := B5.next hk9 B5.lt
  have B6 := B6.next hk9 B6.lt
  have B7 := B7.next hk9 B7.lt
  have B8 := B8.next hk9 B8.lt
  have hbe := below_join hbe hk9
  clear hk9
  go_wp2_with (first | (with_reducible refine wpList_getg (o := ⟨some 35, .load 23 (.tmp 5), _, _, _, _⟩) (by with_unfolding_all rfl) 23 (.tmp 5) (by with_unfolding_all rfl) g5 0 (by with_unfolding_all rfl) B5 (H f) (cs_all _) _ (by exact Tryd.underlying23) (by with_unfolding_all rfl) (by (rw [H_length]; exact Tryd.szH)) ?_) | (with_reducible refine wpList_getg (o := ⟨some 36, .load 23 (.tmp 6), _, _, _, _⟩) (by with_unfolding_all rfl) 23 (.tmp 6) (by with_unfolding_all rfl) g6 0 (by with_unfolding_all rfl) B6 (H g) (cs_all _) _ (by exact Tryd.underlying23) (by with_unfolding_all rfl) (by (rw [H_length]; exact Tryd.szH)) ?_))
  (with_reducible refine (heads_h _ _ _).mono ?_)
  rintro e w10 ⟨rfl, hb10⟩
  have B5 := B5.next hb10 B5.lt
  have B6 := B6.next hb10 B6.lt
  have B7 := B7.next hb10 B7.lt
  have B8 := B8.next hb10 B8.lt
  have hbe := below_join hbe hb10
  clear hb10
  go_wp2_with (first | (with_reducible refine wpList_getg (o := ⟨some 40, .load 25 (.tmp 7), _, _, _, _⟩) (by with_unfolding_all rfl) 25 (.tmp 7) (by with_unfolding_all rfl) g7 0 (by with_unfolding_all rfl) B7 p.cells (cs_all _) _ (by exact Tryd.underlying25) (by with_unfolding_all rfl) (by (rw [Pat.cells_length]; exact Tryd.szP)) ?_) | (with_reducible refine wpList_getg (o := ⟨some 41, .load 25 (.tmp 8), _, _, _, _⟩) (by with_unfolding_all rfl) 25 (.tmp 8) (by with_unfolding_all rfl) g8 0 (by with_unfolding_all rfl) B8 q.cells (cs_all _) _ (by exact Tryd.underlying25) (by with_unfolding_all rfl) (by (rw [Pat.cells_length]; exact Tryd.szP)) ?_) | (with_reducible refine wpList_slice2 (o := ⟨some 42, .buildSlice 31 2 #[(0, .tmp 40), (1, .tmp 41)], _, _, _, _⟩) (by with_unfolding_all rfl) (.tmp 40) (.tmp 41) (by with_unfolding_all rfl) p q (by with_unfolding_all rfl) (by with_unfolding_all rfl) ?_))
  intro gs w11 hgs hb11 hlt PS
  have B5 := B5.next hb11 B5.lt
  have B6 := B6.next hb11 B6.lt
  have B7 := B7.next hb11 B7.lt
  have B8 := B8.next hb11 B8.lt
  have hbe := below_join hbe hb11
  clear hb11 hgs hlt
  go_wp2_with fail
  (with_reducible refine (rrightAll_2 gs _ p q _ HP.out HQ.out PS).mono ?_)
  rintro e w12 ⟨rfl, hb12⟩
  have B5 := B5.next hb12 B5.lt
  have B6 := B6.next hb12 B6.lt
  have B7 := B7.next hb12 B7.lt
  have B8 := B8.next hb12 B8.lt
  have hbe := below_join hbe hb12
  clear hb12
  clear PS
  go_wp2
  have hdd := below_drew w12
  have K5_0 : Hid (∀ w', Below w12.heap.size w12 w' → w'.rangeAt g5 0 (H f)) := (fun w' h => blk_range (B5.next h B5.lt) : ∀ w', Below w12.heap.size w12 w' → w'.rangeAt g5 0 (H f))
  have Z5_0 : (Tryd.prog.info? 23).map (·.size) = some (H f).length := by (rw [H_length]; exact Tryd.szH)
  have K6_0 : Hid (∀ w', Below w12.heap.size w12 w' → w'.rangeAt g6 0 (H g)) := (fun w' h => blk_range (B6.next h B6.lt) : ∀ w', Below w12.heap.size w12 w' → w'.rangeAt g6 0 (H g))
  have Z6_0 : (Tryd.prog.info? 23).map (·.size) = some (H g).length := by (rw [H_length]; exact Tryd.szH)
  have K7_0 : Hid (∀ w', Below w12.heap.size w12 w' → w'.rangeAt g7 0 p.cells) := (fun w' h => blk_range (B7.next h B7.lt) : ∀ w', Below w12.heap.size w12 w' → w'.rangeAt g7 0 p.cells)
  have Z7_0 : (Tryd.prog.info? 25).map (·.size) = some p.cells.length := by (rw [Pat.cells_length]; exact Tryd.szP)
  have K8_0 : Hid (∀ w', Below w12.heap.size w12 w' → w'.rangeAt g8 0 q.cells) := (fun w' h => blk_range (B8.next h B8.lt) : ∀ w', Below w12.heap.size w12 w' → w'.rangeAt g8 0 q.cells)
  have Z8_0 : (Tryd.prog.info? 25).map (·.size) = some q.cells.length := by (rw [Pat.cells_length]; exact Tryd.szP)
  refine wp_region_held_drew (S := fun w' => Below w12.heap.size w12 w') (by kernel_rfl) hdd (fun hHeld => ?_)
  generalize w12.drew = wd at hdd hHeld ⊢
  refine' wpAnyH_take (i := 0) (v := _) rfl (by kernel_rfl) (by kernel_rfl) (by kernel_rfl) (fun _ _ _ h => h) (yieldsIf_load_mid (by rfl) _ _ (by rfl) _ _ (by rfl) _ _ ?Sg0 ?ug0 ?dg0 ?ig0) (by assumption) ?rg0
  case Sg0 => exact (by intro w h; exact K6_0.out _ h)
  case ug0 => exact Tryd.underlying23
  case dg0 => rfl
  case ig0 => exact Z6_0
  (try simp only [List.getElem_toArray, List.getElem_cons_zero, Act.put, List.setIfInBounds_toArray, List.set_cons_zero, List.set_cons_succ])
  refine wpAnyH_take (i := 1) (v := ?vg1) rfl (by kernel_rfl) (by kernel_rfl) (by kernel_rfl) (fun _ _ _ h => h) (Or.inl ⟨by rfl, ?yg1⟩) (by assumption) ?rg1
  case yg1 => intro w hSw; (try dsimp only at hSw); go_simp <;> (try with_reducible rfl)
  (try simp only [List.getElem_toArray, List.getElem_cons_succ, List.getElem_cons_zero, Act.put, List.setIfInBounds_toArray, List.set_cons_zero, List.set_cons_succ])
  refine' wpAnyH_take (i := 3) (v := _) rfl (by kernel_rfl) (by kernel_rfl) (by kernel_rfl) (fun _ _ _ h => h) (yieldsIf_load_mid (by rfl) _ _ (by rfl) _ _ (by rfl) _ _ ?Sg3 ?ug3 ?dg3 ?ig3) (by assumption) ?rg3
  case Sg3 => exact (by intro w h; exact K6_0.out _ h)
  case ug3 => exact Tryd.underlying23
  case dg3 => rfl
  case ig3 => exact Z6_0
  (try simp only [List.getElem_toArray, List.getElem_cons_succ, List.getElem_cons_zero, Act.put, List.setIfInBounds_toArray, List.set_cons_zero, List.set_cons_succ])
  refine wpAnyH_take (i := 4) (v := ?vg4) rfl (by kernel_rfl) (by kernel_rfl) (by kernel_rfl) (fun _ _ _ h => h) (Or.inl ⟨by rfl, ?yg4⟩) (by assumption) ?rg4
  case yg4 => intro w hSw; (try dsimp only at hSw); go_simp <;> (try with_reducible rfl)
  (try simp only [List.getElem_toArray, List.getElem_cons_succ, List.getElem_cons_zero, Act.put, List.setIfInBounds_toArray, List.set_cons_zero, List.set_cons_succ])
  refine wpAnyH_ready (rs := [2]) (by kernel_rfl) (by simp) ?_
  refine AllReadyH.cons rfl (fun K hK => ?_) AllReadyH.nil
  go_simp
  go_wp2_with fail
  (with_reducible refine (C1.out _).mono ?_)
  rintro e w13 ⟨rfl, hb13⟩
  have hk13 := below_join hdd hb13
  refine hK.out _ _ hk13 (fun hHeld => ?_)
  clear hK K hb13 hdd
  refine wpAnyH_ready (rs := [5]) (by kernel_rfl) (by simp) ?_
  refine AllReadyH.cons rfl (fun K hK => ?_) AllReadyH.nil
  go_simp
  go_wp2_with fail
  (with_reducible refine (C2.out _).mono ?_)
  rintro e w14 ⟨rfl, hb14⟩
  have hk14 := below_join hk13 hb14
  refine hK.out _ _ hk14 (fun hHeld => ?_)
  clear hK K hb14 hk13
  refine wpAnyH_take (i := 6) (v := ?vg6) rfl (by kernel_rfl) (by kernel_rfl) (by kernel_rfl) (fun _ _ _ h => h) (Or.inl ⟨by rfl, ?yg6⟩) (by assumption) ?rg6
  case yg6 => intro w hSw; (try dsimp only at hSw); go_simp <;> (try with_reducible rfl)
  (try simp only [List.getElem_toArray, List.getElem_cons_succ, List.getElem_cons_zero, Act.put, List.setIfInBounds_toArray, List.set_cons_zero, List.set_cons_succ])
  refine wpAnyH_take (i := 7) (v := ?vg7) rfl (by kernel_rfl) (by kernel_rfl) (by kernel_rfl) (fun _ _ _ h => h) (Or.inl ⟨by rfl, ?yg7⟩) (by assumption) ?rg7
  case yg7 => intro w hSw; (try dsimp only at hSw); go_simp <;> (try with_reducible rfl)
  (try simp only [List.getElem_toArray, List.getElem_cons_succ, List.getElem_cons_zero, Act.put, List.setIfInBounds_toArray, List.set_cons_zero, List.set_cons_succ])
  refine' wpAnyH_take (i := 8) (v := _) rfl (by kernel_rfl) (by kernel_rfl) (by kernel_rfl) (fun _ _ _ h => h) (yieldsIf_load_mid (by rfl) _ _ (by rfl) _ _ (by rfl) _ _ ?Sg8 ?ug8 ?dg8 ?ig8) (by assumption) ?rg8
  case Sg8 => exact (by intro w h; exact K5_0.out _ h)
  case ug8 => exact Tryd.underlying23
  case dg8 => rfl
  case ig8 => exact Z5_0
  (try simp only [List.getElem_toArray, List.getElem_cons_succ, List.getElem_cons_zero, Act.put, List.setIfInBounds_toArray, List.set_cons_zero, List.set_cons_succ])
  refine' wpAnyH_take (i := 9) (v := _) rfl (by kernel_rfl) (by kernel_rfl) (by kernel_rfl) (fun _ _ _ h => h) (yieldsIf_load_mid (by rfl) _ _ (by rfl) _ _ (by rfl) _ _ ?Sg9 ?ug9 ?dg9 ?ig9) (by assumption) ?rg9
  case Sg9 => exact (by intro w h; exact K6_0.out _ h)
  case ug9 => exact Tryd.underlying23
  case dg9 => rfl
  case ig9 => exact Z6_0
  (try simp only [List.getElem_toArray, List.getElem_cons_succ, List.getElem_cons_zero, Act.put, List.setIfInBounds_toArray, List.set_cons_zero, List.set_cons_succ])
  refine' wpAnyH_take (i := 11) (v := _) rfl (by kernel_rfl) (by kernel_rfl) (by kernel_rfl) (fun _ _ _ h => h) (yieldsIf_load_mid (by rfl) _ _ (by rfl) _ _ (by rfl) _ _ ?Sg11 ?ug11 ?dg11 ?ig11) (by assumption) ?rg11
  case Sg11 => exact (by intro w h; exact K5_0.out _ h)
  case ug11 => exact Tryd.underlying23
  case dg11 => rfl
  case ig11 => exact Z5_0
  (try simp only [List.getElem_toArray, List.getElem_cons_succ, List.getElem_cons_zero, Act.put, List.setIfInBounds_toArray, List.set_cons_zero, List.set_cons_succ])
  refine' wpAnyH_take (i := 12) (v := _) rfl (by kernel_rfl) (by kernel_rfl) (by kernel_rfl) (fun _ _ _ h => h) (yieldsIf_load_mid (by rfl) _ _ (by rfl) _ _ (by rfl) _ _ ?Sg12 ?ug12 ?dg12 ?ig12) (by assumption) ?rg12
  case Sg12 => exact (by intro w h; exact K6_0.out _ h)
  case ug12 => exact Tryd.underlying23
  case dg12 => rfl
  case ig12 => exact Z6_0
  (try simp only [List.getElem_toArray, List.getElem_cons_succ, List.getElem_cons_zero, Act.put, List.setIfInBounds_toArray, List.set_cons_zero, List.set_cons_succ])
  refine wpAnyH_ready (rs := [10]) (by kernel_rfl) (by simp) ?_
  refine AllReadyH.cons rfl (fun K hK => ?_) AllReadyH.nil
  go_simp
  go_wp2_with fail
  (with_reducible refine (C3.out _).mono ?_)
  rintro e w15 ⟨rfl, hb15⟩
  have hk15 := below_join hk14 hb15
  refine hK.out _ _ hk15 (fun hHeld => ?_)
  clear hK K hb15 hk14
  refine wpAnyH_ready (rs := [13]) (by kernel_rfl) (by simp) ?_
  refine AllReadyH.cons rfl (fun K hK => ?_) AllReadyH.nil
  go_simp
  go_wp2_with fail
  (with_reducible refine (C4.out _).mono ?_)
  rintro e w16 ⟨rfl, hb16⟩
  have hk16 := below_join hk15 hb16
  refine hK.out _ _ hk16 (fun hHeld => ?_)
  clear hK K hb16 hk15
  refine wpAnyH_take (i := 14) (v := ?vg14) rfl (by kernel_rfl) (by kernel_rfl) (by kernel_rfl) (fun _ _ _ h => h) (Or.inl ⟨by rfl, ?yg14⟩) (by assumption) ?rg14
  case yg14 => intro w hSw; (try dsimp only at hSw); go_simp <;> (try with_reducible rfl)
  (try simp only [List.getElem_toArray, List.getElem_cons_succ, List.getElem_cons_zero, Act.put, List.setIfInBounds_toArray, List.set_cons_zero, List.set_cons_succ])
  refine wpAnyH_take (i := 15) (v := ?vg15) rfl (by kernel_rfl) (by kernel_rfl) (by kernel_rfl) (fun _ _ _ h => h) (Or.inl ⟨by rfl, ?yg15⟩) (by assumption) ?rg15
  case yg15 => intro w hSw; (try dsimp only at hSw); go_simp <;> (try with_reducible rfl)
  (try simp only [List.getElem_toArray, List.getElem_cons_succ, List.getElem_cons_zero, Act.put, List.setIfInBounds_toArray, List.set_cons_zero, List.set_cons_succ])
  refine wpAnyH_take (i := 16) (v := ?vg16) rfl (by kernel_rfl) (by kernel_rfl) (by kernel_rfl) (fun _ _ _ h => h) (Or.inl ⟨by rfl, ?yg16⟩) (by assumption) ?rg16
  case yg16 => intro w hSw; (try dsimp only at hSw); go_simp <;> (try with_reducible rfl)
  (try simp only [List.getElem_toArray, List.getElem_cons_succ, List.getElem_cons_zero, Act.put, List.setIfInBounds_toArray, List.set_cons_zero, List.set_cons_succ])
  refine' wpAnyH_take (i := 17) (v := _) rfl (by kernel_rfl) (by kernel_rfl) (by kernel_rfl) (fun _ _ _ h => h) (yieldsIf_load_mid (by rfl) _ _ (by rfl) _ _ (by rfl) _ _ ?Sg17 ?ug17 ?dg17 ?ig17) (by assumption) ?rg17
  case Sg17 => exact (by intro w h; exact K7_0.out _ h)
  case ug17 => exact Tryd.underlying25
  case dg17 => rfl
  case ig17 => exact Z7_0
  (try simp only [List.getElem_toArray, List.getElem_cons_succ, List.getElem_cons_zero, Act.put, List.setIfInBounds_toArray, List.set_cons_zero, List.set_cons_succ])
  refine' wpAnyH_take (i := 18) (v := _) rfl (by kernel_rfl) (by kernel_rfl) (by kernel_rfl) (fun _ _ _ h => h) (yieldsIf_load_mid (by rfl) _ _ (by rfl) _ _ (by rfl) _ _ ?Sg18 ?ug18 ?dg18 ?ig18) (by assumption) ?rg18
  case Sg18 => exact (by intro w h; exact K8_0.out _ h)
  case ug18 => exact Tryd.underlying25
  case dg18 => rfl
  case ig18 => exact Z8_0
  (try simp only [List.getElem_toArray, List.getElem_cons_succ, List.getElem_cons_zero, Act.put, List.setIfInBounds_toArray, List.set_cons_zero, List.set_cons_succ])
  refine' wpAnyH_take (i := 20) (v := _) rfl (by kernel_rfl) (by kernel_rfl) (by kernel_rfl) (fun _ _ _ h => h) (yieldsIf_load_mid (by rfl) _ _ (by rfl) _ _ (by rfl) _ _ ?Sg20 ?ug20 ?dg20 ?ig20) (by assumption) ?rg20
  case Sg20 => exact (by intro w h; exact K7_0.out _ h)
  case ug20 => exact Tryd.underlying25
  case dg20 => rfl
  case ig20 => exact Z7_0
  (try simp only [List.getElem_toArray, List.getElem_cons_succ, List.getElem_cons_zero, Act.put, List.setIfInBounds_toArray, List.set_cons_zero, List.set_cons_succ])
  refine' wpAnyH_take (i := 21) (v := _) rfl (by kernel_rfl) (by kernel_rfl) (by kernel_rfl) (fun _ _ _ h => h) (yieldsIf_load_mid (by rfl) _ _ (by rfl) _ _ (by rfl) _ _ ?Sg21 ?ug21 ?dg21 ?ig21) (by assumption) ?rg21
  case Sg21 => exact (by intro w h; exact K8_0.out _ h)
  case ug21 => exact Tryd.underlying25
  case dg21 => rfl
  case ig21 => exact Z8_0
  (try simp only [List.getElem_toArray, List.getElem_cons_succ, List.getElem_cons_zero, Act.put, List.setIfInBounds_toArray, List.set_cons_zero, List.set_cons_succ])
  refine wpAnyH_ready (rs := [19]) (by kernel_rfl) (by simp) ?_
  refine AllReadyH.cons rfl (fun K hK => ?_) AllReadyH.nil
  go_simp
  go_wp2_with fail
  (with_reducible refine (C5.out _).mono ?_)
  rintro e w17 ⟨rfl, hb17⟩
  have hk17 := below_join hk16 hb17
  refine hK.out _ _ hk17 (fun hHeld => ?_)
  clear hK K hb17 hk16
  refine wpAnyH_ready (rs := [22]) (by kernel_rfl) (by simp) ?_
  refine AllReadyH.cons rfl (fun K hK => ?_) AllReadyH.nil
  go_simp
  go_wp2_with fail
  (with_reducible refine (C6.out _).mono ?_)
  rintro e w18 ⟨rfl, hb18⟩
  have hk18 := below_join hk17 hb18
  refine hK.out _ _ hk18 (fun hHeld => ?_)
  clear hK K hb18 hk17
  refine wpAnyH_take (i := 23) (v := ?vg23) rfl (by kernel_rfl) (by kernel_rfl) (by kernel_rfl) (fun _ _ _ h => h) (Or.inl ⟨by rfl, ?yg23⟩) (by assumption) ?rg23
  case yg23 => intro w hSw; (try dsimp only at hSw); go_simp <;> (try with_reducible rfl)
  (try simp only [List.getElem_toArray, List.getElem_cons_succ, List.getElem_cons_zero, Act.put, List.setIfInBounds_toArray, List.set_cons_zero, List.set_cons_succ])
  refine wpAnyH_take (i := 24) (v := ?vg24) rfl (by kernel_rfl) (by kernel_rfl) (by kernel_rfl) (fun _ _ _ h => h) (Or.inl ⟨by rfl, ?yg24⟩) (by assumption) ?rg24
  case yg24 => intro w hSw; (try dsimp only at hSw); go_simp <;> (try with_reducible rfl)
  (try simp only [List.getElem_toArray, List.getElem_cons_succ, List.getElem_cons_zero, Act.put, List.setIfInBounds_toArray, List.set_cons_zero, List.set_cons_succ])
  refine wpAnyH_take (i := 25) (v := ?vg25) rfl (by kernel_rfl) (by kernel_rfl) (by kernel_rfl) (fun _ _ _ h => h) (Or.inl ⟨by rfl, ?yg25⟩) (by assumption) ?rg25
  case yg25 => intro w hSw; (try dsimp only at hSw); go_simp <;> (try with_reducible rfl)
  (try simp only [List.getElem_toArray, List.getElem_cons_succ, List.getElem_cons_zero, Act.put, List.setIfInBounds_toArray, List.set_cons_zero, List.set_cons_succ])
  refine' wpAnyH_take (i := 26) (v := _) rfl (by kernel_rfl) (by kernel_rfl) (by kernel_rfl) (fun _ _ _ h => h) (yieldsIf_load_mid (by rfl) _ _ (by rfl) _ _ (by rfl) _ _ ?Sg26 ?ug26 ?dg26 ?ig26) (by assumption) ?rg26
  case Sg26 => exact (by intro w h; exact K6_0.out _ h)
  case ug26 => exact Tryd.underlying23
  case dg26 => rfl
  case ig26 => exact Z6_0
  (try simp only [List.getElem_toArray, List.getElem_cons_succ, List.getElem_cons_zero, Act.put, List.setIfInBounds_toArray, List.set_cons_zero, List.set_cons_succ])
  refine' wpAnyH_take (i := 28) (v := _) rfl (by kernel_rfl) (by kernel_rfl) (by kernel_rfl) (fun _ _ _ h => h) (yieldsIf_load_mid (by rfl) _ _ (by rfl) _ _ (by rfl) _ _ ?Sg28 ?ug28 ?dg28 ?ig28) (by assumption) ?rg28
  case Sg28 => exact (by intro w h; exact K6_0.out _ h)
  case ug28 => exact Tryd.underlying23
  case dg28 => rfl
  case ig28 => exact Z6_0
  (try simp only [List.getElem_toArray, List.getElem_cons_succ, List.getElem_cons_zero, Act.put, List.setIfInBounds_toArray, List.set_cons_zero, List.set_cons_succ])
  refine wpAnyH_ready (rs := [27]) (by kernel_rfl) (by simp) ?_
  refine AllReadyH.cons rfl (fun K hK => ?_) AllReadyH.nil
  go_simp
  go_wp2_with fail
  (with_reducible refine (C7.out _).mono ?_)
  rintro e w19 ⟨rfl, hb19⟩
  have hk19 := below_join hk18 hb19
  refine hK.out _ _ hk19 (fun hHeld => ?_)
  clear hK K hb19 hk18
  refine wpAnyH_ready (rs := [29]) (by kernel_rfl) (by simp) ?_
  refine AllReadyH.cons rfl (fun K hK => ?_) AllReadyH.nil
  go_simp
  go_wp2_with fail
  (with_reducible refine (C8.out _).mono ?_)
  rintro e w20 ⟨rfl, hb20⟩
  have hk20 := below_join hk19 hb20
  refine hK.out _ _ hk20 (fun hHeld => ?_)
  clear hK K hb20 hk19
  refine wpAnyH_take (i := 30) (v := ?vg30) rfl (by kernel_rfl) (by kernel_rfl) (by kernel_rfl) (fun _ _ _ h => h) (Or.inl ⟨by rfl, ?yg30⟩) (by assumption) ?rg30
  case yg30 => intro w hSw; (try dsimp only at hSw); go_simp <;> (try with_reducible rfl)
  (try simp only [List.getElem_toArray, List.getElem_cons_succ, List.getElem_cons_zero, Act.put, List.setIfInBounds_toArray, List.set_cons_zero, List.set_cons_succ])
  refine wpAnyH_take (i := 31) (v := ?vg31) rfl (by kernel_rfl) (by kernel_rfl) (by kernel_rfl) (fun _ _ _ h => h) (Or.inl ⟨by rfl, ?yg31⟩) (by assumption) ?rg31
  case yg31 => intro w hSw; (try dsimp only at hSw); go_simp <;> (try with_reducible rfl)
  (try simp only [List.getElem_toArray, List.getElem_cons_succ, List.getElem_cons_zero, Act.put, List.setIfInBounds_toArray, List.set_cons_zero, List.set_cons_succ])
  refine wpAnyH_take (i := 32) (v := ?vg32) rfl (by kernel_rfl) (by kernel_rfl) (by kernel_rfl) (fun _ _ _ h => h) (Or.inl ⟨by rfl, ?yg32⟩) (by assumption) ?rg32
  case yg32 => intro w hSw; (try dsimp only at hSw); go_simp <;> (try with_reducible rfl)
  (try simp only [List.getElem_toArray, List.getElem_cons_succ, List.getElem_cons_zero, Act.put, List.setIfInBounds_toArray, List.set_cons_zero, List.set_cons_succ])
  refine wpAnyH_done (by kernel_rfl) ?_ _
  clear hHeld K5_0 Z5_0 K6_0 Z6_0 K7_0 Z7_0 K8_0 Z8_0
  have B5 := B5.next hk20 B5.lt
  have B6 := B6.next hk20 B6.lt
  have B7 := B7.next hk20 B7.lt
  have B8 := B8.next hk20 B8.lt
  have hbe := below_join hbe hk20
  clear hk20
  go_wp2
  have hdd := below_drew w20
  have K6_0 : Hid (∀ w', Below w20.heap.size w20 w' → w'.rangeAt g6 0 (H g)) := (fun w' h => blk_range (B6.next h B6.lt) : ∀ w', Below w20.heap.size w20 w' → w'.rangeAt g6 0 (H g))
  have Z6_0 : (Tryd.prog.info? 23).map (·.size) = some (H g).length := by (rw [H_length]; exact Tryd.szH)
  have K7_0 : Hid (∀ w', Below w20.heap.size w20 w' → w'.rangeAt g7 0 p.cells) := (fun w' h => blk_range (B7.next h B7.lt) : ∀ w', Below w20.heap.size w20 w' → w'.rangeAt g7 0 p.cells)
  have Z7_0 : (Tryd.prog.info? 25).map (·.size) = some p.cells.length := by (rw [Pat.cells_length]; exact Tryd.szP)
  have K7_10 : Hid (∀ w', Below w20.heap.size w20 w' → w'.rangeAt g7 10 (H p.b)) := (fun w' h => at_b (B7.next h B7.lt) : ∀ w', Below w20.heap.size w20 w' → w'.rangeAt g7 10 (H p.b))
  have Z7_10 : (Tryd.prog.info? 23).map (·.size) = some (H p.b).length := by (rw [H_length]; exact Tryd.szH)
  have K8_0 : Hid (∀ w', Below w20.heap.size w20 w' → w'.rangeAt g8 0 q.cells) := (fun w' h => blk_range (B8.next h B8.lt) : ∀ w', Below w20.heap.size w20 w' → w'.rangeAt g8 0 q.cells)
  have Z8_0 : (Tryd.prog.info? 25).map (·.size) = some q.cells.length := by (rw [Pat.cells_length]; exact Tryd.szP)
  refine wp_region_held_drew (S := fun w' => Below w20.heap.size w20 w') (by kernel_rfl) hdd (fun hHeld => ?_)
  generalize w20.drew = wd at hdd hHeld ⊢
  refine' wpAnyH_take (i := 0) (v := _) rfl (by kernel_rfl) (by kernel_rfl) (by kernel_rfl) (fun _ _ _ h => h) (yieldsIf_load_mid (by rfl) _ _ (by rfl) _ _ (by rfl) _ _ ?Sh0 ?uh0 ?dh0 ?ih0) (by assumption) ?rh0
  case Sh0 => exact (by intro w h; exact K7_0.out _ h)
  case uh0 => exact Tryd.underlying25
  case dh0 => rfl
  case ih0 => exact Z7_0
  (try simp only [List.getElem_toArray, List.getElem_cons_zero, Act.put, List.setIfInBounds_toArray, List.set_cons_zero, List.set_cons_succ])
  refine' wpAnyH_take (i := 1) (v := _) rfl (by kernel_rfl) (by kernel_rfl) (by kernel_rfl) (fun _ _ _ h => h) (yieldsIf_load_mid (by rfl) _ _ (by rfl) _ _ (by rfl) _ _ ?Sh1 ?uh1 ?dh1 ?ih1) (by assumption) ?rh1
  case Sh1 => exact (by intro w h; exact K6_0.out _ h)
  case uh1 => exact Tryd.underlying23
  case dh1 => rfl
  case ih1 => exact Z6_0
  (try simp only [List.getElem_toArray, List.getElem_cons_succ, List.getElem_cons_zero, Act.put, List.setIfInBounds_toArray, List.set_cons_zero, List.set_cons_succ])
  refine' wpAnyH_take (i := 3) (v := _) rfl (by kernel_rfl) (by kernel_rfl) (by kernel_rfl) (fun _ _ _ h => h) (yieldsIf_load_mid (by rfl) _ _ (by rfl) _ _ (by rfl) _ _ ?Sh3 ?uh3 ?dh3 ?ih3) (by assumption) ?rh3
  case Sh3 => exact (by intro w h; exact K7_0.out _ h)
  case uh3 => exact Tryd.underlying25
  case dh3 => rfl
  case ih3 => exact Z7_0
  (try simp only [List.getElem_toArray, List.getElem_cons_succ, List.getElem_cons_zero, Act.put, List.setIfInBounds_toArray, List.set_cons_zero, List.set_cons_succ])
  refine' wpAnyH_take (i := 4) (v := _) rfl (by kernel_rfl) (by kernel_rfl) (by kernel_rfl) (fun _ _ _ h => h) (yieldsIf_load_mid (by rfl) _ _ (by rfl) _ _ (by rfl) _ _ ?Sh4 ?uh4 ?dh4 ?ih4) (by assumption) ?rh4
  case Sh4 => exact (by intro w h; exact K6_0.out _ h)
  case uh4 => exact Tryd.underlying23
  case dh4 => rfl
  case ih4 => exact Z6_0
  (try simp only [List.getElem_toArray, List.getElem_cons_succ, List.getElem_cons_zero, Act.put, List.setIfInBounds_toArray, List.set_cons_zero, List.set_cons_succ])
  refine wpAnyH_ready (rs := [2]) (by kernel_rfl) (by simp) ?_
  refine AllReadyH.cons rfl (fun K hK => ?_) AllReadyH.nil
  go_simp
  go_wp2_with fail
  (with_reducible refine (C9.out _).mono ?_)
  rintro e w21 ⟨rfl, hb21⟩
  have hk21 := below_join hdd hb21
  refine hK.out _ _ hk21 (fun hHeld => ?_)
  clear hK K hb21 hdd
  refine wpAnyH_ready (rs := [5]) (by kernel_rfl) (by simp) ?_
  refine AllReadyH.cons rfl (fun K hK => ?_) AllReadyH.nil
  go_simp
  go_wp2_with fail
  (with_reducible refine (C10.out _).mono ?_)
  rintro e w22 ⟨rfl, hb22⟩
  have hk22 := below_join hk21 hb22
  refine hK.out _ _ hk22 (fun hHeld => ?_)
  clear hK K hb22 hk21
  refine wpAnyH_take (i := 6) (v := ?vh6) rfl (by kernel_rfl) (by kernel_rfl) (by kernel_rfl) (fun _ _ _ h => h) (Or.inl ⟨by rfl, ?yh6⟩) (by assumption) ?rh6
  case yh6 => intro w hSw; (try dsimp only at hSw); go_simp <;> (try with_reducible rfl)
  (try simp only [List.getElem_toArray, List.getElem_cons_succ, List.getElem_cons_zero, Act.put, List.setIfInBounds_toArray, List.set_cons_zero, List.set_cons_succ])
  refine wpAnyH_take (i := 7) (v := ?vh7) rfl (by kernel_rfl) (by kernel_rfl) (by kernel_rfl) (fun _ _ _ h => h) (Or.inl ⟨by rfl, ?yh7⟩) (by assumption) ?rh7
  case yh7 => intro w hSw; (try dsimp only at hSw); go_simp <;> (try with_reducible rfl)
  (try simp only [List.getElem_toArray, List.getElem_cons_succ, List.getElem_cons_zero, Act.put, List.setIfInBounds_toArray, List.set_cons_zero, List.set_cons_succ])
  refine' wpAnyH_take (i := 8) (v := _) rfl (by kernel_rfl) (by kernel_rfl) (by kernel_rfl) (fun _ _ _ h => h) (yieldsIf_load_mid (by rfl) _ _ (by rfl) _ _ (by rfl) _ _ ?Sh8 ?uh8 ?dh8 ?ih8) (by assumption) ?rh8
  case Sh8 => exact (by intro w h; exact K7_0.out _ h)
  case uh8 => exact Tryd.underlying25
  case dh8 => rfl
  case ih8 => exact Z7_0
  (try simp only [List.getElem_toArray, List.getElem_cons_succ, List.getElem_cons_zero, Act.put, List.setIfInBounds_toArray, List.set_cons_zero, List.set_cons_succ])
  refine wpAnyH_take (i := 10) (v := ?vh10) rfl (by kernel_rfl) (by kernel_rfl) (by kernel_rfl) (fun _ _ _ h => h) (Or.inl ⟨by rfl, ?yh10⟩) (by assumption) ?rh10
  case yh10 => intro w hSw; (try dsimp only at hSw); go_simp <;> (try with_reducible rfl)
  (try simp only [List.getElem_toArray, List.getElem_cons_succ, List.getElem_cons_zero, Act.put, List.setIfInBounds_toArray, List.set_cons_zero, List.set_cons_succ])
  refine' wpAnyH_take (i := 11) (v := _) rfl (by kernel_rfl) (by kernel_rfl) (by kernel_rfl) (fun _ _ _ h => h) (yieldsIf_load_mid (by rfl) _ _ (by rfl) _ _ (by rfl) _ _ ?Sh11 ?uh11 ?dh11 ?ih11) (by assumption) ?rh11
  case Sh11 => exact (by intro w h; exact K7_10.out _ h)
  case uh11 => exact Tryd.underlying23
  case dh11 => rfl
  case ih11 => exact Z7_10
  (try simp only [List.getElem_toArray, List.getElem_cons_succ, List.getElem_cons_zero, Act.put, List.setIfInBounds_toArray, List.set_cons_zero, List.set_cons_succ])
  refine wpAnyH_ready (rs := [9]) (by kernel_rfl) (by simp) ?_
  refine AllReadyH.cons rfl (fun K hK => ?_) AllReadyH.nil
  go_simp
  go_wp2_with fail
  (with_reducible refine (C11.out _).mono ?_)
  rintro e w23 ⟨rfl, hb23⟩
  have hk23 := below_join hk22 hb23
  refine hK.out _ _ hk23 (fun hHeld => ?_)
  clear hK K hb23 hk22
  refine wpAnyH_take (i := 12) (v := ?vh12) rfl (by kernel_rfl) (by kernel_rfl) (by kernel_rfl) (fun _ _ _ h => h) (Or.inl ⟨by rfl, ?yh12⟩) (by assumption) ?rh12
  case yh12 => intro w hSw; (try dsimp only at hSw); go_simp <;> (try with_reducible rfl)
  (try simp only [List.getElem_toArray, List.getElem_cons_succ, List.getElem_cons_zero, Act.put, List.setIfInBounds_toArray, List.set_cons_zero, List.set_cons_succ])
  refine wpAnyH_take (i := 13) (v := ?vh13) rfl (by kernel_rfl) (by kernel_rfl) (by kernel_rfl) (fun _ _ _ h => h) (Or.inl ⟨by rfl, ?yh13⟩) (by assumption) ?rh13
  case yh13 => intro w hSw; (try dsimp only at hSw); go_simp <;> (try with_reducible rfl)
  (try simp only [List.getElem_toArray, List.getElem_cons_succ, List.getElem_cons_zero, Act.put, List.setIfInBounds_toArray, List.set_cons_zero, List.set_cons_succ])
  refine wpAnyH_take (i := 14) (v := ?vh14) rfl (by kernel_rfl) (by kernel_rfl) (by kernel_rfl) (fun _ _ _ h => h) (Or.inl ⟨by rfl, ?yh14⟩) (by assumption) ?rh14
  case yh14 => intro w hSw; (try dsimp only at hSw); go_simp <;> (try with_reducible rfl)
  (try simp only [List.getElem_toArray, List.getElem_cons_succ, List.getElem_cons_zero, Act.put, List.setIfInBounds_toArray, List.set_cons_zero, List.set_cons_succ])
  refine' wpAnyH_take (i := 15) (v := _) rfl (by kernel_rfl) (by kernel_rfl) (by kernel_rfl) (fun _ _ _ h => h) (yieldsIf_load_mid (by rfl) _ _ (by rfl) _ _ (by rfl) _ _ ?Sh15 ?uh15 ?dh15 ?ih15) (by assumption) ?rh15
  case Sh15 => exact (by intro w h; exact K7_0.out _ h)
  case uh15 => exact Tryd.underlying25
  case dh15 => rfl
  case ih15 => exact Z7_0
  (try simp only [List.getElem_toArray, List.getElem_cons_succ, List.getElem_cons_zero, Act.put, List.setIfInBounds_toArray, List.set_cons_zero, List.set_cons_succ])
  refine' wpAnyH_take (i := 17) (v := _) rfl (by kernel_rfl) (by kernel_rfl) (by kernel_rfl) (fun _ _ _ h => h) (yieldsIf_load_mid (by rfl) _ _ (by rfl) _ _ (by rfl) _ _ ?Sh17 ?uh17 ?dh17 ?ih17) (by assumption) ?rh17
  case Sh17 => exact (by intro w h; exact K7_0.out _ h)
  case uh17 => exact Tryd.underlying25
  case dh17 => rfl
  case ih17 => exact Z7_0
  (try simp only [List.getElem_toArray, List.getElem_cons_succ, List.getElem_cons_zero, Act.put, List.setIfInBounds_toArray, List.set_cons_zero, List.set_cons_succ])
  refine wpAnyH_ready (rs := [16]) (by kernel_rfl) (by simp) ?_
  refine AllReadyH.cons rfl (fun K hK => ?_) AllReadyH.nil
  go_simp
  go_wp2_with fail
  (with_reducible refine (C12.out _).mono ?_)
  rintro e w24 ⟨rfl, hb24⟩
  have hk24 := below_join hk23 hb24
  refine hK.out _ _ hk24 (fun hHeld => ?_)
  clear hK K hb24 hk23
  refine wpAnyH_ready (rs := [18]) (by kernel_rfl) (by simp) ?_
  refine AllReadyH.cons rfl (fun K hK => ?_) AllReadyH.nil
  go_simp
  go_wp2_with fail
  (with_reducible refine (C13.out _).mono ?_)
  rintro e w25 ⟨rfl, hb25⟩
  have hk25 := below_join hk24 hb25
  refine hK.out _ _ hk25 (fun hHeld => ?_)
  clear hK K hb25 hk24
  refine wpAnyH_take (i := 19) (v := ?vh19) rfl (by kernel_rfl) (by kernel_rfl) (by kernel_rfl) (fun _ _ _ h => h) (Or.inl ⟨by rfl, ?yh19⟩) (by assumption) ?rh19
  case yh19 => intro w hSw; (try dsimp only at hSw); go_simp <;> (try with_reducible rfl)
  (try simp only [List.getElem_toArray, List.getElem_cons_succ, List.getElem_cons_zero, Act.put, List.setIfInBounds_toArray, List.set_cons_zero, List.set_cons_succ])
  refine wpAnyH_take (i := 20) (v := ?vh20) rfl (by kernel_rfl) (by kernel_rfl) (by kernel_rfl) (fun _ _ _ h => h) (Or.inl ⟨by rfl, ?yh20⟩) (by assumption) ?rh20
  case yh20 => intro w hSw; (try dsimp only at hSw); go_simp <;> (try with_reducible rfl)
  (try simp only [List.getElem_toArray, List.getElem_cons_succ, List.getElem_cons_zero, Act.put, List.setIfInBounds_toArray, List.set_cons_zero, List.set_cons_succ])
  refine wpAnyH_take (i := 21) (v := ?vh21) rfl (by kernel_rfl) (by kernel_rfl) (by kernel_rfl) (fun _ _ _ h => h) (Or.inl ⟨by rfl, ?yh21⟩) (by assumption) ?rh21
  case yh21 => intro w hSw; (try dsimp only at hSw); go_simp <;> (try with_reducible rfl)
  (try simp only [List.getElem_toArray, List.getElem_cons_succ, List.getElem_cons_zero, Act.put, List.setIfInBounds_toArray, List.set_cons_zero, List.set_cons_succ])
  refine' wpAnyH_take (i := 22) (v := _) rfl (by kernel_rfl) (by kernel_rfl) (by kernel_rfl) (fun _ _ _ h => h) (yieldsIf_load_mid (by rfl) _ _ (by rfl) _ _ (by rfl) _ _ ?Sh22 ?uh22 ?dh22 ?ih22) (by assumption) ?rh22
  case Sh22 => exact (by intro w h; exact K7_0.out _ h)
  case uh22 => exact Tryd.underlying25
  case dh22 => rfl
  case ih22 => exact Z7_0
  (try simp only [List.getElem_toArray, List.getElem_cons_succ, List.getElem_cons_zero, Act.put, List.setIfInBounds_toArray, List.set_cons_zero, List.set_cons_succ])
  refine' wpAnyH_take (i := 23) (v := _) rfl (by kernel_rfl) (by kernel_rfl) (by kernel_rfl) (fun _ _ _ h => h) (yieldsIf_load_mid (by rfl) _ _ (by rfl) _ _ (by rfl) _ _ ?Sh23 ?uh23 ?dh23 ?ih23) (by assumption) ?rh23
  case Sh23 => exact (by intro w h; exact K8_0.out _ h)
  case uh23 => exact Tryd.underlying25
  case dh23 => rfl
  case ih23 => exact Z8_0
  (try simp only [List.getElem_toArray, List.getElem_cons_succ, List.getElem_cons_zero, Act.put, List.setIfInBounds_toArray, List.set_cons_zero, List.set_cons_succ])
  refine' wpAnyH_take (i := 25) (v := _) rfl (by kernel_rfl) (by kernel_rfl) (by kernel_rfl) (fun _ _ _ h => h) (yieldsIf_load_mid (by rfl) _ _ (by rfl) _ _ (by rfl) _ _ ?Sh25 ?uh25 ?dh25 ?ih25) (by assumption) ?rh25
  case Sh25 => exact (by intro w h; exact K7_0.out _ h)
  case uh25 => exact Tryd.underlying25
  case dh25 => rfl
  case ih25 => exact Z7_0
  (try simp only [List.getElem_toArray, List.getElem_cons_succ, List.getElem_cons_zero, Act.put, List.setIfInBounds_toArray, List.set_cons_zero, List.set_cons_succ])
  refine' wpAnyH_take (i := 26) (v := _) rfl (by kernel_rfl) (by kernel_rfl) (by kernel_rfl) (fun _ _ _ h => h) (yieldsIf_load_mid (by rfl) _ _ (by rfl) _ _ (by rfl) _ _ ?Sh26 ?uh26 ?dh26 ?ih26) (by assumption) ?rh26
  case Sh26 => exact (by intro w h; exact K8_0.out _ h)
  case uh26 => exact Tryd.underlying25
  case dh26 => rfl
  case ih26 => exact Z8_0
  (try simp only [List.getElem_toArray, List.getElem_cons_succ, List.getElem_cons_zero, Act.put, List.setIfInBounds_toArray, List.set_cons_zero, List.set_cons_succ])
  refine wpAnyH_ready (rs := [24]) (by kernel_rfl) (by simp) ?_
  refine AllReadyH.cons rfl (fun K hK => ?_) AllReadyH.nil
  go_simp
  go_wp2_with fail
  (with_reducible refine (C14.out _).mono ?_)
  rintro e w26 ⟨rfl, hb26⟩
  have hk26 := below_join hk25 hb26
  refine hK.out _ _ hk26 (fun hHeld => ?_)
  clear hK K hb26 hk25
  refine wpAnyH_ready (rs := [27]) (by kernel_rfl) (by simp) ?_
  refine AllReadyH.cons rfl (fun K hK => ?_) AllReadyH.nil
  go_simp
  go_wp2_with fail
  (with_reducible refine (C15.out _).mono ?_)
  rintro e w27 ⟨rfl, hb27⟩
  have hk27 := below_join hk26 hb27
  refine hK.out _ _ hk27 (fun hHeld => ?_)
  clear hK K hb27 hk26
  refine wpAnyH_take (i := 28) (v := ?vh28) rfl (by kernel_rfl) (by kernel_rfl) (by kernel_rfl) (fun _ _ _ h => h) (Or.inl ⟨by rfl, ?yh28⟩) (by assumption) ?rh28
  case yh28 => intro w hSw; (try dsimp only at hSw); go_simp <;> (try with_reducible rfl)
  (try simp only [List.getElem_toArray, List.getElem_cons_succ, List.getElem_cons_zero, Act.put, List.setIfInBounds_toArray, List.set_cons_zero, List.set_cons_succ])
  refine wpAnyH_take (i := 29) (v := ?vh29) rfl (by kernel_rfl) (by kernel_rfl) (by kernel_rfl) (fun _ _ _ h => h) (Or.inl ⟨by rfl, ?yh29⟩) (by assumption) ?rh29
  case yh29 => intro w hSw; (try dsimp only at hSw); go_simp <;> (try with_reducible rfl)
  (try simp only [List.getElem_toArray, List.getElem_cons_succ, List.getElem_cons_zero, Act.put, List.setIfInBounds_toArray, List.set_cons_zero, List.set_cons_succ])
  refine wpAnyH_take (i := 30) (v := ?vh30) rfl (by kernel_rfl) (by kernel_rfl) (by kernel_rfl) (fun _ _ _ h => h) (Or.inl ⟨by rfl, ?yh30⟩) (by assumption) ?rh30
  case yh30 => intro w hSw; (try dsimp only at hSw); go_simp <;> (try with_reducible rfl)
  (try simp only [List.getElem_toArray, List.getElem_cons_succ, List.getElem_cons_zero, Act.put, List.setIfInBounds_toArray, List.set_cons_zero, List.set_cons_succ])
  refine' wpAnyH_take (i := 31) (v := _) rfl (by kernel_rfl) (by kernel_rfl) (by kernel_rfl) (fun _ _ _ h => h) (yieldsIf_load_mid (by rfl) _ _ (by rfl) _ _ (by rfl) _ _ ?Sh31 ?uh31 ?dh31 ?ih31) (by assumption) ?rh31
  case Sh31 => exact (by intro w h; exact K7_0.out _ h)
  case uh31 => exact Tryd.underlying25
  case dh31 => rfl
  case ih31 => exact Z7_0
  (try simp only [List.getElem_toArray, List.getElem_cons_succ, List.getElem_cons_zero, Act.put, List.setIfInBounds_toArray, List.set_cons_zero, List.set_cons_succ])
  refine' wpAnyH_take (i := 32) (v := _) rfl (by kernel_rfl) (by kernel_rfl) (by kernel_rfl) (fun _ _ _ h => h) (yieldsIf_load_mid (by rfl) _ _ (by rfl) _ _ (by rfl) _ _ ?Sh32 ?uh32 ?dh32 ?ih32) (by assumption) ?rh32
  case Sh32 => exact (by intro w h; exact K8_0.out _ h)
  case uh32 => exact Tryd.underlying25
  case dh32 => rfl
  case ih32 => exact Z8_0
  (try simp only [List.getElem_toArray, List.getElem_cons_succ, List.getElem_cons_zero, Act.put, List.setIfInBounds_toArray, List.set_cons_zero, List.set_cons_succ])
  refine' wpAnyH_take (i := 34) (v := _) rfl (by kernel_rfl) (by kernel_rfl) (by kernel_rfl) (fun _ _ _ h => h) (yieldsIf_load_mid (by rfl) _ _ (by rfl) _ _ (by rfl) _ _ ?Sh34 ?uh34 ?dh34 ?ih34) (by assumption) ?rh34
  case Sh34 => exact (by intro w h; exact K7_0.out _ h)
  case uh34 => exact Tryd.underlying25
  case dh34 => rfl
  case ih34 => exact Z7_0
  (try simp only [List.getElem_toArray, List.getElem_cons_succ, List.getElem_cons_zero, Act.put, List.setIfInBounds_toArray, List.set_cons_zero, List.set_cons_succ])
  refine' wpAnyH_take (i := 35) (v := _) rfl (by kernel_rfl) (by kernel_rfl) (by kernel_rfl) (fun _ _ _ h => h) (yieldsIf_load_mid (by rfl) _ _ (by rfl) _ _ (by rfl) _ _ ?Sh35 ?uh35 ?dh35 ?ih35) (by assumption) ?rh35
  case Sh35 => exact (by intro w h; exact K8_0.out _ h)
  case uh35 => exact Tryd.underlying25
  case dh35 => rfl
  case ih35 => exact Z8_0
  (try simp only [List.getElem_toArray, List.getElem_cons_succ, List.getElem_cons_zero, Act.put, List.setIfInBounds_toArray, List.set_cons_zero, List.set_cons_succ])
  refine wpAnyH_ready (rs := [33]) (by kernel_rfl) (by simp) ?_
  refine AllReadyH.cons rfl (fun K hK => ?_) AllReadyH.nil
  go_simp
  go_wp2_with fail
  (with_reducible refine (C16.out _).mono ?_)
  rintro e w28 ⟨rfl, hb28⟩
  have hk28 := below_join hk27 hb28
  refine hK.out _ _ hk28 (fun hHeld => ?_)
  clear hK K hb28 hk27
  refine wpAnyH_ready (rs := [36]) (by kernel_rfl) (by simp) ?_
  refine AllReadyH.cons rfl (fun K hK => ?_) AllReadyH.nil
  go_simp
  go_wp2_with fail
  (with_reducible refine (C17.out _).mono ?_)
  rintro e w29 ⟨rfl, hb29⟩
  have hk29 := below_join hk28 hb29
  refine hK.out _ _ hk29 (fun hHeld => ?_)
  clear hK K hb29 hk28
  refine wpAnyH_take (i := 37) (v := ?vh37) rfl (by kernel_rfl) (by kernel_rfl) (by kernel_rfl) (fun _ _ _ h => h) (Or.inl ⟨by rfl, ?yh37⟩) (by assumption) ?rh37
  case yh37 => intro w hSw; (try dsimp only at hSw); go_simp <;> (try with_reducible rfl)
  (try simp only [List.getElem_toArray, List.getElem_cons_succ, List.getElem_cons_zero, Act.put, List.setIfInBounds_toArray, List.set_cons_zero, List.set_cons_succ])
  refine wpAnyH_take (i := 38) (v := ?vh38) rfl (by kernel_rfl) (by kernel_rfl) (by kernel_rfl) (fun _ _ _ h => h) (Or.inl ⟨by rfl, ?yh38⟩) (by assumption) ?rh38
  case yh38 => intro w hSw; (try dsimp only at hSw); go_simp <;> (try with_reducible rfl)
  (try simp only [List.getElem_toArray, List.getElem_cons_succ, List.getElem_cons_zero, Act.put, List.setIfInBounds_toArray, List.set_cons_zero, List.set_cons_succ])
  refine wpAnyH_take (i := 39) (v := ?vh39) rfl (by kernel_rfl) (by kernel_rfl) (by kernel_rfl) (fun _ _ _ h => h) (Or.inl ⟨by rfl, ?yh39⟩) (by assumption) ?rh39
  case yh39 => intro w hSw; (try dsimp only at hSw); go_simp <;> (try with_reducible rfl)
  (try simp only [List.getElem_toArray, List.getElem_cons_succ, List.getElem_cons_zero, Act.put, List.setIfInBounds_toArray, List.set_cons_zero, List.set_cons_succ])
  refine wpAnyH_done (by kernel_rfl) ?_ _
  clear hHeld K6_0 Z6_0 K7_0 Z7_0 K7_10 Z7_10 K8_0 Z8_0
  have B5 := B5.next hk29 B5.lt
  have B6 := B6.next hk29 B6.lt
  have B7 := B7.next hk29 B7.lt
  have B8 := B8.next hk29 B8.lt
  have hbe := below_join hbe hk29
  clear hk29
  go_wp2_with (first | (with_reducible refine wpList_getg (o := ⟨some 127, .load 25 (.tmp 7), _, _, _, _⟩) (by with_unfolding_all rfl) 25 (.tmp 7) (by with_unfolding_all rfl) g7 0 (by with_unfolding_all rfl) B7 p.cells (cs_all _) _ (by exact Tryd.underlying25) (by with_unfolding_all rfl) (by (rw [Pat.cells_length]; exact Tryd.szP)) ?_) | (with_reducible refine wpList_getg (o := ⟨some 128, .load 25 (.tmp 8), _, _, _, _⟩) (by with_unfolding_all rfl) 25 (.tmp 8) (by with_unfolding_all rfl) g8 0 (by with_unfolding_all rfl) B8 q.cells (cs_all _) _ (by exact Tryd.underlying25) (by with_unfolding_all rfl) (by (rw [Pat.cells_length]; exact Tryd.szP)) ?_))
  (with_reducible refine (C18.out _).mono ?_)
  rintro e w30 ⟨rfl, hb30⟩
  have B5 := B5.next hb30 B5.lt
  have B6 := B6.next hb30 B6.lt
  have B7 := B7.next hb30 B7.lt
  have B8 := B8.next hb30 B8.lt
  have hbe := below_join hbe hb30
  clear hb30
  go_wp2_with (with_reducible refine wpList_alloc (o := ⟨some 14, .alloc 25, _, _, _, _⟩) (by with_unfolding_all rfl) 25 (by with_unfolding_all rfl) (.agg (H no ++ H no).toArray) (H no ++ H no) (by exact Tryd.zeroPt) (by with_unfolding_all rfl) ?_)
  intro g14 w31 hg14 hs31 hb31 hB31
  have hl31 : w30.heap.size ≤ g14 := Nat.le_of_eq hg14.out.symm
  have hb31 := hb31.mono hl31
  go_wp2_with (with_reducible refine wpList_put (o := ⟨none, .store 25 (.tmp 14) (.tmp 130), _, _, _, _⟩) (by with_unfolding_all rfl) 25 (.tmp 14) (.tmp 130) (by with_unfolding_all rfl) g14 0 (by with_unfolding_all rfl) (.agg A.cells.toArray) (by with_unfolding_all rfl) hB31 A.cells (by with_unfolding_all rfl) (by with_unfolding_all (rw [Pat.cells_length]; exact Tryd.szP)) (by with_unfolding_all (rw [Pat.cells_length, List.length_append, H_length] <;> omega)) (by with_unfolding_all (exact cells_one _)) ?_)
  intro w32 hu32 B14
  rw [splice_all _ _ (by rw [Pat.cells_length, List.length_append, H_length])] at B14
  have hb32 := hb31.trans (hu32.below (B := w30.heap.size) hl31)
  have B5 := B5.next hb32 B5.lt
  have B6 := B6.next hb32 B6.lt
  have B7 := B7.next hb32 B7.lt
  have B8 := B8.next hb32 B8.lt
  have hbe := below_join hbe hb32
  clear hb31 hb32 hu32 hB31 hl31 hg14 hs31
  go_wp2_with (first | (with_reducible refine wpList_getg (o := ⟨some 133, .load 25 (.tmp 7), _, _, _, _⟩) (by with_unfolding_all rfl) 25 (.tmp 7) (by with_unfolding_all rfl) g7 0 (by with_unfolding_all rfl) B7 p.cells (cs_all _) _ (by exact Tryd.underlying25) (by with_unfolding_all rfl) (by (rw [Pat.cells_length]; exact Tryd.szP)) ?_) | (with_reducible refine wpList_getg (o := ⟨some 134, .load 25 (.tmp 8), _, _, _, _⟩) (by with_unfolding_all rfl) 25 (.tmp 8) (by with_unfolding_all rfl) g8 0 (by with_unfolding_all rfl) B8 q.cells (cs_all _) _ (by exact Tryd.underlying25) (by with_unfolding_all rfl) (by (rw [Pat.cells_length]; exact Tryd.szP)) ?_))
  (with_reducible refine (C19.out _).mono ?_)
  rintro e w33 ⟨rfl, hb33⟩
  have B5 := B5.next hb33 B5.lt
  have B6 := B6.next hb33 B6.lt
  have B7 := B7.next hb33 B7.lt
  have B8 := B8.next hb33 B8.lt
  have B14 := B14.next hb33 B14.lt
  have hbe := below_join hbe hb33
  clear hb33
  go_wp2_with (with_reducible refine wpList_alloc (o := ⟨some 16, .alloc 25, _, _, _, _⟩) (by with_unfolding_all rfl) 25 (by with_unfolding_all rfl) (.agg (H no ++ H no).toArray) (H no ++ H no) (by exact Tryd.zeroPt) (by with_unfolding_all rfl) ?_)
  intro g16 w34 hg16 hs34 hb34 hB34
  have hl34 : w33.heap.size ≤ g16 := Nat.le_of_eq hg16.out.symm
  have hb34 := hb34.mono hl34
  go_wp2_with (with_reducible refine wpList_put (o := ⟨none, .store 25 (.tmp 16) (.tmp 136), _, _, _, _⟩) (by with_unfolding_all rfl) 25 (.tmp 16) (.tmp 136) (by with_unfolding_all rfl) g16 0 (by with_unfolding_all rfl) (.agg A.cells.toArray) (by with_unfolding_all rfl) hB34 A.cells (by with_unfolding_all rfl) (by with_unfolding_all (rw [Pat.cells_length]; exact Tryd.szP)) (by with_unfolding_all (rw [Pat.cells_length, List.length_append, H_length] <;> omega)) (by with_unfolding_all (exact cells_one _)) ?_)
  intro w35 hu35 B16
  rw [splice_all _ _ (by rw [Pat.cells_length, List.length_append, H_length])] at B16
  have hb35 := hb34.trans (hu35.below (B := w33.heap.size) hl34)
  have B5 := B5.next hb35 B5.lt
  have B6 := B6.next hb35 B6.lt
  have B7 := B7.next hb35 B7.lt
  have B8 := B8.next hb35 B8.lt
  have B14 := B14.next hb35 B14.lt
  have hbe := below_join hbe hb35
  clear hb34 hb35 hu35 hB34 hl34 hg16 hs34
  go_wp2_with (first | (with_reducible refine wpList_getg (o := ⟨some 139, .load 25 (.tmp 7), _, _, _, _⟩) (by with_unfolding_all rfl) 25 (.tmp 7) (by with_unfolding_all rfl) g7 0 (by with_unfolding_all rfl) B7 p.cells (cs_all _) _ (by exact Tryd.underlying25) (by with_unfolding_all rfl) (by (rw [Pat.cells_length]; exact Tryd.szP)) ?_) | (with_reducible refine wpList_getg (o := ⟨some 140, .load 25 (.tmp 8), _, _, _, _⟩) (by with_unfolding_all rfl) 25 (.tmp 8) (by with_unfolding_all rfl) g8 0 (by with_unfolding_all rfl) B8 q.cells (cs_all _) _ (by exact Tryd.underlying25) (by with_unfolding_all rfl) (by (rw [Pat.cells_length]; exact Tryd.szP)) ?_))
  (with_reducible refine (C20.out _).mono ?_)
  rintro e w36 ⟨rfl, hb36⟩
  have B5 := B5.next hb36 B5.lt
  have B6 := B6.next hb36 B6.lt
  have B7 := B7.next hb36 B7.lt
  have B8 := B8.next hb36 B8.lt
  have B14 := B14.next hb36 B14.lt
  have B16 := B16.next hb36 B16.lt
  have hbe := below_join hbe hb36
  clear hb36
  go_wp2_with (with_reducible refine wpList_alloc (o := ⟨some 18, .alloc 25, _, _, _, _⟩) (by with_unfolding_all rfl) 25 (by with_unfolding_all rfl) (.agg (H no ++ H no).toArray) (H no ++ H no) (by exact Tryd.zeroPt) (by with_unfolding_all rfl) ?_)
  intro g18 w37 hg18 hs37 hb37 hB37
  have hl37 : w36.heap.size ≤ g18 := Nat.le_of_eq hg18.out.symm
  have hb37 := hb37.mono hl37
  go_wp2_with (with_reducible refine wpList_put (o := ⟨none, .store 25 (.tmp 18) (.tmp 142), _, _, _, _⟩) (by with_unfolding_all rfl) 25 (.tmp 18) (.tmp 142) (by with_unfolding_all rfl) g18 0 (by with_unfolding_all rfl) (.agg J.cells.toArray) (by with_unfolding_all rfl) hB37 J.cells (by with_unfolding_all rfl) (by with_unfolding_all (rw [Pat.cells_length]; exact Tryd.szP)) (by with_unfolding_all (rw [Pat.cells_length, List.length_append, H_length] <;> omega)) (by with_unfolding_all (exact cells_one _)) ?_)
  intro w38 hu38 B18
  rw [splice_all _ _ (by rw [Pat.cells_length, List.length_append, H_length])] at B18
  have hb38 := hb37.trans (hu38.below (B := w36.heap.size) hl37)
  have B5 := B5.next hb38 B5.lt
  have B6 := B6.next hb38 B6.lt
  have B7 := B7.next hb38 B7.lt
  have B8 := B8.next hb38 B8.lt
  have B14 := B14.next hb38 B14.lt
  have B16 := B16.next hb38 B16.lt
  have hbe := below_join hbe hb38
  clear hb37 hb38 hu38 hB37 hl37 hg18 hs37
  go_wp2_with (first | (with_reducible refine wpList_getg (o := ⟨some 145, .load 25 (.tmp 7), _, _, _, _⟩) (by with_unfolding_all rfl) 25 (.tmp 7) (by with_unfolding_all rfl) g7 0 (by with_unfolding_all rfl) B7 p.cells (cs_all _) _ (by exact Tryd.underlying25) (by with_unfolding_all rfl) (by (rw [Pat.cells_length]; exact Tryd.szP)) ?_) | (with_reducible refine wpList_getg (o := ⟨some 146, .load 25 (.tmp 8), _, _, _, _⟩) (by with_unfolding_all rfl) 25 (.tmp 8) (by with_unfolding_all rfl) g8 0 (by with_unfolding_all rfl) B8 q.cells (cs_all _) _ (by exact Tryd.underlying25) (by with_unfolding_all rfl) (by (rw [Pat.cells_length]; exact Tryd.szP)) ?_))
  (with_reducible refine (C21.out _).mono ?_)
  rintro e w39 ⟨rfl, hb39⟩
  have B5 := B5.next hb39 B5.lt
  have B6 := B6.next hb39 B6.lt
  have B7 := B7.next hb39 B7.lt
  have B8 := B8.next hb39 B8.lt
  have B14 := B14.next hb39 B14.lt
  have B16 := B16.next hb39 B16.lt
  have B18 := B18.next hb39 B18.lt
  have hbe := below_join hbe hb39
  clear hb39
  go_wp2_with (with_reducible refine wpList_alloc (o := ⟨some 20, .alloc 25, _, _, _, _⟩) (by with_unfolding_all rfl) 25 (by with_unfolding_all rfl) (.agg (H no ++ H no).toArray) (H no ++ H no) (by exact Tryd.zeroPt) (by with_unfolding_all rfl) ?_)
  intro g20 w40 hg20 hs40 hb40 hB40
  have hl40 : w39.heap.size ≤ g20 := Nat.le_of_eq hg20.out.symm
  have hb40 := hb40.mono hl40
  go_wp2_with (with_reducible refine wpList_put (o := ⟨none, .store 25 (.tmp 20) (.tmp 148), _, _, _, _⟩) (by with_unfolding_all rfl) 25 (.tmp 20) (.tmp 148) (by with_unfolding_all rfl) g20 0 (by with_unfolding_all rfl) (.agg J.cells.toArray) (by with_unfolding_all rfl) hB40 J.cells (by with_unfolding_all rfl) (by with_unfolding_all (rw [Pat.cells_length]; exact Tryd.szP)) (by with_unfolding_all (rw [Pat.cells_length, List.length_append, H_length] <;> omega)) (by with_unfolding_all (exact cells_one _)) ?_)
  intro w41 hu41 B20
  rw [splice_all _ _ (by rw [Pat.cells_length, List.length_append, H_length])] at B20
  have hb41 := hb40.trans (hu41.below (B := w39.heap.size) hl40)
  have B5 := B5.next hb41 B5.lt
  have B6 := B6.next hb41 B6.lt
  have B7 := B7.next hb41 B7.lt
  have B8 := B8.next hb41 B8.lt
  have B14 := B14.next hb41 B14.lt
  have B16 := B16.next hb41 B16.lt
  have B18 := B18.next hb41 B18.lt
  have hbe := below_join hbe hb41
  clear hb40 hb41 hu41 hB40 hl40 hg20 hs40
  go_wp2_with (first | (with_reducible refine wpList_getg (o := ⟨some 158, .load 25 (.tmp 14), _, _, _, _⟩) (by with_unfolding_all rfl) 25 (.tmp 14) (by with_unfolding_all rfl) g14 0 (by with_unfolding_all rfl) B14 A.cells (cs_all _) _ (by exact Tryd.underlying25) (by with_unfolding_all rfl) (by (rw [Pat.cells_length]; exact Tryd.szP)) ?_) | (with_reducible refine wpList_getg (o := ⟨some 159, .load 25 (.tmp 16), _, _, _, _⟩) (by with_unfolding_all rfl) 25 (.tmp 16) (by with_unfolding_all rfl) g16 0 (by with_unfolding_all rfl) B16 A.cells (cs_all _) _ (by exact Tryd.underlying25) (by with_unfolding_all rfl) (by (rw [Pat.cells_length]; exact Tryd.szP)) ?_) | (with_reducible refine wpList_getg (o := ⟨some 168, .load 25 (.tmp 18), _, _, _, _⟩) (by with_unfolding_all rfl) 25 (.tmp 18) (by with_unfolding_all rfl) g18 0 (by with_unfolding_all rfl) B18 J.cells (cs_all _) _ (by exact Tryd.underlying25) (by with_unfolding_all rfl) (by (rw [Pat.cells_length]; exact Tryd.szP)) ?_) | (with_reducible refine wpList_getg (o := ⟨some 169, .load 25 (.tmp 20), _, _, _, _⟩) (by with_unfolding_all rfl) 25 (.tmp 20) (by with_unfolding_all rfl) g20 0 (by with_unfolding_all rfl) B20 J.cells (cs_all _) _ (by exact Tryd.underlying25) (by with_unfolding_all rfl) (by (rw [Pat.cells_length]; exact Tryd.szP)) ?_))
  go_ret
  exact ⟨rfl, hbe⟩
/-- Whatever comes in. -/
theorem matchLaw_any (lg lh pm pb qm qb : List Int) (i : Int) (w : World) (h1 : lg.length = 10) (h2 : lh.length = 10) (h3 : pm.length = 10) (h4 : pb.length = 10) (h5 : qm.length = 10) (h6 : qb.length = 10) (hG : GOk w) :
    Calls Tryd.prog 3 #[.agg (lg.map iV).toArray, .agg (lh.map iV).toArray, .agg (pm.map iV ++ pb.map iV).toArray, .agg (qm.map iV ++ qb.map iV).toArray, .int .i64 i] w fun e w' => e = .returned (.bool true) ∧ Below w.heap.size w w' := by
  by_cases hc : (rightI lg ∧ rightI lh) ∧ (pairI pm pb = true ∧ pairI qm qb = true) ∧ 0 ≤ i ∧ i ≤ 159
  · obtain ⟨f, rfl⟩ := right_head h1 hc.1.1
    obtain ⟨g, rfl⟩ := right_head h2 hc.1.2
    obtain ⟨p, hp, rfl, rfl⟩ := right_pat h3 h4 hc.2.1.1
    obtain ⟨q, hq, rfl, rfl⟩ := right_pat h5 h6 hc.2.1.2
    obtain ⟨k, rfl⟩ : ∃ k : Nat, i = (k : Int) := ⟨i.toNat, by omega⟩
    rw [← H_iV, ← H_iV, ← H_iV, ← H_iV, ← H_iV, ← H_iV]
    exact match_good f g p q k w hp hq (by omega) hG
  · exact match_bad lg lh pm pb qm qb i w h1 h2 h3 h4 h5 h6 hG hc
end Go.Proofs.YtbldnhpbmfmepaaDoor
