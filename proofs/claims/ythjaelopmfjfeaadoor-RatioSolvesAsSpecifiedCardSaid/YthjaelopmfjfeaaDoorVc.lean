/-
  Contracts of the walks over whole, Check and Of of both sides. Conditions: none.
-/
import Derived.Test.YthjaelopmfjfeaaDoorVb
namespace Go.Proofs.YthjaelopmfjfeaaDoor
set_option linter.unusedVariables false
set_option linter.unusedSimpArgs false
open Go.RowKit

/-- No ratio, and an error. -/
def zret (k : Int) : Ending := .returned (.tuple #[.agg zC.toArray, .int .i64 k])
/-- A number as a normal ratio, or the error if it is too large. -/
def ansQ (q : Rat) : Ending := if fits q then .returned (.tuple #[.agg (qC q).toArray, .int .i64 0]) else zret 17
/-- The number n / d. -/
def ofE (n d : Int) : Ending := if d = 0 then zret 1 else if (-2305843009213693952 ≤ n ∧ n ≤ 2305843009213693952) ∧ (-2305843009213693952 ≤ d ∧ d ≤ 2305843009213693952) then ansQ (Rat.divInt n d) else zret 17
theorem int_one (n d : Int) : ∀ u ∈ [Value.int .i64 n, Value.int .i64 d], u.oneCell' = true := fun u hu => by simp at hu; rcases hu with rfl | rfl <;> rfl
set_option maxRecDepth 100000 in
set_option maxHeartbeats 1600000 in
theorem check_any (n d : Int) (w : World) :
    Calls Tryd.prog 14 #[.agg #[.int .i64 n, .int .i64 d]] w fun e w' => e = .returned (.bool (chk n d)) ∧ Below w.heap.size w w' := by
  obtain ⟨C, hC⟩ : ∃ C, Hid (chk n d = C) := ⟨_, rfl⟩
  rw [hC.out]
  have HC : Hid ((decide (1 ≤ d) && decide (d ≤ 1073741824) && decide (-1073741824 ≤ n) && decide (n ≤ 1073741824) && decide (Int.gcd n d = 1)) = C) := hC
  go_enter Tryd.func14, Tryd.ntmps14
  go_wp2_with (with_reducible refine wpList_box (o := ⟨some 1, .box 23 (.tmp 0), _, _, _, _⟩) ?g1 23 (.tmp 0) ?o1 (.agg #[.int .i64 n, .int .i64 d]) [Value.int .i64 n, Value.int .i64 d] ?x1 ?c1 ?_)
  try (case g1 => rfl)
  try (case o1 => rfl)
  try (case x1 => rfl)
  try (case c1 => rfl)
  intro g1 w1 hg1 hs1 hb1 hA1
  have hbe1 : Below w.heap.size w w1 := hb1.mono (Nat.le_of_eq hg1.out.symm)
  clear hb1 hs1 hg1
  have c0 := hA1.cell (k := 0) rfl
  have c1 := hA1.cell (k := 1) rfl
  by_cases h1 : 1 ≤ d
  · by_cases h2 : d ≤ 1073741824
    · by_cases h3 : -1073741824 ≤ n ∧ n ≤ 1073741824
      · have HW := Lib.hid (fun w => within_any n 1073741824 w (by omega) (by omega))
        have HD := Lib.hid (fun w => divisor_any n d w (by omega) (by omega) (by omega) (by omega))
        have hwb : (decide (-1073741824 ≤ n) && decide (n ≤ 1073741824)) = true := by rw [decide_eq_true h3.1, decide_eq_true h3.2]; rfl
        rw [hwb] at HW
        have HE : Hid ((((Int.gcd n d : Nat) : Int) == 1) = C) := by
          have : (((Int.gcd n d : Nat) : Int) == 1) = C := by
            rw [← HC.out, decide_eq_true h1, decide_eq_true h2, decide_eq_true h3.1, decide_eq_true h3.2, Bool.true_and, Bool.true_and, Bool.true_and, Bool.true_and]
            by_cases e : Int.gcd n d = 1
            · rw [decide_eq_true e, e]; rfl
            · rw [decide_eq_false e, beq_eq_false_iff_ne]; omega
          exact this
        obtain ⟨G, hG⟩ : ∃ G, Int.gcd n d = G := ⟨_, rfl⟩
        rw [hG] at HD HE
        clear hG hwb
        go_wp2_with fail
        (with_reducible refine (HW.out _).mono ?_)
        rintro e w2 ⟨rfl, rfl⟩
        go_wp2_with fail
        (with_reducible refine (HD.out _).mono ?_)
        rintro e w2 ⟨rfl, hb2⟩
        have hbe2 := below_join hbe1 hb2
        go_wp2
        go_ret
        exact ⟨by rw [← HE.out]; rfl, hbe2⟩
      · have HW := Lib.hid (fun w => within_any n 1073741824 w (by omega) (by omega))
        have hwb : (decide (-1073741824 ≤ n) && decide (n ≤ 1073741824)) = false := by
          rw [Bool.and_eq_false_iff, decide_eq_false_iff_not, decide_eq_false_iff_not]; omega
        rw [hwb] at HW
        have hc : C = false := by rw [← HC.out, Bool.and_assoc (decide (1 ≤ d) && decide (d ≤ 1073741824)), hwb, Bool.and_false, Bool.false_and]
        subst hc
        clear hwb
        go_wp2_with fail
        (with_reducible refine (HW.out _).mono ?_)
        rintro e w2 ⟨rfl, rfl⟩
        go_wp2
        go_ret
        exact ⟨rfl, hbe1⟩
    · have hc : C = false := by rw [← HC.out, decide_eq_false h2, Bool.and_false]; rfl
      subst hc
      go_wp2
      go_ret
      exact ⟨rfl, hbe1⟩
  · have hc : C = false := by rw [← HC.out, decide_eq_false h1]; rfl
    subst hc
    go_wp2
    go_ret
    exact ⟨rfl, hbe1⟩
set_option maxRecDepth 100000 in
set_option maxHeartbeats 3200000 in
theorem of_any (n d : Int) (w : World) (hn : IntKind.i64.wrap n = n) (hd : IntKind.i64.wrap d = d) :
    Calls Tryd.prog 10 #[.int .i64 n, .int .i64 d] w fun e w' => e = ofE n d ∧ Below w.heap.size w w' := by
  obtain ⟨E, hE⟩ : ∃ E, Hid (ofE n d = E) := ⟨_, rfl⟩
  rw [hE.out]
  clear hn hd
  go_enter Tryd.func10, Tryd.ntmps10
  go_wp2_with (with_reducible refine wpList_alloc (o := ⟨some 4, .alloc 23, _, _, _, _⟩) (by with_unfolding_all rfl) 23 (by with_unfolding_all rfl) (.agg zC.toArray) zC (by exact Tryd.zeroQ) (by with_unfolding_all rfl) ?_)
  intro g4 w2 hg4 hs4 hb4 hA2
  have hl4 : w.heap.size ≤ g4 := Nat.le_of_eq hg4.out.symm
  have hbe2 : Below w.heap.size w w2 := hb4.mono hl4
  clear hb4 hs4 hg4
  by_cases hd0 : d = 0
  · subst hd0
    have hE1 : Hid (E = zret 1) := by
      have : E = zret 1 := by rw [← hE.out]; unfold ofE; rw [if_pos rfl]
      exact this
    go_wp2_with (first | (with_reducible refine wpList_build (o := ⟨some 11, .build 23 #[], _, _, _, _⟩) (by with_unfolding_all rfl) 23 #[] (by with_unfolding_all rfl) #[] (by with_unfolding_all rfl) (.agg zC.toArray) (by with_unfolding_all exact fun w => run_buildQ0 w) ?_) | (with_reducible refine wpList_put (o := ⟨none, .store 23 (.tmp 4) (.tmp 11), _, _, _, _⟩) (by with_unfolding_all rfl) 23 (.tmp 4) (.tmp 11) (by with_unfolding_all rfl) g4 0 (by with_unfolding_all rfl) (.agg zC.toArray) (by with_unfolding_all rfl) hA2 zC (by with_unfolding_all rfl) (by with_unfolding_all (exact Tryd.szQ)) (by with_unfolding_all (exact Nat.le_refl 2)) (by with_unfolding_all (exact int_one 0 0)) ?_))
    intro w3 hu3 hA3
    rw [splice_all _ _ (by rfl)] at hA3
    have hbe3 := hbe2.trans (hu3.below (B := w.heap.size) hl4)
    go_wp2
    exact bodyPost_ret (results_cell_two rfl _ _ g4 _ _ _ _ _ rfl rfl hA3 Tryd.underlying23 rfl Tryd.szQ) rfl ⟨by rw [hE1.out]; rfl, hbe3⟩
  · have hd0b : (d == 0) = false := beq_eq_false_iff_ne.2 hd0
    by_cases hin : (-2305843009213693952 ≤ n ∧ n ≤ 2305843009213693952) ∧ (-2305843009213693952 ≤ d ∧ d ≤ 2305843009213693952)
    · have HW1 := Lib.hid (fun w => within_any n 2305843009213693952 w (by omega) (by omega))
      have HW2 := Lib.hid (fun w => within_any d 2305843009213693952 w (by omega) (by omega))
      have hw1 : (decide (-2305843009213693952 ≤ n) && decide (n ≤ 2305843009213693952)) = true := by rw [decide_eq_true hin.1.1, decide_eq_true hin.1.2]; rfl
      have hw2 : (decide (-2305843009213693952 ≤ d) && decide (d ≤ 2305843009213693952)) = true := by rw [decide_eq_true hin.2.1, decide_eq_true hin.2.2]; rfl
      rw [hw1] at HW1
      rw [hw2] at HW2
      have HDV := Lib.hid (fun w => divisor_any n d w hin.1.1 hin.1.2 hin.2.1 hin.2.2)
      have hGp : 0 < Int.gcd n d := Int.gcd_pos_iff.2 (.inr hd0)
      have hGl : (Int.gcd n d : Int) ≤ 2305843009213693952 := by
        have h := Int.gcd_le_natAbs_right n hd0
        omega
      obtain ⟨q, hq⟩ : ∃ q, Rat.divInt n d = q := ⟨_, rfl⟩
      have hEq : E = ansQ q := by rw [← hE.out, ← hq]; unfold ofE; rw [if_neg hd0, if_pos hin]
      obtain ⟨N, hN⟩ : ∃ N, q.num = N := ⟨_, rfl⟩
      obtain ⟨D, hD⟩ : ∃ D, (q.den : Int) = D := ⟨_, rfl⟩
      have HOK : Hid ((-1073741824 ≤ N ∧ N ≤ 1073741824 ∧ D ≤ 1073741824) → E = .returned (.tuple #[.agg [Value.int .i64 N, Value.int .i64 D].toArray, .int .i64 0])) := by
        have : (-1073741824 ≤ N ∧ N ≤ 1073741824 ∧ D ≤ 1073741824) → E = .returned (.tuple #[.agg [Value.int .i64 N, Value.int .i64 D].toArray, .int .i64 0]) := fun h => by
          have hf : fits q := ⟨by omega, by omega, by omega⟩
          rw [hEq]; unfold ansQ qC; rw [if_pos hf, hN, hD]
        exact this
      have HNO : Hid (¬ (-1073741824 ≤ N ∧ N ≤ 1073741824 ∧ D ≤ 1073741824) → E = zret 17) := by
        have : ¬ (-1073741824 ≤ N ∧ N ≤ 1073741824 ∧ D ≤ 1073741824) → E = zret 17 := fun h => by
          have hf : ¬ fits q := fun hf => h ⟨by have := hf.1; omega, by have := hf.2.1; omega, by have := hf.2.2; omega⟩
          rw [hEq]; unfold ansQ; rw [if_neg hf]
        exact this
      obtain ⟨G, hG⟩ : ∃ G, Int.gcd n d = G := ⟨_, rfl⟩
      rw [hG] at HDV hGp hGl
      clear hE hEq hw1 hw2
      go_wp2_with fail
      (with_reducible refine (HW1.out _).mono ?_)
      rintro e w3 ⟨rfl, rfl⟩
      go_wp2_with fail
      (with_reducible refine (HW2.out _).mono ?_)
      rintro e w3 ⟨rfl, rfl⟩
      go_wp2_with fail
      (with_reducible refine (HDV.out _).mono ?_)
      rintro e w3 ⟨rfl, hb3⟩
      have hA2 := hA2.next hb3 hA2.lt
      have hbe2 := below_join hbe2 hb3
      clear hb3
      clear HW1 HW2 HDV
      by_cases hneg : d < 0
      · have hgn : -(G : Int) = if d < 0 then -(Int.gcd n d : Int) else (Int.gcd n d : Int) := by rw [if_pos hneg, hG]
        have hgnen : -(G : Int) ≠ 0 := by omega
        have hwg : IntKind.i64.wrap (-(G : Int)) = -(G : Int) := by simp only [IntKind.wrap_i64]; omega
        obtain ⟨gn, hgnv⟩ : ∃ g, -(G : Int) = g := ⟨_, rfl⟩
        rw [hgnv] at hgn hgnen hwg
        clear hG
        have hqn : n.tdiv gn = N := by rw [(parts hd0 hgn).1, hq, hN]
        have hqd : d.tdiv gn = D := by rw [(parts hd0 hgn).2, hq, hD]
        have hgz : (gn == 0) = false := by rw [beq_eq_false_iff_ne]; exact hgnen
        have hwN : IntKind.i64.wrap N = N := by
          have h := Int.natAbs_tdiv n gn
          rw [hqn] at h
          have h2 : n.natAbs.div gn.natAbs ≤ n.natAbs := Nat.div_le_self _ _
          simp only [IntKind.wrap_i64]; omega
        have hwD : IntKind.i64.wrap D = D := by
          have h := Int.natAbs_tdiv d gn
          rw [hqd] at h
          have h2 : d.natAbs.div gn.natAbs ≤ d.natAbs := Nat.div_le_self _ _
          simp only [IntKind.wrap_i64]; omega
        clear hgn hq hN hD
        go_wp2
        have hdd := below_drew w3
        refine wp_region_held_drew (S := fun _ => True) (by kernel_rfl) trivial (fun hHeld => ?_)
        generalize w3.drew = wd at hdd hHeld ⊢
        refine wpAnyH_take (i := 0) (v := ?vtn0) rfl (by kernel_rfl) (by kernel_rfl) (by kernel_rfl) (fun _ _ _ h => h) (Or.inl ⟨by rfl, ?ytn0⟩) (by assumption) ?rtn0
        case ytn0 => intro w hSw; (try dsimp only at hSw); go_simp <;> (try with_reducible rfl)
        (try simp only [List.getElem_toArray, List.getElem_cons_zero, Act.put, List.setIfInBounds_toArray, List.set_cons_zero, List.set_cons_succ])
        refine wpAnyH_take (i := 1) (v := ?vtn1) rfl (by kernel_rfl) (by kernel_rfl) (by kernel_rfl) (fun _ _ _ h => h) (Or.inl ⟨by rfl, ?ytn1⟩) (by assumption) ?rtn1
        case ytn1 => intro w hSw; (try dsimp only at hSw); go_simp <;> (try with_reducible rfl)
        (try simp only [List.getElem_toArray, List.getElem_cons_succ, List.getElem_cons_zero, Act.put, List.setIfInBounds_toArray, List.set_cons_zero, List.set_cons_succ])
        refine wpAnyH_take (i := 2) (v := ?vtn2) rfl (by kernel_rfl) (by kernel_rfl) (by kernel_rfl) (fun _ _ _ h => h) (Or.inl ⟨by rfl, ?ytn2⟩) (by assumption) ?rtn2
        case ytn2 => intro w hSw; (try dsimp only at hSw); go_simp <;> (try with_reducible rfl)
        (try simp only [List.getElem_toArray, List.getElem_cons_succ, List.getElem_cons_zero, Act.put, List.setIfInBounds_toArray, List.set_cons_zero, List.set_cons_succ])
        refine wpAnyH_take (i := 3) (v := ?vtn3) rfl (by kernel_rfl) (by kernel_rfl) (by kernel_rfl) (fun _ _ _ h => h) (Or.inl ⟨by rfl, ?ytn3⟩) (by assumption) ?rtn3
        case ytn3 => intro w hSw; (try dsimp only at hSw); go_simp <;> (try with_reducible rfl)
        (try simp only [List.getElem_toArray, List.getElem_cons_succ, List.getElem_cons_zero, Act.put, List.setIfInBounds_toArray, List.set_cons_zero, List.set_cons_succ])
        refine wpAnyH_take (i := 4) (v := ?vtn4) rfl (by kernel_rfl) (by kernel_rfl) (by kernel_rfl) (fun _ _ _ h => h) (Or.inl ⟨by rfl, ?ytn4⟩) (by assumption) ?rtn4
        case ytn4 => intro w hSw; (try dsimp only at hSw); go_simp <;> (try with_reducible rfl)
        (try simp only [List.getElem_toArray, List.getElem_cons_succ, List.getElem_cons_zero, Act.put, List.setIfInBounds_toArray, List.set_cons_zero, List.set_cons_succ])
        refine wpAnyH_take (i := 5) (v := ?vtn5) rfl (by kernel_rfl) (by kernel_rfl) (by kernel_rfl) (fun _ _ _ h => h) (Or.inl ⟨by rfl, ?ytn5⟩) (by assumption) ?rtn5
        case ytn5 => intro w hSw; (try dsimp only at hSw); go_simp <;> (try with_reducible rfl)
        (try simp only [List.getElem_toArray, List.getElem_cons_succ, List.getElem_cons_zero, Act.put, List.setIfInBounds_toArray, List.set_cons_zero, List.set_cons_succ])
        refine wpAnyH_take (i := 6) (v := ?vtn6) rfl (by kernel_rfl) (by kernel_rfl) (by kernel_rfl) (fun _ _ _ h => h) (Or.inl ⟨by rfl, ?ytn6⟩) (by assumption) ?rtn6
        case ytn6 => intro w hSw; (try dsimp only at hSw); go_simp <;> (try with_reducible rfl)
        (try simp only [List.getElem_toArray, List.getElem_cons_succ, List.getElem_cons_zero, Act.put, List.setIfInBounds_toArray, List.set_cons_zero, List.set_cons_succ])
        refine wpAnyH_ready (rs := [7]) (by kernel_rfl) (by simp) ?_
        refine AllReadyH.cons rfl (fun K hK => ?_) AllReadyH.nil
        rw [if_pos (by rfl)]
        refine wp_allocz 23 rfl (.agg zC.toArray) zC Tryd.zeroQ rfl ?_
        intro gr w7 hgr hs3 hb3 hR3
        have hb3 := hb3.mono (Nat.le_of_eq hgr.out.symm)
        have hA3 := (hA2.next hdd hA2.lt).next hb3 (by have := hA2.lt; have := hdd.size; omega)
        have hlt : g4 < gr := by have := hA2.lt; have := hdd.size; have := hgr.out; omega
        have hbe3 := below_join (below_join hbe2 hdd) hb3
        refine hK.out _ _ trivial (fun hHeld => ?_)
        clear hK K hb3 hgr hs3 hdd
        refine wpAnyH_ready (rs := [8]) (by kernel_rfl) (by simp) ?_
        refine AllReadyH.cons rfl (fun K hK => ?_) AllReadyH.nil
        rw [if_pos (by rfl)]
        refine wp_put 23 (.tmp 7) (.tmp 35) rfl gr 0 rfl (.agg [Value.int .i64 N, Value.int .i64 D].toArray) rfl hR3 [Value.int .i64 N, Value.int .i64 D] rfl Tryd.szQ (Nat.le_refl 2) (fun u hu => by simp at hu; rcases hu with rfl | rfl <;> rfl) ?_
        intro w4 hu4 hR4
        rw [splice_all _ _ (by rfl)] at hR4
        have hA4 := hA3.upd hu4 (by omega)
        have hbe4 := hbe3.trans (hu4.below (B := w.heap.size) (by have := hA2.lt; omega))
        refine hK.out _ _ trivial (fun hHeld => ?_)
        clear hK K hR3 hu4 hA3 hbe3
        refine wpAnyH_done (by kernel_rfl) ?_ _
        clear hHeld
        have c0 := hR4.cell (k := 0) rfl
        have c1 := hR4.cell (k := 1) rfl
        have hl4 : w.heap.size ≤ g4 := hl4
        have HWR := Lib.hid (fun w => within_any N 1073741824 w (by omega) (by omega))
        by_cases hf1 : -1073741824 ≤ N ∧ N ≤ 1073741824
        · have hwb : (decide (-1073741824 ≤ N) && decide (N ≤ 1073741824)) = true := by rw [decide_eq_true hf1.1, decide_eq_true hf1.2]; rfl
          rw [hwb] at HWR
          clear hwb
          by_cases hf2 : D ≤ 1073741824
          · have hfin : Hid (E = .returned (.tuple #[.agg [Value.int .i64 N, Value.int .i64 D].toArray, .int .i64 0])) := HOK.out ⟨hf1.1, hf1.2, hf2⟩
            go_wp2_with fail
            (with_reducible refine (HWR.out _).mono ?_)
            rintro e w5 ⟨rfl, rfl⟩
            go_wp2_with (first | (with_reducible refine wpList_get (o := ⟨some 46, .load 23 (.tmp 7), _, _, _, _⟩) (by with_unfolding_all rfl) 23 (.tmp 7) (by with_unfolding_all rfl) gr 0 (by with_unfolding_all rfl) hR4 [Value.int .i64 N, Value.int .i64 D] (cs_all _) _ (by exact Tryd.underlying23) (by with_unfolding_all rfl) (by with_unfolding_all exact Tryd.szQ) ?_) | (with_reducible refine wpList_put (o := ⟨none, .store 23 (.tmp 4) (.tmp 46), _, _, _, _⟩) (by with_unfolding_all rfl) 23 (.tmp 4) (.tmp 46) (by with_unfolding_all rfl) g4 0 (by with_unfolding_all rfl) (.agg [Value.int .i64 N, Value.int .i64 D].toArray) (by with_unfolding_all rfl) hA4 [Value.int .i64 N, Value.int .i64 D] (by with_unfolding_all rfl) (by with_unfolding_all (exact Tryd.szQ)) (by with_unfolding_all (exact Nat.le_refl 2)) (by with_unfolding_all (exact int_one N D)) ?_))
            intro w6 hu6 hA6
            rw [splice_all _ _ (by rfl)] at hA6
            have hbe6 := hbe4.trans (hu6.below (B := w.heap.size) hl4)
            go_wp2
            exact bodyPost_ret (results_cell_two rfl _ _ g4 _ _ _ _ _ rfl rfl hA6 Tryd.underlying23 rfl Tryd.szQ) rfl ⟨by rw [hfin.out]; rfl, hbe6⟩
          · have hfin : Hid (E = zret 17) := HNO.out (fun h => hf2 h.2.2)
            go_wp2_with fail
            (with_reducible refine (HWR.out _).mono ?_)
            rintro e w5 ⟨rfl, rfl⟩
            go_wp2_with (first | (with_reducible refine wpList_build (o := ⟨some 45, .build 23 #[], _, _, _, _⟩) (by with_unfolding_all rfl) 23 #[] (by with_unfolding_all rfl) #[] (by with_unfolding_all rfl) (.agg zC.toArray) (by with_unfolding_all exact fun w => run_buildQ0 w) ?_) | (with_reducible refine wpList_put (o := ⟨none, .store 23 (.tmp 4) (.tmp 45), _, _, _, _⟩) (by with_unfolding_all rfl) 23 (.tmp 4) (.tmp 45) (by with_unfolding_all rfl) g4 0 (by with_unfolding_all rfl) (.agg zC.toArray) (by with_unfolding_all rfl) hA4 zC (by with_unfolding_all rfl) (by with_unfolding_all (exact Tryd.szQ)) (by with_unfolding_all (exact Nat.le_refl 2)) (by with_unfolding_all (exact int_one 0 0)) ?_))
            intro w6 hu6 hA6
            rw [splice_all _ _ (by rfl)] at hA6
            have hbe6 := hbe4.trans (hu6.below (B := w.heap.size) hl4)
            go_wp2
            exact bodyPost_ret (results_cell_two rfl _ _ g4 _ _ _ _ _ rfl rfl hA6 Tryd.underlying23 rfl Tryd.szQ) rfl ⟨by rw [hfin.out]; rfl, hbe6⟩
        · have hwb : (decide (-1073741824 ≤ N) && decide (N ≤ 1073741824)) = false := by
            rw [Bool.and_eq_false_iff, decide_eq_false_iff_not, decide_eq_false_iff_not]; omega
          rw [hwb] at HWR
          clear hwb
          have hfin : Hid (E = zret 17) := HNO.out (fun h => hf1 ⟨h.1, h.2.1⟩)
          go_wp2_with fail
          (with_reducible refine (HWR.out _).mono ?_)
          rintro e w5 ⟨rfl, rfl⟩
          go_wp2_with (first | (with_reducible refine wpList_build (o := ⟨some 45, .build 23 #[], _, _, _, _⟩) (by with_unfolding_all rfl) 23 #[] (by with_unfolding_all rfl) #[] (by with_unfolding_all rfl) (.agg zC.toArray) (by with_unfolding_all exact fun w => run_buildQ0 w) ?_) | (with_reducible refine wpList_put (o := ⟨none, .store 23 (.tmp 4) (.tmp 45), _, _, _, _⟩) (by with_unfolding_all rfl) 23 (.tmp 4) (.tmp 45) (by with_unfolding_all rfl) g4 0 (by with_unfolding_all rfl) (.agg zC.toArray) (by with_unfolding_all rfl) hA4 zC (by with_unfolding_all rfl) (by with_unfolding_all (exact Tryd.szQ)) (by with_unfolding_all (exact Nat.le_refl 2)) (by with_unfolding_all (exact int_one 0 0)) ?_))
          intro w6 hu6 hA6
          rw [splice_all _ _ (by rfl)] at hA6
          have hbe6 := hbe4.trans (hu6.below (B := w.heap.size) hl4)
          go_wp2
          exact bodyPost_ret (results_cell_two rfl _ _ g4 _ _ _ _ _ rfl rfl hA6 Tryd.underlying23 rfl Tryd.szQ) rfl ⟨by rw [hfin.out]; rfl, hbe6⟩
      · have hgp : (G : Int) = if d < 0 then -(Int.gcd n d : Int) else (Int.gcd n d : Int) := by rw [if_neg hneg, hG]
        have hgnep : (G : Int) ≠ 0 := by omega
        obtain ⟨gp, hgpv⟩ : ∃ g, (G : Int) = g := ⟨_, rfl⟩
        rw [hgpv] at hgp hgnep
        clear hG
        have hqn : n.tdiv gp = N := by rw [(parts hd0 hgp).1, hq, hN]
        have hqd : d.tdiv gp = D := by rw [(parts hd0 hgp).2, hq, hD]
        have hgz : (gp == 0) = false := by rw [beq_eq_false_iff_ne]; exact hgnep
        have hwN : IntKind.i64.wrap N = N := by
          have h := Int.natAbs_tdiv n gp
          rw [hqn] at h
          have h2 : n.natAbs.div gp.natAbs ≤ n.natAbs := Nat.div_le_self _ _
          simp only [IntKind.wrap_i64]; omega
        have hwD : IntKind.i64.wrap D = D := by
          have h := Int.natAbs_tdiv d gp
          rw [hqd] at h
          have h2 : d.natAbs.div gp.natAbs ≤ d.natAbs := Nat.div_le_self _ _
          simp only [IntKind.wrap_i64]; omega
        clear hgp hq hN hD
        go_wp2
        have hdd := below_drew w3
        refine wp_region_held_drew (S := fun _ => True) (by kernel_rfl) trivial (fun hHeld => ?_)
        generalize w3.drew = wd at hdd hHeld ⊢
        refine wpAnyH_take (i := 0) (v := ?vtp0) rfl (by kernel_rfl) (by kernel_rfl) (by kernel_rfl) (fun _ _ _ h => h) (Or.inl ⟨by rfl, ?ytp0⟩) (by assumption) ?rtp0
        case ytp0 => intro w hSw; (try dsimp only at hSw); go_simp <;> (try with_reducible rfl)
        (try simp only [List.getElem_toArray, List.getElem_cons_zero, Act.put, List.setIfInBounds_toArray, List.set_cons_zero, List.set_cons_succ])
        refine wpAnyH_take (i := 1) (v := ?vtp1) rfl (by kernel_rfl) (by kernel_rfl) (by kernel_rfl) (fun _ _ _ h => h) (Or.inl ⟨by rfl, ?ytp1⟩) (by assumption) ?rtp1
        case ytp1 => intro w hSw; (try dsimp only at hSw); go_simp <;> (try with_reducible rfl)
        (try simp only [List.getElem_toArray, List.getElem_cons_succ, List.getElem_cons_zero, Act.put, List.setIfInBounds_toArray, List.set_cons_zero, List.set_cons_succ])
        refine wpAnyH_take (i := 2) (v := ?vtp2) rfl (by kernel_rfl) (by kernel_rfl) (by kernel_rfl) (fun _ _ _ h => h) (Or.inl ⟨by rfl, ?ytp2⟩) (by assumption) ?rtp2
        case ytp2 => intro w hSw; (try dsimp only at hSw); go_simp <;> (try with_reducible rfl)
        (try simp only [List.getElem_toArray, List.getElem_cons_succ, List.getElem_cons_zero, Act.put, List.setIfInBounds_toArray, List.set_cons_zero, List.set_cons_succ])
        refine wpAnyH_take (i := 3) (v := ?vtp3) rfl (by kernel_rfl) (by kernel_rfl) (by kernel_rfl) (fun _ _ _ h => h) (Or.inl ⟨by rfl, ?ytp3⟩) (by assumption) ?rtp3
        case ytp3 => intro w hSw; (try dsimp only at hSw); go_simp <;> (try with_reducible rfl)
        (try simp only [List.getElem_toArray, List.getElem_cons_succ, List.getElem_cons_zero, Act.put, List.setIfInBounds_toArray, List.set_cons_zero, List.set_cons_succ])
        refine wpAnyH_take (i := 4) (v := ?vtp4) rfl (by kernel_rfl) (by kernel_rfl) (by kernel_rfl) (fun _ _ _ h => h) (Or.inl ⟨by rfl, ?ytp4⟩) (by assumption) ?rtp4
        case ytp4 => intro w hSw; (try dsimp only at hSw); go_simp <;> (try with_reducible rfl)
        (try simp only [List.getElem_toArray, List.getElem_cons_succ, List.getElem_cons_zero, Act.put, List.setIfInBounds_toArray, List.set_cons_zero, List.set_cons_succ])
        refine wpAnyH_take (i := 5) (v := ?vtp5) rfl (by kernel_rfl) (by kernel_rfl) (by kernel_rfl) (fun _ _ _ h => h) (Or.inl ⟨by rfl, ?ytp5⟩) (by assumption) ?rtp5
        case ytp5 => intro w hSw; (try dsimp only at hSw); go_simp <;> (try with_reducible rfl)
        (try simp only [List.getElem_toArray, List.getElem_cons_succ, List.getElem_cons_zero, Act.put, List.setIfInBounds_toArray, List.set_cons_zero, List.set_cons_succ])
        refine wpAnyH_take (i := 6) (v := ?vtp6) rfl (by kernel_rfl) (by kernel_rfl) (by kernel_rfl) (fun _ _ _ h => h) (Or.inl ⟨by rfl, ?ytp6⟩) (by assumption) ?rtp6
        case ytp6 => intro w hSw; (try dsimp only at hSw); go_simp <;> (try with_reducible rfl)
        (try simp only [List.getElem_toArray, List.getElem_cons_succ, List.getElem_cons_zero, Act.put, List.setIfInBounds_toArray, List.set_cons_zero, List.set_cons_succ])
        refine wpAnyH_ready (rs := [7]) (by kernel_rfl) (by simp) ?_
        refine AllReadyH.cons rfl (fun K hK => ?_) AllReadyH.nil
        rw [if_pos (by rfl)]
        refine wp_allocz 23 rfl (.agg zC.toArray) zC Tryd.zeroQ rfl ?_
        intro gr w7 hgr hs3 hb3 hR3
        have hb3 := hb3.mono (Nat.le_of_eq hgr.out.symm)
        have hA3 := (hA2.next hdd hA2.lt).next hb3 (by have := hA2.lt; have := hdd.size; omega)
        have hlt : g4 < gr := by have := hA2.lt; have := hdd.size; have := hgr.out; omega
        have hbe3 := below_join (below_join hbe2 hdd) hb3
        refine hK.out _ _ trivial (fun hHeld => ?_)
        clear hK K hb3 hgr hs3 hdd
        refine wpAnyH_ready (rs := [8]) (by kernel_rfl) (by simp) ?_
        refine AllReadyH.cons rfl (fun K hK => ?_) AllReadyH.nil
        rw [if_pos (by rfl)]
        refine wp_put 23 (.tmp 7) (.tmp 35) rfl gr 0 rfl (.agg [Value.int .i64 N, Value.int .i64 D].toArray) rfl hR3 [Value.int .i64 N, Value.int .i64 D] rfl Tryd.szQ (Nat.le_refl 2) (fun u hu => by simp at hu; rcases hu with rfl | rfl <;> rfl) ?_
        intro w4 hu4 hR4
        rw [splice_all _ _ (by rfl)] at hR4
        have hA4 := hA3.upd hu4 (by omega)
        have hbe4 := hbe3.trans (hu4.below (B := w.heap.size) (by have := hA2.lt; omega))
        refine hK.out _ _ trivial (fun hHeld => ?_)
        clear hK K hR3 hu4 hA3 hbe3
        refine wpAnyH_done (by kernel_rfl) ?_ _
        clear hHeld
        have c0 := hR4.cell (k := 0) rfl
        have c1 := hR4.cell (k := 1) rfl
        have hl4 : w.heap.size ≤ g4 := hl4
        have HWR := Lib.hid (fun w => within_any N 1073741824 w (by omega) (by omega))
        by_cases hf1 : -1073741824 ≤ N ∧ N ≤ 1073741824
        · have hwb : (decide (-1073741824 ≤ N) && decide (N ≤ 1073741824)) = true := by rw [decide_eq_true hf1.1, decide_eq_true hf1.2]; rfl
          rw [hwb] at HWR
          clear hwb
          by_cases hf2 : D ≤ 1073741824
          · have hfin : Hid (E = .returned (.tuple #[.agg [Value.int .i64 N, Value.int .i64 D].toArray, .int .i64 0])) := HOK.out ⟨hf1.1, hf1.2, hf2⟩
            go_wp2_with fail
            (with_reducible refine (HWR.out _).mono ?_)
            rintro e w5 ⟨rfl, rfl⟩
            go_wp2_with (first | (with_reducible refine wpList_get (o := ⟨some 46, .load 23 (.tmp 7), _, _, _, _⟩) (by with_unfolding_all rfl) 23 (.tmp 7) (by with_unfolding_all rfl) gr 0 (by with_unfolding_all rfl) hR4 [Value.int .i64 N, Value.int .i64 D] (cs_all _) _ (by exact Tryd.underlying23) (by with_unfolding_all rfl) (by with_unfolding_all exact Tryd.szQ) ?_) | (with_reducible refine wpList_put (o := ⟨none, .store 23 (.tmp 4) (.tmp 46), _, _, _, _⟩) (by with_unfolding_all rfl) 23 (.tmp 4) (.tmp 46) (by with_unfolding_all rfl) g4 0 (by with_unfolding_all rfl) (.agg [Value.int .i64 N, Value.int .i64 D].toArray) (by with_unfolding_all rfl) hA4 [Value.int .i64 N, Value.int .i64 D] (by with_unfolding_all rfl) (by with_unfolding_all (exact Tryd.szQ)) (by with_unfolding_all (exact Nat.le_refl 2)) (by with_unfolding_all (exact int_one N D)) ?_))
            intro w6 hu6 hA6
            rw [splice_all _ _ (by rfl)] at hA6
            have hbe6 := hbe4.trans (hu6.below (B := w.heap.size) hl4)
            go_wp2
            exact bodyPost_ret (results_cell_two rfl _ _ g4 _ _ _ _ _ rfl rfl hA6 Tryd.underlying23 rfl Tryd.szQ) rfl ⟨by rw [hfin.out]; rfl, hbe6⟩
          · have hfin : Hid (E = zret 17) := HNO.out (fun h => hf2 h.2.2)
            go_wp2_with fail
            (with_reducible refine (HWR.out _).mono ?_)
            rintro e w5 ⟨rfl, rfl⟩
            go_wp2_with (first | (with_reducible refine wpList_build (o := ⟨some 45, .build 23 #[], _, _, _, _⟩) (by with_unfolding_all rfl) 23 #[] (by with_unfolding_all rfl) #[] (by with_unfolding_all rfl) (.agg zC.toArray) (by with_unfolding_all exact fun w => run_buildQ0 w) ?_) | (with_reducible refine wpList_put (o := ⟨none, .store 23 (.tmp 4) (.tmp 45), _, _, _, _⟩) (by with_unfolding_all rfl) 23 (.tmp 4) (.tmp 45) (by with_unfolding_all rfl) g4 0 (by with_unfolding_all rfl) (.agg zC.toArray) (by with_unfolding_all rfl) hA4 zC (by with_unfolding_all rfl) (by with_unfolding_all (exact Tryd.szQ)) (by with_unfolding_all (exact Nat.le_refl 2)) (by with_unfolding_all (exact int_one 0 0)) ?_))
            intro w6 hu6 hA6
            rw [splice_all _ _ (by rfl)] at hA6
            have hbe6 := hbe4.trans (hu6.below (B := w.heap.size) hl4)
            go_wp2
            exact bodyPost_ret (results_cell_two rfl _ _ g4 _ _ _ _ _ rfl rfl hA6 Tryd.underlying23 rfl Tryd.szQ) rfl ⟨by rw [hfin.out]; rfl, hbe6⟩
        · have hwb : (decide (-1073741824 ≤ N) && decide (N ≤ 1073741824)) = false := by
            rw [Bool.and_eq_false_iff, decide_eq_false_iff_not, decide_eq_false_iff_not]; omega
          rw [hwb] at HWR
          clear hwb
          have hfin : Hid (E = zret 17) := HNO.out (fun h => hf1 ⟨h.1, h.2.1⟩)
          go_wp2_with fail
          (with_reducible refine (HWR.out _).mono ?_)
          rintro e w5 ⟨rfl, rfl⟩
          go_wp2_with (first | (with_reducible refine wpList_build (o := ⟨some 45, .build 23 #[], _, _, _, _⟩) (by with_unfolding_all rfl) 23 #[] (by with_unfolding_all rfl) #[] (by with_unfolding_all rfl) (.agg zC.toArray) (by with_unfolding_all exact fun w => run_buildQ0 w) ?_) | (with_reducible refine wpList_put (o := ⟨none, .store 23 (.tmp 4) (.tmp 45), _, _, _, _⟩) (by with_unfolding_all rfl) 23 (.tmp 4) (.tmp 45) (by with_unfolding_all rfl) g4 0 (by with_unfolding_all rfl) (.agg zC.toArray) (by with_unfolding_all rfl) hA4 zC (by with_unfolding_all rfl) (by with_unfolding_all (exact Tryd.szQ)) (by with_unfolding_all (exact Nat.le_refl 2)) (by with_unfolding_all (exact int_one 0 0)) ?_))
          intro w6 hu6 hA6
          rw [splice_all _ _ (by rfl)] at hA6
          have hbe6 := hbe4.trans (hu6.below (B := w.heap.size) hl4)
          go_wp2
          exact bodyPost_ret (results_cell_two rfl _ _ g4 _ _ _ _ _ rfl rfl hA6 Tryd.underlying23 rfl Tryd.szQ) rfl ⟨by rw [hfin.out]; rfl, hbe6⟩
    · have hE1 : Hid (E = zret 17) := by
        have : E = zret 17 := by rw [← hE.out]; unfold ofE; rw [if_neg hd0, if_neg hin]
        exact this
      have HW1 := Lib.hid (fun w => within_any n 2305843009213693952 w (by omega) (by omega))
      have HW2 := Lib.hid (fun w => within_any d 2305843009213693952 w (by omega) (by omega))
      obtain ⟨b1, hb1⟩ : ∃ b, (decide (-2305843009213693952 ≤ n) && decide (n ≤ 2305843009213693952)) = b := ⟨_, rfl⟩
      obtain ⟨b2, hb2⟩ : ∃ b, (decide (-2305843009213693952 ≤ d) && decide (d ≤ 2305843009213693952)) = b := ⟨_, rfl⟩
      have hbb : b1 = false ∨ (b1 = true ∧ b2 = false) := by
        cases b1 with
        | false => exact .inl rfl
        | true =>
          refine .inr ⟨rfl, ?_⟩
          rw [Bool.and_eq_true, decide_eq_true_eq, decide_eq_true_eq] at hb1
          rw [← hb2, Bool.and_eq_false_iff, decide_eq_false_iff_not, decide_eq_false_iff_not]
          omega
      rw [hb1] at HW1
      rw [hb2] at HW2
      clear hb1 hb2 hin hE
      rcases hbb with rfl | ⟨rfl, rfl⟩
      · go_wp2_with fail
        (with_reducible refine (HW1.out _).mono ?_)
        rintro e w3 ⟨rfl, rfl⟩
        go_wp2_with (first | (with_reducible refine wpList_build (o := ⟨some 21, .build 23 #[], _, _, _, _⟩) (by with_unfolding_all rfl) 23 #[] (by with_unfolding_all rfl) #[] (by with_unfolding_all rfl) (.agg zC.toArray) (by with_unfolding_all exact fun w => run_buildQ0 w) ?_) | (with_reducible refine wpList_put (o := ⟨none, .store 23 (.tmp 4) (.tmp 21), _, _, _, _⟩) (by with_unfolding_all rfl) 23 (.tmp 4) (.tmp 21) (by with_unfolding_all rfl) g4 0 (by with_unfolding_all rfl) (.agg zC.toArray) (by with_unfolding_all rfl) hA2 zC (by with_unfolding_all rfl) (by with_unfolding_all (exact Tryd.szQ)) (by with_unfolding_all (exact Nat.le_refl 2)) (by with_unfolding_all (exact int_one 0 0)) ?_))
        intro w6 hu6 hA6
        rw [splice_all _ _ (by rfl)] at hA6
        have hbe6 := hbe2.trans (hu6.below (B := w.heap.size) hl4)
        go_wp2
        exact bodyPost_ret (results_cell_two rfl _ _ g4 _ _ _ _ _ rfl rfl hA6 Tryd.underlying23 rfl Tryd.szQ) rfl ⟨by rw [hE1.out]; rfl, hbe6⟩
      · go_wp2_with fail
        (with_reducible refine (HW1.out _).mono ?_)
        rintro e w3 ⟨rfl, rfl⟩
        go_wp2_with fail
        (with_reducible refine (HW2.out _).mono ?_)
        rintro e w3 ⟨rfl, rfl⟩
        go_wp2_with (first | (with_reducible refine wpList_build (o := ⟨some 21, .build 23 #[], _, _, _, _⟩) (by with_unfolding_all rfl) 23 #[] (by with_unfolding_all rfl) #[] (by with_unfolding_all rfl) (.agg zC.toArray) (by with_unfolding_all exact fun w => run_buildQ0 w) ?_) | (with_reducible refine wpList_put (o := ⟨none, .store 23 (.tmp 4) (.tmp 21), _, _, _, _⟩) (by with_unfolding_all rfl) 23 (.tmp 4) (.tmp 21) (by with_unfolding_all rfl) g4 0 (by with_unfolding_all rfl) (.agg zC.toArray) (by with_unfolding_all rfl) hA2 zC (by with_unfolding_all rfl) (by with_unfolding_all (exact Tryd.szQ)) (by with_unfolding_all (exact Nat.le_refl 2)) (by with_unfolding_all (exact int_one 0 0)) ?_))
        intro w6 hu6 hA6
        rw [splice_all _ _ (by rfl)] at hA6
        have hbe6 := hbe2.trans (hu6.below (B := w.heap.size) hl4)
        go_wp2
        exact bodyPost_ret (results_cell_two rfl _ _ g4 _ _ _ _ _ rfl rfl hA6 Tryd.underlying23 rfl Tryd.szQ) rfl ⟨by rw [hE1.out]; rfl, hbe6⟩
end Go.Proofs.YthjaelopmfjfeaaDoor
