/-
  Contracts of the walks over the reference's Check and Of. Conditions: none.
-/
import Derived.Test.YthjaelopmfjfeaaDoorVc
namespace Go.Proofs.YthjaelopmfjfeaaDoor
set_option linter.unusedVariables false
set_option linter.unusedSimpArgs false
open Go.RowKit

theorem chk_fits (q : Rat) : chk q.num q.den = decide (fits q) := by
  by_cases h : fits q
  · rw [chk_rat h, decide_eq_true h]
  · rw [decide_eq_false h]
    cases hc : chk q.num q.den with
    | false => rfl
    | true =>
      obtain ⟨p, hp, h1, h2⟩ := chk_is hc
      exact absurd ((Rat.ext h1 (by omega) : p = q) ▸ hp) h
set_option maxRecDepth 100000 in
set_option maxHeartbeats 1600000 in
theorem rcheck_any (n d : Int) (w : World) :
    Calls Tryd.prog 15 #[.agg #[.int .i64 n, .int .i64 d]] w fun e w' => e = .returned (.bool (chk n d)) ∧ Below w.heap.size w w' := by
  obtain ⟨C, hC⟩ : ∃ C, Hid (chk n d = C) := ⟨_, rfl⟩
  rw [hC.out]
  have HC : Hid ((decide (1 ≤ d) && decide (d ≤ 1073741824) && decide (-1073741824 ≤ n) && decide (n ≤ 1073741824) && decide (Int.gcd n d = 1)) = C) := hC
  go_enter Tryd.func15, Tryd.ntmps15
  go_wp2_with (with_reducible refine wpList_box (o := ⟨some 1, .box 23 (.tmp 0), _, _, _, _⟩) ?g1 23 (.tmp 0) ?o1 (.agg #[.int .i64 n, .int .i64 d]) [Value.int .i64 n, Value.int .i64 d] ?x1 ?c1 ?_)
  try (case g1 => rfl)
  try (case o1 => rfl)
  try (case x1 => rfl)
  try (case c1 => rfl)
  intro g1 w1 hg1 hs1 hb1 hA1
  have hbe1 : Below w.heap.size w w1 := hb1.mono (Nat.le_of_eq hg1.out.symm)
  clear hb1 hs1 hg1
  have c0 := hA1.cell (k := 0) rfl
  have c1 := hA1.cell (k := 1) rfl
  by_cases h1 : 1 ≤ d
  · by_cases h2 : d ≤ 1073741824
    · by_cases h3 : -1073741824 ≤ n
      · by_cases h4 : n ≤ 1073741824
        · obtain ⟨n0, hn0⟩ : ∃ n0 : Nat, n.natAbs = n0 := ⟨_, rfl⟩
          have HD := Lib.hid (fun w => gcd_any (n0 : Int) d w (by omega) (by omega) (by omega) (by omega))
          have hgg : Int.gcd (n0 : Int) d = Int.gcd n d := by unfold Int.gcd; rw [Int.natAbs_natCast, hn0]
          have HE : Hid ((((Int.gcd n d : Nat) : Int) == 1) = C) := by
            have : (((Int.gcd n d : Nat) : Int) == 1) = C := by
              rw [← HC.out, decide_eq_true h1, decide_eq_true h2, decide_eq_true h3, decide_eq_true h4, Bool.true_and, Bool.true_and, Bool.true_and, Bool.true_and]
              by_cases e : Int.gcd n d = 1
              · rw [decide_eq_true e, e]; rfl
              · rw [decide_eq_false e, beq_eq_false_iff_ne]; omega
            exact this
          rw [hgg] at HD
          obtain ⟨G, hG⟩ : ∃ G, Int.gcd n d = G := ⟨_, rfl⟩
          rw [hG] at HD HE
          have hmx : Hid (max n (-n) = (n0 : Int)) := by
            have : max n (-n) = (n0 : Int) := by omega
            exact this
          have hwm : IntKind.i64.wrap (-n) = -n := by simp only [IntKind.wrap_i64]; omega
          clear hG hgg hn0
          go_wp2_with (with_reducible refine wpList_maxZg (o := ⟨some 27, .call ⟨.builtin .max, #[.tmp 23, .tmp 26], #[3, 3]⟩, _, _, _, _⟩) (by with_unfolding_all rfl) (.tmp 23) (.tmp 26) 3 3 (by with_unfolding_all rfl) n (-n) (n0 : Int) (by with_unfolding_all rfl) (by with_unfolding_all rfl) hmx.out ?_)
          (with_reducible refine (HD.out _).mono ?_)
          rintro e w2 ⟨rfl, rfl⟩
          go_wp2
          go_ret
          exact ⟨by rw [← HE.out]; rfl, hbe1⟩
        · have hc : C = false := by rw [← HC.out, decide_eq_false h4, Bool.and_false]; rfl
          subst hc
          go_wp2
          go_ret
          exact ⟨rfl, hbe1⟩
      · have hc : C = false := by rw [← HC.out, decide_eq_false h3, Bool.and_false]; rfl
        subst hc
        go_wp2
        go_ret
        exact ⟨rfl, hbe1⟩
    · have hc : C = false := by rw [← HC.out, decide_eq_false h2, Bool.and_false]; rfl
      subst hc
      go_wp2
      go_ret
      exact ⟨rfl, hbe1⟩
  · have hc : C = false := by rw [← HC.out, decide_eq_false h1]; rfl
    subst hc
    go_wp2
    go_ret
    exact ⟨rfl, hbe1⟩
set_option maxRecDepth 100000 in
set_option maxHeartbeats 3200000 in
theorem rof_any (n d : Int) (w : World) :
    Calls Tryd.prog 11 #[.int .i64 n, .int .i64 d] w fun e w' => e = ofE n d ∧ Below w.heap.size w w' := by
  obtain ⟨E, hE⟩ : ∃ E, Hid (ofE n d = E) := ⟨_, rfl⟩
  rw [hE.out]
  go_enter Tryd.func11, Tryd.ntmps11
  go_wp2_with (with_reducible refine wpList_alloc (o := ⟨some 4, .alloc 23, _, _, _, _⟩) (by with_unfolding_all rfl) 23 (by with_unfolding_all rfl) (.agg zC.toArray) zC (by exact Tryd.zeroQ) (by with_unfolding_all rfl) ?_)
  intro g4 w2 hg4 hs4 hb4 hA2
  have hl4 : w.heap.size ≤ g4 := Nat.le_of_eq hg4.out.symm
  have hbe2 : Below w.heap.size w w2 := hb4.mono hl4
  clear hb4 hs4 hg4
  by_cases hd0 : d = 0
  · subst hd0
    have hE1 : Hid (E = zret 1) := by
      have : E = zret 1 := by rw [← hE.out]; unfold ofE; rw [if_pos rfl]
      exact this
    go_wp2_with (first | (with_reducible refine wpList_build (o := ⟨some 11, .build 23 #[], _, _, _, _⟩) (by with_unfolding_all rfl) 23 #[] (by with_unfolding_all rfl) #[] (by with_unfolding_all rfl) (.agg zC.toArray) (by with_unfolding_all exact fun w => run_buildQ0 w) ?_) | (with_reducible refine wpList_put (o := ⟨none, .store 23 (.tmp 4) (.tmp 11), _, _, _, _⟩) (by with_unfolding_all rfl) 23 (.tmp 4) (.tmp 11) (by with_unfolding_all rfl) g4 0 (by with_unfolding_all rfl) (.agg zC.toArray) (by with_unfolding_all rfl) hA2 zC (by with_unfolding_all rfl) (by with_unfolding_all (exact Tryd.szQ)) (by with_unfolding_all (exact Nat.le_refl 2)) (by with_unfolding_all (exact int_one 0 0)) ?_))
    intro w3 hu3 hA3
    rw [splice_all _ _ (by rfl)] at hA3
    have hbe3 := hbe2.trans (hu3.below (B := w.heap.size) hl4)
    go_wp2
    exact bodyPost_ret (results_cell_two rfl _ _ g4 _ _ _ _ _ rfl rfl hA3 Tryd.underlying23 rfl Tryd.szQ) rfl ⟨by rw [hE1.out]; rfl, hbe3⟩
  · have hd0b : (d == 0) = false := beq_eq_false_iff_ne.2 hd0
    by_cases k1 : n < -2305843009213693952
    · have hE1 : Hid (E = zret 17) := by
        have : E = zret 17 := by rw [← hE.out]; unfold ofE; rw [if_neg hd0, if_neg (by omega)]
        exact this
      clear hE
      go_wp2_with (first | (with_reducible refine wpList_build (o := ⟨some 26, .build 23 #[], _, _, _, _⟩) (by with_unfolding_all rfl) 23 #[] (by with_unfolding_all rfl) #[] (by with_unfolding_all rfl) (.agg zC.toArray) (by with_unfolding_all exact fun w => run_buildQ0 w) ?_) | (with_reducible refine wpList_put (o := ⟨none, .store 23 (.tmp 4) (.tmp 26), _, _, _, _⟩) (by with_unfolding_all rfl) 23 (.tmp 4) (.tmp 26) (by with_unfolding_all rfl) g4 0 (by with_unfolding_all rfl) (.agg zC.toArray) (by with_unfolding_all rfl) hA2 zC (by with_unfolding_all rfl) (by with_unfolding_all (exact Tryd.szQ)) (by with_unfolding_all (exact Nat.le_refl 2)) (by with_unfolding_all (exact int_one 0 0)) ?_))
      intro w6 hu6 hA6
      rw [splice_all _ _ (by rfl)] at hA6
      have hbe6 := hbe2.trans (hu6.below (B := w.heap.size) hl4)
      go_wp2
      exact bodyPost_ret (results_cell_two rfl _ _ g4 _ _ _ _ _ rfl rfl hA6 Tryd.underlying23 rfl Tryd.szQ) rfl ⟨by rw [hE1.out]; rfl, hbe6⟩
    · by_cases k2 : 2305843009213693952 < n
      · have hE1 : Hid (E = zret 17) := by
          have : E = zret 17 := by rw [← hE.out]; unfold ofE; rw [if_neg hd0, if_neg (by omega)]
          exact this
        clear hE
        go_wp2_with (first | (with_reducible refine wpList_build (o := ⟨some 26, .build 23 #[], _, _, _, _⟩) (by with_unfolding_all rfl) 23 #[] (by with_unfolding_all rfl) #[] (by with_unfolding_all rfl) (.agg zC.toArray) (by with_unfolding_all exact fun w => run_buildQ0 w) ?_) | (with_reducible refine wpList_put (o := ⟨none, .store 23 (.tmp 4) (.tmp 26), _, _, _, _⟩) (by with_unfolding_all rfl) 23 (.tmp 4) (.tmp 26) (by with_unfolding_all rfl) g4 0 (by with_unfolding_all rfl) (.agg zC.toArray) (by with_unfolding_all rfl) hA2 zC (by with_unfolding_all rfl) (by with_unfolding_all (exact Tryd.szQ)) (by with_unfolding_all (exact Nat.le_refl 2)) (by with_unfolding_all (exact int_one 0 0)) ?_))
        intro w6 hu6 hA6
        rw [splice_all _ _ (by rfl)] at hA6
        have hbe6 := hbe2.trans (hu6.below (B := w.heap.size) hl4)
        go_wp2
        exact bodyPost_ret (results_cell_two rfl _ _ g4 _ _ _ _ _ rfl rfl hA6 Tryd.underlying23 rfl Tryd.szQ) rfl ⟨by rw [hE1.out]; rfl, hbe6⟩
      · by_cases k3 : d < -2305843009213693952
        · have hE1 : Hid (E = zret 17) := by
            have : E = zret 17 := by rw [← hE.out]; unfold ofE; rw [if_neg hd0, if_neg (by omega)]
            exact this
          clear hE
          go_wp2_with (first | (with_reducible refine wpList_build (o := ⟨some 26, .build 23 #[], _, _, _, _⟩) (by with_unfolding_all rfl) 23 #[] (by with_unfolding_all rfl) #[] (by with_unfolding_all rfl) (.agg zC.toArray) (by with_unfolding_all exact fun w => run_buildQ0 w) ?_) | (with_reducible refine wpList_put (o := ⟨none, .store 23 (.tmp 4) (.tmp 26), _, _, _, _⟩) (by with_unfolding_all rfl) 23 (.tmp 4) (.tmp 26) (by with_unfolding_all rfl) g4 0 (by with_unfolding_all rfl) (.agg zC.toArray) (by with_unfolding_all rfl) hA2 zC (by with_unfolding_all rfl) (by with_unfolding_all (exact Tryd.szQ)) (by with_unfolding_all (exact Nat.le_refl 2)) (by with_unfolding_all (exact int_one 0 0)) ?_))
          intro w6 hu6 hA6
          rw [splice_all _ _ (by rfl)] at hA6
          have hbe6 := hbe2.trans (hu6.below (B := w.heap.size) hl4)
          go_wp2
          exact bodyPost_ret (results_cell_two rfl _ _ g4 _ _ _ _ _ rfl rfl hA6 Tryd.underlying23 rfl Tryd.szQ) rfl ⟨by rw [hE1.out]; rfl, hbe6⟩
        · by_cases k4 : 2305843009213693952 < d
          · have hE1 : Hid (E = zret 17) := by
              have : E = zret 17 := by rw [← hE.out]; unfold ofE; rw [if_neg hd0, if_neg (by omega)]
              exact this
            clear hE
            go_wp2_with (first | (with_reducible refine wpList_build (o := ⟨some 26, .build 23 #[], _, _, _, _⟩) (by with_unfolding_all rfl) 23 #[] (by with_unfolding_all rfl) #[] (by with_unfolding_all rfl) (.agg zC.toArray) (by with_unfolding_all exact fun w => run_buildQ0 w) ?_) | (with_reducible refine wpList_put (o := ⟨none, .store 23 (.tmp 4) (.tmp 26), _, _, _, _⟩) (by with_unfolding_all rfl) 23 (.tmp 4) (.tmp 26) (by with_unfolding_all rfl) g4 0 (by with_unfolding_all rfl) (.agg zC.toArray) (by with_unfolding_all rfl) hA2 zC (by with_unfolding_all rfl) (by with_unfolding_all (exact Tryd.szQ)) (by with_unfolding_all (exact Nat.le_refl 2)) (by with_unfolding_all (exact int_one 0 0)) ?_))
            intro w6 hu6 hA6
            rw [splice_all _ _ (by rfl)] at hA6
            have hbe6 := hbe2.trans (hu6.below (B := w.heap.size) hl4)
            go_wp2
            exact bodyPost_ret (results_cell_two rfl _ _ g4 _ _ _ _ _ rfl rfl hA6 Tryd.underlying23 rfl Tryd.szQ) rfl ⟨by rw [hE1.out]; rfl, hbe6⟩
          · have hGp : 0 < Int.gcd n d := Int.gcd_pos_iff.2 (.inr hd0)
            obtain ⟨q, hq⟩ : ∃ q, Rat.divInt n d = q := ⟨_, rfl⟩
            have hEq : E = ansQ q := by rw [← hE.out, ← hq]; unfold ofE; rw [if_neg hd0, if_pos (by omega)]
            obtain ⟨N, hN⟩ : ∃ N, q.num = N := ⟨_, rfl⟩
            obtain ⟨D, hD⟩ : ∃ D, (q.den : Int) = D := ⟨_, rfl⟩
            obtain ⟨C, hC⟩ : ∃ C, Hid (chk N D = C) := ⟨_, rfl⟩
            have hCf : C = decide (fits q) := by rw [← hC.out, ← hN, ← hD]; exact chk_fits q
            have HOK : Hid (C = true → E = .returned (.tuple #[.agg [Value.int .i64 N, Value.int .i64 D].toArray, .int .i64 0])) := by
              have : C = true → E = .returned (.tuple #[.agg [Value.int .i64 N, Value.int .i64 D].toArray, .int .i64 0]) := fun h => by
                have hf : fits q := of_decide_eq_true (hCf.symm.trans h)
                rw [hEq]; unfold ansQ qC; rw [if_pos hf, hN, hD]
              exact this
            have HNO : Hid (C = false → E = zret 17) := by
              have : C = false → E = zret 17 := fun h => by
                have hf : ¬ fits q := of_decide_eq_false (hCf.symm.trans h)
                rw [hEq]; unfold ansQ; rw [if_neg hf]
              exact this
            obtain ⟨G, hG⟩ : ∃ G, Int.gcd n d = G := ⟨_, rfl⟩
            rw [hG] at hGp
            obtain ⟨n0, hn0⟩ : ∃ n0 : Nat, n.natAbs = n0 := ⟨_, rfl⟩
            clear hE hEq hCf
            by_cases hneg : d < 0
            · have hp := parts (n := n) (d := d) (g := -(G : Int)) hd0 (by rw [if_pos hneg, hG])
              obtain ⟨mn, hmn⟩ : ∃ m, -n = m := ⟨_, rfl⟩
              obtain ⟨en, hen⟩ : ∃ e, -d = e := ⟨_, rfl⟩
              have hqnn : mn.tdiv (G : Int) = N := by rw [← hmn, Int.neg_tdiv, ← Int.tdiv_neg, hp.1, hq, hN]
              have hqdn : en.tdiv (G : Int) = D := by rw [← hen, Int.neg_tdiv, ← Int.tdiv_neg, hp.2, hq, hD]
              have hGn : Int.gcd (n0 : Int) en = G := by rw [← hen, Int.gcd_neg]; rw [← hG]; unfold Int.gcd; rw [Int.natAbs_natCast, hn0]
              have hw1 : IntKind.i64.wrap mn = mn := by simp only [IntKind.wrap_i64]; omega
              have hw2 : IntKind.i64.wrap en = en := by simp only [IntKind.wrap_i64]; omega
              clear hp hG hq hN hD
              have HGC := Lib.hid (fun w => gcd_any (n0 : Int) en w (by omega) (by omega) (by omega) (by omega))
              rw [hGn] at HGC
              have hmx : Hid (max mn (-mn) = (n0 : Int)) := by
                have : max mn (-mn) = (n0 : Int) := by omega
                exact this
              have hwm : IntKind.i64.wrap (-mn) = -mn := by simp only [IntKind.wrap_i64]; omega
              have hwN : IntKind.i64.wrap N = N := by
                have h := Int.natAbs_tdiv mn (G : Int)
                rw [hqnn] at h
                have h2 : mn.natAbs.div (G : Int).natAbs ≤ mn.natAbs := Nat.div_le_self _ _
                simp only [IntKind.wrap_i64]; omega
              have hwD : IntKind.i64.wrap D = D := by
                have h := Int.natAbs_tdiv en (G : Int)
                rw [hqdn] at h
                have h2 : en.natAbs.div (G : Int).natAbs ≤ en.natAbs := Nat.div_le_self _ _
                simp only [IntKind.wrap_i64]; omega
              obtain ⟨g, hgv⟩ : ∃ g, (G : Int) = g := ⟨_, rfl⟩
              rw [hgv] at hqnn hqdn HGC
              have hgne : g ≠ 0 := by omega
              have hgz : (g == 0) = false := beq_eq_false_iff_ne.2 hgne
              go_wp2_with (with_reducible refine wpList_maxZ (o := ⟨some 36, .call ⟨.builtin .max, #[.tmp 33, .tmp 35], #[3, 3]⟩, _, _, _, _⟩) (by with_unfolding_all rfl) (.tmp 33) (.tmp 35) 3 3 (by with_unfolding_all rfl) mn (-mn) (n0 : Int) (by with_unfolding_all rfl) (by with_unfolding_all rfl) hmx.out ?_)
              (with_reducible refine (HGC.out _).mono ?_)
              rintro e w3 ⟨rfl, rfl⟩
              go_wp2
              have hdd := below_drew w2
              refine wp_region_held_drew (S := fun _ => True) (by kernel_rfl) trivial (fun hHeld => ?_)
              generalize w2.drew = wd at hdd hHeld ⊢
              refine wpAnyH_take (i := 0) (v := ?vtn0) rfl (by kernel_rfl) (by kernel_rfl) (by kernel_rfl) (fun _ _ _ h => h) (Or.inl ⟨by rfl, ?ytn0⟩) (by assumption) ?rtn0
              case ytn0 => intro w hSw; (try dsimp only at hSw); go_simp <;> (try with_reducible rfl)
              (try simp only [List.getElem_toArray, List.getElem_cons_zero, Act.put, List.setIfInBounds_toArray, List.set_cons_zero, List.set_cons_succ])
              refine wpAnyH_take (i := 1) (v := ?vtn1) rfl (by kernel_rfl) (by kernel_rfl) (by kernel_rfl) (fun _ _ _ h => h) (Or.inl ⟨by rfl, ?ytn1⟩) (by assumption) ?rtn1
              case ytn1 => intro w hSw; (try dsimp only at hSw); go_simp <;> (try with_reducible rfl)
              (try simp only [List.getElem_toArray, List.getElem_cons_succ, List.getElem_cons_zero, Act.put, List.setIfInBounds_toArray, List.set_cons_zero, List.set_cons_succ])
              refine wpAnyH_take (i := 2) (v := ?vtn2) rfl (by kernel_rfl) (by kernel_rfl) (by kernel_rfl) (fun _ _ _ h => h) (Or.inl ⟨by rfl, ?ytn2⟩) (by assumption) ?rtn2
              case ytn2 => intro w hSw; (try dsimp only at hSw); go_simp <;> (try with_reducible rfl)
              (try simp only [List.getElem_toArray, List.getElem_cons_succ, List.getElem_cons_zero, Act.put, List.setIfInBounds_toArray, List.set_cons_zero, List.set_cons_succ])
              refine wpAnyH_take (i := 3) (v := ?vtn3) rfl (by kernel_rfl) (by kernel_rfl) (by kernel_rfl) (fun _ _ _ h => h) (Or.inl ⟨by rfl, ?ytn3⟩) (by assumption) ?rtn3
              case ytn3 => intro w hSw; (try dsimp only at hSw); go_simp <;> (try with_reducible rfl)
              (try simp only [List.getElem_toArray, List.getElem_cons_succ, List.getElem_cons_zero, Act.put, List.setIfInBounds_toArray, List.set_cons_zero, List.set_cons_succ])
              refine wpAnyH_take (i := 4) (v := ?vtn4) rfl (by kernel_rfl) (by kernel_rfl) (by kernel_rfl) (fun _ _ _ h => h) (Or.inl ⟨by rfl, ?ytn4⟩) (by assumption) ?rtn4
              case ytn4 => intro w hSw; (try dsimp only at hSw); go_simp <;> (try with_reducible rfl)
              (try simp only [List.getElem_toArray, List.getElem_cons_succ, List.getElem_cons_zero, Act.put, List.setIfInBounds_toArray, List.set_cons_zero, List.set_cons_succ])
              refine wpAnyH_take (i := 5) (v := ?vtn5) rfl (by kernel_rfl) (by kernel_rfl) (by kernel_rfl) (fun _ _ _ h => h) (Or.inl ⟨by rfl, ?ytn5⟩) (by assumption) ?rtn5
              case ytn5 => intro w hSw; (try dsimp only at hSw); go_simp <;> (try with_reducible rfl)
              (try simp only [List.getElem_toArray, List.getElem_cons_succ, List.getElem_cons_zero, Act.put, List.setIfInBounds_toArray, List.set_cons_zero, List.set_cons_succ])
              refine wpAnyH_take (i := 6) (v := ?vtn6) rfl (by kernel_rfl) (by kernel_rfl) (by kernel_rfl) (fun _ _ _ h => h) (Or.inl ⟨by rfl, ?ytn6⟩) (by assumption) ?rtn6
              case ytn6 => intro w hSw; (try dsimp only at hSw); go_simp <;> (try with_reducible rfl)
              (try simp only [List.getElem_toArray, List.getElem_cons_succ, List.getElem_cons_zero, Act.put, List.setIfInBounds_toArray, List.set_cons_zero, List.set_cons_succ])
              refine wpAnyH_ready (rs := [7]) (by kernel_rfl) (by simp) ?_
              refine AllReadyH.cons rfl (fun K hK => ?_) AllReadyH.nil
              rw [if_pos (by rfl)]
              refine wp_allocz 23 rfl (.agg zC.toArray) zC Tryd.zeroQ rfl ?_
              intro gr w7 hgr hs3 hb3 hR3
              have hb3 := hb3.mono (Nat.le_of_eq hgr.out.symm)
              have hA3 := (hA2.next hdd hA2.lt).next hb3 (by have := hA2.lt; have := hdd.size; omega)
              have hlt : g4 < gr := by have := hA2.lt; have := hdd.size; have := hgr.out; omega
              have hbe3 := below_join (below_join hbe2 hdd) hb3
              refine hK.out _ _ trivial (fun hHeld => ?_)
              clear hK K hb3 hgr hs3 hdd
              refine wpAnyH_ready (rs := [8]) (by kernel_rfl) (by simp) ?_
              refine AllReadyH.cons rfl (fun K hK => ?_) AllReadyH.nil
              rw [if_pos (by rfl)]
              refine wp_put 23 (.tmp 7) (.tmp 45) rfl gr 0 rfl (.agg [Value.int .i64 N, Value.int .i64 D].toArray) rfl hR3 [Value.int .i64 N, Value.int .i64 D] rfl Tryd.szQ (Nat.le_refl 2) (fun u hu => by simp at hu; rcases hu with rfl | rfl <;> rfl) ?_
              intro w4 hu4 hR4
              rw [splice_all _ _ (by rfl)] at hR4
              have hA4 := hA3.upd hu4 (by omega)
              have hbe4 := hbe3.trans (hu4.below (B := w.heap.size) (by have := hA2.lt; omega))
              refine hK.out _ _ trivial (fun hHeld => ?_)
              clear hK K hR3 hu4 hA3 hbe3
              refine wpAnyH_done (by kernel_rfl) ?_ _
              clear hHeld
              go_wp2_with (with_reducible refine wpList_get (o := ⟨some 46, .load 23 (.tmp 7), _, _, _, _⟩) (by with_unfolding_all rfl) 23 (.tmp 7) (by with_unfolding_all rfl) gr 0 (by with_unfolding_all rfl) hR4 [Value.int .i64 N, Value.int .i64 D] (cs_all _) _ (by exact Tryd.underlying23) (by with_unfolding_all rfl) (by with_unfolding_all exact Tryd.szQ) ?_)
              (with_reducible refine (rcheck_any N D _).mono ?_)
              rintro e w5 ⟨rfl, hb5⟩
              rw [hC.out]
              have hR5 := hR4.next hb5 hR4.lt
              have hA5 := hA4.next hb5 hA4.lt
              have hbe5 := below_join hbe4 hb5
              clear hb5
              cases C with
              | true =>
                have hfin := Lib.hid (HOK.out rfl)
                go_wp2_with (first | (with_reducible refine wpList_get (o := ⟨some 51, .load 23 (.tmp 7), _, _, _, _⟩) (by with_unfolding_all rfl) 23 (.tmp 7) (by with_unfolding_all rfl) gr 0 (by with_unfolding_all rfl) hR5 [Value.int .i64 N, Value.int .i64 D] (cs_all _) _ (by exact Tryd.underlying23) (by with_unfolding_all rfl) (by with_unfolding_all exact Tryd.szQ) ?_) | (with_reducible refine wpList_put (o := ⟨none, .store 23 (.tmp 4) (.tmp 51), _, _, _, _⟩) (by with_unfolding_all rfl) 23 (.tmp 4) (.tmp 51) (by with_unfolding_all rfl) g4 0 (by with_unfolding_all rfl) (.agg [Value.int .i64 N, Value.int .i64 D].toArray) (by with_unfolding_all rfl) hA5 [Value.int .i64 N, Value.int .i64 D] (by with_unfolding_all rfl) (by with_unfolding_all (exact Tryd.szQ)) (by with_unfolding_all (exact Nat.le_refl 2)) (by with_unfolding_all (exact int_one N D)) ?_))
                intro w6 hu6 hA6
                rw [splice_all _ _ (by rfl)] at hA6
                have hbe6 := hbe5.trans (hu6.below (B := w.heap.size) hl4)
                go_wp2
                exact bodyPost_ret (results_cell_two rfl _ _ g4 _ _ _ _ _ rfl rfl hA6 Tryd.underlying23 rfl Tryd.szQ) rfl ⟨by rw [hfin.out]; rfl, hbe6⟩
              | false =>
                have hfin := Lib.hid (HNO.out rfl)
                go_wp2_with (first | (with_reducible refine wpList_build (o := ⟨some 50, .build 23 #[], _, _, _, _⟩) (by with_unfolding_all rfl) 23 #[] (by with_unfolding_all rfl) #[] (by with_unfolding_all rfl) (.agg zC.toArray) (by with_unfolding_all exact fun w => run_buildQ0 w) ?_) | (with_reducible refine wpList_put (o := ⟨none, .store 23 (.tmp 4) (.tmp 50), _, _, _, _⟩) (by with_unfolding_all rfl) 23 (.tmp 4) (.tmp 50) (by with_unfolding_all rfl) g4 0 (by with_unfolding_all rfl) (.agg zC.toArray) (by with_unfolding_all rfl) hA5 zC (by with_unfolding_all rfl) (by with_unfolding_all (exact Tryd.szQ)) (by with_unfolding_all (exact Nat.le_refl 2)) (by with_unfolding_all (exact int_one 0 0)) ?_))
                intro w6 hu6 hA6
                rw [splice_all _ _ (by rfl)] at hA6
                have hbe6 := hbe5.trans (hu6.below (B := w.heap.size) hl4)
                go_wp2
                exact bodyPost_ret (results_cell_two rfl _ _ g4 _ _ _ _ _ rfl rfl hA6 Tryd.underlying23 rfl Tryd.szQ) rfl ⟨by rw [hfin.out]; rfl, hbe6⟩
            · have hp := parts (n := n) (d := d) (g := (G : Int)) hd0 (by rw [if_neg hneg, hG])
              have hqnp : n.tdiv (G : Int) = N := by rw [hp.1, hq, hN]
              have hqdp : d.tdiv (G : Int) = D := by rw [hp.2, hq, hD]
              have hGp' : Int.gcd (n0 : Int) d = G := by rw [← hG]; unfold Int.gcd; rw [Int.natAbs_natCast, hn0]
              clear hp hG hq hN hD
              obtain ⟨mp, hmp⟩ : ∃ m, m = n := ⟨n, rfl⟩
              obtain ⟨ep, hep⟩ : ∃ e, e = d := ⟨d, rfl⟩
              subst hmp
              subst hep
              have hGp := hGp'
              have HGC := Lib.hid (fun w => gcd_any (n0 : Int) ep w (by omega) (by omega) (by omega) (by omega))
              rw [hGp] at HGC
              have hmx : Hid (max mp (-mp) = (n0 : Int)) := by
                have : max mp (-mp) = (n0 : Int) := by omega
                exact this
              have hwm : IntKind.i64.wrap (-mp) = -mp := by simp only [IntKind.wrap_i64]; omega
              have hwN : IntKind.i64.wrap N = N := by
                have h := Int.natAbs_tdiv mp (G : Int)
                rw [hqnp] at h
                have h2 : mp.natAbs.div (G : Int).natAbs ≤ mp.natAbs := Nat.div_le_self _ _
                simp only [IntKind.wrap_i64]; omega
              have hwD : IntKind.i64.wrap D = D := by
                have h := Int.natAbs_tdiv ep (G : Int)
                rw [hqdp] at h
                have h2 : ep.natAbs.div (G : Int).natAbs ≤ ep.natAbs := Nat.div_le_self _ _
                simp only [IntKind.wrap_i64]; omega
              obtain ⟨g, hgv⟩ : ∃ g, (G : Int) = g := ⟨_, rfl⟩
              rw [hgv] at hqnp hqdp HGC
              have hgne : g ≠ 0 := by omega
              have hgz : (g == 0) = false := beq_eq_false_iff_ne.2 hgne
              go_wp2_with (with_reducible refine wpList_maxZ (o := ⟨some 36, .call ⟨.builtin .max, #[.tmp 33, .tmp 35], #[3, 3]⟩, _, _, _, _⟩) (by with_unfolding_all rfl) (.tmp 33) (.tmp 35) 3 3 (by with_unfolding_all rfl) mp (-mp) (n0 : Int) (by with_unfolding_all rfl) (by with_unfolding_all rfl) hmx.out ?_)
              (with_reducible refine (HGC.out _).mono ?_)
              rintro e w3 ⟨rfl, rfl⟩
              go_wp2
              have hdd := below_drew w2
              refine wp_region_held_drew (S := fun _ => True) (by kernel_rfl) trivial (fun hHeld => ?_)
              generalize w2.drew = wd at hdd hHeld ⊢
              refine wpAnyH_take (i := 0) (v := ?vtp0) rfl (by kernel_rfl) (by kernel_rfl) (by kernel_rfl) (fun _ _ _ h => h) (Or.inl ⟨by rfl, ?ytp0⟩) (by assumption) ?rtp0
              case ytp0 => intro w hSw; (try dsimp only at hSw); go_simp <;> (try with_reducible rfl)
              (try simp only [List.getElem_toArray, List.getElem_cons_zero, Act.put, List.setIfInBounds_toArray, List.set_cons_zero, List.set_cons_succ])
              refine wpAnyH_take (i := 1) (v := ?vtp1) rfl (by kernel_rfl) (by kernel_rfl) (by kernel_rfl) (fun _ _ _ h => h) (Or.inl ⟨by rfl, ?ytp1⟩) (by assumption) ?rtp1
              case ytp1 => intro w hSw; (try dsimp only at hSw); go_simp <;> (try with_reducible rfl)
              (try simp only [List.getElem_toArray, List.getElem_cons_succ, List.getElem_cons_zero, Act.put, List.setIfInBounds_toArray, List.set_cons_zero, List.set_cons_succ])
              refine wpAnyH_take (i := 2) (v := ?vtp2) rfl (by kernel_rfl) (by kernel_rfl) (by kernel_rfl) (fun _ _ _ h => h) (Or.inl ⟨by rfl, ?ytp2⟩) (by assumption) ?rtp2
              case ytp2 => intro w hSw; (try dsimp only at hSw); go_simp <;> (try with_reducible rfl)
              (try simp only [List.getElem_toArray, List.getElem_cons_succ, List.getElem_cons_zero, Act.put, List.setIfInBounds_toArray, List.set_cons_zero, List.set_cons_succ])
              refine wpAnyH_take (i := 3) (v := ?vtp3) rfl (by kernel_rfl) (by kernel_rfl) (by kernel_rfl) (fun _ _ _ h => h) (Or.inl ⟨by rfl, ?ytp3⟩) (by assumption) ?rtp3
              case ytp3 => intro w hSw; (try dsimp only at hSw); go_simp <;> (try with_reducible rfl)
              (try simp only [List.getElem_toArray, List.getElem_cons_succ, List.getElem_cons_zero, Act.put, List.setIfInBounds_toArray, List.set_cons_zero, List.set_cons_succ])
              refine wpAnyH_take (i := 4) (v := ?vtp4) rfl (by kernel_rfl) (by kernel_rfl) (by kernel_rfl) (fun _ _ _ h => h) (Or.inl ⟨by rfl, ?ytp4⟩) (by assumption) ?rtp4
              case ytp4 => intro w hSw; (try dsimp only at hSw); go_simp <;> (try with_reducible rfl)
              (try simp only [List.getElem_toArray, List.getElem_cons_succ, List.getElem_cons_zero, Act.put, List.setIfInBounds_toArray, List.set_cons_zero, List.set_cons_succ])
              refine wpAnyH_take (i := 5) (v := ?vtp5) rfl (by kernel_rfl) (by kernel_rfl) (by kernel_rfl) (fun _ _ _ h => h) (Or.inl ⟨by rfl, ?ytp5⟩) (by assumption) ?rtp5
              case ytp5 => intro w hSw; (try dsimp only at hSw); go_simp <;> (try with_reducible rfl)
              (try simp only [List.getElem_toArray, List.getElem_cons_succ, List.getElem_cons_zero, Act.put, List.setIfInBounds_toArray, List.set_cons_zero, List.set_cons_succ])
              refine wpAnyH_take (i := 6) (v := ?vtp6) rfl (by kernel_rfl) (by kernel_rfl) (by kernel_rfl) (fun _ _ _ h => h) (Or.inl ⟨by rfl, ?ytp6⟩) (by assumption) ?rtp6
              case ytp6 => intro w hSw; (try dsimp only at hSw); go_simp <;> (try with_reducible rfl)
              (try simp only [List.getElem_toArray, List.getElem_cons_succ, List.getElem_cons_zero, Act.put, List.setIfInBounds_toArray, List.set_cons_zero, List.set_cons_succ])
              refine wpAnyH_ready (rs := [7]) (by kernel_rfl) (by simp) ?_
              refine AllReadyH.cons rfl (fun K hK => ?_) AllReadyH.nil
              rw [if_pos (by rfl)]
              refine wp_allocz 23 rfl (.agg zC.toArray) zC Tryd.zeroQ rfl ?_
              intro gr w7 hgr hs3 hb3 hR3
              have hb3 := hb3.mono (Nat.le_of_eq hgr.out.symm)
              have hA3 := (hA2.next hdd hA2.lt).next hb3 (by have := hA2.lt; have := hdd.size; omega)
              have hlt : g4 < gr := by have := hA2.lt; have := hdd.size; have := hgr.out; omega
              have hbe3 := below_join (below_join hbe2 hdd) hb3
              refine hK.out _ _ trivial (fun hHeld => ?_)
              clear hK K hb3 hgr hs3 hdd
              refine wpAnyH_ready (rs := [8]) (by kernel_rfl) (by simp) ?_
              refine AllReadyH.cons rfl (fun K hK => ?_) AllReadyH.nil
              rw [if_pos (by rfl)]
              refine wp_put 23 (.tmp 7) (.tmp 45) rfl gr 0 rfl (.agg [Value.int .i64 N, Value.int .i64 D].toArray) rfl hR3 [Value.int .i64 N, Value.int .i64 D] rfl Tryd.szQ (Nat.le_refl 2) (fun u hu => by simp at hu; rcases hu with rfl | rfl <;> rfl) ?_
              intro w4 hu4 hR4
              rw [splice_all _ _ (by rfl)] at hR4
              have hA4 := hA3.upd hu4 (by omega)
              have hbe4 := hbe3.trans (hu4.below (B := w.heap.size) (by have := hA2.lt; omega))
              refine hK.out _ _ trivial (fun hHeld => ?_)
              clear hK K hR3 hu4 hA3 hbe3
              refine wpAnyH_done (by kernel_rfl) ?_ _
              clear hHeld
              go_wp2_with (with_reducible refine wpList_get (o := ⟨some 46, .load 23 (.tmp 7), _, _, _, _⟩) (by with_unfolding_all rfl) 23 (.tmp 7) (by with_unfolding_all rfl) gr 0 (by with_unfolding_all rfl) hR4 [Value.int .i64 N, Value.int .i64 D] (cs_all _) _ (by exact Tryd.underlying23) (by with_unfolding_all rfl) (by with_unfolding_all exact Tryd.szQ) ?_)
              (with_reducible refine (rcheck_any N D _).mono ?_)
              rintro e w5 ⟨rfl, hb5⟩
              rw [hC.out]
              have hR5 := hR4.next hb5 hR4.lt
              have hA5 := hA4.next hb5 hA4.lt
              have hbe5 := below_join hbe4 hb5
              clear hb5
              cases C with
              | true =>
                have hfin := Lib.hid (HOK.out rfl)
                go_wp2_with (first | (with_reducible refine wpList_get (o := ⟨some 51, .load 23 (.tmp 7), _, _, _, _⟩) (by with_unfolding_all rfl) 23 (.tmp 7) (by with_unfolding_all rfl) gr 0 (by with_unfolding_all rfl) hR5 [Value.int .i64 N, Value.int .i64 D] (cs_all _) _ (by exact Tryd.underlying23) (by with_unfolding_all rfl) (by with_unfolding_all exact Tryd.szQ) ?_) | (with_reducible refine wpList_put (o := ⟨none, .store 23 (.tmp 4) (.tmp 51), _, _, _, _⟩) (by with_unfolding_all rfl) 23 (.tmp 4) (.tmp 51) (by with_unfolding_all rfl) g4 0 (by with_unfolding_all rfl) (.agg [Value.int .i64 N, Value.int .i64 D].toArray) (by with_unfolding_all rfl) hA5 [Value.int .i64 N, Value.int .i64 D] (by with_unfolding_all rfl) (by with_unfolding_all (exact Tryd.szQ)) (by with_unfolding_all (exact Nat.le_refl 2)) (by with_unfolding_all (exact int_one N D)) ?_))
                intro w6 hu6 hA6
                rw [splice_all _ _ (by rfl)] at hA6
                have hbe6 := hbe5.trans (hu6.below (B := w.heap.size) hl4)
                go_wp2
                exact bodyPost_ret (results_cell_two rfl _ _ g4 _ _ _ _ _ rfl rfl hA6 Tryd.underlying23 rfl Tryd.szQ) rfl ⟨by rw [hfin.out]; rfl, hbe6⟩
              | false =>
                have hfin := Lib.hid (HNO.out rfl)
                go_wp2_with (first | (with_reducible refine wpList_build (o := ⟨some 50, .build 23 #[], _, _, _, _⟩) (by with_unfolding_all rfl) 23 #[] (by with_unfolding_all rfl) #[] (by with_unfolding_all rfl) (.agg zC.toArray) (by with_unfolding_all exact fun w => run_buildQ0 w) ?_) | (with_reducible refine wpList_put (o := ⟨none, .store 23 (.tmp 4) (.tmp 50), _, _, _, _⟩) (by with_unfolding_all rfl) 23 (.tmp 4) (.tmp 50) (by with_unfolding_all rfl) g4 0 (by with_unfolding_all rfl) (.agg zC.toArray) (by with_unfolding_all rfl) hA5 zC (by with_unfolding_all rfl) (by with_unfolding_all (exact Tryd.szQ)) (by with_unfolding_all (exact Nat.le_refl 2)) (by with_unfolding_all (exact int_one 0 0)) ?_))
                intro w6 hu6 hA6
                rw [splice_all _ _ (by rfl)] at hA6
                have hbe6 := hbe5.trans (hu6.below (B := w.heap.size) hl4)
                go_wp2
                exact bodyPost_ret (results_cell_two rfl _ _ g4 _ _ _ _ _ rfl rfl hA6 Tryd.underlying23 rfl Tryd.szQ) rfl ⟨by rw [hfin.out]; rfl, hbe6⟩
end Go.Proofs.YthjaelopmfjfeaaDoor
