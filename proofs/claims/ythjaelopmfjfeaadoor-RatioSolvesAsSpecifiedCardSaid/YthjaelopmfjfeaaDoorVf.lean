/-
  Contracts of the walks over whole, Cmp, Floor and Ceil of both sides. Conditions: normal ratios.
-/
import Derived.Test.YthjaelopmfjfeaaDoorVe
namespace Go.Proofs.YthjaelopmfjfeaaDoor
set_option linter.unusedVariables false
set_option linter.unusedSimpArgs false
open Go.RowKit

/-- How two numbers compare. -/
def cmpQ (p q : Rat) : Int := if p < q then -1 else if q < p then 1 else 0
theorem floor_go (q : Rat) : q.floor = if q.num.tmod q.den < 0 then q.num.tdiv q.den - 1 else q.num.tdiv q.den := by
  have hd := q.den_pos
  have h1 := Int.emod_nonneg q.num (den_ne q)
  have h2 := Int.emod_lt_of_pos q.num (show (0 : Int) < q.den by omega)
  rw [Rat.floor_def, Int.tdiv_eq_ediv, Int.tmod_eq_emod]
  by_cases h : 0 ≤ q.num ∨ (q.den : Int) ∣ q.num
  · rw [if_pos h, if_pos h, if_neg (by omega)]; omega
  · rw [if_neg h, if_neg h, Int.natAbs_natCast, if_pos (by omega), Int.sign_eq_one_of_pos (by omega)]; omega
theorem floor_ref (q : Rat) : q.floor = if q.num < q.num.tdiv q.den * q.den then q.num.tdiv q.den - 1 else q.num.tdiv q.den := by
  rw [floor_go]
  have h := Int.mul_tdiv_add_tmod q.num q.den
  rw [Int.mul_comm] at h
  by_cases h1 : q.num.tmod q.den < 0
  · rw [if_pos h1, if_pos (by omega)]
  · rw [if_neg h1, if_neg (by omega)]
theorem fits_neg {q : Rat} (h : fits q) : fits (-q) := by
  obtain ⟨h1, h2, h3⟩ := h
  refine ⟨?_, ?_, ?_⟩
  · rw [Rat.neg_num]; omega
  · rw [Rat.neg_num]; omega
  · rw [Rat.neg_den]; exact h3
theorem tdiv_bound {q : Rat} (h : fits q) : -1073741824 ≤ q.num.tdiv q.den ∧ q.num.tdiv q.den ≤ 1073741824 := by
  have e := Int.natAbs_tdiv q.num q.den
  have e2 : q.num.natAbs.div (q.den : Int).natAbs ≤ q.num.natAbs := Nat.div_le_self _ _
  have := h.1
  have := h.2.1
  omega
theorem tmod_bound (q : Rat) (h : fits q) : -1073741824 ≤ q.num.tmod q.den ∧ q.num.tmod q.den ≤ 1073741824 := by
  have e := tmod_less q.num q.den (den_ne q)
  have := h.2.2
  omega
set_option maxRecDepth 100000 in
set_option maxHeartbeats 1600000 in
theorem whole_any (n : Int) (w : World) :
    Calls Tryd.prog 54 #[.int .i64 n] w fun e w' => e = .returned (.agg [Value.int .i64 n, Value.int .i64 1].toArray) ∧ Below w.heap.size w w' := by
  go_enter Tryd.func54, Tryd.ntmps54
  go_wp2_with (with_reducible refine wpList_alloc (o := ⟨some 2, .alloc 23, _, _, _, _⟩) (by with_unfolding_all rfl) 23 (by with_unfolding_all rfl) (.agg zC.toArray) zC (by exact Tryd.zeroQ) (by with_unfolding_all rfl) ?_)
  intro g4 w3 hg4 hs3 hb3 hC3
  have hl4 : w.heap.size ≤ g4 := Nat.le_of_eq hg4.out.symm
  have hbe : Below w.heap.size w w3 := hb3.mono (Nat.le_of_eq hg4.out.symm)
  clear hb3 hs3 hg4
  go_wp2_with (first | (with_reducible refine wpList_build (o := ⟨some 4, .build 23 #[(0, .tmp 3), (1, .const (.int .i64 1))], _, _, _, _⟩) (by with_unfolding_all rfl) 23 #[(0, .tmp 3), (1, .const (.int .i64 1))] (by with_unfolding_all rfl) #[(0, .int .i64 n), (1, .int .i64 1)] (by with_unfolding_all rfl) (.agg [Value.int .i64 n, Value.int .i64 1].toArray) (by with_unfolding_all exact fun w => run_buildQ w n 1) ?_) | (with_reducible refine wpList_put (o := ⟨none, .store 23 (.tmp 2) (.tmp 4), _, _, _, _⟩) (by with_unfolding_all rfl) 23 (.tmp 2) (.tmp 4) (by with_unfolding_all rfl) g4 0 (by with_unfolding_all rfl) (.agg [Value.int .i64 n, Value.int .i64 1].toArray) (by with_unfolding_all rfl) hC3 [Value.int .i64 n, Value.int .i64 1] (by with_unfolding_all rfl) (by with_unfolding_all (exact Tryd.szQ)) (by with_unfolding_all (exact Nat.le_refl 2)) (by with_unfolding_all (exact int_one n 1)) ?_))
  intro w6 hu6 hA6
  rw [splice_all _ _ (by rfl)] at hA6
  have hbe6 := hbe.trans (hu6.below (B := w.heap.size) hl4)
  go_wp2
  exact bodyPost_ret (results_cell_row rfl _ _ g4 _ _ _ _ rfl hA6 Tryd.underlying23 rfl Tryd.szQ) rfl ⟨rfl, hbe6⟩
set_option maxRecDepth 100000 in
set_option maxHeartbeats 1600000 in
theorem lwhole_any (n : Int) (w : World) :
    Calls Tryd.prog 34 #[.int .i64 n] w fun e w' => e = .returned (.agg [Value.int .i64 n, Value.int .i64 1].toArray) ∧ Below w.heap.size w w' := by
  go_enter Tryd.func34, Tryd.ntmps34
  go_wp2_with (with_reducible refine wpList_alloc (o := ⟨some 2, .alloc 23, _, _, _, _⟩) (by with_unfolding_all rfl) 23 (by with_unfolding_all rfl) (.agg zC.toArray) zC (by exact Tryd.zeroQ) (by with_unfolding_all rfl) ?_)
  intro g4 w3 hg4 hs3 hb3 hC3
  have hl4 : w.heap.size ≤ g4 := Nat.le_of_eq hg4.out.symm
  have hbe : Below w.heap.size w w3 := hb3.mono (Nat.le_of_eq hg4.out.symm)
  clear hb3 hs3 hg4
  go_wp2_with (first | (with_reducible refine wpList_build (o := ⟨some 4, .build 23 #[(0, .tmp 3), (1, .const (.int .i64 1))], _, _, _, _⟩) (by with_unfolding_all rfl) 23 #[(0, .tmp 3), (1, .const (.int .i64 1))] (by with_unfolding_all rfl) #[(0, .int .i64 n), (1, .int .i64 1)] (by with_unfolding_all rfl) (.agg [Value.int .i64 n, Value.int .i64 1].toArray) (by with_unfolding_all exact fun w => run_buildQ w n 1) ?_) | (with_reducible refine wpList_put (o := ⟨none, .store 23 (.tmp 2) (.tmp 4), _, _, _, _⟩) (by with_unfolding_all rfl) 23 (.tmp 2) (.tmp 4) (by with_unfolding_all rfl) g4 0 (by with_unfolding_all rfl) (.agg [Value.int .i64 n, Value.int .i64 1].toArray) (by with_unfolding_all rfl) hC3 [Value.int .i64 n, Value.int .i64 1] (by with_unfolding_all rfl) (by with_unfolding_all (exact Tryd.szQ)) (by with_unfolding_all (exact Nat.le_refl 2)) (by with_unfolding_all (exact int_one n 1)) ?_))
  intro w6 hu6 hA6
  rw [splice_all _ _ (by rfl)] at hA6
  have hbe6 := hbe.trans (hu6.below (B := w.heap.size) hl4)
  go_wp2
  exact bodyPost_ret (results_cell_row rfl _ _ g4 _ _ _ _ rfl hA6 Tryd.underlying23 rfl Tryd.szQ) rfl ⟨rfl, hbe6⟩
set_option maxRecDepth 100000 in
set_option maxHeartbeats 1600000 in
theorem isNaN_any (x : Int) (w : World) : Calls Tryd.prog 71 #[.int .i64 x] w fun e w' => e = .returned (.bool false) ∧ w = w' := by
  have h : (x != x) = false := by simp
  go_enter Tryd.func71, Tryd.ntmps71
  go_wp2
  go_ret
  exact ⟨rfl, rfl⟩
set_option maxRecDepth 100000 in
set_option maxHeartbeats 1600000 in
theorem compare_any (x y C : Int) (w : World) (h : (x < y → C = -1) ∧ (y < x → C = 1) ∧ (x = y → C = 0)) : Calls Tryd.prog 56 #[.int .i64 x, .int .i64 y] w fun e w' => e = .returned (.int .i64 C) ∧ w = w' := by
  have H := Lib.hid h
  clear h
  go_enter Tryd.func56, Tryd.ntmps56
  go_wp2_with fail
  (with_reducible refine (isNaN_any x _).mono ?_)
  rintro e w1 ⟨rfl, rfl⟩
  go_wp2_with fail
  (with_reducible refine (isNaN_any y _).mono ?_)
  rintro e w1 ⟨rfl, rfl⟩
  by_cases h1 : x < y
  · obtain rfl := H.out.1 h1
    go_wp2
    go_ret
    exact ⟨rfl, rfl⟩
  · by_cases h2 : y < x
    · obtain rfl := H.out.2.1 h2
      have h1' : y ≤ x := by omega
      go_wp2
      go_ret
      exact ⟨rfl, rfl⟩
    · obtain rfl := H.out.2.2 (by omega)
      go_wp2
      go_ret
      exact ⟨rfl, rfl⟩
set_option maxRecDepth 100000 in
set_option maxHeartbeats 1600000 in
theorem cmp_any (p q : Rat) (w : World) (hp : fits p) (hq : fits q) :
    Calls Tryd.prog 25 #[.agg (qC p).toArray, .agg (qC q).toArray] w fun e w' => e = .returned (.int .i64 (cmpQ p q)) ∧ Below w.heap.size w w' := by
  have hpr := prods hp hq
  have e1 := Rat.lt_iff p q
  have e2 := Rat.lt_iff q p
  have hc1 : qC p = [Value.int .i64 p.num, Value.int .i64 (p.den : Int)] := rfl
  have hc2 : qC q = [Value.int .i64 q.num, Value.int .i64 (q.den : Int)] := rfl
  obtain ⟨C, hC⟩ : ∃ C, cmpQ p q = C := ⟨_, rfl⟩
  have hCv : (p.num * (q.den : Int) < q.num * (p.den : Int) → C = -1) ∧ (q.num * (p.den : Int) < p.num * (q.den : Int) → C = 1) ∧ (p.num * (q.den : Int) = q.num * (p.den : Int) → C = 0) := by
    rw [← hC]
    unfold cmpQ
    refine ⟨fun h => ?_, fun h => ?_, fun h => ?_⟩
    · rw [if_pos (e1.2 h)]
    · rw [if_neg (fun h2 => by have := e1.1 h2; omega), if_pos (e2.2 h)]
    · rw [if_neg (fun h2 => by have := e1.1 h2; omega), if_neg (fun h2 => by have := e2.1 h2; omega)]
  rw [hc1, hc2, hC]
  obtain ⟨a, ha⟩ : ∃ a, p.num = a := ⟨_, rfl⟩
  obtain ⟨b, hb⟩ : ∃ b, (p.den : Int) = b := ⟨_, rfl⟩
  obtain ⟨c, hc⟩ : ∃ c, q.num = c := ⟨_, rfl⟩
  obtain ⟨d, hd⟩ : ∃ d, (q.den : Int) = d := ⟨_, rfl⟩
  rw [ha, hb, hc, hd] at hCv hpr ⊢
  clear ha hb hc hd hC hc1 hc2 hp hq e1 e2
  obtain ⟨M1, hm1⟩ : ∃ m, a * d = m := ⟨_, rfl⟩
  obtain ⟨M2, hm2⟩ : ∃ m, c * b = m := ⟨_, rfl⟩
  rw [hm1, hm2] at hCv hpr
  have hw1 : IntKind.i64.wrap M1 = M1 := by simp only [IntKind.wrap_i64]; omega
  have hw2 : IntKind.i64.wrap M2 = M2 := by simp only [IntKind.wrap_i64]; omega
  have HCV := Lib.hid hCv
  clear hpr hCv
  have HCO := Lib.hid (fun w => compare_any M1 M2 C w HCV.out)
  go_enter Tryd.func25, Tryd.ntmps25
  go_wp2_with (with_reducible refine wpList_box (o := ⟨some 2, .box 23 (.tmp 0), _, _, _, _⟩) ?g1 23 (.tmp 0) ?o1 (.agg [Value.int .i64 a, Value.int .i64 b].toArray) [Value.int .i64 a, Value.int .i64 b] ?x1 ?c1 ?_)
  try (case g1 => rfl)
  try (case o1 => rfl)
  try (case x1 => rfl)
  try (case c1 => rfl)
  intro g2 w1 hg2 hs1 hb1 hA1
  have hbe : Below w.heap.size w w1 := hb1.mono (Nat.le_of_eq hg2.out.symm)
  clear hb1 hs1 hg2
  go_wp2_with (with_reducible refine wpList_box (o := ⟨some 3, .box 23 (.tmp 1), _, _, _, _⟩) ?g2 23 (.tmp 1) ?o2 (.agg [Value.int .i64 c, Value.int .i64 d].toArray) [Value.int .i64 c, Value.int .i64 d] ?x2 ?c2 ?_)
  try (case g2 => rfl)
  try (case o2 => rfl)
  try (case x2 => rfl)
  try (case c2 => rfl)
  intro g3 w2 hg3 hs2 hb2 hB2
  have hb2 := hb2.mono (Nat.le_of_eq hg3.out.symm)
  have hA2 := hA1.next hb2 hA1.lt
  have hbe := below_join hbe hb2
  clear hb2 hs2 hg3 hA1
  have c0 := hA2.cell (k := 0) rfl
  have c1 := hA2.cell (k := 1) rfl
  have d0 := hB2.cell (k := 0) rfl
  have d1 := hB2.cell (k := 1) rfl
  go_wp2_with fail
  (with_reducible refine (HCO.out _).mono ?_)
  rintro e w4 ⟨rfl, rfl⟩
  go_wp2
  go_ret
  exact ⟨rfl, hbe⟩
set_option maxRecDepth 100000 in
set_option maxHeartbeats 1600000 in
theorem rcmp_any (p q : Rat) (w : World) (hp : fits p) (hq : fits q) :
    Calls Tryd.prog 26 #[.agg (qC p).toArray, .agg (qC q).toArray] w fun e w' => e = .returned (.int .i64 (cmpQ p q)) ∧ Below w.heap.size w w' := by
  have hpr := prods hp hq
  have e1 := Rat.lt_iff p q
  have e2 := Rat.lt_iff q p
  have hc1 : qC p = [Value.int .i64 p.num, Value.int .i64 (p.den : Int)] := rfl
  have hc2 : qC q = [Value.int .i64 q.num, Value.int .i64 (q.den : Int)] := rfl
  obtain ⟨C, hC⟩ : ∃ C, cmpQ p q = C := ⟨_, rfl⟩
  have hCv : (p.num * (q.den : Int) < q.num * (p.den : Int) → C = -1) ∧ (q.num * (p.den : Int) < p.num * (q.den : Int) → C = 1) ∧ (p.num * (q.den : Int) = q.num * (p.den : Int) → C = 0) := by
    rw [← hC]
    unfold cmpQ
    refine ⟨fun h => ?_, fun h => ?_, fun h => ?_⟩
    · rw [if_pos (e1.2 h)]
    · rw [if_neg (fun h2 => by have := e1.1 h2; omega), if_pos (e2.2 h)]
    · rw [if_neg (fun h2 => by have := e1.1 h2; omega), if_neg (fun h2 => by have := e2.1 h2; omega)]
  rw [hc1, hc2, hC]
  obtain ⟨a, ha⟩ : ∃ a, p.num = a := ⟨_, rfl⟩
  obtain ⟨b, hb⟩ : ∃ b, (p.den : Int) = b := ⟨_, rfl⟩
  obtain ⟨c, hc⟩ : ∃ c, q.num = c := ⟨_, rfl⟩
  obtain ⟨d, hd⟩ : ∃ d, (q.den : Int) = d := ⟨_, rfl⟩
  rw [ha, hb, hc, hd] at hCv hpr ⊢
  clear ha hb hc hd hC hc1 hc2 hp hq e1 e2
  obtain ⟨M1, hm1⟩ : ∃ m, a * d = m := ⟨_, rfl⟩
  obtain ⟨M2, hm2⟩ : ∃ m, c * b = m := ⟨_, rfl⟩
  rw [hm1, hm2] at hCv hpr
  have hw1 : IntKind.i64.wrap M1 = M1 := by simp only [IntKind.wrap_i64]; omega
  have hw2 : IntKind.i64.wrap M2 = M2 := by simp only [IntKind.wrap_i64]; omega
  have HCV := Lib.hid hCv
  clear hpr hCv
  go_enter Tryd.func26, Tryd.ntmps26
  go_wp2_with (with_reducible refine wpList_box (o := ⟨some 2, .box 23 (.tmp 0), _, _, _, _⟩) ?g1 23 (.tmp 0) ?o1 (.agg [Value.int .i64 a, Value.int .i64 b].toArray) [Value.int .i64 a, Value.int .i64 b] ?x1 ?c1 ?_)
  try (case g1 => rfl)
  try (case o1 => rfl)
  try (case x1 => rfl)
  try (case c1 => rfl)
  intro g2 w1 hg2 hs1 hb1 hA1
  have hbe : Below w.heap.size w w1 := hb1.mono (Nat.le_of_eq hg2.out.symm)
  clear hb1 hs1 hg2
  go_wp2_with (with_reducible refine wpList_box (o := ⟨some 3, .box 23 (.tmp 1), _, _, _, _⟩) ?g2 23 (.tmp 1) ?o2 (.agg [Value.int .i64 c, Value.int .i64 d].toArray) [Value.int .i64 c, Value.int .i64 d] ?x2 ?c2 ?_)
  try (case g2 => rfl)
  try (case o2 => rfl)
  try (case x2 => rfl)
  try (case c2 => rfl)
  intro g3 w2 hg3 hs2 hb2 hB2
  have hb2 := hb2.mono (Nat.le_of_eq hg3.out.symm)
  have hA2 := hA1.next hb2 hA1.lt
  have hbe := below_join hbe hb2
  clear hb2 hs2 hg3 hA1
  have c0 := hA2.cell (k := 0) rfl
  have c1 := hA2.cell (k := 1) rfl
  have d0 := hB2.cell (k := 0) rfl
  have d1 := hB2.cell (k := 1) rfl
  by_cases h1 : M1 < M2
  · obtain rfl := HCV.out.1 h1
    go_wp2
    go_ret
    exact ⟨rfl, hbe⟩
  · by_cases h2 : M2 < M1
    · obtain rfl := HCV.out.2.1 h2
      have h1' : M2 ≤ M1 := by omega
      go_wp2
      go_ret
      exact ⟨rfl, hbe⟩
    · obtain rfl := HCV.out.2.2 (by omega)
      go_wp2
      go_ret
      exact ⟨rfl, hbe⟩
set_option maxRecDepth 100000 in
set_option maxHeartbeats 1600000 in
theorem floor_any (q : Rat) (w : World) (hq : fits q) :
    Calls Tryd.prog 27 #[.agg (qC q).toArray] w fun e w' => e = .returned (.int .i64 q.floor) ∧ Below w.heap.size w w' := by
  have hfl := floor_go q
  have hb0 := fits_bounds hq
  have ht := tdiv_bound hq
  have hr := tmod_bound q hq
  have hm := Int.mul_tdiv_add_tmod q.num q.den
  rw [Int.mul_comm] at hm
  have hc2 : qC q = [Value.int .i64 q.num, Value.int .i64 (q.den : Int)] := rfl
  rw [hc2]
  obtain ⟨V, hV⟩ : ∃ V, q.floor = V := ⟨_, rfl⟩
  rw [hV] at hfl ⊢
  obtain ⟨c, hc⟩ : ∃ c, q.num = c := ⟨_, rfl⟩
  obtain ⟨d, hd⟩ : ∃ d, (q.den : Int) = d := ⟨_, rfl⟩
  rw [hc, hd] at hfl hb0 ht hr hm ⊢
  clear hc hd hV hc2 hq
  obtain ⟨T, hT⟩ : ∃ t, c.tdiv d = t := ⟨_, rfl⟩
  obtain ⟨R, hR⟩ : ∃ t, c.tmod d = t := ⟨_, rfl⟩
  rw [hT] at hfl ht hm
  rw [hR] at hr hm
  rw [hR] at hfl
  obtain ⟨M, hM⟩ : ∃ m, T * d = m := ⟨_, rfl⟩
  rw [hM] at hm
  have hw1 : IntKind.i64.wrap T = T := by simp only [IntKind.wrap_i64]; omega
  have hw2 : IntKind.i64.wrap R = R := by simp only [IntKind.wrap_i64]; omega
  have hw3 : IntKind.i64.wrap M = M := by simp only [IntKind.wrap_i64]; omega
  have hw4 : IntKind.i64.wrap (T - 1) = T - 1 := by simp only [IntKind.wrap_i64]; omega
  have hdz : ¬ d = 0 := by omega
  have hdb : (d == 0) = false := beq_eq_false_iff_ne.2 hdz
  have HF := Lib.hid hfl
  clear hfl hm hr ht hb0
  go_enter Tryd.func27, Tryd.ntmps27
  go_wp2_with (with_reducible refine wpList_box (o := ⟨some 1, .box 23 (.tmp 0), _, _, _, _⟩) ?g1 23 (.tmp 0) ?o1 (.agg [Value.int .i64 c, Value.int .i64 d].toArray) [Value.int .i64 c, Value.int .i64 d] ?x1 ?c1 ?_)
  try (case g1 => rfl)
  try (case o1 => rfl)
  try (case x1 => rfl)
  try (case c1 => rfl)
  intro g2 w1 hg2 hs1 hb1 hA1
  have hbe : Below w.heap.size w w1 := hb1.mono (Nat.le_of_eq hg2.out.symm)
  clear hb1 hs1 hg2
  have c0 := hA1.cell (k := 0) rfl
  have c1 := hA1.cell (k := 1) rfl
  by_cases h : R < 0
  · have hv : V = T - 1 := by rw [HF.out, if_pos h]
    subst hv
    go_wp2
    go_ret
    exact ⟨rfl, hbe⟩
  · have hv : V = T := by rw [HF.out, if_neg h]
    subst hv
    have h' : 0 ≤ R := by omega
    go_wp2
    go_ret
    exact ⟨rfl, hbe⟩
set_option maxRecDepth 100000 in
set_option maxHeartbeats 1600000 in
theorem rfloor_any (q : Rat) (w : World) (hq : fits q) :
    Calls Tryd.prog 28 #[.agg (qC q).toArray] w fun e w' => e = .returned (.int .i64 q.floor) ∧ Below w.heap.size w w' := by
  have hfl := floor_ref q
  have hb0 := fits_bounds hq
  have ht := tdiv_bound hq
  have hr := tmod_bound q hq
  have hm := Int.mul_tdiv_add_tmod q.num q.den
  rw [Int.mul_comm] at hm
  have hc2 : qC q = [Value.int .i64 q.num, Value.int .i64 (q.den : Int)] := rfl
  rw [hc2]
  obtain ⟨V, hV⟩ : ∃ V, q.floor = V := ⟨_, rfl⟩
  rw [hV] at hfl ⊢
  obtain ⟨c, hc⟩ : ∃ c, q.num = c := ⟨_, rfl⟩
  obtain ⟨d, hd⟩ : ∃ d, (q.den : Int) = d := ⟨_, rfl⟩
  rw [hc, hd] at hfl hb0 ht hr hm ⊢
  clear hc hd hV hc2 hq
  obtain ⟨T, hT⟩ : ∃ t, c.tdiv d = t := ⟨_, rfl⟩
  obtain ⟨R, hR⟩ : ∃ t, c.tmod d = t := ⟨_, rfl⟩
  rw [hT] at hfl ht hm
  rw [hR] at hr hm
  obtain ⟨M, hM⟩ : ∃ m, T * d = m := ⟨_, rfl⟩
  rw [hM] at hm
  rw [hM] at hfl
  have hw1 : IntKind.i64.wrap T = T := by simp only [IntKind.wrap_i64]; omega
  have hw2 : IntKind.i64.wrap R = R := by simp only [IntKind.wrap_i64]; omega
  have hw3 : IntKind.i64.wrap M = M := by simp only [IntKind.wrap_i64]; omega
  have hw4 : IntKind.i64.wrap (T - 1) = T - 1 := by simp only [IntKind.wrap_i64]; omega
  have hdz : ¬ d = 0 := by omega
  have hdb : (d == 0) = false := beq_eq_false_iff_ne.2 hdz
  have HF := Lib.hid hfl
  clear hfl hm hr ht hb0
  go_enter Tryd.func28, Tryd.ntmps28
  go_wp2_with (with_reducible refine wpList_box (o := ⟨some 1, .box 23 (.tmp 0), _, _, _, _⟩) ?g1 23 (.tmp 0) ?o1 (.agg [Value.int .i64 c, Value.int .i64 d].toArray) [Value.int .i64 c, Value.int .i64 d] ?x1 ?c1 ?_)
  try (case g1 => rfl)
  try (case o1 => rfl)
  try (case x1 => rfl)
  try (case c1 => rfl)
  intro g2 w1 hg2 hs1 hb1 hA1
  have hbe : Below w.heap.size w w1 := hb1.mono (Nat.le_of_eq hg2.out.symm)
  clear hb1 hs1 hg2
  have c0 := hA1.cell (k := 0) rfl
  have c1 := hA1.cell (k := 1) rfl
  by_cases h : c < M
  · have hv : V = T - 1 := by rw [HF.out, if_pos h]
    subst hv
    go_wp2
    go_ret
    exact ⟨rfl, hbe⟩
  · have hv : V = T := by rw [HF.out, if_neg h]
    subst hv
    have h' : M ≤ c := by omega
    go_wp2
    go_ret
    exact ⟨rfl, hbe⟩
set_option maxRecDepth 100000 in
set_option maxHeartbeats 1600000 in
theorem ceil_any (q : Rat) (w : World) (hq : fits q) :
    Calls Tryd.prog 29 #[.agg (qC q).toArray] w fun e w' => e = .returned (.int .i64 q.ceil) ∧ Below w.heap.size w w' := by
  have hb0 := fits_bounds hq
  have hfl := fun w => floor_any (-q) w (fits_neg hq)
  have hcl := Rat.ceil_eq_neg_floor_neg q
  have hbd : -1073741825 ≤ (-q).floor ∧ (-q).floor ≤ 1073741824 := by
    have h := floor_go (-q)
    have h2 := tdiv_bound (fits_neg hq)
    rw [h]
    split <;> omega
  have hc2 : qC q = [Value.int .i64 q.num, Value.int .i64 (q.den : Int)] := rfl
  have hc3 : (qC (-q)).toArray = [Value.int .i64 (-q.num), Value.int .i64 (q.den : Int)].toArray := by unfold qC; rw [Rat.neg_num, Rat.neg_den]
  rw [hc2, hcl]
  obtain ⟨V, hV⟩ : ∃ V, (-q).floor = V := ⟨_, rfl⟩
  rw [hV] at hbd ⊢
  have hfl : ∀ w, Calls Tryd.prog 27 #[.agg [Value.int .i64 (-q.num), Value.int .i64 (q.den : Int)].toArray] w fun e w' => e = .returned (.int .i64 V) ∧ Below w.heap.size w w' := fun w => by
    have h := hfl w
    rw [hc3, hV] at h
    exact h
  obtain ⟨c, hc⟩ : ∃ c, q.num = c := ⟨_, rfl⟩
  obtain ⟨d, hd⟩ : ∃ d, (q.den : Int) = d := ⟨_, rfl⟩
  rw [hc, hd] at hb0 ⊢
  rw [hc, hd] at hfl
  have hw1 : IntKind.i64.wrap (-c) = -c := by simp only [IntKind.wrap_i64]; omega
  have hw2 : IntKind.i64.wrap (-V) = -V := by simp only [IntKind.wrap_i64]; omega
  have HF := Lib.hid hfl
  clear hfl hc hd hV hc2 hc3 hq hcl
  go_enter Tryd.func29, Tryd.ntmps29
  go_wp2_with (with_reducible refine wpList_box (o := ⟨some 1, .box 23 (.tmp 0), _, _, _, _⟩) ?g1 23 (.tmp 0) ?o1 (.agg [Value.int .i64 c, Value.int .i64 d].toArray) [Value.int .i64 c, Value.int .i64 d] ?x1 ?c1 ?_)
  try (case g1 => rfl)
  try (case o1 => rfl)
  try (case x1 => rfl)
  try (case c1 => rfl)
  intro g2 w1 hg2 hs1 hb1 hA1
  have hbe : Below w.heap.size w w1 := hb1.mono (Nat.le_of_eq hg2.out.symm)
  clear hb1 hs1 hg2
  have c0 := hA1.cell (k := 0) rfl
  have c1 := hA1.cell (k := 1) rfl
  go_wp2_with (with_reducible refine wpList_build (o := ⟨some 8, .build 23 #[(0, .tmp 5), (1, .tmp 7)], _, _, _, _⟩) (by with_unfolding_all rfl) 23 #[(0, .tmp 5), (1, .tmp 7)] (by with_unfolding_all rfl) #[(0, .int .i64 (-c)), (1, .int .i64 d)] (by with_unfolding_all rfl) (.agg [Value.int .i64 (-c), Value.int .i64 d].toArray) (by with_unfolding_all exact fun w => run_buildQ w (-c) d) ?_)
  (with_reducible refine (HF.out _).mono ?_)
  rintro e w4 ⟨rfl, hb4⟩
  have hbe := below_join hbe hb4
  go_wp2
  go_ret
  exact ⟨rfl, hbe⟩
set_option maxRecDepth 100000 in
set_option maxHeartbeats 1600000 in
theorem rceil_any (q : Rat) (w : World) (hq : fits q) :
    Calls Tryd.prog 30 #[.agg (qC q).toArray] w fun e w' => e = .returned (.int .i64 q.ceil) ∧ Below w.heap.size w w' := by
  have hb0 := fits_bounds hq
  have hfl := fun w => rfloor_any (-q) w (fits_neg hq)
  have hcl := Rat.ceil_eq_neg_floor_neg q
  have hbd : -1073741825 ≤ (-q).floor ∧ (-q).floor ≤ 1073741824 := by
    have h := floor_go (-q)
    have h2 := tdiv_bound (fits_neg hq)
    rw [h]
    split <;> omega
  have hc2 : qC q = [Value.int .i64 q.num, Value.int .i64 (q.den : Int)] := rfl
  have hc3 : (qC (-q)).toArray = [Value.int .i64 (-q.num), Value.int .i64 (q.den : Int)].toArray := by unfold qC; rw [Rat.neg_num, Rat.neg_den]
  rw [hc2, hcl]
  obtain ⟨V, hV⟩ : ∃ V, (-q).floor = V := ⟨_, rfl⟩
  rw [hV] at hbd ⊢
  have hfl : ∀ w, Calls Tryd.prog 28 #[.agg [Value.int .i64 (-q.num), Value.int .i64 (q.den : Int)].toArray] w fun e w' => e = .returned (.int .i64 V) ∧ Below w.heap.size w w' := fun w => by
    have h := hfl w
    rw [hc3, hV] at h
    exact h
  obtain ⟨c, hc⟩ : ∃ c, q.num = c := ⟨_, rfl⟩
  obtain ⟨d, hd⟩ : ∃ d, (q.den : Int) = d := ⟨_, rfl⟩
  rw [hc, hd] at hb0 ⊢
  rw [hc, hd] at hfl
  have hw1 : IntKind.i64.wrap (-c) = -c := by simp only [IntKind.wrap_i64]; omega
  have hw2 : IntKind.i64.wrap (-V) = -V := by simp only [IntKind.wrap_i64]; omega
  have HF := Lib.hid hfl
  clear hfl hc hd hV hc2 hc3 hq hcl
  go_enter Tryd.func30, Tryd.ntmps30
  go_wp2_with (with_reducible refine wpList_box (o := ⟨some 1, .box 23 (.tmp 0), _, _, _, _⟩) ?g1 23 (.tmp 0) ?o1 (.agg [Value.int .i64 c, Value.int .i64 d].toArray) [Value.int .i64 c, Value.int .i64 d] ?x1 ?c1 ?_)
  try (case g1 => rfl)
  try (case o1 => rfl)
  try (case x1 => rfl)
  try (case c1 => rfl)
  intro g2 w1 hg2 hs1 hb1 hA1
  have hbe : Below w.heap.size w w1 := hb1.mono (Nat.le_of_eq hg2.out.symm)
  clear hb1 hs1 hg2
  have c0 := hA1.cell (k := 0) rfl
  have c1 := hA1.cell (k := 1) rfl
  go_wp2_with (with_reducible refine wpList_build (o := ⟨some 8, .build 23 #[(0, .tmp 5), (1, .tmp 7)], _, _, _, _⟩) (by with_unfolding_all rfl) 23 #[(0, .tmp 5), (1, .tmp 7)] (by with_unfolding_all rfl) #[(0, .int .i64 (-c)), (1, .int .i64 d)] (by with_unfolding_all rfl) (.agg [Value.int .i64 (-c), Value.int .i64 d].toArray) (by with_unfolding_all exact fun w => run_buildQ w (-c) d) ?_)
  (with_reducible refine (HF.out _).mono ?_)
  rintro e w4 ⟨rfl, hb4⟩
  have hbe := below_join hbe hb4
  go_wp2
  go_ret
  exact ⟨rfl, hbe⟩
end Go.Proofs.YthjaelopmfjfeaaDoor
