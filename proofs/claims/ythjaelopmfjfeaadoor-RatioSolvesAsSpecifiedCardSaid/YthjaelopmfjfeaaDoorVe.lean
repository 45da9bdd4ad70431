/-
  Contracts of the walks over Add, Sub, Mul and Div of both sides. Conditions: normal ratios.
-/
import Derived.Test.YthjaelopmfjfeaaDoorVd
namespace Go.Proofs.YthjaelopmfjfeaaDoor
set_option linter.unusedVariables false
set_option linter.unusedSimpArgs false
open Go.RowKit

theorem ansQ_form (q : Rat) : ∃ N D k : Int, ansQ q = .returned (.tuple #[.agg #[.int .i64 N, .int .i64 D], .int .i64 k]) := by
  unfold ansQ
  split
  · exact ⟨_, _, _, rfl⟩
  · exact ⟨_, _, _, rfl⟩
theorem ofE_form (n d : Int) : ∃ N D k : Int, ofE n d = .returned (.tuple #[.agg #[.int .i64 N, .int .i64 D], .int .i64 k]) := by
  unfold ofE
  split
  · exact ⟨_, _, _, rfl⟩
  · split
    · exact ansQ_form _
    · exact ⟨_, _, _, rfl⟩
theorem fits_bounds {p : Rat} (h : fits p) : -1073741824 ≤ p.num ∧ p.num ≤ 1073741824 ∧ 1 ≤ (p.den : Int) ∧ (p.den : Int) ≤ 1073741824 := by
  have := p.den_pos
  have := h.2.2
  exact ⟨h.1, h.2.1, by omega, by omega⟩
theorem prods {p q : Rat} (hp : fits p) (hq : fits q) : (-1152921504606846976 ≤ p.num * (q.den : Int) ∧ p.num * (q.den : Int) ≤ 1152921504606846976) ∧ (-1152921504606846976 ≤ q.num * (p.den : Int) ∧ q.num * (p.den : Int) ≤ 1152921504606846976) ∧ (1 ≤ (p.den : Int) * (q.den : Int) ∧ (p.den : Int) * (q.den : Int) ≤ 1152921504606846976) ∧ (-1152921504606846976 ≤ p.num * q.num ∧ p.num * q.num ≤ 1152921504606846976) ∧ (-1152921504606846976 ≤ (p.den : Int) * q.num ∧ (p.den : Int) * q.num ≤ 1152921504606846976) := by
  have a := fits_bounds hp
  have b := fits_bounds hq
  have h1 := cross_lt (a := p.num) (b := q.den) (k := 1073741824) (by omega) (by omega) (by omega) (by omega) (by omega)
  have h2 := cross_lt (a := q.num) (b := p.den) (k := 1073741824) (by omega) (by omega) (by omega) (by omega) (by omega)
  have h3 := cross_lt (a := p.den) (b := q.den) (k := 1073741824) (by omega) (by omega) (by omega) (by omega) (by omega)
  have h4 := cross_lt (a := p.num) (b := q.num) (k := 1073741824) (by omega) (by omega) (by omega) (by omega) (by omega)
  have h5 := cross_lt (a := p.den) (b := q.num) (k := 1073741824) (by omega) (by omega) (by omega) (by omega) (by omega)
  have h6 : 0 < (p.den : Int) * (q.den : Int) := Int.mul_pos (by omega) (by omega)
  exact ⟨⟨by omega, by omega⟩, ⟨by omega, by omega⟩, ⟨by omega, by omega⟩, ⟨by omega, by omega⟩, ⟨by omega, by omega⟩⟩
theorem ofE_add {p q : Rat} (hp : fits p) (hq : fits q) : ofE (p.num * q.den + q.num * p.den) (p.den * q.den) = ansQ (p + q) := by
  have h := prods hp hq
  unfold ofE
  rw [if_neg (by omega), if_pos ⟨⟨by omega, by omega⟩, by omega, by omega⟩, add_div]
theorem ofE_sub {p q : Rat} (hp : fits p) (hq : fits q) : ofE (p.num * q.den - q.num * p.den) (p.den * q.den) = ansQ (p - q) := by
  have h := prods hp hq
  unfold ofE
  rw [if_neg (by omega), if_pos ⟨⟨by omega, by omega⟩, by omega, by omega⟩, sub_div]
theorem ofE_mul {p q : Rat} (hp : fits p) (hq : fits q) : ofE (p.num * q.num) (p.den * q.den) = ansQ (p * q) := by
  have h := prods hp hq
  unfold ofE
  rw [if_neg (by omega), if_pos ⟨⟨by omega, by omega⟩, by omega, by omega⟩, mul_div]
/-- The quotient, or the error of a division by zero. -/
def divE (p q : Rat) : Ending := if q = 0 then zret 1 else ansQ (p / q)
theorem divE_form (p q : Rat) : ∃ N D k : Int, divE p q = .returned (.tuple #[.agg #[.int .i64 N, .int .i64 D], .int .i64 k]) := by
  unfold divE
  split
  · exact ⟨_, _, _, rfl⟩
  · exact ansQ_form _
theorem ofE_div {p q : Rat} (hp : fits p) (hq : fits q) : ofE (p.num * q.den) (p.den * q.num) = divE p q := by
  have h := prods hp hq
  unfold ofE divE
  by_cases h0 : q = 0
  · have : q.num = 0 := by rw [h0]; rfl
    rw [if_pos (by rw [this, Int.mul_zero]), if_pos h0]
  · have hn : q.num ≠ 0 := fun e => h0 (Rat.num_eq_zero.1 e)
    have hd : (p.den : Int) * q.num ≠ 0 := Int.mul_ne_zero (den_ne p) hn
    rw [if_neg hd, if_pos ⟨⟨by omega, by omega⟩, by omega, by omega⟩, if_neg h0, div_div]
set_option maxRecDepth 100000 in
set_option maxHeartbeats 1600000 in
theorem add_any (p q : Rat) (w : World) (hp : fits p) (hq : fits q) :
    Calls Tryd.prog 17 #[.agg (qC p).toArray, .agg (qC q).toArray] w fun e w' => e = ansQ (p + q) ∧ Below w.heap.size w w' := by
  obtain ⟨N, D, k, hE⟩ := ansQ_form (p + q)
  have hl := ofE_add hp hq
  rw [hE] at hl ⊢
  have hpr := prods hp hq
  have hc1 : qC p = [Value.int .i64 p.num, Value.int .i64 (p.den : Int)] := rfl
  have hc2 : qC q = [Value.int .i64 q.num, Value.int .i64 (q.den : Int)] := rfl
  rw [hc1, hc2]
  obtain ⟨a, ha⟩ : ∃ a, p.num = a := ⟨_, rfl⟩
  obtain ⟨b, hb⟩ : ∃ b, (p.den : Int) = b := ⟨_, rfl⟩
  obtain ⟨c, hc⟩ : ∃ c, q.num = c := ⟨_, rfl⟩
  obtain ⟨d, hd⟩ : ∃ d, (q.den : Int) = d := ⟨_, rfl⟩
  rw [ha, hb, hc, hd] at hl hpr ⊢
  clear ha hb hc hd hE hc1 hc2 hp hq
  obtain ⟨M1, hm1⟩ : ∃ m, a * d = m := ⟨_, rfl⟩
  obtain ⟨M2, hm2⟩ : ∃ m, c * b = m := ⟨_, rfl⟩
  obtain ⟨M3, hm3⟩ : ∃ m, b * d = m := ⟨_, rfl⟩
  rw [hm1, hm2, hm3] at hl
  rw [hm1, hm2, hm3] at hpr
  have hw1 : IntKind.i64.wrap M1 = M1 := by simp only [IntKind.wrap_i64]; omega
  have hw2 : IntKind.i64.wrap M2 = M2 := by simp only [IntKind.wrap_i64]; omega
  have hw4 : IntKind.i64.wrap (M1 + M2) = M1 + M2 := by simp only [IntKind.wrap_i64]; omega
  have hw3 : IntKind.i64.wrap M3 = M3 := by simp only [IntKind.wrap_i64]; omega
  have HOF := Lib.hid (fun w => of_any (M1 + M2) M3 w hw4 hw3)
  rw [hl] at HOF
  clear hl hpr
  go_enter Tryd.func17, Tryd.ntmps17
  go_wp2_with (with_reducible refine wpList_box (o := ⟨some 2, .box 23 (.tmp 0), _, _, _, _⟩) ?g1 23 (.tmp 0) ?o1 (.agg [Value.int .i64 a, Value.int .i64 b].toArray) [Value.int .i64 a, Value.int .i64 b] ?x1 ?c1 ?_)
  try (case g1 => rfl)
  try (case o1 => rfl)
  try (case x1 => rfl)
  try (case c1 => rfl)
  intro g2 w1 hg2 hs1 hb1 hA1
  have hbe : Below w.heap.size w w1 := hb1.mono (Nat.le_of_eq hg2.out.symm)
  clear hb1 hs1 hg2
  go_wp2_with (with_reducible refine wpList_box (o := ⟨some 3, .box 23 (.tmp 1), _, _, _, _⟩) ?g2 23 (.tmp 1) ?o2 (.agg [Value.int .i64 c, Value.int .i64 d].toArray) [Value.int .i64 c, Value.int .i64 d] ?x2 ?c2 ?_)
  try (case g2 => rfl)
  try (case o2 => rfl)
  try (case x2 => rfl)
  try (case c2 => rfl)
  intro g3 w2 hg3 hs2 hb2 hB2
  have hb2 := hb2.mono (Nat.le_of_eq hg3.out.symm)
  have hA2 := hA1.next hb2 hA1.lt
  have hbe := below_join hbe hb2
  clear hb2 hs2 hg3 hA1
  go_wp2_with (with_reducible refine wpList_alloc (o := ⟨some 4, .alloc 23, _, _, _, _⟩) (by with_unfolding_all rfl) 23 (by with_unfolding_all rfl) (.agg zC.toArray) zC (by exact Tryd.zeroQ) (by with_unfolding_all rfl) ?_)
  intro g4 w3 hg4 hs3 hb3 hC3
  have hl4 : w.heap.size ≤ g4 := Nat.le_trans hbe.size (Nat.le_of_eq hg4.out.symm)
  have hb3 := hb3.mono (Nat.le_of_eq hg4.out.symm)
  have hA3 := hA2.next hb3 hA2.lt
  have hB3 := hB2.next hb3 hB2.lt
  have hbe := below_join hbe hb3
  clear hb3 hs3 hg4 hA2 hB2
  have c0 := hA3.cell (k := 0) rfl
  have c1 := hA3.cell (k := 1) rfl
  have d0 := hB3.cell (k := 0) rfl
  have d1 := hB3.cell (k := 1) rfl
  go_wp2_with fail
  (with_reducible refine (HOF.out _).mono ?_)
  rintro e w4 ⟨rfl, hb4⟩
  have hC4 := hC3.next hb4 hC3.lt
  have hbe := below_join hbe hb4
  clear hb4 hC3 c0 c1 d0 d1
  go_wp2_with (with_reducible refine wpList_put (o := ⟨none, .store 23 (.tmp 4) (.tmp 23), _, _, _, _⟩) (by with_unfolding_all rfl) 23 (.tmp 4) (.tmp 23) (by with_unfolding_all rfl) g4 0 (by with_unfolding_all rfl) (.agg [Value.int .i64 N, Value.int .i64 D].toArray) (by with_unfolding_all rfl) hC4 [Value.int .i64 N, Value.int .i64 D] (by with_unfolding_all rfl) (by with_unfolding_all (exact Tryd.szQ)) (by with_unfolding_all (exact Nat.le_refl 2)) (by with_unfolding_all (exact int_one N D)) ?_)
  intro w6 hu6 hA6
  rw [splice_all _ _ (by rfl)] at hA6
  have hbe6 := hbe.trans (hu6.below (B := w.heap.size) hl4)
  go_wp2
  exact bodyPost_ret (results_cell_two rfl _ _ g4 _ _ _ _ _ rfl rfl hA6 Tryd.underlying23 rfl Tryd.szQ) rfl ⟨by rfl, hbe6⟩
set_option maxRecDepth 100000 in
set_option maxHeartbeats 1600000 in
theorem radd_any (p q : Rat) (w : World) (hp : fits p) (hq : fits q) :
    Calls Tryd.prog 18 #[.agg (qC p).toArray, .agg (qC q).toArray] w fun e w' => e = ansQ (p + q) ∧ Below w.heap.size w w' := by
  obtain ⟨N, D, k, hE⟩ := ansQ_form (p + q)
  have hl := ofE_add hp hq
  rw [hE] at hl ⊢
  have hpr := prods hp hq
  have hc1 : qC p = [Value.int .i64 p.num, Value.int .i64 (p.den : Int)] := rfl
  have hc2 : qC q = [Value.int .i64 q.num, Value.int .i64 (q.den : Int)] := rfl
  rw [hc1, hc2]
  obtain ⟨a, ha⟩ : ∃ a, p.num = a := ⟨_, rfl⟩
  obtain ⟨b, hb⟩ : ∃ b, (p.den : Int) = b := ⟨_, rfl⟩
  obtain ⟨c, hc⟩ : ∃ c, q.num = c := ⟨_, rfl⟩
  obtain ⟨d, hd⟩ : ∃ d, (q.den : Int) = d := ⟨_, rfl⟩
  rw [ha, hb, hc, hd] at hl hpr ⊢
  clear ha hb hc hd hE hc1 hc2 hp hq
  obtain ⟨M1, hm1⟩ : ∃ m, a * d = m := ⟨_, rfl⟩
  obtain ⟨M2, hm2⟩ : ∃ m, c * b = m := ⟨_, rfl⟩
  obtain ⟨M3, hm3⟩ : ∃ m, b * d = m := ⟨_, rfl⟩
  rw [hm1, hm2, hm3] at hl
  rw [hm1, hm2, hm3] at hpr
  have hw1 : IntKind.i64.wrap M1 = M1 := by simp only [IntKind.wrap_i64]; omega
  have hw2 : IntKind.i64.wrap M2 = M2 := by simp only [IntKind.wrap_i64]; omega
  have hw4 : IntKind.i64.wrap (M1 + M2) = M1 + M2 := by simp only [IntKind.wrap_i64]; omega
  have hw3 : IntKind.i64.wrap M3 = M3 := by simp only [IntKind.wrap_i64]; omega
  have HOF := Lib.hid (fun w => rof_any (M1 + M2) M3 w)
  rw [hl] at HOF
  clear hl hpr
  go_enter Tryd.func18, Tryd.ntmps18
  go_wp2_with (with_reducible refine wpList_box (o := ⟨some 2, .box 23 (.tmp 0), _, _, _, _⟩) ?g1 23 (.tmp 0) ?o1 (.agg [Value.int .i64 a, Value.int .i64 b].toArray) [Value.int .i64 a, Value.int .i64 b] ?x1 ?c1 ?_)
  try (case g1 => rfl)
  try (case o1 => rfl)
  try (case x1 => rfl)
  try (case c1 => rfl)
  intro g2 w1 hg2 hs1 hb1 hA1
  have hbe : Below w.heap.size w w1 := hb1.mono (Nat.le_of_eq hg2.out.symm)
  clear hb1 hs1 hg2
  go_wp2_with (with_reducible refine wpList_box (o := ⟨some 3, .box 23 (.tmp 1), _, _, _, _⟩) ?g2 23 (.tmp 1) ?o2 (.agg [Value.int .i64 c, Value.int .i64 d].toArray) [Value.int .i64 c, Value.int .i64 d] ?x2 ?c2 ?_)
  try (case g2 => rfl)
  try (case o2 => rfl)
  try (case x2 => rfl)
  try (case c2 => rfl)
  intro g3 w2 hg3 hs2 hb2 hB2
  have hb2 := hb2.mono (Nat.le_of_eq hg3.out.symm)
  have hA2 := hA1.next hb2 hA1.lt
  have hbe := below_join hbe hb2
  clear hb2 hs2 hg3 hA1
  go_wp2_with (with_reducible refine wpList_alloc (o := ⟨some 4, .alloc 23, _, _, _, _⟩) (by with_unfolding_all rfl) 23 (by with_unfolding_all rfl) (.agg zC.toArray) zC (by exact Tryd.zeroQ) (by with_unfolding_all rfl) ?_)
  intro g4 w3 hg4 hs3 hb3 hC3
  have hl4 : w.heap.size ≤ g4 := Nat.le_trans hbe.size (Nat.le_of_eq hg4.out.symm)
  have hb3 := hb3.mono (Nat.le_of_eq hg4.out.symm)
  have hA3 := hA2.next hb3 hA2.lt
  have hB3 := hB2.next hb3 hB2.lt
  have hbe := below_join hbe hb3
  clear hb3 hs3 hg4 hA2 hB2
  have c0 := hA3.cell (k := 0) rfl
  have c1 := hA3.cell (k := 1) rfl
  have d0 := hB3.cell (k := 0) rfl
  have d1 := hB3.cell (k := 1) rfl
  go_wp2_with fail
  (with_reducible refine (HOF.out _).mono ?_)
  rintro e w4 ⟨rfl, hb4⟩
  have hC4 := hC3.next hb4 hC3.lt
  have hbe := below_join hbe hb4
  clear hb4 hC3 c0 c1 d0 d1
  go_wp2_with (with_reducible refine wpList_put (o := ⟨none, .store 23 (.tmp 4) (.tmp 23), _, _, _, _⟩) (by with_unfolding_all rfl) 23 (.tmp 4) (.tmp 23) (by with_unfolding_all rfl) g4 0 (by with_unfolding_all rfl) (.agg [Value.int .i64 N, Value.int .i64 D].toArray) (by with_unfolding_all rfl) hC4 [Value.int .i64 N, Value.int .i64 D] (by with_unfolding_all rfl) (by with_unfolding_all (exact Tryd.szQ)) (by with_unfolding_all (exact Nat.le_refl 2)) (by with_unfolding_all (exact int_one N D)) ?_)
  intro w6 hu6 hA6
  rw [splice_all _ _ (by rfl)] at hA6
  have hbe6 := hbe.trans (hu6.below (B := w.heap.size) hl4)
  go_wp2
  exact bodyPost_ret (results_cell_two rfl _ _ g4 _ _ _ _ _ rfl rfl hA6 Tryd.underlying23 rfl Tryd.szQ) rfl ⟨by rfl, hbe6⟩
set_option maxRecDepth 100000 in
set_option maxHeartbeats 1600000 in
theorem sub_any (p q : Rat) (w : World) (hp : fits p) (hq : fits q) :
    Calls Tryd.prog 19 #[.agg (qC p).toArray, .agg (qC q).toArray] w fun e w' => e = ansQ (p - q) ∧ Below w.heap.size w w' := by
  obtain ⟨N, D, k, hE⟩ := ansQ_form (p - q)
  have hl := ofE_sub hp hq
  rw [hE] at hl ⊢
  have hpr := prods hp hq
  have hc1 : qC p = [Value.int .i64 p.num, Value.int .i64 (p.den : Int)] := rfl
  have hc2 : qC q = [Value.int .i64 q.num, Value.int .i64 (q.den : Int)] := rfl
  rw [hc1, hc2]
  obtain ⟨a, ha⟩ : ∃ a, p.num = a := ⟨_, rfl⟩
  obtain ⟨b, hb⟩ : ∃ b, (p.den : Int) = b := ⟨_, rfl⟩
  obtain ⟨c, hc⟩ : ∃ c, q.num = c := ⟨_, rfl⟩
  obtain ⟨d, hd⟩ : ∃ d, (q.den : Int) = d := ⟨_, rfl⟩
  rw [ha, hb, hc, hd] at hl hpr ⊢
  clear ha hb hc hd hE hc1 hc2 hp hq
  obtain ⟨M1, hm1⟩ : ∃ m, a * d = m := ⟨_, rfl⟩
  obtain ⟨M2, hm2⟩ : ∃ m, c * b = m := ⟨_, rfl⟩
  obtain ⟨M3, hm3⟩ : ∃ m, b * d = m := ⟨_, rfl⟩
  rw [hm1, hm2, hm3] at hl
  rw [hm1, hm2, hm3] at hpr
  have hw1 : IntKind.i64.wrap M1 = M1 := by simp only [IntKind.wrap_i64]; omega
  have hw2 : IntKind.i64.wrap M2 = M2 := by simp only [IntKind.wrap_i64]; omega
  have hw4 : IntKind.i64.wrap (M1 - M2) = M1 - M2 := by simp only [IntKind.wrap_i64]; omega
  have hw3 : IntKind.i64.wrap M3 = M3 := by simp only [IntKind.wrap_i64]; omega
  have HOF := Lib.hid (fun w => of_any (M1 - M2) M3 w hw4 hw3)
  rw [hl] at HOF
  clear hl hpr
  go_enter Tryd.func19, Tryd.ntmps19
  go_wp2_with (with_reducible refine wpList_box (o := ⟨some 2, .box 23 (.tmp 0), _, _, _, _⟩) ?g1 23 (.tmp 0) ?o1 (.agg [Value.int .i64 a, Value.int .i64 b].toArray) [Value.int .i64 a, Value.int .i64 b] ?x1 ?c1 ?_)
  try (case g1 => rfl)
  try (case o1 => rfl)
  try (case x1 => rfl)
  try (case c1 => rfl)
  intro g2 w1 hg2 hs1 hb1 hA1
  have hbe : Below w.heap.size w w1 := hb1.mono (Nat.le_of_eq hg2.out.symm)
  clear hb1 hs1 hg2
  go_wp2_with (with_reducible refine wpList_box (o := ⟨some 3, .box 23 (.tmp 1), _, _, _, _⟩) ?g2 23 (.tmp 1) ?o2 (.agg [Value.int .i64 c, Value.int .i64 d].toArray) [Value.int .i64 c, Value.int .i64 d] ?x2 ?c2 ?_)
  try (case g2 => rfl)
  try (case o2 => rfl)
  try (case x2 => rfl)
  try (case c2 => rfl)
  intro g3 w2 hg3 hs2 hb2 hB2
  have hb2 := hb2.mono (Nat.le_of_eq hg3.out.symm)
  have hA2 := hA1.next hb2 hA1.lt
  have hbe := below_join hbe hb2
  clear hb2 hs2 hg3 hA1
  go_wp2_with (with_reducible refine wpList_alloc (o := ⟨some 4, .alloc 23, _, _, _, _⟩) (by with_unfolding_all rfl) 23 (by with_unfolding_all rfl) (.agg zC.toArray) zC (by exact Tryd.zeroQ) (by with_unfolding_all rfl) ?_)
  intro g4 w3 hg4 hs3 hb3 hC3
  have hl4 : w.heap.size ≤ g4 := Nat.le_trans hbe.size (Nat.le_of_eq hg4.out.symm)
  have hb3 := hb3.mono (Nat.le_of_eq hg4.out.symm)
  have hA3 := hA2.next hb3 hA2.lt
  have hB3 := hB2.next hb3 hB2.lt
  have hbe := below_join hbe hb3
  clear hb3 hs3 hg4 hA2 hB2
  have c0 := hA3.cell (k := 0) rfl
  have c1 := hA3.cell (k := 1) rfl
  have d0 := hB3.cell (k := 0) rfl
  have d1 := hB3.cell (k := 1) rfl
  go_wp2_with fail
  (with_reducible refine (HOF.out _).mono ?_)
  rintro e w4 ⟨rfl, hb4⟩
  have hC4 := hC3.next hb4 hC3.lt
  have hbe := below_join hbe hb4
  clear hb4 hC3 c0 c1 d0 d1
  go_wp2_with (with_reducible refine wpList_put (o := ⟨none, .store 23 (.tmp 4) (.tmp 23), _, _, _, _⟩) (by with_unfolding_all rfl) 23 (.tmp 4) (.tmp 23) (by with_unfolding_all rfl) g4 0 (by with_unfolding_all rfl) (.agg [Value.int .i64 N, Value.int .i64 D].toArray) (by with_unfolding_all rfl) hC4 [Value.int .i64 N, Value.int .i64 D] (by with_unfolding_all rfl) (by with_unfolding_all (exact Tryd.szQ)) (by with_unfolding_all (exact Nat.le_refl 2)) (by with_unfolding_all (exact int_one N D)) ?_)
  intro w6 hu6 hA6
  rw [splice_all _ _ (by rfl)] at hA6
  have hbe6 := hbe.trans (hu6.below (B := w.heap.size) hl4)
  go_wp2
  exact bodyPost_ret (results_cell_two rfl _ _ g4 _ _ _ _ _ rfl rfl hA6 Tryd.underlying23 rfl Tryd.szQ) rfl ⟨by rfl, hbe6⟩
set_option maxRecDepth 100000 in
set_option maxHeartbeats 1600000 in
theorem rsub_any (p q : Rat) (w : World) (hp : fits p) (hq : fits q) :
    Calls Tryd.prog 20 #[.agg (qC p).toArray, .agg (qC q).toArray] w fun e w' => e = ansQ (p - q) ∧ Below w.heap.size w w' := by
  obtain ⟨N, D, k, hE⟩ := ansQ_form (p - q)
  have hl := ofE_sub hp hq
  rw [hE] at hl ⊢
  have hpr := prods hp hq
  have hc1 : qC p = [Value.int .i64 p.num, Value.int .i64 (p.den : Int)] := rfl
  have hc2 : qC q = [Value.int .i64 q.num, Value.int .i64 (q.den : Int)] := rfl
  rw [hc1, hc2]
  obtain ⟨a, ha⟩ : ∃ a, p.num = a := ⟨_, rfl⟩
  obtain ⟨b, hb⟩ : ∃ b, (p.den : Int) = b := ⟨_, rfl⟩
  obtain ⟨c, hc⟩ : ∃ c, q.num = c := ⟨_, rfl⟩
  obtain ⟨d, hd⟩ : ∃ d, (q.den : Int) = d := ⟨_, rfl⟩
  rw [ha, hb, hc, hd] at hl hpr ⊢
  clear ha hb hc hd hE hc1 hc2 hp hq
  obtain ⟨M1, hm1⟩ : ∃ m, a * d = m := ⟨_, rfl⟩
  obtain ⟨M2, hm2⟩ : ∃ m, c * b = m := ⟨_, rfl⟩
  obtain ⟨M3, hm3⟩ : ∃ m, b * d = m := ⟨_, rfl⟩
  rw [hm1, hm2, hm3] at hl
  rw [hm1, hm2, hm3] at hpr
  have hw1 : IntKind.i64.wrap M1 = M1 := by simp only [IntKind.wrap_i64]; omega
  have hw2 : IntKind.i64.wrap M2 = M2 := by simp only [IntKind.wrap_i64]; omega
  have hw4 : IntKind.i64.wrap (M1 - M2) = M1 - M2 := by simp only [IntKind.wrap_i64]; omega
  have hw3 : IntKind.i64.wrap M3 = M3 := by simp only [IntKind.wrap_i64]; omega
  have HOF := Lib.hid (fun w => rof_any (M1 - M2) M3 w)
  rw [hl] at HOF
  clear hl hpr
  go_enter Tryd.func20, Tryd.ntmps20
  go_wp2_with (with_reducible refine wpList_box (o := ⟨some 2, .box 23 (.tmp 0), _, _, _, _⟩) ?g1 23 (.tmp 0) ?o1 (.agg [Value.int .i64 a, Value.int .i64 b].toArray) [Value.int .i64 a, Value.int .i64 b] ?x1 ?c1 ?_)
  try (case g1 => rfl)
  try (case o1 => rfl)
  try (case x1 => rfl)
  try (case c1 => rfl)
  intro g2 w1 hg2 hs1 hb1 hA1
  have hbe : Below w.heap.size w w1 := hb1.mono (Nat.le_of_eq hg2.out.symm)
  clear hb1 hs1 hg2
  go_wp2_with (with_reducible refine wpList_box (o := ⟨some 3, .box 23 (.tmp 1), _, _, _, _⟩) ?g2 23 (.tmp 1) ?o2 (.agg [Value.int .i64 c, Value.int .i64 d].toArray) [Value.int .i64 c, Value.int .i64 d] ?x2 ?c2 ?_)
  try (case g2 => rfl)
  try (case o2 => rfl)
  try (case x2 => rfl)
  try (case c2 => rfl)
  intro g3 w2 hg3 hs2 hb2 hB2
  have hb2 := hb2.mono (Nat.le_of_eq hg3.out.symm)
  have hA2 := hA1.next hb2 hA1.lt
  have hbe := below_join hbe hb2
  clear hb2 hs2 hg3 hA1
  go_wp2_with (with_reducible refine wpList_alloc (o := ⟨some 4, .alloc 23, _, _, _, _⟩) (by with_unfolding_all rfl) 23 (by with_unfolding_all rfl) (.agg zC.toArray) zC (by exact Tryd.zeroQ) (by with_unfolding_all rfl) ?_)
  intro g4 w3 hg4 hs3 hb3 hC3
  have hl4 : w.heap.size ≤ g4 := Nat.le_trans hbe.size (Nat.le_of_eq hg4.out.symm)
  have hb3 := hb3.mono (Nat.le_of_eq hg4.out.symm)
  have hA3 := hA2.next hb3 hA2.lt
  have hB3 := hB2.next hb3 hB2.lt
  have hbe := below_join hbe hb3
  clear hb3 hs3 hg4 hA2 hB2
  have c0 := hA3.cell (k := 0) rfl
  have c1 := hA3.cell (k := 1) rfl
  have d0 := hB3.cell (k := 0) rfl
  have d1 := hB3.cell (k := 1) rfl
  go_wp2_with fail
  (with_reducible refine (HOF.out _).mono ?_)
  rintro e w4 ⟨rfl, hb4⟩
  have hC4 := hC3.next hb4 hC3.lt
  have hbe := below_join hbe hb4
  clear hb4 hC3 c0 c1 d0 d1
  go_wp2_with (with_reducible refine wpList_put (o := ⟨none, .store 23 (.tmp 4) (.tmp 23), _, _, _, _⟩) (by with_unfolding_all rfl) 23 (.tmp 4) (.tmp 23) (by with_unfolding_all rfl) g4 0 (by with_unfolding_all rfl) (.agg [Value.int .i64 N, Value.int .i64 D].toArray) (by with_unfolding_all rfl) hC4 [Value.int .i64 N, Value.int .i64 D] (by with_unfolding_all rfl) (by with_unfolding_all (exact Tryd.szQ)) (by with_unfolding_all (exact Nat.le_refl 2)) (by with_unfolding_all (exact int_one N D)) ?_)
  intro w6 hu6 hA6
  rw [splice_all _ _ (by rfl)] at hA6
  have hbe6 := hbe.trans (hu6.below (B := w.heap.size) hl4)
  go_wp2
  exact bodyPost_ret (results_cell_two rfl _ _ g4 _ _ _ _ _ rfl rfl hA6 Tryd.underlying23 rfl Tryd.szQ) rfl ⟨by rfl, hbe6⟩
set_option maxRecDepth 100000 in
set_option maxHeartbeats 1600000 in
theorem mul_any (p q : Rat) (w : World) (hp : fits p) (hq : fits q) :
    Calls Tryd.prog 21 #[.agg (qC p).toArray, .agg (qC q).toArray] w fun e w' => e = ansQ (p * q) ∧ Below w.heap.size w w' := by
  obtain ⟨N, D, k, hE⟩ := ansQ_form (p * q)
  have hl := ofE_mul hp hq
  rw [hE] at hl ⊢
  have hpr := prods hp hq
  have hc1 : qC p = [Value.int .i64 p.num, Value.int .i64 (p.den : Int)] := rfl
  have hc2 : qC q = [Value.int .i64 q.num, Value.int .i64 (q.den : Int)] := rfl
  rw [hc1, hc2]
  obtain ⟨a, ha⟩ : ∃ a, p.num = a := ⟨_, rfl⟩
  obtain ⟨b, hb⟩ : ∃ b, (p.den : Int) = b := ⟨_, rfl⟩
  obtain ⟨c, hc⟩ : ∃ c, q.num = c := ⟨_, rfl⟩
  obtain ⟨d, hd⟩ : ∃ d, (q.den : Int) = d := ⟨_, rfl⟩
  rw [ha, hb, hc, hd] at hl hpr ⊢
  clear ha hb hc hd hE hc1 hc2 hp hq
  obtain ⟨M1, hm1⟩ : ∃ m, a * c = m := ⟨_, rfl⟩
  obtain ⟨M3, hm3⟩ : ∃ m, b * d = m := ⟨_, rfl⟩
  rw [hm1, hm3] at hl
  rw [hm3] at hpr
  rw [hm1] at hpr
  have hw1 : IntKind.i64.wrap M1 = M1 := by simp only [IntKind.wrap_i64]; omega
  have hw3 : IntKind.i64.wrap M3 = M3 := by simp only [IntKind.wrap_i64]; omega
  have HOF := Lib.hid (fun w => of_any M1 M3 w hw1 hw3)
  rw [hl] at HOF
  clear hl hpr
  go_enter Tryd.func21, Tryd.ntmps21
  go_wp2_with (with_reducible refine wpList_box (o := ⟨some 2, .box 23 (.tmp 0), _, _, _, _⟩) ?g1 23 (.tmp 0) ?o1 (.agg [Value.int .i64 a, Value.int .i64 b].toArray) [Value.int .i64 a, Value.int .i64 b] ?x1 ?c1 ?_)
  try (case g1 => rfl)
  try (case o1 => rfl)
  try (case x1 => rfl)
  try (case c1 => rfl)
  intro g2 w1 hg2 hs1 hb1 hA1
  have hbe : Below w.heap.size w w1 := hb1.mono (Nat.le_of_eq hg2.out.symm)
  clear hb1 hs1 hg2
  go_wp2_with (with_reducible refine wpList_box (o := ⟨some 3, .box 23 (.tmp 1), _, _, _, _⟩) ?g2 23 (.tmp 1) ?o2 (.agg [Value.int .i64 c, Value.int .i64 d].toArray) [Value.int .i64 c, Value.int .i64 d] ?x2 ?c2 ?_)
  try (case g2 => rfl)
  try (case o2 => rfl)
  try (case x2 => rfl)
  try (case c2 => rfl)
  intro g3 w2 hg3 hs2 hb2 hB2
  have hb2 := hb2.mono (Nat.le_of_eq hg3.out.symm)
  have hA2 := hA1.next hb2 hA1.lt
  have hbe := below_join hbe hb2
  clear hb2 hs2 hg3 hA1
  go_wp2_with (with_reducible refine wpList_alloc (o := ⟨some 4, .alloc 23, _, _, _, _⟩) (by with_unfolding_all rfl) 23 (by with_unfolding_all rfl) (.agg zC.toArray) zC (by exact Tryd.zeroQ) (by with_unfolding_all rfl) ?_)
  intro g4 w3 hg4 hs3 hb3 hC3
  have hl4 : w.heap.size ≤ g4 := Nat.le_trans hbe.size (Nat.le_of_eq hg4.out.symm)
  have hb3 := hb3.mono (Nat.le_of_eq hg4.out.symm)
  have hA3 := hA2.next hb3 hA2.lt
  have hB3 := hB2.next hb3 hB2.lt
  have hbe := below_join hbe hb3
  clear hb3 hs3 hg4 hA2 hB2
  have c0 := hA3.cell (k := 0) rfl
  have c1 := hA3.cell (k := 1) rfl
  have d0 := hB3.cell (k := 0) rfl
  have d1 := hB3.cell (k := 1) rfl
  go_wp2_with fail
  (with_reducible refine (HOF.out _).mono ?_)
  rintro e w4 ⟨rfl, hb4⟩
  have hC4 := hC3.next hb4 hC3.lt
  have hbe := below_join hbe hb4
  clear hb4 hC3 c0 c1 d0 d1
  go_wp2_with (with_reducible refine wpList_put (o := ⟨none, .store 23 (.tmp 4) (.tmp 17), _, _, _, _⟩) (by with_unfolding_all rfl) 23 (.tmp 4) (.tmp 17) (by with_unfolding_all rfl) g4 0 (by with_unfolding_all rfl) (.agg [Value.int .i64 N, Value.int .i64 D].toArray) (by with_unfolding_all rfl) hC4 [Value.int .i64 N, Value.int .i64 D] (by with_unfolding_all rfl) (by with_unfolding_all (exact Tryd.szQ)) (by with_unfolding_all (exact Nat.le_refl 2)) (by with_unfolding_all (exact int_one N D)) ?_)
  intro w6 hu6 hA6
  rw [splice_all _ _ (by rfl)] at hA6
  have hbe6 := hbe.trans (hu6.below (B := w.heap.size) hl4)
  go_wp2
  exact bodyPost_ret (results_cell_two rfl _ _ g4 _ _ _ _ _ rfl rfl hA6 Tryd.underlying23 rfl Tryd.szQ) rfl ⟨by rfl, hbe6⟩
set_option maxRecDepth 100000 in
set_option maxHeartbeats 1600000 in
theorem rmul_any (p q : Rat) (w : World) (hp : fits p) (hq : fits q) :
    Calls Tryd.prog 22 #[.agg (qC p).toArray, .agg (qC q).toArray] w fun e w' => e = ansQ (p * q) ∧ Below w.heap.size w w' := by
  obtain ⟨N, D, k, hE⟩ := ansQ_form (p * q)
  have hl := ofE_mul hp hq
  rw [hE] at hl ⊢
  have hpr := prods hp hq
  have hc1 : qC p = [Value.int .i64 p.num, Value.int .i64 (p.den : Int)] := rfl
  have hc2 : qC q = [Value.int .i64 q.num, Value.int .i64 (q.den : Int)] := rfl
  rw [hc1, hc2]
  obtain ⟨a, ha⟩ : ∃ a, p.num = a := ⟨_, rfl⟩
  obtain ⟨b, hb⟩ : ∃ b, (p.den : Int) = b := ⟨_, rfl⟩
  obtain ⟨c, hc⟩ : ∃ c, q.num = c := ⟨_, rfl⟩
  obtain ⟨d, hd⟩ : ∃ d, (q.den : Int) = d := ⟨_, rfl⟩
  rw [ha, hb, hc, hd] at hl hpr ⊢
  clear ha hb hc hd hE hc1 hc2 hp hq
  obtain ⟨M1, hm1⟩ : ∃ m, a * c = m := ⟨_, rfl⟩
  obtain ⟨M3, hm3⟩ : ∃ m, b * d = m := ⟨_, rfl⟩
  rw [hm1, hm3] at hl
  rw [hm3] at hpr
  rw [hm1] at hpr
  have hw1 : IntKind.i64.wrap M1 = M1 := by simp only [IntKind.wrap_i64]; omega
  have hw3 : IntKind.i64.wrap M3 = M3 := by simp only [IntKind.wrap_i64]; omega
  have HOF := Lib.hid (fun w => rof_any M1 M3 w)
  rw [hl] at HOF
  clear hl hpr
  go_enter Tryd.func22, Tryd.ntmps22
  go_wp2_with (with_reducible refine wpList_box (o := ⟨some 2, .box 23 (.tmp 0), _, _, _, _⟩) ?g1 23 (.tmp 0) ?o1 (.agg [Value.int .i64 a, Value.int .i64 b].toArray) [Value.int .i64 a, Value.int .i64 b] ?x1 ?c1 ?_)
  try (case g1 => rfl)
  try (case o1 => rfl)
  try (case x1 => rfl)
  try (case c1 => rfl)
  intro g2 w1 hg2 hs1 hb1 hA1
  have hbe : Below w.heap.size w w1 := hb1.mono (Nat.le_of_eq hg2.out.symm)
  clear hb1 hs1 hg2
  go_wp2_with (with_reducible refine wpList_box (o := ⟨some 3, .box 23 (.tmp 1), _, _, _, _⟩) ?g2 23 (.tmp 1) ?o2 (.agg [Value.int .i64 c, Value.int .i64 d].toArray) [Value.int .i64 c, Value.int .i64 d] ?x2 ?c2 ?_)
  try (case g2 => rfl)
  try (case o2 => rfl)
  try (case x2 => rfl)
  try (case c2 => rfl)
  intro g3 w2 hg3 hs2 hb2 hB2
  have hb2 := hb2.mono (Nat.le_of_eq hg3.out.symm)
  have hA2 := hA1.next hb2 hA1.lt
  have hbe := below_join hbe hb2
  clear hb2 hs2 hg3 hA1
  go_wp2_with (with_reducible refine wpList_alloc (o := ⟨some 4, .alloc 23, _, _, _, _⟩) (by with_unfolding_all rfl) 23 (by with_unfolding_all rfl) (.agg zC.toArray) zC (by exact Tryd.zeroQ) (by with_unfolding_all rfl) ?_)
  intro g4 w3 hg4 hs3 hb3 hC3
  have hl4 : w.heap.size ≤ g4 := Nat.le_trans hbe.size (Nat.le_of_eq hg4.out.symm)
  have hb3 := hb3.mono (Nat.le_of_eq hg4.out.symm)
  have hA3 := hA2.next hb3 hA2.lt
  have hB3 := hB2.next hb3 hB2.lt
  have hbe := below_join hbe hb3
  clear hb3 hs3 hg4 hA2 hB2
  have c0 := hA3.cell (k := 0) rfl
  have c1 := hA3.cell (k := 1) rfl
  have d0 := hB3.cell (k := 0) rfl
  have d1 := hB3.cell (k := 1) rfl
  go_wp2_with fail
  (with_reducible refine (HOF.out _).mono ?_)
  rintro e w4 ⟨rfl, hb4⟩
  have hC4 := hC3.next hb4 hC3.lt
  have hbe := below_join hbe hb4
  clear hb4 hC3 c0 c1 d0 d1
  go_wp2_with (with_reducible refine wpList_put (o := ⟨none, .store 23 (.tmp 4) (.tmp 17), _, _, _, _⟩) (by with_unfolding_all rfl) 23 (.tmp 4) (.tmp 17) (by with_unfolding_all rfl) g4 0 (by with_unfolding_all rfl) (.agg [Value.int .i64 N, Value.int .i64 D].toArray) (by with_unfolding_all rfl) hC4 [Value.int .i64 N, Value.int .i64 D] (by with_unfolding_all rfl) (by with_unfolding_all (exact Tryd.szQ)) (by with_unfolding_all (exact Nat.le_refl 2)) (by with_unfolding_all (exact int_one N D)) ?_)
  intro w6 hu6 hA6
  rw [splice_all _ _ (by rfl)] at hA6
  have hbe6 := hbe.trans (hu6.below (B := w.heap.size) hl4)
  go_wp2
  exact bodyPost_ret (results_cell_two rfl _ _ g4 _ _ _ _ _ rfl rfl hA6 Tryd.underlying23 rfl Tryd.szQ) rfl ⟨by rfl, hbe6⟩
set_option maxRecDepth 100000 in
set_option maxHeartbeats 1600000 in
theorem div_any (p q : Rat) (w : World) (hp : fits p) (hq : fits q) :
    Calls Tryd.prog 23 #[.agg (qC p).toArray, .agg (qC q).toArray] w fun e w' => e = divE p q ∧ Below w.heap.size w w' := by
  obtain ⟨N, D, k, hE⟩ := divE_form p q
  have hl := ofE_div hp hq
  rw [hE] at hl ⊢
  have hpr := prods hp hq
  have hc1 : qC p = [Value.int .i64 p.num, Value.int .i64 (p.den : Int)] := rfl
  have hc2 : qC q = [Value.int .i64 q.num, Value.int .i64 (q.den : Int)] := rfl
  rw [hc1, hc2]
  obtain ⟨a, ha⟩ : ∃ a, p.num = a := ⟨_, rfl⟩
  obtain ⟨b, hb⟩ : ∃ b, (p.den : Int) = b := ⟨_, rfl⟩
  obtain ⟨c, hc⟩ : ∃ c, q.num = c := ⟨_, rfl⟩
  obtain ⟨d, hd⟩ : ∃ d, (q.den : Int) = d := ⟨_, rfl⟩
  rw [ha, hb, hc, hd] at hl hpr ⊢
  clear ha hb hc hd hE hc1 hc2 hp hq
  obtain ⟨M1, hm1⟩ : ∃ m, a * d = m := ⟨_, rfl⟩
  obtain ⟨M3, hm3⟩ : ∃ m, b * c = m := ⟨_, rfl⟩
  rw [hm1, hm3] at hl
  rw [hm1] at hpr
  rw [hm3] at hpr
  have hw1 : IntKind.i64.wrap M1 = M1 := by simp only [IntKind.wrap_i64]; omega
  have hw3 : IntKind.i64.wrap M3 = M3 := by simp only [IntKind.wrap_i64]; omega
  have HOF := Lib.hid (fun w => of_any M1 M3 w hw1 hw3)
  rw [hl] at HOF
  clear hl hpr
  go_enter Tryd.func23, Tryd.ntmps23
  go_wp2_with (with_reducible refine wpList_box (o := ⟨some 2, .box 23 (.tmp 0), _, _, _, _⟩) ?g1 23 (.tmp 0) ?o1 (.agg [Value.int .i64 a, Value.int .i64 b].toArray) [Value.int .i64 a, Value.int .i64 b] ?x1 ?c1 ?_)
  try (case g1 => rfl)
  try (case o1 => rfl)
  try (case x1 => rfl)
  try (case c1 => rfl)
  intro g2 w1 hg2 hs1 hb1 hA1
  have hbe : Below w.heap.size w w1 := hb1.mono (Nat.le_of_eq hg2.out.symm)
  clear hb1 hs1 hg2
  go_wp2_with (with_reducible refine wpList_box (o := ⟨some 3, .box 23 (.tmp 1), _, _, _, _⟩) ?g2 23 (.tmp 1) ?o2 (.agg [Value.int .i64 c, Value.int .i64 d].toArray) [Value.int .i64 c, Value.int .i64 d] ?x2 ?c2 ?_)
  try (case g2 => rfl)
  try (case o2 => rfl)
  try (case x2 => rfl)
  try (case c2 => rfl)
  intro g3 w2 hg3 hs2 hb2 hB2
  have hb2 := hb2.mono (Nat.le_of_eq hg3.out.symm)
  have hA2 := hA1.next hb2 hA1.lt
  have hbe := below_join hbe hb2
  clear hb2 hs2 hg3 hA1
  go_wp2_with (with_reducible refine wpList_alloc (o := ⟨some 4, .alloc 23, _, _, _, _⟩) (by with_unfolding_all rfl) 23 (by with_unfolding_all rfl) (.agg zC.toArray) zC (by exact Tryd.zeroQ) (by with_unfolding_all rfl) ?_)
  intro g4 w3 hg4 hs3 hb3 hC3
  have hl4 : w.heap.size ≤ g4 := Nat.le_trans hbe.size (Nat.le_of_eq hg4.out.symm)
  have hb3 := hb3.mono (Nat.le_of_eq hg4.out.symm)
  have hA3 := hA2.next hb3 hA2.lt
  have hB3 := hB2.next hb3 hB2.lt
  have hbe := below_join hbe hb3
  clear hb3 hs3 hg4 hA2 hB2
  have c0 := hA3.cell (k := 0) rfl
  have c1 := hA3.cell (k := 1) rfl
  have d0 := hB3.cell (k := 0) rfl
  have d1 := hB3.cell (k := 1) rfl
  go_wp2_with fail
  (with_reducible refine (HOF.out _).mono ?_)
  rintro e w4 ⟨rfl, hb4⟩
  have hC4 := hC3.next hb4 hC3.lt
  have hbe := below_join hbe hb4
  clear hb4 hC3 c0 c1 d0 d1
  go_wp2_with (with_reducible refine wpList_put (o := ⟨none, .store 23 (.tmp 4) (.tmp 17), _, _, _, _⟩) (by with_unfolding_all rfl) 23 (.tmp 4) (.tmp 17) (by with_unfolding_all rfl) g4 0 (by with_unfolding_all rfl) (.agg [Value.int .i64 N, Value.int .i64 D].toArray) (by with_unfolding_all rfl) hC4 [Value.int .i64 N, Value.int .i64 D] (by with_unfolding_all rfl) (by with_unfolding_all (exact Tryd.szQ)) (by with_unfolding_all (exact Nat.le_refl 2)) (by with_unfolding_all (exact int_one N D)) ?_)
  intro w6 hu6 hA6
  rw [splice_all _ _ (by rfl)] at hA6
  have hbe6 := hbe.trans (hu6.below (B := w.heap.size) hl4)
  go_wp2
  exact bodyPost_ret (results_cell_two rfl _ _ g4 _ _ _ _ _ rfl rfl hA6 Tryd.underlying23 rfl Tryd.szQ) rfl ⟨by rfl, hbe6⟩
set_option maxRecDepth 100000 in
set_option maxHeartbeats 1600000 in
theorem rdiv_any (p q : Rat) (w : World) (hp : fits p) (hq : fits q) :
    Calls Tryd.prog 24 #[.agg (qC p).toArray, .agg (qC q).toArray] w fun e w' => e = divE p q ∧ Below w.heap.size w w' := by
  obtain ⟨N, D, k, hE⟩ := divE_form p q
  have hl := ofE_div hp hq
  rw [hE] at hl ⊢
  have hpr := prods hp hq
  have hc1 : qC p = [Value.int .i64 p.num, Value.int .i64 (p.den : Int)] := rfl
  have hc2 : qC q = [Value.int .i64 q.num, Value.int .i64 (q.den : Int)] := rfl
  rw [hc1, hc2]
  obtain ⟨a, ha⟩ : ∃ a, p.num = a := ⟨_, rfl⟩
  obtain ⟨b, hb⟩ : ∃ b, (p.den : Int) = b := ⟨_, rfl⟩
  obtain ⟨c, hc⟩ : ∃ c, q.num = c := ⟨_, rfl⟩
  obtain ⟨d, hd⟩ : ∃ d, (q.den : Int) = d := ⟨_, rfl⟩
  rw [ha, hb, hc, hd] at hl hpr ⊢
  clear ha hb hc hd hE hc1 hc2 hp hq
  obtain ⟨M1, hm1⟩ : ∃ m, a * d = m := ⟨_, rfl⟩
  obtain ⟨M3, hm3⟩ : ∃ m, b * c = m := ⟨_, rfl⟩
  rw [hm1, hm3] at hl
  rw [hm1] at hpr
  rw [hm3] at hpr
  have hw1 : IntKind.i64.wrap M1 = M1 := by simp only [IntKind.wrap_i64]; omega
  have hw3 : IntKind.i64.wrap M3 = M3 := by simp only [IntKind.wrap_i64]; omega
  have HOF := Lib.hid (fun w => rof_any M1 M3 w)
  rw [hl] at HOF
  clear hl hpr
  go_enter Tryd.func24, Tryd.ntmps24
  go_wp2_with (with_reducible refine wpList_box (o := ⟨some 2, .box 23 (.tmp 0), _, _, _, _⟩) ?g1 23 (.tmp 0) ?o1 (.agg [Value.int .i64 a, Value.int .i64 b].toArray) [Value.int .i64 a, Value.int .i64 b] ?x1 ?c1 ?_)
  try (case g1 => rfl)
  try (case o1 => rfl)
  try (case x1 => rfl)
  try (case c1 => rfl)
  intro g2 w1 hg2 hs1 hb1 hA1
  have hbe : Below w.heap.size w w1 := hb1.mono (Nat.le_of_eq hg2.out.symm)
  clear hb1 hs1 hg2
  go_wp2_with (with_reducible refine wpList_box (o := ⟨some 3, .box 23 (.tmp 1), _, _, _, _⟩) ?g2 23 (.tmp 1) ?o2 (.agg [Value.int .i64 c, Value.int .i64 d].toArray) [Value.int .i64 c, Value.int .i64 d] ?x2 ?c2 ?_)
  try (case g2 => rfl)
  try (case o2 => rfl)
  try (case x2 => rfl)
  try (case c2 => rfl)
  intro g3 w2 hg3 hs2 hb2 hB2
  have hb2 := hb2.mono (Nat.le_of_eq hg3.out.symm)
  have hA2 := hA1.next hb2 hA1.lt
  have hbe := below_join hbe hb2
  clear hb2 hs2 hg3 hA1
  go_wp2_with (with_reducible refine wpList_alloc (o := ⟨some 4, .alloc 23, _, _, _, _⟩) (by with_unfolding_all rfl) 23 (by with_unfolding_all rfl) (.agg zC.toArray) zC (by exact Tryd.zeroQ) (by with_unfolding_all rfl) ?_)
  intro g4 w3 hg4 hs3 hb3 hC3
  have hl4 : w.heap.size ≤ g4 := Nat.le_trans hbe.size (Nat.le_of_eq hg4.out.symm)
  have hb3 := hb3.mono (Nat.le_of_eq hg4.out.symm)
  have hA3 := hA2.next hb3 hA2.lt
  have hB3 := hB2.next hb3 hB2.lt
  have hbe := below_join hbe hb3
  clear hb3 hs3 hg4 hA2 hB2
  have c0 := hA3.cell (k := 0) rfl
  have c1 := hA3.cell (k := 1) rfl
  have d0 := hB3.cell (k := 0) rfl
  have d1 := hB3.cell (k := 1) rfl
  go_wp2_with fail
  (with_reducible refine (HOF.out _).mono ?_)
  rintro e w4 ⟨rfl, hb4⟩
  have hC4 := hC3.next hb4 hC3.lt
  have hbe := below_join hbe hb4
  clear hb4 hC3 c0 c1 d0 d1
  go_wp2_with (with_reducible refine wpList_put (o := ⟨none, .store 23 (.tmp 4) (.tmp 17), _, _, _, _⟩) (by with_unfolding_all rfl) 23 (.tmp 4) (.tmp 17) (by with_unfolding_all rfl) g4 0 (by with_unfolding_all rfl) (.agg [Value.int .i64 N, Value.int .i64 D].toArray) (by with_unfolding_all rfl) hC4 [Value.int .i64 N, Value.int .i64 D] (by with_unfolding_all rfl) (by with_unfolding_all (exact Tryd.szQ)) (by with_unfolding_all (exact Nat.le_refl 2)) (by with_unfolding_all (exact int_one N D)) ?_)
  intro w6 hu6 hA6
  rw [splice_all _ _ (by rfl)] at hA6
  have hbe6 := hbe.trans (hu6.below (B := w.heap.size) hl4)
  go_wp2
  exact bodyPost_ret (results_cell_two rfl _ _ g4 _ _ _ _ _ rfl rfl hA6 Tryd.underlying23 rfl Tryd.szQ) rfl ⟨by rfl, hbe6⟩
end Go.Proofs.YthjaelopmfjfeaaDoor
