/-
  Contract of the walk over the statements' own sanity: it returns true. Conditions: the library's variables lie there.
-/
import Derived.Test.YthjaelopmfjfeaaDoorYd
import Derived.Test.YthjaelopmfjfeaaDoorWm
import Derived.Test.YthjaelopmfjfeaaDoorVh
namespace Go.Proofs.YthjaelopmfjfeaaDoor
set_option linter.unusedVariables false
set_option linter.unusedSimpArgs false
open Go.RowKit Go.Shelf
set_option linter.unusedVariables false

theorem run_row2 (w : World) (a b c d : Int) : (Instr.buildSlice 40 2 #[(0, .agg [Value.int .i64 a, Value.int .i64 b].toArray), (1, .agg [Value.int .i64 c, Value.int .i64 d].toArray)]).run Tryd.prog w = .ok (.slice (some ⟨w.heap.size, 0, none⟩) 2 2) (w.alloc (.cells (rowR [(a, b), (c, d)]).toArray 23)) := by kernel_rfl
theorem run_rows2 (w : World) (h0 h1 : Hdr) : (Instr.buildSlice 45 2 #[(0, hdrV h0), (1, hdrV h1)]).run Tryd.prog w = .ok (.slice (some ⟨w.heap.size, 0, none⟩) 2 2) (w.alloc (.cells [hdrV h0, hdrV h1].toArray 40)) := by kernel_rfl
theorem wpList_row2 {ops : Array Oper} {rest : List Oper} {o : Oper} {a : Act} {w : World} {Q : Exit → Act → World → Prop} (hw : Region.wanted o (yielded ops a.tmps) = true) (x y : Operand) (ho : o.op = .buildSlice 40 2 #[(0, x), (1, y)]) (n d n2 d2 : Int) (hx : a.eval x = .agg [Value.int .i64 n, Value.int .i64 d].toArray) (hy : a.eval y = .agg [Value.int .i64 n2, Value.int .i64 d2].toArray)
    (h : ∀ g w', Hid (g = w.heap.size) → Below w.heap.size w w' → Blk w' g 23 (rowR [(n, d), (n2, d2)]) → wpList Tryd.prog ops Q rest (a.put o.dst (.slice (some ⟨g, 0, none⟩) 2 2)) w') : wpList Tryd.prog ops Q (o :: rest) a w := by
  refine BigFrame.wpList_want hw fun K hK => ?_
  have hr := run_row2 w n d n2 d2
  unfold Oper.wp execOp
  simp only [ho, List.map_toArray, List.map_cons, List.map_nil, hx, hy, Sem.run_bind, Sem.run_pure, Result.andThen_ok, hr]
  exact hK _ _ (h _ _ rfl (below_new w _) (blk_new w _ _))
theorem wpList_rows2 {ops : Array Oper} {rest : List Oper} {o : Oper} {a : Act} {w : World} {Q : Exit → Act → World → Prop} (hw : Region.wanted o (yielded ops a.tmps) = true) (x y : Operand) (ho : o.op = .buildSlice 45 2 #[(0, x), (1, y)]) (h0 h1 : Hdr) (hx : a.eval x = hdrV h0) (hy : a.eval y = hdrV h1)
    (h : ∀ g w', Hid (g = w.heap.size) → Below w.heap.size w w' → Blk w' g 40 [hdrV h0, hdrV h1] → wpList Tryd.prog ops Q rest (a.put o.dst (.slice (some ⟨g, 0, none⟩) 2 2)) w') : wpList Tryd.prog ops Q (o :: rest) a w := by
  refine BigFrame.wpList_want hw fun K hK => ?_
  have hr := run_rows2 w h0 h1
  unfold Oper.wp execOp
  simp only [ho, List.map_toArray, List.map_cons, List.map_nil, hx, hy, Sem.run_bind, Sem.run_pure, Result.andThen_ok, hr]
  exact hK _ _ (h _ _ rfl (below_new w _) (blk_new w _ _))
theorem wpList_bw {ops : Array Oper} {rest : List Oper} {o : Oper} {a : Act} {w : World} {Q : Exit → Act → World → Prop} (hw : Region.wanted o (yielded ops a.tmps) = true) (ty : TypeId) (ps : Array (Nat × Operand)) (ho : o.op = .build ty ps)
    (vs : Array (Nat × Value)) (hx : (ps.map fun p => (p.1, a.eval p.2)) = vs) (v : Value) (hr : ∀ w : World, (Instr.build ty vs).run Tryd.prog w = .ok v w) (h : wpList Tryd.prog ops Q rest (a.put o.dst v) w) : wpList Tryd.prog ops Q (o :: rest) a w := by
  refine BigFrame.wpList_want hw fun K hK => ?_
  unfold Oper.wp execOp
  simp only [ho]
  rw [show (ps.map fun x => (x.1, a.eval x.2)) = vs from hx]
  simp [hr]
  exact hK _ _ h
theorem addr_add (g o k : Nat) : (⟨g, o, none⟩ : Addr).add k = ⟨g, o + k, none⟩ := by simp [Addr.add]
theorem psAt_blk {w : World} {g : Nat} {t : TypeId} {l : List (Int × Int)} (h : Blk w g t (rowR l)) : PsAt w (some ⟨g, 0, none⟩) l := fun k p hp => by
  obtain ⟨h1, h2⟩ := rowR_cell (R := []) hp
  rw [List.append_nil] at h1 h2
  exact ⟨g, 0, rfl, by rw [Nat.zero_add]; exact h.cell h1, by rw [Nat.zero_add]; exact h.cell h2⟩
theorem rowC_prs (l : List Rat) : rowC l = rowR (prs l) := rfl
theorem psAt_cells {w : World} {g o : Nat} {l : List Rat} (h : ∀ j u, (rowC l)[j]? = some u → w.cell? ⟨g, o + j, none⟩ = some u) : PsAt w (some ⟨g, o, none⟩) (prs l) := fun k p hp => by
  obtain ⟨h1, h2⟩ := rowR_cell (R := []) hp
  rw [List.append_nil] at h1 h2
  exact ⟨g, o, rfl, h _ _ h1, by rw [Nat.add_assoc]; exact h _ _ h2⟩
/-- Two rows of two numbers: what Solve returns of them. -/
theorem solve_two (gr g1 g2 gb : Nat) (c1 c2 cr cb : Nat) (p q : List Rat) (bs : List Rat) (w : World) (h1 : Blk w g1 23 (rowC p)) (h2 : Blk w g2 23 (rowC q)) (hb : Blk w gb 23 (rowC bs)) (hr : Blk w gr 40 [hdrV (some ⟨g1, 0, none⟩, 2, c1), hdrV (some ⟨g2, 0, none⟩, 2, c2)])
    (hp : p.length = 2) (hq : q.length = 2) (hbl : bs.length = 2) (fp : ∀ x ∈ p, fits x) (fq : ∀ x ∈ q, fits x) (fb : ∀ x ∈ bs, fits x) (hcb : 2 ≤ cb) :
    Calls Tryd.prog 41 #[.slice (some ⟨gr, 0, none⟩) 2 cr, .slice (some ⟨gb, 0, none⟩) 2 cb] w fun e w' => Below w.heap.size w w' ∧ SolvedR (solveM (tabC 2 [p, q] bs) 2) 2 2 w e w' := by
  refine solve_any (some ⟨gr, 0, none⟩) cr [((some ⟨g1, 0, none⟩, 2, c1), p), ((some ⟨g2, 0, none⟩, 2, c2), q)] ⟨gb, 0, none⟩ cb 2 2 bs w rfl (by omega) (by omega) rfl ?_ ?_ ?_ ?_ fb hbl hcb ?_
  · rfl
  · intro k h hk
    refine ⟨⟨gr, 0, none⟩, rfl, ?_⟩
    rw [addr_add, Nat.zero_add]
    match k with
    | 0 => injection hk with hk; subst hk; exact hr.cell rfl
    | 1 => injection hk with hk; subst hk; exact hr.cell rfl
    | k + 2 => cases hk
  · intro x hx
    have key : ∀ g (l : List Rat), Blk w g 23 (rowC l) → ∃ ad, (some (⟨g, 0, none⟩ : Addr)) = some ad ∧ ∀ j u, (rowC l)[j]? = some u → w.cell? (ad.add j) = some u := fun g l hB => ⟨_, rfl, fun j u hu => by
      rw [addr_add, Nat.zero_add]; exact hB.cell hu⟩
    simp only [List.mem_cons, List.mem_nil_iff, or_false] at hx
    rcases hx with rfl | rfl
    · exact ⟨rfl, hp, .inr (key g1 p h1)⟩
    · exact ⟨rfl, hq, .inr (key g2 q h2)⟩
  · intro x hx
    simp only [List.mem_cons, List.mem_nil_iff, or_false] at hx
    rcases hx with rfl | rfl
    · exact fp
    · exact fq
  · intro j u hu
    rw [addr_add, Nat.zero_add]; exact hb.cell hu
theorem solve_one (gr g1 g2 gb c1 c2 cr cb : Nat) (w : World) (hcb : 2 ≤ cb) (h1 : Blk w g1 23 (rowR [(1, 1), (1, 1)])) (h2 : Blk w g2 23 (rowR [(2, 1), (2, 1)])) (hb : Blk w gb 23 (rowR [(3, 1), (6, 1)])) (hr : Blk w gr 40 [hdrV (some ⟨g1, 0, none⟩, 2, c1), hdrV (some ⟨g2, 0, none⟩, 2, c2)]) :
    Calls Tryd.prog 41 #[.slice (some ⟨gr, 0, none⟩) 2 cr, .slice (some ⟨gb, 0, none⟩) 2 cb] w fun e w' => (∃ g, e = .returned (.tuple #[.slice (some ⟨g, 0, none⟩) 2 2, .slice none 0 0, .int .i64 0]) ∧ PsAt w' (some ⟨g, 0, none⟩) [(3, 1), (0, 1)]) ∧ Below w.heap.size w w' := by
  refine (solve_two gr g1 g2 gb c1 c2 cr cb [1, 1] [2, 2] [3, 6] w h1 h2 hb hr rfl rfl rfl (by decide) (by decide) (by decide) hcb).mono ?_
  rintro e w' ⟨hb, hs⟩
  have hv : solveM (tabC 2 [[1, 1], [2, 2]] [3, 6]) 2 = .numbers [3, 0] := by kernel_rfl
  rw [hv] at hs
  obtain ⟨g, he, _, _, _, hB⟩ := hs
  exact ⟨⟨g, he, psAt_blk hB⟩, hb⟩
theorem solve_none (gr g1 g2 gb c1 c2 cr cb : Nat) (w : World) (hcb : 2 ≤ cb) (h1 : Blk w g1 23 (rowR [(1, 1), (1, 1)])) (h2 : Blk w g2 23 (rowR [(1, 1), (1, 1)])) (hb : Blk w gb 23 (rowR [(3, 1), (5, 1)])) (hr : Blk w gr 40 [hdrV (some ⟨g1, 0, none⟩, 2, c1), hdrV (some ⟨g2, 0, none⟩, 2, c2)]) :
    Calls Tryd.prog 41 #[.slice (some ⟨gr, 0, none⟩) 2 cr, .slice (some ⟨gb, 0, none⟩) 2 cb] w fun e w' => (∃ g o c, e = .returned (.tuple #[.slice none 0 0, .slice (some ⟨g, o, none⟩) 2 c, .int .i64 20]) ∧ PsAt w' (some ⟨g, o, none⟩) [(-1, 2), (1, 2)]) ∧ Below w.heap.size w w' := by
  refine (solve_two gr g1 g2 gb c1 c2 cr cb [1, 1] [1, 1] [3, 5] w h1 h2 hb hr rfl rfl rfl (by decide) (by decide) (by decide) hcb).mono ?_
  rintro e w' ⟨hb, hs⟩
  have hv : solveM (tabC 2 [[1, 1], [1, 1]] [3, 5]) 2 = .marks [-1 / 2, 1 / 2] := by kernel_rfl
  rw [hv] at hs
  obtain ⟨g, o, c, he, _, _, _, hB⟩ := hs
  have hp : prs [-1 / 2, 1 / 2] = [(-1, 2), (1, 2)] := by kernel_rfl
  have hP := psAt_cells hB
  rw [hp] at hP
  exact ⟨⟨g, o, c, he, hP⟩, hb⟩
theorem text_of (n : Int) (d : Nat) (hd : d ≠ 0) (hr : n.natAbs.Coprime d) (l : List UInt8) (h : Lib.itoa n ++ (if d = 1 then [] else 47 :: Lib.itoa (d : Int)) = l) : textQ ⟨n, d, hd, hr⟩ = l := h
theorem parse_half (w : World) (hq : QW w) : Calls Tryd.prog 12 #[.string { data := #[49, 47, 50] }] w fun e w' => e = .returned (.tuple #[.agg [Value.int .i64 1, Value.int .i64 2].toArray, .bool true]) ∧ Below w.heap.size w w' := by
  refine (parse_any { data := #[49, 47, 50] } w (by decide) hq).mono ?_
  rintro e w' ⟨hp, hb⟩
  refine ⟨hp.det (.inl ⟨1 / 2, by decide +kernel, ?_, by kernel_rfl⟩), hb⟩
  decide +kernel
theorem parse_not (w : World) (hq : QW w) : Calls Tryd.prog 12 #[.string { data := #[53, 47, 49, 48] }] w fun e w' => e = .returned (.tuple #[.agg [Value.int .i64 0, Value.int .i64 0].toArray, .bool false]) ∧ Below w.heap.size w w' := by
  refine (parse_any { data := #[53, 47, 49, 48] } w (by decide) hq).mono ?_
  rintro e w' ⟨hp, hb⟩
  exact ⟨hp.det (ParsedQ.not (by decide +kernel)), hb⟩
theorem neg_cells : (qC (-3 / 2)).toArray = [Value.int .i64 (-3), Value.int .i64 2].toArray := by kernel_rfl
theorem text_neg (w : World) (hq : QW w) : Calls Tryd.prog 31 #[.agg [Value.int .i64 (-3), Value.int .i64 2].toArray] w fun e w' => e = .returned (.string { data := #[45, 51, 47, 50] }) ∧ Below w.heap.size w w' := by
  rw [← neg_cells]
  refine (text_any (-3 / 2) w (by decide +kernel) hq).mono ?_
  rintro e w' ⟨he, hb⟩
  refine ⟨he.trans ?_, hb⟩
  have : textQ (-3 / 2) = [45, 51, 47, 50] := by decide +kernel
  rw [this]
/-- What the examples' calls answer. -/
structure SaneQ : Prop where
  of1 : ∀ w : World, Calls Tryd.prog 10 #[.int .i64 6, .int .i64 (-4)] w fun e w' => e = .returned (.tuple #[.agg [Value.int .i64 (-3), Value.int .i64 2].toArray, .int .i64 0]) ∧ Below w.heap.size w w'
  of2 : ∀ w : World, Calls Tryd.prog 10 #[.int .i64 1, .int .i64 0] w fun e w' => e = .returned (.tuple #[.agg [Value.int .i64 0, Value.int .i64 0].toArray, .int .i64 1]) ∧ Below w.heap.size w w'
  of3 : ∀ w : World, Calls Tryd.prog 10 #[.int .i64 2147483648, .int .i64 1] w fun e w' => e = .returned (.tuple #[.agg [Value.int .i64 0, Value.int .i64 0].toArray, .int .i64 17]) ∧ Below w.heap.size w w'
  add : ∀ w : World, Calls Tryd.prog 17 #[.agg [Value.int .i64 1, Value.int .i64 2].toArray, .agg [Value.int .i64 1, Value.int .i64 3].toArray] w fun e w' => e = .returned (.tuple #[.agg [Value.int .i64 5, Value.int .i64 6].toArray, .int .i64 0]) ∧ Below w.heap.size w w'
  fl : ∀ w : World, Calls Tryd.prog 27 #[.agg [Value.int .i64 (-3), Value.int .i64 2].toArray] w fun e w' => e = .returned (.int .i64 (-2)) ∧ Below w.heap.size w w'
  ce : ∀ w : World, Calls Tryd.prog 29 #[.agg [Value.int .i64 (-3), Value.int .i64 2].toArray] w fun e w' => e = .returned (.int .i64 (-1)) ∧ Below w.heap.size w w'
  ck : ∀ w : World, Calls Tryd.prog 14 #[.agg [Value.int .i64 (-3), Value.int .i64 2].toArray] w fun e w' => e = .returned (.bool true) ∧ Below w.heap.size w w'
  ck0 : ∀ w : World, Calls Tryd.prog 14 #[.agg [Value.int .i64 0, Value.int .i64 0].toArray] w fun e w' => e = .returned (.bool false) ∧ Below w.heap.size w w'
  cm : ∀ w : World, Calls Tryd.prog 25 #[.agg [Value.int .i64 (-3), Value.int .i64 2].toArray, .agg [Value.int .i64 5, Value.int .i64 6].toArray] w fun e w' => e = .returned (.int .i64 (-1)) ∧ Below w.heap.size w w'
  sm1 : ∀ (w : World) (A B : Option Addr) (c d : Nat), PsAt w A [(3, 1), (0, 1)] → PsAt w B [(3, 1), (0, 1)] → Calls Tryd.prog 43 #[.slice A 2 c, .slice B 2 d] w fun e w' => e = .returned (.bool true) ∧ Below w.heap.size w w'
  sm2 : ∀ (w : World) (A B : Option Addr) (c d : Nat), PsAt w A [(-1, 2), (1, 2)] → PsAt w B [(-1, 2), (1, 2)] → Calls Tryd.prog 43 #[.slice A 2 c, .slice B 2 d] w fun e w' => e = .returned (.bool true) ∧ Below w.heap.size w w'
theorem half_cells : (qC (1 / 2)).toArray = [Value.int .i64 1, Value.int .i64 2].toArray := by kernel_rfl
theorem third_cells : (qC (1 / 3)).toArray = [Value.int .i64 1, Value.int .i64 3].toArray := by kernel_rfl
theorem five_cells : (qC (5 / 6)).toArray = [Value.int .i64 5, Value.int .i64 6].toArray := by kernel_rfl
theorem saneQ : SaneQ where
  of1 w := (of_any 6 (-4) w (by decide +kernel) (by decide +kernel)).mono fun e w' ⟨h, hb⟩ => ⟨h.trans (by kernel_rfl), hb⟩
  of2 w := (of_any 1 0 w (by decide +kernel) (by decide +kernel)).mono fun e w' ⟨h, hb⟩ => ⟨h.trans (by kernel_rfl), hb⟩
  of3 w := (of_any 2147483648 1 w (by decide +kernel) (by decide +kernel)).mono fun e w' ⟨h, hb⟩ => ⟨h.trans (by kernel_rfl), hb⟩
  add w := half_cells ▸ third_cells ▸ (add_any (1 / 2) (1 / 3) w (by decide +kernel) (by decide +kernel)).mono fun e w' ⟨h, hb⟩ => ⟨h.trans (by kernel_rfl), hb⟩
  fl w := neg_cells ▸ (floor_any (-3 / 2) w (by decide +kernel)).mono fun e w' ⟨h, hb⟩ => ⟨h.trans (by kernel_rfl), hb⟩
  ce w := neg_cells ▸ (ceil_any (-3 / 2) w (by decide +kernel)).mono fun e w' ⟨h, hb⟩ => ⟨h.trans (by kernel_rfl), hb⟩
  ck w := (check_any (-3) 2 w).mono fun e w' ⟨h, hb⟩ => ⟨h.trans (by kernel_rfl), hb⟩
  ck0 w := (check_any 0 0 w).mono fun e w' ⟨h, hb⟩ => ⟨h.trans (by kernel_rfl), hb⟩
  cm w := neg_cells ▸ five_cells ▸ (cmp_any (-3 / 2) (5 / 6) w (by decide +kernel) (by decide +kernel)).mono fun e w' ⟨h, hb⟩ => ⟨h.trans (by kernel_rfl), hb⟩
  sm1 w A B c d h1 h2 := (rsame_any A B c d [(3, 1), (0, 1)] [(3, 1), (0, 1)] w (by decide +kernel) (by decide +kernel) h1 h2).mono fun e w' ⟨h, hb⟩ => ⟨h.trans (by rw [decide_eq_true rfl]), hb⟩
  sm2 w A B c d h1 h2 := (rsame_any A B c d [(-1, 2), (1, 2)] [(-1, 2), (1, 2)] w (by decide +kernel) (by decide +kernel) h1 h2).mono fun e w' ⟨h, hb⟩ => ⟨h.trans (by rw [decide_eq_true rfl]), hb⟩
set_option maxRecDepth 100000 in
set_option maxHeartbeats 6400000 in
theorem sanity_any (w : World) (hq : QW w) : Calls Tryd.prog 16 #[] w fun e w' => e = .returned (.bool true) ∧ Below w.heap.size w w' := by
  have HS := Lib.hid saneQ
  have HQ := Lib.hid hq
  have hunQ := Tryd.underlying23
  have hguQ := Tryd.guardQ
  clear hq
  have e1 : ∀ w, (binOp .neq 23 (.agg [Value.int .i64 (-3), Value.int .i64 2].toArray) (.agg [Value.int .i64 (-3), Value.int .i64 2].toArray)).run Tryd.prog w = .ok (.bool false) w := fun w => by rw [neqQ]; rfl
  have e2 : ∀ w, (binOp .neq 23 (.agg [Value.int .i64 5, Value.int .i64 6].toArray) (.agg [Value.int .i64 5, Value.int .i64 6].toArray)).run Tryd.prog w = .ok (.bool false) w := fun w => by rw [neqQ]; rfl
  have e3 : ∀ w, (binOp .neq 23 (.agg [Value.int .i64 1, Value.int .i64 2].toArray) (.agg [Value.int .i64 1, Value.int .i64 2].toArray)).run Tryd.prog w = .ok (.bool false) w := fun w => by rw [neqQ]; rfl
  have hst : (({ data := #[45, 51, 47, 50] } : ByteArray) != { data := #[45, 51, 47, 50] }) = false := by decide
  go_enter Tryd.func16, Tryd.ntmps16
  go_wp2_with fail
  (with_reducible refine (HS.out.of1 _).mono ?_)
  rintro e w1 ⟨rfl, hb1⟩
  have hbe : Below w.heap.size w w1 := hb1
  clear hb1
  go_wp2_with (with_reducible refine wpList_alloc (o := ⟨some 1, .alloc 23, _, _, _, _⟩) (by with_unfolding_all rfl) 23 (by with_unfolding_all rfl) (.agg zC.toArray) zC (by exact Tryd.zeroQ) (by with_unfolding_all rfl) ?_)
  intro g1 w2 hg1 hs2 hb2 B1
  have hl1 : w.heap.size ≤ g1 := Nat.le_trans hbe.size (Nat.le_of_eq hg1.out.symm)
  have hb2 := hb2.mono (Nat.le_of_eq hg1.out.symm)
  have hbe := below_join hbe hb2
  clear hb2 hg1 hs2
  go_wp2_with (with_reducible refine wpList_put (o := ⟨none, .store 23 (.tmp 1) (.tmp 23), _, _, _, _⟩) (by with_unfolding_all rfl) 23 (.tmp 1) (.tmp 23) (by with_unfolding_all rfl) g1 0 (by with_unfolding_all rfl) (.agg [Value.int .i64 (-3), Value.int .i64 2].toArray) (by with_unfolding_all rfl) B1 [Value.int .i64 (-3), Value.int .i64 2] (by with_unfolding_all rfl) (by with_unfolding_all (exact Tryd.szQ)) (by with_unfolding_all (exact Nat.le_refl 2)) (by with_unfolding_all (exact int_one _ _)) ?_)
  clear B1
  intro w3 hu3 B1
  rw [splice_all _ _ (by rfl)] at B1
  have hbe := hbe.trans (hu3.below (B := w.heap.size) hl1)
  clear hu3
  go_wp2_with fail
  (with_reducible refine (HS.out.of2 _).mono ?_)
  rintro e w4 ⟨rfl, hb4⟩
  have B1 := B1.next hb4 B1.lt
  have hbe := below_join hbe hb4
  clear hb4
  go_wp2_with (with_reducible refine wpList_alloc (o := ⟨some 3, .alloc 23, _, _, _, _⟩) (by with_unfolding_all rfl) 23 (by with_unfolding_all rfl) (.agg zC.toArray) zC (by exact Tryd.zeroQ) (by with_unfolding_all rfl) ?_)
  intro g3 w5 hg3 hs5 hb5 B3
  have hl3 : w.heap.size ≤ g3 := Nat.le_trans hbe.size (Nat.le_of_eq hg3.out.symm)
  have ne1_3 : g1 ≠ g3 := by have := B1.lt; have := hg3.out; omega
  have hb5 := hb5.mono (Nat.le_of_eq hg3.out.symm)
  have B1 := B1.next hb5 B1.lt
  have hbe := below_join hbe hb5
  clear hb5 hg3 hs5
  go_wp2_with (with_reducible refine wpList_put (o := ⟨none, .store 23 (.tmp 3) (.tmp 27), _, _, _, _⟩) (by with_unfolding_all rfl) 23 (.tmp 3) (.tmp 27) (by with_unfolding_all rfl) g3 0 (by with_unfolding_all rfl) (.agg [Value.int .i64 0, Value.int .i64 0].toArray) (by with_unfolding_all rfl) B3 [Value.int .i64 0, Value.int .i64 0] (by with_unfolding_all rfl) (by with_unfolding_all (exact Tryd.szQ)) (by with_unfolding_all (exact Nat.le_refl 2)) (by with_unfolding_all (exact int_one _ _)) ?_)
  clear B3
  intro w6 hu6 B3
  rw [splice_all _ _ (by rfl)] at B3
  have hbe := hbe.trans (hu6.below (B := w.heap.size) hl3)
  have B1 := B1.upd hu6 (by first | exact ne1_3 | exact ne3_1.symm)
  clear hu6
  clear B3
  go_wp2_with fail
  (with_reducible refine (HS.out.of3 _).mono ?_)
  rintro e w7 ⟨rfl, hb7⟩
  have B1 := B1.next hb7 B1.lt
  have hbe := below_join hbe hb7
  clear hb7
  go_wp2_with (with_reducible refine wpList_alloc (o := ⟨some 5, .alloc 23, _, _, _, _⟩) (by with_unfolding_all rfl) 23 (by with_unfolding_all rfl) (.agg zC.toArray) zC (by exact Tryd.zeroQ) (by with_unfolding_all rfl) ?_)
  intro g5 w8 hg5 hs8 hb8 B5
  have hl5 : w.heap.size ≤ g5 := Nat.le_trans hbe.size (Nat.le_of_eq hg5.out.symm)
  have ne1_5 : g1 ≠ g5 := by have := B1.lt; have := hg5.out; omega
  have hb8 := hb8.mono (Nat.le_of_eq hg5.out.symm)
  have B1 := B1.next hb8 B1.lt
  have hbe := below_join hbe hb8
  clear hb8 hg5 hs8
  go_wp2_with (with_reducible refine wpList_put (o := ⟨none, .store 23 (.tmp 5) (.tmp 31), _, _, _, _⟩) (by with_unfolding_all rfl) 23 (.tmp 5) (.tmp 31) (by with_unfolding_all rfl) g5 0 (by with_unfolding_all rfl) (.agg [Value.int .i64 0, Value.int .i64 0].toArray) (by with_unfolding_all rfl) B5 [Value.int .i64 0, Value.int .i64 0] (by with_unfolding_all rfl) (by with_unfolding_all (exact Tryd.szQ)) (by with_unfolding_all (exact Nat.le_refl 2)) (by with_unfolding_all (exact int_one _ _)) ?_)
  clear B5
  intro w9 hu9 B5
  rw [splice_all _ _ (by rfl)] at B5
  have hbe := hbe.trans (hu9.below (B := w.heap.size) hl5)
  have B1 := B1.upd hu9 (by first | exact ne1_5 | exact ne5_1.symm)
  clear hu9
  clear B5
  go_wp2_with (first | (with_reducible refine wpList_bw (o := ⟨some 34, .build 23 #[(0, .const (.int .i64 1)), (1, .const (.int .i64 2))], _, _, _, _⟩) (by with_unfolding_all rfl) 23 #[(0, .const (.int .i64 1)), (1, .const (.int .i64 2))] (by with_unfolding_all rfl) #[(0, .int .i64 1), (1, .int .i64 2)] (by with_unfolding_all rfl) (.agg [Value.int .i64 1, Value.int .i64 2].toArray) (by with_unfolding_all exact fun w => run_buildQ w 1 2) ?_) | (with_reducible refine wpList_bw (o := ⟨some 35, .build 23 #[(0, .const (.int .i64 1)), (1, .const (.int .i64 3))], _, _, _, _⟩) (by with_unfolding_all rfl) 23 #[(0, .const (.int .i64 1)), (1, .const (.int .i64 3))] (by with_unfolding_all rfl) #[(0, .int .i64 1), (1, .int .i64 3)] (by with_unfolding_all rfl) (.agg [Value.int .i64 1, Value.int .i64 3].toArray) (by with_unfolding_all exact fun w => run_buildQ w 1 3) ?_))
  (with_reducible refine (HS.out.add _).mono ?_)
  rintro e w10 ⟨rfl, hb10⟩
  have B1 := B1.next hb10 B1.lt
  have hbe := below_join hbe hb10
  clear hb10
  go_wp2_with (with_reducible refine wpList_alloc (o := ⟨some 7, .alloc 23, _, _, _, _⟩) (by with_unfolding_all rfl) 23 (by with_unfolding_all rfl) (.agg zC.toArray) zC (by exact Tryd.zeroQ) (by with_unfolding_all rfl) ?_)
  intro g7 w11 hg7 hs11 hb11 B7
  have hl7 : w.heap.size ≤ g7 := Nat.le_trans hbe.size (Nat.le_of_eq hg7.out.symm)
  have ne1_7 : g1 ≠ g7 := by have := B1.lt; have := hg7.out; omega
  have hb11 := hb11.mono (Nat.le_of_eq hg7.out.symm)
  have B1 := B1.next hb11 B1.lt
  have hbe := below_join hbe hb11
  clear hb11 hg7 hs11
  go_wp2_with (with_reducible refine wpList_put (o := ⟨none, .store 23 (.tmp 7) (.tmp 37), _, _, _, _⟩) (by with_unfolding_all rfl) 23 (.tmp 7) (.tmp 37) (by with_unfolding_all rfl) g7 0 (by with_unfolding_all rfl) (.agg [Value.int .i64 5, Value.int .i64 6].toArray) (by with_unfolding_all rfl) B7 [Value.int .i64 5, Value.int .i64 6] (by with_unfolding_all rfl) (by with_unfolding_all (exact Tryd.szQ)) (by with_unfolding_all (exact Nat.le_refl 2)) (by with_unfolding_all (exact int_one _ _)) ?_)
  clear B7
  intro w12 hu12 B7
  rw [splice_all _ _ (by rfl)] at B7
  have hbe := hbe.trans (hu12.below (B := w.heap.size) hl7)
  have B1 := B1.upd hu12 (by first | exact ne1_7 | exact ne7_1.symm)
  clear hu12
  go_wp2_with fail
  (with_reducible refine (parse_half _ (HQ.out.next hbe)).mono ?_)
  rintro e w13 ⟨rfl, hb13⟩
  have B1 := B1.next hb13 B1.lt
  have B7 := B7.next hb13 B7.lt
  have hbe := below_join hbe hb13
  clear hb13
  go_wp2_with (with_reducible refine wpList_alloc (o := ⟨some 9, .alloc 23, _, _, _, _⟩) (by with_unfolding_all rfl) 23 (by with_unfolding_all rfl) (.agg zC.toArray) zC (by exact Tryd.zeroQ) (by with_unfolding_all rfl) ?_)
  intro g9 w14 hg9 hs14 hb14 B9
  have hl9 : w.heap.size ≤ g9 := Nat.le_trans hbe.size (Nat.le_of_eq hg9.out.symm)
  have ne1_9 : g1 ≠ g9 := by have := B1.lt; have := hg9.out; omega
  have ne7_9 : g7 ≠ g9 := by have := B7.lt; have := hg9.out; omega
  have hb14 := hb14.mono (Nat.le_of_eq hg9.out.symm)
  have B1 := B1.next hb14 B1.lt
  have B7 := B7.next hb14 B7.lt
  have hbe := below_join hbe hb14
  clear hb14 hg9 hs14
  go_wp2_with (with_reducible refine wpList_put (o := ⟨none, .store 23 (.tmp 9) (.tmp 41), _, _, _, _⟩) (by with_unfolding_all rfl) 23 (.tmp 9) (.tmp 41) (by with_unfolding_all rfl) g9 0 (by with_unfolding_all rfl) (.agg [Value.int .i64 1, Value.int .i64 2].toArray) (by with_unfolding_all rfl) B9 [Value.int .i64 1, Value.int .i64 2] (by with_unfolding_all rfl) (by with_unfolding_all (exact Tryd.szQ)) (by with_unfolding_all (exact Nat.le_refl 2)) (by with_unfolding_all (exact int_one _ _)) ?_)
  clear B9
  intro w15 hu15 B9
  rw [splice_all _ _ (by rfl)] at B9
  have hbe := hbe.trans (hu15.below (B := w.heap.size) hl9)
  have B1 := B1.upd hu15 (by first | exact ne1_9 | exact ne9_1.symm)
  have B7 := B7.upd hu15 (by first | exact ne7_9 | exact ne9_7.symm)
  clear hu15
  go_wp2_with fail
  (with_reducible refine (parse_not _ (HQ.out.next hbe)).mono ?_)
  rintro e w16 ⟨rfl, hb16⟩
  have B1 := B1.next hb16 B1.lt
  have B7 := B7.next hb16 B7.lt
  have B9 := B9.next hb16 B9.lt
  have hbe := below_join hbe hb16
  clear hb16
  go_wp2_with (with_reducible refine wpList_alloc (o := ⟨some 11, .alloc 23, _, _, _, _⟩) (by with_unfolding_all rfl) 23 (by with_unfolding_all rfl) (.agg zC.toArray) zC (by exact Tryd.zeroQ) (by with_unfolding_all rfl) ?_)
  intro g11 w17 hg11 hs17 hb17 B11
  have hl11 : w.heap.size ≤ g11 := Nat.le_trans hbe.size (Nat.le_of_eq hg11.out.symm)
  have ne1_11 : g1 ≠ g11 := by have := B1.lt; have := hg11.out; omega
  have ne7_11 : g7 ≠ g11 := by have := B7.lt; have := hg11.out; omega
  have ne9_11 : g9 ≠ g11 := by have := B9.lt; have := hg11.out; omega
  have hb17 := hb17.mono (Nat.le_of_eq hg11.out.symm)
  have B1 := B1.next hb17 B1.lt
  have B7 := B7.next hb17 B7.lt
  have B9 := B9.next hb17 B9.lt
  have hbe := below_join hbe hb17
  clear hb17 hg11 hs17
  go_wp2_with (with_reducible refine wpList_put (o := ⟨none, .store 23 (.tmp 11) (.tmp 45), _, _, _, _⟩) (by with_unfolding_all rfl) 23 (.tmp 11) (.tmp 45) (by with_unfolding_all rfl) g11 0 (by with_unfolding_all rfl) (.agg [Value.int .i64 0, Value.int .i64 0].toArray) (by with_unfolding_all rfl) B11 [Value.int .i64 0, Value.int .i64 0] (by with_unfolding_all rfl) (by with_unfolding_all (exact Tryd.szQ)) (by with_unfolding_all (exact Nat.le_refl 2)) (by with_unfolding_all (exact int_one _ _)) ?_)
  clear B11
  intro w18 hu18 B11
  rw [splice_all _ _ (by rfl)] at B11
  have hbe := hbe.trans (hu18.below (B := w.heap.size) hl11)
  have B1 := B1.upd hu18 (by first | exact ne1_11 | exact ne11_1.symm)
  have B7 := B7.upd hu18 (by first | exact ne7_11 | exact ne11_7.symm)
  have B9 := B9.upd hu18 (by first | exact ne9_11 | exact ne11_9.symm)
  clear hu18
  clear B11
  have z10 := B1.cell (k := 0) rfl
  have z11 := B1.cell (k := 1) rfl
  have z70 := B7.cell (k := 0) rfl
  have z71 := B7.cell (k := 1) rfl
  have z90 := B9.cell (k := 0) rfl
  have z91 := B9.cell (k := 1) rfl
  go_wp2_with (first | (with_reducible refine wpList_bw (o := ⟨some 48, .build 23 #[(0, .const (.int .i64 (-3))), (1, .const (.int .i64 2))], _, _, _, _⟩) (by with_unfolding_all rfl) 23 #[(0, .const (.int .i64 (-3))), (1, .const (.int .i64 2))] (by with_unfolding_all rfl) #[(0, .int .i64 (-3)), (1, .int .i64 2)] (by with_unfolding_all rfl) (.agg [Value.int .i64 (-3), Value.int .i64 2].toArray) (by with_unfolding_all exact fun w => run_buildQ w (-3) 2) ?_) | (with_reducible refine wpList_bw (o := ⟨some 64, .build 23 #[(0, .const (.int .i64 5)), (1, .const (.int .i64 6))], _, _, _, _⟩) (by with_unfolding_all rfl) 23 #[(0, .const (.int .i64 5)), (1, .const (.int .i64 6))] (by with_unfolding_all rfl) #[(0, .int .i64 5), (1, .int .i64 6)] (by with_unfolding_all rfl) (.agg [Value.int .i64 5, Value.int .i64 6].toArray) (by with_unfolding_all exact fun w => run_buildQ w 5 6) ?_) | (with_reducible refine wpList_bw (o := ⟨some 73, .build 23 #[(0, .const (.int .i64 1)), (1, .const (.int .i64 2))], _, _, _, _⟩) (by with_unfolding_all rfl) 23 #[(0, .const (.int .i64 1)), (1, .const (.int .i64 2))] (by with_unfolding_all rfl) #[(0, .int .i64 1), (1, .int .i64 2)] (by with_unfolding_all rfl) (.agg [Value.int .i64 1, Value.int .i64 2].toArray) (by with_unfolding_all exact fun w => run_buildQ w 1 2) ?_))
  (with_reducible refine (HS.out.fl _).mono ?_)
  rintro e w19 ⟨rfl, hb19⟩
  have B1 := B1.next hb19 B1.lt
  have B7 := B7.next hb19 B7.lt
  have B9 := B9.next hb19 B9.lt
  have hbe := below_join hbe hb19
  clear hb19
  clear z10 z11 z70 z71 z90 z91
  have z10 := B1.cell (k := 0) rfl
  have z11 := B1.cell (k := 1) rfl
  go_wp2_with fail
  (with_reducible refine (HS.out.ce _).mono ?_)
  rintro e w20 ⟨rfl, hb20⟩
  have B1 := B1.next hb20 B1.lt
  have B7 := B7.next hb20 B7.lt
  have B9 := B9.next hb20 B9.lt
  have hbe := below_join hbe hb20
  clear hb20
  clear z10 z11
  have z10 := B1.cell (k := 0) rfl
  have z11 := B1.cell (k := 1) rfl
  go_wp2_with fail
  (with_reducible refine (text_neg _ (HQ.out.next hbe)).mono ?_)
  rintro e w21 ⟨rfl, hb21⟩
  have B1 := B1.next hb21 B1.lt
  have B7 := B7.next hb21 B7.lt
  have B9 := B9.next hb21 B9.lt
  have hbe := below_join hbe hb21
  clear hb21
  clear z10 z11
  have z10 := B1.cell (k := 0) rfl
  have z11 := B1.cell (k := 1) rfl
  go_wp2_with fail
  (with_reducible refine (HS.out.ck _).mono ?_)
  rintro e w22 ⟨rfl, hb22⟩
  have B1 := B1.next hb22 B1.lt
  have B7 := B7.next hb22 B7.lt
  have B9 := B9.next hb22 B9.lt
  have hbe := below_join hbe hb22
  clear hb22
  clear z10 z11
  go_wp2_with (first | (with_reducible refine wpList_bw (o := ⟨some 104, .build 23 #[], _, _, _, _⟩) (by with_unfolding_all rfl) 23 #[] (by with_unfolding_all rfl) #[] (by with_unfolding_all rfl) (.agg [Value.int .i64 0, Value.int .i64 0].toArray) (by with_unfolding_all exact fun w => run_buildQ0 w) ?_))
  (with_reducible refine (HS.out.ck0 _).mono ?_)
  rintro e w23 ⟨rfl, hb23⟩
  have B1 := B1.next hb23 B1.lt
  have B7 := B7.next hb23 B7.lt
  have B9 := B9.next hb23 B9.lt
  have hbe := below_join hbe hb23
  clear hb23
  clear B9
  go_wp2_with fail
  (with_reducible refine (lwhole_any 1 _).mono ?_)
  rintro e w24 ⟨rfl, hb24⟩
  have B1 := B1.next hb24 B1.lt
  have B7 := B7.next hb24 B7.lt
  have hbe := below_join hbe hb24
  clear hb24
  go_wp2_with fail
  (with_reducible refine (lwhole_any 1 _).mono ?_)
  rintro e w25 ⟨rfl, hb25⟩
  have B1 := B1.next hb25 B1.lt
  have B7 := B7.next hb25 B7.lt
  have hbe := below_join hbe hb25
  clear hb25
  go_wp2_with (first | (with_reducible refine wpList_row2 (o := ⟨some 109, .buildSlice 40 2 #[(0, .tmp 107), (1, .tmp 108)], _, _, _, _⟩) (by with_unfolding_all rfl) (.tmp 107) (.tmp 108) (by with_unfolding_all rfl) 1 1 1 1 (by with_unfolding_all rfl) (by with_unfolding_all rfl) ?_))
  intro g109 w26 hg109 hb26 B109
  have B1 := B1.next hb26 B1.lt
  have B7 := B7.next hb26 B7.lt
  have hbe := below_join hbe hb26
  clear hb26 hg109
  go_wp2_with fail
  (with_reducible refine (lwhole_any 2 _).mono ?_)
  rintro e w27 ⟨rfl, hb27⟩
  have B1 := B1.next hb27 B1.lt
  have B7 := B7.next hb27 B7.lt
  have B109 := B109.next hb27 B109.lt
  have hbe := below_join hbe hb27
  clear hb27
  go_wp2_with fail
  (with_reducible refine (lwhole_any 2 _).mono ?_)
  rintro e w28 ⟨rfl, hb28⟩
  have B1 := B1.next hb28 B1.lt
  have B7 := B7.next hb28 B7.lt
  have B109 := B109.next hb28 B109.lt
  have hbe := below_join hbe hb28
  clear hb28
  go_wp2_with (first | (with_reducible refine wpList_row2 (o := ⟨some 112, .buildSlice 40 2 #[(0, .tmp 110), (1, .tmp 111)], _, _, _, _⟩) (by with_unfolding_all rfl) (.tmp 110) (.tmp 111) (by with_unfolding_all rfl) 2 1 2 1 (by with_unfolding_all rfl) (by with_unfolding_all rfl) ?_))
  intro g112 w29 hg112 hb29 B112
  have B1 := B1.next hb29 B1.lt
  have B7 := B7.next hb29 B7.lt
  have B109 := B109.next hb29 B109.lt
  have hbe := below_join hbe hb29
  clear hb29 hg112
  go_wp2_with (first | (with_reducible refine wpList_rows2 (o := ⟨some 116, .buildSlice 45 2 #[(0, .tmp 114), (1, .tmp 115)], _, _, _, _⟩) (by with_unfolding_all rfl) (.tmp 114) (.tmp 115) (by with_unfolding_all rfl) (some ⟨g109, 0, none⟩, 2, 2) (some ⟨g112, 0, none⟩, 2, 2) (by with_unfolding_all rfl) (by with_unfolding_all rfl) ?_))
  intro g116 w30 hg116 hb30 B116
  have B1 := B1.next hb30 B1.lt
  have B7 := B7.next hb30 B7.lt
  have B109 := B109.next hb30 B109.lt
  have B112 := B112.next hb30 B112.lt
  have hbe := below_join hbe hb30
  clear hb30 hg116
  go_wp2_with fail
  (with_reducible refine (lwhole_any 3 _).mono ?_)
  rintro e w31 ⟨rfl, hb31⟩
  have B1 := B1.next hb31 B1.lt
  have B7 := B7.next hb31 B7.lt
  have B109 := B109.next hb31 B109.lt
  have B112 := B112.next hb31 B112.lt
  have B116 := B116.next hb31 B116.lt
  have hbe := below_join hbe hb31
  clear hb31
  go_wp2_with fail
  (with_reducible refine (lwhole_any 6 _).mono ?_)
  rintro e w32 ⟨rfl, hb32⟩
  have B1 := B1.next hb32 B1.lt
  have B7 := B7.next hb32 B7.lt
  have B109 := B109.next hb32 B109.lt
  have B112 := B112.next hb32 B112.lt
  have B116 := B116.next hb32 B116.lt
  have hbe := below_join hbe hb32
  clear hb32
  go_wp2_with (first | (with_reducible refine wpList_row2 (o := ⟨some 119, .buildSlice 40 2 #[(0, .tmp 117), (1, .tmp 118)], _, _, _, _⟩) (by with_unfolding_all rfl) (.tmp 117) (.tmp 118) (by with_unfolding_all rfl) 3 1 6 1 (by with_unfolding_all rfl) (by with_unfolding_all rfl) ?_))
  intro g119 w33 hg119 hb33 B119
  have B1 := B1.next hb33 B1.lt
  have B7 := B7.next hb33 B7.lt
  have B109 := B109.next hb33 B109.lt
  have B112 := B112.next hb33 B112.lt
  have B116 := B116.next hb33 B116.lt
  have hbe := below_join hbe hb33
  clear hb33 hg119
  go_wp2_with fail
  (with_reducible refine (solve_one g116 g109 g112 g119 2 2 2 2 _ (by omega) B109 B112 B119 B116).mono ?_)
  rintro e w34 ⟨⟨gx, rfl, PX⟩, hb34⟩
  have B1 := B1.next hb34 B1.lt
  have B7 := B7.next hb34 B7.lt
  have B109 := B109.next hb34 B109.lt
  have B112 := B112.next hb34 B112.lt
  have B116 := B116.next hb34 B116.lt
  have B119 := B119.next hb34 B119.lt
  have hbe := below_join hbe hb34
  clear hb34
  clear B112
  clear B116
  clear B119
  go_wp2_with (first | (with_reducible refine wpList_rows2 (o := ⟨some 127, .buildSlice 45 2 #[(0, .tmp 125), (1, .tmp 126)], _, _, _, _⟩) (by with_unfolding_all rfl) (.tmp 125) (.tmp 126) (by with_unfolding_all rfl) (some ⟨g109, 0, none⟩, 2, 2) (some ⟨g109, 0, none⟩, 2, 2) (by with_unfolding_all rfl) (by with_unfolding_all rfl) ?_))
  intro g127 w35 hg127 hb35 B127
  have B1 := B1.next hb35 B1.lt
  have B7 := B7.next hb35 B7.lt
  have B109 := B109.next hb35 B109.lt
  have PX := PX.next hb35
  have hbe := below_join hbe hb35
  clear hb35 hg127
  go_wp2_with fail
  (with_reducible refine (lwhole_any 3 _).mono ?_)
  rintro e w36 ⟨rfl, hb36⟩
  have B1 := B1.next hb36 B1.lt
  have B7 := B7.next hb36 B7.lt
  have B109 := B109.next hb36 B109.lt
  have PX := PX.next hb36
  have B127 := B127.next hb36 B127.lt
  have hbe := below_join hbe hb36
  clear hb36
  go_wp2_with fail
  (with_reducible refine (lwhole_any 5 _).mono ?_)
  rintro e w37 ⟨rfl, hb37⟩
  have B1 := B1.next hb37 B1.lt
  have B7 := B7.next hb37 B7.lt
  have B109 := B109.next hb37 B109.lt
  have PX := PX.next hb37
  have B127 := B127.next hb37 B127.lt
  have hbe := below_join hbe hb37
  clear hb37
  go_wp2_with (first | (with_reducible refine wpList_row2 (o := ⟨some 130, .buildSlice 40 2 #[(0, .tmp 128), (1, .tmp 129)], _, _, _, _⟩) (by with_unfolding_all rfl) (.tmp 128) (.tmp 129) (by with_unfolding_all rfl) 3 1 5 1 (by with_unfolding_all rfl) (by with_unfolding_all rfl) ?_))
  intro g130 w38 hg130 hb38 B130
  have B1 := B1.next hb38 B1.lt
  have B7 := B7.next hb38 B7.lt
  have B109 := B109.next hb38 B109.lt
  have PX := PX.next hb38
  have B127 := B127.next hb38 B127.lt
  have hbe := below_join hbe hb38
  clear hb38 hg130
  go_wp2_with fail
  (with_reducible refine (solve_none g127 g109 g109 g130 2 2 2 2 _ (by omega) B109 B109 B130 B127).mono ?_)
  rintro e w39 ⟨⟨gy, oy, cy, rfl, PY⟩, hb39⟩
  have B1 := B1.next hb39 B1.lt
  have B7 := B7.next hb39 B7.lt
  have B109 := B109.next hb39 B109.lt
  have PX := PX.next hb39
  have B127 := B127.next hb39 B127.lt
  have B130 := B130.next hb39 B130.lt
  have hbe := below_join hbe hb39
  clear hb39
  clear B109
  clear B127
  clear B130
  go_wp2_with fail
  (with_reducible refine (lwhole_any 3 _).mono ?_)
  rintro e w40 ⟨rfl, hb40⟩
  have B1 := B1.next hb40 B1.lt
  have B7 := B7.next hb40 B7.lt
  have PX := PX.next hb40
  have PY := PY.next hb40
  have hbe := below_join hbe hb40
  clear hb40
  go_wp2_with fail
  (with_reducible refine (lwhole_any 0 _).mono ?_)
  rintro e w41 ⟨rfl, hb41⟩
  have B1 := B1.next hb41 B1.lt
  have B7 := B7.next hb41 B7.lt
  have PX := PX.next hb41
  have PY := PY.next hb41
  have hbe := below_join hbe hb41
  clear hb41
  go_wp2_with (first | (with_reducible refine wpList_row2 (o := ⟨some 141, .buildSlice 40 2 #[(0, .tmp 139), (1, .tmp 140)], _, _, _, _⟩) (by with_unfolding_all rfl) (.tmp 139) (.tmp 140) (by with_unfolding_all rfl) 3 1 0 1 (by with_unfolding_all rfl) (by with_unfolding_all rfl) ?_))
  intro g141 w42 hg141 hb42 B141
  have B1 := B1.next hb42 B1.lt
  have B7 := B7.next hb42 B7.lt
  have PX := PX.next hb42
  have PY := PY.next hb42
  have hbe := below_join hbe hb42
  clear hb42 hg141
  go_wp2_with fail
  (with_reducible refine (HS.out.sm1 _ _ _ _ _ PX (psAt_blk B141)).mono ?_)
  rintro e w43 ⟨rfl, hb43⟩
  have B1 := B1.next hb43 B1.lt
  have B7 := B7.next hb43 B7.lt
  have PX := PX.next hb43
  have PY := PY.next hb43
  have B141 := B141.next hb43 B141.lt
  have hbe := below_join hbe hb43
  clear hb43
  clear B141
  clear PX
  go_wp2_with (first | (with_reducible refine wpList_row2 (o := ⟨some 152, .buildSlice 40 2 #[(0, .tmp 150), (1, .tmp 151)], _, _, _, _⟩) (by with_unfolding_all rfl) (.tmp 150) (.tmp 151) (by with_unfolding_all rfl) (-1) 2 1 2 (by with_unfolding_all rfl) (by with_unfolding_all rfl) ?_) | (with_reducible refine wpList_bw (o := ⟨some 150, .build 23 #[(0, .const (.int .i64 (-1))), (1, .const (.int .i64 2))], _, _, _, _⟩) (by with_unfolding_all rfl) 23 #[(0, .const (.int .i64 (-1))), (1, .const (.int .i64 2))] (by with_unfolding_all rfl) #[(0, .int .i64 (-1)), (1, .int .i64 2)] (by with_unfolding_all rfl) (.agg [Value.int .i64 (-1), Value.int .i64 2].toArray) (by with_unfolding_all exact fun w => run_buildQ w (-1) 2) ?_) | (with_reducible refine wpList_bw (o := ⟨some 151, .build 23 #[(0, .const (.int .i64 1)), (1, .const (.int .i64 2))], _, _, _, _⟩) (by with_unfolding_all rfl) 23 #[(0, .const (.int .i64 1)), (1, .const (.int .i64 2))] (by with_unfolding_all rfl) #[(0, .int .i64 1), (1, .int .i64 2)] (by with_unfolding_all rfl) (.agg [Value.int .i64 1, Value.int .i64 2].toArray) (by with_unfolding_all exact fun w => run_buildQ w 1 2) ?_))
  intro g152 w44 hg152 hb44 B152
  have B1 := B1.next hb44 B1.lt
  have B7 := B7.next hb44 B7.lt
  have PY := PY.next hb44
  have hbe := below_join hbe hb44
  clear hb44 hg152
  go_wp2_with fail
  (with_reducible refine (HS.out.sm2 _ _ _ _ _ PY (psAt_blk B152)).mono ?_)
  rintro e w45 ⟨rfl, hb45⟩
  have B1 := B1.next hb45 B1.lt
  have B7 := B7.next hb45 B7.lt
  have PY := PY.next hb45
  have B152 := B152.next hb45 B152.lt
  have hbe := below_join hbe hb45
  clear hb45
  clear B152
  clear PY
  have z10 := B1.cell (k := 0) rfl
  have z11 := B1.cell (k := 1) rfl
  have z70 := B7.cell (k := 0) rfl
  have z71 := B7.cell (k := 1) rfl
  go_wp2_with fail
  (with_reducible refine (HS.out.cm _).mono ?_)
  rintro e w46 ⟨rfl, hb46⟩
  have B1 := B1.next hb46 B1.lt
  have B7 := B7.next hb46 B7.lt
  have hbe := below_join hbe hb46
  clear hb46
  clear z10 z11 z70 z71
  go_wp2
  go_ret
  exact ⟨rfl, hbe⟩
end Go.Proofs.YthjaelopmfjfeaaDoor
