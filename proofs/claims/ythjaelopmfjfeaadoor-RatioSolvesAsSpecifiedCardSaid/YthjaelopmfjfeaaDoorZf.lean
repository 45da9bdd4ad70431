/-
  The table of the reference's Solve in memory; contract of the walk over its keep. Conditions: the worker lies there.
-/
import Derived.Test.YthjaelopmfjfeaaDoorWk
import Derived.Test.YthjaelopmfjfeaaDoorYb
namespace Go.Proofs.YthjaelopmfjfeaaDoor
set_option linter.unusedVariables false
set_option linter.unusedSimpArgs false
open Go.RowKit Go.Shelf
set_option linter.unusedVariables false

/-- The reference's table lies there, below T and from B on; no error so far. -/
structure RL (B T gw gr N cL : Nat) (J : List Value) (M : List RowM) (C : List (List Rat)) (w : World) : Prop where
  wk : Blk w gw 75 [.slice (some ⟨gr, 0, none⟩) M.length cL, .int .i64 0]
  hdrs : Blk w gr 40 (M.map (rowV N) ++ J)
  same : M.length = C.length
  rows : ∀ (i : Nat) (r : RowM) (l : List Rat), M[i]? = some r → C[i]? = some l → l.length = N ∧ (∀ x ∈ l, fits x) ∧ Blk w r.1 23 (rowC l ++ r.2.2)
  diff : ∀ (i j : Nat) (r p : RowM), M[i]? = some r → M[j]? = some p → r.1 = p.1 → i = j
  apart : ∀ (i : Nat) (r : RowM), M[i]? = some r → r.1 ≠ gr ∧ r.1 ≠ gw ∧ B ≤ r.1 ∧ r.1 < T
  base : B ≤ gr ∧ B ≤ gw ∧ gr ≠ gw ∧ gr < T ∧ gw < T
  caps : ∀ (i : Nat) (r : RowM), M[i]? = some r → N ≤ r.2.1
/-- The reference's table behind an error. -/
structure RX (B T gw gr N cL : Nat) (J : List Value) (M : List RowM) (w : World) : Prop where
  wk : Blk w gw 75 [.slice (some ⟨gr, 0, none⟩) M.length cL, .int .i64 17]
  hdrs : Blk w gr 40 (M.map (rowV N) ++ J)
  rows : ∀ (i : Nat) (r : RowM), M[i]? = some r → ∃ raw : List (Int × Int), raw.length = N ∧ Blk w r.1 23 (rowR raw ++ r.2.2)
  apart : ∀ (i : Nat) (r : RowM), M[i]? = some r → r.1 ≠ gr ∧ r.1 ≠ gw ∧ B ≤ r.1 ∧ r.1 < T
  base : B ≤ gr ∧ B ≤ gw ∧ gr ≠ gw ∧ gr < T ∧ gw < T
section
variable {B T gw gr N cL : Nat} {J : List Value} {M : List RowM} {C : List (List Rat)} {w w' : World}
theorem RL.keep (h : RL B T gw gr N cL J M C w) (hb : Below T w w') : RL B T gw gr N cL J M C w' :=
  ⟨h.wk.next hb h.base.2.2.2.2, h.hdrs.next hb h.base.2.2.2.1, h.same, fun i r l h1 h2 => ⟨(h.rows i r l h1 h2).1, (h.rows i r l h1 h2).2.1, (h.rows i r l h1 h2).2.2.next hb (h.apart i r h1).2.2.2⟩, h.diff, h.apart, h.base, h.caps⟩
theorem RX.keep (h : RX B T gw gr N cL J M w) (hb : Below T w w') : RX B T gw gr N cL J M w' :=
  ⟨h.wk.next hb h.base.2.2.2.2, h.hdrs.next hb h.base.2.2.2.1, fun i r h1 => by
    obtain ⟨raw, a, b⟩ := h.rows i r h1
    exact ⟨raw, a, b.next hb (h.apart i r h1).2.2.2⟩, h.apart, h.base⟩
theorem RL.change (h : RL B T gw gr N cL J M C w) {i : Nat} {r : RowM} {l : List Rat} (hr : M[i]? = some r) (hl : l.length = N) (hf : ∀ x ∈ l, fits x) (ho : Only [r.1, gw] w w') (hB : Blk w' r.1 23 (rowC l ++ r.2.2)) (he : Blk w' gw 75 [.slice (some ⟨gr, 0, none⟩) M.length cL, .int .i64 0]) : RL B T gw gr N cL J M (C.set i l) w' := by
  have ha := h.apart i r hr
  refine ⟨he, h.hdrs.only ho (by simp; exact ⟨fun e => ha.1 e.symm, h.base.2.2.1⟩), by rw [List.length_set]; exact h.same, fun j p q h1 h2 => ?_, h.diff, h.apart, h.base, h.caps⟩
  by_cases e : j = i
  · subst e
    rw [hr] at h1
    injection h1 with h1
    subst h1
    have hj := (List.getElem?_eq_some_iff.1 h2).1
    rw [List.length_set] at hj
    rw [List.getElem?_set_self hj] at h2
    injection h2 with h2
    subst h2
    exact ⟨hl, hf, hB⟩
  · rw [List.getElem?_set_ne (fun e2 => e e2.symm)] at h2
    obtain ⟨a, b, c⟩ := h.rows j p q h1 h2
    refine ⟨a, b, c.only ho ?_⟩
    simp
    exact ⟨fun e2 => e (h.diff j i p r h1 hr e2), (h.apart j p h1).2.1⟩
theorem RL.fell (h : RL B T gw gr N cL J M C w) {i : Nat} {r : RowM} (hr : M[i]? = some r) (ho : Only [r.1, gw] w w') (hB : ∃ raw : List (Int × Int), raw.length = N ∧ Blk w' r.1 23 (rowR raw ++ r.2.2)) (he : Blk w' gw 75 [.slice (some ⟨gr, 0, none⟩) M.length cL, .int .i64 17]) : RX B T gw gr N cL J M w' := by
  have ha := h.apart i r hr
  refine ⟨he, h.hdrs.only ho (by simp; exact ⟨fun e => ha.1 e.symm, h.base.2.2.1⟩), fun j p h1 => ?_, h.apart, h.base⟩
  by_cases e : j = i
  · subst e
    rw [hr] at h1
    injection h1 with h1
    subst h1
    exact hB
  · have hj : j < C.length := by rw [← h.same]; exact (List.getElem?_eq_some_iff.1 h1).1
    obtain ⟨a, b, c⟩ := h.rows j p C[j] h1 (List.getElem?_eq_getElem hj)
    refine ⟨prs C[j], by rw [prs_length]; exact a, c.only ho ?_⟩
    simp
    exact ⟨fun e2 => e (h.diff j i p r h1 hr e2), (h.apart j p h1).2.1⟩
end
set_option maxRecDepth 100000 in
set_option maxHeartbeats 1600000 in
theorem keep_ok (gw : Nat) (L : Value) (N D : Int) (w : World) (hB : Blk w gw 75 [L, .int .i64 0]) :
    Calls Tryd.prog 80 #[.pointer (some ⟨gw, 0, none⟩), .agg [Value.int .i64 N, Value.int .i64 D].toArray, .int .i64 0] w fun e w' => e = .returned (.agg [Value.int .i64 N, Value.int .i64 D].toArray) ∧ Blk w' gw 75 [L, .int .i64 0] ∧ Only [gw] w w' := by
  have hgw := hB.lt
  go_enter Tryd.func80, Tryd.ntmps80
  go_wp2_with (with_reducible refine wpList_box (o := ⟨some 4, .box 23 (.tmp 1), _, _, _, _⟩) ?g4 23 (.tmp 1) ?o4 (.agg [Value.int .i64 N, Value.int .i64 D].toArray) [Value.int .i64 N, Value.int .i64 D] ?x4 ?c4 ?_)
  try (case g4 => rfl)
  try (case o4 => rfl)
  try (case x4 => rfl)
  try (case c4 => rfl)
  intro g4 w1 hg4 hs1 hb1 B4
  have hb1 := hb1.mono (Nat.le_of_eq hg4.out.symm)
  have n4 : g4 ≠ gw := by have := hg4.out; omega
  have hB := hB.next hb1 hgw
  have hl4 : w.heap.size ≤ g4 := Nat.le_of_eq hg4.out.symm
  clear hg4 hs1
  go_wp2_with (with_reducible refine wpList_alloc (o := ⟨some 6, .alloc 23, _, _, _, _⟩) (by with_unfolding_all rfl) 23 (by with_unfolding_all rfl) (.agg zC.toArray) zC (by exact Tryd.zeroQ) (by with_unfolding_all rfl) ?_)
  intro g6 w2 hg6 hs2 hb2 B6
  have hl6 : w.heap.size ≤ g6 := Nat.le_trans hb1.size (Nat.le_of_eq hg6.out.symm)
  have n46 : g4 ≠ g6 := by have := B4.lt; have := hg6.out; omega
  have n6 : g6 ≠ gw := by omega
  have hb2 := hb2.mono (Nat.le_of_eq hg6.out.symm)
  have B4 := B4.next hb2 B4.lt
  have hB := hB.next hb2 hB.lt
  have hbe := below_join hb1 hb2
  have ho : Only [gw] w w2 := Only.of_below hbe
  clear hb1 hb2 hbe hg6 hs2
  have c1 := hB.cell (k := 1) rfl
  go_wp2_with (with_reducible refine wpList_put (o := ⟨none, .store 24 (.tmp 15) (.tmp 13), _, _, _, _⟩) (by with_unfolding_all rfl) 24 (.tmp 15) (.tmp 13) (by with_unfolding_all rfl) gw 1 (by with_unfolding_all rfl) (.int .i64 0) (by with_unfolding_all rfl) hB [Value.int .i64 0] (by with_unfolding_all rfl) (by with_unfolding_all (exact Tryd.szE)) (by with_unfolding_all (exact Nat.le_refl 2)) (by with_unfolding_all (exact one_cell1 rfl)) ?_)
  intro w3 hu3 hB3
  have hB3 : Blk w3 gw 75 [L, .int .i64 0] := hB3
  have B4 := B4.upd hu3 n4
  have B6 := B6.upd hu3 n6
  have ho := ho.trans (Only.of_upd hu3 (List.mem_singleton.2 rfl))
  clear hu3 hB c1
  have z0 := B4.cell (k := 0) rfl
  have z1 := B4.cell (k := 1) rfl
  go_wp2_with (with_reducible refine wpList_put (o := ⟨none, .store 23 (.tmp 6) (.tmp 19), _, _, _, _⟩) (by with_unfolding_all rfl) 23 (.tmp 6) (.tmp 19) (by with_unfolding_all rfl) g6 0 (by with_unfolding_all rfl) (.agg [Value.int .i64 N, Value.int .i64 D].toArray) (by with_unfolding_all rfl) B6 [Value.int .i64 N, Value.int .i64 D] (by with_unfolding_all rfl) (by with_unfolding_all (exact Tryd.szQ)) (by with_unfolding_all (exact Nat.le_refl 2)) (by with_unfolding_all (exact int_one _ _)) ?_)
  intro w4 hu4 B6
  rw [splice_all _ _ (by rfl)] at B6
  have hB4 := hB3.upd hu4 n6.symm
  have ho4 := ho.add (Only.of_upd (L := [g6, gw]) hu4 (by simp)) hl6
  go_wp2
  exact bodyPost_ret (results_cell_row rfl _ _ g6 _ _ _ _ rfl B6 Tryd.underlying23 rfl Tryd.szQ) rfl ⟨rfl, hB4, ho4⟩
set_option maxRecDepth 100000 in
set_option maxHeartbeats 1600000 in
theorem keep_bad (gw : Nat) (L : Value) (N D : Int) (w : World) (hB : Blk w gw 75 [L, .int .i64 0]) :
    Calls Tryd.prog 80 #[.pointer (some ⟨gw, 0, none⟩), .agg [Value.int .i64 N, Value.int .i64 D].toArray, .int .i64 17] w fun e w' => e = .returned (.agg [Value.int .i64 0, Value.int .i64 1].toArray) ∧ Blk w' gw 75 [L, .int .i64 17] ∧ Only [gw] w w' := by
  have hgw := hB.lt
  go_enter Tryd.func80, Tryd.ntmps80
  go_wp2_with (with_reducible refine wpList_box (o := ⟨some 4, .box 23 (.tmp 1), _, _, _, _⟩) ?g4 23 (.tmp 1) ?o4 (.agg [Value.int .i64 N, Value.int .i64 D].toArray) [Value.int .i64 N, Value.int .i64 D] ?x4 ?c4 ?_)
  try (case g4 => rfl)
  try (case o4 => rfl)
  try (case x4 => rfl)
  try (case c4 => rfl)
  intro g4 w1 hg4 hs1 hb1 B4
  have hb1 := hb1.mono (Nat.le_of_eq hg4.out.symm)
  have n4 : g4 ≠ gw := by have := hg4.out; omega
  have hB := hB.next hb1 hgw
  have hl4 : w.heap.size ≤ g4 := Nat.le_of_eq hg4.out.symm
  clear hg4 hs1
  go_wp2_with (with_reducible refine wpList_alloc (o := ⟨some 6, .alloc 23, _, _, _, _⟩) (by with_unfolding_all rfl) 23 (by with_unfolding_all rfl) (.agg zC.toArray) zC (by exact Tryd.zeroQ) (by with_unfolding_all rfl) ?_)
  intro g6 w2 hg6 hs2 hb2 B6
  have hl6 : w.heap.size ≤ g6 := Nat.le_trans hb1.size (Nat.le_of_eq hg6.out.symm)
  have n46 : g4 ≠ g6 := by have := B4.lt; have := hg6.out; omega
  have n6 : g6 ≠ gw := by omega
  have hb2 := hb2.mono (Nat.le_of_eq hg6.out.symm)
  have B4 := B4.next hb2 B4.lt
  have hB := hB.next hb2 hB.lt
  have hbe := below_join hb1 hb2
  have ho : Only [gw] w w2 := Only.of_below hbe
  clear hb1 hb2 hbe hg6 hs2
  have c1 := hB.cell (k := 1) rfl
  go_wp2_with (with_reducible refine wpList_put (o := ⟨none, .store 24 (.tmp 15) (.tmp 13), _, _, _, _⟩) (by with_unfolding_all rfl) 24 (.tmp 15) (.tmp 13) (by with_unfolding_all rfl) gw 1 (by with_unfolding_all rfl) (.int .i64 17) (by with_unfolding_all rfl) hB [Value.int .i64 17] (by with_unfolding_all rfl) (by with_unfolding_all (exact Tryd.szE)) (by with_unfolding_all (exact Nat.le_refl 2)) (by with_unfolding_all (exact one_cell1 rfl)) ?_)
  intro w3 hu3 hB3
  have hB3 : Blk w3 gw 75 [L, .int .i64 17] := hB3
  have B4 := B4.upd hu3 n4
  have B6 := B6.upd hu3 n6
  have ho := ho.trans (Only.of_upd hu3 (List.mem_singleton.2 rfl))
  clear hu3 hB c1
  go_wp2_with (first | (with_reducible refine wpList_build (o := ⟨some 18, .build 23 #[(1, .const (.int .i64 1))], _, _, _, _⟩) (by with_unfolding_all rfl) 23 #[(1, .const (.int .i64 1))] (by with_unfolding_all rfl) #[(1, .int .i64 1)] (by with_unfolding_all rfl) (.agg [Value.int .i64 0, Value.int .i64 1].toArray) (by with_unfolding_all exact fun w => run_buildQ1 w) ?_) | (with_reducible refine wpList_put (o := ⟨none, .store 23 (.tmp 6) (.tmp 18), _, _, _, _⟩) (by with_unfolding_all rfl) 23 (.tmp 6) (.tmp 18) (by with_unfolding_all rfl) g6 0 (by with_unfolding_all rfl) (.agg [Value.int .i64 0, Value.int .i64 1].toArray) (by with_unfolding_all rfl) B6 [Value.int .i64 0, Value.int .i64 1] (by with_unfolding_all rfl) (by with_unfolding_all (exact Tryd.szQ)) (by with_unfolding_all (exact Nat.le_refl 2)) (by with_unfolding_all (exact int_one _ _)) ?_))
  intro w4 hu4 B6
  rw [splice_all _ _ (by rfl)] at B6
  have hB4 := hB3.upd hu4 n6.symm
  have ho4 := ho.add (Only.of_upd (L := [g6, gw]) hu4 (by simp)) hl6
  go_wp2
  exact bodyPost_ret (results_cell_row rfl _ _ g6 _ _ _ _ rfl B6 Tryd.underlying23 rfl Tryd.szQ) rfl ⟨rfl, hB4, ho4⟩
end Go.Proofs.YthjaelopmfjfeaaDoor
