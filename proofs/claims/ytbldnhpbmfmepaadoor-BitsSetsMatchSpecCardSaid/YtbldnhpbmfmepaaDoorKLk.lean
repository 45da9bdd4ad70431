/-
  Rows of one and of three patterns; what SameSet says of one pattern each. Conditions: right patterns.
-/
import Derived.Test.YtbldnhpbmfmepaaDoorGZ
import Derived.Test.YtbldnhpbmfmepaaDoorKMb2
namespace Go.Proofs.YtbldnhpbmfmepaaDoor
set_option linter.unusedVariables false
set_option linter.unusedSimpArgs false
open Go.RowKit

theorem wpList_slice1 {ops : Array Oper} {rest : List Oper} {o : Oper} {a : Act} {W : World} {Q : Exit → Act → World → Prop} (hw : Region.wanted o (yielded ops a.tmps) = true) (x : Operand) (ho : o.op = .buildSlice 31 1 #[(0, x)])
    (p : Pat) (hx : a.eval x = .agg p.cells.toArray)
    (h : ∀ g w', Hid (g = W.heap.size) → Below W.heap.size W w' → g < w'.heap.size → PatsAt w' (some ⟨g, 0, none⟩) [p] → wpList Tryd.prog ops Q rest (a.put o.dst (.slice (some ⟨g, 0, none⟩) 1 1)) w') : wpList Tryd.prog ops Q (o :: rest) a W := by
  refine BigFrame.wpList_want hw fun _ hK => ?_
  have hrun := run_slicePat W p.cells (Pat.cells_length p)
  unfold Oper.wp execOp
  simp only [ho, List.map_toArray, List.map_cons, List.map_nil, hx, Sem.run_bind, Sem.run_pure, Result.andThen_ok, hrun]
  have e : W.alloc (.cells p.cells.toArray 25) = W.alloc (.cells (patCells [p]).toArray 25) := by
    rw [show patCells [p] = p.cells from List.append_nil _]
  rw [e]
  exact hK _ _ (h _ _ rfl (below_new W _) (by simp) (new_pats W _))
theorem run_rslice3 (W : World) (r s t : List Int × List Int) (hr : r.1.length = 10 ∧ r.2.length = 10) (hs : s.1.length = 10 ∧ s.2.length = 10) (ht : t.1.length = 10 ∧ t.2.length = 10) : (Instr.buildSlice 31 3 #[(0, .agg (rawCells r).toArray), (1, .agg (rawCells s).toArray), (2, .agg (rawCells t).toArray)]).run Tryd.prog W = .ok (.slice (some ⟨W.heap.size, 0, none⟩) 3 3) (W.alloc (.cells (rawRow [r, s, t]).toArray 25)) := by
  obtain ⟨r1, r2⟩ := r
  obtain ⟨s1, s2⟩ := s
  obtain ⟨t1, t2⟩ := t
  obtain ⟨a0, a1, a2, a3, a4, a5, a6, a7, a8, a9, e⟩ := list10 hr.1
  obtain ⟨b0, b1, b2, b3, b4, b5, b6, b7, b8, b9, e2⟩ := list10 hr.2
  obtain ⟨c0, c1, c2, c3, c4, c5, c6, c7, c8, c9, e3⟩ := list10 hs.1
  obtain ⟨d0, d1, d2, d3, d4, d5, d6, d7, d8, d9, e4⟩ := list10 hs.2
  obtain ⟨f0, f1, f2, f3, f4, f5, f6, f7, f8, f9, e5⟩ := list10 ht.1
  obtain ⟨g0, g1, g2, g3, g4, g5, g6, g7, g8, g9, e6⟩ := list10 ht.2
  subst e e2 e3 e4 e5 e6
  kernel_rfl
theorem wpList_rslice3 {ops : Array Oper} {rest : List Oper} {o : Oper} {a : Act} {W : World} {Q : Exit → Act → World → Prop} (hw : Region.wanted o (yielded ops a.tmps) = true) (x y z : Operand) (ho : o.op = .buildSlice 31 3 #[(0, x), (1, y), (2, z)])
    (r s t : List Int × List Int) (hr : r.1.length = 10 ∧ r.2.length = 10) (hs : s.1.length = 10 ∧ s.2.length = 10) (ht : t.1.length = 10 ∧ t.2.length = 10) (hx : a.eval x = .agg (rawCells r).toArray) (hy : a.eval y = .agg (rawCells s).toArray) (hz : a.eval z = .agg (rawCells t).toArray)
    (h : ∀ g w', Hid (g = W.heap.size) → Below W.heap.size W w' → g < w'.heap.size → RawAt w' (some ⟨g, 0, none⟩) [r, s, t] → wpList Tryd.prog ops Q rest (a.put o.dst (.slice (some ⟨g, 0, none⟩) 3 3)) w') : wpList Tryd.prog ops Q (o :: rest) a W := by
  refine BigFrame.wpList_want hw fun _ hK => ?_
  have hrun := run_rslice3 W r s t hr hs ht
  unfold Oper.wp execOp
  simp only [ho, List.map_toArray, List.map_cons, List.map_nil, hx, hy, hz, Sem.run_bind, Sem.run_pure, Result.andThen_ok, hrun]
  exact hK _ _ (h _ _ rfl (below_new W _) (by simp) (new_raws W _ fun x hx => by
    simp only [List.mem_cons, List.mem_nil_iff, or_false] at hx
    rcases hx with rfl | rfl | rfl
    · exact hr
    · exact hs
    · exact ht))
theorem rrightAll_r3 (g c : Nat) (r s t : List Int × List Int) (w : World) (hr : r.1.length = 10 ∧ r.2.length = 10) (hs : s.1.length = 10 ∧ s.2.length = 10) (ht : t.1.length = 10 ∧ t.2.length = 10) {D : Bool} (hD : (pairI r.1 r.2 && pairI s.1 s.2 && pairI t.1 t.2) = D) (hS : RawAt w (some ⟨g, 0, none⟩) [r, s, t]) :
    Calls Tryd.prog 20 #[.slice (some ⟨g, 0, none⟩) 3 c] w fun e w' => e = .returned (.bool D) ∧ Below w.heap.size w w' := by
  have h := rrightAll_any (some ⟨g, 0, none⟩) c [r, s, t] w (by show 3 ≤ _; decide) (fun x hx => by
    simp only [List.mem_cons, List.mem_nil_iff, or_false] at hx
    rcases hx with rfl | rfl | rfl
    · exact hr
    · exact hs
    · exact ht) hS
  rw [show (([r, s, t] : List (List Int × List Int)).all fun r => pairI r.1 r.2) = D by rw [← hD]; simp [Bool.and_assoc]] at h
  exact h
theorem hit_alike {p q : Pat} (hp : p.ok) (hq : q.ok) (h : ∀ g, p.hit g ↔ q.hit g) : p.alike q := by
  have key : ∀ {p q : Pat}, (∀ g, p.hit g ↔ q.hit g) → ∀ i, i < 160 → p.m i = true → q.m i = true ∧ q.b i = p.b i := fun {p q} h i hi hm => by
    have h0 : q.hit p.b := (h p.b).1 fun j _ _ => rfl
    cases hq : q.m i
    · have h1 : q.hit (upd p.b i (!p.b i)) := fun j hj hmj => by
        have e : j ≠ i := fun e => by rw [e, hq] at hmj; cases hmj
        show q.b j = upd p.b i (!p.b i) j
        unfold upd
        rw [if_neg e]
        exact h0 j hj hmj
      have h2 := (h _).2 h1 i hi hm
      unfold upd at h2
      rw [if_pos rfl] at h2
      cases hb : p.b i
      · rw [hb] at h2; cases h2
      · rw [hb] at h2; cases h2
    · exact ⟨rfl, h0 i hi hq⟩
  have h' : ∀ g, q.hit g ↔ p.hit g := fun g => (h g).symm
  refine ⟨fun i hi => ?_, fun i hi => ?_⟩
  · cases hm : p.m i
    · cases hq2 : q.m i
      · rfl
      · have := (key h' i hi hq2).1
        rw [hm] at this; cases this
    · exact (key h i hi hm).1.symm
  · cases hm : p.m i
    · have e1 : p.b i = false := by
        cases hb : p.b i
        · rfl
        · rw [hp i hi hb] at hm; cases hm
      have e2 : q.b i = false := by
        cases hb : q.b i
        · rfl
        · have := (key h' i hi (hq i hi hb)).1
          rw [hm] at this; cases this
      rw [e1, e2]
    · exact ((key h i hi hm).2).symm
theorem inSome_one {p : Pat} {g : Nat → Bool} : Pat.inSome [p] g ↔ p.hit g := by
  constructor
  · rintro ⟨q, hq, hh⟩
    rw [List.mem_singleton] at hq
    rw [hq] at hh; exact hh
  · exact fun h => ⟨p, by simp, h⟩
theorem same_one (g1 g2 c1 c2 : Nat) (p q : Pat) {E : Bool} (hE : p.same q = E) (w : World) (hp : p.ok) (hq : q.ok) (h1 : g1 < w.heap.size) (h2 : g2 < w.heap.size) (ha : PatsAt w (some ⟨g1, 0, none⟩) [p]) (hb : PatsAt w (some ⟨g2, 0, none⟩) [q]) :
    Calls Tryd.prog 62 #[.slice (some ⟨g1, 0, none⟩) 1 c1, .slice (some ⟨g2, 0, none⟩) 1 c2] w fun e w' => ∃ f : Nat → Bool, e = .returned (.tuple #[.agg (H f).toArray, .bool E]) ∧ Below w.heap.size w w' := by
  have one : ∀ {x : Pat}, x.ok → ∀ y, y ∈ [x] → y.ok := fun hx y hy => by rw [List.mem_singleton] at hy; rw [hy]; exact hx
  refine (sameSet_any c1 c2 _ _ [p] [q] w (one hp) (one hq) (by show 1 ≤ _; decide) (by show 1 ≤ _; decide) ha hb (fun g o e => by injection e with e; injection e with e _; omega) (fun g o e => by injection e with e; injection e with e _; omega)).mono ?_
  rintro e w' ⟨R, rfl, hr, hb⟩
  rcases hr with ⟨rfl, hno⟩ | ⟨m, rfl, hod, _⟩
  · refine ⟨no, ?_, hb⟩
    have hal : p.alike q := hit_alike hp hq fun g => by
      have := hno g
      unfold odd2 at this
      rw [inSome_one, inSome_one] at this
      constructor
      · exact fun h => Classical.byContradiction fun hn => this (.inl ⟨h, hn⟩)
      · exact fun h => Classical.byContradiction fun hn => this (.inr ⟨h, hn⟩)
    rw [← hE, Pat.same_iff.2 hal]; rfl
  · refine ⟨m, ?_, hb⟩
    have hna : p.same q = false := by
      rw [Bool.eq_false_iff]
      intro hs
      have hc := Pat.cells_congr (Pat.same_iff.1 hs)
      have hh := Pat.hit_congr hc (g := m)
      unfold odd2 at hod
      rw [inSome_one, inSome_one, hh] at hod
      rcases hod with h | h
      · exact h.2 h.1
      · exact h.2 h.1
    rw [← hE, hna]; rfl
theorem same_own (g1 g2 c1 c2 : Nat) (q a : Pat) (w : World) (hq : q.ok) (ha : a.ok) (h1 : g1 < w.heap.size) (h2 : g2 < w.heap.size) (hp1 : PatsAt w (some ⟨g1, 0, none⟩) [q, a]) (hp2 : PatsAt w (some ⟨g2, 0, none⟩) [q]) :
    Calls Tryd.prog 62 #[.slice (some ⟨g1, 0, none⟩) 2 c1, .slice (some ⟨g2, 0, none⟩) 1 c2] w fun e w' => ∃ (f : Nat → Bool) (b : Bool), e = .returned (.tuple #[.agg (H f).toArray, .bool b]) ∧ ((∀ g, a.hit g → q.hit g) → b = true) ∧ Below w.heap.size w w' := by
  refine (sameSet_any c1 c2 _ _ [q, a] [q] w (fun y hy => by
    simp only [List.mem_cons, List.mem_nil_iff, or_false] at hy
    rcases hy with rfl | rfl
    · exact hq
    · exact ha) (fun y hy => by rw [List.mem_singleton] at hy; rw [hy]; exact hq) (by show 2 ≤ _; decide) (by show 1 ≤ _; decide) hp1 hp2 (fun g o e => by injection e with e; injection e with e _; omega) (fun g o e => by injection e with e; injection e with e _; omega)).mono ?_
  rintro e w' ⟨R, rfl, hr, hb⟩
  rcases hr with ⟨rfl, hno⟩ | ⟨m, rfl, hod, _⟩
  · exact ⟨no, true, rfl, fun _ => rfl, hb⟩
  · refine ⟨m, false, rfl, fun hs => ?_, hb⟩
    exfalso
    have e : Pat.inSome [q, a] m ↔ q.hit m := by
      constructor
      · rintro ⟨y, hy, hh⟩
        simp only [List.mem_cons, List.mem_nil_iff, or_false] at hy
        rcases hy with rfl | rfl
        · exact hh
        · exact hs m hh
      · exact fun h => ⟨q, by simp, h⟩
    unfold odd2 at hod
    rw [inSome_one, e] at hod
    rcases hod with h | h
    · exact h.2 h.1
    · exact h.2 h.1
end Go.Proofs.YtbldnhpbmfmepaaDoor
