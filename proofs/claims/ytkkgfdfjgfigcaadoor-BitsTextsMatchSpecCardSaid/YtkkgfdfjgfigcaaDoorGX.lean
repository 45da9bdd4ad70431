/-
  Contracts of the functions that the statement calls, part 24 of 25 (merged texts: Na, Nb, Nc). Conditions: as the head of each part says.
-/
import Derived.Test.YtkkgfdfjgfigcaaDoorGV
import Derived.Test.YtkkgfdfjgfigcaaDoorGJ
import Derived.Test.YtkkgfdfjgfigcaaDoorGG
import Derived.Test.YtkkgfdfjgfigcaaDoorGR
import Derived.Test.YtkkgfdfjgfigcaaDoorGO
import Derived.Test.YtkkgfdfjgfigcaaDoorGD

/-
  Rows of two and of four patterns; a row that belongs to nobody else holds its patterns; what the statements' examples give. Conditions: none.
-/
namespace Go.Proofs.YtkkgfdfjgfigcaaDoor
set_option linter.unusedVariables false
set_option linter.unusedSimpArgs false
open Go.RowKit

theorem own_pats {w : World} {base : Nat} {l : List Pat} {A : Option Addr} {c : Nat} (h : w.ownsRow base 25 20 (.slice A l.length c) l.length (patCells l)) : PatsAt w A l := fun k p hp => by
  have hk : k < l.length := (List.getElem?_eq_some_iff.1 hp).1
  obtain ⟨A', c', hv, hsh⟩ := own_shape h
  injection hv with hA _ _
  subst hA
  rcases hsh with ⟨_, _, h0⟩ | ⟨g, rfl, _, _⟩
  · omega
  · refine ⟨g, 0, rfl, fun q u hu => ?_⟩
    have hq : q < 20 := by have := (List.getElem?_eq_some_iff.1 hu).1; rw [Pat.cells_length] at this; exact this
    have h1 : (patCells l)[k * 20 + q]? = some u := by
      have key : ∀ (l : List Pat) (k : Nat), l[k]? = some p → (patCells l)[k * 20 + q]? = some u := by
        intro l
        induction l with
        | nil => intro k hk; cases hk
        | cons a l ih =>
          intro k hk
          show (a.cells ++ patCells l)[k * 20 + q]? = _
          cases k with
          | zero =>
            have e : a = p := by simpa using hk
            rw [e, List.getElem?_append_left (by rw [Pat.cells_length]; omega)]
            simpa using hu
          | succ k =>
            rw [List.getElem?_append_right (by rw [Pat.cells_length]; omega), Pat.cells_length, show (k + 1) * 20 + q - 20 = k * 20 + q by omega]
            exact ih k (by simpa using hk)
      exact key l k hp
    have h2 := h.cells (g := g) rfl (k * 20 + q) u h1
    rw [addr_mid, ← Nat.add_assoc] at h2
    exact h2
theorem run_slice2 (W : World) (p q : Pat) : (Instr.buildSlice 82 2 #[(0, .agg p.cells.toArray), (1, .agg q.cells.toArray)]).run Tryd.prog W = .ok (.slice (some ⟨W.heap.size, 0, none⟩) 2 2) (W.alloc (.cells (patCells [p, q]).toArray 25)) := by
  show (Instr.buildSlice 82 2 #[(0, .agg (H p.m ++ H p.b).toArray), (1, .agg (H q.m ++ H q.b).toArray)]).run Tryd.prog W = .ok (.slice (some ⟨W.heap.size, 0, none⟩) 2 2) (W.alloc (.cells ((H p.m ++ H p.b) ++ ((H q.m ++ H q.b) ++ [])).toArray 25))
  obtain ⟨a0, a1, a2, a3, a4, a5, a6, a7, a8, a9, e⟩ := list10 (H_length p.m)
  rw [e]
  obtain ⟨b0, b1, b2, b3, b4, b5, b6, b7, b8, b9, e⟩ := list10 (H_length p.b)
  rw [e]
  obtain ⟨c0, c1, c2, c3, c4, c5, c6, c7, c8, c9, e⟩ := list10 (H_length q.m)
  rw [e]
  obtain ⟨d0, d1, d2, d3, d4, d5, d6, d7, d8, d9, e⟩ := list10 (H_length q.b)
  rw [e]
  kernel_rfl
theorem run_slice4 (W : World) (p q r s : Pat) : (Instr.buildSlice 82 4 #[(0, .agg p.cells.toArray), (1, .agg q.cells.toArray), (2, .agg r.cells.toArray), (3, .agg s.cells.toArray)]).run Tryd.prog W = .ok (.slice (some ⟨W.heap.size, 0, none⟩) 4 4) (W.alloc (.cells (patCells [p, q, r, s]).toArray 25)) := by
  show (Instr.buildSlice 82 4 #[(0, .agg (H p.m ++ H p.b).toArray), (1, .agg (H q.m ++ H q.b).toArray), (2, .agg (H r.m ++ H r.b).toArray), (3, .agg (H s.m ++ H s.b).toArray)]).run Tryd.prog W = .ok (.slice (some ⟨W.heap.size, 0, none⟩) 4 4) (W.alloc (.cells ((H p.m ++ H p.b) ++ ((H q.m ++ H q.b) ++ ((H r.m ++ H r.b) ++ ((H s.m ++ H s.b) ++ [])))).toArray 25))
  obtain ⟨a0, a1, a2, a3, a4, a5, a6, a7, a8, a9, e⟩ := list10 (H_length p.m)
  rw [e]
  obtain ⟨b0, b1, b2, b3, b4, b5, b6, b7, b8, b9, e⟩ := list10 (H_length p.b)
  rw [e]
  obtain ⟨c0, c1, c2, c3, c4, c5, c6, c7, c8, c9, e⟩ := list10 (H_length q.m)
  rw [e]
  obtain ⟨d0, d1, d2, d3, d4, d5, d6, d7, d8, d9, e⟩ := list10 (H_length q.b)
  rw [e]
  obtain ⟨e0, e1, e2, e3, e4, e5, e6, e7, e8, e9, e⟩ := list10 (H_length r.m)
  rw [e]
  obtain ⟨f0, f1, f2, f3, f4, f5, f6, f7, f8, f9, e⟩ := list10 (H_length r.b)
  rw [e]
  obtain ⟨g0, g1, g2, g3, g4, g5, g6, g7, g8, g9, e⟩ := list10 (H_length s.m)
  rw [e]
  obtain ⟨h0, h1, h2, h3, h4, h5, h6, h7, h8, h9, e⟩ := list10 (H_length s.b)
  rw [e]
  kernel_rfl
theorem new_pats (W : World) (l : List Pat) : PatsAt (W.alloc (.cells (patCells l).toArray 25)) (some ⟨W.heap.size, 0, none⟩) l := by
  have hb := blk_new W 25 (patCells l)
  intro k p hp
  have hk : k < l.length := (List.getElem?_eq_some_iff.1 hp).1
  refine ⟨_, 0, rfl, fun q u hu => ?_⟩
  have hq : q < 20 := by have := (List.getElem?_eq_some_iff.1 hu).1; rw [Pat.cells_length] at this; exact this
  have key : ∀ (l : List Pat) (k : Nat), l[k]? = some p → (patCells l)[k * 20 + q]? = some u := by
    intro l
    induction l with
    | nil => intro k hk; cases hk
    | cons a l ih =>
      intro k hk
      show (a.cells ++ patCells l)[k * 20 + q]? = _
      cases k with
      | zero =>
        have e : a = p := by simpa using hk
        rw [e, List.getElem?_append_left (by rw [Pat.cells_length]; omega)]
        simpa using hu
      | succ k =>
        rw [List.getElem?_append_right (by rw [Pat.cells_length]; omega), Pat.cells_length, show (k + 1) * 20 + q - 20 = k * 20 + q by omega]
        exact ih k (by simpa using hk)
  rw [Nat.zero_add]
  exact hb.cell (key l k hp)
theorem wp_slice2 {o : Oper} {a : Act} {W : World} {K : Act → World → Prop} {Q : Exit → Act → World → Prop} (x y : Operand) (ho : o.op = .buildSlice 82 2 #[(0, x), (1, y)])
    (p q : Pat) (hx : a.eval x = .agg p.cells.toArray) (hy : a.eval y = .agg q.cells.toArray)
    (h : ∀ g w', Hid (g = W.heap.size) → Below W.heap.size W w' → g < w'.heap.size → PatsAt w' (some ⟨g, 0, none⟩) [p, q] → K (a.put o.dst (.slice (some ⟨g, 0, none⟩) 2 2)) w') : Oper.wp Tryd.prog o a W K Q := by
  have hrun := run_slice2 W p q
  unfold Oper.wp execOp
  simp only [ho, List.map_toArray, List.map_cons, List.map_nil, hx, hy, Sem.run_bind, Sem.run_pure, Result.andThen_ok, hrun]
  exact h _ _ rfl (below_new W _) (by simp) (new_pats W _)
theorem wpList_slice2 {ops : Array Oper} {rest : List Oper} {o : Oper} {a : Act} {W : World} {Q : Exit → Act → World → Prop} (hw : Region.wanted o (yielded ops a.tmps) = true) (x y : Operand) (ho : o.op = .buildSlice 82 2 #[(0, x), (1, y)])
    (p q : Pat) (hx : a.eval x = .agg p.cells.toArray) (hy : a.eval y = .agg q.cells.toArray)
    (h : ∀ g w', Hid (g = W.heap.size) → Below W.heap.size W w' → g < w'.heap.size → PatsAt w' (some ⟨g, 0, none⟩) [p, q] → wpList Tryd.prog ops Q rest (a.put o.dst (.slice (some ⟨g, 0, none⟩) 2 2)) w') : wpList Tryd.prog ops Q (o :: rest) a W :=
  BigFrame.wpList_want hw fun _ hK => wp_slice2 x y ho p q hx hy fun g w' h1 h2 h3 h4 => hK _ _ (h g w' h1 h2 h3 h4)
theorem wpList_slice4 {ops : Array Oper} {rest : List Oper} {o : Oper} {a : Act} {W : World} {Q : Exit → Act → World → Prop} (hw : Region.wanted o (yielded ops a.tmps) = true) (x y z u : Operand) (ho : o.op = .buildSlice 82 4 #[(0, x), (1, y), (2, z), (3, u)])
    (p q r s : Pat) (hx : a.eval x = .agg p.cells.toArray) (hy : a.eval y = .agg q.cells.toArray) (hz : a.eval z = .agg r.cells.toArray) (hu : a.eval u = .agg s.cells.toArray)
    (h : ∀ g w', Hid (g = W.heap.size) → Below W.heap.size W w' → g < w'.heap.size → PatsAt w' (some ⟨g, 0, none⟩) [p, q, r, s] → wpList Tryd.prog ops Q rest (a.put o.dst (.slice (some ⟨g, 0, none⟩) 4 4)) w') : wpList Tryd.prog ops Q (o :: rest) a W := by
  refine BigFrame.wpList_want hw fun _ hK => ?_
  have hrun := run_slice4 W p q r s
  unfold Oper.wp execOp
  simp only [ho, List.map_toArray, List.map_cons, List.map_nil, hx, hy, hz, hu, Sem.run_bind, Sem.run_pure, Result.andThen_ok, hrun]
  exact hK _ _ (h _ _ rfl (below_new W _) (by simp) (new_pats W _))
theorem wpList_buildw {P : Program} {ops : Array Oper} {rest : List Oper} {o : Oper} {a : Act} {w : World} {Q : Exit → Act → World → Prop} (hw : Region.wanted o (yielded ops a.tmps) = true) (ty : TypeId) (ps : Array (Nat × Operand)) (ho : o.op = .build ty ps)
    (vs : Array (Nat × Value)) (hx : (ps.map fun p => (p.1, a.eval p.2)) = vs) (v : Value) (hr : ∀ w : World, (Instr.build ty vs).run P w = .ok v w) (h : wpList P ops Q rest (a.put o.dst v) w) : wpList P ops Q (o :: rest) a w := by
  refine BigFrame.wpList_want hw fun K hK => ?_
  unfold Oper.wp execOp
  simp only [ho]
  rw [show (ps.map fun x => (x.1, a.eval x.2)) = vs from hx]
  simp [hr]
  exact hK _ _ h
theorem patCells_raw (l : List Pat) : patCells l = (l.map Pat.raw).flatMap fun r => r.1.map iV ++ r.2.map iV := by
  unfold patCells
  rw [List.flatMap_map]
  congr 1
theorem raw_len {l r : List Pat} (h : l.map Pat.raw = r.map Pat.raw) : l.length = r.length := by
  have := congrArg List.length h
  simpa using this
theorem cells_raw {p q : Pat} (h : p.raw = q.raw) : p.cells = q.cells := by
  rw [← rawCells_pat p, ← rawCells_pat q]
  exact congrArg rawCells h
theorem sane_then : ((Pat.first 32768 32768).then (Pat.first 49152 16384)).raw = (Pat.first 49152 16384).raw := by decide +kernel
theorem sane_back : ¬ (Pat.first 49152 16384).over (Pat.first 32768 32768) := by decide +kernel
theorem sane_right : pairI [0, 0, 0, 0, 0, 0, 0, 0, 0, 65535] [0, 0, 0, 0, 0, 0, 0, 0, 0, 7] = true := by decide +kernel
theorem sane_match : tagP.fits tagP.b := by unfold Pat.fits; decide +kernel
theorem sane_zero : (Pat.first 0 0).raw = Pat.zero.raw := by decide +kernel
end Go.Proofs.YtkkgfdfjgfigcaaDoor

/-
  Contract of the walk over the statements' own sanity: it returns true. Conditions: the library's variable lies there.
-/
namespace Go.Proofs.YtkkgfdfjgfigcaaDoor
set_option linter.unusedVariables false
set_option linter.unusedSimpArgs false
open Go.RowKit

/-- What the examples' calls answer. -/
structure SaneF (A B C Z D E F G R1 R4 T : Pat) (L32 L49 L16 L7 Hd Y : List Value) : Prop where
  fA : ∀ w, Calls Tryd.prog 78 #[.int .i64 32768, .int .i64 0] w fun e w' => e = .returned (.agg A.cells.toArray) ∧ Below w.heap.size w w'
  fB : ∀ w, Calls Tryd.prog 78 #[.int .i64 16384, .int .i64 16384] w fun e w' => e = .returned (.agg B.cells.toArray) ∧ Below w.heap.size w w'
  fC : ∀ w, Calls Tryd.prog 78 #[.int .i64 32768, .int .i64 32768] w fun e w' => e = .returned (.agg C.cells.toArray) ∧ Below w.heap.size w w'
  fZ : ∀ w, Calls Tryd.prog 78 #[.int .i64 0, .int .i64 0] w fun e w' => e = .returned (.agg Z.cells.toArray) ∧ Below w.heap.size w w'
  fD : ∀ w, Calls Tryd.prog 78 #[.int .i64 49152, .int .i64 16384] w fun e w' => e = .returned (.agg D.cells.toArray) ∧ Below w.heap.size w w'
  fE : ∀ w, Calls Tryd.prog 78 #[.int .i64 49152, .int .i64 0] w fun e w' => e = .returned (.agg E.cells.toArray) ∧ Below w.heap.size w w'
  fF : ∀ w, Calls Tryd.prog 78 #[.int .i64 49152, .int .i64 49152] w fun e w' => e = .returned (.agg F.cells.toArray) ∧ Below w.heap.size w w'
  fG : ∀ w, Calls Tryd.prog 78 #[.int .i64 49152, .int .i64 32768] w fun e w' => e = .returned (.agg G.cells.toArray) ∧ Below w.heap.size w w'
  fR1 : ∀ w, Calls Tryd.prog 78 #[.int .i64 57344, .int .i64 8192] w fun e w' => e = .returned (.agg R1.cells.toArray) ∧ Below w.heap.size w w'
  fR4 : ∀ w, Calls Tryd.prog 78 #[.int .i64 57344, .int .i64 49152] w fun e w' => e = .returned (.agg R4.cells.toArray) ∧ Below w.heap.size w w'
  and1 : ∀ w, Calls Tryd.prog 77 #[.agg A.cells.toArray, .agg B.cells.toArray] w fun e w' => e = .returned (.tuple #[.agg D.cells.toArray, .bool true]) ∧ Below w.heap.size w w'
  and2 : ∀ w, Calls Tryd.prog 77 #[.agg A.cells.toArray, .agg C.cells.toArray] w fun e w' => e = .returned (.tuple #[.agg Z.cells.toArray, .bool false]) ∧ Below w.heap.size w w'
  minus : ∀ w, Calls Tryd.prog 79 #[.agg Z.cells.toArray, .agg D.cells.toArray] w fun e w' => ∃ A' c, e = .returned (.slice A' 2 c) ∧ PatsAt w' A' [C, E] ∧ Below w.heap.size w w'
  join1 : ∀ w, Calls Tryd.prog 80 #[.agg E.cells.toArray, .agg D.cells.toArray] w fun e w' => e = .returned (.tuple #[.agg A.cells.toArray, .bool true]) ∧ Below w.heap.size w w'
  join2 : ∀ w, Calls Tryd.prog 80 #[.agg E.cells.toArray, .agg F.cells.toArray] w fun e w' => e = .returned (.tuple #[.agg Z.cells.toArray, .bool false]) ∧ Below w.heap.size w w'
  outs : ∀ (w : World) (g cl : Nat), g < w.heap.size → PatsAt w (some ⟨g, 0, none⟩) [A, G] → Calls Tryd.prog 81 #[.agg Z.cells.toArray, .slice (some ⟨g, 0, none⟩) 2 cl] w fun e w' => e = .returned (.tuple #[.agg Hd.toArray, .bool true]) ∧ Below w.heap.size w w'
  rng : ∀ w, Calls Tryd.prog 82 #[.int .i64 0, .int .i64 3, .int .i64 1, .int .i64 6] w fun e w' => ∃ A' c, e = .returned (.tuple #[.slice A' 4 c, .int .i64 0]) ∧ PatsAt w' A' [R1, D, G, R4] ∧ Below w.heap.size w w'
  then1 : ∀ w, Calls Tryd.prog 83 #[.agg C.cells.toArray, .agg D.cells.toArray] w fun e w' => e = .returned (.agg D.cells.toArray) ∧ Below w.heap.size w w'
  back1 : ∀ w, Calls Tryd.prog 84 #[.agg D.cells.toArray, .agg C.cells.toArray] w fun e w' => e = .returned (.tuple #[.agg Z.cells.toArray, .bool false]) ∧ Below w.heap.size w w'
  parse : ∀ w, GOk w → Calls Tryd.prog 16 #[.string { data := #[42, 32, 42, 32, 42, 32, 42, 32, 42, 32, 42, 32, 42, 32, 42, 32, 42, 32, 48, 48, 48, 55] }] w fun e w' => e = .returned (.tuple #[.agg T.cells.toArray, .int .i64 0]) ∧ Below w.heap.size w w'
  same2 : ∀ (w : World) (A' B' : Option Addr) (c d : Nat), PatsAt w A' [C, E] → PatsAt w B' [C, E] → Calls Tryd.prog 85 #[.slice A' 2 c, .slice B' 2 d] w fun e w' => e = .returned (.bool true) ∧ Below w.heap.size w w'
  same4 : ∀ (w : World) (A' B' : Option Addr) (c d : Nat), PatsAt w A' [R1, D, G, R4] → PatsAt w B' [R1, D, G, R4] → Calls Tryd.prog 85 #[.slice A' 4 c, .slice B' 4 d] w fun e w' => e = .returned (.bool true) ∧ Below w.heap.size w w'
  text : ∀ w, Calls Tryd.prog 18 #[.agg T.cells.toArray] w fun e w' => e = .returned (.string { data := #[42, 32, 42, 32, 42, 32, 42, 32, 42, 32, 42, 32, 42, 32, 42, 32, 42, 32, 48, 48, 48, 55] }) ∧ Below w.heap.size w w'
  right : ∀ w, Calls Tryd.prog 86 #[.agg T.cells.toArray] w fun e w' => e = .returned (.bool true) ∧ Below w.heap.size w w'
  fits : ∀ w, Calls Tryd.prog 87 #[.agg T.cells.toArray, .agg L7.toArray] w fun e w' => e = .returned (.bool true) ∧ Below w.heap.size w w'
  b32 : ∀ w, (Instr.build 23 #[(0, .int .i64 32768)]).run Tryd.prog w = .ok (.agg L32.toArray) w
  b49 : ∀ w, (Instr.build 23 #[(0, .int .i64 49152)]).run Tryd.prog w = .ok (.agg L49.toArray) w
  b16 : ∀ w, (Instr.build 23 #[(0, .int .i64 16384)]).run Tryd.prog w = .ok (.agg L16.toArray) w
  b7 : ∀ w, (Instr.build 23 #[(9, .int .i64 7)]).run Tryd.prog w = .ok (.agg L7.toArray) w
  hd : L49 = Hd
  hl : Hd.length = 10 ∧ (∀ u ∈ Hd, u.oneCell' = true) ∧ (Tryd.prog.info? 23).map (·.size) = some Hd.length
  bC : ∀ w, (Instr.build 88 #[(0, .agg L32.toArray), (1, .agg L32.toArray)]).run Tryd.prog w = .ok (.agg C.cells.toArray) w
  bD : ∀ w, (Instr.build 88 #[(0, .agg L49.toArray), (1, .agg L16.toArray)]).run Tryd.prog w = .ok (.agg D.cells.toArray) w
  bZ : ∀ w, (Instr.build 25 #[]).run Tryd.prog w = .ok (.agg Z.cells.toArray) w
  hdv : ∀ w, (binOp .eql 23 (.agg Hd.toArray) (.agg #[.int .i64 49152, .int .i64 0, .int .i64 0, .int .i64 0, .int .i64 0, .int .i64 0, .int .i64 0, .int .i64 0, .int .i64 0, .int .i64 0])).run Tryd.prog w = .ok (.bool true) w
  put1 : splice Z.cells 9 [.int .i64 65535] = Y ∧ Y.length = 20
  put2 : splice Y 19 [.int .i64 7] = T.cells
  eqD : ∀ w, (binOp .eql 25 (.agg D.cells.toArray) (.agg D.cells.toArray)).run Tryd.prog w = .ok (.bool true) w
  eqA : ∀ w, (binOp .eql 25 (.agg A.cells.toArray) (.agg A.cells.toArray)).run Tryd.prog w = .ok (.bool true) w
  eqT : ∀ w, (binOp .eql 25 (.agg T.cells.toArray) (.agg T.cells.toArray)).run Tryd.prog w = .ok (.bool true) w
  eqM : ∀ w, (binOp .eql 88 (.agg D.cells.toArray) (.agg D.cells.toArray)).run Tryd.prog w = .ok (.bool true) w
  eqH : ∀ w, (binOp .eql 23 (.agg Hd.toArray) (.agg Hd.toArray)).run Tryd.prog w = .ok (.bool true) w
theorem Tryd.guardM : Tryd.prog.eqGuardType Tryd.prog.depth 88 = false := by kernel_rfl
set_option maxRecDepth 100000 in
set_option maxHeartbeats 6400000 in
theorem sanity_of (A B C Z D E F G R1 R4 T : Pat) (L32 L49 L16 L7 Hd Y : List Value) (hs : SaneF A B C Z D E F G R1 R4 T L32 L49 L16 L7 Hd Y) (w : World) (hg : GOk w) :
    Calls Tryd.prog 14 #[] w fun e w' => e = .returned (.bool true) ∧ Below w.heap.size w w' := by
  have HS := Lib.hid hs
  have HG := Lib.hid hg
  have hunP := Tryd.underlying25
  have hunM := Tryd.underlying88
  have hunH := Tryd.underlying23
  have hguP := Tryd.guardP
  have hguM := Tryd.guardM
  have hguH := Tryd.guardH
  have hzH := HS.out.hl.2.2
  have hzs : ∀ p : Pat, (Tryd.prog.info? 25).map (·.size) = some p.cells.length := fun p => by rw [Pat.cells_length]; exact Tryd.szP
  have hzm : ∀ p : Pat, (Tryd.prog.info? 88).map (·.size) = some p.cells.length := fun p => by rw [Pat.cells_length]; exact Tryd.szM
  have HZS := Lib.hid hzs
  have HZM := Lib.hid hzm
  clear hs hg hzs hzm
  have eD := HS.out.eqD
  have eA := HS.out.eqA
  have eT := HS.out.eqT
  have eM := HS.out.eqM
  have eH := HS.out.eqH
  go_enter Tryd.func14, Tryd.ntmps14
  go_wp2_with fail
  (with_reducible refine (HS.out.fA _).mono ?_)
  rintro e w1 ⟨rfl, hb1⟩
  have hbe : Below w.heap.size w w1 := hb1
  clear hb1
  go_wp2_with fail
  (with_reducible refine (HS.out.fB _).mono ?_)
  rintro e w2 ⟨rfl, hb2⟩
  have hbe := below_join hbe hb2
  clear hb2
  go_wp2_with fail
  (with_reducible refine (HS.out.and1 _).mono ?_)
  rintro e w3 ⟨rfl, hb3⟩
  have hbe := below_join hbe hb3
  clear hb3
  go_wp2_with (with_reducible refine wpList_alloc (o := ⟨some 1, .alloc 25, _, _, _, _⟩) (by with_unfolding_all rfl) 25 (by with_unfolding_all rfl) (.agg (H no ++ H no).toArray) (H no ++ H no) (by exact Tryd.zeroPt) (by with_unfolding_all rfl) ?_)
  intro g1 w4 hg1 hs4 hb4 hB4
  have hl4 : w3.heap.size ≤ g1 := Nat.le_of_eq hg1.out.symm
  have hb4 := hb4.mono hl4
  go_wp2_with (with_reducible refine wpList_put (o := ⟨none, .store 25 (.tmp 1) (.tmp 26), _, _, _, _⟩) (by with_unfolding_all rfl) 25 (.tmp 1) (.tmp 26) (by with_unfolding_all rfl) g1 0 (by with_unfolding_all rfl) (.agg D.cells.toArray) (by with_unfolding_all rfl) hB4 D.cells (by with_unfolding_all rfl) (by with_unfolding_all (rw [Pat.cells_length]; exact Tryd.szP)) (by with_unfolding_all (rw [Pat.cells_length, List.length_append, H_length] <;> omega)) (by with_unfolding_all (exact cells_one _)) ?_)
  intro w5 hu5 B1
  rw [splice_all _ _ (by rw [Pat.cells_length, List.length_append, H_length])] at B1
  have hb5 := hb4.trans (hu5.below (B := w3.heap.size) hl4)
  clear hu5 hB4 hg1 hs4
  have hbe := below_join hbe hb5
  clear hb4 hb5 hl4
  go_wp2_with fail
  (with_reducible refine (HS.out.fA _).mono ?_)
  rintro e w6 ⟨rfl, hb6⟩
  have B1 := B1.next hb6 B1.lt
  have hbe := below_join hbe hb6
  clear hb6
  go_wp2_with fail
  (with_reducible refine (HS.out.fC _).mono ?_)
  rintro e w7 ⟨rfl, hb7⟩
  have B1 := B1.next hb7 B1.lt
  have hbe := below_join hbe hb7
  clear hb7
  go_wp2_with fail
  (with_reducible refine (HS.out.and2 _).mono ?_)
  rintro e w8 ⟨rfl, hb8⟩
  have B1 := B1.next hb8 B1.lt
  have hbe := below_join hbe hb8
  clear hb8
  go_wp2_with (with_reducible refine wpList_alloc (o := ⟨some 3, .alloc 25, _, _, _, _⟩) (by with_unfolding_all rfl) 25 (by with_unfolding_all rfl) (.agg (H no ++ H no).toArray) (H no ++ H no) (by exact Tryd.zeroPt) (by with_unfolding_all rfl) ?_)
  intro g3 w9 hg3 hs9 hb9 hB9
  have hl9 : w8.heap.size ≤ g3 := Nat.le_of_eq hg3.out.symm
  have hb9 := hb9.mono hl9
  go_wp2_with (with_reducible refine wpList_put (o := ⟨none, .store 25 (.tmp 3) (.tmp 32), _, _, _, _⟩) (by with_unfolding_all rfl) 25 (.tmp 3) (.tmp 32) (by with_unfolding_all rfl) g3 0 (by with_unfolding_all rfl) (.agg Z.cells.toArray) (by with_unfolding_all rfl) hB9 Z.cells (by with_unfolding_all rfl) (by with_unfolding_all (rw [Pat.cells_length]; exact Tryd.szP)) (by with_unfolding_all (rw [Pat.cells_length, List.length_append, H_length] <;> omega)) (by with_unfolding_all (exact cells_one _)) ?_)
  intro w10 hu10 B3
  rw [splice_all _ _ (by rw [Pat.cells_length, List.length_append, H_length])] at B3
  have hb10 := hb9.trans (hu10.below (B := w8.heap.size) hl9)
  clear hu10 hB9 hg3 hs9
  have B1 := B1.next hb10 B1.lt
  have hbe := below_join hbe hb10
  clear hb9 hb10 hl9
  go_wp2_with fail
  (with_reducible refine (HS.out.fZ _).mono ?_)
  rintro e w11 ⟨rfl, hb11⟩
  have B1 := B1.next hb11 B1.lt
  have hbe := below_join hbe hb11
  clear hb11
  go_wp2_with fail
  (with_reducible refine (HS.out.fD _).mono ?_)
  rintro e w12 ⟨rfl, hb12⟩
  have B1 := B1.next hb12 B1.lt
  have hbe := below_join hbe hb12
  clear hb12
  go_wp2_with fail
  (with_reducible refine (HS.out.minus _).mono ?_)
  rintro e w13 ⟨A5, c5, rfl, M5, hb13⟩
  have B1 := B1.next hb13 B1.lt
  have hbe := below_join hbe hb13
  clear hb13
  go_wp2_with fail
  (with_reducible refine (HS.out.fE _).mono ?_)
  rintro e w14 ⟨rfl, hb14⟩
  have B1 := B1.next hb14 B1.lt
  have M5 := M5.next hb14
  have hbe := below_join hbe hb14
  clear hb14
  go_wp2_with fail
  (with_reducible refine (HS.out.fD _).mono ?_)
  rintro e w15 ⟨rfl, hb15⟩
  have B1 := B1.next hb15 B1.lt
  have M5 := M5.next hb15
  have hbe := below_join hbe hb15
  clear hb15
  go_wp2_with fail
  (with_reducible refine (HS.out.join1 _).mono ?_)
  rintro e w16 ⟨rfl, hb16⟩
  have B1 := B1.next hb16 B1.lt
  have M5 := M5.next hb16
  have hbe := below_join hbe hb16
  clear hb16
  go_wp2_with (with_reducible refine wpList_alloc (o := ⟨some 6, .alloc 25, _, _, _, _⟩) (by with_unfolding_all rfl) 25 (by with_unfolding_all rfl) (.agg (H no ++ H no).toArray) (H no ++ H no) (by exact Tryd.zeroPt) (by with_unfolding_all rfl) ?_)
  intro g6 w17 hg6 hs17 hb17 hB17
  have hl17 : w16.heap.size ≤ g6 := Nat.le_of_eq hg6.out.symm
  have hb17 := hb17.mono hl17
  go_wp2_with (with_reducible refine wpList_put (o := ⟨none, .store 25 (.tmp 6) (.tmp 41), _, _, _, _⟩) (by with_unfolding_all rfl) 25 (.tmp 6) (.tmp 41) (by with_unfolding_all rfl) g6 0 (by with_unfolding_all rfl) (.agg A.cells.toArray) (by with_unfolding_all rfl) hB17 A.cells (by with_unfolding_all rfl) (by with_unfolding_all (rw [Pat.cells_length]; exact Tryd.szP)) (by with_unfolding_all (rw [Pat.cells_length, List.length_append, H_length] <;> omega)) (by with_unfolding_all (exact cells_one _)) ?_)
  intro w18 hu18 B6
  rw [splice_all _ _ (by rw [Pat.cells_length, List.length_append, H_length])] at B6
  have hb18 := hb17.trans (hu18.below (B := w16.heap.size) hl17)
  clear hu18 hB17 hg6 hs17
  have B1 := B1.next hb18 B1.lt
  have M5 := M5.next hb18
  have hbe := below_join hbe hb18
  clear hb17 hb18 hl17
  go_wp2_with fail
  (with_reducible refine (HS.out.fE _).mono ?_)
  rintro e w19 ⟨rfl, hb19⟩
  have B1 := B1.next hb19 B1.lt
  have M5 := M5.next hb19
  have B6 := B6.next hb19 B6.lt
  have hbe := below_join hbe hb19
  clear hb19
  go_wp2_with fail
  (with_reducible refine (HS.out.fF _).mono ?_)
  rintro e w20 ⟨rfl, hb20⟩
  have B1 := B1.next hb20 B1.lt
  have M5 := M5.next hb20
  have B6 := B6.next hb20 B6.lt
  have hbe := below_join hbe hb20
  clear hb20
  go_wp2_with fail
  (with_reducible refine (HS.out.join2 _).mono ?_)
  rintro e w21 ⟨rfl, hb21⟩
  have B1 := B1.next hb21 B1.lt
  have M5 := M5.next hb21
  have B6 := B6.next hb21 B6.lt
  have hbe := below_join hbe hb21
  clear hb21
  go_wp2_with (with_reducible refine wpList_alloc (o := ⟨some 8, .alloc 25, _, _, _, _⟩) (by with_unfolding_all rfl) 25 (by with_unfolding_all rfl) (.agg (H no ++ H no).toArray) (H no ++ H no) (by exact Tryd.zeroPt) (by with_unfolding_all rfl) ?_)
  intro g8 w22 hg8 hs22 hb22 hB22
  have hl22 : w21.heap.size ≤ g8 := Nat.le_of_eq hg8.out.symm
  have hb22 := hb22.mono hl22
  go_wp2_with (with_reducible refine wpList_put (o := ⟨none, .store 25 (.tmp 8) (.tmp 47), _, _, _, _⟩) (by with_unfolding_all rfl) 25 (.tmp 8) (.tmp 47) (by with_unfolding_all rfl) g8 0 (by with_unfolding_all rfl) (.agg Z.cells.toArray) (by with_unfolding_all rfl) hB22 Z.cells (by with_unfolding_all rfl) (by with_unfolding_all (rw [Pat.cells_length]; exact Tryd.szP)) (by with_unfolding_all (rw [Pat.cells_length, List.length_append, H_length] <;> omega)) (by with_unfolding_all (exact cells_one _)) ?_)
  intro w23 hu23 B8
  rw [splice_all _ _ (by rw [Pat.cells_length, List.length_append, H_length])] at B8
  have hb23 := hb22.trans (hu23.below (B := w21.heap.size) hl22)
  clear hu23 hB22 hg8 hs22
  have B1 := B1.next hb23 B1.lt
  have M5 := M5.next hb23
  have B6 := B6.next hb23 B6.lt
  have hbe := below_join hbe hb23
  clear hb22 hb23 hl22
  go_wp2_with fail
  (with_reducible refine (HS.out.fZ _).mono ?_)
  rintro e w24 ⟨rfl, hb24⟩
  have B1 := B1.next hb24 B1.lt
  have M5 := M5.next hb24
  have B6 := B6.next hb24 B6.lt
  have hbe := below_join hbe hb24
  clear hb24
  go_wp2_with fail
  (with_reducible refine (HS.out.fA _).mono ?_)
  rintro e w25 ⟨rfl, hb25⟩
  have B1 := B1.next hb25 B1.lt
  have M5 := M5.next hb25
  have B6 := B6.next hb25 B6.lt
  have hbe := below_join hbe hb25
  clear hb25
  go_wp2_with fail
  (with_reducible refine (HS.out.fG _).mono ?_)
  rintro e w26 ⟨rfl, hb26⟩
  have B1 := B1.next hb26 B1.lt
  have M5 := M5.next hb26
  have B6 := B6.next hb26 B6.lt
  have hbe := below_join hbe hb26
  clear hb26
  go_wp2_with (with_reducible refine wpList_slice2 (o := ⟨some 53, .buildSlice 82 2 #[(0, .tmp 51), (1, .tmp 52)], _, _, _, _⟩) (by with_unfolding_all rfl) (.tmp 51) (.tmp 52) (by with_unfolding_all rfl) A G (by with_unfolding_all rfl) (by with_unfolding_all rfl) ?_)
  intro gs w27 hgs hb27 hlt PS
  have B1 := B1.next hb27 B1.lt
  have M5 := M5.next hb27
  have B6 := B6.next hb27 B6.lt
  have hbe := below_join hbe hb27
  clear hb27 hgs
  go_wp2_with fail
  (with_reducible refine (HS.out.outs _ gs _ hlt PS).mono ?_)
  rintro e w28 ⟨rfl, hb28⟩
  have B1 := B1.next hb28 B1.lt
  have M5 := M5.next hb28
  have B6 := B6.next hb28 B6.lt
  have hbe := below_join hbe hb28
  clear hb28
  clear PS hlt
  go_wp2_with (with_reducible refine wpList_alloc (o := ⟨some 10, .alloc 23, _, _, _, _⟩) (by with_unfolding_all rfl) 23 (by with_unfolding_all rfl) (.agg (H no).toArray) (H no) (by exact Tryd.zeroH) (by with_unfolding_all rfl) ?_)
  intro g10 w29 hg10 hs29 hb29 hB29
  have hl29 : w28.heap.size ≤ g10 := Nat.le_of_eq hg10.out.symm
  have hb29 := hb29.mono hl29
  go_wp2_with (with_reducible refine wpList_put (o := ⟨none, .store 23 (.tmp 10) (.tmp 55), _, _, _, _⟩) (by with_unfolding_all rfl) 23 (.tmp 10) (.tmp 55) (by with_unfolding_all rfl) g10 0 (by with_unfolding_all rfl) (.agg Hd.toArray) (by with_unfolding_all rfl) hB29 Hd (by with_unfolding_all rfl) (by with_unfolding_all (exact hzH)) (by with_unfolding_all (rw [HS.out.hl.1, H_length] <;> omega)) (by with_unfolding_all (exact HS.out.hl.2.1)) ?_)
  intro w30 hu30 B10
  rw [splice_all _ _ (by rw [HS.out.hl.1, H_length])] at B10
  have hb30 := hb29.trans (hu30.below (B := w28.heap.size) hl29)
  clear hu30 hB29 hg10 hs29
  have B1 := B1.next hb30 B1.lt
  have M5 := M5.next hb30
  have B6 := B6.next hb30 B6.lt
  have hbe := below_join hbe hb30
  clear hb29 hb30 hl29
  go_wp2_with fail
  (with_reducible refine (HS.out.rng _).mono ?_)
  rintro e w31 ⟨A12, c12, rfl, M12, hb31⟩
  have B1 := B1.next hb31 B1.lt
  have M5 := M5.next hb31
  have B6 := B6.next hb31 B6.lt
  have B10 := B10.next hb31 B10.lt
  have hbe := below_join hbe hb31
  clear hb31
  go_wp2_with (first | (with_reducible refine wpList_build (o := ⟨some 61, .build 23 #[(0, (.const (.int .i64 32768)))], _, _, _, _⟩) (by with_unfolding_all rfl) 23 #[(0, (.const (.int .i64 32768)))] (by with_unfolding_all rfl) #[(0, .int .i64 32768)] (by with_unfolding_all rfl) (.agg L32.toArray) HS.out.b32 ?_) | (with_reducible refine wpList_build (o := ⟨some 62, .build 23 #[(0, (.const (.int .i64 32768)))], _, _, _, _⟩) (by with_unfolding_all rfl) 23 #[(0, (.const (.int .i64 32768)))] (by with_unfolding_all rfl) #[(0, .int .i64 32768)] (by with_unfolding_all rfl) (.agg L32.toArray) HS.out.b32 ?_) | (with_reducible refine wpList_build (o := ⟨some 63, .build 88 #[(0, .tmp 61), (1, .tmp 62)], _, _, _, _⟩) (by with_unfolding_all rfl) 88 #[(0, .tmp 61), (1, .tmp 62)] (by with_unfolding_all rfl) #[(0, .agg L32.toArray), (1, .agg L32.toArray)] (by with_unfolding_all rfl) (.agg C.cells.toArray) HS.out.bC ?_) | (with_reducible refine wpList_build (o := ⟨some 64, .build 23 #[(0, (.const (.int .i64 49152)))], _, _, _, _⟩) (by with_unfolding_all rfl) 23 #[(0, (.const (.int .i64 49152)))] (by with_unfolding_all rfl) #[(0, .int .i64 49152)] (by with_unfolding_all rfl) (.agg L49.toArray) HS.out.b49 ?_) | (with_reducible refine wpList_build (o := ⟨some 65, .build 23 #[(0, (.const (.int .i64 16384)))], _, _, _, _⟩) (by with_unfolding_all rfl) 23 #[(0, (.const (.int .i64 16384)))] (by with_unfolding_all rfl) #[(0, .int .i64 16384)] (by with_unfolding_all rfl) (.agg L16.toArray) HS.out.b16 ?_) | (with_reducible refine wpList_build (o := ⟨some 66, .build 88 #[(0, .tmp 64), (1, .tmp 65)], _, _, _, _⟩) (by with_unfolding_all rfl) 88 #[(0, .tmp 64), (1, .tmp 65)] (by with_unfolding_all rfl) #[(0, .agg L49.toArray), (1, .agg L16.toArray)] (by with_unfolding_all rfl) (.agg D.cells.toArray) HS.out.bD ?_))
  (with_reducible refine (HS.out.then1 _).mono ?_)
  rintro e w32 ⟨rfl, hb32⟩
  have B1 := B1.next hb32 B1.lt
  have M5 := M5.next hb32
  have B6 := B6.next hb32 B6.lt
  have B10 := B10.next hb32 B10.lt
  have M12 := M12.next hb32
  have hbe := below_join hbe hb32
  clear hb32
  go_wp2_with (with_reducible refine wpList_alloc (o := ⟨some 14, .alloc 88, _, _, _, _⟩) (by with_unfolding_all rfl) 88 (by with_unfolding_all rfl) (.agg (H no ++ H no).toArray) (H no ++ H no) (by exact Tryd.zeroMd) (by with_unfolding_all rfl) ?_)
  intro g14 w33 hg14 hs33 hb33 hB33
  have hl33 : w32.heap.size ≤ g14 := Nat.le_of_eq hg14.out.symm
  have hb33 := hb33.mono hl33
  go_wp2_with (with_reducible refine wpList_put (o := ⟨none, .store 88 (.tmp 14) (.tmp 67), _, _, _, _⟩) (by with_unfolding_all rfl) 88 (.tmp 14) (.tmp 67) (by with_unfolding_all rfl) g14 0 (by with_unfolding_all rfl) (.agg D.cells.toArray) (by with_unfolding_all rfl) hB33 D.cells (by with_unfolding_all rfl) (by with_unfolding_all (rw [Pat.cells_length]; exact Tryd.szM)) (by with_unfolding_all (rw [Pat.cells_length, List.length_append, H_length] <;> omega)) (by with_unfolding_all (exact cells_one _)) ?_)
  intro w34 hu34 B14
  rw [splice_all _ _ (by rw [Pat.cells_length, List.length_append, H_length])] at B14
  have hb34 := hb33.trans (hu34.below (B := w32.heap.size) hl33)
  clear hu34 hB33 hg14 hs33
  have B1 := B1.next hb34 B1.lt
  have M5 := M5.next hb34
  have B6 := B6.next hb34 B6.lt
  have B10 := B10.next hb34 B10.lt
  have M12 := M12.next hb34
  have hbe := below_join hbe hb34
  clear hb33 hb34 hl33
  go_wp2_with fail
  (with_reducible refine (HS.out.fD _).mono ?_)
  rintro e w35 ⟨rfl, hb35⟩
  have B1 := B1.next hb35 B1.lt
  have M5 := M5.next hb35
  have B6 := B6.next hb35 B6.lt
  have B10 := B10.next hb35 B10.lt
  have M12 := M12.next hb35
  have B14 := B14.next hb35 B14.lt
  have hbe := below_join hbe hb35
  clear hb35
  go_wp2_with (first | (with_reducible refine wpList_build (o := ⟨some 70, .build 23 #[(0, (.const (.int .i64 32768)))], _, _, _, _⟩) (by with_unfolding_all rfl) 23 #[(0, (.const (.int .i64 32768)))] (by with_unfolding_all rfl) #[(0, .int .i64 32768)] (by with_unfolding_all rfl) (.agg L32.toArray) HS.out.b32 ?_) | (with_reducible refine wpList_build (o := ⟨some 71, .build 23 #[(0, (.const (.int .i64 32768)))], _, _, _, _⟩) (by with_unfolding_all rfl) 23 #[(0, (.const (.int .i64 32768)))] (by with_unfolding_all rfl) #[(0, .int .i64 32768)] (by with_unfolding_all rfl) (.agg L32.toArray) HS.out.b32 ?_) | (with_reducible refine wpList_build (o := ⟨some 72, .build 88 #[(0, .tmp 70), (1, .tmp 71)], _, _, _, _⟩) (by with_unfolding_all rfl) 88 #[(0, .tmp 70), (1, .tmp 71)] (by with_unfolding_all rfl) #[(0, .agg L32.toArray), (1, .agg L32.toArray)] (by with_unfolding_all rfl) (.agg C.cells.toArray) HS.out.bC ?_))
  (with_reducible refine (HS.out.back1 _).mono ?_)
  rintro e w36 ⟨rfl, hb36⟩
  have B1 := B1.next hb36 B1.lt
  have M5 := M5.next hb36
  have B6 := B6.next hb36 B6.lt
  have B10 := B10.next hb36 B10.lt
  have M12 := M12.next hb36
  have B14 := B14.next hb36 B14.lt
  have hbe := below_join hbe hb36
  clear hb36
  go_wp2_with (with_reducible refine wpList_alloc (o := ⟨some 15, .alloc 25, _, _, _, _⟩) (by with_unfolding_all rfl) 25 (by with_unfolding_all rfl) (.agg (H no ++ H no).toArray) (H no ++ H no) (by exact Tryd.zeroPt) (by with_unfolding_all rfl) ?_)
  intro g15 w37 hg15 hs37 hb37 hB37
  have hl37 : w36.heap.size ≤ g15 := Nat.le_of_eq hg15.out.symm
  have hb37 := hb37.mono hl37
  go_wp2_with (with_reducible refine wpList_put (o := ⟨none, .store 25 (.tmp 15) (.tmp 74), _, _, _, _⟩) (by with_unfolding_all rfl) 25 (.tmp 15) (.tmp 74) (by with_unfolding_all rfl) g15 0 (by with_unfolding_all rfl) (.agg Z.cells.toArray) (by with_unfolding_all rfl) hB37 Z.cells (by with_unfolding_all rfl) (by with_unfolding_all (rw [Pat.cells_length]; exact Tryd.szP)) (by with_unfolding_all (rw [Pat.cells_length, List.length_append, H_length] <;> omega)) (by with_unfolding_all (exact cells_one _)) ?_)
  intro w38 hu38 B15
  rw [splice_all _ _ (by rw [Pat.cells_length, List.length_append, H_length])] at B15
  have hb38 := hb37.trans (hu38.below (B := w36.heap.size) hl37)
  clear hu38 hB37 hg15 hs37
  have B1 := B1.next hb38 B1.lt
  have M5 := M5.next hb38
  have B6 := B6.next hb38 B6.lt
  have B10 := B10.next hb38 B10.lt
  have M12 := M12.next hb38
  have B14 := B14.next hb38 B14.lt
  have hbe := below_join hbe hb38
  clear hb37 hb38 hl37
  go_wp2_with (first | (with_reducible refine wpList_build (o := ⟨some 76, .build 25 #[], _, _, _, _⟩) (by with_unfolding_all rfl) 25 #[] (by with_unfolding_all rfl) #[] (by with_unfolding_all rfl) (.agg Z.cells.toArray) HS.out.bZ ?_) | (with_reducible refine wpList_alloc (o := ⟨some 17, .alloc 25, _, _, _, _⟩) (by with_unfolding_all rfl) 25 (by with_unfolding_all rfl) (.agg (H no ++ H no).toArray) (H no ++ H no) (by exact Tryd.zeroPt) (by with_unfolding_all rfl) ?_))
  intro g17 w39 hg17 hs39 hb39 hB39
  have hl39 : w38.heap.size ≤ g17 := Nat.le_of_eq hg17.out.symm
  have hb39 := hb39.mono hl39
  go_wp2_with (with_reducible refine wpList_put (o := ⟨none, .store 25 (.tmp 17) (.tmp 76), _, _, _, _⟩) (by with_unfolding_all rfl) 25 (.tmp 17) (.tmp 76) (by with_unfolding_all rfl) g17 0 (by with_unfolding_all rfl) (.agg Z.cells.toArray) (by with_unfolding_all rfl) hB39 Z.cells (by with_unfolding_all rfl) (by with_unfolding_all (rw [Pat.cells_length]; exact Tryd.szP)) (by with_unfolding_all (rw [Pat.cells_length, List.length_append, H_length] <;> omega)) (by with_unfolding_all (exact cells_one _)) ?_)
  intro w40 hu40 B17
  rw [splice_all _ _ (by rw [Pat.cells_length, List.length_append, H_length])] at B17
  have hb40 := hb39.trans (hu40.below (B := w38.heap.size) hl39)
  clear hu40 hB39 hg17 hs39
  go_wp2_with (with_reducible refine wpList_put (o := ⟨none, .store 3 (.tmp 78) (.const (.int .i64 65535)), _, _, _, _⟩) (by with_unfolding_all rfl) 3 (.tmp 78) (.const (.int .i64 65535)) (by with_unfolding_all rfl) g17 9 (by with_unfolding_all rfl) (.int .i64 65535) (by with_unfolding_all rfl) B17 [.int .i64 65535] (by with_unfolding_all rfl) (by with_unfolding_all (exact Tryd.szI)) (by with_unfolding_all (rw [Pat.cells_length]; show 9 + 1 ≤ 20; omega)) (by with_unfolding_all (exact one_cell1 rfl)) ?_)
  clear B17
  intro w41 hu41 B17
  rw [HS.out.put1.1] at B17
  have hb40 := hb40.trans (hu41.below (B := w38.heap.size) hl39)
  clear hu41
  go_wp2_with (with_reducible refine wpList_put (o := ⟨none, .store 3 (.tmp 80) (.const (.int .i64 7)), _, _, _, _⟩) (by with_unfolding_all rfl) 3 (.tmp 80) (.const (.int .i64 7)) (by with_unfolding_all rfl) g17 19 (by with_unfolding_all rfl) (.int .i64 7) (by with_unfolding_all rfl) B17 [.int .i64 7] (by with_unfolding_all rfl) (by with_unfolding_all (exact Tryd.szI)) (by with_unfolding_all (rw [HS.out.put1.2]; show 19 + 1 ≤ 20; omega)) (by with_unfolding_all (exact one_cell1 rfl)) ?_)
  clear B17
  intro w42 hu42 B17
  rw [HS.out.put2] at B17
  have hb40 := hb40.trans (hu42.below (B := w38.heap.size) hl39)
  clear hu42
  have B1 := B1.next hb40 B1.lt
  have M5 := M5.next hb40
  have B6 := B6.next hb40 B6.lt
  have B10 := B10.next hb40 B10.lt
  have M12 := M12.next hb40
  have B14 := B14.next hb40 B14.lt
  have hbe := below_join hbe hb40
  clear hb39 hb40 hl39
  go_wp2_with fail
  (with_reducible refine (HS.out.parse _ (HG.out.next hbe)).mono ?_)
  rintro e w43 ⟨rfl, hb43⟩
  have B1 := B1.next hb43 B1.lt
  have M5 := M5.next hb43
  have B6 := B6.next hb43 B6.lt
  have B10 := B10.next hb43 B10.lt
  have M12 := M12.next hb43
  have B14 := B14.next hb43 B14.lt
  have B17 := B17.next hb43 B17.lt
  have hbe := below_join hbe hb43
  clear hb43
  go_wp2_with (with_reducible refine wpList_alloc (o := ⟨some 18, .alloc 25, _, _, _, _⟩) (by with_unfolding_all rfl) 25 (by with_unfolding_all rfl) (.agg (H no ++ H no).toArray) (H no ++ H no) (by exact Tryd.zeroPt) (by with_unfolding_all rfl) ?_)
  intro g18 w44 hg18 hs44 hb44 hB44
  have hl44 : w43.heap.size ≤ g18 := Nat.le_of_eq hg18.out.symm
  have hb44 := hb44.mono hl44
  go_wp2_with (with_reducible refine wpList_put (o := ⟨none, .store 25 (.tmp 18) (.tmp 83), _, _, _, _⟩) (by with_unfolding_all rfl) 25 (.tmp 18) (.tmp 83) (by with_unfolding_all rfl) g18 0 (by with_unfolding_all rfl) (.agg T.cells.toArray) (by with_unfolding_all rfl) hB44 T.cells (by with_unfolding_all rfl) (by with_unfolding_all (rw [Pat.cells_length]; exact Tryd.szP)) (by with_unfolding_all (rw [Pat.cells_length, List.length_append, H_length] <;> omega)) (by with_unfolding_all (exact cells_one _)) ?_)
  intro w45 hu45 B18
  rw [splice_all _ _ (by rw [Pat.cells_length, List.length_append, H_length])] at B18
  have hb45 := hb44.trans (hu45.below (B := w43.heap.size) hl44)
  clear hu45 hB44 hg18 hs44
  have B1 := B1.next hb45 B1.lt
  have M5 := M5.next hb45
  have B6 := B6.next hb45 B6.lt
  have B10 := B10.next hb45 B10.lt
  have M12 := M12.next hb45
  have B14 := B14.next hb45 B14.lt
  have B17 := B17.next hb45 B17.lt
  have hbe := below_join hbe hb45
  clear hb44 hb45 hl44
  go_wp2
  have hdd := below_drew w45
  have K1 : Hid (∀ w', Below w45.heap.size w45 w' → w'.rangeAt g1 0 D.cells) := (fun w' h => blk_range (B1.next h B1.lt) : ∀ w', Below w45.heap.size w45 w' → w'.rangeAt g1 0 D.cells)
  have K6 : Hid (∀ w', Below w45.heap.size w45 w' → w'.rangeAt g6 0 A.cells) := (fun w' h => blk_range (B6.next h B6.lt) : ∀ w', Below w45.heap.size w45 w' → w'.rangeAt g6 0 A.cells)
  have K10 : Hid (∀ w', Below w45.heap.size w45 w' → w'.rangeAt g10 0 Hd) := (fun w' h => blk_range (B10.next h B10.lt) : ∀ w', Below w45.heap.size w45 w' → w'.rangeAt g10 0 Hd)
  have zD := HZS.out D
  have zA := HZS.out A
  refine wp_region_held_drew (S := fun w' => Below w45.heap.size w45 w') (by kernel_rfl) hdd (fun hHeld => ?_)
  generalize w45.drew = wd at hdd hHeld ⊢
  refine wpAnyH_take (i := 0) (v := ?vv0) rfl (by kernel_rfl) (by kernel_rfl) (by kernel_rfl) (fun _ _ _ h => h) (Or.inl ⟨by rfl, ?yv0⟩) (by assumption) ?rv0
  case yv0 => intro w hSw; (try dsimp only at hSw); go_simp <;> (try with_reducible rfl)
  (try simp only [List.getElem_toArray, List.getElem_cons_zero, Act.put, List.setIfInBounds_toArray, List.set_cons_zero, List.set_cons_succ])
  refine wpAnyH_take (i := 1) (v := ?vv1) rfl (by kernel_rfl) (by kernel_rfl) (by kernel_rfl) (fun _ _ _ h => h) (Or.inl ⟨by rfl, ?yv1⟩) (by assumption) ?rv1
  case yv1 => intro w hSw; (try dsimp only at hSw); go_simp <;> (try with_reducible rfl)
  (try simp only [List.getElem_toArray, List.getElem_cons_succ, List.getElem_cons_zero, Act.put, List.setIfInBounds_toArray, List.set_cons_zero, List.set_cons_succ])
  refine' wpAnyH_take (i := 2) (v := _) rfl (by kernel_rfl) (by kernel_rfl) (by kernel_rfl) (fun _ _ _ h => h) (yieldsIf_load_mid (by rfl) _ _ (by rfl) _ _ (by rfl) _ _ ?Sv2 ?uv2 ?dv2 ?iv2) (by assumption) ?rv2
  case Sv2 => exact (by intro w h; exact K1.out _ h)
  case uv2 => exact hunP
  case dv2 => rfl
  case iv2 => exact zD
  (try simp only [List.getElem_toArray, List.getElem_cons_succ, List.getElem_cons_zero, Act.put, List.setIfInBounds_toArray, List.set_cons_zero, List.set_cons_succ])
  refine wpAnyH_ready (rs := [3]) (by kernel_rfl) (by simp) ?_
  refine AllReadyH.cons rfl (fun K hK => ?_) AllReadyH.nil
  go_simp
  go_wp2_with fail
  (with_reducible refine (HS.out.fD _).mono ?_)
  rintro e w46 ⟨rfl, hb46⟩
  have hk46 := below_join hdd hb46
  refine hK.out _ _ hk46 (fun hHeld => ?_)
  clear hK K hb46 hdd
  refine wpAnyH_take (i := 4) (v := ?vv4) rfl (by kernel_rfl) (by kernel_rfl) (by kernel_rfl) (fun _ _ _ h => h) (Or.inl ⟨by rfl, ?yv4⟩) (by assumption) ?rv4
  case yv4 => intro w hSw; (try dsimp only at hSw); go_simp <;> (try with_reducible rfl)
  (try simp only [List.getElem_toArray, List.getElem_cons_succ, List.getElem_cons_zero, Act.put, List.setIfInBounds_toArray, List.set_cons_zero, List.set_cons_succ])
  refine wpAnyH_take (i := 5) (v := ?vv5) rfl (by kernel_rfl) (by kernel_rfl) (by kernel_rfl) (fun _ _ _ h => h) (Or.inl ⟨by rfl, ?yv5⟩) (by assumption) ?rv5
  case yv5 => intro w hSw; (try dsimp only at hSw); go_simp <;> (try with_reducible rfl)
  (try simp only [List.getElem_toArray, List.getElem_cons_succ, List.getElem_cons_zero, Act.put, List.setIfInBounds_toArray, List.set_cons_zero, List.set_cons_succ])
  refine wpAnyH_take (i := 6) (v := ?vv6) rfl (by kernel_rfl) (by kernel_rfl) (by kernel_rfl) (fun _ _ _ h => h) (Or.inl ⟨by rfl, ?yv6⟩) (by assumption) ?rv6
  case yv6 => intro w hSw; (try dsimp only at hSw); go_simp <;> (try with_reducible rfl)
  (try simp only [List.getElem_toArray, List.getElem_cons_succ, List.getElem_cons_zero, Act.put, List.setIfInBounds_toArray, List.set_cons_zero, List.set_cons_succ])
  refine wpAnyH_take (i := 7) (v := ?vv7) rfl (by kernel_rfl) (by kernel_rfl) (by kernel_rfl) (fun _ _ _ h => h) (Or.inl ⟨by rfl, ?yv7⟩) (by assumption) ?rv7
  case yv7 => intro w hSw; (try dsimp only at hSw); go_simp <;> (try with_reducible rfl)
  (try simp only [List.getElem_toArray, List.getElem_cons_succ, List.getElem_cons_zero, Act.put, List.setIfInBounds_toArray, List.set_cons_zero, List.set_cons_succ])
  refine wpAnyH_take (i := 8) (v := ?vv8) rfl (by kernel_rfl) (by kernel_rfl) (by kernel_rfl) (fun _ _ _ h => h) (Or.inl ⟨by rfl, ?yv8⟩) (by assumption) ?rv8
  case yv8 => intro w hSw; (try dsimp only at hSw); go_simp <;> (try with_reducible rfl)
  (try simp only [List.getElem_toArray, List.getElem_cons_succ, List.getElem_cons_zero, Act.put, List.setIfInBounds_toArray, List.set_cons_zero, List.set_cons_succ])
  refine wpAnyH_take (i := 9) (v := ?vv9) rfl (by kernel_rfl) (by kernel_rfl) (by kernel_rfl) (fun _ _ _ h => h) (Or.inl ⟨by rfl, ?yv9⟩) (by assumption) ?rv9
  case yv9 => intro w hSw; (try dsimp only at hSw); go_simp <;> (try with_reducible rfl)
  (try simp only [List.getElem_toArray, List.getElem_cons_succ, List.getElem_cons_zero, Act.put, List.setIfInBounds_toArray, List.set_cons_zero, List.set_cons_succ])
  refine wpAnyH_take (i := 10) (v := ?vv10) rfl (by kernel_rfl) (by kernel_rfl) (by kernel_rfl) (fun _ _ _ h => h) (Or.inl ⟨by rfl, ?yv10⟩) (by assumption) ?rv10
  case yv10 => intro w hSw; (try dsimp only at hSw); go_simp <;> (try with_reducible rfl)
  (try simp only [List.getElem_toArray, List.getElem_cons_succ, List.getElem_cons_zero, Act.put, List.setIfInBounds_toArray, List.set_cons_zero, List.set_cons_succ])
  refine wpAnyH_take (i := 11) (v := ?vv11) rfl (by kernel_rfl) (by kernel_rfl) (by kernel_rfl) (fun _ _ _ h => h) (Or.inl ⟨by rfl, ?yv11⟩) (by assumption) ?rv11
  case yv11 => intro w hSw; (try dsimp only at hSw); go_simp <;> (try with_reducible rfl)
  (try simp only [List.getElem_toArray, List.getElem_cons_succ, List.getElem_cons_zero, Act.put, List.setIfInBounds_toArray, List.set_cons_zero, List.set_cons_succ])
  refine wpAnyH_ready (rs := [12]) (by kernel_rfl) (by simp) ?_
  refine AllReadyH.cons rfl (fun K hK => ?_) AllReadyH.nil
  go_simp
  go_wp2_with fail
  (with_reducible refine (HS.out.fC _).mono ?_)
  rintro e w47 ⟨rfl, hb47⟩
  have hk47 := below_join hk46 hb47
  refine hK.out _ _ hk47 (fun hHeld => ?_)
  clear hK K hb47 hk46
  refine wpAnyH_ready (rs := [13]) (by kernel_rfl) (by simp) ?_
  refine AllReadyH.cons rfl (fun K hK => ?_) AllReadyH.nil
  go_simp
  go_wp2_with fail
  (with_reducible refine (HS.out.fE _).mono ?_)
  rintro e w48 ⟨rfl, hb48⟩
  have hk48 := below_join hk47 hb48
  refine hK.out _ _ hk48 (fun hHeld => ?_)
  clear hK K hb48 hk47
  refine wpAnyH_ready (rs := [14]) (by kernel_rfl) (by simp) ?_
  refine AllReadyH.cons rfl (fun K hK => ?_) AllReadyH.nil
  rw [if_pos (by rfl)]
  refine wp_slice2 (.tmp 97) (.tmp 98) rfl C E rfl rfl ?_
  intro gq w49 hgq hb49 hltq PQ
  have hk49 := below_join hk48 hb49
  refine hK.out _ _ hk49 (fun hHeld => ?_)
  clear hK K hb49 hgq hltq hk48
  refine wpAnyH_ready (rs := [15]) (by kernel_rfl) (by simp) ?_
  refine AllReadyH.cons rfl (fun K hK => ?_) AllReadyH.nil
  go_simp
  go_wp2_with fail
  (with_reducible refine (HS.out.same2 _ _ _ _ _ (M5.next hk49) PQ).mono ?_)
  rintro e w50 ⟨rfl, hb50⟩
  have hk50 := below_join hk49 hb50
  refine hK.out _ _ hk50 (fun hHeld => ?_)
  clear hK K hb50 hk49
  clear PQ
  refine wpAnyH_take (i := 16) (v := ?vv16) rfl (by kernel_rfl) (by kernel_rfl) (by kernel_rfl) (fun _ _ _ h => h) (Or.inl ⟨by rfl, ?yv16⟩) (by assumption) ?rv16
  case yv16 => intro w hSw; (try dsimp only at hSw); go_simp <;> (try with_reducible rfl)
  (try simp only [List.getElem_toArray, List.getElem_cons_succ, List.getElem_cons_zero, Act.put, List.setIfInBounds_toArray, List.set_cons_zero, List.set_cons_succ])
  refine wpAnyH_take (i := 17) (v := ?vv17) rfl (by kernel_rfl) (by kernel_rfl) (by kernel_rfl) (fun _ _ _ h => h) (Or.inl ⟨by rfl, ?yv17⟩) (by assumption) ?rv17
  case yv17 => intro w hSw; (try dsimp only at hSw); go_simp <;> (try with_reducible rfl)
  (try simp only [List.getElem_toArray, List.getElem_cons_succ, List.getElem_cons_zero, Act.put, List.setIfInBounds_toArray, List.set_cons_zero, List.set_cons_succ])
  refine wpAnyH_take (i := 18) (v := ?vv18) rfl (by kernel_rfl) (by kernel_rfl) (by kernel_rfl) (fun _ _ _ h => h) (Or.inl ⟨by rfl, ?yv18⟩) (by assumption) ?rv18
  case yv18 => intro w hSw; (try dsimp only at hSw); go_simp <;> (try with_reducible rfl)
  (try simp only [List.getElem_toArray, List.getElem_cons_succ, List.getElem_cons_zero, Act.put, List.setIfInBounds_toArray, List.set_cons_zero, List.set_cons_succ])
  refine wpAnyH_take (i := 19) (v := ?vv19) rfl (by kernel_rfl) (by kernel_rfl) (by kernel_rfl) (fun _ _ _ h => h) (Or.inl ⟨by rfl, ?yv19⟩) (by assumption) ?rv19
  case yv19 => intro w hSw; (try dsimp only at hSw); go_simp <;> (try with_reducible rfl)
  (try simp only [List.getElem_toArray, List.getElem_cons_succ, List.getElem_cons_zero, Act.put, List.setIfInBounds_toArray, List.set_cons_zero, List.set_cons_succ])
  refine wpAnyH_take (i := 20) (v := ?vv20) rfl (by kernel_rfl) (by kernel_rfl) (by kernel_rfl) (fun _ _ _ h => h) (Or.inl ⟨by rfl, ?yv20⟩) (by assumption) ?rv20
  case yv20 => intro w hSw; (try dsimp only at hSw); go_simp <;> (try with_reducible rfl)
  (try simp only [List.getElem_toArray, List.getElem_cons_succ, List.getElem_cons_zero, Act.put, List.setIfInBounds_toArray, List.set_cons_zero, List.set_cons_succ])
  refine' wpAnyH_take (i := 21) (v := _) rfl (by kernel_rfl) (by kernel_rfl) (by kernel_rfl) (fun _ _ _ h => h) (yieldsIf_load_mid (by rfl) _ _ (by rfl) _ _ (by rfl) _ _ ?Sv21 ?uv21 ?dv21 ?iv21) (by assumption) ?rv21
  case Sv21 => exact (by intro w h; exact K6.out _ h)
  case uv21 => exact hunP
  case dv21 => rfl
  case iv21 => exact zA
  (try simp only [List.getElem_toArray, List.getElem_cons_succ, List.getElem_cons_zero, Act.put, List.setIfInBounds_toArray, List.set_cons_zero, List.set_cons_succ])
  refine wpAnyH_ready (rs := [22]) (by kernel_rfl) (by simp) ?_
  refine AllReadyH.cons rfl (fun K hK => ?_) AllReadyH.nil
  go_simp
  go_wp2_with fail
  (with_reducible refine (HS.out.fA _).mono ?_)
  rintro e w51 ⟨rfl, hb51⟩
  have hk51 := below_join hk50 hb51
  refine hK.out _ _ hk51 (fun hHeld => ?_)
  clear hK K hb51 hk50
  refine wpAnyH_take (i := 23) (v := ?vv23) rfl (by kernel_rfl) (by kernel_rfl) (by kernel_rfl) (fun _ _ _ h => h) (Or.inl ⟨by rfl, ?yv23⟩) (by assumption) ?rv23
  case yv23 => intro w hSw; (try dsimp only at hSw); go_simp <;> (try with_reducible rfl)
  (try simp only [List.getElem_toArray, List.getElem_cons_succ, List.getElem_cons_zero, Act.put, List.setIfInBounds_toArray, List.set_cons_zero, List.set_cons_succ])
  refine wpAnyH_take (i := 24) (v := ?vv24) rfl (by kernel_rfl) (by kernel_rfl) (by kernel_rfl) (fun _ _ _ h => h) (Or.inl ⟨by rfl, ?yv24⟩) (by assumption) ?rv24
  case yv24 => intro w hSw; (try dsimp only at hSw); go_simp <;> (try with_reducible rfl)
  (try simp only [List.getElem_toArray, List.getElem_cons_succ, List.getElem_cons_zero, Act.put, List.setIfInBounds_toArray, List.set_cons_zero, List.set_cons_succ])
  refine wpAnyH_take (i := 25) (v := ?vv25) rfl (by kernel_rfl) (by kernel_rfl) (by kernel_rfl) (fun _ _ _ h => h) (Or.inl ⟨by rfl, ?yv25⟩) (by assumption) ?rv25
  case yv25 => intro w hSw; (try dsimp only at hSw); go_simp <;> (try with_reducible rfl)
  (try simp only [List.getElem_toArray, List.getElem_cons_succ, List.getElem_cons_zero, Act.put, List.setIfInBounds_toArray, List.set_cons_zero, List.set_cons_succ])
  refine wpAnyH_take (i := 26) (v := ?vv26) rfl (by kernel_rfl) (by kernel_rfl) (by kernel_rfl) (fun _ _ _ h => h) (Or.inl ⟨by rfl, ?yv26⟩) (by assumption) ?rv26
  case yv26 => intro w hSw; (try dsimp only at hSw); go_simp <;> (try with_reducible rfl)
  (try simp only [List.getElem_toArray, List.getElem_cons_succ, List.getElem_cons_zero, Act.put, List.setIfInBounds_toArray, List.set_cons_zero, List.set_cons_succ])
  refine wpAnyH_take (i := 27) (v := ?vv27) rfl (by kernel_rfl) (by kernel_rfl) (by kernel_rfl) (fun _ _ _ h => h) (Or.inl ⟨by rfl, ?yv27⟩) (by assumption) ?rv27
  case yv27 => intro w hSw; (try dsimp only at hSw); go_simp <;> (try with_reducible rfl)
  (try simp only [List.getElem_toArray, List.getElem_cons_succ, List.getElem_cons_zero, Act.put, List.setIfInBounds_toArray, List.set_cons_zero, List.set_cons_succ])
  refine wpAnyH_take (i := 28) (v := ?vv28) rfl (by kernel_rfl) (by kernel_rfl) (by kernel_rfl) (fun _ _ _ h => h) (Or.inl ⟨by rfl, ?yv28⟩) (by assumption) ?rv28
  case yv28 => intro w hSw; (try dsimp only at hSw); go_simp <;> (try with_reducible rfl)
  (try simp only [List.getElem_toArray, List.getElem_cons_succ, List.getElem_cons_zero, Act.put, List.setIfInBounds_toArray, List.set_cons_zero, List.set_cons_succ])
  refine wpAnyH_take (i := 29) (v := ?vv29) rfl (by kernel_rfl) (by kernel_rfl) (by kernel_rfl) (fun _ _ _ h => h) (Or.inl ⟨by rfl, ?yv29⟩) (by assumption) ?rv29
  case yv29 => intro w hSw; (try dsimp only at hSw); go_simp <;> (try with_reducible rfl)
  (try simp only [List.getElem_toArray, List.getElem_cons_succ, List.getElem_cons_zero, Act.put, List.setIfInBounds_toArray, List.set_cons_zero, List.set_cons_succ])
  refine wpAnyH_take (i := 30) (v := ?vv30) rfl (by kernel_rfl) (by kernel_rfl) (by kernel_rfl) (fun _ _ _ h => h) (Or.inl ⟨by rfl, ?yv30⟩) (by assumption) ?rv30
  case yv30 => intro w hSw; (try dsimp only at hSw); go_simp <;> (try with_reducible rfl)
  (try simp only [List.getElem_toArray, List.getElem_cons_succ, List.getElem_cons_zero, Act.put, List.setIfInBounds_toArray, List.set_cons_zero, List.set_cons_succ])
  refine wpAnyH_take (i := 31) (v := ?vv31) rfl (by kernel_rfl) (by kernel_rfl) (by kernel_rfl) (fun _ _ _ h => h) (Or.inl ⟨by rfl, ?yv31⟩) (by assumption) ?rv31
  case yv31 => intro w hSw; (try dsimp only at hSw); go_simp <;> (try with_reducible rfl)
  (try simp only [List.getElem_toArray, List.getElem_cons_succ, List.getElem_cons_zero, Act.put, List.setIfInBounds_toArray, List.set_cons_zero, List.set_cons_succ])
  refine wpAnyH_take (i := 32) (v := ?vv32) rfl (by kernel_rfl) (by kernel_rfl) (by kernel_rfl) (fun _ _ _ h => h) (Or.inl ⟨by rfl, ?yv32⟩) (by assumption) ?rv32
  case yv32 => intro w hSw; (try dsimp only at hSw); go_simp <;> (try with_reducible rfl)
  (try simp only [List.getElem_toArray, List.getElem_cons_succ, List.getElem_cons_zero, Act.put, List.setIfInBounds_toArray, List.set_cons_zero, List.set_cons_succ])
  refine' wpAnyH_take (i := 33) (v := _) rfl (by kernel_rfl) (by kernel_rfl) (by kernel_rfl) (fun _ _ _ h => h) (yieldsIf_load_mid (by rfl) _ _ (by rfl) _ _ (by rfl) _ _ ?Sv33 ?uv33 ?dv33 ?iv33) (by assumption) ?rv33
  case Sv33 => exact (by intro w h; exact K10.out _ h)
  case uv33 => exact hunH
  case dv33 => rfl
  case iv33 => exact hzH
  (try simp only [List.getElem_toArray, List.getElem_cons_succ, List.getElem_cons_zero, Act.put, List.setIfInBounds_toArray, List.set_cons_zero, List.set_cons_succ])
  have eb := HS.out.hdv
  refine wpAnyH_take (i := 34) (v := ?vv34) rfl (by kernel_rfl) (by kernel_rfl) (by kernel_rfl) (fun _ _ _ h => h) (Or.inl ⟨by rfl, ?yv34⟩) (by assumption) ?rv34
  case yv34 => intro w hSw; (try dsimp only at hSw); go_simp <;> (try with_reducible rfl)
  (try simp only [List.getElem_toArray, List.getElem_cons_succ, List.getElem_cons_zero, Act.put, List.setIfInBounds_toArray, List.set_cons_zero, List.set_cons_succ])
  refine wpAnyH_take (i := 35) (v := ?vv35) rfl (by kernel_rfl) (by kernel_rfl) (by kernel_rfl) (fun _ _ _ h => h) (Or.inl ⟨by rfl, ?yv35⟩) (by assumption) ?rv35
  case yv35 => intro w hSw; (try dsimp only at hSw); go_simp <;> (try with_reducible rfl)
  (try simp only [List.getElem_toArray, List.getElem_cons_succ, List.getElem_cons_zero, Act.put, List.setIfInBounds_toArray, List.set_cons_zero, List.set_cons_succ])
  refine wpAnyH_take (i := 36) (v := ?vv36) rfl (by kernel_rfl) (by kernel_rfl) (by kernel_rfl) (fun _ _ _ h => h) (Or.inl ⟨by rfl, ?yv36⟩) (by assumption) ?rv36
  case yv36 => intro w hSw; (try dsimp only at hSw); go_simp <;> (try with_reducible rfl)
  (try simp only [List.getElem_toArray, List.getElem_cons_succ, List.getElem_cons_zero, Act.put, List.setIfInBounds_toArray, List.set_cons_zero, List.set_cons_succ])
  refine wpAnyH_take (i := 37) (v := ?vv37) rfl (by kernel_rfl) (by kernel_rfl) (by kernel_rfl) (fun _ _ _ h => h) (Or.inl ⟨by rfl, ?yv37⟩) (by assumption) ?rv37
  case yv37 => intro w hSw; (try dsimp only at hSw); go_simp <;> (try with_reducible rfl)
  (try simp only [List.getElem_toArray, List.getElem_cons_succ, List.getElem_cons_zero, Act.put, List.setIfInBounds_toArray, List.set_cons_zero, List.set_cons_succ])
  refine wpAnyH_done (by kernel_rfl) ?_ _
  clear hHeld eb K1 K6 K10 B1 B6 B10 M5
  have M12 := M12.next hk51
  have B14 := B14.next hk51 B14.lt
  have B17 := B17.next hk51 B17.lt
  have B18 := B18.next hk51 B18.lt
  have hbe := below_join hbe hk51
  clear hk51
  go_wp2_with fail
  (with_reducible refine (HS.out.fR1 _).mono ?_)
  rintro e w52 ⟨rfl, hb52⟩
  have M12 := M12.next hb52
  have B14 := B14.next hb52 B14.lt
  have B17 := B17.next hb52 B17.lt
  have B18 := B18.next hb52 B18.lt
  have hbe := below_join hbe hb52
  clear hb52
  go_wp2_with fail
  (with_reducible refine (HS.out.fD _).mono ?_)
  rintro e w53 ⟨rfl, hb53⟩
  have M12 := M12.next hb53
  have B14 := B14.next hb53 B14.lt
  have B17 := B17.next hb53 B17.lt
  have B18 := B18.next hb53 B18.lt
  have hbe := below_join hbe hb53
  clear hb53
  go_wp2_with fail
  (with_reducible refine (HS.out.fG _).mono ?_)
  rintro e w54 ⟨rfl, hb54⟩
  have M12 := M12.next hb54
  have B14 := B14.next hb54 B14.lt
  have B17 := B17.next hb54 B17.lt
  have B18 := B18.next hb54 B18.lt
  have hbe := below_join hbe hb54
  clear hb54
  go_wp2_with fail
  (with_reducible refine (HS.out.fR4 _).mono ?_)
  rintro e w55 ⟨rfl, hb55⟩
  have M12 := M12.next hb55
  have B14 := B14.next hb55 B14.lt
  have B17 := B17.next hb55 B17.lt
  have B18 := B18.next hb55 B18.lt
  have hbe := below_join hbe hb55
  clear hb55
  go_wp2_with (with_reducible refine wpList_slice4 (o := ⟨some 130, .buildSlice 82 4 #[(0, .tmp 126), (1, .tmp 127), (2, .tmp 128), (3, .tmp 129)], _, _, _, _⟩) (by with_unfolding_all rfl) (.tmp 126) (.tmp 127) (.tmp 128) (.tmp 129) (by with_unfolding_all rfl) R1 D G R4 (by with_unfolding_all rfl) (by with_unfolding_all rfl) (by with_unfolding_all rfl) (by with_unfolding_all rfl) ?_)
  intro gt w56 hgt hb56 hltt PT
  have M12 := M12.next hb56
  have B14 := B14.next hb56 B14.lt
  have B17 := B17.next hb56 B17.lt
  have B18 := B18.next hb56 B18.lt
  have hbe := below_join hbe hb56
  clear hb56 hgt hltt
  go_wp2_with fail
  (with_reducible refine (HS.out.same4 _ _ _ _ _ M12 PT).mono ?_)
  rintro e w57 ⟨rfl, hb57⟩
  have M12 := M12.next hb57
  have B14 := B14.next hb57 B14.lt
  have B17 := B17.next hb57 B17.lt
  have B18 := B18.next hb57 B18.lt
  have hbe := below_join hbe hb57
  clear hb57
  clear PT M12
  have zT := HZS.out T
  have zM := HZM.out D
  go_wp2_with (first | (with_reducible refine wpList_getg (o := ⟨some 138, .load 88 (.tmp 14), _, _, _, _⟩) (by with_unfolding_all rfl) 88 (.tmp 14) (by with_unfolding_all rfl) g14 0 (by with_unfolding_all rfl) B14 D.cells (cs_all _) _ (by exact hunM) (by with_unfolding_all rfl) (by exact zM) ?_) | (with_reducible refine wpList_buildw (o := ⟨some 139, .build 23 #[(0, (.const (.int .i64 49152)))], _, _, _, _⟩) (by with_unfolding_all rfl) 23 #[(0, (.const (.int .i64 49152)))] (by with_unfolding_all rfl) #[(0, .int .i64 49152)] (by with_unfolding_all rfl) (.agg L49.toArray) HS.out.b49 ?_) | (with_reducible refine wpList_buildw (o := ⟨some 140, .build 23 #[(0, (.const (.int .i64 16384)))], _, _, _, _⟩) (by with_unfolding_all rfl) 23 #[(0, (.const (.int .i64 16384)))] (by with_unfolding_all rfl) #[(0, .int .i64 16384)] (by with_unfolding_all rfl) (.agg L16.toArray) HS.out.b16 ?_) | (with_reducible refine wpList_buildw (o := ⟨some 141, .build 88 #[(0, .tmp 139), (1, .tmp 140)], _, _, _, _⟩) (by with_unfolding_all rfl) 88 #[(0, .tmp 139), (1, .tmp 140)] (by with_unfolding_all rfl) #[(0, .agg L49.toArray), (1, .agg L16.toArray)] (by with_unfolding_all rfl) (.agg D.cells.toArray) HS.out.bD ?_) | (with_reducible refine wpList_getg (o := ⟨some 149, .load 25 (.tmp 17), _, _, _, _⟩) (by with_unfolding_all rfl) 25 (.tmp 17) (by with_unfolding_all rfl) g17 0 (by with_unfolding_all rfl) B17 T.cells (cs_all _) _ (by exact hunP) (by with_unfolding_all rfl) (by exact zT) ?_))
  (with_reducible refine (HS.out.text _).mono ?_)
  rintro e w58 ⟨rfl, hb58⟩
  have B14 := B14.next hb58 B14.lt
  have B17 := B17.next hb58 B17.lt
  have B18 := B18.next hb58 B18.lt
  have hbe := below_join hbe hb58
  clear hb58
  go_wp2_with (first | (with_reducible refine wpList_getg (o := ⟨some 158, .load 25 (.tmp 18), _, _, _, _⟩) (by with_unfolding_all rfl) 25 (.tmp 18) (by with_unfolding_all rfl) g18 0 (by with_unfolding_all rfl) B18 T.cells (cs_all _) _ (by exact hunP) (by with_unfolding_all rfl) (by exact zT) ?_) | (with_reducible refine wpList_getg (o := ⟨some 159, .load 25 (.tmp 17), _, _, _, _⟩) (by with_unfolding_all rfl) 25 (.tmp 17) (by with_unfolding_all rfl) g17 0 (by with_unfolding_all rfl) B17 T.cells (cs_all _) _ (by exact hunP) (by with_unfolding_all rfl) (by exact zT) ?_) | (with_reducible refine wpList_getg (o := ⟨some 163, .load 25 (.tmp 17), _, _, _, _⟩) (by with_unfolding_all rfl) 25 (.tmp 17) (by with_unfolding_all rfl) g17 0 (by with_unfolding_all rfl) B17 T.cells (cs_all _) _ (by exact hunP) (by with_unfolding_all rfl) (by exact zT) ?_))
  (with_reducible refine (HS.out.right _).mono ?_)
  rintro e w59 ⟨rfl, hb59⟩
  have B14 := B14.next hb59 B14.lt
  have B17 := B17.next hb59 B17.lt
  have B18 := B18.next hb59 B18.lt
  have hbe := below_join hbe hb59
  clear hb59
  go_wp2_with (first | (with_reducible refine wpList_getg (o := ⟨some 167, .load 25 (.tmp 17), _, _, _, _⟩) (by with_unfolding_all rfl) 25 (.tmp 17) (by with_unfolding_all rfl) g17 0 (by with_unfolding_all rfl) B17 T.cells (cs_all _) _ (by exact hunP) (by with_unfolding_all rfl) (by exact zT) ?_) | (with_reducible refine wpList_buildw (o := ⟨some 168, .build 23 #[(9, (.const (.int .i64 7)))], _, _, _, _⟩) (by with_unfolding_all rfl) 23 #[(9, (.const (.int .i64 7)))] (by with_unfolding_all rfl) #[(9, .int .i64 7)] (by with_unfolding_all rfl) (.agg L7.toArray) HS.out.b7 ?_))
  (with_reducible refine (HS.out.fits _).mono ?_)
  rintro e w60 ⟨rfl, hb60⟩
  have B14 := B14.next hb60 B14.lt
  have B17 := B17.next hb60 B17.lt
  have B18 := B18.next hb60 B18.lt
  have hbe := below_join hbe hb60
  clear hb60
  go_wp2
  go_ret
  exact ⟨rfl, hbe⟩
end Go.Proofs.YtkkgfdfjgfigcaaDoor

/-
  Contract of the walk over the statements' own sanity, its facts put in. Conditions: the library's variable lies there.
-/
namespace Go.Proofs.YtkkgfdfjgfigcaaDoor
set_option linter.unusedVariables false
set_option linter.unusedSimpArgs false
open Go.RowKit

theorem fits_any (p : Pat) (h : Nat → Bool) (w : World) (hf : p.fits h) :
    Calls Tryd.prog 87 #[.agg p.cells.toArray, .agg (H h).toArray] w fun e w' => e = .returned (.bool true) ∧ Below w.heap.size w w' := by
  have := match_any p h w
  rw [decide_eq_true hf] at this
  exact this
theorem samePs_self : ∀ l : List Pat, samePs l l = true
  | [] => rfl
  | p :: l => by
    show (p.same p && samePs l l) = true
    rw [samePs_self l, Pat.same_iff.2 ⟨fun _ _ => rfl, fun _ _ => rfl⟩]; rfl
theorem sane_facts : SaneF (.first 32768 0) (.first 16384 16384) (.first 32768 32768) (.first 0 0) (.first 49152 16384) (.first 49152 0) (.first 49152 49152) (.first 49152 32768) (.first 57344 8192) (.first 57344 49152) tagP
    (H (bitsOf (word0 32768))) (H (bitsOf (word0 49152))) (H (bitsOf (word0 16384))) (H tagP.b) (H (hd 49152)) (H tagP.m ++ H no) where
  fA w := first_any 32768 0 w (by decide) (by decide)
  fB w := first_any 16384 16384 w (by decide) (by decide)
  fC w := first_any 32768 32768 w (by decide) (by decide)
  fZ w := first_any 0 0 w (by decide) (by decide)
  fD w := first_any 49152 16384 w (by decide) (by decide)
  fE w := first_any 49152 0 w (by decide) (by decide)
  fF w := first_any 49152 49152 w (by decide) (by decide)
  fG w := first_any 49152 32768 w (by decide) (by decide)
  fR1 w := first_any 57344 8192 w (by decide) (by decide)
  fR4 w := first_any 57344 49152 w (by decide) (by decide)
  and1 w := by
    have h := and_any (.first 32768 0) (.first 16384 16384) w
    rw [cells_raw sane_and.1, decide_eq_true sane_and.2.1] at h
    exact h
  and2 w := by
    have h := and_any (.first 32768 0) (.first 32768 32768) w
    rw [show (Pat.first 32768 0).andV (.first 32768 32768) = .zero from if_neg sane_and.2.2, decide_eq_false sane_and.2.2, ← cells_raw sane_zero] at h
    exact h
  minus w := by
    refine (minus_any (.first 0 0) (.first 49152 16384) w first_ok.1).mono ?_
    rintro e w' ⟨v, rfl, how, hb⟩
    obtain ⟨A, c, rfl, _⟩ := own_shape how
    have hr : ((Pat.first 0 0).minus (.first 49152 16384)).map Pat.raw = [Pat.first 32768 32768, Pat.first 49152 0].map Pat.raw := sane_minus
    have hp := own_pats how
    rw [raw_len hr] at how ⊢
    refine ⟨A, c, rfl, ?_, hb⟩
    rw [patCells_raw, hr, ← patCells_raw] at how
    exact own_pats how
  join1 w := by
    have h := join2_any (.first 49152 0) (.first 49152 16384) w
    rw [cells_raw sane_join.2.1, sane_join.1] at h
    exact h
  join2 w := by
    have h := join2_any (.first 49152 0) (.first 49152 49152) w
    rw [show (Pat.first 49152 0).joinV (.first 49152 49152) = .zero from if_neg (by rw [sane_join.2.2]; decide), sane_join.2.2, ← cells_raw sane_zero] at h
    exact h
  outs w g cl hg hp := by
    have hok : ∀ q, q ∈ [Pat.first 32768 0, Pat.first 49152 32768] → q.ok := fun q hq => by
      simp only [List.mem_cons, List.mem_nil_iff, or_false] at hq
      rcases hq with rfl | rfl
      · exact first_ok.2.1
      · exact first_ok.2.2.1
    refine (outside_any cl (some ⟨g, 0, none⟩) [.first 32768 0, .first 49152 32768] (.first 0 0) w hok first_ok.1 (by decide) hp (fun g' o e => by injection e with e; injection e with e _; omega)).mono ?_
    rintro e w' ⟨R, rfl, hf, hb⟩
    obtain ⟨f, rfl, hh⟩ := sane_out hf
    refine ⟨?_, hb⟩
    show Ending.returned (.tuple #[.agg (H f).toArray, .bool true]) = _
    rw [H_iV, hh, ← H_iV]
  rng w := by
    refine (range_any 0 3 1 6 w (by decide) (by decide) (by decide) (by decide) (by decide)).mono ?_
    rintro e w' ⟨A, c, rfl, how, hb⟩
    have hr : (rangeL 0 3 1 6).map Pat.raw = [Pat.first 57344 8192, Pat.first 49152 16384, Pat.first 49152 32768, Pat.first 57344 49152].map Pat.raw := sane_range
    rw [raw_len hr] at how ⊢
    refine ⟨A, c, rfl, ?_, hb⟩
    rw [patCells_raw, hr, ← patCells_raw] at how
    exact own_pats how
  then1 w := by
    have h := then_any (.first 32768 32768) (.first 49152 16384) w
    rw [cells_raw sane_then] at h
    exact h
  back1 w := by
    have h := back_any (.first 49152 16384) (.first 32768 32768) w
    rw [show (Pat.first 49152 16384).backV (.first 32768 32768) = .zero from if_neg sane_back, decide_eq_false sane_back, ← cells_raw sane_zero] at h
    exact h
  parse w hg := by
    refine (parse_any tagS w (by decide) hg).mono ?_
    rintro e w' ⟨hp, hb⟩
    refine ⟨?_, hb⟩
    rcases hp with ⟨p, _, _, h1, h2, _, he⟩ | ⟨_, hno⟩
    · rw [he]
      have : p.raw = tagP.raw := by
        unfold Pat.raw
        rw [h1, h2, ← sane_parse.2.1, ← sane_parse.2.2]
      rw [cells_raw this]
    · exact absurd sane_text (hno tagP first_ok.2.2.2 sane_parse.1 sane_parse.2.1 sane_parse.2.2)
  same2 w A' B' c d h1 h2 := by
    have h := rsame_any A' B' c d [Pat.first 32768 32768, Pat.first 49152 0] [Pat.first 32768 32768, Pat.first 49152 0] w (by decide) (by decide) h1 h2
    rw [samePs_self] at h
    exact h
  same4 w A' B' c d h1 h2 := by
    have h := rsame_any A' B' c d [Pat.first 57344 8192, Pat.first 49152 16384, Pat.first 49152 32768, Pat.first 57344 49152] [Pat.first 57344 8192, Pat.first 49152 16384, Pat.first 49152 32768, Pat.first 57344 49152] w (by decide) (by decide) h1 h2
    rw [samePs_self] at h
    exact h
  text w := by
    have h := text_any tagP w
    rw [sane_text] at h
    exact h
  right w := by
    have h := right_any [0, 0, 0, 0, 0, 0, 0, 0, 0, 65535] [0, 0, 0, 0, 0, 0, 0, 0, 0, 7] w rfl rfl
    rw [sane_right, ← sane_tag.1, ← sane_tag.2, ← H_iV, ← H_iV] at h
    exact h
  fits w := fits_any tagP tagP.b w sane_match
  b32 w := by rw [H_word0 32768 (by decide)]; exact run_word0 w 32768
  b49 w := by rw [H_word0 49152 (by decide)]; exact run_word0 w 49152
  b16 w := by rw [H_word0 16384 (by decide)]; exact run_word0 w 16384
  b7 w := by
    rw [H_iV, sane_tag.2]
    kernel_rfl
  hd := rfl
  hl := ⟨H_length _, H_one _, by rw [H_length]; exact Tryd.szH⟩
  bC w := run_buildM w _ _ (H_length _) (H_length _)
  bD w := run_buildM w _ _ (H_length _) (H_length _)
  bZ w := by rw [cells_raw sane_zero]; exact run_buildP0 w
  hdv w := by
    have e : (#[.int .i64 49152, .int .i64 0, .int .i64 0, .int .i64 0, .int .i64 0, .int .i64 0, .int .i64 0, .int .i64 0, .int .i64 0, .int .i64 0] : Array Value) = (H (hd 49152)).toArray := by
      rw [show H (hd 49152) = (word0 49152).map nV from H_word0 49152 (by decide)]; rfl
    rw [e, H_iV, eql_head w _ _ (HI_length _) (HI_length _)]; simp
  put1 := ⟨by
    rw [cells_raw sane_zero, H_iV tagP.m, sane_tag.1]
    show splice (H no ++ H no) 9 [.int .i64 65535] = _ ++ H no
    rw [H_rep]; rfl, by rw [List.length_append, H_length, H_length]⟩
  put2 := by
    show splice (H tagP.m ++ H no) 19 [.int .i64 7] = H tagP.m ++ H tagP.b
    rw [H_iV tagP.m, sane_tag.1, H_iV tagP.b, sane_tag.2, H_rep]; rfl
  eqD w := by rw [eql_pat]; simp
  eqA w := by rw [eql_pat]; simp
  eqT w := by rw [eql_pat]; simp
  eqM w := by rw [eql_mod]; simp
  eqH w := by rw [H_iV, eql_head w _ _ (HI_length _) (HI_length _)]; simp
/-- The statements' own sanity. -/
theorem sanity_any (w : World) (hg : GOk w) :
    Calls Tryd.prog 14 #[] w fun e w' => e = .returned (.bool true) ∧ Below w.heap.size w w' :=
  sanity_of _ _ _ _ _ _ _ _ _ _ _ _ _ _ _ _ _ sane_facts w hg
end Go.Proofs.YtkkgfdfjgfigcaaDoor
