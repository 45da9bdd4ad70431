/-
  Laws of a walk over variables that are arrays or structs of the call's own: a new one, reading and writing a part of one, handing one back. Each leaves the world under a new name. Conditions: the part lies inside the variable.
-/
import Derived.WalkKit
import Derived.WalkMore
import Derived.Lib.Hide
import Derived.Laws.Rows
import Derived.Laws.CopyRow
import Derived.Laws.CopyOwn
import Derived.Laws.World
import Derived.Deep.MidRow
import Derived.Lib.BufferWrite
import Derived.BigQuiet
namespace Go.Proofs.YtcefaipjncohmaaGreatDoor
set_option linter.unusedVariables false
set_option linter.unusedSimpArgs false
open Go.RowKit
variable {P : Program}

/-- Block g is a variable of type t with these cells. -/
def Blk (w : World) (g : Nat) (t : TypeId) (l : List Value) : Prop := w.heap[g]? = some (.cells l.toArray t (0, 0))

/-- Only block g may have turned. -/
structure Upd (g : Nat) (w w' : World) : Prop where
  os : w'.os = w.os
  tape : w'.tape = w.tape
  output : w'.output = w.output
  size : w'.heap.size = w.heap.size
  block : ∀ k, k ≠ g → w'.heap[k]? = w.heap[k]?

theorem Upd.below {g B : Nat} {w w' : World} (h : Upd g w w') (hB : B ≤ g) : Below B w w' := ⟨h.os, h.tape, h.output, Nat.le_of_eq h.size.symm, fun k hk => h.block k (by omega)⟩
theorem Blk.upd {w w' : World} {g g' : Nat} {t : TypeId} {l : List Value} (h : Blk w g t l) (hu : Upd g' w w') (hne : g ≠ g') : Blk w' g t l := by unfold Blk; rw [hu.block g hne]; exact h
theorem Blk.next {w w' : World} {g B : Nat} {t : TypeId} {l : List Value} (h : Blk w g t l) (hb : Below B w w') (hg : g < B) : Blk w' g t l := by unfold Blk; rw [hb.block g hg]; exact h
theorem Blk.lt {w : World} {g : Nat} {t : TypeId} {l : List Value} (h : Blk w g t l) : g < w.heap.size := by
  rcases Nat.lt_or_ge g w.heap.size with h1 | h1
  · exact h1
  · unfold Blk at h; rw [Array.getElem?_eq_none h1] at h; cases h
theorem Blk.cell {w : World} {g : Nat} {t : TypeId} {l : List Value} (h : Blk w g t l) {k : Nat} {v : Value} (hv : l[k]? = some v) : w.cell? ⟨g, k, none⟩ = some v := by
  rw [cell_of_row w g k l.toArray t (0, 0) h]; simpa using hv
theorem Blk.drewN {w : World} {g : Nat} {t : TypeId} {l : List Value} (h : Blk w g t l) (n : Nat) : Blk (w.drewN n) g t l := h
theorem Blk.frozen {w : World} {g : Nat} {t : TypeId} {l : List Value} (h : Blk w g t l) (k : Nat) : w.frozen? ⟨g, k, none⟩ = false := by
  unfold Blk at h; simp [World.frozen?, h]
theorem Blk.eq {w : World} {g : Nat} {t : TypeId} {l l' : List Value} (h : Blk w g t l) (e : l = l') : Blk w g t l' := e ▸ h

theorem Upd.trans {g : Nat} {a b c : World} (h : Upd g a b) (k : Upd g b c) : Upd g a c := ⟨k.os.trans h.os, k.tape.trans h.tape, k.output.trans h.output, k.size.trans h.size, fun i hi => (k.block i hi).trans (h.block i hi)⟩
theorem splice_len {α : Type} (L : List α) (o : Nat) (cs : List α) : (splice L o cs).length = min o L.length + (cs.length + (L.length - (o + cs.length))) := by simp [splice]
theorem splice_get {α : Type} (L : List α) (o : Nat) (cs : List α) (h : o ≤ L.length) (i : Nat) : (splice L o cs)[i]? = if i < o then L[i]? else if i < o + cs.length then cs[i - o]? else L[i]? := by
  unfold splice
  have h1 : (L.take o).length = o := by rw [List.length_take]; omega
  by_cases hi : i < o
  · rw [if_pos hi, List.getElem?_append_left (by rw [h1]; exact hi), List.getElem?_take, if_pos hi]
  · rw [if_neg hi, List.getElem?_append_right (by rw [h1]; omega), h1]
    by_cases h2 : i < o + cs.length
    · rw [if_pos h2, List.getElem?_append_left (by omega)]
    · rw [if_neg h2, List.getElem?_append_right (by omega), List.getElem?_drop]
      congr 1
      omega
theorem splice_splice {α : Type} (L : List α) (o : Nat) (cs ds : List α) (h : o + cs.length + ds.length ≤ L.length) (k : Nat) (hk : k = o + cs.length) : splice (splice L o cs) k ds = splice L o (cs ++ ds) := by
  subst hk
  apply List.ext_getElem?
  intro i
  rw [splice_get _ _ _ (by rw [splice_len]; omega), splice_get _ _ _ (by omega), splice_get _ _ _ (by omega), List.length_append]
  repeat' split
  all_goals first
    | omega
    | rfl
    | (rw [List.getElem?_append_left (by omega)])
    | (rw [List.getElem?_append_right (by omega)]; congr 1; omega)
theorem splice_all {α : Type} (L : List α) (cs : List α) (h : cs.length = L.length) : splice L 0 cs = cs := by
  unfold splice
  rw [List.drop_eq_nil_of_le (by omega)]
  simp

theorem upd_setRow (w : World) (g : Nat) (cs : Array Value) : Upd g w (w.setRow g cs) := ⟨rfl, rfl, rfl, by simp [World.setRow], fun k hk => setRow_other w g k cs hk⟩
theorem blk_setRow {w : World} {g : Nat} {t : TypeId} {l : List Value} (h : Blk w g t l) (cs : List Value) : Blk (w.setRow g cs.toArray) g t cs := setRow_heap w g l.toArray cs.toArray t (0, 0) h

/-- A store of a value's cells into a variable, from place o on. -/
theorem run_put (w : World) (g o : Nat) (t ty : TypeId) (l : List Value) (v : Value) (cs : List Value) (hv : v.cells = cs.toArray) (h : Blk w g t l) (hi : (P.info? ty).map (·.size) = some cs.length)
    (hl : o + cs.length ≤ l.length) (h1 : ∀ u ∈ cs, u.oneCell' = true) : (storeVar ty ⟨g, o, none⟩ v).run P w = .ok () (w.setRow g (splice l o cs).toArray) := by
  have := run_storeCells_at (P := P) g o t cs 0 l.toArray w h (by simpa using hl) h1
  simp only [Nat.add_zero] at this
  cases hq : P.info? ty with
  | none => simp [hq] at hi
  | some i =>
    have hs : i.size = cs.length := by simpa [hq] using hi
    simp [storeVar, sizeOf, typeInfo, hq, hv, hs, this, splice, List.append_assoc]

theorem wpList_put {ops : Array Oper} {rest : List Oper} {o : Oper} {a : Act} {w : World} {Q : Exit → Act → World → Prop} (hgd : o.guard = none) (ty : TypeId) (x y : Operand) (ho : o.op = .store ty x y)
    (g k : Nat) (hx : a.eval x = .pointer (some ⟨g, k, none⟩)) (v : Value) (hy : a.eval y = v) {t : TypeId} {l : List Value} (hb : Blk w g t l) (cs : List Value) (hv : v.cells = cs.toArray)
    (hi : (P.info? ty).map (·.size) = some cs.length) (hl : k + cs.length ≤ l.length) (h1 : ∀ u ∈ cs, u.oneCell' = true)
    (h : ∀ w', Upd g w w' → Blk w' g t (splice l k cs) → wpList P ops Q rest (a.put o.dst undef) w') : wpList P ops Q (o :: rest) a w := by
  refine wpList_plain hgd fun K hK => ?_
  unfold Oper.wp execOp
  simp only [ho, hx, hy, Instr.storeAt, Instr.sureAddr, Sem.run_bind, Sem.run_pure, Result.andThen_ok, run_put w g k t ty l v cs hv hb hi hl h1]
  exact hK _ _ (h _ (upd_setRow w g _) (blk_setRow hb _))

/-- Reading a part of a variable that is an array or a struct. -/
theorem run_get (w : World) (g k : Nat) (t ty : TypeId) (l cs : List Value) (h : Blk w g t l) (hcs : (l.drop k).take cs.length = cs) (d : TypeDesc)
    (hu : P.underlying ty = some d) (hd : d.isRow = true) (hi : (P.info? ty).map (·.size) = some cs.length) : (loadVar ty ⟨g, k, none⟩).run P w = .ok (.agg cs.toArray) w :=
  run_loadVar_mid w g k ty cs d (fun j v hv => h.cell (by
    rw [← hcs, List.getElem?_take] at hv
    split at hv
    · rwa [List.getElem?_drop] at hv
    · cases hv)) hu hd hi
theorem wpList_get {ops : Array Oper} {rest : List Oper} {o : Oper} {a : Act} {w : World} {Q : Exit → Act → World → Prop} (hgd : o.guard = none) (ty : TypeId) (x : Operand) (ho : o.op = .load ty x)
    (g k : Nat) (hx : a.eval x = .pointer (some ⟨g, k, none⟩)) {t : TypeId} {l : List Value} (hb : Blk w g t l) (cs : List Value) (hcs : (l.drop k).take cs.length = cs) (d : TypeDesc)
    (hu : P.underlying ty = some d) (hd : d.isRow = true) (hi : (P.info? ty).map (·.size) = some cs.length)
    (h : wpList P ops Q rest (a.put o.dst (.agg cs.toArray)) w) : wpList P ops Q (o :: rest) a w := by
  refine wpList_plain hgd fun K hK => ?_
  unfold Oper.wp execOp
  simp only [ho, hx, Instr.loadAt, Instr.sureAddr, Sem.run_bind, Sem.run_pure, Result.andThen_ok, run_get w g k t ty l cs hb hcs d hu hd hi]
  exact hK _ _ h

theorem below_new (w : World) (o : Obj) : Below w.heap.size w (w.alloc o) := (Below.refl _ _).alloc (Nat.le_refl _) o
theorem blk_new (w : World) (t : TypeId) (cs : List Value) : Blk (w.alloc (.cells cs.toArray t)) w.heap.size t cs := heap_alloc_new w _

/-- A new variable: its zero value. -/
theorem wpList_alloc {ops : Array Oper} {rest : List Oper} {o : Oper} {a : Act} {w : World} {Q : Exit → Act → World → Prop} (hgd : o.guard = none) (ty : TypeId) (ho : o.op = .alloc ty) (z : Value) (cs : List Value)
    (hz : (P.info? ty).map (·.zero) = some (some z)) (hc : z.cells = cs.toArray)
    (h : ∀ g w', Hid (g = w.heap.size) → Hid (w'.heap.size = g + 1) → Below g w w' → Blk w' g ty cs → wpList P ops Q rest (a.put o.dst (.pointer (some ⟨g, 0, none⟩))) w') : wpList P ops Q (o :: rest) a w := by
  refine wpList_plain hgd fun K hK => ?_
  cases hq : P.info? ty with
  | none => simp [hq] at hz
  | some i =>
    have hz' : i.zero = some z := by simpa [hq] using hz
    unfold Oper.wp execOp
    simp [ho, Instr.alloc, newVar, newRow, zeroValue, typeInfo, hq, hz', hc]
    exact hK _ _ (h _ _ rfl (by show (w.alloc _).heap.size = _; simp) (below_new w _) (blk_new w ty cs))
theorem wpList_box {ops : Array Oper} {rest : List Oper} {o : Oper} {a : Act} {w : World} {Q : Exit → Act → World → Prop} (hgd : o.guard = none) (ty : TypeId) (x : Operand) (ho : o.op = .box ty x) (v : Value) (cs : List Value)
    (hx : a.eval x = v) (hc : v.cells = cs.toArray)
    (h : ∀ g w', Hid (g = w.heap.size) → Hid (w'.heap.size = g + 1) → Below g w w' → Blk w' g ty cs → wpList P ops Q rest (a.put o.dst (.pointer (some ⟨g, 0, none⟩))) w') : wpList P ops Q (o :: rest) a w := by
  refine wpList_plain hgd fun K hK => ?_
  unfold Oper.wp execOp
  simp [ho, hx, Instr.box, newVar, newRow, hc]
  exact hK _ _ (h _ _ rfl (by show (w.alloc _).heap.size = _; simp) (below_new w _) (blk_new w ty cs))

theorem addr_mid (g b k : Nat) : (⟨g, b, none⟩ : Addr).add k = ⟨g, b + k, none⟩ := Addr.add_mid g b k
theorem arrayLen_of {ty e : TypeId} {n : Nat} (hu : P.underlying ty = some (.array n e)) : P.arrayLen ty = n ∧ P.elem ty = e := by
  constructor
  · unfold Program.arrayLen; rw [hu]
  · unfold Program.elem; rw [hu]
/-- 'x[lo:]' of a variable that is an array. -/
theorem wpList_cutL {ops : Array Oper} {rest : List Oper} {o : Oper} {a : Act} {w : World} {Q : Exit → Act → World → Prop} (hgd : o.guard = none) (ty : TypeId) (x lo : Operand) (ho : o.op = .slice ty x (some lo) none none)
    (g b : Nat) (hx : a.eval x = .pointer (some ⟨g, b, none⟩)) (k : Nat) (hlo : a.eval lo = .int .i64 (k : Int)) (n : Nat) (e : TypeId) (hu : P.underlying ty = some (.array n e)) (hs : (P.info? e).map (·.size) = some 1) (hk : k < n)
    (h : wpList P ops Q rest (a.put o.dst (.slice (some ⟨g, b + k, none⟩) (n - k) (n - k))) w) : wpList P ops Q (o :: rest) a w := by
  refine wpList_plain hgd fun K hK => ?_
  obtain ⟨e1, e2⟩ := arrayLen_of hu
  have hrun := run_sliceAt_array_l (P := P) w ty ⟨g, b, none⟩ (by rw [e1, e2]; exact hu) .i64 (k : Int) (by omega) (by rw [e1]; omega)
  cases hq : P.info? e with
  | none => simp [hq] at hs
  | some i =>
    have hz : i.size = 1 := by simpa [hq] using hs
    rw [e1, e2] at hrun
    simp [sizeOf, typeInfo, hq, hz, slicedAt, addr_mid, Nat.ne_of_gt hk] at hrun
    unfold Oper.wp execOp
    simp [ho, hx, hlo, hrun]
    exact hK _ _ h
/-- 'x[:hi]' of a variable that is an array. -/
theorem wpList_cutH {ops : Array Oper} {rest : List Oper} {o : Oper} {a : Act} {w : World} {Q : Exit → Act → World → Prop} (hgd : o.guard = none) (ty : TypeId) (x hi : Operand) (ho : o.op = .slice ty x none (some hi) none)
    (g b : Nat) (hx : a.eval x = .pointer (some ⟨g, b, none⟩)) (k : Nat) (hhi : a.eval hi = .int .i64 (k : Int)) (n : Nat) (e : TypeId) (hu : P.underlying ty = some (.array n e)) (hs : (P.info? e).map (·.size) = some 1) (hk : k ≤ n) (hn : n ≠ 0)
    (h : wpList P ops Q rest (a.put o.dst (.slice (some ⟨g, b, none⟩) k n)) w) : wpList P ops Q (o :: rest) a w := by
  refine wpList_plain hgd fun K hK => ?_
  obtain ⟨e1, e2⟩ := arrayLen_of hu
  have hrun := run_sliceAt_array_h (P := P) w ty ⟨g, b, none⟩ (by rw [e1, e2]; exact hu) .i64 (k : Int) (by omega) (by rw [e1]; omega)
  cases hq : P.info? e with
  | none => simp [hq] at hs
  | some i =>
    have hz : i.size = 1 := by simpa [hq] using hs
    rw [e1, e2] at hrun
    simp [sizeOf, typeInfo, hq, hz, slicedAt, addr_mid, hn] at hrun
    unfold Oper.wp execOp
    simp [ho, hx, hhi, hrun]
    exact hK _ _ h
/-- 'x[:]' of a variable that is an array. -/
theorem wpList_cutA {ops : Array Oper} {rest : List Oper} {o : Oper} {a : Act} {w : World} {Q : Exit → Act → World → Prop} (hgd : o.guard = none) (ty : TypeId) (x : Operand) (ho : o.op = .slice ty x none none none)
    (g b : Nat) (hx : a.eval x = .pointer (some ⟨g, b, none⟩)) (n : Nat) (e : TypeId) (hu : P.underlying ty = some (.array n e)) (hs : (P.info? e).map (·.size) = some 1) (hn : n ≠ 0)
    (h : wpList P ops Q rest (a.put o.dst (.slice (some ⟨g, b, none⟩) n n)) w) : wpList P ops Q (o :: rest) a w := by
  refine wpList_plain hgd fun K hK => ?_
  obtain ⟨e1, e2⟩ := arrayLen_of hu
  have hrun := run_sliceAt_array_all (P := P) w ty ⟨g, b, none⟩ (by rw [e1, e2]; exact hu)
  cases hq : P.info? e with
  | none => simp [hq] at hs
  | some i =>
    have hz : i.size = 1 := by simpa [hq] using hs
    rw [e1, e2] at hrun
    simp [sizeOf, typeInfo, hq, hz, slicedAt, addr_mid, hn] at hrun
    unfold Oper.wp execOp
    simp [ho, hx, hrun]
    exact hK _ _ h

/-- An element of an array that is a value. -/
theorem run_index_row (w : World) (ty e : TypeId) (len n : Nat) (l : List Value) (v : Value) (d : TypeDesc) (hu : P.underlying ty = some (.array len e)) (hs : (P.info? e).map (·.size) = some 1) (he : P.underlying e = some d) (hd : d.isRow = false)
    (hn : n < len) (hl : l[n]? = some v) : (Instr.index ty (.agg l.toArray) (.int .i64 (n : Int))).run P w = .ok v w := by
  have hagg : (isAgg e).run P w = .ok false w := by
    unfold isAgg
    rw [Sem.run_bind, run_underlying he w]
    cases d <;> simp_all
  cases hq : P.info? e with
  | none => simp [hq] at hs
  | some i =>
    have hz : i.size = 1 := by simpa [hq] using hs
    have hr : (n : Int) < len := by omega
    simp [Instr.index, asIntOf, run_underlying hu, sizeOf, typeInfo, hq, hz, part, Sem.run_bind, hagg, hl]
    intro h
    omega
theorem wpList_idx {ops : Array Oper} {rest : List Oper} {o : Oper} {a : Act} {w : World} {Q : Exit → Act → World → Prop} (hgd : o.guard = none) (ty : TypeId) (x ix : Operand) (ho : o.op = .index ty x ix)
    (e : TypeId) (len n : Nat) (l : List Value) (v : Value) (d : TypeDesc) (hx : a.eval x = .agg l.toArray) (hi : a.eval ix = .int .i64 (n : Int)) (hu : P.underlying ty = some (.array len e)) (hs : (P.info? e).map (·.size) = some 1) (he : P.underlying e = some d) (hd : d.isRow = false)
    (hn : n < len) (hl : l[n]? = some v) (h : wpList P ops Q rest (a.put o.dst v) w) : wpList P ops Q (o :: rest) a w := by
  refine wpList_plain hgd fun K hK => ?_
  unfold Oper.wp execOp
  simp [ho, hx, hi, run_index_row w ty e len n l v d hu hs he hd hn hl]
  exact hK _ _ h

/-- A composite value of known parts. -/
theorem wpList_build {ops : Array Oper} {rest : List Oper} {o : Oper} {a : Act} {w : World} {Q : Exit → Act → World → Prop} (hgd : o.guard = none) (ty : TypeId) (ps : Array (Nat × Operand)) (ho : o.op = .build ty ps)
    (vs : Array (Nat × Value)) (hx : (ps.map fun p => (p.1, a.eval p.2)) = vs) (v : Value) (hr : ∀ w : World, (Instr.build ty vs).run P w = .ok v w) (h : wpList P ops Q rest (a.put o.dst v) w) : wpList P ops Q (o :: rest) a w := by
  refine wpList_plain hgd fun K hK => ?_
  unfold Oper.wp execOp
  simp only [ho]
  rw [show (ps.map fun x => (x.1, a.eval x.2)) = vs from hx]
  simp [hr]
  exact hK _ _ h

/-- 'copy(dst, s)' of a string into a variable. -/
theorem wpList_copyStr {ops : Array Oper} {rest : List Oper} {o : Oper} {a : Act} {w : World} {Q : Exit → Act → World → Prop} (hgd : o.guard = none) (d s : Operand) (dT sT : TypeId)
    (ho : o.op = .call { callee := .builtin .copy, args := #[d, s], argTypes := #[dT, sT] }) (elem : TypeId) (hu : P.underlying dT = some (.slice elem)) (hsz : (P.info? elem).map (·.size) = some 1)
    (g k dLen dCap : Nat) (hd : a.eval d = .slice (some ⟨g, k, none⟩) dLen dCap) (b : ByteArray) (hs : a.eval s = .string b) {t : TypeId} {l : List Value} (hb : Blk w g t l) (hl : k + dLen ≤ l.length)
    (h : ∀ w', Upd g w w' → Blk w' g t (splice l k (Lib.byteCells (b.data.toList.take dLen))) → wpList P ops Q rest (a.put o.dst (goInt (Nat.min b.size dLen))) w') : wpList P ops Q (o :: rest) a w := by
  refine wpList_plain hgd fun K hK => ?_
  have hlen : (Lib.byteCells (b.data.toList.take dLen)).length = Nat.min b.size dLen := by
    rw [Lib.byteCells_length, List.length_take, Array.length_toList, Nat.min_comm]; rfl
  have hst := run_storeCells_at (P := P) g k t (Lib.byteCells (b.data.toList.take dLen)) 0 l.toArray w hb (by
    rw [hlen]; have : Nat.min b.size dLen ≤ dLen := Nat.min_le_right _ _
    simp; omega) (Lib.byteCells_one _)
  simp only [Nat.add_zero] at hst
  have htk : List.take (Nat.min b.size dLen) (List.map (fun b : UInt8 => Value.int IntKind.u8 (b.toNat : Int)) b.data.toList) = Lib.byteCells (b.data.toList.take dLen) := by
    unfold Lib.byteCells
    rw [← List.map_take]
    congr 1
    show List.take (min b.size dLen) _ = _
    rw [Nat.min_def]
    split
    · rw [List.take_of_length_le, List.take_of_length_le]
      · rw [Array.length_toList]; show b.size ≤ _; omega
      · rw [Array.length_toList]; show b.size ≤ _; omega
    · rfl
  have hrun : (Builtin.copy_ #[dT, sT] o.type #[.slice (some ⟨g, k, none⟩) dLen dCap, .string b]).run P w = .ok (goInt (Nat.min b.size dLen)) (w.setRow g (splice l k (Lib.byteCells (b.data.toList.take dLen))).toArray) := by
    cases hq : P.info? elem with
    | none => simp [hq] at hsz
    | some i =>
      simp [Builtin.copy_, run_underlying hu, Builtin.lenOf, Builtin.firstCells, sizeOf, typeInfo, hq]
      rw [htk, hst]
      simp [Result.andThen, splice]
  unfold Oper.wp
  simp [execOp, ho, resolve, invoke, builtin, hd, hs, hrun, Result.andThen]
  exact hK _ _ (h _ (upd_setRow w g _) (blk_setRow hb _))
end Go.Proofs.YtcefaipjncohmaaGreatDoor
