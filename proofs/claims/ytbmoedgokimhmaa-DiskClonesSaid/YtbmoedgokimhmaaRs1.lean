/-
  A row of bytes made from a string: its bytes, and a store of one of them. Conditions: none.
-/
import Derived.Test.YtbmoedgokimhmaaRr1
import Derived.Lib.ConvBytes
import Derived.Deep.Upon
namespace Go.Proofs.Ytbmoedgokimhmaa
open Go.RowKit
variable {P : Program}

/-- Bytes that lie in block g from its start on, and may be written. -/
structure Held (w : World) (g : Nat) (l : List UInt8) : Prop where
  lt : g < w.heap.size
  cell : ∀ (k : Nat) (b : UInt8), l[k]? = some b → w.cell? ⟨g, k, none⟩ = some (.int .u8 (b.toNat : Int))
  free : ∀ k, k < l.length → w.frozen? ⟨g, k, none⟩ = false
theorem Held.holds {w : World} {g : Nat} {l : List UInt8} (h : Held w g l) : Holds w (some ⟨g, 0, none⟩) (l.map B8) := fun k u hu => by
  rw [List.getElem?_map] at hu
  cases hb : l[k]? with
  | none => rw [hb] at hu; cases hu
  | some b =>
    rw [hb] at hu
    injection hu with hu
    refine ⟨_, rfl, ?_⟩
    rw [addr_mid, Nat.zero_add, h.cell k b hb, ← hu]; rfl
theorem Held.same {w w' : World} {g : Nat} {l : List UInt8} (h : Held w g l) (hs : w.heap.size ≤ w'.heap.size) (hb : w'.heap[g]? = w.heap[g]?) : Held w' g l :=
  ⟨Nat.lt_of_lt_of_le h.lt hs, fun k b hk => (World.cell?_of_block (a := ⟨g, k, none⟩) hb).trans (h.cell k b hk), fun k hk => (World.frozen?_of_block (a := ⟨g, k, none⟩) hb).trans (h.free k hk)⟩
theorem Held.next {w w' : World} {g : Nat} {l : List UInt8} (h : Held w g l) (hb : Below w.heap.size w w') : Held w' g l := h.same hb.size (hb.block g h.lt)
theorem Held.upd {w w' : World} {g g' : Nat} {l : List UInt8} (h : Held w g l) (hu : Upd g' w w') (hne : g ≠ g') : Held w' g l := h.same (Nat.le_of_eq hu.size.symm) (hu.block g hne)
theorem held_bytes (w : World) (e : TypeId) (s : ByteArray) : Held (Lib.bytesWorld w e s) w.heap.size s.data.toList := by
  refine ⟨by rw [Lib.bytesWorld_size]; omega, fun k b hk => ?_, fun k hk => ?_⟩
  · have hj : k < s.size := by
      have := (List.getElem?_eq_some_iff.1 hk).1
      rw [Array.length_toList] at this
      exact this
    rw [Lib.bytesWorld_cell w e s k hj, List.getD_eq_getElem?_getD, hk]; rfl
  · have hn := Lib.bytesWorld_at_new w e s
    have hsz : k < (Lib.bytesCells w e s).size := by
      rw [Array.length_toList] at hk
      unfold Lib.bytesCells
      rw [Array.size_append, Array.size_map]
      omega
    simp [World.frozen?, hn]
    omega
theorem upd_setCells (w : World) (g o : Nat) (v : Value) : Upd g w (w.setCells g o [v]) :=
  ⟨rfl, rfl, rfl, by simp [World.setCells, World.setCell], fun k hk => by
    rcases Nat.lt_or_ge k w.heap.size with h | h
    · exact World.heap_setCells_other w g o [v] h hk
    · rw [Array.getElem?_eq_none h, Array.getElem?_eq_none (by simp [World.setCells, World.setCell]; exact h)]⟩
theorem Held.set {w : World} {g : Nat} {l : List UInt8} (h : Held w g l) (q : Nat) (y : UInt8) (hq : q < l.length) : Held (w.setCells g q [.int .u8 (y.toNat : Int)]) g (l.set q y) := by
  have hu := upd_setCells w g q (.int .u8 (y.toNat : Int))
  refine ⟨by rw [hu.size]; exact h.lt, fun k b hk => ?_, fun k hk => ?_⟩
  · by_cases e : q = k
    · subst e
      rw [List.getElem?_set_self hq] at hk
      injection hk with hk
      subst hk
      have hsome : (w.cell? ⟨g, q + 0, none⟩).isSome = true := by
        rw [Nat.add_zero, h.cell q _ (List.getElem?_eq_getElem hq)]; rfl
      have := World.cell?_setCells_in g [.int .u8 (y.toNat : Int)] q w (fun j hj => by
        have : j = 0 := by simp at hj; exact hj
        subst this; exact hsome) 0 (by simp)
      simpa using this
    · rw [List.getElem?_set_ne e] at hk
      rw [World.cell?_setCells_out g [.int .u8 (y.toNat : Int)] q w ⟨g, k, none⟩ (fun _ _ => by simp; omega)]
      exact h.cell k b hk
  · rw [List.length_set] at hk
    rw [World.frozen?_setCells]
    exact h.free k hk
theorem wp_putByte {o : Oper} {a : Act} {w : World} {K : Act → World → Prop} {Q : Exit → Act → World → Prop} (ty : TypeId) (x y : Operand) (ho : o.op = .store ty x y)
    (g q : Nat) (b : UInt8) (hx : a.eval x = .pointer (some ⟨g, q, none⟩)) (hy : a.eval y = .int .u8 (b.toNat : Int)) {l : List UInt8} (hh : Held w g l) (hq : q < l.length) (hi : (P.info? ty).map (·.size) = some 1)
    (h : ∀ w', Upd g w w' → Held w' g (l.set q b) → K (a.put o.dst undef) w') : Oper.wp P o a w K Q := by
  have hsome : (w.cell? ⟨g, q, none⟩).isSome = true := by rw [hh.cell q _ (List.getElem?_eq_getElem hq)]; rfl
  have hrun := run_storeCells_cells (P := P) g q [.int .u8 (b.toNat : Int)] 0 w (fun j hj => by
    have : j = 0 := by simp at hj; exact hj
    subst this; exact hsome) (fun j hj => by
    have : j = 0 := by simp at hj; exact hj
    subst this; exact hh.free q hq) (one_cell1 rfl)
  rw [Nat.add_zero] at hrun
  have hput : (storeVar ty ⟨g, q, none⟩ (.int .u8 (b.toNat : Int))).run P w = .ok () (w.setCells g q [.int .u8 (b.toNat : Int)]) := by
    cases hqi : P.info? ty with
    | none => simp [hqi] at hi
    | some i =>
      have hs : i.size = 1 := by simpa [hqi] using hi
      simp [storeVar, sizeOf, typeInfo, hqi, Value.cells, hs, hrun]
  unfold Oper.wp execOp
  simp only [ho, hx, hy, Instr.storeAt, Instr.sureAddr, Sem.run_bind, Sem.run_pure, Result.andThen_ok, hput]
  exact h _ (upd_setCells w g q _) (hh.set q b hq)
theorem wpList_bytesH {ops : Array Oper} {rest : List Oper} {o : Oper} {a : Act} {w : World} {Q : Exit → Act → World → Prop} (hgd : o.guard = none) (x : Operand) (ho : o.op = .convert 9 110 x) (s : ByteArray) (hx : a.eval x = .string s)
    (h : ∀ g cap w', Hid (w.heap.size = g) → Below w.heap.size w w' → Held w' g s.data.toList → wpList Try.prog ops Q rest (a.put o.dst (.slice (some ⟨g, 0, none⟩) s.size cap)) w') : wpList Try.prog ops Q (o :: rest) a w := by
  refine wpList_plain hgd fun K hK => ?_
  have hrun := Lib.run_convert_string_bytes (P := Try.prog) w 9 110 5 s Try.underlying9 Try.underlying110 Try.underlying5
  unfold Oper.wp execOp
  simp [ho, hx, hrun]
  exact hK _ _ (h _ _ _ rfl ⟨rfl, rfl, rfl, by rw [Lib.bytesWorld_size]; omega, fun k hk => Lib.bytesWorld_at_old w _ s k hk⟩ (held_bytes w _ s))
end Go.Proofs.Ytbmoedgokimhmaa
