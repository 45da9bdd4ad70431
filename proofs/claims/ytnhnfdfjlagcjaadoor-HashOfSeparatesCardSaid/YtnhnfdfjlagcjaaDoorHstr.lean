/-
  A string turned into a slice of bytes. Conditions: none.
-/
import Derived.Test.YtnhnfdfjlagcjaaDoorHbytes
import Derived.Test.YtnhnfdfjlagcjaaDoorBlk
import Derived.Lib.ConvBytes
namespace Go.Proofs.YtnhnfdfjlagcjaaDoor
open Go.RowKit

theorem below_bytesWorld (w : World) (e : TypeId) (s : ByteArray) : Below w.heap.size w (Lib.bytesWorld w e s) :=
  ⟨rfl, rfl, rfl, by rw [Lib.bytesWorld_size]; omega, fun k hk => Lib.bytesWorld_at_old w e s k hk⟩
theorem holds_bytesWorld (w : World) (e : TypeId) (s : ByteArray) : Holds (Lib.bytesWorld w e s) (some ⟨w.heap.size, 0, none⟩) (s.data.toList.map B8) := fun j u hu => by
  refine ⟨_, rfl, ?_⟩
  have hj : j < s.size := by
    have := (List.getElem?_eq_some_iff.1 hu).1
    rw [List.length_map, Array.length_toList] at this
    exact this
  rw [Addr.add_mid, Nat.zero_add, Lib.bytesWorld_cell w e s j hj, ← hu, List.getElem?_map, List.getD_eq_getElem?_getD, List.getElem?_eq_getElem (by rw [Array.length_toList]; exact hj)]
  rfl
theorem wpList_bytesOf {ops : Array Oper} {rest : List Oper} {o : Oper} {a : Act} {w : World} {Q : Exit → Act → World → Prop} (hgd : o.guard = none) (x : Operand) (ho : o.op = .convert 9 22 x) (s : ByteArray) (hx : a.eval x = .string s)
    (h : ∀ A cap w', Below w.heap.size w w' → Holds w' A (s.data.toList.map B8) → wpList Tryd.prog ops Q rest (a.put o.dst (.slice A s.size cap)) w') : wpList Tryd.prog ops Q (o :: rest) a w := by
  refine wpList_plain hgd fun K hK => ?_
  have hrun := Lib.run_convert_string_bytes (P := Tryd.prog) w 9 22 5 s Tryd.underlying9 Tryd.underlying22 Tryd.underlying5
  unfold Oper.wp execOp
  simp [ho, hx, hrun]
  exact hK _ _ (h _ _ _ (below_bytesWorld w _ s) (holds_bytesWorld w _ s))
end Go.Proofs.YtnhnfdfjlagcjaaDoor
