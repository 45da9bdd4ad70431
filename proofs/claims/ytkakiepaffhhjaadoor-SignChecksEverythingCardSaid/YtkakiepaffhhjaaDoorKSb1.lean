/-
  A string as a row of bytes that is the call's own, and a store of one byte into it. Conditions: none.
-/
import Derived.Test.YtkakiepaffhhjaaDoorKSv2
namespace Go.Proofs.YtkakiepaffhhjaaDoor
open Go.RowKit

def BRow (w : World) (g : Nat) (l : List UInt8) : Prop := ∃ (sp : List Value) (t : TypeId) (hi : Nat), w.heap[g]? = some (.cells (l.map B8 ++ sp).toArray t ((l.map B8 ++ sp).length, hi))
theorem BRow.lt {w : World} {g : Nat} {l : List UInt8} (h : BRow w g l) : g < w.heap.size := by
  obtain ⟨sp, t, hi, h⟩ := h
  rcases Nat.lt_or_ge g w.heap.size with hlt | hge
  · exact hlt
  · rw [Array.getElem?_eq_none hge] at h; cases h
theorem BRow.next {w w' : World} {g B : Nat} {l : List UInt8} (h : BRow w g l) (hb : Below B w w') (hg : g < B) : BRow w' g l := by
  obtain ⟨sp, t, hi, h⟩ := h
  exact ⟨sp, t, hi, (hb.block g hg).trans h⟩
theorem BRow.cell {w : World} {g : Nat} {l : List UInt8} (h : BRow w g l) {k : Nat} {b : UInt8} (hb : l[k]? = some b) : w.cell? ⟨g, k, none⟩ = some (.int .u8 (b.toNat : Int)) := by
  obtain ⟨sp, t, hi, h⟩ := h
  have hk : k < l.length := (List.getElem?_eq_some_iff.1 hb).1
  rw [cell_of_row _ _ k _ _ _ h, List.getElem?_toArray, List.getElem?_append_left (by rw [List.length_map]; exact hk), List.getElem?_map, hb]
  rfl
theorem BRow.frozen {w : World} {g : Nat} {l : List UInt8} (h : BRow w g l) {k : Nat} (hk : k < l.length) : w.frozen? ⟨g, k, none⟩ = false := by
  obtain ⟨sp, t, hi, h⟩ := h
  have : k < (l.map B8 ++ sp).length := by rw [List.length_append, List.length_map]; omega
  simp [World.frozen?, h]
  intro h1
  simp at this
  omega
theorem BRow.holds {w : World} {g : Nat} {l : List UInt8} (h : BRow w g l) : Holds w (some ⟨g, 0, none⟩) (l.map B8) := fun j u hu => by
  rw [List.getElem?_map] at hu
  cases hl : l[j]? with
  | none => rw [hl] at hu; cases hu
  | some b =>
    rw [hl] at hu
    cases hu
    refine ⟨_, rfl, ?_⟩
    rw [addr_mid, Nat.zero_add]
    exact h.cell hl
theorem BRow.set_ {w : World} {g : Nat} {l : List UInt8} (h : BRow w g l) (n : Nat) (b : UInt8) (hn : n < l.length) : BRow (w.setCell ⟨g, n, none⟩ (.int .u8 (b.toNat : Int))) g (l.set n b) := by
  obtain ⟨sp, t, hi, h⟩ := h
  refine ⟨sp, t, hi, ?_⟩
  have e : ((l.set n b).map B8 ++ sp) = (l.map B8 ++ sp).set n (.int .u8 (b.toNat : Int)) := by
    rw [List.set_append_left _ _ (by rw [List.length_map]; exact hn), List.map_set]; rfl
  rw [e, List.length_set]
  simp [World.setCell, Array.getElem?_modify, h]
theorem upd_setCell (w : World) (g n : Nat) (v : Value) : Upd g w (w.setCell ⟨g, n, none⟩ v) :=
  ⟨rfl, rfl, rfl, by simp [World.setCell], fun k hk => Below.heap_setCell w ⟨g, n, none⟩ v k (fun e => hk e)⟩
theorem wpList_bytesRow {ops : Array Oper} {rest : List Oper} {o : Oper} {a : Act} {w : World} {Q : Exit → Act → World → Prop} (hgd : o.guard = none) (x : Operand) (ho : o.op = .convert 9 43 x) (s : ByteArray) (hx : a.eval x = .string s)
    (h : ∀ g cap w', w.heap.size ≤ g → Below w.heap.size w w' → BRow w' g s.data.toList → wpList Tryd.prog ops Q rest (a.put o.dst (.slice (some ⟨g, 0, none⟩) s.size cap)) w') : wpList Tryd.prog ops Q (o :: rest) a w := by
  refine wpList_plain hgd fun K hK => ?_
  have hrun := Lib.run_convert_string_bytes (P := Tryd.prog) w 9 43 5 s Tryd.underlying9 Tryd.underlying43 Tryd.underlying5
  have hrow : BRow (Lib.bytesWorld w 5 s) w.heap.size s.data.toList := by
    refine ⟨List.replicate (grownCap w s.size 0 5 - s.size) (Value.int .u8 0), 5, (Lib.bytesCells w 5 s).size + 1, ?_⟩
    rw [Lib.bytesWorld_at_new]
    have e : Lib.bytesCells w 5 s = (s.data.toList.map B8 ++ List.replicate (grownCap w s.size 0 5 - s.size) (Value.int .u8 0)).toArray := by
      unfold Lib.bytesCells
      apply Array.ext'
      simp
      exact fun _ _ => rfl
    rw [e]
    simp
  unfold Oper.wp execOp
  simp [ho, hx, hrun]
  exact hK _ _ (h _ _ _ (Nat.le_refl _) (below_bytesWorld w _ s) hrow)
theorem wpList_setB {ops : Array Oper} {rest : List Oper} {o : Oper} {a : Act} {w : World} {Q : Exit → Act → World → Prop} (hgd : o.guard = none) (x y : Operand) (ho : o.op = .store 5 x y)
    (g n : Nat) (hx : a.eval x = .pointer (some ⟨g, n, none⟩)) (b : UInt8) (hy : a.eval y = .int .u8 (b.toNat : Int)) (l : List UInt8) (hb : BRow w g l) (hn : n < l.length)
    (h : ∀ w', Upd g w w' → BRow w' g (l.set n b) → wpList Tryd.prog ops Q rest (a.put o.dst undef) w') : wpList Tryd.prog ops Q (o :: rest) a w := by
  refine wpList_plain hgd fun K hK => ?_
  have hc := hb.cell (List.getElem?_eq_getElem hn)
  have hf := hb.frozen hn
  unfold Oper.wp execOp
  simp only [ho, hx, hy]
  simp [go_sem, hc, hf]
  exact hK _ _ (h _ (upd_setCell w g n _) (hb.set_ n b hn))
end Go.Proofs.YtkakiepaffhhjaaDoor
