/-
  append onto a slice whose capacity is its length: a new array that holds both, or the slice itself if nothing is appended. Conditions: at most 2 * 10^9 bytes.
-/
import Derived.Test.YtkbmgkaopjjkoaaSane
import Derived.Deep.RegionHeld3
namespace Go.Proofs.Ytkbmgkaopjjkoaa
open Go.RowKit

def AppPost (n m : Nat) (xs ys : List UInt8) (w : World) (v : Value) (w' : World) : Prop := ∃ A c, v = .slice A (n + m) c ∧ n + m ≤ c ∧ Holds w' A ((xs ++ ys).map B8) ∧ Below w.heap.size w w'

theorem run_app (w : World) (ty : TypeId) (ad : Addr) (n : Nat) (xs : List UInt8) (hn : n = xs.length) (B : Option Addr) (m cm : Nat) (ys : List UInt8) (hm : m = ys.length) (hA : Holds w (some ad) (xs.map B8)) (hB : Holds w B (ys.map B8)) (hle : n + m ≤ 2000000000) :
    ∃ v w', (Builtin.append_ #[28, 28] ty #[.slice (some ad) n n, .slice B m cm]).run Try.prog w = .ok v w' ∧ AppPost n m xs ys w v w' := by
  obtain ⟨i0, hi, hz0, hz1, hz2⟩ := info_parts Try.info8
  have ht : Try.prog.underlying 28 = some (.slice 5) := Try.underlying28
  rcases Nat.eq_zero_or_pos m with h0 | h0
  · subst h0
    have hy : ys = [] := List.eq_nil_of_length_eq_zero hm.symm
    subst hy
    refine ⟨.slice (some ad) n n, w, ?_, some ad, n, by simp, by omega, by simpa using hA, Below.refl _ _⟩
    rcases B with _ | b
    · simp [Builtin.append_, run_underlying ht, sizeOf, typeInfo, hi, Builtin.lenOf, Builtin.firstCells, storeCells]
    · simp [Builtin.append_, run_underlying ht, sizeOf, typeInfo, hi, Builtin.lenOf, Builtin.firstCells, storeCells, loadCells, loadCellsFrom]
  · cases B with
    | none =>
      obtain ⟨_, e, _⟩ := hB 0 (B8 (ys.getD 0 0)) (by rw [List.getElem?_map, List.getElem?_eq_getElem (by omega)]; simp [List.getElem?_eq_getElem (show 0 < ys.length by omega)])
      cases e
    | some b =>
      have hr := run_append_grow (P := Try.prog) w 28 ty 5 i0 (.int .u8 0) ht hi hz0 ad n n (xs.map B8) (by rw [hz1]; simp [hn]) hA.cells b m cm (ys.map B8) (by rw [hz1]; simp [hm]) hB.cells (by omega) (by omega) (by rw [hz2]; exact growslice_fits (by omega) (by omega))
      refine ⟨_, _, hr, some ⟨w.heap.size, 0, none⟩, _, rfl, grownCap_ge w (n + m) n 5, ?_, (Below.refl _ _).drew.alloc (Nat.le_refl _) _⟩
      intro j u hu
      refine ⟨_, rfl, ?_⟩
      have hadd : (⟨w.heap.size, 0, none⟩ : Addr).add j = ⟨w.heap.size, j, none⟩ := by unfold Addr.add; split <;> simp_all
      have hj : j < ((xs ++ ys).map B8).length := by
        rcases Nat.lt_or_ge j ((xs ++ ys).map B8).length with h | h
        · exact h
        · rw [List.getElem?_eq_none h] at hu; cases hu
      rw [hadd, cell_of_row _ w.heap.size j _ _ _ (heap_alloc_new w.drew _), Array.getElem?_append_left (by simpa using hj)]
      rw [← hu, List.map_append]
      simp

theorem wpList_app {ops : Array Oper} {rest : List Oper} {o : Oper} {a : Act} {w : World} {Q : Exit → Act → World → Prop} (hgd : o.guard = none) (s x : Operand)
    (ho : o.op = .call { callee := .builtin .append, args := #[s, x], argTypes := #[28, 28] })
    (ad : Addr) (n : Nat) (xs : List UInt8) (hs : a.eval s = .slice (some ad) n n) (hn : n = xs.length) (B : Option Addr) (m cm : Nat) (ys : List UInt8) (hx : a.eval x = .slice B m cm) (hm : m = ys.length)
    (hA : Holds w (some ad) (xs.map B8)) (hB : Holds w B (ys.map B8)) (hle : n + m ≤ 2000000000)
    (h : ∀ v w', AppPost n m xs ys w v w' → wpList Try.prog ops Q rest (a.put o.dst v) w') : wpList Try.prog ops Q (o :: rest) a w := by
  refine wpList_plain hgd fun K hK => ?_
  obtain ⟨v, w', hrun, hp⟩ := run_app w o.type ad n xs hn B m cm ys hm hA hB hle
  unfold Oper.wp execOp
  simp only [ho, resolve, invoke, builtin, Sem.run_bind, Sem.run_pure, Result.andThen_ok, List.map_toArray, List.map_cons, List.map_nil, hs, hx, hrun]
  exact hK _ _ (h v w' hp)
end Go.Proofs.Ytkbmgkaopjjkoaa
