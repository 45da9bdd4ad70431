/-
  Comparison of arrays of bytes, and a guarded reading of one. Conditions: none.
-/
import Derived.Test.YtnhnfdfjlagcjaaDoorHof
import Derived.Laws.StructEq
namespace Go.Proofs.YtnhnfdfjlagcjaaDoor
open Go.RowKit

theorem Tryd.cells5 : Tryd.prog.cellsOf 5 = 1 := by kernel_rfl
theorem Tryd.plain5 : Tryd.prog.plainKey 5 = true := by kernel_rfl
theorem eqItems_dec (w : World) (l r : List UInt8) (hlr : l.length = r.length) : ∀ (is : List Nat), (∀ i ∈ is, i < l.length) →
    (Op.eqItems 9999 5 1 (l.map B8).toArray (r.map B8).toArray is).run Tryd.prog w = .ok (is.all fun i => l.getD i 0 == r.getD i 0) w
  | [], _ => by simp [Op.eqItems]
  | i :: is, h => by
    have hi := h i (by simp)
    have hi2 : i < r.length := by omega
    have ih := eqItems_dec w l r hlr is (fun j hj => h j (by simp [hj]))
    have hx : (l.map B8).toArray[i * 1]? = some (B8 (l.getD i 0)) := by simp [List.getElem?_eq_getElem hi]
    have hy : (r.map B8).toArray[i * 1]? = some (B8 (r.getD i 0)) := by simp [List.getElem?_eq_getElem hi2]
    have hp := run_part_plain (P := Tryd.prog) (w := w) Tryd.plain5 hx
    have hq := run_part_plain (P := Tryd.prog) (w := w) Tryd.plain5 hy
    have he : (Op.equalIn 9999 5 (B8 (l.getD i 0)) (B8 (r.getD i 0))).run Tryd.prog w = .ok (l.getD i 0 == r.getD i 0) w := by
      have := run_equalIn_int (P := Tryd.prog) w 9998 5 .u8 .u8 ((l.getD i 0).toNat : Int) ((r.getD i 0).toNat : Int) Tryd.underlying5
      rw [show (((l.getD i 0).toNat : Int) == ((r.getD i 0).toNat : Int)) = (l.getD i 0 == r.getD i 0) by
        rw [Bool.eq_iff_iff, beq_iff_eq, beq_iff_eq]
        constructor
        · intro h; exact UInt8.toNat_inj.1 (by omega)
        · intro h; rw [h]] at this
      exact this
    simp only [Op.eqItems, Sem.run_bind, hp, hq, Result.andThen_ok, he, List.all_cons]
    cases hb : (l.getD i 0 == r.getD i 0)
    · simp
    · simpa using ih
theorem all_range_eq (l r : List UInt8) (h : l.length = r.length) : ((List.range l.length).all fun i => l.getD i 0 == r.getD i 0) = decide (l = r) := by
  rw [Bool.eq_iff_iff, List.all_eq_true, decide_eq_true_eq]
  constructor
  · intro ha
    apply List.ext_getElem h
    intro i h1 h2
    have := ha i (List.mem_range.2 h1)
    rw [beq_iff_eq, List.getD_eq_getElem?_getD, List.getD_eq_getElem?_getD, List.getElem?_eq_getElem h1, List.getElem?_eq_getElem h2] at this
    exact this
  · intro e i _
    rw [e]; exact beq_self_eq_true _
theorem eql_arr (w : World) (ty : TypeId) (n : Nat) (hu : Tryd.prog.underlying ty = some (.array n 5)) (l r : List UInt8) (hl : l.length = n) (hr : r.length = n) :
    (binOp .eql ty (.agg (l.map B8).toArray) (.agg (r.map B8).toArray)).run Tryd.prog w = .ok (.bool (decide (l = r))) w := by
  obtain ⟨i0, hi, _, _, _⟩ := info_parts Tryd.info8
  rw [run_eql_struct, run_equalIn_array (P := Tryd.prog) (w := w) 9999 _ _ hu hi, Tryd.cells5, eqItems_dec w l r (by omega) _ (fun i h => by have := List.mem_range.1 h; omega), ← hl, all_range_eq l r (by omega)]
  rfl
theorem wpList_eqArr {ops : Array Oper} {rest : List Oper} {o : Oper} {a : Act} {w : World} {Q : Exit → Act → World → Prop} (hw : Region.wanted o (yielded ops a.tmps) = true) (ty : TypeId) (x y : Operand) (ho : o.op = .binOp .eql ty x y ty)
    (n : Nat) (hu : Tryd.prog.underlying ty = some (.array n 5)) (hg : Tryd.prog.eqGuardType Tryd.prog.depth ty = false)
    (l r : List UInt8) (hx : a.eval x = .agg (l.map B8).toArray) (hy : a.eval y = .agg (r.map B8).toArray) (hl : l.length = n) (hr : r.length = n)
    (h : wpList Tryd.prog ops Q rest (a.put o.dst (.bool (decide (l = r)))) w) : wpList Tryd.prog ops Q (o :: rest) a w := by
  refine BigFrame.wpList_want hw fun K hK => ?_
  have hrun := eql_arr w ty n hu l r hl hr
  unfold Oper.wp execOp
  simp only [ho, hx, hy, Sem.run_bind, Sem.run_pure, run_eqGuard_agg (P := Tryd.prog) w _ _ _ _ _ _ hg, Result.andThen_ok, hrun]
  exact hK _ _ h
theorem wpList_getg {P : Program} {ops : Array Oper} {rest : List Oper} {o : Oper} {a : Act} {w : World} {Q : Exit → Act → World → Prop} (hw : Region.wanted o (yielded ops a.tmps) = true) (ty : TypeId) (x : Operand) (ho : o.op = .load ty x)
    (g k : Nat) (hx : a.eval x = .pointer (some ⟨g, k, none⟩)) {t : TypeId} {l : List Value} (hb : Blk w g t l) (cs : List Value) (hcs : (l.drop k).take cs.length = cs) (d : TypeDesc)
    (hu : P.underlying ty = some d) (hd : d.isRow = true) (hi : (P.info? ty).map (·.size) = some cs.length)
    (h : wpList P ops Q rest (a.put o.dst (.agg cs.toArray)) w) : wpList P ops Q (o :: rest) a w := by
  refine BigFrame.wpList_want hw fun K hK => ?_
  unfold Oper.wp execOp
  simp only [ho, hx, Instr.loadAt, Instr.sureAddr, Sem.run_bind, Sem.run_pure, Result.andThen_ok, run_get w g k t ty l cs hb hcs d hu hd hi]
  exact hK _ _ h
theorem Tryd.guard24 : Tryd.prog.eqGuardType Tryd.prog.depth 24 = false := by kernel_rfl
theorem Tryd.guard44 : Tryd.prog.eqGuardType Tryd.prog.depth 44 = false := by kernel_rfl
end Go.Proofs.YtnhnfdfjlagcjaaDoor
