/-
  An empty list that is made. Conditions: none.
-/
import Derived.Test.YtbldnhpbmfmepaaDoorKSa
namespace Go.Proofs.YtbldnhpbmfmepaaDoor
set_option linter.unusedVariables false
set_option linter.unusedSimpArgs false
open Go.RowKit

theorem run_slice0 (W : World) : (Instr.buildSlice 31 0 #[]).run Tryd.prog W = .ok (.slice (some ⟨W.heap.size, 0, none⟩) 0 0) (W.alloc (.cells #[] 25)) := by kernel_rfl
theorem wpList_row0 {ops : Array Oper} {rest : List Oper} {o : Oper} {a : Act} {W : World} {Q : Exit → Act → World → Prop} (hw : Region.wanted o (yielded ops a.tmps) = true) (ho : o.op = .buildSlice 31 0 #[])
    (h : ∀ v w', Below W.heap.size W w' → w'.ownsRow W.heap.size 25 20 v 0 [] → wpList Tryd.prog ops Q rest (a.put o.dst v) w') : wpList Tryd.prog ops Q (o :: rest) a W := by
  refine BigFrame.wpList_want hw fun _ hK => ?_
  have hrun := run_slice0 W
  unfold Oper.wp execOp
  simp only [ho, List.map_toArray, List.map_nil, Sem.run_bind, Sem.run_pure, Result.andThen_ok, hrun]
  exact hK _ _ (h _ _ (below_new W _) ⟨rfl, .inr ⟨W.heap.size, 0, #[], rfl, Nat.le_refl _, blk_new W _ [], Nat.le_refl _, by decide, rfl, rfl⟩⟩)
end Go.Proofs.YtbldnhpbmfmepaaDoor
