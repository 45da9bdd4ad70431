/-
  Contracts of the functions that the statement calls, part 8 of 25 (merged texts: Rl, Rm). Conditions: as the head of each part says.
-/
import Derived.Test.YtkkgfdfjgfigcaaDoorGG
import Derived.Great.BuildSlice

/-
  Contract of the walk over the program's Compare. Conditions: none.
-/
namespace Go.Proofs.YtkkgfdfjgfigcaaDoor
set_option linter.unusedVariables false
set_option linter.unusedSimpArgs false
open Go.RowKit

theorem run_two (w : World) (i j : Int) : (Instr.buildSlice 138 2 #[(0, .int .i64 i), (1, .int .i64 j)]).run Tryd.prog w = .ok (.slice (some ⟨w.heap.size, 0, none⟩) 2 2) (w.alloc (.cells #[.int .i64 i, .int .i64 j] 3)) := by
  have hi := Tryd.infoI
  cases hq : Tryd.prog.info? 3 with
  | none => simp [hq] at hi
  | some ie =>
    simp [hq] at hi
    refine run_buildSlice w _ 3 2 _ _ ie (.int .i64 0) (by exact Tryd.underlying138) hq hi.1 (by rw [hi.2.1]; decide) (by rw [hi.2.1]; decide) (by rw [hi.2.1]; kernel_rfl)
theorem wp_two {o : Oper} {a : Act} {W : World} {K : Act → World → Prop} {Q : Exit → Act → World → Prop} (x y : Operand) (ho : o.op = .buildSlice 138 2 #[(0, x), (1, y)])
    (i j : Int) (hx : a.eval x = .int .i64 i) (hy : a.eval y = .int .i64 j)
    (h : ∀ g w', Hid (g = W.heap.size) → Below W.heap.size W w' → Blk w' g 3 [.int .i64 i, .int .i64 j] → K (a.put o.dst (.slice (some ⟨g, 0, none⟩) 2 2)) w') : Oper.wp Tryd.prog o a W K Q := by
  have hrun := run_two W i j
  unfold Oper.wp execOp
  simp only [ho, List.map_toArray, List.map_cons, List.map_nil, hx, hy, Sem.run_bind, Sem.run_pure, Result.andThen_ok, hrun]
  exact h _ _ rfl (below_new W _) (blk_new W _ _)



























































































































end Go.Proofs.YtkkgfdfjgfigcaaDoor

/-
  Contract of the walk over the reference's Exact. Conditions: none.
-/
namespace Go.Proofs.YtkkgfdfjgfigcaaDoor
set_option linter.unusedVariables false
set_option linter.unusedSimpArgs false
open Go.RowKit

theorem run_buildB (w : World) (b : List Value) (hb : b.length = 10) : (Instr.build 25 #[(1, .agg b.toArray)]).run Tryd.prog w = .ok (.agg (H no ++ b).toArray) w := by
  obtain ⟨b0, b1, b2, b3, b4, b5, b6, b7, b8, b9, rfl⟩ := list10 hb
  kernel_rfl
theorem cells_set {f b : Nat → Bool} {k : Nat} (v : Value) (hk : k < 10) : ((⟨f, b⟩ : Pat).cells).set k v = (H f).set k v ++ H b := by
  unfold Pat.cells
  rw [List.set_append_left _ _ (by rw [H_length]; exact hk)]
def RExactRel (h : Nat → Bool) (gp gr : Nat) (w : World) (i : Value) (wr : World) : Prop :=
  ∃ k : Nat, k ≤ 10 ∧ i = .int .i64 k ∧ Blk wr gp 25 (⟨upto no yes k, h⟩ : Pat).cells ∧ Blk wr gr 25 Pat.zero.cells ∧ Below w.heap.size w wr











































































end Go.Proofs.YtkkgfdfjgfigcaaDoor
