/-
  Steps of a region that draws its order: a store of a part of a variable, and the meeting of several orders. Conditions: none.
-/
import Derived.Test.YtcefaipjncohmaaGreatDoorBlk
import Derived.Deep.RegionHeld
namespace Go.Proofs.YtcefaipjncohmaaGreatDoor
set_option linter.unusedVariables false
set_option linter.unusedSimpArgs false
open Go.RowKit

section
variable {P : Program}
/-- A store into a part of a variable, as one step. -/
theorem wp_put {o : Oper} {a : Act} {w : World} {K : Act → World → Prop} {Q : Exit → Act → World → Prop} (ty : TypeId) (x y : Operand) (ho : o.op = .store ty x y)
    (g k : Nat) (hx : a.eval x = .pointer (some ⟨g, k, none⟩)) (v : Value) (hy : a.eval y = v) {t : TypeId} {l : List Value} (hb : Blk w g t l) (cs : List Value) (hv : v.cells = cs.toArray)
    (hi : (P.info? ty).map (·.size) = some cs.length) (hl : k + cs.length ≤ l.length) (h1 : ∀ u ∈ cs, u.oneCell' = true)
    (h : ∀ w', Upd g w w' → Blk w' g t (splice l k cs) → K (a.put o.dst undef) w') : Oper.wp P o a w K Q := by
  unfold Oper.wp execOp
  simp only [ho, hx, hy, Instr.storeAt, Instr.sureAddr, Sem.run_bind, Sem.run_pure, Result.andThen_ok, run_put w g k t ty l v cs hv hb hi hl h1]
  exact h _ (upd_setRow w g _) (blk_setRow hb _)
end
/-- What follows is proved once, for all that an order may leave. -/
theorem rest1 {G : Prop} {α : Type} {R : α → Prop} (h1 : (∀ x, R x) → G) (h2 : ∀ x, R x) : G := h1 h2
theorem rest2 {G : Prop} {α β : Type} {R : α → β → Prop} (h1 : (∀ x y, R x y) → G) (h2 : ∀ x y, R x y) : G := h1 h2
theorem rest3 {G : Prop} {α β γ : Type} {R : α → β → γ → Prop} (h1 : (∀ x y z, R x y z) → G) (h2 : ∀ x y z, R x y z) : G := h1 h2
end Go.Proofs.YtcefaipjncohmaaGreatDoor
