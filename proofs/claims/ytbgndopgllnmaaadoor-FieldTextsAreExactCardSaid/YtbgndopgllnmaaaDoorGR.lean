/-
  Contracts of the functions that the statement calls, part 18 of 25 (merged texts: Na). Conditions: as the head of each part says.
-/
import Derived.BigQuiet
import Derived.ChangeKeysEq
import Derived.Deep.MidRow
import Derived.Deep.QuietTactic
import Derived.Deep.RegionHeld
import Derived.Deep.RegionHeld3
import Derived.Great.BuildSlice
import Derived.Laws.BytesArg
import Derived.Laws.CopyOwn
import Derived.Laws.CopyRow
import Derived.Laws.Rows
import Derived.Laws.Strings
import Derived.Laws.StructEq
import Derived.Laws.World
import Derived.Lib.BitFns
import Derived.Lib.BufferWrite
import Derived.Lib.ConvBytes
import Derived.Lib.Hide
import Derived.LoopIn
import Derived.LoopNIn
import Derived.Outline
import Derived.OwnWalkIn
import Derived.RangeFuncLeaves
import Derived.RangeFuncWrites
import Derived.Shelf.Small.Bits
import Derived.Shelf.Small.Strs
import Derived.Shelf.Strings.Builder1
import Derived.Shelf.Strings.Cut
import Derived.Shelf.Strings.Split
import Derived.StillTailTactics
import Derived.TacticsInMore
import Derived.Test.YtbgndopgllnmaaaDoorRows
import Derived.Test.YtbgndopgllnmaaaDoorGA
import Derived.WalkKit
import Derived.WalkMore
import Derived.Test.YtbgndopgllnmaaaDoorGM
import Derived.Test.YtbgndopgllnmaaaDoorGI
import Derived.Test.YtbgndopgllnmaaaDoorGH
import Derived.Test.YtbgndopgllnmaaaDoorGJ

/-
  Rows of two and of four patterns; a row that belongs to nobody else holds its patterns; what the statements' examples give. Conditions: none.
-/

namespace Go.Proofs.YtbgndopgllnmaaaDoor
set_option linter.unusedVariables false
set_option linter.unusedSimpArgs false
open Go.RowKit

theorem own_pats {w : World} {base : Nat} {l : List Pat} {A : Option Addr} {c : Nat} (h : w.ownsRow base 48 20 (.slice A l.length c) l.length (patCells l)) : PatsAt w A l := fun k p hp => by
  have hk : k < l.length := (List.getElem?_eq_some_iff.1 hp).1
  obtain ⟨A', c', hv, hsh⟩ := own_shape h
  injection hv with hA _ _
  subst hA
  rcases hsh with ⟨_, _, h0⟩ | ⟨g, rfl, _, _⟩
  · omega
  · refine ⟨g, 0, rfl, fun q u hu => ?_⟩
    have hq : q < 20 := by have := (List.getElem?_eq_some_iff.1 hu).1; rw [Pat.cells_length] at this; exact this
    have h1 : (patCells l)[k * 20 + q]? = some u := by
      have key : ∀ (l : List Pat) (k : Nat), l[k]? = some p → (patCells l)[k * 20 + q]? = some u := by
        intro l
        induction l with
        | nil => intro k hk; cases hk
        | cons a l ih =>
          intro k hk
          show (a.cells ++ patCells l)[k * 20 + q]? = _
          cases k with
          | zero =>
            have e : a = p := by simpa using hk
            rw [e, List.getElem?_append_left (by rw [Pat.cells_length]; omega)]
            simpa using hu
          | succ k =>
            rw [List.getElem?_append_right (by rw [Pat.cells_length]; omega), Pat.cells_length, show (k + 1) * 20 + q - 20 = k * 20 + q by omega]
            exact ih k (by simpa using hk)
      exact key l k hp
    have h2 := h.cells (g := g) rfl (k * 20 + q) u h1
    rw [addr_mid, ← Nat.add_assoc] at h2
    exact h2
end Go.Proofs.YtbgndopgllnmaaaDoor
