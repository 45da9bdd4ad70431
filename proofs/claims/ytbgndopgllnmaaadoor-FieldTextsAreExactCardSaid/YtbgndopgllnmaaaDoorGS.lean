/-
  Contracts of the functions that the statement calls, part 19 of 25 (merged texts: Nd, Sa). Conditions: as the head of each part says.
-/
import Derived.BigQuiet
import Derived.ChangeKeysEq
import Derived.ChangeOld
import Derived.ChangeSame
import Derived.Deep.Fields
import Derived.Deep.MidRow
import Derived.Deep.QuietTactic
import Derived.Deep.RegionHeld
import Derived.Deep.RegionHeld3
import Derived.Deep.Slices
import Derived.Great.BuildSlice
import Derived.Laws.BytesArg
import Derived.Laws.CopyOwn
import Derived.Laws.CopyRow
import Derived.Laws.Rows
import Derived.Laws.Strings
import Derived.Laws.StructEq
import Derived.Laws.World
import Derived.Lib.BitFns
import Derived.Lib.BufferWrite
import Derived.Lib.ConvBytes
import Derived.Lib.Hide
import Derived.LoopIn
import Derived.LoopNIn
import Derived.OpenShut
import Derived.Outline
import Derived.OwnWalkIn
import Derived.ProofKit
import Derived.RangeFuncLeaves
import Derived.RangeFuncWrites
import Derived.Shelf.Small.Bits
import Derived.Shelf.Small.Strs
import Derived.Shelf.Strings.Builder1
import Derived.Shelf.Strings.Cut
import Derived.Shelf.Strings.Split
import Derived.ShutString
import Derived.SizedLaws
import Derived.SliceStrings
import Derived.StillTailTactics
import Derived.TacticsInMore
import Derived.Test.YtbgndopgllnmaaaDoorRows
import Derived.Test.YtbgndopgllnmaaaDoorGA
import Derived.WalkKit
import Derived.WalkMore
import Derived.Test.YtbgndopgllnmaaaDoorGR
import Derived.Test.YtbgndopgllnmaaaDoorGE
import Derived.Test.YtbgndopgllnmaaaDoorGI
import Derived.Test.YtbgndopgllnmaaaDoorGQ
import Derived.Test.YtbgndopgllnmaaaDoorGH
import Derived.Test.YtbgndopgllnmaaaDoorGJ

/-
  Contracts at heads and patterns that are right; rows of two, raw. Conditions: right patterns.
-/

namespace Go.Proofs.YtbgndopgllnmaaaDoor
set_option linter.unusedVariables false
set_option linter.unusedSimpArgs false
open Go.RowKit

theorem rightI_HI (f : Nat → Bool) : rightI (HI f) := fun x hx => by
  unfold HI at hx
  obtain ⟨n, hn, rfl⟩ := List.mem_map.1 hx
  have := HN_lt f n hn
  omega
section
variable (f g : Nat → Bool) (p q : Pat) (w : World)
variable {p}
end
/-- Rows of raw words. -/
def rawRow (l : List (List Int × List Int)) : List Value := l.flatMap rawCells
theorem rawCells_length {r : List Int × List Int} (h : r.1.length = 10 ∧ r.2.length = 10) : (rawCells r).length = 20 := by
  unfold rawCells
  rw [List.length_append, List.length_map, List.length_map, h.1, h.2]
end Go.Proofs.YtbgndopgllnmaaaDoor

/-
  Lists of patterns that come in: where they lie, rows made of them by append, what Few says. Conditions: the row's own.
-/

namespace Go.Proofs.YtbgndopgllnmaaaDoor
set_option linter.unusedVariables false
set_option linter.unusedSimpArgs false
open Go.ChangeShapes Go.WideShapes Go.ChangeAt Go.RowKit

theorem okWide_sliceN {P : Program} {w : World} {r : Reach} {base : Nat} {t e : TypeId} {v : Value} (hu : P.underlying t = some (.slice e)) (h : Value.okWide P w r base t v) : ∃ A len cap, v = .slice A len cap ∧ (A = none → len = 0 ∧ cap = 0) ∧ ∀ g o, A = some ⟨g, o, none⟩ → g < w.heap.size := by
  have h' : Cell.ok P w r base t v := by
    simp only [Value.okWide, hu, Cell.okWide] at h
    exact h
  unfold Cell.ok at h'
  rw [hu] at h'
  cases v with
  | slice A len cap =>
    cases A with
    | none =>
      refine ⟨none, len, cap, rfl, fun _ => ?_, fun g o e => by cases e⟩
      cases len with
      | zero => cases cap with
        | zero => exact ⟨rfl, rfl⟩
        | succ c => exact absurd h' (by simp)
      | succ l => exact absurd h' (by simp)
    | some a =>
      refine ⟨some a, len, cap, rfl, (fun e => by cases e), fun g o e => ?_⟩
      have h2 : len ≤ cap ∧ (cap : Int) ≤ IntKind.i64.max ∧ w.has P r base a _ cap := h'
      obtain ⟨_, _, _, _, row, cells, hs, _⟩ := h2
      injection e with e
      subst e
      have hs' : w.shape? g = some (row, cells) := hs
      unfold World.shape? at hs'
      rcases Nat.lt_or_ge g w.heap.size with hlt | hge
      · exact hlt
      · rw [Array.getElem?_eq_none hge] at hs'
        cases hs'
  | _ => exact absurd h' (by simp)
theorem add_add (a : Addr) (m n : Nat) : (a.add m).add n = a.add (m + n) := by
  unfold Addr.add
  by_cases hm : m = 0
  · subst hm; simp
  · by_cases hn : n = 0
    · subst hn; simp [hm]
    · have : ¬ (m + n = 0) := by omega
      simp [hm, hn, this, Nat.add_assoc]
/-- A row of cells lies behind an address, if there are any. -/
def CellsAt (w : World) (A : Option Addr) (ys : List Value) : Prop := ∀ q u, ys[q]? = some u → ∃ ad, A = some ad ∧ w.cell? (ad.add q) = some u
theorem CellsAt.next {w w' : World} {A : Option Addr} {ys : List Value} (h : CellsAt w A ys) (hb : Below w.heap.size w w') : CellsAt w' A ys := fun q u hu => by
  obtain ⟨ad, e, hc⟩ := h q u hu
  exact ⟨ad, e, by rw [hb.cell (World.block_lt_of_cell? w _ hc)]; exact hc⟩
theorem rawRow_get : ∀ {l : List (List Int × List Int)}, Tens l → ∀ {q : Nat} {u : Value}, (rawRow l)[q]? = some u → ∃ r, l[q / 20]? = some r ∧ (rawCells r)[q % 20]? = some u
  | [], _, q, u, h => by cases h
  | a :: l, hT, q, u, h => by
    have ha := rawCells_length (hT a (List.mem_cons_self ..))
    have h' : (rawCells a ++ rawRow l)[q]? = some u := h
    by_cases hq : q < 20
    · rw [List.getElem?_append_left (by rw [ha]; exact hq)] at h'
      exact ⟨a, by rw [show q / 20 = 0 by omega]; rfl, by rw [show q % 20 = q by omega]; exact h'⟩
    · rw [List.getElem?_append_right (by rw [ha]; omega), ha] at h'
      obtain ⟨r, h1, h2⟩ := rawRow_get (fun x hx => hT x (List.mem_cons_of_mem _ hx)) h'
      refine ⟨r, ?_, by rw [show q % 20 = (q - 20) % 20 by omega]; exact h2⟩
      rw [show q / 20 = (q - 20) / 20 + 1 by omega]
      exact h1
theorem RawAt.cells {w : World} {A : Option Addr} {l : List (List Int × List Int)} (h : RawAt w A l) (hT : Tens l) : CellsAt w A (rawRow l) := fun q u hu => by
  obtain ⟨r, h1, h2⟩ := rawRow_get hT hu
  obtain ⟨ad, e, hc⟩ := h _ r h1
  refine ⟨ad, e, ?_⟩
  have := hc _ u h2
  rw [add_add] at this
  rw [show q = q / 20 * 20 + q % 20 by omega]; exact this
end Go.Proofs.YtbgndopgllnmaaaDoor
