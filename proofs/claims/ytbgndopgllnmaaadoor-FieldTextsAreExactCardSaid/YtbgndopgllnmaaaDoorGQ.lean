/-
  Contracts of the functions that the statement calls, part 17 of 25 (merged texts: Oa). Conditions: as the head of each part says.
-/
import Derived.BigQuiet
import Derived.ChangeKeysEq
import Derived.ChangeOld
import Derived.ChangeSame
import Derived.Deep.Fields
import Derived.Deep.MidRow
import Derived.Deep.QuietTactic
import Derived.Deep.RegionHeld
import Derived.Deep.RegionHeld3
import Derived.Deep.Slices
import Derived.Great.BuildSlice
import Derived.Laws.BytesArg
import Derived.Laws.CopyOwn
import Derived.Laws.CopyRow
import Derived.Laws.Rows
import Derived.Laws.StructEq
import Derived.Laws.World
import Derived.Lib.BitFns
import Derived.Lib.BufferWrite
import Derived.Lib.Hide
import Derived.OpenShut
import Derived.Outline
import Derived.ProofKit
import Derived.ShutString
import Derived.SizedLaws
import Derived.SliceStrings
import Derived.StillTailTactics
import Derived.Test.YtbgndopgllnmaaaDoorRows
import Derived.WalkKit
import Derived.WalkMore
import Derived.Test.YtbgndopgllnmaaaDoorGI

/-
  The arguments of layer 6's statements, read: a head, a pattern, a mod, a list of patterns. Conditions: the row's own.
-/

namespace Go.Proofs.YtbgndopgllnmaaaDoor
set_option linter.unusedVariables false
set_option linter.unusedSimpArgs false
open Go.ChangeShapes Go.WideShapes Go.ChangeAt Go.RowKit
open Go.Deep (choose_lt)

theorem okWide_arrB {P : Program} {w : World} {r : Reach} {base : Nat} {t e : TypeId} {n : Nat} {v : Value} (ht : P.underlying t = some (.array n e)) (h : Value.okWide P w r base t v) : ∃ cs, v = .agg cs ∧ cs.size = P.cellsOf t := by
  simp only [Value.okWide, ht] at h
  obtain ⟨cs, h1, h2, _⟩ := h
  exact ⟨cs, h1, h2⟩
/-- How long a slice that came in is, as its datum tells. -/
def LenOf {H : Type} (d : DataW H) (len : Nat) : Prop := len = 0 ∨ ∃ es sp, d = .slice es sp ∧ es.length = len
theorem LenOf.reach {H : Type} {P : Program} {ts : List TypeId} {ds : List (DataW H)} {d : DataW H} {len j b : Nat} {t e : TypeId} (hl : LenOf d len) (h : (DataW.weightsEach P ts ds).all (· ≤ reachBytes) = true) (ht : ts[j]? = some t) (hd : ds[j]? = some d) (hu : P.underlying t = some (.slice e)) (hb : P.bytesOf e = b) : len * b ≤ 140737488351232 := by
  rcases hl with rfl | ⟨es, sp, rfl, rfl⟩
  · omega
  · have := sized_slice h ht hd hu
    rw [hb] at this
    have h2 : es.length * b ≤ (es.length + sp.length) * b := Nat.mul_le_mul_right _ (by omega)
    simp only [reachBytes] at this
    omega
theorem cells10 {cs : List Value} {f : Nat → Int} (hl : cs.length = 10) (h : ∀ i, i < 10 → cs[i]? = some (iV (f i))) : cs = ((List.range 10).map f).map iV := by
  apply List.ext_getElem?
  intro i
  by_cases hi : i < 10
  · rw [h i hi, List.getElem?_map, List.getElem?_map, List.getElem?_range hi]; rfl
  · rw [List.getElem?_eq_none (by omega), List.getElem?_eq_none (by simp; omega)]
section
variable {H : Type} {enc : TypeId × Value → H} {W : World} {d : DataW H} {p : List MemPlace}
/-- Ten words that came in. -/
theorem head_of {base fuel : Nat} {cs : List Value} {y : DataW H × List MemPlace} (hf : DataW.trod enc Tryd.prog W base (fun _ => true) true fuel 30 cs = some y) (hcl : cs.length = 10) : ∃ l : List Int, l.length = 10 ∧ cs = l.map iV := by
  have c1 : Tryd.prog.cellsOf 3 = 1 := by kernel_rfl
  obtain ⟨xs, m, e1, _, hl, hxl, hi⟩ := DataW.trod_array Tryd.underlying30 hf
  have each : ∀ i, i < 10 → ∃ q : Int, cs[i]? = some (iV q) := fun i hiN => by
    have h1 := hi i hiN
    have hd : (cs.drop (i * 1)).take 1 = [cs[i]'(by omega)] := by rw [Nat.mul_one, List.drop_eq_getElem_cons (by omega)]; rfl
    rw [List.getElem?_eq_getElem (by omega), c1, hd] at h1
    obtain ⟨z, hz, _, _⟩ := DataW.trod_int Tryd.underlying3 h1
    injection hz with hz _
    exact ⟨z, by rw [List.getElem?_eq_getElem (by omega), hz]; rfl⟩
  obtain ⟨f, hfx⟩ := choose_lt each
  exact ⟨(List.range 10).map f, by simp, cells10 hcl hfx⟩
theorem open_head {cs : Array Value} (hs : cs.size = Tryd.prog.cellsOf 30) (h : DataW.Trod enc Tryd.prog W 0 (fun _ => true) true 30 (.agg cs) d p) : ∃ l : List Int, l.length = 10 ∧ cs = (l.map iV).toArray := by
  obtain ⟨fuel, hf⟩ := h
  have c : Tryd.prog.cellsOf 30 = 10 := by kernel_rfl
  have hf2 : DataW.trod enc Tryd.prog W 0 (fun _ => true) true fuel 30 cs.toList = some (d, p) := hf
  obtain ⟨l, hl, e⟩ := head_of hf2 (by rw [Array.length_toList, hs, c])
  exact ⟨l, hl, by rw [← e]⟩
instance : Inhabited (List Int × List Int) := ⟨([], [])⟩
end
theorem addr_eta {g o : Nat} {s : Option Nat} (h : s = none) : (⟨g, o, s⟩ : Addr) = ⟨g, o, none⟩ := by rw [h]
end Go.Proofs.YtbgndopgllnmaaaDoor
