/-
  An argument that is a list of strings, read. Conditions: the row's own.
-/
import Derived.Test.YtbgndopgllnmaaaDoorGT
import Derived.Test.YtbgndopgllnmaaaDoorGW
import Derived.ProofKit
import Derived.OpenShut
import Derived.ShutString
import Derived.ChangeOld
import Derived.SizedLaws
import Derived.SliceStrings
import Derived.Deep.Slices
import Derived.Deep.Fields
import Derived.ChangeSame
import Derived.LaidMore
import Derived.Shelf.Vars
import Derived.Lay
import Derived.Stop.Joined
import Derived.Deep.DeepHandedRow
namespace Go.Proofs.YtbgndopgllnmaaaDoor
set_option linter.unusedVariables false
set_option linter.unusedSimpArgs false
open Go.ChangeShapes Go.WideShapes Go.ChangeAt Go.RowKit
open Go.Deep (choose_lt)
set_option linter.unusedVariables false
section
variable {H : Type} {enc : TypeId × Value → H} {W : World} {d : DataW H} {p : List MemPlace}
theorem open_strs8 {a : Option Addr} {len cap : Nat} (h : DataW.Trod enc Tryd.prog W 0 (fun _ => true) true 28 (.slice a len cap) d p) : ∃ l : List ByteArray, len = l.length ∧ StAt W a l ∧ LenOf d len := by
  obtain ⟨fuel, hf⟩ := h
  have hf2 : DataW.trod enc Tryd.prog W 0 (fun _ => true) true fuel 28 [.slice a len cap] = some (d, p) := hf
  rcases Go.Deep.open_slice Tryd.underlying28 hf2 with ⟨hcs, hx⟩ | ⟨x, n, c, m, fl, D, Pl, hcs, _, hl, hm, hmm, hx, hel⟩
  · injection hcs with hcs _
    injection hcs with e1 e2 e3
    subst e1 e2 e3
    exact ⟨[], rfl, (fun j y hy => by cases hy), .inl rfl⟩
  · injection hcs with hcs _
    injection hcs with e1 e2 e3
    subst e1 e2 e3
    have hmc : m = cap := by simpa using hmm
    have c2 : Tryd.prog.cellsOf 9 = 1 := by kernel_rfl
    have each : ∀ i, i < m → ∃ s : ByteArray, W.cell? (x.add i) = some (.string s) := fun i hi => by
      obtain ⟨cs', h1, h2⟩ := hel i hi
      rw [c2, Nat.mul_one] at h1
      obtain ⟨hl4, hcl, hat⟩ := World.cells?_some h1
      obtain ⟨s, hs, _, _⟩ := DataW.trod_string Tryd.underlying9 h2
      refine ⟨s, ?_⟩
      have h3 := hat 0 (by omega)
      rw [hs] at h3
      have e0 : (x.add i).add 0 = x.add i := by cases x; simp [Addr.add]
      rw [e0] at h3
      exact h3
    haveI : Inhabited ByteArray := ⟨ByteArray.empty⟩
    obtain ⟨f, hfx⟩ := choose_lt each
    refine ⟨(List.range len).map f, by simp, fun j y hy => ?_, ?_⟩
    · rw [List.getElem?_map] at hy
      have hj : j < len := by
        rcases Nat.lt_or_ge j len with h | h
        · exact h
        · rw [List.getElem?_eq_none (by simp; omega)] at hy; cases hy
      rw [List.getElem?_range hj] at hy
      injection hy with hy
      have hc := hfx j (by omega)
      rw [hy] at hc
      have hs := World.cell?_spot (hfx 0 (by omega))
      obtain ⟨g, o, s⟩ := x
      have hs' : s = none := by
        simpa [Addr.add] using hs
      subst hs'
      rw [addr_mid] at hc
      exact ⟨g, o, rfl, hc⟩
    · have hx1 := congrArg Prod.fst hx
      simp only at hx1
      rw [hx1]
      exact .inr ⟨_, _, rfl, by simp⟩
end
end Go.Proofs.YtbgndopgllnmaaaDoor
