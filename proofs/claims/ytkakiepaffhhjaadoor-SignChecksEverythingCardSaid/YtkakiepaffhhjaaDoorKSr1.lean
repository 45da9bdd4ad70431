/-
  Integer arguments of the rows of layer 3. Conditions: none.
-/
import Derived.Test.YtkakiepaffhhjaaDoorJD
namespace Go.Proofs.YtkakiepaffhhjaaDoor
open Go.RowKit

theorem okI_wf {n : Int} (h : (Lit.int .i64 n).wf = true) : WM.okI n := by
  have h1 : IntKind.i64.min = -9223372036854775808 := rfl
  have h2 : IntKind.i64.max = 9223372036854775807 := rfl
  simp only [Lit.wf, Bool.and_eq_true, decide_eq_true_eq] at h
  exact ⟨by omega, by omega⟩
theorem u8_wf {a : Int} (hw : (Lit.int .u8 a).wf = true) : ∃ k : Nat, a = (k : Int) ∧ k < 256 := by
  have h1 : IntKind.u8.min = 0 := rfl
  have h2 : IntKind.u8.max = 255 := rfl
  simp only [Lit.wf, Bool.and_eq_true, decide_eq_true_eq] at hw
  exact ⟨a.toNat, by omega, by omega⟩
theorem u16_wf {a : Int} (hw : (Lit.int .u16 a).wf = true) : ∃ k : Nat, a = (k : Int) ∧ k < 65536 := by
  have h1 : IntKind.u16.min = 0 := rfl
  have h2 : IntKind.u16.max = 65535 := rfl
  simp only [Lit.wf, Bool.and_eq_true, decide_eq_true_eq] at hw
  exact ⟨a.toNat, by omega, by omega⟩
end Go.Proofs.YtkakiepaffhhjaaDoor
