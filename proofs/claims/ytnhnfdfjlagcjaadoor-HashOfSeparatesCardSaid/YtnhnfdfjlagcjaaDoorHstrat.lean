/-
  The walk over the statement on streams, at a byte that came in. Conditions: the tables read as the document has them.
-/
import Derived.Test.YtnhnfdfjlagcjaaDoorHstreams
import Derived.Test.YtnhnfdfjlagcjaaDoorHopen2
namespace Go.Proofs.YtnhnfdfjlagcjaaDoor
open Go.RowKit

theorem u8_nat {a : Int} (hw : (Lit.int .u8 a).wf = true) : ∃ k : Nat, a = (k : Int) ∧ k < 256 := by
  have h1 : IntKind.u8.min = 0 := rfl
  have h2 : IntKind.u8.max = 255 := rfl
  simp only [Lit.wf, Bool.and_eq_true, decide_eq_true_eq] at hw
  exact ⟨a.toNat, by omega, by omega⟩
theorem streamsLaw_at (A : Option Addr) (cap n : Nat) (xs : List ByteArray) (other : ByteArray) (a : Int) (w : World) (hn : n = xs.length) (hnc : n ≤ cap) (hz : n * 16 ≤ 140737488351232) (hb : ∀ s ∈ xs, s.size ≤ 140737488351232) (ho : other.size ≤ 140737488351232) (ha : (Lit.int .u8 a).wf = true) (hh : Holds w A (xs.map Value.string)) (HY : Lay w) (HC : LayC w) :
    Calls Tryd.prog 4 #[.slice A n cap, .string other, .int .u8 a] w fun e w' => e = .returned (.bool true) ∧ Below w.heap.size w w' := by
  obtain ⟨k, rfl, hk⟩ := u8_nat ha
  exact streamsLaw_any A cap n xs other k w hn hnc hz hb ho hk hh HY HC
end Go.Proofs.YtnhnfdfjlagcjaaDoor
