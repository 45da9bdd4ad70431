/-
  The walks over the statements SignIsAccepted and SignChecksEverything, at integers that came in. Conditions: the tables read as the document has them.
-/
import Derived.Test.YtkakiepaffhhjaaDoorKSl5
import Derived.Test.YtkakiepaffhhjaaDoorKSl6
import Derived.Test.YtkakiepaffhhjaaDoorKSr1
namespace Go.Proofs.YtkakiepaffhhjaaDoor
open Go.RowKit

theorem acceptLaw_at (seed : ByteArray) (a1 a2 : Int) (ms : ByteArray) (a4 : Int) (mo : ByteArray) (w : World) (z0 : seed.size ≤ 140737488351232) (w1 : (Lit.int .u8 a1).wf = true) (w2 : (Lit.int .u8 a2).wf = true) (z3 : ms.size ≤ 140737488351232) (w4 : (Lit.int .u16 a4).wf = true) (z5 : mo.size ≤ 140737488351232) (HY : Lay w) :
    Calls Tryd.prog 6 #[.string seed, .int .u8 a1, .int .u8 a2, .string ms, .int .u16 a4, .string mo] w fun e w' => e = .returned (.bool true) ∧ Below w.heap.size w w' := by
  obtain ⟨k1, rfl, h1⟩ := u8_wf w1
  obtain ⟨k2, rfl, h2⟩ := u8_wf w2
  obtain ⟨k4, rfl, h4⟩ := u16_wf w4
  exact acceptLaw_any seed k1 k2 ms k4 mo w z0 h1 h2 z3 h4 z5 HY
theorem checkLaw_at (seed : ByteArray) (a1 a2 : Int) (ms os : ByteArray) (a5 a6 : Int) (w : World) (z0 : seed.size ≤ 140737488351232) (w1 : (Lit.int .u8 a1).wf = true) (w2 : (Lit.int .u8 a2).wf = true) (z3 : ms.size ≤ 140737488351232) (z4 : os.size ≤ 140737488351232) (w5 : (Lit.int .u16 a5).wf = true) (w6 : (Lit.int .u8 a6).wf = true) (HY : Lay w) (HC : LayC w) :
    Calls Tryd.prog 8 #[.string seed, .int .u8 a1, .int .u8 a2, .string ms, .string os, .int .u16 a5, .int .u8 a6] w fun e w' => e = .returned (.bool true) ∧ Below w.heap.size w w' := by
  obtain ⟨k1, rfl, h1⟩ := u8_wf w1
  obtain ⟨k2, rfl, h2⟩ := u8_wf w2
  obtain ⟨k5, rfl, h5⟩ := u16_wf w5
  obtain ⟨k6, rfl, h6⟩ := u8_wf w6
  have e : ((k6 : Nat) : Int) = (((UInt8.ofNat k6).toNat : Nat) : Int) := by
    rw [show (UInt8.ofNat k6).toNat = k6 from by rw [UInt8.toNat_ofNat']; omega]
  rw [e]
  exact checkLaw_any seed k1 k2 ms os k5 (UInt8.ofNat k6) w z0 h1 h2 z3 z4 h5 HY HC
end Go.Proofs.YtkakiepaffhhjaaDoor
