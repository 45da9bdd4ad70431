/-
  Contract of the walk over the law package's zeros, by the library's contract of strings.Repeat. Conditions: none.
-/
import Derived.Test.YtbmoedgokimhmaaDo4
import Derived.Test.YtbmoedgokimhmaaShelfr
import Derived.Shelf.Strings.Repeat
namespace Go.Proofs.Ytbmoedgokimhmaa
open Go.RowKit Go.Shelf

theorem Try.repeatX : Builder.Extra Try.prog Try.repeatA_ren where
  sizeBuilder := by kernel_rfl
  liesBuilder := by kernel_rfl
  t5 := Try.repeatA.t5
  a5 := Try.repeatA.a5
  z5 := Try.repeatA.z5
  v5 := Try.repeatA.v5
  infoByte := by kernel_rfl
  cellsByte := by kernel_rfl
  sizeByte := by kernel_rfl
  neB5 := by decide
theorem repeat_any (n : Nat) (zz : ByteArray) (w : World) (hn : n ≤ 1000000) (hz : (⟨(List.replicate n (0 : UInt8)).toArray⟩ : ByteArray) = zz) :
    Calls Try.prog 83 #[.string { data := #[0] }, .int .i64 (n : Int)] w fun e w' => e = .returned (.string zz) ∧ Below w.heap.size w w' := by
  have h := Any.strings_Repeat Try.repeatA Try.repeatX { data := #[0] } n w (by omega) (by show 1 * n ≤ _; omega)
  refine Calls.mono h ?_
  rintro e w' ⟨rfl, hb⟩
  refine ⟨?_, hb⟩
  have e1 : Lib.repeatL (ByteArray.mk #[0]).data.toList n = List.replicate n 0 := by
    have := Lib.repeatL_replicate 0 1 n
    rw [Nat.mul_one] at this
    exact this
  rw [e1, hz]
theorem zeros_any (n : Nat) (zz : ByteArray) (w : World) (hn : n ≤ 1000000) (hz : (⟨(List.replicate n (0 : UInt8)).toArray⟩ : ByteArray) = zz) :
    Calls Try.prog 54 #[.int .i64 (n : Int)] w fun e w' => e = .returned (.string zz) ∧ Below w.heap.size w w' := by
  have HZ := Lib.hid hz
  clear hz
  go_enter Try.func54, Try.ntmps54
  go_wp2_with fail
  (with_reducible refine (repeat_any n zz _ hn HZ.out).mono ?_)
  rintro e w1 ⟨rfl, hb⟩
  go_wp2
  go_ret
  exact ⟨rfl, hb⟩
end Go.Proofs.Ytbmoedgokimhmaa
