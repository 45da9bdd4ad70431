/-
  The examples of chapter 1 that the statements name, evaluated. Conditions: none.
-/
import Derived.Test.YtkbmgkaopjjkoaaSame
namespace Go.Proofs.Ytkbmgkaopjjkoaa
open Go.RowKit

theorem g1 : WM.getI [128, 1, 9] = (64, 2, 0) := by decide +kernel
theorem g2 : WM.getI [128] = (0, 0, 5) := by decide +kernel
theorem g3 : WM.getI [128, 0] = (0, 0, 6) := by decide +kernel
theorem g4 : WM.getB [4, 97, 98, 7] = ([97, 98], 3, 0) := by decide +kernel
theorem g5 : WM.getAll WM.getI 1 [4, 2, 1] = ([1, -1], 3, 0) := by decide +kernel
theorem g6 : WM.getAll WM.getB 1 [4, 0, 2, 97, 5] = ([[], [97]], 4, 0) := by decide +kernel
def dz : List UInt8 := [1, 2, 0, 0, 0, 0, 0, 0, 0, 0, 0, 0, 0, 0, 0, 0]
theorem e1 : WM.encI (-65) = [129, 1] := by
  unfold WM.encI
  rw [show WM.fold (-65) = 129 by decide +kernel, WM.encN_hi (by decide), WM.encN_lo (by decide)]
  decide +kernel
theorem e0 (n : Nat) (h : n < 64) : WM.encI (n : Int) = [UInt8.ofNat (2 * n)] := by
  unfold WM.encI
  rw [show WM.fold (n : Int) = 2 * n by unfold WM.fold; rw [if_neg (by omega)]; omega, WM.encN_lo (by omega)]
theorem em1 : WM.encI (-1) = [1] := by
  unfold WM.encI
  rw [show WM.fold (-1) = 1 by decide +kernel, WM.encN_lo (by decide)]
  decide +kernel
theorem e1' : WM.encI 1 = [2] := e0 1 (by decide)
theorem e2' : WM.encI 2 = [4] := e0 2 (by decide)
theorem e3 : WM.encB [97, 98] = [4, 97, 98] := by
  unfold WM.encB
  rw [show WM.encI (([97, 98] : List UInt8).length : Int) = [4] from e0 2 (by decide)]
  rfl
theorem e4 : WM.encAll WM.encI [1, -1] = [4, 2, 1] := by
  unfold WM.encAll
  rw [show WM.encI (([1, -1] : List Int).length : Int) = [4] from e0 2 (by decide)]
  simp only [List.flatMap_cons, List.flatMap_nil, e1', em1]
  rfl
theorem e5 : WM.encAll WM.encB [[], [97]] = [4, 0, 2, 97] := by
  unfold WM.encAll WM.encB
  rw [show WM.encI (([[], [97]] : List (List UInt8)).length : Int) = [4] from e0 2 (by decide)]
  simp only [List.flatMap_cons, List.flatMap_nil]
  rw [show WM.encI (([] : List UInt8).length : Int) = [0] from e0 0 (by decide), show WM.encI (([97] : List UInt8).length : Int) = [2] from e0 1 (by decide)]
  rfl
theorem e6 : WM.encAll (fun d => d) [dz] = 2 :: dz := by
  unfold WM.encAll
  rw [show WM.encI (([dz] : List (List UInt8)).length : Int) = [2] from e0 1 (by decide)]
  simp
theorem g7 : WM.getAll WM.getD 16 (2 :: dz) = ([dz], 17, 0) := by decide +kernel

theorem l1 : #[Value.int .u8 128, Value.int .u8 1, Value.int .u8 9] = (([128, 1, 9] : List UInt8).map B8).toArray := rfl
theorem l2 : #[Value.int .u8 128] = (([128] : List UInt8).map B8).toArray := rfl
theorem l3 : #[Value.int .u8 128, Value.int .u8 0] = (([128, 0] : List UInt8).map B8).toArray := rfl
theorem l4 : #[Value.int .u8 4, Value.int .u8 97, Value.int .u8 98, Value.int .u8 7] = (([4, 97, 98, 7] : List UInt8).map B8).toArray := rfl
theorem l5 : #[Value.int .u8 4, Value.int .u8 2, Value.int .u8 1] = (([4, 2, 1] : List UInt8).map B8).toArray := rfl
theorem l6 : #[Value.int .u8 4, Value.int .u8 0, Value.int .u8 2, Value.int .u8 97, Value.int .u8 5] = (([4, 0, 2, 97, 5] : List UInt8).map B8).toArray := rfl
theorem l7 : #[Value.int .u8 4, Value.int .u8 0, Value.int .u8 2, Value.int .u8 97] = (([4, 0, 2, 97] : List UInt8).map B8).toArray := rfl
theorem l8 : #[Value.int .u8 129, Value.int .u8 1] = (([129, 1] : List UInt8).map B8).toArray := rfl
theorem l9 : #[Value.int .u8 4, Value.int .u8 97, Value.int .u8 98] = (([4, 97, 98] : List UInt8).map B8).toArray := rfl
theorem lz : #[Value.int .u8 1, Value.int .u8 2, Value.int .u8 0, Value.int .u8 0, Value.int .u8 0, Value.int .u8 0, Value.int .u8 0, Value.int .u8 0, Value.int .u8 0, Value.int .u8 0, Value.int .u8 0, Value.int .u8 0, Value.int .u8 0, Value.int .u8 0, Value.int .u8 0, Value.int .u8 0] = (dz.map B8).toArray := rfl
end Go.Proofs.Ytkbmgkaopjjkoaa
