/-
  The examples of chapter 2, reckoned. Conditions: none.
-/
import Derived.Test.YtnhnfdfjlagcjaaDoorHhex
import Derived.Test.YtnhnfdfjlagcjaaDoorHmac
namespace Go.Proofs.YtnhnfdfjlagcjaaDoor
def abcHex : List UInt8 := [98, 97, 55, 56, 49, 54, 98, 102, 56, 102, 48, 49, 99, 102, 101, 97, 52, 49, 52, 49, 52, 48, 100, 101, 53, 100, 97, 101, 50, 50, 50, 51, 98, 48, 48, 51, 54, 49, 97, 51, 57, 54, 49, 55, 55, 97, 57, 99, 98, 52, 49, 48, 102, 102, 54, 49, 102, 50, 48, 48, 49, 53, 97, 100]
def macHex : List UInt8 := [53, 98, 100, 99, 99, 49, 52, 54, 98, 102, 54, 48, 55, 53, 52, 101, 54, 97, 48, 52, 50, 52, 50, 54, 48, 56, 57, 53, 55, 53, 99, 55, 53, 97, 48, 48, 51, 102, 48, 56, 57, 100, 50, 55, 51, 57, 56, 51, 57, 100, 101, 99, 53, 56, 98, 57, 54, 52, 101, 99, 51, 56, 52, 51]
def ofHex : List UInt8 := [102, 97, 49, 53, 52, 98, 97, 53, 97, 52, 100, 50, 54, 54, 102, 49, 98, 54, 52, 99, 56, 50, 54, 99, 101, 101, 100, 99, 97, 99, 98, 55]
def jefe : ByteArray := { data := #[74, 101, 102, 101] }
def what : ByteArray := { data := #[119, 104, 97, 116, 32, 100, 111, 32, 121, 97, 32, 119, 97, 110, 116, 32, 102, 111, 114, 32, 110, 111, 116, 104, 105, 110, 103, 63] }
def sA : ByteArray := { data := #[97] }
def sE : ByteArray := { data := #[] }
theorem ev_sum : hexL (SM.sum [97, 98, 99]) = abcHex := by decide +kernel
theorem ev_mac : hexL (mac jefe.data.toList what.data.toList) = macHex := by decide +kernel
theorem ev_in : ofIn 8 [sA, sE] = [8, 2, 97, 0] := by
  unfold ofIn strsOf
  simp only [List.map_cons, List.map_nil, List.flatMap_cons, List.flatMap_nil, List.append_nil]
  have h1 : WM.encB sA.data.toList = [2, 97] := by
    show WM.encN (WM.fold 1) ++ [97] = [2, 97]
    rw [WM.encN_lo (by decide)]; rfl
  have h2 : WM.encB sE.data.toList = [0] := by
    show WM.encN (WM.fold 0) ++ [] = [0]
    rw [WM.encN_lo (by decide)]; rfl
  rw [h1, h2]
  decide
theorem ev_of' : hexL ((SM.sum [8, 2, 97, 0]).take 16) = ofHex := by decide +kernel
theorem ev_of : hexL ((SM.sum (ofIn 8 [sA, sE])).take 16) = ofHex := by rw [ev_in]; exact ev_of'
end Go.Proofs.YtnhnfdfjlagcjaaDoor
