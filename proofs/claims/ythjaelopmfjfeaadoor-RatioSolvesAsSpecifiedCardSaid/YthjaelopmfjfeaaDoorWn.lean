/-
  Solve of a system that is not formed. Conditions: the rows' headers lie there.
-/
import Derived.Test.YthjaelopmfjfeaaDoorWm
namespace Go.Proofs.YthjaelopmfjfeaaDoor
set_option linter.unusedVariables false
set_option linter.unusedSimpArgs false
open Go.RowKit Go.Shelf

set_option maxRecDepth 100000 in
set_option maxHeartbeats 3200000 in
theorem solve_bad (A B : Option Addr) (c bl bc : Nat) (hs : List Hdr) (w : World) (hl : hs.length ≤ 100000) (hbl : bl ≤ 140737488355328) (hcn : colsN hs ≤ 140737488355328) (hS : HdrsAt w A hs) (hf : formedB hs bl = false) :
    Calls Tryd.prog 41 #[.slice A hs.length c, .slice B bl bc] w fun e w' => e = .returned (.tuple #[.slice none 0 0, .slice none 0 0, .int .i64 1]) ∧ Below w.heap.size w w' := by
  have hFO := formed_any A B c bl bc hs w hl hbl hcn hS
  rw [hf] at hFO
  have HFO := Lib.hid hFO
  obtain ⟨m, hm⟩ : ∃ m, hs.length = m := ⟨_, rfl⟩
  rw [hm] at HFO
  rw [hm]
  clear hFO hS hf hl hcn hm
  go_enter Tryd.func41, Tryd.ntmps41
  go_wp2_with fail
  (with_reducible refine HFO.out.mono ?_)
  rintro e w1 ⟨rfl, hb1⟩
  clear HFO
  go_wp2
  go_ret3
  first | exact ⟨rfl, hb1⟩ | exact hb1
end Go.Proofs.YthjaelopmfjfeaaDoor
