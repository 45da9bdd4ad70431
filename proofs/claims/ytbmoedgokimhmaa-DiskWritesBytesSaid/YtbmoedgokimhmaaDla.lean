/-
  Reads in plain words; equal rows of texts and of numbers. Conditions: none.
-/
import Derived.Test.YtbmoedgokimhmaaDl9
namespace Go.Proofs.Ytbmoedgokimhmaa
open Go.RowKit

def rdRow (M : DM) (n : Nat) : List (List UInt8) := (List.range n).map fun (k : Nat) => M.readS (k : Int)
theorem rdRow_len (M : DM) (n : Nat) : (rdRow M n).length = n := by unfold rdRow; simp
theorem rdRow_at (M : DM) {n k : Nat} (h : k < n) : (rdRow M n)[k]? = some (M.readS (k : Int)) := by
  unfold rdRow
  rw [List.getElem?_map, List.getElem?_range h]; rfl
theorem okP_of {M : DM} {n k : Nat} (hn : M.ps.length = n) (h : k < n) : M.okP (k : Int) = true := by
  unfold DM.okP
  rw [decide_eq_true_eq]; omega
theorem readS_up {M : DM} (hu : M.up = true) {n k : Nat} (hn : M.ps.length = n) (h : k < n) : M.readS (k : Int) = (M.page k).now := by
  unfold DM.readS
  rw [if_pos hu, if_pos (okP_of hn h), Int.toNat_natCast]
theorem readE_up {M : DM} (hu : M.up = true) {n k : Nat} (hn : M.ps.length = n) (h : k < n) : M.readE (k : Int) = 0 := by
  unfold DM.readE
  rw [if_pos hu, if_pos (okP_of hn h)]
theorem sameTexts_img (A B : Option Addr) (ca cb n : Nat) (L : List (List UInt8)) (w : World) (hn : L.length = n) (hl : n ≤ 4096) (r1 : RowAt w A (L.map S8)) (r2 : RowAt w B (L.map S8)) :
    Calls Try.prog 28 #[.slice A n ca, .slice B n cb] w fun e w' => e = .returned (.bool true) ∧ Below w.heap.size w w' := by
  rw [S8_map] at r1 r2
  have h1 : (L.map fun l => (⟨l.toArray⟩ : ByteArray)).length = n := by rw [List.length_map]; exact hn
  subst h1
  exact sameTexts_eq A B ca cb _ w (by omega) r1 r2
/-- What a Write that succeeds leaves. -/
theorem write_page {M : DM} {j b : Nat} {s : List UInt8} (hj : j < M.ps.length) (k : Nat) (_hk : k < M.ps.length) : ((M.step.set j ⟨(M.page j).old, some (DM.put (M.page j).now b s)⟩).page k).now = if k = j then DM.put (M.page j).now b s else (M.page k).now := by
  have hj' : j < M.step.ps.length := by rw [DM.step_ps]; exact hj
  by_cases h : k = j
  · subst h
    rw [page_set_self hj', if_pos rfl]; rfl
  · rw [page_set_ne (fun e => h e.symm), if_neg h, DM.page_step]
theorem image_step (M : DM) : M.step.image = M.image := by unfold DM.image; rw [DM.step_ps]
end Go.Proofs.Ytbmoedgokimhmaa
