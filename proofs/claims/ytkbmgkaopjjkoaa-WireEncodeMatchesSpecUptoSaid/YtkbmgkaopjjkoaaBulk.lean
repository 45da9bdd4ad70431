/-
  What the second form's bound says of a slice, a string, a slice of strings. Conditions: none.
-/
import Derived.Test.YtkbmgkaopjjkoaaOpen2
import Derived.JoinedCond
namespace Go.Proofs.Ytkbmgkaopjjkoaa
open Go.ChangeShapes Go.WideShapes Go.ChangeAt Go.RowKit

theorem bulk_pos {H : Type} (d : DataW H) : 1 ≤ Rows.uptoBulk d := by
  cases d with
  | lit l => cases l <;> simp [Rows.uptoBulk]
  | _ => simp [Rows.uptoBulk]
theorem bulk_count {H : Type} : ∀ (l : List (DataW H)), l.length ≤ Rows.uptoBulkAll l
  | [] => by simp [Rows.uptoBulkAll]
  | d :: r => by
    have h1 := bulk_pos d
    have h2 := bulk_count r
    simp only [Rows.uptoBulkAll, List.length_cons]; omega
theorem bulk_lenOf {H : Type} {d : DataW H} {len : Nat} (h : LenOf d len) : len ≤ Rows.uptoBulk d := by
  rcases h with rfl | ⟨es, sp, rfl, rfl⟩
  · omega
  · have := bulk_count es
    simp only [Rows.uptoBulk]; omega
theorem bulk_string {H : Type} (s : ByteArray) : s.size ≤ Rows.uptoBulk (DataW.lit (H := H) (.string s.data.toList)) := by
  simp only [Rows.uptoBulk]; rw [bytes_size]; omega
theorem bulk_texts {H : Type} : ∀ (l : List ByteArray), l.length + total l ≤ Rows.uptoBulkAll (l.map fun s => DataW.lit (H := H) (.string s.data.toList))
  | [] => by simp [Rows.uptoBulkAll, total]
  | s :: r => by
    have h1 := bulk_texts (H := H) r
    simp only [List.map_cons, Rows.uptoBulkAll, Rows.uptoBulk, List.length_cons, total]
    rw [bytes_size]; omega
theorem bulk_strd {H : Type} {d : DataW H} {len : Nat} {l : List ByteArray} (h : len = 0 ∨ ∃ sp, d = .slice (l.map fun s => .lit (.string s.data.toList)) sp) (he : len = l.length) : l.length + total l ≤ Rows.uptoBulk d := by
  rcases h with rfl | ⟨sp, rfl⟩
  · have : l = [] := List.eq_nil_of_length_eq_zero he.symm
    subst this
    simp [total]
  · have := bulk_texts (H := H) l
    simp only [Rows.uptoBulk]; omega
end Go.Proofs.Ytkbmgkaopjjkoaa
