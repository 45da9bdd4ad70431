/-
  The walk over the statement on Equal. Conditions: the tables read as the document has them.
-/
import Derived.Test.YtnhnfdfjlagcjaaDoorHsane
namespace Go.Proofs.YtnhnfdfjlagcjaaDoor
open Go.RowKit

theorem equal_true (a : ByteArray) (w : World) (ha : a.size ≤ 1000000000) :
    Calls Tryd.prog 29 #[.string a, .string a] w fun e w' => e = .returned (.bool true) ∧ Below w.heap.size w w' := by
  have := equal_any a a w ha ha
  rw [decide_eq_true rfl] at this
  exact this
theorem equal_false (a b : ByteArray) (w : World) (ha : a.size ≤ 1000000000) (hb : b.size ≤ 1000000000) (hne : a ≠ b) :
    Calls Tryd.prog 29 #[.string a, .string b] w fun e w' => e = .returned (.bool false) ∧ Below w.heap.size w w' := by
  have := equal_any a b w ha hb
  rw [decide_eq_false hne] at this
  exact this

theorem toList_inj {a b : ByteArray} (h : a.toList = b.toList) : a = b := by
  rw [ByteArray.toList_eq, ByteArray.toList_eq] at h
  exact ByteArray.ext (Array.toList_inj.1 h)
theorem cat_empty (a : ByteArray) : a ++ ({ data := #[] } : ByteArray) = a := by
  apply ByteArray.ext
  rw [ByteArray.data_append]
  simp

set_option maxRecDepth 100000 in
set_option maxHeartbeats 800000 in
theorem equalLaw_any (a b : ByteArray) (w : World) (ha : a.size ≤ 140737488351232) (hb : b.size ≤ 140737488351232) (HY : Lay w) :
    Calls Tryd.prog 9 #[.string a, .string b] w fun e w' => e = .returned (.bool true) ∧ Below w.heap.size w w' := by
  have hca := cat_empty a
  go_enter Tryd.func9, Tryd.ntmps9
  go_wp2_with fail
  (with_reducible refine (sanity_any _ HY).mono ?_)
  rintro e w1 ⟨rfl, hb1⟩
  by_cases h1 : 400 < a.size
  · go_wp2
    go_ret
    exact ⟨rfl, hb1⟩
  · by_cases h2 : 400 < b.size
    · go_wp2
      go_ret
      exact ⟨rfl, hb1⟩
    · by_cases hab : a = b
      · subst hab
        go_wp2_with (go_at_call 29; (with_reducible refine (equal_true a _ (by omega)).mono ?_); rintro e w2 ⟨rfl, hb2⟩; replace hb1 := below_join hb1 hb2; clear hb2)
        go_ret
        exact ⟨rfl, hb1⟩
      · have hs1 : (a.toList == b.toList) = false := beq_eq_false_iff_ne.2 (fun e => hab (toList_inj e))
        have hba : b ≠ a := fun e => hab e.symm
        go_wp2_with (go_at_call 29; (first | (with_reducible refine (equal_false a b _ (by omega) (by omega) hab).mono ?_) | (with_reducible refine (equal_false b a _ (by omega) (by omega) hba).mono ?_) | (with_reducible refine (equal_true a _ (by omega)).mono ?_)); rintro e w2 ⟨rfl, hb2⟩; replace hb1 := below_join hb1 hb2; clear hb2)
        go_ret
        exact ⟨rfl, hb1⟩
end Go.Proofs.YtnhnfdfjlagcjaaDoor
