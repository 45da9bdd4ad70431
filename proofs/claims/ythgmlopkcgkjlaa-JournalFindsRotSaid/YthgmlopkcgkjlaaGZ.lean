/-
  Contracts of the functions that the statement calls, part 26 of 37 (merged texts: Jp8, Jpe). Conditions: as the head of each part says.
-/
import Derived.Test.YthgmlopkcgkjlaaGX
import Derived.Test.YthgmlopkcgkjlaaGY
import Derived.Shelf.Small.Strs
import Derived.Laws.StructEq

/-
  Contract of the walk over strings.IndexByte at the two marks, by the library's. Conditions: none.
-/
namespace Go.Proofs.Ythgmlopkcgkjlaa
open Go.RowKit Go.Shelf

/-- The half that a mark names, or -1. -/
def halfOf (c : UInt8) : Int := if c = 0 then 0 else if c = 255 then 1 else -1
theorem indexByte_marks (c : UInt8) : Lib.indexByte [0, 255] c = halfOf c := by
  unfold halfOf
  by_cases h0 : c = 0
  · subst h0; rfl
  · by_cases h1 : c = 255
    · subst h1; rfl
    · rw [if_neg h0, if_neg h1]
      simp [Lib.indexByte, Ne.symm h0, Ne.symm h1]
theorem byte_back (c : UInt8) : (c.toNat : Int).toNat.toUInt8 = c := by
  show (c.toNat).toUInt8 = c
  simp
theorem mark_index (c : UInt8) (w : World) :
    Calls Try.prog 92 #[.string ⟨#[0, 255]⟩, .int .u8 (c.toNat : Int)] w fun e w' => e = .returned (.int .i64 (halfOf c)) ∧ w' = w := by
  have h := Any.strings_IndexByte Try.indexA ⟨#[0, 255]⟩ (c.toNat : Int) w
  rw [byte_back, show (⟨#[0, 255]⟩ : ByteArray).data.toList = [0, 255] from rfl, indexByte_marks] at h
  exact h
end Go.Proofs.Ythgmlopkcgkjlaa

/-
  Comparison of arrays of bytes. Conditions: none.
-/
namespace Go.Proofs.Ythgmlopkcgkjlaa
open Go.RowKit

theorem Try.cells5 : Try.prog.cellsOf 5 = 1 := by kernel_rfl
theorem Try.plain5 : Try.prog.plainKey 5 = true := by kernel_rfl
theorem eqItems_dec (w : World) (l r : List UInt8) (hlr : l.length = r.length) : ∀ (is : List Nat), (∀ i ∈ is, i < l.length) →
    (Op.eqItems 9999 5 1 (l.map B8).toArray (r.map B8).toArray is).run Try.prog w = .ok (is.all fun i => l.getD i 0 == r.getD i 0) w
  | [], _ => by simp [Op.eqItems]
  | i :: is, h => by
    have hi := h i (by simp)
    have hi2 : i < r.length := by omega
    have ih := eqItems_dec w l r hlr is (fun j hj => h j (by simp [hj]))
    have hx : (l.map B8).toArray[i * 1]? = some (B8 (l.getD i 0)) := by simp [List.getElem?_eq_getElem hi]
    have hy : (r.map B8).toArray[i * 1]? = some (B8 (r.getD i 0)) := by simp [List.getElem?_eq_getElem hi2]
    have hp := run_part_plain (P := Try.prog) (w := w) Try.plain5 hx
    have hq := run_part_plain (P := Try.prog) (w := w) Try.plain5 hy
    have he : (Op.equalIn 9999 5 (B8 (l.getD i 0)) (B8 (r.getD i 0))).run Try.prog w = .ok (l.getD i 0 == r.getD i 0) w := by
      have := run_equalIn_int (P := Try.prog) w 9998 5 .u8 .u8 ((l.getD i 0).toNat : Int) ((r.getD i 0).toNat : Int) Try.underlying5
      rw [show (((l.getD i 0).toNat : Int) == ((r.getD i 0).toNat : Int)) = (l.getD i 0 == r.getD i 0) by
        rw [Bool.eq_iff_iff, beq_iff_eq, beq_iff_eq]
        constructor
        · intro h; exact UInt8.toNat_inj.1 (by omega)
        · intro h; rw [h]] at this
      exact this
    simp only [Op.eqItems, Sem.run_bind, hp, hq, Result.andThen_ok, he, List.all_cons]
    cases hb : (l.getD i 0 == r.getD i 0)
    · simp
    · simpa using ih
theorem all_range_eq (l r : List UInt8) (h : l.length = r.length) : ((List.range l.length).all fun i => l.getD i 0 == r.getD i 0) = decide (l = r) := by
  rw [Bool.eq_iff_iff, List.all_eq_true, decide_eq_true_eq]
  constructor
  · intro ha
    apply List.ext_getElem h
    intro i h1 h2
    have := ha i (List.mem_range.2 h1)
    rw [beq_iff_eq, List.getD_eq_getElem?_getD, List.getD_eq_getElem?_getD, List.getElem?_eq_getElem h1, List.getElem?_eq_getElem h2] at this
    exact this
  · intro e i _
    rw [e]; exact beq_self_eq_true _
theorem neq_arr (w : World) (ty : TypeId) (n : Nat) (hu : Try.prog.underlying ty = some (.array n 5)) (l r : List UInt8) (hl : l.length = n) (hr : r.length = n) :
    (binOp .neq ty (.agg (l.map B8).toArray) (.agg (r.map B8).toArray)).run Try.prog w = .ok (.bool (!decide (l = r))) w := by
  obtain ⟨i0, hi, _, _, _⟩ := info_parts Try.infoB
  rw [run_neq_struct, run_equalIn_array (P := Try.prog) (w := w) 9999 _ _ hu hi, Try.cells5, eqItems_dec w l r (by omega) _ (fun i h => by have := List.mem_range.1 h; omega), ← hl, all_range_eq l r (by omega)]
  rfl
theorem head_guard : Try.prog.eqGuardType Try.prog.depth 149 = false := by kernel_rfl
end Go.Proofs.Ythgmlopkcgkjlaa
