/-
  Contracts of the walks over chapter 2's Equal. Conditions: at most 10^9 bytes.
-/
import Derived.Test.YtnhnfdfjlagcjaaDoorHw
namespace Go.Proofs.YtnhnfdfjlagcjaaDoor
open Go.RowKit

theorem b8_or (a b : UInt8) : bits .or .u8 (a.toNat : Int) (b.toNat : Int) = ((a ||| b).toNat : Int) := by
  rw [u8_or_nat _ _ a.toNat_lt b.toNat_lt, UInt8.toNat_or]
theorem b8_xor (a b : UInt8) : bits .xor .u8 (a.toNat : Int) (b.toNat : Int) = ((a ^^^ b).toNat : Int) := by
  rw [u8_xor_nat _ _ a.toNat_lt b.toNat_lt, UInt8.toNat_xor]
theorem or_eq_zero (a b : UInt8) : (a ||| b = 0) ↔ a = 0 ∧ b = 0 := by
  constructor
  · intro h
    have h2 : (a.toBitVec ||| b.toBitVec) = 0#8 := congrArg UInt8.toBitVec h
    have h3 : a.toBitVec = 0#8 ∧ b.toBitVec = 0#8 := by
      constructor
      · apply BitVec.eq_of_getLsbD_eq; intro i hi
        have := congrArg (fun v => v.getLsbD i) h2
        simp at this
        simp [this.1]
      · apply BitVec.eq_of_getLsbD_eq; intro i hi
        have := congrArg (fun v => v.getLsbD i) h2
        simp at this
        simp [this.2]
    exact ⟨UInt8.toBitVec_inj.1 h3.1, UInt8.toBitVec_inj.1 h3.2⟩
  · rintro ⟨rfl, rfl⟩; rfl
theorem xor_eq_zero (a b : UInt8) : (a ^^^ b = 0) ↔ a = b := by
  constructor
  · intro h
    have : (a ^^^ b) ^^^ b = 0 ^^^ b := by rw [h]
    rw [UInt8.xor_assoc, UInt8.xor_self, UInt8.xor_zero, UInt8.zero_xor] at this
    exact this
  · rintro rfl; exact UInt8.xor_self
/-- What the loop of Equal has found after k bytes. -/
def EqRel (a b : List UInt8) (d i : Value) (wr w : World) : Prop :=
  ∃ (k : Nat) (x : UInt8), k ≤ a.length ∧ i = .int .i64 k ∧ d = .int .u8 (x.toNat : Int) ∧ Hid (x = 0 ↔ a.take k = b.take k) ∧ Below w.heap.size w wr
theorem byte_of_str (s : ByteArray) (k : Nat) (h : k < s.size) : s[k]? = some (s.data.toList.getD k 0) := by
  rw [List.getD_eq_getElem?_getD, Array.getElem?_toList]
  have h' : k < s.data.size := h
  rw [getElem?_pos s k h, Array.getElem?_eq_getElem h']
  rfl

theorem getD_byte (s : ByteArray) (k : Nat) (h : k < s.size) : s.data.toList.getD k 0 = s[k] := by
  have h' : k < s.data.size := h
  rw [List.getD_eq_getElem?_getD, Array.getElem?_toList, Array.getElem?_eq_getElem h']
  rfl
theorem take_succ_iff (a b : List UInt8) (k : Nat) (h1 : k < a.length) (h2 : k < b.length) : a.take (k + 1) = b.take (k + 1) ↔ a.take k = b.take k ∧ a.getD k 0 = b.getD k 0 := by
  rw [List.take_succ_eq_append_getElem h1, List.take_succ_eq_append_getElem h2, List.getD_eq_getElem?_getD, List.getD_eq_getElem?_getD, List.getElem?_eq_getElem h1, List.getElem?_eq_getElem h2]
  constructor
  · intro h
    have := List.append_inj h (by rw [List.length_take, List.length_take]; omega)
    exact ⟨this.1, by simpa using this.2⟩
  · rintro ⟨e1, e2⟩
    rw [e1]; simp at e2; rw [e2]
theorem _root_.Go.RowKit.Below.drewN {B : Nat} {a w : World} (h : Below B a w) (n : Nat) : Below B a (w.drewN n) := ⟨h.os, h.tape, h.output, h.size, h.block⟩

set_option maxRecDepth 100000 in
theorem equal_any (a b : ByteArray) (w : World) (ha : a.size ≤ 1000000000) (hb : b.size ≤ 1000000000) :
    Calls Tryd.prog 29 #[.string a, .string b] w fun e w' => e = .returned (.bool (decide (a = b))) ∧ Below w.heap.size w w' := by
  by_cases hl : a.size = b.size
  · go_enter Tryd.func29, Tryd.ntmps29
    have hl1 : ((a.size : Int) == (b.size : Int)) = true := beq_iff_eq.2 (by omega)
    have HL := Lib.hid hl
    clear hl
    go_wp2
    go_loopw [5, 14] (fun d i wr => EqRel a.data.toList b.data.toList d i wr w) (fun _ i _ => a.size - (intOf i).toNat)
    case atStart => exact ⟨0, 0, Nat.zero_le _, rfl, rfl, by simp [Hid], Below.refl _ _⟩
    case round =>
      obtain ⟨k, x, hk, rfl, rfl, hx, hbel⟩ := hrel
      have hka : k ≤ a.size := by rw [Array.length_toList] at hk; exact hk
      by_cases hlt : k < a.size
      · have hltb : k < b.size := by have := HL.out; omega
        have hst : Hid (a.data.toList.take (k + 1) = b.data.toList.take (k + 1) ↔ a.data.toList.take k = b.data.toList.take k ∧ a[k] = b[k]) := by
          have := take_succ_iff a.data.toList b.data.toList k (by rw [Array.length_toList]; exact hlt) (by rw [Array.length_toList]; exact hltb)
          rw [getD_byte a k hlt, getD_byte b k hltb] at this
          exact this
        go_wp2
        go_quiet (fail)
        have hbel2 := hbel.drewN nq
        clear hbel
        generalize wr.drewN nq = w2 at hbel2 ⊢
        go_wp2
        go_roundw
        case rel =>
          refine ⟨k + 1, x ||| (a[k] ^^^ b[k]), by rw [Array.length_toList]; exact hlt, by go_num, by rw [b8_xor, b8_or], ?_, hbel2⟩
          have h3 : (x ||| (a[k] ^^^ b[k]) = 0 ↔ a.data.toList.take (k + 1) = b.data.toList.take (k + 1)) := by
            rw [or_eq_zero, xor_eq_zero, hst.out, hx.out]
          exact h3
        case measure => simp [intOf]; omega
      · have he : Hid (decide (a = b) = ((x.toNat : Int) == 0)) := by
          have hta : a.data.toList.take k = a.data.toList := List.take_of_length_le (by rw [Array.length_toList]; show a.size ≤ k; omega)
          have htb : b.data.toList.take k = b.data.toList := List.take_of_length_le (by rw [Array.length_toList]; show b.size ≤ k; have := HL.out; omega)
          have h3 := hx.out
          rw [hta, htb] at h3
          have h4 : decide (a = b) = ((x.toNat : Int) == 0) := by
            rw [Bool.eq_iff_iff]
            simp only [decide_eq_true_eq, beq_iff_eq]
            constructor
            · intro h; subst h; have := h3.2 rfl; subst this; rfl
            · intro h
              have : x = 0 := UInt8.toNat_inj.1 (by show x.toNat = 0; omega)
              have h5 := h3.1 this
              exact ByteArray.ext (Array.toList_inj.1 h5)
          exact h4
        go_wp2
        go_ret
        exact ⟨by rw [he.out]; rfl, hbel⟩
  · have hne : decide (a = b) = false := decide_eq_false (fun e => hl (by rw [e]))
    have hl1 : ((a.size : Int) == (b.size : Int)) = false := beq_eq_false_iff_ne.2 (by omega)
    rw [hne]
    go_enter Tryd.func29, Tryd.ntmps29
    go_wp2
    go_ret
    exact ⟨rfl, Below.refl _ _⟩
end Go.Proofs.YtnhnfdfjlagcjaaDoor
