/-
  Contracts of the functions that the statement calls, part 9 of 25 (merged texts: Ib). Conditions: as the head of each part says.
-/
import Derived.Test.YtkkgfdfjgfigcaaDoorGG
import Derived.Lib.BitFns

/-
  The bits that a head has, one after the other, in plain words. Conditions: none.
-/
namespace Go.Proofs.YtkkgfdfjgfigcaaDoor
set_option linter.unusedVariables false
set_option linter.unusedSimpArgs false
open Go.RowKit

/-- The bits below i that a head has. -/
def onesTo (f : Nat → Bool) (i : Nat) : List Nat := (List.range i).filter f
theorem onesTo_succ (f : Nat → Bool) (i : Nat) : onesTo f (i + 1) = onesTo f i ++ if f i then [i] else [] := by
  unfold onesTo
  rw [List.range_succ, List.filter_append]
  congr 1
  by_cases h : f i <;> simp [h]
theorem onesTo_none {f : Nat → Bool} {i : Nat} : ∀ {k}, i ≤ k → (∀ j, i ≤ j → j < k → f j = false) → onesTo f k = onesTo f i
  | 0, h, _ => by rw [show i = 0 by omega]
  | k + 1, h, hn => by
    by_cases e : i = k + 1
    · rw [e]
    · rw [onesTo_succ, hn k (by omega) (by omega), onesTo_none (by omega) (fun j h1 h2 => hn j h1 (by omega))]
      simp
theorem onesTo_prefix (f : Nat → Bool) {i : Nat} : ∀ {k}, i ≤ k → onesTo f i <+: onesTo f k
  | 0, h => by rw [show i = 0 by omega]; exact List.prefix_refl _
  | k + 1, h => by
    by_cases e : i = k + 1
    · rw [e]; exact List.prefix_refl _
    · rw [onesTo_succ]
      exact (onesTo_prefix f (by omega)).trans (List.prefix_append _ _)
/-- The first bit from i on, if there is one below k. -/
theorem first_one (f : Nat → Bool) (i : Nat) : ∀ k, (∀ j, i ≤ j → j < k → f j = false) ∨ ∃ s, i ≤ s ∧ s < k ∧ f s = true ∧ ∀ j, i ≤ j → j < s → f j = false
  | 0 => .inl fun j _ h => absurd h (by omega)
  | k + 1 => by
    rcases first_one f i k with h | ⟨s, h1, h2, h3, h4⟩
    · by_cases hk : i ≤ k
      · cases hf : f k
        · refine .inl fun j h1 h2 => ?_
          rcases (by omega : j < k ∨ j = k) with h3 | rfl
          · exact h j h1 h3
          · exact hf
        · exact .inr ⟨k, hk, by omega, hf, h⟩
      · exact .inl fun j h1 h2 => absurd h2 (by omega)
    · exact .inr ⟨s, h1, by omega, h3, h4⟩
/-- What is left of a head from bit i on. -/
def from_ (f : Nat → Bool) (i : Nat) : Nat → Bool := fun j => decide (i ≤ j) && f j
theorem bitLen_pow : ∀ (fuel n x : Nat), n < fuel → 2 ^ n ≤ x → x < 2 ^ (n + 1) → Lib.bitLenAux fuel x = n + 1
  | 0, n, x, h, _, _ => absurd h (by omega)
  | fuel + 1, 0, x, _, h1, h2 => by
    have : x = 1 := by simp at h1 h2; omega
    subst this
    unfold Lib.bitLenAux
    rw [if_neg (by decide), show 1 / 2 = 0 from rfl]
    cases fuel <;> rfl
  | fuel + 1, n + 1, x, h, h1, h2 => by
    have hp : 0 < 2 ^ n := Nat.two_pow_pos n
    unfold Lib.bitLenAux
    rw [if_neg (by rw [Nat.pow_succ] at h1; omega), bitLen_pow fuel n (x / 2) (by omega) (by rw [Nat.pow_succ] at h1; omega) (by rw [Nat.pow_succ] at h2; omega)]
    omega
theorem word_first {f : Nat → Bool} {i k s : Nat} (h1 : 16 * k ≤ i) (h2 : i ≤ s) (h3 : s < 16 * k + 16) (hs : f s = true) (hn : ∀ j, i ≤ j → j < s → f j = false) : 2 ^ (15 - s % 16) ≤ word (from_ f i) k ∧ word (from_ f i) k < 2 ^ (15 - s % 16 + 1) := by
  obtain ⟨t, ht⟩ : ∃ t, s % 16 = t := ⟨_, rfl⟩
  have hst : s = 16 * k + t := by omega
  rw [ht]
  have e1 := wordB_add (from_ f i) (16 * k) (t + 1) (15 - t)
  rw [show t + 1 + (15 - t) = 16 by omega] at e1
  have e2 : wordB (from_ f i) (16 * k) (t + 1) = 2 * wordB (from_ f i) (16 * k) t + (from_ f i (16 * k + t)).toNat := rfl
  have e3 : wordB (from_ f i) (16 * k) t = 0 := by
    have : wordB (from_ f i) (16 * k) t = wordB no (16 * k) t := wordB_congr fun j hj => by
      unfold from_ no
      by_cases h : i ≤ 16 * k + j
      · rw [hn _ h (by omega)]; simp
      · rw [decide_eq_false h]; rfl
    rw [this]
    clear this e1 e2
    induction t with
    | zero => rfl
    | succ t ih =>
      have hz : ∀ m, wordB no (16 * k) m = 0 := fun m => by
        induction m with
        | zero => rfl
        | succ m ihm => unfold wordB; rw [ihm]; rfl
      exact hz _
  have e4 : (from_ f i (16 * k + t)).toNat = 1 := by
    unfold from_
    rw [← hst, decide_eq_true h2, hs]; rfl
  have b := wordB_lt (from_ f i) (16 * k + (t + 1)) (15 - t)
  have e : word (from_ f i) k = 1 * 2 ^ (15 - t) + wordB (from_ f i) (16 * k + (t + 1)) (15 - t) := by
    show wordB (from_ f i) (16 * k) 16 = _
    rw [e1, e2, e3, e4]
  rw [e, Nat.pow_succ]
  omega
theorem word_len {f : Nat → Bool} {i k s : Nat} (h1 : 16 * k ≤ i) (h2 : i ≤ s) (h3 : s < 16 * k + 16) (hs : f s = true) (hn : ∀ j, i ≤ j → j < s → f j = false) : Lib.bitLen (word (from_ f i) k) = 16 - s % 16 := by
  obtain ⟨a, b⟩ := word_first h1 h2 h3 hs hn
  unfold Lib.bitLen
  rw [bitLen_pow 64 (15 - s % 16) _ (by omega) a b]
  omega
/-- The head with one bit alone. -/
def bitAt (s : Nat) : Nat → Bool := fun j => j == s
theorem word_bit (s : Nat) : word (bitAt s) (s / 16) = 2 ^ (15 - s % 16) := by
  apply Nat.eq_of_testBit_eq
  intro j
  rw [word_test, Nat.testBit_two_pow]
  unfold bitAt
  rw [Bool.eq_iff_iff]
  simp only [Bool.and_eq_true, decide_eq_true_eq, beq_iff_eq]
  omega
theorem andn16 (a b : Nat) (ha : a < 65536) (hb : b < 65536) : bits .andNot .u16 (a : Int) (b : Int) = ((andn a b : Nat) : Int) := by
  have oi : ∀ n : Nat, BitVec.ofInt 16 (n : Int) = BitVec.ofNat 16 n := fun n => BitVec.ofInt_natCast 16 n
  have e : (BitVec.ofInt 16 (a : Int) &&& ~~~BitVec.ofInt 16 (b : Int)).toNat = andn a b := by
    apply Nat.eq_of_testBit_eq
    intro j
    rw [BitVec.toNat_and, BitVec.toNat_not, oi, oi, BitVec.toNat_ofNat, BitVec.toNat_ofNat, Nat.mod_eq_of_lt (by omega), Nat.mod_eq_of_lt (by omega), Nat.testBit_and, andn_test, show 2 ^ 16 - 1 - b = 2 ^ 16 - (b + 1) by omega, Nat.testBit_two_pow_sub_succ (by omega)]
    by_cases hj : j < 16
    · rw [decide_eq_true hj, Bool.true_and]
    · rw [Nat.testBit_lt_two_pow (Nat.lt_of_lt_of_le (show a < 2 ^ 16 by omega) (Nat.pow_le_pow_right (by decide) (by omega)))]; rfl
  show IntKind.u16.wrap (((BitVec.ofInt 16 (a : Int) &&& ~~~BitVec.ofInt 16 (b : Int)).toNat : Nat) : Int) = _
  rw [e, IntKind.wrap_u16]
  have : andn a b ≤ a := Nat.and_le_left
  omega
theorem word_next {f : Nat → Bool} {i k s : Nat} (hk : s / 16 = k) (h2 : i ≤ s) (hn : ∀ j, i ≤ j → j < s → f j = false) : andn (word (from_ f i) k) (2 ^ (15 - s % 16)) = word (from_ f (s + 1)) k := by
  rw [← word_bit, hk, word_andn]
  refine word_congr fun j hj => ?_
  unfold from_ bitAt
  by_cases e : j = s
  · subst e
    rw [decide_eq_false (show ¬ j + 1 ≤ j by omega)]; simp
  · have : (j == s) = false := beq_eq_false_iff_ne.2 e
    rw [this]
    by_cases h : j < s
    · rw [decide_eq_false (show ¬ s + 1 ≤ j by omega)]
      by_cases h3 : i ≤ j
      · rw [hn j h3 h]; simp
      · rw [decide_eq_false h3]; rfl
    · rw [decide_eq_true (show i ≤ j by omega), decide_eq_true (show s + 1 ≤ j by omega)]; simp
theorem word_empty {f : Nat → Bool} {i k : Nat} (hn : ∀ j, i ≤ j → j < 16 * k + 16 → f j = false) : word (from_ f i) k = 0 := by
  rw [word_zero]
  intro j hj
  unfold from_
  by_cases h : i ≤ j
  · rw [hn j h (by omega)]; simp
  · rw [decide_eq_false h]; rfl
theorem word_from (f : Nat → Bool) (k : Nat) : word (from_ f (16 * k)) k = word f k := word_congr fun j hj => by
  unfold from_
  rw [decide_eq_true (show 16 * k ≤ j by omega)]; rfl
/-- What the iterator hands over for a bit: its word, its value there. -/
def encB (s : Nat) : Array Value := #[.int .i64 ((s / 16 : Nat) : Int), .int .i64 ((2 ^ (15 - s % 16) : Nat) : Int)]
end Go.Proofs.YtkkgfdfjgfigcaaDoor
