/-
  Contracts of the functions that the statement calls, part 3 of 25 (merged texts: Bm). Conditions: as the head of each part says.
-/
import Derived.WalkKit

/-
  Heads and patterns in plain words: bits, words, numbers. Conditions: none.
-/

namespace Go.Proofs.YtbgndopgllnmaaaDoor
set_option linter.unusedVariables false
set_option linter.unusedSimpArgs false

/-- The number that the k bits from b on spell; the first is the greatest. -/
def wordB (f : Nat → Bool) (b : Nat) : Nat → Nat
  | 0 => 0
  | k + 1 => 2 * wordB f b k + (f (b + k)).toNat
theorem wordB_lt (f : Nat → Bool) (b : Nat) : ∀ k, wordB f b k < 2 ^ k
  | 0 => by simp [wordB]
  | k + 1 => by
    have h := wordB_lt f b k
    have := Bool.toNat_le (f (b + k))
    unfold wordB
    rw [Nat.pow_succ]
    omega
theorem wordB_test (f : Nat → Bool) (b : Nat) : ∀ k j, (wordB f b k).testBit j = (decide (j < k) && f (b + (k - 1 - j)))
  | 0, j => by simp [wordB]
  | k + 1, 0 => by
    unfold wordB
    rw [Nat.testBit_zero]
    cases h : f (b + k) <;> simp [h] <;> omega
  | k + 1, j + 1 => by
    unfold wordB
    have h2 : (2 * wordB f b k + (f (b + k)).toNat) / 2 = wordB f b k := by
      have := Bool.toNat_le (f (b + k))
      omega
    rw [Nat.testBit_succ, h2, wordB_test f b k j, show k + 1 - 1 - (j + 1) = k - 1 - j by omega]
    simp
theorem wordB_congr {f g : Nat → Bool} {b : Nat} : ∀ {k}, (∀ j, j < k → f (b + j) = g (b + j)) → wordB f b k = wordB g b k
  | 0, _ => rfl
  | k + 1, h => by
    unfold wordB
    rw [wordB_congr (fun j hj => h j (by omega)), h k (by omega)]
theorem wordB_inj {f g : Nat → Bool} {b k : Nat} (h : wordB f b k = wordB g b k) {j : Nat} (hj : j < k) : f (b + j) = g (b + j) := by
  have e := congrArg (fun n => n.testBit (k - 1 - j)) h
  simp only [wordB_test] at e
  rw [show k - 1 - (k - 1 - j) = j by omega, decide_eq_true (show k - 1 - j < k by omega)] at e
  simpa using e
theorem wordB_add (f : Nat → Bool) (b k : Nat) : ∀ m, wordB f b (k + m) = wordB f b k * 2 ^ m + wordB f (b + k) m
  | 0 => by simp [wordB]
  | m + 1 => by
    have h1 : wordB f b (k + (m + 1)) = 2 * wordB f b (k + m) + (f (b + (k + m))).toNat := rfl
    have h2 : wordB f (b + k) (m + 1) = 2 * wordB f (b + k) m + (f (b + k + m)).toNat := rfl
    rw [h1, h2, wordB_add f b k m, Nat.pow_succ, Nat.add_assoc b k m, Nat.mul_add]
    have : 2 * (wordB f b k * 2 ^ m) = wordB f b k * (2 ^ m * 2) := by
      rw [Nat.mul_comm (2 ^ m) 2, Nat.mul_left_comm]
    omega
/-- A word of a head. -/
def word (f : Nat → Bool) (w : Nat) : Nat := wordB f (16 * w) 16
theorem word_lt (f : Nat → Bool) (w : Nat) : word f w < 65536 := wordB_lt f (16 * w) 16
theorem word_test (f : Nat → Bool) (w j : Nat) : (word f w).testBit j = (decide (j < 16) && f (16 * w + (15 - j))) := wordB_test f (16 * w) 16 j
theorem word_congr {f g : Nat → Bool} {w : Nat} (h : ∀ i, i / 16 = w → f i = g i) : word f w = word g w := wordB_congr fun j hj => h _ (by omega)
theorem word_inj {f g : Nat → Bool} {w : Nat} (h : word f w = word g w) {i : Nat} (hi : i / 16 = w) : f i = g i := by
  have := wordB_inj h (j := i % 16) (by omega)
  rwa [show 16 * w + i % 16 = i by omega] at this
theorem word_and (f g : Nat → Bool) (w : Nat) : word f w &&& word g w = word (fun i => f i && g i) w := by
  apply Nat.eq_of_testBit_eq
  intro j
  rw [Nat.testBit_and, word_test, word_test, word_test]
  cases decide (j < 16) <;> simp
theorem word_or (f g : Nat → Bool) (w : Nat) : word f w ||| word g w = word (fun i => f i || g i) w := by
  apply Nat.eq_of_testBit_eq
  intro j
  rw [Nat.testBit_or, word_test, word_test, word_test]
  cases decide (j < 16) <;> simp
theorem i64_nat (n : Nat) (h : n < 9223372036854775808) : IntKind.i64.wrap (n : Int) = (n : Int) := IntWalk.i64_in _ ⟨by omega, by omega⟩
theorem ofInt_nat (n : Nat) : BitVec.ofInt 64 (n : Int) = BitVec.ofNat 64 n := BitVec.ofInt_natCast 64 n
theorem and_nat (a b : Nat) (ha : a < 65536) (hb : b < 65536) : bits .and .i64 (a : Int) (b : Int) = ((a &&& b : Nat) : Int) := by
  show IntKind.i64.wrap (((BitVec.ofInt 64 (a : Int) &&& BitVec.ofInt 64 (b : Int)).toNat : Nat) : Int) = _
  rw [BitVec.toNat_and, ofInt_nat, ofInt_nat, BitVec.toNat_ofNat, BitVec.toNat_ofNat, Nat.mod_eq_of_lt (by omega), Nat.mod_eq_of_lt (by omega)]
  exact i64_nat _ (Nat.lt_of_le_of_lt Nat.and_le_left (by omega))
theorem or_nat (a b : Nat) (ha : a < 65536) (hb : b < 65536) : bits .or .i64 (a : Int) (b : Int) = ((a ||| b : Nat) : Int) := by
  show IntKind.i64.wrap (((BitVec.ofInt 64 (a : Int) ||| BitVec.ofInt 64 (b : Int)).toNat : Nat) : Int) = _
  rw [BitVec.toNat_or, ofInt_nat, ofInt_nat, BitVec.toNat_ofNat, BitVec.toNat_ofNat, Nat.mod_eq_of_lt (by omega), Nat.mod_eq_of_lt (by omega)]
  exact i64_nat _ (Nat.lt_trans (Nat.or_lt_two_pow (n := 16) (by omega) (by omega)) (by decide))
/-- The bits of a that b does not have. -/
def andn (a b : Nat) : Nat := a &&& (a ^^^ b)
theorem andn_test (a b j : Nat) : (andn a b).testBit j = (a.testBit j && !b.testBit j) := by
  unfold andn
  rw [Nat.testBit_and, Nat.testBit_xor]
  cases a.testBit j <;> cases b.testBit j <;> rfl
theorem andn_nat (a b : Nat) (ha : a < 65536) (hb : b < 65536) : bits .andNot .i64 (a : Int) (b : Int) = ((andn a b : Nat) : Int) := by
  have e : (BitVec.ofInt 64 (a : Int) &&& ~~~BitVec.ofInt 64 (b : Int)).toNat = andn a b := by
    apply Nat.eq_of_testBit_eq
    intro j
    rw [BitVec.toNat_and, BitVec.toNat_not, ofInt_nat, ofInt_nat, BitVec.toNat_ofNat, BitVec.toNat_ofNat, Nat.mod_eq_of_lt (by omega), Nat.mod_eq_of_lt (by omega), Nat.testBit_and, andn_test, show 2 ^ 64 - 1 - b = 2 ^ 64 - (b + 1) by omega, Nat.testBit_two_pow_sub_succ (by omega)]
    by_cases hj : j < 64
    · rw [decide_eq_true hj, Bool.true_and]
    · rw [Nat.testBit_lt_two_pow (Nat.lt_of_lt_of_le (show a < 2 ^ 64 by omega) (Nat.pow_le_pow_right (by decide) (by omega)))]; rfl
  show IntKind.i64.wrap (((BitVec.ofInt 64 (a : Int) &&& ~~~BitVec.ofInt 64 (b : Int)).toNat : Nat) : Int) = _
  rw [e]
  exact i64_nat _ (Nat.lt_of_le_of_lt Nat.and_le_left (by omega))
theorem word_andn (f g : Nat → Bool) (w : Nat) : andn (word f w) (word g w) = word (fun i => f i && !g i) w := by
  apply Nat.eq_of_testBit_eq
  intro j
  rw [andn_test, word_test, word_test, word_test]
  cases decide (j < 16) <;> simp
theorem wand (f g : Nat → Bool) (w : Nat) : bits .and .i64 (word f w : Int) (word g w : Int) = (word (fun i => f i && g i) w : Int) := by rw [and_nat _ _ (word_lt _ _) (word_lt _ _), word_and]
theorem wor (f g : Nat → Bool) (w : Nat) : bits .or .i64 (word f w : Int) (word g w : Int) = (word (fun i => f i || g i) w : Int) := by rw [or_nat _ _ (word_lt _ _) (word_lt _ _), word_or]
theorem wandn (f g : Nat → Bool) (w : Nat) : bits .andNot .i64 (word f w : Int) (word g w : Int) = (word (fun i => f i && !g i) w : Int) := by rw [andn_nat _ _ (word_lt _ _) (word_lt _ _), word_andn]
/-- The words of a head. -/
def HN (f : Nat → Bool) : List Nat := (List.range 10).map (word f)
def nV (n : Nat) : Value := .int .i64 (n : Int)
/-- A head as cells. -/
def H (f : Nat → Bool) : List Value := (HN f).map nV
theorem HN_length (f : Nat → Bool) : (HN f).length = 10 := by simp [HN]
theorem H_length (f : Nat → Bool) : (H f).length = 10 := by simp [H, HN]
theorem HN_get (f : Nat → Bool) {w : Nat} (h : w < 10) : (HN f)[w]? = some (word f w) := by
  unfold HN
  rw [List.getElem?_map, List.getElem?_range h]; rfl
theorem H_get (f : Nat → Bool) {w : Nat} (h : w < 10) : (H f)[w]? = some (.int .i64 (word f w : Int)) := by
  unfold H
  rw [List.getElem?_map, HN_get f h]; rfl
theorem HN_congr {f g : Nat → Bool} (h : ∀ i, i < 160 → f i = g i) : HN f = HN g := by
  unfold HN
  apply List.map_congr_left
  intro w hw
  have := List.mem_range.1 hw
  exact word_congr fun i hi => h i (by omega)
theorem H_congr {f g : Nat → Bool} (h : ∀ i, i < 160 → f i = g i) : H f = H g := by unfold H; rw [HN_congr h]
theorem HN_inj {f g : Nat → Bool} (h : HN f = HN g) {i : Nat} (hi : i < 160) : f i = g i := by
  have e : (HN f)[i / 16]? = (HN g)[i / 16]? := by rw [h]
  rw [HN_get f (by omega), HN_get g (by omega)] at e
  exact word_inj (Option.some.inj e) rfl
theorem int_inj {a b : Nat} (h : Value.int .i64 (a : Int) = .int .i64 (b : Int)) : a = b := by injection h with _ h; omega
theorem map_int_inj : ∀ {l r : List Nat}, l.map nV = r.map nV → l = r
  | [], [], _ => rfl
  | [], _ :: _, h => by cases h
  | _ :: _, [], h => by cases h
  | a :: l, b :: r, h => by
    simp only [List.map_cons, List.cons.injEq] at h
    rw [int_inj h.1, map_int_inj h.2]
theorem H_inj {f g : Nat → Bool} (h : H f = H g) {i : Nat} (hi : i < 160) : f i = g i := HN_inj (map_int_inj h) hi
/-- One word turned. -/
theorem HN_set (f g : Nat → Bool) {w : Nat} (hw : w < 10) : (HN f).set w (word g w) = HN fun i => if i / 16 = w then g i else f i := by
  apply List.ext_getElem?
  intro k
  by_cases hk : k < 10
  · rw [HN_get _ hk]
    by_cases e : k = w
    · subst e
      rw [List.getElem?_set_self (by rw [HN_length]; exact hk)]
      exact congrArg some (word_congr fun i hi => by rw [if_pos hi])
    · rw [List.getElem?_set_ne (fun h => e h.symm), HN_get _ hk]
      exact congrArg some (word_congr fun i hi => by rw [if_neg (by omega)])
  · rw [List.getElem?_eq_none (by rw [List.length_set, HN_length]; omega), List.getElem?_eq_none (by rw [HN_length]; omega)]
theorem H_set (f g : Nat → Bool) {w : Nat} (hw : w < 10) : (H f).set w (.int .i64 (word g w : Int)) = H fun i => if i / 16 = w then g i else f i := by
  unfold H
  rw [← HN_set f g hw, List.map_set]
  rfl
/-- A row of ten words as bits. -/
def bitsOf (l : List Nat) (i : Nat) : Bool := (l.getD (i / 16) 0).testBit (15 - i % 16)
theorem HN_bitsOf {l : List Nat} (hl : l.length = 10) (hw : ∀ x ∈ l, x < 65536) : HN (bitsOf l) = l := by
  apply List.ext_getElem?
  intro k
  by_cases hk : k < 10
  · rw [HN_get _ hk]
    obtain ⟨x, hx⟩ : ∃ x, l[k]? = some x := ⟨_, List.getElem?_eq_getElem (by omega)⟩
    rw [hx]
    have hx6 := hw x (List.mem_of_getElem? hx)
    congr 1
    apply Nat.eq_of_testBit_eq
    intro j
    rw [word_test]
    by_cases hj : j < 16
    · rw [decide_eq_true hj, Bool.true_and]
      unfold bitsOf
      rw [show (16 * k + (15 - j)) / 16 = k by omega, show 15 - (16 * k + (15 - j)) % 16 = j by omega, List.getD_eq_getElem?_getD, hx]
      rfl
    · rw [decide_eq_false hj, Bool.false_and]
      exact (Nat.testBit_lt_two_pow (Nat.lt_of_lt_of_le (show x < 2 ^ 16 by omega) (Nat.pow_le_pow_right (by decide) (by omega)))).symm
  · rw [List.getElem?_eq_none (by rw [HN_length]; omega), List.getElem?_eq_none (by omega)]
/-- A pattern: which bits it fixes, and how. -/
structure Pat where
  m : Nat → Bool
  b : Nat → Bool
namespace Pat
def cells (p : Pat) : List Value := H p.m ++ H p.b
/-- It fixes no bit that its mask does not have. -/
def ok (p : Pat) : Prop := ∀ i, i < 160 → p.b i = true → p.m i = true
def hit (p : Pat) (h : Nat → Bool) : Prop := ∀ i, i < 160 → p.m i = true → p.b i = h i
/-- The same pattern, as far as it can be told. -/
def alike (p q : Pat) : Prop := (∀ i, i < 160 → p.m i = q.m i) ∧ ∀ i, i < 160 → p.b i = q.b i
theorem cells_length (p : Pat) : p.cells.length = 20 := by simp [cells, H_length]
theorem cells_congr {p q : Pat} (h : p.alike q) : p.cells = q.cells := by unfold cells; rw [H_congr h.1, H_congr h.2]
end Pat
end Go.Proofs.YtbgndopgllnmaaaDoor
