/-
  Rational numbers that are not too large, and their texts, in plain words. Conditions: none.
-/
import Derived.Test.YthjaelopmfjfeaaDoorProg
import Derived.Lib.AtoiAll
import Derived.Lib.Split
import Derived.Lib.ItoaNum
import Derived.Lib.IndexBytes
import Derived.Lib.IndexMore
import Derived.RowKit
namespace Go.Proofs.YthjaelopmfjfeaaDoor
set_option linter.unusedVariables false
set_option linter.unusedSimpArgs false
open Go.RowKit

/-- A rational number that is not too large. -/
def fits (q : Rat) : Prop := -1073741824 ≤ q.num ∧ q.num ≤ 1073741824 ∧ q.den ≤ 1073741824
instance (q : Rat) : Decidable (fits q) := by unfold fits; infer_instance
theorem self_div (q : Rat) : Rat.divInt q.num q.den = q := Rat.num_divInt_den q
theorem den_ne (q : Rat) : ((q.den : Nat) : Int) ≠ 0 := by have := q.den_pos; omega
theorem add_div (p q : Rat) : p + q = Rat.divInt (p.num * q.den + q.num * p.den) (p.den * q.den) := by
  have h := Rat.divInt_add_divInt p.num q.num (den_ne p) (den_ne q)
  rw [self_div, self_div] at h; exact h
theorem sub_div (p q : Rat) : p - q = Rat.divInt (p.num * q.den - q.num * p.den) (p.den * q.den) := by
  have h := Rat.divInt_sub_divInt p.num q.num (den_ne p) (den_ne q)
  rw [self_div, self_div] at h; exact h
theorem mul_div (p q : Rat) : p * q = Rat.divInt (p.num * q.num) (p.den * q.den) := by
  have h := Rat.divInt_mul_divInt p.num q.num (d₁ := p.den) (d₂ := q.den)
  rw [self_div, self_div] at h; exact h
theorem div_div (p q : Rat) : p / q = Rat.divInt (p.num * q.den) (p.den * q.num) := by
  have h := Rat.divInt_mul_divInt p.num q.den (d₁ := p.den) (d₂ := q.num)
  rw [self_div, ← Rat.inv_def, ← Rat.div_def] at h; exact h
/-- The parts of n / d: both divided by the greatest common divisor, which has the sign of d. -/
theorem parts {n d g : Int} (hd : d ≠ 0) (hg : g = if d < 0 then -(Int.gcd n d : Int) else (Int.gcd n d : Int)) : n.tdiv g = (Rat.divInt n d).num ∧ d.tdiv g = ((Rat.divInt n d).den : Int) := by
  have h1 : (Int.gcd n d : Int) ∣ n := Int.gcd_dvd_left ..
  have h2 : (Int.gcd n d : Int) ∣ d := Int.gcd_dvd_right ..
  rw [Rat.num_divInt, Rat.den_divInt, if_neg hd, Int.gcd_comm d n]
  by_cases h : d < 0
  · rw [if_pos h] at hg
    subst hg
    rw [Int.tdiv_neg, Int.tdiv_neg, Int.tdiv_eq_ediv_of_dvd h1, Int.tdiv_eq_ediv_of_dvd h2, Int.sign_eq_neg_one_of_neg h]
    refine ⟨?_, ?_⟩
    · have : (-1 : Int) * n = -n := by omega
      rw [this, Int.neg_ediv_of_dvd h1]
    · have h3 : ((d.natAbs : Nat) : Int) = -d := by omega
      rw [Int.natCast_ediv, h3, Int.neg_ediv_of_dvd h2]
  · rw [if_neg h] at hg
    subst hg
    rw [Int.tdiv_eq_ediv_of_dvd h1, Int.tdiv_eq_ediv_of_dvd h2, Int.sign_eq_one_of_pos (by omega), Int.one_mul]
    refine ⟨rfl, ?_⟩
    have h3 : ((d.natAbs : Nat) : Int) = d := by omega
    rw [Int.natCast_ediv, h3]
theorem gcd_step (a b : Int) : Int.gcd b (a.tmod b) = Int.gcd a b := by
  unfold Int.gcd
  rw [Int.natAbs_tmod, Nat.gcd_comm a.natAbs, Nat.gcd_rec b.natAbs a.natAbs, Nat.gcd_comm]
theorem gcd_end (a : Int) : ((Int.gcd a 0 : Nat) : Int) = if a < -a then -a else a := by
  unfold Int.gcd
  rw [Int.natAbs_zero, Nat.gcd_zero_right]
  split <;> omega
theorem tmod_less (a b : Int) (h : b ≠ 0) : (a.tmod b).natAbs < b.natAbs := by
  rw [Int.natAbs_tmod]; exact Nat.mod_lt _ (by omega)
/-- A normal ratio is a rational number that is not too large. -/
theorem normal_rat {n d : Int} (h1 : 1 ≤ d) (hg : Int.gcd n d = 1) : ∃ q : Rat, q.num = n ∧ (q.den : Int) = d := by
  refine ⟨Rat.divInt n d, ?_⟩
  obtain ⟨e1, e2⟩ := parts (n := n) (d := d) (by omega) (g := 1) (by rw [if_neg (by omega), hg]; rfl)
  rw [Int.tdiv_one] at e1 e2
  exact ⟨e1.symm, e2.symm⟩
theorem rat_normal (q : Rat) : Int.gcd q.num q.den = 1 := by
  have h := q.reduced
  unfold Int.gcd
  rw [Int.natAbs_natCast]; exact h
theorem parts_gcd {n d g : Int} (hd : d ≠ 0) (hg : g = if d < 0 then -(Int.gcd n d : Int) else (Int.gcd n d : Int)) : Int.gcd (n.tdiv g) (d.tdiv g) = 1 := by
  obtain ⟨e1, e2⟩ := parts hd hg
  rw [e1, e2]; exact rat_normal _
theorem cross_lt {a b k : Int} (h1 : -k ≤ a) (h2 : a ≤ k) (h3 : -k ≤ b) (h4 : b ≤ k) (hk : 0 ≤ k) : -(k * k) ≤ a * b ∧ a * b ≤ k * k := by
  have ha : (a.natAbs : Int) ≤ k := by omega
  have hb : (b.natAbs : Int) ≤ k := by omega
  have h : (a * b).natAbs = a.natAbs * b.natAbs := Int.natAbs_mul ..
  have h5 : ((a.natAbs * b.natAbs : Nat) : Int) ≤ k * k := by
    rw [Int.natCast_mul]
    exact Int.mul_le_mul ha hb (Int.natCast_nonneg _) hk
  omega
theorem byte_none : ∀ {l : List UInt8} {c : UInt8}, c ∉ l → Lib.indexByte l c = -1
  | [], _, _ => rfl
  | b :: l, c, h => by
    have h1 : ¬ (b == c) = true := fun e => h (by rw [eq_of_beq e]; exact List.mem_cons_self ..)
    unfold Lib.indexByte
    rw [if_neg h1, byte_none (fun e => h (List.mem_cons_of_mem _ e))]
    rfl
theorem byte_at : ∀ {a r : List UInt8} {c : UInt8}, c ∉ a → Lib.indexByte (a ++ c :: r) c = a.length
  | [], r, c, _ => by
    show Lib.indexByte (c :: r) c = _
    unfold Lib.indexByte
    rw [if_pos (beq_self_eq_true c)]; rfl
  | b :: l, r, c, h => by
    have h1 : ¬ (b == c) = true := fun e => h (by rw [eq_of_beq e]; exact List.mem_cons_self ..)
    have h2 := byte_at (r := r) (fun e => h (List.mem_cons_of_mem b e))
    show Lib.indexByte (b :: (l ++ c :: r)) c = _
    unfold Lib.indexByte
    rw [if_neg h1, h2, if_neg (by rw [beq_iff_eq]; omega), List.length_cons]
    omega
theorem cut_none {l : List UInt8} {c : UInt8} (h : c ∉ l) : Lib.cut l [c] = (l, [], false) := by
  unfold Lib.cut
  rw [Lib.index_one, byte_none h]; rfl
theorem cut_at {a r : List UInt8} {c : UInt8} (h : c ∉ a) : Lib.cut (a ++ c :: r) [c] = (a, r, true) := by
  have e : (a ++ c :: r).drop (a.length + 1) = r := by
    rw [← List.drop_drop, List.drop_left]; rfl
  unfold Lib.cut
  rw [Lib.index_one, byte_at h, if_pos (by omega), Int.toNat_natCast, List.take_left, List.length_singleton, e]
theorem uint_digits (u : Nat) : ∀ r, u < 1000000000000000000 → Lib.parseUint10 0 (Lib.decDigits u ++ r) = Lib.parseUint10 u r := by
  induction u using Nat.strongRecOn with
  | _ u ih =>
    intro r hu
    have hc : ∀ k, k < 10 → (UInt8.ofNat (48 + k)).toNat = 48 + k := fun k hk => by
      rw [UInt8.toNat_ofNat']; omega
    by_cases h : u < 10
    · rw [Lib.decDigits, dif_pos h]
      show Lib.parseUint10 0 (UInt8.ofNat (48 + u) :: r) = _
      rw [Lib.parseUint10, hc u h, if_pos (by omega), if_neg (by omega), if_neg (by omega)]
      congr 1; omega
    · rw [Lib.decDigits, dif_neg h, List.append_assoc, ih (u / 10) (by omega) _ (by omega)]
      show Lib.parseUint10 (u / 10) (UInt8.ofNat (48 + u % 10) :: r) = _
      rw [Lib.parseUint10, hc (u % 10) (by omega), if_pos (by omega), if_neg (by omega), if_neg (by omega)]
      congr 1; omega
theorem dec_ne (u : Nat) : ∃ c l, Lib.decDigits u = c :: l ∧ 48 ≤ c.toNat ∧ c.toNat ≤ 57 := by
  induction u using Nat.strongRecOn with
  | _ u ih =>
    by_cases h : u < 10
    · refine ⟨UInt8.ofNat (48 + u), [], by rw [Lib.decDigits, dif_pos h], ?_⟩
      rw [UInt8.toNat_ofNat']; omega
    · obtain ⟨c, l, e, h1⟩ := ih (u / 10) (by omega)
      exact ⟨c, l ++ [UInt8.ofNat (48 + u % 10)], by rw [Lib.decDigits, dif_neg h, e]; rfl, h1⟩
theorem dec_byte (u : Nat) : ∀ c, c ∈ Lib.decDigits u → 48 ≤ c.toNat ∧ c.toNat ≤ 57 := by
  induction u using Nat.strongRecOn with
  | _ u ih =>
    intro c hc
    by_cases h : u < 10
    · rw [Lib.decDigits, dif_pos h, List.mem_singleton] at hc
      rw [hc, UInt8.toNat_ofNat']; omega
    · rw [Lib.decDigits, dif_neg h] at hc
      rcases List.mem_append.1 hc with hc | hc
      · exact ih (u / 10) (by omega) c hc
      · rw [List.mem_singleton] at hc
        rw [hc, UInt8.toNat_ofNat']; omega
theorem itoa_no47 (n : Int) : (47 : UInt8) ∉ Lib.itoa n := by
  intro h
  unfold Lib.itoa at h
  split at h
  · rcases List.mem_cons.1 h with h | h
    · exact absurd h (by decide)
    · exact absurd (dec_byte _ _ h).1 (by decide)
  · exact absurd (dec_byte _ _ h).1 (by decide)
theorem atoi_itoa (n : Int) (h1 : -1073741824 ≤ n) (h2 : n ≤ 1073741824) : Lib.atoiAll (Lib.itoa n) = .ok n := by
  have hm : ∀ u, u < 1000000000000000000 → Lib.parseMag (Lib.decDigits u) = .ok u := fun u hu => by
    obtain ⟨c, l, e, _⟩ := dec_ne u
    unfold Lib.parseMag
    rw [if_neg (by rw [e]; exact List.cons_ne_nil _ _)]
    have := uint_digits u [] hu
    rw [List.append_nil] at this
    rw [this]; rfl
  unfold Lib.itoa
  split
  next h =>
    have e := hm n.natAbs (by omega)
    unfold Lib.atoiAll
    have h45 : (45 : UInt8).toNat = 45 := rfl
    simp only [h45, or_true, if_true, e, not_true_eq_false, false_and, if_false, true_and]
    rw [if_neg (by omega)]
    congr 1; omega
  next h =>
    have e := hm n.toNat (by omega)
    obtain ⟨c, l, hc, hb⟩ := dec_ne n.toNat
    rw [hc] at e ⊢
    unfold Lib.atoiAll
    have h43 : ¬ (c.toNat = 43 ∨ c.toNat = 45) := by omega
    have h45 : ¬ c.toNat = 45 := by omega
    have hi : (if c.toNat = 43 ∨ c.toNat = 45 then l else c :: l) = c :: l := if_neg h43
    dsimp only
    rw [hi, e]
    simp only [h45, not_false_eq_true, true_and, false_and, if_false]
    rw [if_neg (by omega)]
    congr 1; omega
/-- The text of a ratio. -/
def textQ (q : Rat) : List UInt8 := Lib.itoa q.num ++ (if q.den = 1 then [] else 47 :: Lib.itoa q.den)
/-- The number that Atoi gives, an error or not. -/
def atoiV (l : List UInt8) : Int := match Lib.atoiAll l with
  | .ok v => v
  | .range => Lib.atoiSat l
  | _ => 0
theorem atoiV_itoa (n : Int) (h1 : -1073741824 ≤ n) (h2 : n ≤ 1073741824) : atoiV (Lib.itoa n) = n := by
  unfold atoiV; rw [atoi_itoa n h1 h2]
/-- What the program reads of a text. -/
def readN (l : List UInt8) : Int := atoiV (Lib.cut l [47]).1
def readD (l : List UInt8) : Int := if (Lib.cut l [47]).2.2 = true then atoiV (Lib.cut l [47]).2.1 else 1
theorem cut_text (q : Rat) : Lib.cut (textQ q) [47] = (Lib.itoa q.num, if q.den = 1 then [] else Lib.itoa q.den, decide (q.den ≠ 1)) := by
  unfold textQ
  split
  next h => rw [List.append_nil, cut_none (itoa_no47 _)]; simp [h]
  next h => rw [cut_at (itoa_no47 _)]; simp [h]
theorem read_ratio {q : Rat} (h : fits q) : readN (textQ q) = q.num ∧ readD (textQ q) = q.den := by
  unfold readN readD
  rw [cut_text]
  refine ⟨atoiV_itoa _ h.1 h.2.1, ?_⟩
  by_cases h1 : q.den = 1
  · simp [h1]
  · have := h.2.2
    simp only [h1, decide_eq_true_eq, ne_eq, not_false_eq_true, if_true, if_false]
    exact atoiV_itoa _ (by omega) (by omega)
theorem textQ_inj {p q : Rat} (hp : fits p) (hq : fits q) (h : textQ p = textQ q) : p = q := by
  obtain ⟨a1, a2⟩ := read_ratio hp
  obtain ⟨b1, b2⟩ := read_ratio hq
  rw [h] at a1 a2
  exact Rat.ext (a1.symm.trans b1) (by omega)
theorem nat_toInt_lit (q : Rat) : (q.den : Int) = 1 ↔ q.den = 1 := by omega
/-- What the reference reads of a numeral: the number of its digits, with its sign. -/
def digN (l : List UInt8) : Option Nat := l.foldl (fun a c => a.bind fun n => if 48 ≤ c.toNat ∧ c.toNat ≤ 57 then some (10 * n + (c.toNat - 48)) else none) (some 0)
theorem digN_none (l : List UInt8) : l.foldl (fun a c => a.bind fun n => if 48 ≤ c.toNat ∧ c.toNat ≤ 57 then some (10 * n + (c.toNat - 48)) else none) none = none := by
  induction l with
  | nil => rfl
  | cons c l ih => exact ih
theorem digN_dec (u : Nat) : digN (Lib.decDigits u) = some u := by
  induction u using Nat.strongRecOn with
  | _ u ih =>
    have hc : ∀ k, k < 10 → (UInt8.ofNat (48 + k)).toNat = 48 + k := fun k hk => by
      rw [UInt8.toNat_ofNat']; omega
    by_cases h : u < 10
    · rw [Lib.decDigits, dif_pos h]
      unfold digN
      rw [List.foldl_cons, List.foldl_nil, Option.bind_some, hc u h, if_pos (by omega)]
      congr 1; omega
    · have hi := ih (u / 10) (by omega)
      rw [Lib.decDigits, dif_neg h]
      unfold digN at hi ⊢
      rw [List.foldl_append, hi, List.foldl_cons, List.foldl_nil, Option.bind_some, hc (u % 10) (by omega), if_pos (by omega)]
      congr 1; omega
theorem dec_len (u k : Nat) (h : u < 10 ^ (k + 1)) : (Lib.decDigits u).length ≤ k + 1 := by
  induction k generalizing u with
  | zero => rw [Lib.decDigits, dif_pos (by omega)]; exact Nat.le_refl _
  | succ k ih =>
    by_cases h1 : u < 10
    · rw [Lib.decDigits, dif_pos h1]; exact Nat.succ_le_succ (Nat.zero_le _)
    · rw [Lib.decDigits, dif_neg h1, List.length_append, List.length_singleton]
      have := ih (u / 10) (by rw [Nat.pow_succ] at h; omega)
      omega
/-- The reference's number: the digits behind a sign, at most ten, that are written as Itoa does. -/
def refDigits (l : List UInt8) : List UInt8 := if l.head? = some 45 then l.drop 1 else l
def refN (l : List UInt8) : Int := match digN (refDigits l) with
  | some n => if l.head? = some 45 then -(n : Int) else n
  | none => 0
def refIs (l : List UInt8) : Bool := decide (1 ≤ (refDigits l).length) && decide ((refDigits l).length ≤ 10) && (digN (refDigits l)).isSome && decide (Lib.itoa (refN l) = l)
theorem ref_itoa (n : Int) (h1 : -1073741824 ≤ n) (h2 : n ≤ 1073741824) : refIs (Lib.itoa n) = true ∧ refN (Lib.itoa n) = n := by
  have hN : refN (Lib.itoa n) = n ∧ (digN (refDigits (Lib.itoa n))).isSome = true ∧ 1 ≤ (refDigits (Lib.itoa n)).length ∧ (refDigits (Lib.itoa n)).length ≤ 10 := by
    unfold Lib.itoa
    by_cases h : n < 0
    · rw [if_pos h]
      have e : refDigits (45 :: Lib.decDigits n.natAbs) = Lib.decDigits n.natAbs := rfl
      unfold refN
      rw [e, digN_dec]
      obtain ⟨c, l, hc, _⟩ := dec_ne n.natAbs
      refine ⟨?_, rfl, by rw [hc]; exact Nat.succ_le_succ (Nat.zero_le _), dec_len _ 9 (by omega)⟩
      have h45 : (45 :: Lib.decDigits n.natAbs).head? = some 45 := rfl
      dsimp only
      rw [if_pos h45]; omega
    · rw [if_neg h]
      obtain ⟨c, l, hc, hb⟩ := dec_ne n.toNat
      have hh : ¬ (Lib.decDigits n.toNat).head? = some 45 := by
        rw [hc]; intro e; injection e with e; rw [e] at hb; exact absurd hb.1 (by decide)
      have e : refDigits (Lib.decDigits n.toNat) = Lib.decDigits n.toNat := if_neg hh
      unfold refN
      rw [e, digN_dec]
      refine ⟨?_, rfl, by rw [hc]; exact Nat.succ_le_succ (Nat.zero_le _), dec_len _ 9 (by omega)⟩
      dsimp only
      rw [if_neg hh]; omega
  refine ⟨?_, hN.1⟩
  unfold refIs
  rw [hN.1, hN.2.1, decide_eq_true hN.2.2.1, decide_eq_true hN.2.2.2, decide_eq_true rfl]; rfl
theorem byte_split : ∀ {l : List UInt8} {c : UInt8} {o : Nat}, Lib.indexByte l c = o → l = l.take o ++ c :: l.drop (o + 1) ∧ c ∉ l.take o
  | [], c, o, h => by have h' : (-1 : Int) = o := h; omega
  | b :: l, c, o, h => by
    unfold Lib.indexByte at h
    split at h
    next hb =>
      have e : o = 0 := by omega
      subst e
      rw [eq_of_beq hb]
      exact ⟨rfl, List.not_mem_nil⟩
    next hb =>
      split at h
      · omega
      · have hge := Lib.indexByte_ge l c
        have hne : ¬ Lib.indexByte l c = -1 := fun e => ‹¬ (Lib.indexByte l c == -1) = true› (by rw [e]; rfl)
        have ho : o = (o - 1) + 1 := by omega
        obtain ⟨k, hk⟩ : ∃ k, k = o - 1 := ⟨_, rfl⟩
        rw [← hk] at ho
        subst ho
        obtain ⟨e1, e2⟩ := byte_split (l := l) (c := c) (o := k) (by have := Lib.indexByte_ge l c; omega)
        refine ⟨?_, ?_⟩
        · show b :: l = b :: (l.take k ++ c :: l.drop (k + 1))
          rw [← e1]
        · intro hc
          rcases List.mem_cons.1 hc with hc | hc
          · exact hb (by rw [hc]; exact beq_self_eq_true b)
          · exact e2 hc
theorem cut_back (l : List UInt8) (c : UInt8) : ((Lib.cut l [c]).2.2 = true ∧ l = (Lib.cut l [c]).1 ++ c :: (Lib.cut l [c]).2.1 ∧ c ∉ (Lib.cut l [c]).1) ∨ ((Lib.cut l [c]).2.2 = false ∧ (Lib.cut l [c]).1 = l) := by
  unfold Lib.cut
  rw [Lib.index_one]
  by_cases h : 0 ≤ Lib.indexByte l c
  · rw [if_pos h]
    obtain ⟨e1, e2⟩ := byte_split (l := l) (c := c) (o := (Lib.indexByte l c).toNat) (by rw [Int.toNat_of_nonneg h])
    exact .inl ⟨rfl, e1, e2⟩
  · rw [if_neg h]
    exact .inr ⟨rfl, rfl⟩
/-- The cells of a ratio. -/
def qC (q : Rat) : List Value := [.int .i64 q.num, .int .i64 (q.den : Int)]
def zC : List Value := [.int .i64 0, .int .i64 0]
/-- Check's answer. -/
def chk (n d : Int) : Bool := decide (1 ≤ d) && decide (d ≤ 1073741824) && decide (-1073741824 ≤ n) && decide (n ≤ 1073741824) && decide (Int.gcd n d = 1)
theorem chk_rat {q : Rat} (h : fits q) : chk q.num q.den = true := by
  have h1 := q.den_pos
  have h2 := h.2.2
  unfold chk
  rw [decide_eq_true (by omega), decide_eq_true (by omega), decide_eq_true h.1, decide_eq_true h.2.1, decide_eq_true (rat_normal q)]; rfl
theorem chk_is {n d : Int} (h : chk n d = true) : ∃ q, fits q ∧ q.num = n ∧ (q.den : Int) = d := by
  unfold chk at h
  simp only [Bool.and_eq_true, decide_eq_true_eq] at h
  obtain ⟨⟨⟨⟨h1, h2⟩, h3⟩, h4⟩, h5⟩ := h
  obtain ⟨q, e1, e2⟩ := normal_rat h1 h5
  exact ⟨q, ⟨by omega, by omega, by omega⟩, e1, e2⟩
/-- What a reader of texts answers: the ratio with this text, or nothing if there is none. -/
def ParsedQ (s : List UInt8) (e : Ending) : Prop :=
  (∃ q, fits q ∧ textQ q = s ∧ e = .returned (.tuple #[.agg (qC q).toArray, .bool true])) ∨ (e = .returned (.tuple #[.agg zC.toArray, .bool false]) ∧ ∀ q, fits q → textQ q ≠ s)
theorem ParsedQ.det {s : List UInt8} {e f : Ending} (h : ParsedQ s e) (g : ParsedQ s f) : e = f := by
  rcases h with ⟨p, h1, h2, h3⟩ | ⟨h1, h2⟩
  · rcases g with ⟨q, g1, g2, g3⟩ | ⟨g1, g2⟩
    · rw [h3, g3, textQ_inj h1 g1 (h2.trans g2.symm)]
    · exact absurd h2 (g2 p h1)
  · rcases g with ⟨q, g1, g2, g3⟩ | ⟨g1, g2⟩
    · exact absurd g2 (h2 q g1)
    · rw [h1, g1]
theorem ParsedQ.yes {s : List UInt8} {q : Rat} (h : fits q) (h1 : q.num = readN s) (h2 : (q.den : Int) = readD s) (ht : textQ q = s) : ParsedQ s (.returned (.tuple #[.agg #[.int .i64 (readN s), .int .i64 (readD s)], .bool true])) :=
  .inl ⟨q, h, ht, by rw [← h1, ← h2]; rfl⟩
theorem ParsedQ.not {s : List UInt8} (h : chk (readN s) (readD s) = false) : ParsedQ s (.returned (.tuple #[.agg zC.toArray, .bool false])) :=
  .inr ⟨rfl, fun q hq ht => by
    obtain ⟨e1, e2⟩ := read_ratio hq
    rw [ht] at e1 e2
    rw [e1, e2, chk_rat hq] at h
    cases h⟩
theorem ParsedQ.other {s : List UInt8} {q : Rat} (h1 : q.num = readN s) (h2 : (q.den : Int) = readD s) (h : textQ q ≠ s) : ParsedQ s (.returned (.tuple #[.agg zC.toArray, .bool false])) :=
  .inr ⟨rfl, fun p hp ht => by
    obtain ⟨e1, e2⟩ := read_ratio hp
    rw [ht] at e1 e2
    exact h (by rw [← ht]; congr 1; exact Rat.ext (by omega) (by omega))⟩
/-- The reference's answer. -/
def refOk (s : List UInt8) : Bool := if (Lib.cut s [47]).2.2 = true then refIs (Lib.cut s [47]).1 && (refIs (Lib.cut s [47]).2.1 && decide (refN (Lib.cut s [47]).2.1 ≠ 1)) else refIs (Lib.cut s [47]).1
def refD (s : List UInt8) : Int := if (Lib.cut s [47]).2.2 = true then refN (Lib.cut s [47]).2.1 else 1
theorem refIs_itoa {l : List UInt8} (h : refIs l = true) : Lib.itoa (refN l) = l := by
  unfold refIs at h
  simp only [Bool.and_eq_true, decide_eq_true_eq] at h
  exact h.2
theorem ParsedQ.refYes {s : List UInt8} (h : refOk s = true) (hc : chk (refN (Lib.cut s [47]).1) (refD s) = true) : ParsedQ s (.returned (.tuple #[.agg #[.int .i64 (refN (Lib.cut s [47]).1), .int .i64 (refD s)], .bool true])) := by
  obtain ⟨q, hq, h1, h2⟩ := chk_is hc
  refine .inl ⟨q, hq, ?_, by rw [← h1, ← h2]; rfl⟩
  rcases cut_back s 47 with ⟨hf, hs, _⟩ | ⟨hf, hs⟩
  · unfold refOk at h
    unfold refD at h2
    rw [if_pos hf] at h h2
    simp only [Bool.and_eq_true, decide_eq_true_eq] at h
    obtain ⟨h3, h4, h5⟩ := h
    have hd : ¬ q.den = 1 := by omega
    unfold textQ
    rw [if_neg hd, h1, h2, refIs_itoa h3, refIs_itoa h4]
    exact hs.symm
  · unfold refOk at h
    unfold refD at h2
    have hn : ¬ (Lib.cut s [47]).2.2 = true := by rw [hf]; decide
    rw [if_neg hn] at h h2
    have hd : q.den = 1 := by omega
    unfold textQ
    rw [if_pos hd, List.append_nil, h1, refIs_itoa h]
    exact hs
theorem ParsedQ.refNo {s : List UInt8} (h : (refOk s && chk (refN (Lib.cut s [47]).1) (refD s)) = false) : ParsedQ s (.returned (.tuple #[.agg zC.toArray, .bool false])) :=
  .inr ⟨rfl, fun q hq ht => by
    have hd := q.den_pos
    have hd2 := hq.2.2
    obtain ⟨e1, e2⟩ := ref_itoa q.num hq.1 hq.2.1
    obtain ⟨e3, e4⟩ := ref_itoa q.den (by omega) (by omega)
    rw [← ht] at h
    unfold refOk refD at h
    rw [cut_text] at h
    by_cases h1 : q.den = 1
    · simp only [h1, e1, e2, ne_eq, not_true_eq_false, decide_false, Bool.false_eq_true, if_false, Bool.true_and] at h
      have := chk_rat hq
      rw [h1] at this
      have h' : chk q.num 1 = true := this
      rw [h'] at h; cases h
    · have h1' : ¬ (q.den : Int) = 1 := by omega
      simp only [h1, h1', e1, e2, e3, e4, ne_eq, not_false_eq_true, decide_true, if_true, if_false, Bool.true_and] at h
      rw [chk_rat hq] at h; cases h⟩
end Go.Proofs.YthjaelopmfjfeaaDoor
