/-
  The patterns of a range in plain words: which heads they match, how many there are, that no two overlap or can be joined. Conditions: what Range accepts.
-/
import Derived.Test.YtbldnhpbmfmepaaDoorGS
import Derived.Test.YtbldnhpbmfmepaaDoorGG
namespace Go.Proofs.YtbldnhpbmfmepaaDoor
set_option linter.unusedVariables false
set_option linter.unusedSimpArgs false
open Go.RowKit

/-- A block goes no further: twice its size does not fit. -/
theorem freeGo_max {lo hi : Nat} (hh : hi < 65536) : ∀ f k, f + k = 17 → k ≤ 16 → ¬ (lo % 2 ^ (freeGo lo hi f k + 1) = 0 ∧ lo + 2 ^ (freeGo lo hi f k + 1) ≤ hi + 1)
  | 0, k, h, h1 => by omega
  | f + 1, k, h, h1 => by
    unfold freeGo
    split
    · rename_i hc
      have hk : k + 1 ≤ 16 := Classical.byContradiction fun hn => by
        have : 2 ^ 17 ≤ 2 ^ (k + 1) := Nat.pow_le_pow_right (by decide) (by omega)
        omega
      exact freeGo_max hh f (k + 1) (by omega) hk
    · assumption
theorem rfree_max {lo hi : Nat} (hh : hi < 65536) : ¬ (lo % 2 ^ (rfree lo hi + 1) = 0 ∧ lo + 2 ^ (rfree lo hi + 1) ≤ hi + 1) := freeGo_max hh 17 0 rfl (by omega)
theorem mod_pow_le {x a b : Nat} (h : x % 2 ^ b = 0) (hab : a ≤ b) : x % 2 ^ a = 0 :=
  Nat.mod_eq_zero_of_dvd (Nat.dvd_trans (Nat.pow_dvd_pow 2 hab) (Nat.dvd_of_mod_eq_zero h))
/-- It goes as far as it can. -/
theorem rfree_ge {lo hi t : Nat} (hh : hi < 65536) (h1 : lo % 2 ^ t = 0) (h2 : lo + 2 ^ t ≤ hi + 1) : t ≤ rfree lo hi := Classical.byContradiction fun hn => by
  have hlt : rfree lo hi + 1 ≤ t := by omega
  have := Nat.pow_le_pow_right (show 0 < 2 by decide) hlt
  exact rfree_max (lo := lo) hh ⟨mod_pow_le h1 hlt, by omega⟩
/-- The number that a head has in a field. -/
def fieldN (h : Nat → Bool) (a wd : Nat) : Nat := wordB h a wd
theorem pre_hit {a wd fr j : Nat} (h : Nat → Bool) (ha : a + wd ≤ 160) (hf : fr ≤ wd) (hd : j % 2 ^ fr = 0) (hj : j < 2 ^ wd) : (Pat.pre a wd j (wd - fr)).hit h ↔ j ≤ fieldN h a wd ∧ fieldN h a wd < j + 2 ^ fr := by
  obtain ⟨c, hc⟩ := Nat.dvd_of_mod_eq_zero hd
  have hN : fieldN h a wd = wordB h a (wd - fr) * 2 ^ fr + wordB h (a + (wd - fr)) fr := by
    have := wordB_add h a (wd - fr) fr
    rwa [show wd - fr + fr = wd by omega] at this
  have hlow := wordB_lt h (a + (wd - fr)) fr
  have hpos : 0 < 2 ^ fr := Nat.two_pow_pos fr
  have hcl : c < 2 ^ (wd - fr) := by
    have e : 2 ^ wd = 2 ^ fr * 2 ^ (wd - fr) := by rw [← Nat.pow_add]; congr 1; omega
    rw [hc, e] at hj
    exact Nat.lt_of_mul_lt_mul_left hj
  have hbit : ∀ i, a ≤ i → i < a + (wd - fr) → j.testBit (wd - 1 - (i - a)) = c.testBit (wd - fr - 1 - (i - a)) := fun i h1 h2 => by
    rw [hc, Nat.testBit_two_pow_mul, decide_eq_true (show wd - 1 - (i - a) ≥ fr by omega), Bool.true_and]
    congr 1; omega
  have key : (Pat.pre a wd j (wd - fr)).hit h ↔ wordB h a (wd - fr) = c := by
    constructor
    · intro hh
      apply Nat.eq_of_testBit_eq
      intro t
      rw [wordB_test]
      by_cases ht : t < wd - fr
      · rw [decide_eq_true ht, Bool.true_and]
        have h1 := hh (a + (wd - fr - 1 - t)) (by omega) (by show (decide (a ≤ a + (wd - fr - 1 - t)) && decide (a + (wd - fr - 1 - t) < a + (wd - fr))) = true; rw [decide_eq_true (by omega), decide_eq_true (by omega)]; rfl)
        have h2 : ((decide (a ≤ a + (wd - fr - 1 - t)) && decide (a + (wd - fr - 1 - t) < a + (wd - fr))) && j.testBit (wd - 1 - (a + (wd - fr - 1 - t) - a))) = h (a + (wd - fr - 1 - t)) := h1
        rw [decide_eq_true (by omega), decide_eq_true (by omega), hbit _ (by omega) (by omega), show wd - fr - 1 - (a + (wd - fr - 1 - t) - a) = t by omega] at h2
        rw [← h2]; rfl
      · rw [decide_eq_false ht, Bool.false_and]
        exact (Nat.testBit_lt_two_pow (Nat.lt_of_lt_of_le hcl (Nat.pow_le_pow_right (by decide) (by omega)))).symm
    · intro e i hi hm
      have hm' : (decide (a ≤ i) && decide (i < a + (wd - fr))) = true := hm
      rw [Bool.and_eq_true, decide_eq_true_eq, decide_eq_true_eq] at hm'
      show ((decide (a ≤ i) && decide (i < a + (wd - fr))) && j.testBit (wd - 1 - (i - a))) = h i
      rw [decide_eq_true hm'.1, decide_eq_true hm'.2, hbit i hm'.1 hm'.2, ← e, wordB_test, decide_eq_true (by omega), show a + (wd - fr - 1 - (wd - fr - 1 - (i - a))) = i by omega]
      rfl
  rw [key, hN, hc]
  constructor
  · intro e
    rw [e, Nat.mul_comm c]
    omega
  · rintro ⟨h1, h2⟩
    have h3 : 2 ^ fr * wordB h a (wd - fr) < 2 ^ fr * (c + 1) := by rw [Nat.mul_add, Nat.mul_one, Nat.mul_comm]; omega
    have h4 : 2 ^ fr * c < 2 ^ fr * (wordB h a (wd - fr) + 1) := by rw [Nat.mul_add, Nat.mul_one, Nat.mul_comm (2 ^ fr) (wordB h a (wd - fr))]; omega
    have h5 := Nat.lt_of_mul_lt_mul_left h3
    have h6 := Nat.lt_of_mul_lt_mul_left h4
    omega
theorem pre_ok (a wd n k : Nat) : (Pat.pre a wd n k).ok := fun i _ hb => by
  have hb' : ((decide (a ≤ i) && decide (i < a + k)) && n.testBit (wd - 1 - (i - a))) = true := hb
  rw [Bool.and_eq_true] at hb'
  exact hb'.1
/-- One block. -/
structure BlkF (a wd hi j : Nat) (p : Pat) : Prop where
  le : rfree j hi ≤ wd
  p : p = Pat.pre a wd j (wd - rfree j hi)
  mod : j % 2 ^ rfree j hi = 0
  lt : j < 2 ^ wd
  fit : j + 2 ^ rfree j hi ≤ hi + 1
theorem blkF {a wd hi j : Nat} (h : j ≤ hi) (hh : hi < 65536) (hw : hi < 2 ^ wd) : BlkF a wd hi j (Pat.pre a wd j (wd - rfree j hi)) := by
  obtain ⟨_, h2, h3⟩ := rfree_spec h hh
  refine ⟨Classical.byContradiction fun hn => ?_, rfl, h2, by omega, h3⟩
  have h4 : 2 ^ (wd + 1) ≤ 2 ^ rfree j hi := Nat.pow_le_pow_right (by decide) (by omega)
  have h5 := Nat.pow_le_pow_right (show 0 < 2 by decide) (show wd ≤ wd + 1 by omega)
  rw [Nat.pow_succ] at h4
  have h6 : j = 0 ∨ 2 ^ rfree j hi ≤ j := by
    obtain ⟨c, hc⟩ := Nat.dvd_of_mod_eq_zero h2
    rcases Nat.eq_zero_or_pos c with h | h
    · left; rw [h, Nat.mul_zero] at hc; exact hc
    · right
      have := Nat.le_mul_of_pos_right (2 ^ rfree j hi) h
      omega
  omega
/-- Exactly one pattern matches a head whose number is in the range, and none another. -/
theorem range_count {a wd hi : Nat} (h : Nat → Bool) (ha : a + wd ≤ 160) (hh : hi < 65536) (hw : hi < 2 ^ wd) : ∀ f j, hi < j + f → ((rangeGo a wd hi f j).countP fun p => decide (p.hit h)) = if j ≤ fieldN h a wd ∧ fieldN h a wd ≤ hi then 1 else 0
  | 0, j, hf => by
    rw [if_neg (by omega)]; rfl
  | f + 1, j, hf => by
    unfold rangeGo
    by_cases hj : j ≤ hi
    · rw [if_pos hj]
      have hb := blkF (a := a) (wd := wd) hj hh hw
      have hp := Nat.two_pow_pos (rfree j hi)
      have ih := range_count h ha hh hw f (j + 2 ^ rfree j hi) (by omega)
      have hk := pre_hit h ha hb.le hb.mod hb.lt
      have hfit := hb.fit
      by_cases hc : (Pat.pre a wd j (wd - rfree j hi)).hit h
      · rw [List.countP_cons_of_pos (by simpa using hc), ih]
        have := hk.1 hc
        have e1 : ¬ (j + 2 ^ rfree j hi ≤ fieldN h a wd ∧ fieldN h a wd ≤ hi) := by omega
        have e2 : j ≤ fieldN h a wd ∧ fieldN h a wd ≤ hi := by omega
        rw [if_neg e1, if_pos e2]
      · rw [List.countP_cons_of_neg (by simpa using hc), ih]
        have hno : ¬ (j ≤ fieldN h a wd ∧ fieldN h a wd < j + 2 ^ rfree j hi) := fun k => hc (hk.2 k)
        by_cases h1 : j + 2 ^ rfree j hi ≤ fieldN h a wd ∧ fieldN h a wd ≤ hi
        · have e2 : j ≤ fieldN h a wd ∧ fieldN h a wd ≤ hi := by omega
          rw [if_pos h1, if_pos e2]
        · have e2 : ¬ (j ≤ fieldN h a wd ∧ fieldN h a wd ≤ hi) := by omega
          rw [if_neg h1, if_neg e2]
    · rw [if_neg hj, if_neg (by omega)]; rfl
/-- Any pattern of a range is the block of some number behind. -/
theorem range_mem {a wd hi : Nat} (hh : hi < 65536) : ∀ f x p, p ∈ rangeGo a wd hi f x → ∃ j, x ≤ j ∧ j ≤ hi ∧ p = Pat.pre a wd j (wd - rfree j hi)
  | 0, x, p, h => by cases h
  | f + 1, x, p, h => by
    unfold rangeGo at h
    by_cases hx : x ≤ hi
    · rw [if_pos hx] at h
      rcases List.mem_cons.1 h with rfl | h
      · exact ⟨x, Nat.le_refl _, hx, rfl⟩
      · obtain ⟨j, h1, h2, h3⟩ := range_mem hh f _ p h
        exact ⟨j, Nat.le_trans (Nat.le_add_right _ _) h1, h2, h3⟩
    · rw [if_neg hx] at h; cases h
/-- Behind a multiple of twice a size, blocks of this size begin at such multiples. -/
theorem range_even {a wd hi s : Nat} (hh : hi < 65536) : ∀ f x, x % 2 ^ (s + 1) = 0 → ∀ p, p ∈ rangeGo a wd hi f x → ∃ j, x ≤ j ∧ j ≤ hi ∧ p = Pat.pre a wd j (wd - rfree j hi) ∧ (rfree j hi = s → j % 2 ^ (s + 1) = 0)
  | 0, x, _, p, h => by cases h
  | f + 1, x, hx0, p, h => by
    unfold rangeGo at h
    by_cases hx : x ≤ hi
    · rw [if_pos hx] at h
      obtain ⟨_, hm, hfit⟩ := rfree_spec hx hh
      rcases List.mem_cons.1 h with rfl | h
      · exact ⟨x, Nat.le_refl _, hx, rfl, fun _ => hx0⟩
      · by_cases hr : s + 1 ≤ rfree x hi
        · have hn : (x + 2 ^ rfree x hi) % 2 ^ (s + 1) = 0 := by
            rw [Nat.add_mod, hx0, mod_pow_le (Nat.mod_self _) hr]; rfl
          obtain ⟨j, h1, h2⟩ := range_even hh f _ hn p h
          exact ⟨j, Nat.le_trans (Nat.le_add_right _ _) h1, h2⟩
        · obtain ⟨j, h1, h2, h3⟩ := range_mem hh f _ p h
          refine ⟨j, Nat.le_trans (Nat.le_add_right _ _) h1, h2, h3, fun hs => ?_⟩
          have hmax := rfree_max (lo := x) hh
          have hm2 : x % 2 ^ (rfree x hi + 1) = 0 := mod_pow_le hx0 (by omega)
          have hle : ¬ (x + 2 ^ (rfree x hi + 1) ≤ hi + 1) := fun hc => hmax ⟨hm2, hc⟩
          obtain ⟨_, _, hfj⟩ := rfree_spec h2 hh
          rw [hs] at hfj
          have hps := Nat.pow_le_pow_right (show 0 < 2 by decide) (show rfree x hi ≤ s by omega)
          rw [Nat.pow_succ] at hle
          omega
    · rw [if_neg hx] at h; cases h
theorem cnt_two {o : Nat → Bool} {i k : Nat} (hik : i ≠ k) (hi : i < 160) (hk : k < 160) (h1 : o i = true) (h2 : o k = true) : cnt o 0 160 ≠ 1 := by
  have key : ∀ i k, i < k → k < 160 → o i = true → o k = true → cnt o 0 160 ≠ 1 := fun i k hlt hk h1 h2 => by
    have e1 := cnt_add o 0 (i + 1) (159 - i)
    rw [show i + 1 + (159 - i) = 160 by omega, Nat.zero_add] at e1
    have e2 := cnt_add o (i + 1) (k - i) (159 - k)
    rw [show k - i + (159 - k) = 159 - i by omega] at e2
    have e3 : cnt o 0 (i + 1) = cnt o 0 i + 1 := by
      show cnt o 0 i + (o (0 + i)).toNat = _
      rw [Nat.zero_add, h1]; rfl
    obtain ⟨d, hd⟩ : ∃ d, k - i = d + 1 := ⟨k - i - 1, by omega⟩
    have e4 : cnt o (i + 1) (k - i) = cnt o (i + 1) d + 1 := by
      rw [hd]
      show cnt o (i + 1) d + (o (i + 1 + d)).toNat = _
      rw [show i + 1 + d = k by omega, h2]; rfl
    omega
  rcases Nat.lt_or_ge i k with h | h
  · exact key i k h hk h1 h2
  · exact key k i (by omega) hi h2 h1
/-- No two patterns overlap, and no two can be joined. -/
theorem range_apart {a wd hi : Nat} (ha : a + wd ≤ 160) (hh : hi < 65536) (hw : hi < 2 ^ wd) : ∀ f x, (rangeGo a wd hi f x).Pairwise fun p q => ¬ p.over q ∧ p.joins q = false
  | 0, _ => List.Pairwise.nil
  | f + 1, x => by
    unfold rangeGo
    by_cases hx : x ≤ hi
    · rw [if_pos hx]
      refine List.Pairwise.cons (fun q hq => ?_) (range_apart ha hh hw f _)
      have hb := blkF (a := a) (wd := wd) hx hh hw
      have main : ∃ j, x + 2 ^ rfree x hi ≤ j ∧ j ≤ hi ∧ q = Pat.pre a wd j (wd - rfree j hi) ∧ (rfree j hi = rfree x hi → ¬ (x % 2 ^ (rfree x hi + 1) = 0) ∧ j % 2 ^ (rfree x hi + 1) = 0) := by
        by_cases he : x % 2 ^ (rfree x hi + 1) = 0
        · obtain ⟨j, h1, h2, h3⟩ := range_mem hh f _ q hq
          refine ⟨j, h1, h2, h3, fun hs => ?_⟩
          obtain ⟨_, _, hfj⟩ := rfree_spec h2 hh
          rw [hs] at hfj
          exact absurd ⟨he, by rw [Nat.pow_succ]; omega⟩ (rfree_max (lo := x) hh)
        · have hn : (x + 2 ^ rfree x hi) % 2 ^ (rfree x hi + 1) = 0 := by
            obtain ⟨c, hc⟩ := Nat.dvd_of_mod_eq_zero hb.mod
            rw [Nat.pow_succ] at he ⊢
            rcases Nat.mod_two_eq_zero_or_one c with h | h
            · exfalso; apply he
              obtain ⟨d, hd⟩ := Nat.dvd_of_mod_eq_zero h
              rw [hd, ← Nat.mul_assoc] at hc
              exact Nat.mod_eq_zero_of_dvd ⟨d, hc⟩
            · have hd : c + 1 = 2 * (c / 2 + 1) := by omega
              have e : x + 2 ^ rfree x hi = 2 ^ rfree x hi * 2 * (c / 2 + 1) := by
                calc x + 2 ^ rfree x hi = 2 ^ rfree x hi * c + 2 ^ rfree x hi := by rw [← hc]
                  _ = 2 ^ rfree x hi * (c + 1) := by rw [Nat.mul_add, Nat.mul_one]
                  _ = _ := by rw [hd, Nat.mul_assoc]
              rw [e]; exact Nat.mul_mod_right _ _
          obtain ⟨j, h1, h2, h3, h4⟩ := range_even (s := rfree x hi) hh f _ hn q hq
          exact ⟨j, h1, h2, h3, fun hs => ⟨he, h4 hs⟩⟩
      obtain ⟨j, h1, h2, rfl, h4⟩ := main
      have hc := blkF (a := a) (wd := wd) h2 hh hw
      have hno : ∀ h : Nat → Bool, (Pat.pre a wd x (wd - rfree x hi)).hit h → (Pat.pre a wd j (wd - rfree j hi)).hit h → False := fun h k1 k2 => by
        have := (pre_hit h ha hb.le hb.mod hb.lt).1 k1
        have := (pre_hit h ha hc.le hc.mod hc.lt).1 k2
        omega
      have hself : ∀ p : Pat, p.hit p.b := fun p i _ _ => rfl
      refine ⟨fun ho => ?_, ?_⟩
      · refine hno (fun i => (Pat.pre a wd x (wd - rfree x hi)).b i || (Pat.pre a wd j (wd - rfree j hi)).b i) (fun i hj1 hm => ?_) (fun i hj1 hm => ?_)
        · have e := ho i hj1
          have hb1 := pre_ok a wd j (wd - rfree j hi) i hj1
          unfold Pat.lap at e
          rw [hm] at e
          show _ = (_ || _)
          revert e hb1
          cases (Pat.pre a wd x (wd - rfree x hi)).b i <;> cases (Pat.pre a wd j (wd - rfree j hi)).b i <;> cases (Pat.pre a wd j (wd - rfree j hi)).m i <;> simp
        · have e := ho i hj1
          have hb1 := pre_ok a wd x (wd - rfree x hi) i hj1
          unfold Pat.lap at e
          rw [hm] at e
          show _ = (_ || _)
          revert e hb1
          cases (Pat.pre a wd x (wd - rfree x hi)).b i <;> cases (Pat.pre a wd j (wd - rfree j hi)).b i <;> cases (Pat.pre a wd x (wd - rfree x hi)).m i <;> simp
      · rw [Bool.eq_false_iff]
        intro hjn
        unfold Pat.joins at hjn
        rw [Bool.and_eq_true, decide_eq_true_eq, decide_eq_true_eq] at hjn
        obtain ⟨hm, hone⟩ := hjn
        have hmi : ∀ i, i < 160 → (Pat.pre a wd x (wd - rfree x hi)).m i = (Pat.pre a wd j (wd - rfree j hi)).m i := HI_inj hm
        have hrr : rfree j hi = rfree x hi := by
          have l1 := hb.le
          have l2 := hc.le
          have hmi' : ∀ i, i < 160 → (decide (a ≤ i) && decide (i < a + (wd - rfree x hi))) = (decide (a ≤ i) && decide (i < a + (wd - rfree j hi))) := hmi
          rcases Nat.lt_trichotomy (rfree j hi) (rfree x hi) with h | h | h
          · have := hmi' (a + (wd - rfree x hi)) (by omega)
            rw [decide_eq_true (show a ≤ a + (wd - rfree x hi) by omega), decide_eq_false (show ¬ (a + (wd - rfree x hi) < a + (wd - rfree x hi)) by omega), decide_eq_true (show a + (wd - rfree x hi) < a + (wd - rfree j hi) by omega)] at this
            cases this
          · exact h
          · have := hmi' (a + (wd - rfree j hi)) (by omega)
            rw [decide_eq_true (show a ≤ a + (wd - rfree j hi) by omega), decide_eq_false (show ¬ (a + (wd - rfree j hi) < a + (wd - rfree j hi)) by omega), decide_eq_true (show a + (wd - rfree j hi) < a + (wd - rfree x hi) by omega)] at this
            cases this
        obtain ⟨hxo, hje⟩ := h4 hrr
        have hs1 := (pre_hit _ ha hb.le hb.mod hb.lt).1 (hself (Pat.pre a wd x (wd - rfree x hi)))
        have hs2 := (pre_hit _ ha hc.le hc.mod hc.lt).1 (hself (Pat.pre a wd j (wd - rfree j hi)))
        -- a bit that the second one has and the first one has not
        have hup : ∃ t, t < wd ∧ (Pat.pre a wd j (wd - rfree j hi)).b (a + t) = true ∧ (Pat.pre a wd x (wd - rfree x hi)).b (a + t) = false := Classical.byContradiction fun hn => by
          have hle : fieldN (Pat.pre a wd j (wd - rfree j hi)).b a wd ≤ fieldN (Pat.pre a wd x (wd - rfree x hi)).b a wd := wordB_mono fun t ht hbt => by
            cases hbx : (Pat.pre a wd x (wd - rfree x hi)).b (a + t)
            · exact absurd ⟨t, ht, hbt, hbx⟩ hn
            · rfl
          omega
        obtain ⟨t, ht, hbt, hbx⟩ := hup
        -- the bit of the size itself
        have hrw : rfree x hi < wd := by
          rcases Nat.lt_or_ge (rfree x hi) wd with h | h
          · exact h
          · exfalso
            have e : rfree x hi = wd := Nat.le_antisymm hb.le h
            have m1 := hb.mod
            have f1 := hb.lt
            rw [e] at m1
            rw [Nat.mod_eq_of_lt f1] at m1
            rw [m1] at hxo
            exact hxo (Nat.zero_mod _)
        have hbit : ∀ y, y % 2 ^ rfree x hi = 0 → (¬ y % 2 ^ (rfree x hi + 1) = 0) = (y.testBit (rfree x hi) = true) := fun y hy => by
          obtain ⟨c, hc⟩ := Nat.dvd_of_mod_eq_zero hy
          rw [hc, Nat.testBit_two_pow_mul, decide_eq_true (Nat.le_refl _), Bool.true_and, Nat.sub_self, Nat.pow_succ, Nat.mul_mod_mul_left, Nat.testBit_zero]
          have hp := Nat.two_pow_pos (rfree x hi)
          rcases Nat.mod_two_eq_zero_or_one c with h | h
          · simp [h]
          · simp [h]
        have hx1 : x.testBit (rfree x hi) = true := (hbit x hb.mod) ▸ hxo
        have hj1 : ¬ (j.testBit (rfree x hi) = true) := fun hc1 => by
          have := (hbit j (by have := hc.mod; rwa [hrr] at this)).symm ▸ hc1
          exact this hje
        have b1 : (Pat.pre a wd x (wd - rfree x hi)).b (a + (wd - 1 - rfree x hi)) = true := by
          show ((decide (a ≤ a + (wd - 1 - rfree x hi)) && decide (a + (wd - 1 - rfree x hi) < a + (wd - rfree x hi))) && x.testBit (wd - 1 - (a + (wd - 1 - rfree x hi) - a))) = true
          rw [decide_eq_true (by omega), decide_eq_true (by omega), show wd - 1 - (a + (wd - 1 - rfree x hi) - a) = rfree x hi by omega, hx1]; rfl
        have b2 : (Pat.pre a wd j (wd - rfree j hi)).b (a + (wd - 1 - rfree x hi)) = false := by
          rw [Bool.eq_false_iff]
          intro hb2
          have hb2' : ((decide (a ≤ a + (wd - 1 - rfree x hi)) && decide (a + (wd - 1 - rfree x hi) < a + (wd - rfree j hi))) && j.testBit (wd - 1 - (a + (wd - 1 - rfree x hi) - a))) = true := hb2
          rw [show wd - 1 - (a + (wd - 1 - rfree x hi) - a) = rfree x hi by omega, Bool.and_eq_true] at hb2'
          exact hj1 hb2'.2
        refine cnt_two (o := (Pat.pre a wd x (wd - rfree x hi)).odd (Pat.pre a wd j (wd - rfree j hi))) (i := a + t) (k := a + (wd - 1 - rfree x hi)) (fun e => ?_) (by omega) (by omega) ?_ ?_ hone
        · rw [e, b1] at hbx; cases hbx
        · show ((Pat.pre a wd x (wd - rfree x hi)).b (a + t) != (Pat.pre a wd j (wd - rfree j hi)).b (a + t)) = true
          rw [hbt, hbx]; rfl
        · show ((Pat.pre a wd x (wd - rfree x hi)).b (a + (wd - 1 - rfree x hi)) != (Pat.pre a wd j (wd - rfree j hi)).b (a + (wd - 1 - rfree x hi))) = true
          rw [b1, b2]; rfl
    · rw [if_neg hx]
      exact List.Pairwise.nil
/-- Falling: less than a size is left behind a multiple of it. -/
theorem range_fall {a wd hi : Nat} (hh : hi < 65536) : ∀ f x t, x % 2 ^ t = 0 → hi + 1 < x + 2 ^ t → (rangeGo a wd hi f x).length ≤ t
  | 0, _, _, _, _ => Nat.zero_le _
  | f + 1, x, t, h1, h2 => by
    unfold rangeGo
    by_cases hx : x ≤ hi
    · rw [if_pos hx, List.length_cons]
      obtain ⟨_, hm, hfit⟩ := rfree_spec hx hh
      have hrt : rfree x hi < t := Classical.byContradiction fun hn => by
        have := Nat.pow_le_pow_right (show 0 < 2 by decide) (show t ≤ rfree x hi by omega)
        omega
      have hmax : ¬ (x + 2 ^ (rfree x hi + 1) ≤ hi + 1) := fun hc => rfree_max (lo := x) hh ⟨mod_pow_le h1 (by omega), hc⟩
      rw [Nat.pow_succ] at hmax
      have ih := range_fall (a := a) (wd := wd) hh f (x + 2 ^ rfree x hi) (rfree x hi) (by rw [Nat.add_mod_right]; exact hm) (by omega)
      omega
    · rw [if_neg hx]; exact Nat.zero_le _
/-- Rising: up to a multiple of a size. -/
theorem range_rise {a wd hi m t K : Nat} (hh : hi < 65536) (hm : m % 2 ^ t = 0) (hmh : m ≤ hi) (hK : ∀ f, (rangeGo a wd hi f m).length ≤ K) : ∀ f x s, x % 2 ^ s = 0 → x < m → m < x + 2 ^ t → s < t → (rangeGo a wd hi f x).length ≤ t - s + K
  | 0, _, _, _, _, _, _ => Nat.zero_le _
  | f + 1, x, s, h1, h2, h3, h4 => by
    unfold rangeGo
    rw [if_pos (by omega), List.length_cons]
    obtain ⟨_, hmr, hfit⟩ := rfree_spec (show x ≤ hi by omega) hh
    -- x is no multiple of 2^t
    have hxt : ¬ x % 2 ^ t = 0 := fun hc => by
      obtain ⟨c, hc⟩ := Nat.dvd_of_mod_eq_zero hc
      obtain ⟨d, hd⟩ := Nat.dvd_of_mod_eq_zero hm
      rw [hc, hd] at h2 h3
      have h5 : 2 ^ t * d < 2 ^ t * (c + 1) := by rw [Nat.mul_add, Nat.mul_one]; omega
      have := Nat.lt_of_mul_lt_mul_left h2
      have := Nat.lt_of_mul_lt_mul_left h5
      omega
    have hrt : rfree x hi < t := Classical.byContradiction fun hn => hxt (mod_pow_le hmr (by omega))
    -- a step up to the next multiple stays within m
    have hstep : ∀ v, x % 2 ^ v = 0 → v ≤ t → x + 2 ^ v ≤ m := fun v hv hvt => by
      obtain ⟨c, hc⟩ := Nat.dvd_of_mod_eq_zero hv
      obtain ⟨d, hd⟩ := Nat.dvd_of_mod_eq_zero (mod_pow_le hm hvt)
      rw [hc, hd] at h2 ⊢
      have := Nat.lt_of_mul_lt_mul_left h2
      calc 2 ^ v * c + 2 ^ v = 2 ^ v * (c + 1) := by rw [Nat.mul_add, Nat.mul_one]
        _ ≤ 2 ^ v * d := Nat.mul_le_mul_left _ (by omega)
    have hsr : s ≤ rfree x hi := rfree_ge hh h1 (by have := hstep s h1 (by omega); omega)
    have hnext : x + 2 ^ rfree x hi ≤ m := hstep _ hmr (by omega)
    have hodd : ¬ x % 2 ^ (rfree x hi + 1) = 0 := fun hc => rfree_max (lo := x) hh ⟨hc, by have := hstep _ hc (by omega); omega⟩
    have hev : (x + 2 ^ rfree x hi) % 2 ^ (rfree x hi + 1) = 0 := by
      obtain ⟨c, hc⟩ := Nat.dvd_of_mod_eq_zero hmr
      rw [Nat.pow_succ] at hodd ⊢
      rcases Nat.mod_two_eq_zero_or_one c with h | h
      · exfalso; apply hodd
        obtain ⟨d, hd⟩ := Nat.dvd_of_mod_eq_zero h
        rw [hd, ← Nat.mul_assoc] at hc
        exact Nat.mod_eq_zero_of_dvd ⟨d, hc⟩
      · have hd : c + 1 = 2 * (c / 2 + 1) := by omega
        have e : x + 2 ^ rfree x hi = 2 ^ rfree x hi * 2 * (c / 2 + 1) := by
          calc x + 2 ^ rfree x hi = 2 ^ rfree x hi * c + 2 ^ rfree x hi := by rw [← hc]
            _ = 2 ^ rfree x hi * (c + 1) := by rw [Nat.mul_add, Nat.mul_one]
            _ = _ := by rw [hd, Nat.mul_assoc]
        rw [e]; exact Nat.mul_mod_right _ _
    rcases Nat.lt_or_ge (x + 2 ^ rfree x hi) m with hlt | hge
    · have hr1 : rfree x hi + 1 < t := Classical.byContradiction fun hn => by
        have e : rfree x hi + 1 = t := by omega
        rw [e] at hev
        obtain ⟨c, hc⟩ := Nat.dvd_of_mod_eq_zero hev
        obtain ⟨d, hd⟩ := Nat.dvd_of_mod_eq_zero hm
        have hp := Nat.two_pow_pos (rfree x hi)
        rw [hc, hd] at hlt
        have h5 := Nat.lt_of_mul_lt_mul_left hlt
        have h6 : 2 ^ t * (c + 1) ≤ 2 ^ t * d := Nat.mul_le_mul_left _ (by omega)
        rw [Nat.mul_add, Nat.mul_one, ← hc, ← hd] at h6
        omega
      have ih := range_rise hh hm hmh hK f (x + 2 ^ rfree x hi) (rfree x hi + 1) hev hlt (by omega) hr1
      omega
    · have e : x + 2 ^ rfree x hi = m := by omega
      rw [e]
      have := hK f
      omega
theorem range_one {a wd hi x : Nat} (hx : x ≤ hi) (h : x + 2 ^ rfree x hi = hi + 1) (f : Nat) : (rangeGo a wd hi f x).length ≤ 1 := by
  cases f with
  | zero => exact Nat.zero_le _
  | succ f =>
    unfold rangeGo
    rw [if_pos hx, h, rangeGo_none a wd hi (by omega)]
    exact Nat.le_refl _
/-- There are at most 2 * width - 2 patterns, or one. -/
theorem range_few {a wd lo hi : Nat} (hh : hi < 65536) (h1 : 1 ≤ wd) (h4 : lo ≤ hi) (h5 : hi < 2 ^ wd) : (rangeL a wd lo hi).length ≤ max 1 (2 * wd - 2) := by
  have split : ∀ t, hi / 2 ^ t = lo / 2 ^ t → (∀ f, (rangeGo a wd hi f lo).length ≤ max 1 (2 * t - 2)) := by
    intro t
    induction t with
    | zero =>
      intro h f
      rw [Nat.pow_zero, Nat.div_one, Nat.div_one] at h
      refine Nat.le_trans (range_one h4 ?_ f) (by omega)
      obtain ⟨_, _, hfit⟩ := rfree_spec h4 hh
      have := Nat.two_pow_pos (rfree lo hi)
      omega
    | succ t ih =>
      intro h f
      by_cases he : hi / 2 ^ t = lo / 2 ^ t
      · exact Nat.le_trans (ih he f) (by omega)
      · have hp := Nat.two_pow_pos t
        have e1 : hi / 2 ^ t / 2 = lo / 2 ^ t / 2 := by rw [Nat.div_div_eq_div_mul, Nat.div_div_eq_div_mul, ← Nat.pow_succ]; exact h
        have hle : lo / 2 ^ t ≤ hi / 2 ^ t := Nat.div_le_div_right h4
        obtain ⟨c, hc⟩ : ∃ c, lo / 2 ^ t = 2 * c := ⟨lo / 2 ^ t / 2, by omega⟩
        have hc2 : hi / 2 ^ t = 2 * c + 1 := by omega
        have l1 := Nat.div_add_mod lo (2 ^ t)
        have l2 := Nat.div_add_mod hi (2 ^ t)
        have l3 := Nat.mod_lt lo hp
        have l4 := Nat.mod_lt hi hp
        rw [hc] at l1
        rw [hc2, Nat.mul_add, Nat.mul_one] at l2
        obtain ⟨B, hB⟩ : ∃ B, 2 ^ t * (2 * c) = B := ⟨_, rfl⟩
        rw [hB] at l1 l2
        have hBm : B % 2 ^ (t + 1) = 0 := by rw [← hB, ← Nat.mul_assoc, Nat.pow_succ]; exact Nat.mul_mod_right _ _
        have hmm : (B + 2 ^ t) % 2 ^ t = 0 := by rw [Nat.add_mod_right]; exact mod_pow_le hBm (by omega)
        have hfall : ∀ f, (rangeGo a wd hi f (B + 2 ^ t)).length ≤ max 1 t := fun f => by
          rcases Nat.lt_or_ge (hi + 1) (B + 2 ^ t + 2 ^ t) with h | h
          · exact Nat.le_trans (range_fall hh f _ t hmm h) (by omega)
          · refine Nat.le_trans (range_one (by omega) ?_ f) (by omega)
            have hge := rfree_ge hh hmm (show B + 2 ^ t + 2 ^ t ≤ hi + 1 by omega)
            obtain ⟨_, _, hfit⟩ := rfree_spec (show B + 2 ^ t ≤ hi by omega) hh
            have := Nat.pow_le_pow_right (show 0 < 2 by decide) hge
            omega
        rcases Nat.lt_or_ge B lo with hlo | hlo
        · have ht : 0 < t := by
            rcases Nat.eq_zero_or_pos t with h | h
            · have h1 : 2 ^ t = 1 := by rw [h]
              omega
            · exact h
          have g1 : B + 2 ^ t ≤ hi := by omega
          have g2 : lo < B + 2 ^ t := by omega
          have g3 : B + 2 ^ t < lo + 2 ^ t := by omega
          have := range_rise (a := a) (wd := wd) hh hmm g1 hfall f lo 0 (by rw [Nat.pow_zero]; exact Nat.mod_one _) g2 g3 ht
          omega
        · have e : lo = B := by omega
          rcases Nat.lt_or_ge (hi + 1) (B + 2 ^ (t + 1)) with h | h
          · have := range_fall (a := a) (wd := wd) hh f lo (t + 1) (by rw [e]; exact hBm) (by rw [e]; exact h)
            rcases Nat.eq_zero_or_pos t with h0 | h0
            · omega
            · omega
          · have hge := rfree_ge (lo := lo) hh (by rw [e]; exact hBm) (show lo + 2 ^ (t + 1) ≤ hi + 1 by omega)
            obtain ⟨_, _, hfit⟩ := rfree_spec h4 hh
            have hpp := Nat.pow_le_pow_right (show 0 < 2 by decide) hge
            rw [Nat.pow_succ] at hpp h
            exact Nat.le_trans (range_one h4 (by omega) f) (by omega)
  have h0 : hi / 2 ^ wd = lo / 2 ^ wd := by rw [Nat.div_eq_of_lt h5, Nat.div_eq_of_lt (by omega)]
  exact split wd h0 65537
end Go.Proofs.YtbldnhpbmfmepaaDoor
