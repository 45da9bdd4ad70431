/-
  Plain facts on the encodings of chapter 1 (integers in base 128, byte strings, lists), on lists of bytes; nothing of the program is imported. Conditions: none.
-/
namespace Go.Proofs.YtnhnfdfjlagcjaaDoor
namespace WM

/-- The digits of z. -/
def encN (z : Nat) : List UInt8 :=
  if z < 128 then [UInt8.ofNat z] else UInt8.ofNat (z % 128 + 128) :: encN (z / 128)
termination_by z
decreasing_by omega

def fold (n : Int) : Nat := if n < 0 then (-2 * n - 1).toNat else (2 * n).toNat
def unf (z : Nat) : Int := if z % 2 = 1 then -1 - ((z / 2 : Nat) : Int) else ((z / 2 : Nat) : Int)
def encI (n : Int) : List UInt8 := encN (fold n)

/-- How many of the first f bytes stand ahead of the first one below 128. -/
def lead : Nat → List UInt8 → Nat
  | 0, _ => 0
  | _ + 1, [] => 0
  | f + 1, c :: r => if c.toNat < 128 then 0 else lead f r + 1

def val : List UInt8 → Nat
  | [] => 0
  | c :: r => c.toNat % 128 + 128 * val r

def bad (k : Nat) (c : UInt8) : Bool := (k == 9 && decide (1 < c.toNat)) || (decide (0 < k) && c.toNat == 0)

def getI (l : List UInt8) : Int × Nat × Int :=
  if lead 10 l = 10 then (0, 0, 6)
  else if lead 10 l = l.length then (0, 0, 5)
  else if bad (lead 10 l) (l.getD (lead 10 l) 0) = true then (0, 0, 6)
  else (unf (val (l.take (lead 10 l + 1))), lead 10 l + 1, 0)

theorem fold_unf (z : Nat) : fold (unf z) = z := by
  unfold fold unf
  by_cases h : z % 2 = 1
  · simp only [h, if_true]
    rw [if_pos (by omega)]; omega
  · rw [if_neg h, if_neg (by omega)]; omega
theorem unf_fold (n : Int) : unf (fold n) = n := by
  unfold fold unf
  by_cases h : n < 0
  · simp only [if_pos h]
    rw [if_pos (by omega)]; omega
  · simp only [if_neg h]
    rw [if_neg (by omega)]; omega
theorem fold_lt {n : Int} (h1 : -9223372036854775808 ≤ n) (h2 : n ≤ 9223372036854775807) : fold n < 18446744073709551616 := by
  unfold fold; split <;> omega
theorem unf_in {z : Nat} (h : z < 18446744073709551616) : -9223372036854775808 ≤ unf z ∧ unf z ≤ 9223372036854775807 := by
  unfold unf; split <;> omega
theorem fold_neg (n : Int) : fold (-1 - n) / 2 = fold n / 2 := by
  unfold fold; split <;> split <;> omega
theorem fold_half (n : Int) : ((fold n / 2 : Nat) : Int) = if n < 0 then -1 - n else n := by
  unfold fold; split <;> omega

theorem byte_lo {z : Nat} (h : z < 128) : (UInt8.ofNat z).toNat = z := by
  simp [UInt8.toNat_ofNat']; omega
theorem byte_hi (z : Nat) : (UInt8.ofNat (z % 128 + 128)).toNat = z % 128 + 128 := by
  simp [UInt8.toNat_ofNat']; omega

theorem encN_lo {z : Nat} (h : z < 128) : encN z = [UInt8.ofNat z] := by rw [encN, if_pos h]
theorem encN_hi {z : Nat} (h : ¬ z < 128) : encN z = UInt8.ofNat (z % 128 + 128) :: encN (z / 128) := by rw [encN, if_neg h]

theorem encN_pos (z : Nat) : 1 ≤ (encN z).length := by
  by_cases h : z < 128
  · rw [encN_lo h]; simp
  · rw [encN_hi h]; simp
theorem encN_le : ∀ (k z : Nat), z < 128 ^ (k + 1) → (encN z).length ≤ k + 1
  | 0, z, h => by rw [encN_lo (by simpa using h)]; simp
  | k + 1, z, h => by
    by_cases h1 : z < 128
    · rw [encN_lo h1]; simp
    · rw [encN_hi h1]
      have := encN_le k (z / 128) (by rw [Nat.pow_succ] at h; omega)
      simp; omega
theorem encN_le10 {z : Nat} (h : z < 18446744073709551616) : (encN z).length ≤ 10 := encN_le 9 z (by omega)
theorem val_encN (z : Nat) : val (encN z) = z := by
  induction z using Nat.strongRecOn with
  | ind z ih =>
    by_cases h : z < 128
    · rw [encN_lo h]; simp only [val, byte_lo h]; omega
    · rw [encN_hi h]; simp only [val, byte_hi]; rw [ih (z / 128) (by omega)]; omega

theorem encN_mono : ∀ (a b : Nat), a ≤ b → (encN a).length ≤ (encN b).length := by
  intro a
  induction a using Nat.strongRecOn with
  | ind a ih =>
    intro b hab
    by_cases ha : a < 128
    · rw [encN_lo ha]; exact encN_pos b
    · rw [encN_hi ha, encN_hi (show ¬ b < 128 by omega)]
      have := ih (a / 128) (by omega) (b / 128) (by omega)
      simpa using this

/-- Whether two numbers have equally long encodings depends on their halves alone. -/
theorem encN_half (a b : Nat) (h : a / 2 = b / 2) : (encN a).length = (encN b).length := by
  by_cases ha : a < 128
  · rw [encN_lo ha, encN_lo (by omega)]; rfl
  · rw [encN_hi ha, encN_hi (show ¬ b < 128 by omega)]
    have e : a / 128 = b / 128 := by omega
    simp [e]

/-- All bytes but the last one are at least 128. -/
theorem encN_lead : ∀ (z : Nat) (t : List UInt8) (f : Nat), (encN z).length ≤ f → lead f (encN z ++ t) = (encN z).length - 1 := by
  intro z
  induction z using Nat.strongRecOn with
  | ind z ih =>
    intro t f hf
    by_cases h : z < 128
    · rw [encN_lo h] at hf ⊢
      cases f with
      | zero => simp at hf
      | succ f => simp [lead, byte_lo h, h]
    · rw [encN_hi h] at hf ⊢
      cases f with
      | zero => simp at hf
      | succ f =>
        have := ih (z / 128) (by omega) t f (by simpa using hf)
        have hp := encN_pos (z / 128)
        simp only [List.cons_append, lead, byte_hi, List.length_cons]
        rw [if_neg (by omega), this]; omega
theorem encN_prefix_lead : ∀ (z j f : Nat), j < (encN z).length → j < f → lead f ((encN z).take j) = j := by
  intro z
  induction z using Nat.strongRecOn with
  | ind z ih =>
    intro j f hj hf
    by_cases h : z < 128
    · rw [encN_lo h] at hj ⊢
      simp at hj; subst hj; cases f <;> simp [lead]
    · rw [encN_hi h] at hj ⊢
      cases j with
      | zero => cases f <;> simp [lead]
      | succ j =>
        cases f with
        | zero => omega
        | succ f =>
          have := ih (z / 128) (by omega) j f (by simpa using hj) (by omega)
          simp only [List.take_succ_cons, lead, byte_hi]
          rw [if_neg (by omega), this]
theorem encN_last : ∀ (z : Nat) (t : List UInt8), ((encN z ++ t).getD ((encN z).length - 1) 0).toNat = z / 128 ^ ((encN z).length - 1) ∧ (1 < (encN z).length → 0 < z / 128 ^ ((encN z).length - 1)) := by
  intro z
  induction z using Nat.strongRecOn with
  | ind z ih =>
    intro t
    by_cases h : z < 128
    · rw [encN_lo h]; simp [byte_lo h]
    · rw [encN_hi h]
      obtain ⟨h1, h2⟩ := ih (z / 128) (by omega) t
      have hp := encN_pos (z / 128)
      obtain ⟨m, hm⟩ : ∃ m, (encN (z / 128)).length = m + 1 := ⟨(encN (z / 128)).length - 1, by omega⟩
      rw [hm] at h1 h2
      simp only [Nat.add_sub_cancel, List.cons_append, List.length_cons, hm] at h1 h2 ⊢
      rw [Nat.div_div_eq_div_mul] at h1 h2
      refine ⟨?_, fun _ => ?_⟩
      · rw [Nat.pow_succ, Nat.mul_comm]
        simpa using h1
      · rw [Nat.pow_succ, Nat.mul_comm]
        rcases Nat.eq_zero_or_pos m with h0 | h0
        · subst h0; simp; omega
        · exact h2 (by omega)

theorem getI_enc {z : Nat} (h : z < 18446744073709551616) (t : List UInt8) : getI (encN z ++ t) = (unf z, (encN z).length, 0) := by
  have hl := encN_le10 h
  have hp := encN_pos z
  have hk := encN_lead z t 10 hl
  obtain ⟨h1, h2⟩ := encN_last z t
  unfold getI
  rw [hk, if_neg (by omega), if_neg (by simp; omega), if_neg, show (encN z).length - 1 + 1 = (encN z).length by omega, List.take_left, val_encN]
  simp only [bad, Bool.or_eq_true, Bool.and_eq_true, beq_iff_eq, decide_eq_true_eq, h1, not_or, not_and]
  refine ⟨fun h9 => ?_, fun hg => ?_⟩
  · rw [h9]; omega
  · have := h2 (by omega); omega
theorem getI_encI {n : Int} (h1 : -9223372036854775808 ≤ n) (h2 : n ≤ 9223372036854775807) (t : List UInt8) : getI (encI n ++ t) = (n, (encI n).length, 0) := by
  unfold encI; rw [getI_enc (fold_lt h1 h2), unf_fold]
theorem getI_prefix {z j : Nat} (h : z < 18446744073709551616) (hj : j < (encN z).length) : getI ((encN z).take j) = (0, 0, 5) := by
  have hl := encN_le10 h
  have hk := encN_prefix_lead z j 10 hj (by omega)
  unfold getI
  rw [hk, if_neg (by omega), if_pos (by simp; omega)]

theorem lead_le : ∀ (f : Nat) (l : List UInt8), lead f l ≤ f ∧ lead f l ≤ l.length
  | 0, l => by simp [lead]
  | f + 1, [] => by simp [lead]
  | f + 1, c :: r => by
    have := lead_le f r
    simp only [lead]; split <;> simp <;> omega
theorem lead_lt : ∀ (f : Nat) (l : List UInt8), lead f l < f → lead f l < l.length → (l.getD (lead f l) 0).toNat < 128
  | 0, l, h, _ => by omega
  | f + 1, [], _, h => by simp [lead] at h
  | f + 1, c :: r, h1, h2 => by
    simp only [lead] at h1 h2 ⊢
    by_cases hc : c.toNat < 128
    · simp [hc]
    · rw [if_neg hc] at h1 h2 ⊢
      have := lead_lt f r (by omega) (by simpa using h2)
      simpa using this
theorem encN_val : ∀ (f : Nat) (l : List UInt8), lead f l < f → lead f l < l.length → (0 < lead f l → (l.getD (lead f l) 0).toNat ≠ 0) → encN (val (l.take (lead f l + 1))) = l.take (lead f l + 1) ∧ (0 < lead f l → 0 < val (l.take (lead f l + 1)))
  | 0, l, h, _, _ => by omega
  | f + 1, [], _, h, _ => by simp [lead] at h
  | f + 1, c :: r, h1, h2, h3 => by
    simp only [lead] at h1 h2 h3 ⊢
    by_cases hc : c.toNat < 128
    · simp only [if_pos hc, Nat.zero_add, List.take_succ_cons, List.take_zero, val]
      refine ⟨?_, fun h => by omega⟩
      rw [show c.toNat % 128 + 128 * 0 = c.toNat by omega, encN_lo hc]; simp
    · simp only [if_neg hc] at h1 h2 h3 ⊢
      have hr := lead_lt f r (by omega) (by simpa using h2)
      have h3' : (r.getD (lead f r) 0).toNat ≠ 0 := by simpa using h3 (by omega)
      obtain ⟨ih, ih2⟩ := encN_val f r (by omega) (by simpa using h2) (fun _ => h3')
      rw [List.take_succ_cons]
      simp only [val]
      have hv : 0 < val (r.take (lead f r + 1)) := by
        rcases Nat.eq_zero_or_pos (lead f r) with h0 | h0
        · rw [h0] at h3' ⊢
          cases r with
          | nil => simp at h2
          | cons d r =>
            simp only [List.take_succ_cons, List.take_zero, val] at h3' ⊢
            rw [h0] at hr; simp at hr h3'; omega
        · exact ih2 h0
      refine ⟨?_, fun _ => by omega⟩
      have hcb := c.toNat_lt
      rw [encN_hi (by omega)]
      congr 1
      · apply UInt8.toNat_inj.1; rw [byte_hi]; omega
      · exact (congrArg encN (by omega)).trans ih
theorem val_lt : ∀ (l : List UInt8), val l < 128 ^ l.length
  | [] => by simp [val]
  | c :: r => by
    have := val_lt r
    simp only [val, List.length_cons, Nat.pow_succ]; omega
theorem val_append : ∀ (l m : List UInt8), val (l ++ m) = val l + 128 ^ l.length * val m
  | [], m => by simp [val]
  | c :: r, m => by
    simp only [List.cons_append, val, val_append r m, List.length_cons, Nat.pow_succ]
    rw [Nat.mul_add, Nat.add_assoc, ← Nat.mul_assoc, Nat.mul_comm (128 ^ r.length) 128]
theorem val_take (l : List UInt8) (k : Nat) (hk : k < l.length) : val (l.take (k + 1)) = val (l.take k) + 128 ^ k * ((l.getD k 0).toNat % 128) := by
  rw [List.take_succ_eq_append_getElem hk, val_append, List.length_take, Nat.min_eq_left (by omega)]
  simp [val, hk]

/-- What getI says if it succeeds. -/
theorem getI_ok {l : List UInt8} {n : Int} {u : Nat} (h : getI l = (n, u, 0)) : u ≤ l.length ∧ 1 ≤ u ∧ u ≤ 10 ∧ l.take u = encI n ∧ -9223372036854775808 ≤ n ∧ n ≤ 9223372036854775807 := by
  unfold getI at h
  have hle := lead_le 10 l
  by_cases h1 : lead 10 l = 10
  · simp [h1] at h
  rw [if_neg h1] at h
  by_cases h2 : lead 10 l = l.length
  · simp [h2] at h
  rw [if_neg h2] at h
  by_cases h3 : bad (lead 10 l) (l.getD (lead 10 l) 0) = true
  · rw [if_pos h3] at h; simp at h
  rw [if_neg h3] at h
  simp only [bad, Bool.or_eq_true, Bool.and_eq_true, beq_iff_eq, decide_eq_true_eq, not_or, not_and] at h3
  obtain ⟨h4, h5⟩ := h3
  have hlt := lead_lt 10 l (by omega) (by omega)
  obtain ⟨e, _⟩ := encN_val 10 l (by omega) (by omega) h5
  simp only [Prod.mk.injEq] at h
  obtain ⟨rfl, rfl, _⟩ := h
  have hv : val (l.take (lead 10 l + 1)) < 18446744073709551616 := by
    rw [val_take l _ (by omega)]
    have hb := val_lt (l.take (lead 10 l))
    rw [List.length_take, Nat.min_eq_left (by omega)] at hb
    by_cases h9 : lead 10 l = 9
    · have h4' := h4 h9
      rw [h9] at hb h4' ⊢
      have : (l.getD 9 0).toNat % 128 ≤ 1 := by omega
      have : 128 ^ 9 * ((l.getD 9 0).toNat % 128) ≤ 128 ^ 9 * 1 := Nat.mul_le_mul_left _ this
      omega
    · have h8 : lead 10 l ≤ 8 := by omega
      have hm : 128 ^ lead 10 l * ((l.getD (lead 10 l) 0).toNat % 128) ≤ 128 ^ lead 10 l * 127 := Nat.mul_le_mul_left _ (by omega)
      have hp : 128 ^ lead 10 l ≤ 128 ^ 8 := Nat.pow_le_pow_right (by omega) h8
      omega
  have hi := unf_in hv
  refine ⟨by omega, by omega, by omega, ?_, hi.1, hi.2⟩
  unfold encI
  rw [fold_unf, e]
theorem getI_cases (l : List UInt8) : getI l = (0, 0, 6) ∨ getI l = (0, 0, 5) ∨ ∃ n u, getI l = (n, u, 0) := by
  unfold getI
  split
  · exact .inl rfl
  · split
    · exact .inr (.inl rfl)
    · split
      · exact .inl rfl
      · exact .inr (.inr ⟨_, _, rfl⟩)

theorem lead_eq : ∀ (f k : Nat) (l : List UInt8), (∀ j, j < k → 128 ≤ (l.getD j 0).toNat) → k ≤ l.length → k ≤ f → (k = f ∨ k = l.length ∨ (l.getD k 0).toNat < 128) → lead f l = k
  | 0, k, l, _, _, hf, _ => by simp [lead]; omega
  | f + 1, k, [], _, hl, _, _ => by simp at hl; simp [lead, hl]
  | f + 1, 0, c :: r, _, _, _, h => by
    have : c.toNat < 128 := by simpa using h
    simp [lead, this]
  | f + 1, k + 1, c :: r, hj, hl, hf, h => by
    have h0 := hj 0 (by omega)
    have hc : ¬ c.toNat < 128 := by simpa using h0
    simp only [lead, if_neg hc]
    rw [lead_eq f k r (fun j hjk => by simpa using hj (j + 1) (by omega)) (by simpa using hl) (by omega) (by simpa using h)]
theorem getI_far {l : List UInt8} (h : lead 10 l = 10) : getI l = (0, 0, 6) := by unfold getI; rw [if_pos h]
theorem getI_short {l : List UInt8} (h : lead 10 l = l.length) (h2 : l.length < 10) : getI l = (0, 0, 5) := by unfold getI; rw [if_neg (by omega), if_pos h]
theorem getI_bad {l : List UInt8} {k : Nat} (h : lead 10 l = k) (h1 : k < 10) (h2 : k < l.length) (hb : bad k (l.getD k 0) = true) : getI l = (0, 0, 6) := by
  unfold getI; rw [h, if_neg (by omega), if_neg (by omega), if_pos hb]
theorem getI_good {l : List UInt8} {k : Nat} (h : lead 10 l = k) (h1 : k < 10) (h2 : k < l.length) (hb : bad k (l.getD k 0) = false) : getI l = (unf (val (l.take (k + 1))), k + 1, 0) := by
  unfold getI; rw [h, if_neg (by omega), if_neg (by omega), if_neg (by rw [hb]; decide)]
theorem val_take_lt {l : List UInt8} {k : Nat} : val (l.take k) < 128 ^ k := by
  have h := val_lt (l.take k)
  exact Nat.lt_of_lt_of_le h (Nat.pow_le_pow_right (by omega) (by rw [List.length_take]; omega))
theorem val_last_lt {l : List UInt8} {k : Nat} (h1 : k < 10) (h2 : k < l.length) (hc : (l.getD k 0).toNat < 128) (hb : bad k (l.getD k 0) = false) :
    val (l.take (k + 1)) = val (l.take k) + 128 ^ k * (l.getD k 0).toNat ∧ val (l.take (k + 1)) < 18446744073709551616 := by
  have e := val_take l k h2
  rw [Nat.mod_eq_of_lt hc] at e
  refine ⟨e, ?_⟩
  rw [e]
  have hv : val (l.take k) < 128 ^ k := val_take_lt
  by_cases h9 : k = 9
  · subst h9
    have hl : (l.getD 9 0).toNat ≤ 1 := by
      simp only [bad, Bool.or_eq_false_iff, Bool.and_eq_false_iff] at hb
      rcases hb.1 with h | h
      · simp at h
      · simpa using h
    have : 128 ^ 9 * (l.getD 9 0).toNat ≤ 128 ^ 9 * 1 := Nat.mul_le_mul_left _ hl
    omega
  · have hm : 128 ^ k * (l.getD k 0).toNat ≤ 128 ^ k * 127 := Nat.mul_le_mul_left _ (by omega)
    have hp : 128 ^ k ≤ 128 ^ 8 := Nat.pow_le_pow_right (by omega) (by omega)
    omega

end WM
end Go.Proofs.YtnhnfdfjlagcjaaDoor
