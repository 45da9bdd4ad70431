/-
  How many patterns are ever left, and the least head that they match, in plain words. Conditions: right patterns.
-/
import Derived.Test.YtbldnhpbmfmepaaDoorKTd
namespace Go.Proofs.YtbldnhpbmfmepaaDoor
set_option linter.unusedVariables false
set_option linter.unusedSimpArgs false
open Go.RowKit

/-- The bits of U that a pattern leaves free, and the weight of it. -/
def freeIn (U : Nat → Bool) (x : Pat) : Nat → Bool := fun i => U i && !x.m i
def pot (U : Nat → Bool) (x : Pat) : Nat := 2 ^ cnt (freeIn U x) 0 160
def potL (U : Nat → Bool) : List Pat → Nat
  | [] => 0
  | x :: D => pot U x + potL U D
theorem potL_append (U : Nat → Bool) : ∀ a b : List Pat, potL U (a ++ b) = potL U a + potL U b
  | [], b => (Nat.zero_add _).symm
  | x :: a, b => by
    show pot U x + potL U (a ++ b) = pot U x + potL U a + potL U b
    rw [potL_append U a b]; omega
theorem pot_pos (U : Nat → Bool) (x : Pat) : 1 ≤ pot U x := Nat.one_le_two_pow
theorem potL_length (U : Nat → Bool) : ∀ D : List Pat, D.length ≤ potL U D
  | [] => Nat.le_refl _
  | x :: D => by
    show D.length + 1 ≤ pot U x + potL U D
    have := pot_pos U x
    have := potL_length U D
    omega
theorem pot_mono {U : Nat → Bool} {x y : Pat} (h : ∀ i, i < 160 → x.m i = true → y.m i = true) : pot U y ≤ pot U x := Nat.pow_le_pow_right (by decide) (cnt_mono fun j hj hf => by
  unfold freeIn at hf ⊢
  rw [Nat.zero_add] at hf ⊢
  rw [Bool.and_eq_true] at hf ⊢
  refine ⟨hf.1, ?_⟩
  cases hx : x.m j
  · rfl
  · rw [h j hj hx] at hf
    exact absurd hf.2 (by decide))
theorem pot_half {U : Nat → Bool} {x y : Pat} {s : Nat} (hs : s < 160) (h : ∀ i, i < 160 → x.m i = true → y.m i = true) (hU : U s = true) (hx : x.m s = false) (hy : y.m s = true) : 2 * pot U y ≤ pot U x := by
  have hlt : cnt (freeIn U y) 0 160 < cnt (freeIn U x) 0 160 := cnt_lt (s := s) (fun j hj hf => by
    unfold freeIn at hf ⊢
    rw [Nat.zero_add] at hf ⊢
    rw [Bool.and_eq_true] at hf ⊢
    refine ⟨hf.1, ?_⟩
    cases hx : x.m j
    · rfl
    · rw [h j hj hx] at hf
      exact absurd hf.2 (by decide)) hs (by unfold freeIn; rw [Nat.zero_add, hy, Bool.not_true, Bool.and_false]) (by unfold freeIn; rw [Nat.zero_add, hU, hx]; rfl)
  unfold pot
  rw [show 2 * 2 ^ cnt (freeIn U y) 0 160 = 2 ^ (cnt (freeIn U y) 0 160 + 1) from by rw [Nat.pow_succ, Nat.mul_comm]]
  exact Nat.pow_le_pow_right (by decide) hlt
theorem pieces_pot {U : Nat → Bool} {p q : Pat} (hq : ∀ i, i < 160 → q.m i = true → U i = true) : ∀ k, k ≤ 160 → potL U ((onesTo (p.only q) k).map (p.piece q)) + pot U (p.rest q k) ≤ pot U p
  | 0, _ => by
    show 0 + _ ≤ _
    rw [Nat.zero_add]
    exact pot_mono fun i _ h => by simp [Pat.rest, h]
  | k + 1, hk => by
    have ih := pieces_pot (U := U) (p := p) (q := q) hq k (by omega)
    have hle : ∀ i, i < 160 → (p.rest q k).m i = true → (p.rest q (k + 1)).m i = true := fun i _ h => by
      have h : (p.m i || (decide (i < k) && q.m i)) = true := h
      show (p.m i || (decide (i < k + 1) && q.m i)) = true
      rw [Bool.or_eq_true, Bool.and_eq_true, decide_eq_true_eq] at h ⊢
      rcases h with h | h
      · exact .inl h
      · exact .inr ⟨by omega, h.2⟩
    rw [onesTo_succ]
    cases ho : p.only q k
    · rw [if_neg (by decide), List.append_nil]
      have := pot_mono (U := U) hle
      omega
    · rw [if_pos rfl, List.map_append, potL_append]
      have hb : q.m k = true ∧ p.m k = false := by
        have h : (q.m k && !p.m k) = true := ho
        rw [Bool.and_eq_true, Bool.not_eq_true'] at h
        exact h
      have h1 : 2 * pot U (p.rest q (k + 1)) ≤ pot U (p.rest q k) := pot_half (s := k) (by omega) hle (hq k (by omega) hb.1) (by rw [Pat.rest_m]; exact hb.2) (by
        show (p.m k || (decide (k < k + 1) && q.m k)) = true
        simp [hb.1])
      have h2 : 2 * pot U (p.piece q k) ≤ pot U (p.rest q k) := pot_half (s := k) (by omega) (fun i _ h => by
        show upd (p.rest q k).m k true i = true
        unfold upd
        split
        · rfl
        · exact h) (hq k (by omega) hb.1) (by rw [Pat.rest_m]; exact hb.2) (by
        show upd (p.rest q k).m k true k = true
        simp [upd])
      show potL U _ + (pot U (p.piece q k) + 0) + _ ≤ _
      omega
theorem minus_pot {U : Nat → Bool} {p q : Pat} (hq : ∀ i, i < 160 → q.m i = true → U i = true) : potL U (p.minus q) ≤ pot U p := by
  unfold Pat.minus
  by_cases ho : p.over q
  · rw [if_pos ho]
    have := pieces_pot (U := U) (p := p) (q := q) hq 160 (Nat.le_refl _)
    unfold Pat.pieces
    omega
  · rw [if_neg ho]
    exact Nat.le_refl _
theorem flat_pot {U : Nat → Bool} {q : Pat} (hq : ∀ i, i < 160 → q.m i = true → U i = true) : ∀ D : List Pat, potL U (D.flatMap fun x => x.minus q) ≤ potL U D
  | [] => Nat.le_refl _
  | x :: D => by
    rw [List.flatMap_cons, potL_append]
    have := minus_pot (U := U) (p := x) hq
    have := flat_pot hq D
    show _ ≤ pot U x + potL U D
    omega
theorem left_pot {U : Nat → Bool} {p : Pat} {l : List Pat} (hl : ∀ q, q ∈ l → ∀ i, i < 160 → q.m i = true → U i = true) : ∀ k, potL U (leftTo p l k) ≤ pot U p
  | 0 => Nat.le_refl _
  | k + 1 => by
    cases hq : l[k]? with
    | none =>
      have : leftTo p l (k + 1) = leftTo p l k := by
        unfold leftTo
        have := List.getElem?_eq_none_iff.1 hq
        rw [List.take_of_length_le (by omega), List.take_of_length_le this]
      rw [this]
      exact left_pot hl k
    | some q =>
      rw [leftTo_succ hq]
      exact Nat.le_trans (flat_pot (hl q (List.mem_of_getElem? hq)) _) (left_pot hl k)
/-- No more than 4096 are ever left where the patterns fix at most 12 bits. -/
theorem left_4096 {U : Nat → Bool} {p : Pat} {l : List Pat} (hl : ∀ q, q ∈ l → ∀ i, i < 160 → q.m i = true → U i = true) (hU : cnt U 0 160 ≤ 12) (k : Nat) : (leftTo p l k).length ≤ 4096 := by
  have h1 := potL_length U (leftTo p l k)
  have h2 := left_pot (p := p) hl k
  have h3 : pot U p ≤ 2 ^ 12 := Nat.pow_le_pow_right (by decide) (Nat.le_trans (cnt_mono fun j _ hf => by
    unfold freeIn at hf
    rw [Bool.and_eq_true] at hf
    exact hf.1) hU)
  omega
theorem left_some {p : Pat} {l : List Pat} {g : Nat → Bool} : (∃ x, x ∈ leftTo p l l.length ∧ x.hit g) ↔ p.hit g ∧ ¬ Pat.inSome l g := by
  have hc := count_left p g l l.length (Nat.le_refl _)
  rw [List.take_length] at hc
  constructor
  · rintro ⟨x, hx, hg⟩
    refine Classical.byContradiction fun hn => ?_
    have := List.countP_eq_zero.1 (hc.2 hn) x hx
    exact this (by simpa using hg)
  · intro h
    refine Classical.byContradiction fun hn => ?_
    have h0 : ((leftTo p l l.length).countP fun x => decide (x.hit g)) = 0 := List.countP_eq_zero.2 fun x hx hd => hn ⟨x, hx, by simpa using hd⟩
    rw [hc.1 h] at h0
    cases h0
theorem hit_self (x : Pat) : x.hit x.b := fun _ _ _ => rfl
theorem found_left {p x : Pat} {l : List Pat} (hok : ∀ y, y ∈ leftTo p l l.length → y.ok) (hx : x ∈ leftTo p l l.length) (hm : ∀ y, y ∈ leftTo p l l.length → num x.b ≤ num y.b) : Pat.found l p none (some x.b) := by
  obtain ⟨h1, h2⟩ := left_some.1 ⟨x, hx, hit_self x⟩
  refine .inl ⟨x.b, ⟨h1, h2, fun g hg ho => ?_⟩, trivial, rfl⟩
  obtain ⟨y, hy, hyg⟩ := left_some.2 ⟨hg, ho⟩
  exact Nat.le_trans (hm y hy) (least_bits (hok y hy) hyg)
theorem found_nil {p : Pat} {l : List Pat} (h : leftTo p l l.length = []) : Pat.found l p none none := by
  refine .inr ⟨fun g hg ho _ => ?_, rfl⟩
  obtain ⟨y, hy, _⟩ := left_some.2 ⟨hg, ho⟩
  rw [h] at hy
  cases hy
end Go.Proofs.YtbldnhpbmfmepaaDoor
