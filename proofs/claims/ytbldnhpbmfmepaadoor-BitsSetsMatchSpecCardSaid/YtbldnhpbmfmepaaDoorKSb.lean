/-
  What is left of a pattern when one element of a list after the other is taken away, in plain words. Conditions: right patterns.
-/
import Derived.Test.YtbldnhpbmfmepaaDoorKSa
import Derived.Test.YtbldnhpbmfmepaaDoorGP
namespace Go.Proofs.YtbldnhpbmfmepaaDoor
set_option linter.unusedVariables false
set_option linter.unusedSimpArgs false
open Go.RowKit

/-- What is left of p behind the first k elements. -/
def leftTo (p : Pat) (l : List Pat) (k : Nat) : List Pat := (l.take k).foldl (fun acc q => acc.flatMap fun x => x.minus q) [p]
theorem leftTo_zero (p : Pat) (l : List Pat) : leftTo p l 0 = [p] := rfl
theorem leftTo_succ {p : Pat} {l : List Pat} {k : Nat} {q : Pat} (h : l[k]? = some q) : leftTo p l (k + 1) = (leftTo p l k).flatMap fun x => x.minus q := by
  obtain ⟨hk, e⟩ := List.getElem?_eq_some_iff.1 h
  unfold leftTo
  rw [List.take_succ_eq_append_getElem hk, List.foldl_append, e]
  rfl
/-- A part of p. -/
def within (p x : Pat) : Prop := x.ok ∧ ∀ i, i < 160 → p.m i = true → x.m i = true ∧ x.b i = p.b i
theorem within_self {p : Pat} (hp : p.ok) : within p p := ⟨hp, fun _ _ h => ⟨h, rfl⟩⟩
theorem within_minus {p x q y : Pat} (hx : within p x) (hq : q.ok) (hy : y ∈ x.minus q) : within p y := by
  unfold Pat.minus at hy
  by_cases ho : x.over q
  · rw [if_pos ho] at hy
    unfold Pat.pieces at hy
    obtain ⟨s, hs, rfl⟩ := List.mem_map.1 hy
    unfold onesTo at hs
    have ho2 : x.only q s = true := (List.mem_filter.1 hs).2
    refine ⟨Pat.piece_ok hx.1 hq, fun i hi hm => ?_⟩
    obtain ⟨h1, h2⟩ := hx.2 i hi hm
    obtain ⟨h3, h4⟩ := Pat.piece_sub ho2 h1
    exact ⟨h3, h4.trans h2⟩
  · rw [if_neg ho, List.mem_singleton] at hy
    rw [hy]; exact hx
theorem within_left {p : Pat} {l : List Pat} (hp : p.ok) (hok : ∀ q, q ∈ l → q.ok) : ∀ k, ∀ x, x ∈ leftTo p l k → within p x
  | 0, x, hx => by
    rw [leftTo_zero, List.mem_singleton] at hx
    rw [hx]; exact within_self hp
  | k + 1, x, hx => by
    cases hq : l[k]? with
    | none =>
      have : leftTo p l (k + 1) = leftTo p l k := by
        unfold leftTo
        have := List.getElem?_eq_none_iff.1 hq
        rw [List.take_of_length_le (by omega), List.take_of_length_le this]
      rw [this] at hx
      exact within_left hp hok k x hx
    | some q =>
      rw [leftTo_succ hq] at hx
      obtain ⟨y, hy, hx⟩ := List.mem_flatMap.1 hx
      exact within_minus (within_left hp hok k y hy) (hok q (List.mem_of_getElem? hq)) hx
theorem over_within {p x q : Pat} (h : within p x) (ho : x.over q) : p.over q := Pat.over_iff.2 fun i hi h1 h2 => by
  obtain ⟨h3, h4⟩ := h.2 i hi h2
  rw [← h4]
  exact Pat.over_iff.1 ho i hi h1 h3
theorem flatMap_id {D : List Pat} {q : Pat} (h : ∀ x, x ∈ D → ¬ x.over q) : (D.flatMap fun x => x.minus q) = D := by
  induction D with
  | nil => rfl
  | cons x D ih =>
    rw [List.flatMap_cons, ih (fun y hy => h y (List.mem_cons_of_mem _ hy)), show x.minus q = [x] from if_neg (h x (List.mem_cons_self ..))]
    rfl
/-- An element that p does not overlap takes nothing away. -/
theorem leftTo_skip {p : Pat} {l : List Pat} {k : Nat} {q : Pat} (hp : p.ok) (hok : ∀ q, q ∈ l → q.ok) (h : l[k]? = some q) (ho : ¬ p.over q) : leftTo p l (k + 1) = leftTo p l k := by
  rw [leftTo_succ h]
  exact flatMap_id fun x hx hc => ho (over_within (within_left hp hok k x hx) hc)
theorem pieces_len160 (p q : Pat) : (p.pieces q).length ≤ 160 := by
  unfold Pat.pieces onesTo
  rw [List.length_map]
  exact Nat.le_trans (List.length_filter_le _ _) (by rw [List.length_range]; exact Nat.le_refl _)
theorem minus_length (p q : Pat) : (p.minus q).length ≤ 160 := by
  unfold Pat.minus
  by_cases ho : p.over q
  · rw [if_pos ho]; exact pieces_len160 p q
  · rw [if_neg ho]; show 1 ≤ 160; omega
/-- The first i of them, taken away from. -/
def nextTo (D : List Pat) (q : Pat) (i : Nat) : List Pat := (D.take i).flatMap fun x => x.minus q
theorem nextTo_succ {D : List Pat} {q : Pat} {i : Nat} {x : Pat} (h : D[i]? = some x) : nextTo D q (i + 1) = nextTo D q i ++ x.minus q := by
  obtain ⟨hi, e⟩ := List.getElem?_eq_some_iff.1 h
  unfold nextTo
  rw [List.take_succ_eq_append_getElem hi, List.flatMap_append, e, List.flatMap_cons, List.flatMap_nil, List.append_nil]
theorem nextTo_all (D : List Pat) (q : Pat) : nextTo D q D.length = D.flatMap fun x => x.minus q := by unfold nextTo; rw [List.take_length]
theorem nextTo_le (D : List Pat) (q : Pat) (i : Nat) : (nextTo D q i).length ≤ (D.flatMap fun x => x.minus q).length := by
  have e : (D.flatMap fun x => x.minus q) = nextTo D q i ++ (D.drop i).flatMap fun x => x.minus q := by
    unfold nextTo
    rw [← List.flatMap_append, List.take_append_drop]
  rw [e, List.length_append]; omega
/-- There are never more than so many. -/
def allFit (p : Pat) (l : List Pat) (most : Int) : Prop := ∀ k, k ≤ l.length → ((leftTo p l k).length : Int) ≤ most
/-- How often a head lies in what is left. -/
theorem count_flat (q : Pat) (h : Nat → Bool) : ∀ D : List Pat, ((D.flatMap fun x => x.minus q).countP fun x => decide (x.hit h)) = if q.hit h then 0 else D.countP fun x => decide (x.hit h)
  | [] => by simp
  | x :: D => by
    rw [List.flatMap_cons, List.countP_append, Pat.count_minus, count_flat q h D]
    by_cases hq : q.hit h
    · rw [if_pos hq, if_neg fun hc => hc.2 hq, if_pos hq]
    · rw [if_neg hq, if_neg hq]
      by_cases hx : x.hit h
      · rw [if_pos ⟨hx, hq⟩, List.countP_cons_of_pos (by simpa using hx)]; omega
      · rw [if_neg fun hc => hx hc.1, List.countP_cons_of_neg (by simpa using hx)]; omega
theorem count_left (p : Pat) (h : Nat → Bool) : ∀ (l : List Pat) (k : Nat), k ≤ l.length → (p.hit h ∧ ¬ Pat.inSome (l.take k) h → ((leftTo p l k).countP fun x => decide (x.hit h)) = 1) ∧ (¬ (p.hit h ∧ ¬ Pat.inSome (l.take k) h) → ((leftTo p l k).countP fun x => decide (x.hit h)) = 0)
  | l, 0, _ => by
    rw [leftTo_zero]
    by_cases hp : p.hit h
    · rw [List.countP_cons_of_pos (by simpa using hp)]
      exact ⟨fun _ => rfl, fun hc => absurd ⟨hp, fun ⟨q, hq, _⟩ => by cases hq⟩ hc⟩
    · rw [List.countP_cons_of_neg (by simpa using hp)]
      exact ⟨fun hc => absurd hc.1 hp, fun _ => rfl⟩
  | l, k + 1, hk => by
    obtain ⟨q, hq⟩ : ∃ q, l[k]? = some q := ⟨_, List.getElem?_eq_getElem (by omega)⟩
    have e : l.take (k + 1) = l.take k ++ [q] := by
      rw [List.take_succ_eq_append_getElem (by omega), (List.getElem?_eq_some_iff.1 hq).2]
    obtain ⟨i1, i2⟩ := count_left p h l k (by omega)
    rw [leftTo_succ hq, count_flat, e]
    by_cases hqh : q.hit h
    · rw [if_pos hqh]
      exact ⟨fun hc => absurd (inSome_snoc.2 (.inr hqh)) hc.2, fun _ => rfl⟩
    · rw [if_neg hqh]
      by_cases hc : p.hit h ∧ ¬ Pat.inSome (l.take k) h
      · exact ⟨fun _ => i1 hc, fun hd => absurd ⟨hc.1, fun he => (inSome_snoc.1 he).elim hc.2 hqh⟩ hd⟩
      · exact ⟨fun hd => absurd ⟨hd.1, fun he => hd.2 (inSome_snoc.2 (.inl he))⟩ hc, fun _ => i2 hc⟩
end Go.Proofs.YtbldnhpbmfmepaaDoor
