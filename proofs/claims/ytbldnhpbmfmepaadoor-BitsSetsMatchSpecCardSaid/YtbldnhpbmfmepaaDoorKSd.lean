/-
  The parts of a sum in plain words: elements that nothing is left of take nothing away. Conditions: right patterns.
-/
import Derived.Test.YtbldnhpbmfmepaaDoorKSb
import Derived.Test.YtbldnhpbmfmepaaDoorGY
namespace Go.Proofs.YtbldnhpbmfmepaaDoor
set_option linter.unusedVariables false
set_option linter.unusedSimpArgs false
open Go.RowKit

theorem over_hit {x q : Pat} (hx : x.ok) (hq : q.ok) (h : x.over q) : ∃ g, x.hit g ∧ q.hit g := by
  refine ⟨(x.andV q).b, (Pat.and_hit hx hq _).1 ⟨h, fun i _ _ => rfl⟩⟩
theorem mem_count {D : List Pat} {x : Pat} {h : Nat → Bool} (hx : x ∈ D) (hh : x.hit h) : (D.countP fun y => decide (y.hit h)) ≠ 0 := fun hc => by
  rw [List.countP_eq_zero] at hc
  exact hc x hx (by simpa using hh)
/-- What is left of p lies outside of the whole list. -/
theorem left_out {p x : Pat} {l : List Pat} {h : Nat → Bool} (hx : x ∈ leftTo p l l.length) (hh : x.hit h) : p.hit h ∧ ¬ Pat.inSome l h := Classical.byContradiction fun hn => by
  have hc := (count_left p h l l.length (Nat.le_refl _)).2 (by rw [List.take_length]; exact hn)
  exact mem_count hx hh hc
theorem left_none {q : Pat} {l : List Pat} {h : Nat → Bool} (he : leftTo q l l.length = []) (hq : q.hit h) : Pat.inSome l h := Classical.byContradiction fun hn => by
  have hc := (count_left q h l l.length (Nat.le_refl _)).1 (by rw [List.take_length]; exact ⟨hq, hn⟩)
  rw [he] at hc
  cases hc
/-- An element that nothing is left of takes nothing from what is left of another. -/
theorem left_apart {p q : Pat} {l : List Pat} (hp : p.ok) (hq : q.ok) (hok : ∀ x, x ∈ l → x.ok) (he : leftTo q l l.length = []) : ∀ x, x ∈ leftTo p l l.length → ¬ x.over q := fun x hx ho => by
  obtain ⟨g, h1, h2⟩ := over_hit (within_left hp hok _ x hx).1 hq ho
  exact (left_out hx h1).2 (left_none he h2)
theorem leftTo_take {p : Pat} {a b : List Pat} {k : Nat} (hk : k ≤ a.length) : leftTo p (a ++ b) k = leftTo p a k := by
  unfold leftTo
  rw [List.take_append_of_le_length hk]
theorem leftTo_snoc (p : Pat) (a : List Pat) (q : Pat) : leftTo p (a ++ [q]) (a ++ [q]).length = (leftTo p a a.length).flatMap fun x => x.minus q := by
  rw [List.length_append, List.length_singleton, leftTo_succ (q := q) (by rw [List.getElem?_append_right (Nat.le_refl _), Nat.sub_self]; rfl), leftTo_take (Nat.le_refl _)]
theorem allFit_snoc {p q : Pat} {a : List Pat} {most : Int} : allFit p (a ++ [q]) most ↔ allFit p a most ∧ (((leftTo p a a.length).flatMap fun x => x.minus q).length : Int) ≤ most := by
  constructor
  · intro h
    refine ⟨fun k hk => ?_, ?_⟩
    · have := h k (by rw [List.length_append]; omega)
      rwa [leftTo_take hk] at this
    · have := h (a ++ [q]).length (Nat.le_refl _)
      rwa [leftTo_snoc] at this
  · rintro ⟨h1, h2⟩ k hk
    by_cases e : k = (a ++ [q]).length
    · rw [e, leftTo_snoc]; exact h2
    · have hk2 : k ≤ a.length := by
        rw [List.length_append, List.length_singleton] at hk e; omega
      rw [leftTo_take hk2]
      exact h1 k hk2
/-- A list of parts stands for the whole list. -/
structure Cov (Q L : List Pat) : Prop where
  left : ∀ p : Pat, p.ok → leftTo p Q Q.length = leftTo p L L.length
  fit : ∀ (p : Pat) (most : Int), p.ok → (allFit p Q most ↔ allFit p L most)
theorem Cov.nil : Cov [] [] := ⟨fun _ _ => rfl, fun _ _ _ => Iff.rfl⟩
theorem Cov.skip {Q L : List Pat} {q : Pat} (h : Cov Q L) (hq : q.ok) (hL : ∀ x, x ∈ L → x.ok) (he : leftTo q L L.length = []) : Cov Q (L ++ [q]) := by
  have key : ∀ p : Pat, p.ok → ((leftTo p L L.length).flatMap fun x => x.minus q) = leftTo p L L.length := fun p hp => flatMap_id (left_apart hp hq hL he)
  refine ⟨fun p hp => ?_, fun p most hp => ?_⟩
  · rw [leftTo_snoc, key p hp]; exact h.left p hp
  · rw [allFit_snoc, key p hp, h.fit p most hp]
    exact ⟨fun hf => ⟨hf, hf _ (Nat.le_refl _)⟩, fun hf => hf.1⟩
theorem Cov.next {Q L : List Pat} {q : Pat} (h : Cov Q L) : Cov (Q ++ [q]) (L ++ [q]) := by
  refine ⟨fun p hp => ?_, fun p most hp => ?_⟩
  · rw [leftTo_snoc, leftTo_snoc, h.left p hp]
  · rw [allFit_snoc, allFit_snoc, h.fit p most hp, h.left p hp]
/-- The sum of the first k elements. -/
def sumTo (l : List Pat) : Nat → List Pat
  | 0 => []
  | k + 1 => sumTo l k ++ match l[k]? with
    | none => []
    | some q => leftTo q (l.take k) (l.take k).length
theorem sumTo_succ {l : List Pat} {k : Nat} {q : Pat} (h : l[k]? = some q) : sumTo l (k + 1) = sumTo l k ++ leftTo q (l.take k) (l.take k).length := by
  show sumTo l k ++ (match l[k]? with | none => [] | some q => leftTo q (l.take k) (l.take k).length) = _
  rw [h]
/-- There is room for what is left of element k. -/
def fitS (l : List Pat) (k : Nat) : Prop := ∀ q, l[k]? = some q → allFit q (l.take k) (4000 - ((sumTo l k).length : Int))
theorem sum_le {l : List Pat} : ∀ k, (∀ j, j < k → fitS l j) → ((sumTo l k).length : Int) ≤ 4000
  | 0, _ => by show (0 : Int) ≤ 4000; omega
  | k + 1, h => by
    have ih := sum_le k fun j hj => h j (by omega)
    cases hq : l[k]? with
    | none =>
      have e : sumTo l (k + 1) = sumTo l k := by
        show sumTo l k ++ (match l[k]? with | none => [] | some q => leftTo q (l.take k) (l.take k).length) = _
        rw [hq, List.append_nil]
      rw [e]; exact ih
    | some q =>
      have h1 := h k (by omega) q hq (l.take k).length (Nat.le_refl _)
      rw [sumTo_succ hq, List.length_append]
      omega
/-- The sum matches a head once if some element does, else not at all. -/
theorem count_sum (l : List Pat) (h : Nat → Bool) : ∀ k, k ≤ l.length → (Pat.inSome (l.take k) h → ((sumTo l k).countP fun x => decide (x.hit h)) = 1) ∧ (¬ Pat.inSome (l.take k) h → ((sumTo l k).countP fun x => decide (x.hit h)) = 0)
  | 0, _ => ⟨(fun ⟨q, hq, _⟩ => by cases hq), fun _ => rfl⟩
  | k + 1, hk => by
    obtain ⟨q, hq⟩ : ∃ q, l[k]? = some q := ⟨_, List.getElem?_eq_getElem (by omega)⟩
    have e : l.take (k + 1) = l.take k ++ [q] := by
      rw [List.take_succ_eq_append_getElem (by omega), (List.getElem?_eq_some_iff.1 hq).2]
    obtain ⟨i1, i2⟩ := count_sum l h k (by omega)
    obtain ⟨j1, j2⟩ := count_left q h (l.take k) (l.take k).length (Nat.le_refl _)
    rw [List.take_length] at j1 j2
    rw [sumTo_succ hq, List.countP_append, e]
    by_cases hin : Pat.inSome (l.take k) h
    · rw [i1 hin, j2 fun hc => hc.2 hin]
      exact ⟨fun _ => rfl, fun hc => absurd (inSome_snoc.2 (.inl hin)) hc⟩
    · rw [i2 hin]
      by_cases hqh : q.hit h
      · rw [j1 ⟨hqh, hin⟩]
        exact ⟨fun _ => rfl, fun hc => absurd (inSome_snoc.2 (.inr hqh)) hc⟩
      · rw [j2 fun hc => hqh hc.1]
        exact ⟨fun hc => ((inSome_snoc.1 hc).elim hin hqh).elim, fun _ => rfl⟩
end Go.Proofs.YtbldnhpbmfmepaaDoor
