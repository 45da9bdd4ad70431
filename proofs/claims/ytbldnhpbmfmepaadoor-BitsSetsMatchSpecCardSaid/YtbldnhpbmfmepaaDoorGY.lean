/-
  Contracts of the functions that the statement calls, part 25 of 26 (merged texts: Pa). Conditions: as the head of each part says.
-/
import Derived.Test.YtbldnhpbmfmepaaDoorGK

/-
  What mods and intersections do to heads, in plain words. Conditions: right patterns and mods.
-/
namespace Go.Proofs.YtbldnhpbmfmepaaDoor
set_option linter.unusedVariables false
set_option linter.unusedSimpArgs false
open Go.RowKit

namespace Pat
theorem then_app (p q : Pat) (h : Nat → Bool) : HI ((p.then q).app h) = HI (q.app (p.app h)) := HI_congr fun i _ => by
  show ((h i && !(p.m i || q.m i)) || ((p.b i && !q.m i) || q.b i)) = ((((h i && !p.m i) || p.b i) && !q.m i) || q.b i)
  cases h i <;> cases p.m i <;> cases p.b i <;> cases q.m i <;> cases q.b i <;> rfl
theorem back_hit {p q : Pat} (hq : q.ok) (h : Nat → Bool) : p.hit (q.app h) ↔ p.over q ∧ (p.back q).hit h := by
  rw [over_iff]
  constructor
  · intro hh
    refine ⟨fun i hi h1 h2 => ?_, fun i hi hm => ?_⟩
    · have e := hh i hi h2
      rw [e]
      show ((h i && !q.m i) || q.b i) = q.b i
      rw [h1]; simp
    · have hm' : (p.m i && !q.m i) = true := hm
      rw [Bool.and_eq_true] at hm'
      have e := hh i hi hm'.1
      have hqm : q.m i = false := by simpa using hm'.2
      have hqb : q.b i = false := by
        cases hb : q.b i
        · rfl
        · rw [hq i hi hb] at hqm; cases hqm
      show (p.b i && !q.m i) = h i
      rw [e]
      show (((h i && !q.m i) || q.b i) && !q.m i) = h i
      rw [hqm, hqb]; simp
  · rintro ⟨h1, h2⟩ i hi hm
    show p.b i = ((h i && !q.m i) || q.b i)
    cases hqm : q.m i
    · have e := h2 i hi (by show (p.m i && !q.m i) = true; rw [hm, hqm]; rfl)
      have e' : (p.b i && !q.m i) = h i := e
      have hqb : q.b i = false := by
        cases hb : q.b i
        · rfl
        · rw [hq i hi hb] at hqm; cases hqm
      rw [← e', hqm, hqb]; simp
    · rw [h1 i hi hqm hm]; simp
theorem image_hit {p q : Pat} {h : Nat → Bool} (hh : p.hit h) : (p.image q).hit (q.app h) := fun i hi hm => by
  have hm' : (p.m i || q.m i) = true := hm
  show ((p.b i && !q.m i) || q.b i) = ((h i && !q.m i) || q.b i)
  cases hqm : q.m i
  · rw [hqm, Bool.or_false] at hm'
    rw [hh i hi hm']
  · simp
theorem image_from {p q : Pat} (hp : p.ok) (hq : q.ok) {h : Nat → Bool} (hh : (p.image q).hit h) : p.hit (p.app h) ∧ HI (q.app (p.app h)) = HI h := by
  refine ⟨fun i hi hm => ?_, HI_congr fun i hi => ?_⟩
  · show p.b i = ((h i && !p.m i) || p.b i)
    rw [hm]; simp
  · have h1 := hp i hi
    have h2 := hq i hi
    have h3 : (p.m i || q.m i) = true → ((p.b i && !q.m i) || q.b i) = h i := hh i hi
    show ((((h i && !p.m i) || p.b i) && !q.m i) || q.b i) = h i
    revert h1 h2 h3
    cases h i <;> cases p.m i <;> cases p.b i <;> cases q.m i <;> cases q.b i <;> simp
theorem alike_raw {p q : Pat} (h : p.alike q) : p.cells = q.cells := cells_congr h
theorem andV_symm (p q : Pat) : (p.andV q).alike (q.andV p) := by
  unfold andV
  by_cases h : p.over q
  · rw [if_pos h, if_pos (over_iff.2 fun i hi h1 h2 => (over_iff.1 h i hi h2 h1).symm)]
    exact ⟨fun i _ => Bool.or_comm _ _, fun i _ => Bool.or_comm _ _⟩
  · rw [if_neg h, if_neg fun hc => h (over_iff.2 fun i hi h1 h2 => (over_iff.1 hc i hi h2 h1).symm)]
    exact ⟨fun _ _ => rfl, fun _ _ => rfl⟩
theorem over_comm {p q : Pat} : p.over q ↔ q.over p :=
  ⟨fun h => over_iff.2 fun i hi h1 h2 => (over_iff.1 h i hi h2 h1).symm, fun h => over_iff.2 fun i hi h1 h2 => (over_iff.1 h i hi h2 h1).symm⟩
/-- A head lies in both exactly if they overlap and it lies in what both have. -/
theorem and_hit {p q : Pat} (hp : p.ok) (hq : q.ok) (h : Nat → Bool) : (p.over q ∧ (p.andV q).hit h) ↔ (p.hit h ∧ q.hit h) := by
  constructor
  · rintro ⟨ho, hh⟩
    unfold andV at hh
    rw [if_pos ho] at hh
    have key := fun i hi => over_iff.1 ho i hi
    refine ⟨fun i hi hm => ?_, fun i hi hm => ?_⟩
    · have e : (p.b i || q.b i) = h i := hh i hi (by show (p.m i || q.m i) = true; rw [hm]; rfl)
      have h2 := hq i hi
      have h3 := fun h => key i hi h hm
      revert e h2 h3
      cases h i <;> cases p.b i <;> cases q.m i <;> cases q.b i <;> simp
    · have e : (p.b i || q.b i) = h i := hh i hi (by show (p.m i || q.m i) = true; rw [hm]; simp)
      have h2 := hp i hi
      have h3 := key i hi hm
      revert e h2 h3
      cases h i <;> cases p.m i <;> cases p.b i <;> cases q.b i <;> simp
  · rintro ⟨h1, h2⟩
    have ho : p.over q := over_iff.2 fun i hi h3 h4 => (h1 i hi h4).trans (h2 i hi h3).symm
    refine ⟨ho, ?_⟩
    unfold andV
    rw [if_pos ho]
    intro i hi hm
    have hm' : (p.m i || q.m i) = true := hm
    have h3 := h1 i hi
    have h4 := h2 i hi
    have h5 := hp i hi
    have h6 := hq i hi
    show (p.b i || q.b i) = h i
    revert hm' h3 h4 h5 h6
    cases h i <;> cases p.m i <;> cases p.b i <;> cases q.m i <;> cases q.b i <;> simp
theorem andV_ok {p q : Pat} (hp : p.ok) (hq : q.ok) : (p.andV q).ok := by
  unfold andV
  by_cases h : p.over q
  · rw [if_pos h]
    intro i hi hb
    have hb' : (p.b i || q.b i) = true := hb
    show (p.m i || q.m i) = true
    rw [Bool.or_eq_true] at hb' ⊢
    exact hb'.imp (hp i hi) (hq i hi)
  · rw [if_neg h]
    intro i hi hb
    cases hb
/-- How the intersection is nested makes no difference. -/
theorem and_assoc {p q r : Pat} (hp : p.ok) (hq : q.ok) (hr : r.ok) (h1 : p.over q) (h2 : q.over r) : decide ((p.andV q).over r) = decide (p.over (q.andV r)) ∧ ((p.andV q).andV r).alike (p.andV (q.andV r)) := by
  have e1 : p.andV q = p.and q := if_pos h1
  have e2 : q.andV r = q.and r := if_pos h2
  rw [e1, e2]
  have key : (p.and q).over r ↔ p.over (q.and r) := by
    rw [over_iff, over_iff]
    rw [over_iff] at h1 h2
    constructor
    · intro h i hi hm hpm
      have hm' : (q.m i || r.m i) = true := hm
      have a1 := h i hi
      have a2 := h1 i hi
      have a3 := h2 i hi
      have a4 := hq i hi
      have a5 := hr i hi
      have a6 := hp i hi
      have a1' : r.m i = true → (p.m i || q.m i) = true → (p.b i || q.b i) = r.b i := a1
      show p.b i = (q.b i || r.b i)
      revert hm' hpm a1' a2 a3 a4 a5 a6
      cases p.m i <;> cases p.b i <;> cases q.m i <;> cases q.b i <;> cases r.m i <;> cases r.b i <;> simp
    · intro h i hi hm hpq
      have hm' : (p.m i || q.m i) = true := hpq
      have a1 := h i hi
      have a2 := h1 i hi
      have a3 := h2 i hi
      have a4 := hq i hi
      have a5 := hr i hi
      have a6 := hp i hi
      have a1' : (q.m i || r.m i) = true → p.m i = true → p.b i = (q.b i || r.b i) := a1
      show (p.b i || q.b i) = r.b i
      revert hm' hm a1' a2 a3 a4 a5 a6
      cases p.m i <;> cases p.b i <;> cases q.m i <;> cases q.b i <;> cases r.m i <;> cases r.b i <;> simp
  refine ⟨by by_cases h : (p.and q).over r; · rw [decide_eq_true h, decide_eq_true (key.1 h)]
             · rw [decide_eq_false h, decide_eq_false fun hc => h (key.2 hc)], ?_⟩
  unfold andV
  by_cases h : (p.and q).over r
  · rw [if_pos h, if_pos (key.1 h)]
    exact ⟨fun i _ => Bool.or_assoc .., fun i _ => Bool.or_assoc ..⟩
  · rw [if_neg h, if_neg fun hc => h (key.2 hc)]
    exact ⟨fun _ _ => rfl, fun _ _ => rfl⟩
end Pat
end Go.Proofs.YtbldnhpbmfmepaaDoor
