/-
  The elimination in plain words, and how the table lies there. Conditions: none.
-/
import Derived.Test.YthjaelopmfjfeaaDoorWh
namespace Go.Proofs.YthjaelopmfjfeaaDoor
set_option linter.unusedVariables false
set_option linter.unusedSimpArgs false
open Go.RowKit Go.Shelf

def mapO {α : Type} (F : Nat → α → Option α) : Nat → List α → Option (List α)
  | _, [] => some []
  | k, x :: l => (F k x).bind fun y => (mapO F (k + 1) l).map (y :: ·)
theorem mapO_append {α : Type} (F : Nat → α → Option α) : ∀ (a b : List α) (k : Nat), mapO F k (a ++ b) = (mapO F k a).bind fun x => (mapO F (k + a.length) b).map (x ++ ·)
  | [], b, k => by
    show mapO F k b = (mapO F (k + 0) b).map ([] ++ ·)
    rw [Nat.add_zero]
    cases mapO F k b <;> rfl
  | x :: a, b, k => by
    show (F k x).bind (fun y => (mapO F (k + 1) (a ++ b)).map (y :: ·)) = ((F k x).bind fun y => (mapO F (k + 1) a).map (y :: ·)).bind _
    rw [mapO_append F a b (k + 1)]
    cases F k x with
    | none => rfl
    | some y =>
      have e : k + (x :: a).length = k + 1 + a.length := by rw [List.length_cons]; omega
      rw [e]
      cases mapO F (k + 1) a with
      | none => rfl
      | some z =>
        show ((mapO F (k + 1 + a.length) b).map (z ++ ·)).map (y :: ·) = (mapO F (k + 1 + a.length) b).map ((y :: z) ++ ·)
        cases mapO F (k + 1 + a.length) b <;> rfl
theorem mapO_step {α : Type} {F : Nat → α → Option α} {l D : List α} {k : Nat} {x : α} (hx : l[k]? = some x) (h : mapO F 0 (l.take k) = some D) : mapO F 0 (l.take (k + 1)) = (F k x).map (fun y => D ++ [y]) := by
  obtain ⟨hk, e⟩ := List.getElem?_eq_some_iff.1 hx
  rw [List.take_succ_eq_append_getElem hk, e, mapO_append, h]
  show (mapO F (0 + (l.take k).length) [x]).map (D ++ ·) = _
  rw [List.length_take, Nat.min_eq_left (by omega), Nat.zero_add]
  unfold mapO
  cases F k x <;> rfl
theorem mapO_fell {α : Type} {F : Nat → α → Option α} {l : List α} {k : Nat} (h : mapO F 0 (l.take k) = none) : mapO F 0 l = none := by
  rw [← List.take_append_drop k l, mapO_append, h]; rfl
def at2 (C : List (List Rat)) (i c : Nat) : Rat := ((C[i]?).bind fun r => r[c]?).getD 0
/-- The first row from u on whose element in a column is not 0. -/
def pivot (C : List (List Rat)) (u c : Nat) : Option Nat := (List.range C.length).find? fun i => decide (u ≤ i) && !decide (at2 C i c = 0)
theorem pivot_some {C : List (List Rat)} {u c i : Nat} (hi : i < C.length) (hu : u ≤ i) (h : at2 C i c ≠ 0) (hn : ∀ j, u ≤ j → j < i → at2 C j c = 0) : pivot C u c = some i := by
  unfold pivot
  rw [List.find?_range_eq_some]
  refine ⟨by rw [decide_eq_true hu, decide_eq_false h]; rfl, List.mem_range.2 hi, fun j hj => ?_⟩
  by_cases h2 : u ≤ j
  · rw [decide_eq_true (hn j h2 hj), Bool.not_true, Bool.and_false]; rfl
  · rw [decide_eq_false h2]; rfl
theorem pivot_none {C : List (List Rat)} {u c : Nat} (hn : ∀ j, u ≤ j → j < C.length → at2 C j c = 0) : pivot C u c = none := by
  unfold pivot
  rw [List.find?_eq_none]
  intro j hj
  have h1 := List.mem_range.1 hj
  by_cases h2 : u ≤ j
  · rw [decide_eq_true (hn j h2 h1), Bool.not_true, Bool.and_false]; decide
  · rw [decide_eq_false h2, Bool.false_and]; decide
def swapR {α : Type} (C : List α) (u i : Nat) (x y : α) : List α := (C.set u y).set i x
def rowF (u c : Nat) (h : List Rat) : Nat → List Rat → Option (List Rat) := fun i r => if i ≠ u ∧ (r[c]?).getD 0 ≠ 0 then opTo (subF ((r[c]?).getD 0) h) 0 r else some r
/-- What becomes of the table and the columns that have a row, at one column. -/
def stepE (c : Nat) (S : List (List Rat) × List Nat) : Option (List (List Rat) × List Nat) :=
  match pivot S.1 S.2.length c with
  | none => some S
  | some i =>
    (opTo (fun _ x => okQ (x / at2 S.1 i c)) 0 ((S.1[i]?).getD [])).bind fun h =>
      (mapO (rowF S.2.length c h) 0 ((swapR S.1 S.2.length i ((S.1[S.2.length]?).getD []) ((S.1[i]?).getD [])).set S.2.length h)).map fun C2 => (C2, S.2 ++ [c])
def elimM (C : List (List Rat)) : Nat → Option (List (List Rat) × List Nat)
  | 0 => some (C, [])
  | c + 1 => (elimM C c).bind (stepE c)
theorem elimM_none {C : List (List Rat)} {c : Nat} (h : elimM C c = none) : ∀ n, c ≤ n → elimM C n = none := by
  intro n hn
  induction n with
  | zero => obtain rfl : c = 0 := by omega
            exact h
  | succ n ih =>
    rcases Nat.lt_or_ge n c with h1 | h1
    · obtain rfl : c = n + 1 := by omega
      exact h
    · show (elimM C n).bind (stepE n) = none
      rw [ih h1]; rfl
theorem opTo_fits {F : Nat → Rat → Option Rat} (hF : ∀ k x y, F k x = some y → fits y) : ∀ (l : List Rat) (k : Nat) (r : List Rat), opTo F k l = some r → ∀ y ∈ r, fits y
  | [], _, r, h => by injection h with h; rw [← h]; intro y hy; cases hy
  | x :: l, k, r, h => by
    unfold opTo at h
    cases hx : F k x with
    | none => rw [hx] at h; cases h
    | some y =>
      rw [hx] at h
      cases ho : opTo F (k + 1) l with
      | none => rw [ho] at h; cases h
      | some z =>
        rw [ho] at h
        injection h with h
        rw [← h]
        intro q hq
        rcases List.mem_cons.1 hq with rfl | hq
        · exact hF k x q hx
        · exact opTo_fits hF l _ z ho q hq
theorem okQ_fits {q y : Rat} (h : okQ q = some y) : fits y := by
  unfold okQ at h
  split at h
  · injection h with h; rw [← h]; assumption
  · cases h
theorem subF_fits {t : Rat} {r : List Rat} {k : Nat} {x y : Rat} (h : subF t r k x = some y) : fits y := by
  unfold subF at h
  cases hr : r[k]? with
  | none => rw [hr] at h; cases h
  | some o =>
    rw [hr, Option.bind_some] at h
    split at h
    · exact okQ_fits h
    · cases h
/-- The table lies there, below T, and from B on; no error so far. -/
structure EL (B T gr ge N : Nat) (M : List RowM) (C : List (List Rat)) (w : World) : Prop where
  hdrs : Blk w gr 40 (M.map (rowV N))
  same : M.length = C.length
  rows : ∀ (i : Nat) (r : RowM) (l : List Rat), M[i]? = some r → C[i]? = some l → l.length = N ∧ (∀ x ∈ l, fits x) ∧ Blk w r.1 23 (rowC l ++ r.2.2)
  diff : ∀ (i j : Nat) (r p : RowM), M[i]? = some r → M[j]? = some p → r.1 = p.1 → i = j
  apart : ∀ (i : Nat) (r : RowM), M[i]? = some r → r.1 ≠ gr ∧ r.1 ≠ ge ∧ B ≤ r.1 ∧ r.1 < T
  err : Blk w ge 24 [.int .i64 0]
  base : B ≤ gr ∧ B ≤ ge ∧ gr ≠ ge ∧ gr < T ∧ ge < T
  caps : ∀ (i : Nat) (r : RowM), M[i]? = some r → N ≤ r.2.1
/-- The table behind an error. -/
structure EX (B T gr ge N : Nat) (M : List RowM) (w : World) : Prop where
  hdrs : Blk w gr 40 (M.map (rowV N))
  rows : ∀ (i : Nat) (r : RowM), M[i]? = some r → ∃ raw : List (Int × Int), raw.length = N ∧ Blk w r.1 23 (rowR raw ++ r.2.2)
  apart : ∀ (i : Nat) (r : RowM), M[i]? = some r → r.1 ≠ gr ∧ r.1 ≠ ge ∧ B ≤ r.1 ∧ r.1 < T
  err : Blk w ge 24 [.int .i64 17]
  base : B ≤ gr ∧ B ≤ ge ∧ gr ≠ ge ∧ gr < T ∧ ge < T
section
variable {B T gr ge N : Nat} {M : List RowM} {C : List (List Rat)} {w w' : World}
theorem EL.keep (h : EL B T gr ge N M C w) (hb : Below T w w') : EL B T gr ge N M C w' :=
  ⟨h.hdrs.next hb h.base.2.2.2.1, h.same, fun i r l h1 h2 => ⟨(h.rows i r l h1 h2).1, (h.rows i r l h1 h2).2.1, (h.rows i r l h1 h2).2.2.next hb (h.apart i r h1).2.2.2⟩, h.diff, h.apart, h.err.next hb h.base.2.2.2.2, h.base, h.caps⟩
theorem EX.keep (h : EX B T gr ge N M w) (hb : Below T w w') : EX B T gr ge N M w' :=
  ⟨h.hdrs.next hb h.base.2.2.2.1, fun i r h1 => by
    obtain ⟨raw, a, b⟩ := h.rows i r h1
    exact ⟨raw, a, b.next hb (h.apart i r h1).2.2.2⟩, h.apart, h.err.next hb h.base.2.2.2.2, h.base⟩
theorem EL.change (h : EL B T gr ge N M C w) {i : Nat} {r : RowM} {l : List Rat} (hr : M[i]? = some r) (hl : l.length = N) (hf : ∀ x ∈ l, fits x) (ho : Only [r.1, ge] w w') (hB : Blk w' r.1 23 (rowC l ++ r.2.2)) (he : Blk w' ge 24 [.int .i64 0]) : EL B T gr ge N M (C.set i l) w' := by
  have ha := h.apart i r hr
  refine ⟨h.hdrs.only ho (by simp; exact ⟨fun e => ha.1 e.symm, h.base.2.2.1⟩), by rw [List.length_set]; exact h.same, fun j p q h1 h2 => ?_, h.diff, h.apart, he, h.base, h.caps⟩
  by_cases e : j = i
  · subst e
    rw [hr] at h1
    injection h1 with h1
    subst h1
    have hj := (List.getElem?_eq_some_iff.1 h2).1
    rw [List.length_set] at hj
    rw [List.getElem?_set_self hj] at h2
    injection h2 with h2
    subst h2
    exact ⟨hl, hf, hB⟩
  · rw [List.getElem?_set_ne (fun e2 => e e2.symm)] at h2
    obtain ⟨a, b, c⟩ := h.rows j p q h1 h2
    refine ⟨a, b, c.only ho ?_⟩
    simp
    exact ⟨fun e2 => e (h.diff j i p r h1 hr e2), (h.apart j p h1).2.1⟩
theorem EL.fell (h : EL B T gr ge N M C w) {i : Nat} {r : RowM} (hr : M[i]? = some r) (ho : Only [r.1, ge] w w') (hB : ∃ raw : List (Int × Int), raw.length = N ∧ Blk w' r.1 23 (rowR raw ++ r.2.2)) (he : Blk w' ge 24 [.int .i64 17]) : EX B T gr ge N M w' := by
  have ha := h.apart i r hr
  refine ⟨h.hdrs.only ho (by simp; exact ⟨fun e => ha.1 e.symm, h.base.2.2.1⟩), fun j p h1 => ?_, h.apart, he, h.base⟩
  by_cases e : j = i
  · subst e
    rw [hr] at h1
    injection h1 with h1
    subst h1
    exact hB
  · have hj : j < C.length := by rw [← h.same]; exact (List.getElem?_eq_some_iff.1 h1).1
    obtain ⟨a, b, c⟩ := h.rows j p C[j] h1 (List.getElem?_eq_getElem hj)
    refine ⟨prs C[j], by rw [prs_length]; exact a, c.only ho ?_⟩
    simp
    exact ⟨fun e2 => e (h.diff j i p r h1 hr e2), (h.apart j p h1).2.1⟩
theorem swap_get {α : Type} {L : List α} {u i : Nat} {x y : α} (hx : L[u]? = some x) (hy : L[i]? = some y) (j : Nat) : (swapR L u i x y)[j]? = if j = i then some x else if j = u then some y else L[j]? := by
  have h1 := (List.getElem?_eq_some_iff.1 hx).1
  have h2 := (List.getElem?_eq_some_iff.1 hy).1
  unfold swapR
  by_cases e : j = i
  · subst e
    rw [if_pos rfl, List.getElem?_set_self (by rw [List.length_set]; exact h2)]
  · rw [if_neg e, List.getElem?_set_ne (fun e2 => e e2.symm)]
    by_cases e2 : j = u
    · subst e2
      rw [if_pos rfl, List.getElem?_set_self h1]
    · rw [if_neg e2, List.getElem?_set_ne (fun e3 => e2 e3.symm)]
theorem EL.swap (h : EL B T gr ge N M C w) {u i : Nat} {ru ri : RowM} {lu li : List Rat} (h1 : M[u]? = some ru) (h2 : M[i]? = some ri) (h3 : C[u]? = some lu) (h4 : C[i]? = some li)
    (ho : Only [gr] w w') (hB : Blk w' gr 40 ((swapR M u i ru ri).map (rowV N))) : EL B T gr ge N (swapR M u i ru ri) (swapR C u i lu li) w' := by
  have key : ∀ j (r : RowM), (swapR M u i ru ri)[j]? = some r → ∃ k, M[k]? = some r ∧ (swapR C u i lu li)[j]? = C[k]? ∧ ((j = i ∧ k = u) ∨ (j ≠ i ∧ j = u ∧ k = i) ∨ (j ≠ i ∧ j ≠ u ∧ k = j)) := fun j r hr => by
    rw [swap_get h1 h2] at hr
    rw [swap_get h3 h4]
    by_cases e : j = i
    · rw [if_pos e] at hr
      injection hr with hr
      subst hr
      exact ⟨u, h1, by rw [if_pos e, h3], .inl ⟨e, rfl⟩⟩
    · rw [if_neg e] at hr
      by_cases e2 : j = u
      · rw [if_pos e2] at hr
        injection hr with hr
        subst hr
        exact ⟨i, h2, by rw [if_neg e, if_pos e2, h4], .inr (.inl ⟨e, e2, rfl⟩)⟩
      · rw [if_neg e2] at hr
        exact ⟨j, hr, by rw [if_neg e, if_neg e2], .inr (.inr ⟨e, e2, rfl⟩)⟩
  refine ⟨hB, by unfold swapR; rw [List.length_set, List.length_set, List.length_set, List.length_set]; exact h.same, fun j r l a b => ?_, fun j k r p a b c => ?_, fun j r a => ?_, h.err.only ho (by simp; exact fun e => h.base.2.2.1 e.symm), h.base, fun j r a => ?_⟩
  · obtain ⟨k, hk, he, _⟩ := key j r a
    rw [he] at b
    obtain ⟨x, y, z⟩ := h.rows k r l hk b
    exact ⟨x, y, z.only ho (by simp; exact (h.apart k r hk).1)⟩
  · obtain ⟨j2, hj, _, cj⟩ := key j r a
    obtain ⟨k2, hk, _, ck⟩ := key k p b
    have e := h.diff j2 k2 r p hj hk c
    omega
  · obtain ⟨k, hk, _⟩ := key j r a
    exact h.apart k r hk
  · obtain ⟨k, hk, _⟩ := key j r a
    exact h.caps k r hk
end
end Go.Proofs.YthjaelopmfjfeaaDoor
