/-
  Plain facts on chapter 1's encodings of byte strings and lists: decoding undoes encoding, accepts nothing else, and every proper prefix is too short. Conditions: lengths of at most 10^9.
-/
import Derived.Test.YtnhnfdfjlagcjaaDoorMath
namespace Go.Proofs.YtnhnfdfjlagcjaaDoor
namespace WM

/-- The length of what follows, of parts of at least s bytes each. -/
def getL (l : List UInt8) (s : Nat) : Nat × Nat × Int :=
  if (getI l).2.2 = 0 then
    if (getI l).1 < 0 then (0, 0, 6)
    else if ((l.length - (getI l).2.1) / s : Nat) < (getI l).1 then (0, 0, 5)
    else ((getI l).1.toNat, (getI l).2.1, 0)
  else (0, 0, (getI l).2.2)

def getB (l : List UInt8) : List UInt8 × Nat × Int :=
  if (getL l 1).2.2 = 0 then ((l.drop (getL l 1).2.1).take (getL l 1).1, (getL l 1).2.1 + (getL l 1).1, 0) else ([], 0, (getL l 1).2.2)

def getMany {α : Type} (get : List UInt8 → α × Nat × Int) : Nat → List UInt8 → List α × Nat × Int
  | 0, _ => ([], 0, 0)
  | n + 1, l =>
    if (get l).2.2 = 0 then
      if (getMany get n (l.drop (get l).2.1)).2.2 = 0 then ((get l).1 :: (getMany get n (l.drop (get l).2.1)).1, (get l).2.1 + (getMany get n (l.drop (get l).2.1)).2.1, 0)
      else ([], 0, (getMany get n (l.drop (get l).2.1)).2.2)
    else ([], 0, (get l).2.2)

def getAll {α : Type} (get : List UInt8 → α × Nat × Int) (s : Nat) (l : List UInt8) : List α × Nat × Int :=
  if (getL l s).2.2 = 0 then
    if (getMany get (getL l s).1 (l.drop (getL l s).2.1)).2.2 = 0 then ((getMany get (getL l s).1 (l.drop (getL l s).2.1)).1, (getL l s).2.1 + (getMany get (getL l s).1 (l.drop (getL l s).2.1)).2.1, 0)
    else ([], 0, (getMany get (getL l s).1 (l.drop (getL l s).2.1)).2.2)
  else ([], 0, (getL l s).2.2)

def encB (s : List UInt8) : List UInt8 := encI s.length ++ s
def encAll {α : Type} (enc : α → List UInt8) (xs : List α) : List UInt8 := encI xs.length ++ xs.flatMap enc

/-- What of getInt's answer decides getLength's. -/
theorem getL_cases (l : List UInt8) (s : Nat) :
    (getI l = (0, 0, 6) ∧ getL l s = (0, 0, 6)) ∨ (getI l = (0, 0, 5) ∧ getL l s = (0, 0, 5)) ∨
    (∃ n u, getI l = (n, u, 0) ∧ u ≤ l.length ∧ u ≤ 10 ∧ n ≤ 9223372036854775807 ∧ -9223372036854775808 ≤ n ∧ n < 0 ∧ getL l s = (0, 0, 6)) ∨
    (∃ n u : Nat, getI l = ((n : Int), u, 0) ∧ u ≤ l.length ∧ u ≤ 10 ∧ n ≤ 9223372036854775807 ∧ (l.length - u) / s < n ∧ getL l s = (0, 0, 5)) ∨
    (∃ n u : Nat, getI l = ((n : Int), u, 0) ∧ u ≤ l.length ∧ u ≤ 10 ∧ n ≤ (l.length - u) / s ∧ getL l s = (n, u, 0)) := by
  rcases getI_cases l with h | h | ⟨n, u, h⟩
  · exact .inl ⟨h, by unfold getL; simp [h]⟩
  · exact .inr (.inl ⟨h, by unfold getL; simp [h]⟩)
  · obtain ⟨h1, _, h2, _, h3, h4⟩ := getI_ok h
    by_cases hn : n < 0
    · exact .inr (.inr (.inl ⟨n, u, h, h1, h2, h4, h3, hn, by unfold getL; simp [h, hn]⟩))
    · obtain ⟨m, rfl⟩ := Int.eq_ofNat_of_zero_le (show 0 ≤ n by omega)
      by_cases hm : (l.length - u) / s < m
      · refine .inr (.inr (.inr (.inl ⟨m, u, h, h1, h2, by omega, hm, ?_⟩)))
        unfold getL
        simp only [h, if_true]
        rw [if_neg (by omega), if_pos (by omega)]
      · refine .inr (.inr (.inr (.inr ⟨m, u, h, h1, h2, by omega, ?_⟩)))
        unfold getL
        simp only [h, if_true]
        rw [if_neg (by omega), if_neg (by omega)]
        simp
theorem getL_ok {l : List UInt8} {s n u : Nat} (h : getL l s = (n, u, 0)) : getI l = ((n : Int), u, 0) ∧ u ≤ l.length ∧ u ≤ 10 ∧ n ≤ (l.length - u) / s := by
  rcases getL_cases l s with ⟨_, h2⟩ | ⟨_, h2⟩ | ⟨_, _, _, _, _, _, _, _, h2⟩ | ⟨_, _, _, _, _, _, _, h2⟩ | ⟨n', u', h0, h1, h3, h4, h2⟩
  · rw [h2] at h; simp at h
  · rw [h2] at h; simp at h
  · rw [h2] at h; simp at h
  · rw [h2] at h; simp at h
  · rw [h2] at h; simp at h; obtain ⟨rfl, rfl⟩ := h; exact ⟨h0, h1, h3, h4⟩

/-- A code: what an encoding and a decoding have to do with each other. -/
structure Code {α : Type} (ok : α → Prop) (zero : α) (enc : α → List UInt8) (get : List UInt8 → α × Nat × Int) : Prop where
  back : ∀ x t, ok x → get (enc x ++ t) = (x, (enc x).length, 0)
  canon : ∀ l x u, l.length ≤ 1000000000 → get l = (x, u, 0) → u ≤ l.length ∧ l.take u = enc x ∧ ok x
  short : ∀ x j, ok x → j < (enc x).length → get ((enc x).take j) = (zero, 0, 5)
  errs : ∀ l, (get l).2.2 ≠ 0 → (get l).1 = zero ∧ (get l).2.1 = 0 ∧ ((get l).2.2 = 5 ∨ (get l).2.2 = 6)

def okI (n : Int) : Prop := -9223372036854775808 ≤ n ∧ n ≤ 9223372036854775807
theorem codeI : Code okI 0 encI getI where
  back x t h := getI_encI h.1 h.2 t
  canon l x u _ h := by obtain ⟨h1, _, _, h2, h3, h4⟩ := getI_ok h; exact ⟨h1, h2, h3, h4⟩
  short x j h hj := getI_prefix (fold_lt h.1 h.2) hj
  errs l h := by
    rcases getI_cases l with e | e | ⟨n, u, e⟩ <;> rw [e] at h ⊢ <;> simp at h ⊢

theorem encI_pos (n : Int) : 1 ≤ (encI n).length := encN_pos _
theorem encI_le {n : Int} (h : okI n) : (encI n).length ≤ 10 := encN_le10 (fold_lt h.1 h.2)

theorem getL_back (n s : Nat) (t : List UInt8) (hn : n ≤ 1000000000) (hs : 1 ≤ s) (ht : n * s ≤ t.length) : getL (encI n ++ t) s = (n, (encI n).length, 0) := by
  have h := getI_encI (n := (n : Int)) (by omega) (by omega) t
  unfold getL
  simp only [h, if_true]
  have hd : n ≤ ((encI n ++ t).length - (encI n).length) / s := (Nat.le_div_iff_mul_le (by omega)).2 (by simp; exact ht)
  rw [if_neg (by omega), if_neg (by omega)]
  simp
theorem getL_short (n s j : Nat) (hn : n ≤ 1000000000) (hj : j < (encI n).length) : getL ((encI n).take j) s = (0, 0, 5) := by
  have h := getI_prefix (z := fold (n : Int)) (fold_lt (by omega) (by omega)) hj
  have h' : getI ((encI n).take j) = (0, 0, 5) := h
  unfold getL; simp [h']
theorem getL_few (n s : Nat) (t : List UInt8) (hn : n ≤ 1000000000) (ht : t.length / s < n) : getL (encI n ++ t) s = (0, 0, 5) := by
  have h := getI_encI (n := (n : Int)) (by omega) (by omega) t
  unfold getL
  simp only [h, if_true]
  rw [if_neg (by omega), if_pos (by simp; omega)]
theorem getL_errs (l : List UInt8) (s : Nat) (h : (getL l s).2.2 ≠ 0) : (getL l s).2.2 = 5 ∨ (getL l s).2.2 = 6 := by
  rcases getL_cases l s with ⟨_, h2⟩ | ⟨_, h2⟩ | ⟨_, _, _, _, _, _, _, _, h2⟩ | ⟨_, _, _, _, _, _, _, h2⟩ | ⟨n', u', h0, h1, h3, h4, h2⟩ <;> rw [h2] at h ⊢ <;> simp at h ⊢

theorem take_join {l : List UInt8} {u n : Nat} {a b : List UInt8} (h1 : l.take u = a) (h2 : (l.drop u).take n = b) : l.take (u + n) = a ++ b := by
  rw [List.take_add, h1, h2]

def okB (s : List UInt8) : Prop := s.length ≤ 1000000000
theorem prefix_cases (a b : List UInt8) (j : Nat) : (j < a.length ∧ (a ++ b).take j = a.take j) ∨ (∃ i, j = a.length + i ∧ (a ++ b).take j = a ++ b.take i) := by
  by_cases h : j < a.length
  · exact .inl ⟨h, by rw [List.take_append_of_le_length (by omega)]⟩
  · refine .inr ⟨j - a.length, by omega, ?_⟩
    rw [List.take_append, List.take_of_length_le (by omega)]
theorem getB_of {l : List UInt8} {n u : Nat} (h : getL l 1 = (n, u, 0)) : getB l = ((l.drop u).take n, u + n, 0) := by unfold getB; simp [h]
theorem getB_err {l : List UInt8} {x : Int} (h : getL l 1 = (0, 0, x)) (hx : x ≠ 0) : getB l = ([], 0, x) := by unfold getB; simp [h, hx]
/-- Strings: their decoding never succeeds at more than 10^9 bytes, if there are no more. -/
theorem getB_back (s t : List UInt8) (h : s.length ≤ 1000000000) : getB (encB s ++ t) = (s, (encB s).length, 0) := by
  unfold encB
  rw [List.append_assoc, getB_of (getL_back s.length 1 (s ++ t) h (by omega) (by simp))]
  simp
theorem getB_ok {l s : List UInt8} {u : Nat} (h : getB l = (s, u, 0)) : u ≤ l.length ∧ l.take u = encB s := by
  unfold getB at h
  by_cases h0 : (getL l 1).2.2 = 0
  · rw [if_pos h0] at h
    obtain ⟨hi, h1, _, h2⟩ := getL_ok (l := l) (s := 1) (n := (getL l 1).1) (u := (getL l 1).2.1) (by rw [← h0])
    simp only [Prod.mk.injEq, and_true] at h
    obtain ⟨rfl, rfl⟩ := h
    obtain ⟨_, _, _, h3, _⟩ := getI_ok hi
    rw [Nat.div_one] at h2
    refine ⟨by omega, ?_⟩
    unfold encB
    rw [List.length_take, List.length_drop, Nat.min_eq_left h2]
    exact take_join h3 rfl
  · rw [if_neg h0] at h
    simp only [Prod.mk.injEq] at h
    exact absurd h.2.2 h0
theorem getB_short (s : List UInt8) (j : Nat) (h : s.length ≤ 1000000000) (hj : j < (encB s).length) : getB ((encB s).take j) = ([], 0, 5) := by
  unfold encB at hj ⊢
  rcases prefix_cases (encI s.length) s j with ⟨h1, h2⟩ | ⟨i, rfl, h2⟩
  · rw [h2]; exact getB_err (getL_short _ _ _ h h1) (by decide)
  · rw [h2]
    simp at hj
    exact getB_err (getL_few _ _ _ h (by simp; omega)) (by decide)
theorem getB_errs (l : List UInt8) (h : (getB l).2.2 ≠ 0) : (getB l).1 = [] ∧ (getB l).2.1 = 0 ∧ ((getB l).2.2 = 5 ∨ (getB l).2.2 = 6) := by
  unfold getB at h ⊢
  by_cases h0 : (getL l 1).2.2 = 0
  · rw [if_pos h0] at h; simp at h
  · rw [if_neg h0]; exact ⟨rfl, rfl, getL_errs l 1 h0⟩
theorem codeB : Code okB [] encB getB where
  back x t h := getB_back x t h
  canon l x u hl h := by
    obtain ⟨h1, h2⟩ := getB_ok h
    refine ⟨h1, h2, ?_⟩
    have : (l.take u).length = (encB x).length := by rw [h2]
    unfold encB at this
    simp at this
    show x.length ≤ _
    omega
  short x j h hj := getB_short x j h hj
  errs l h := getB_errs l h
theorem encB_pos (s : List UInt8) : 1 ≤ (encB s).length := by
  have := encI_pos (s.length : Int)
  unfold encB; simp; omega

/-- Digests: 16 bytes. -/
def okD (d : List UInt8) : Prop := d.length = 16
def zeroD : List UInt8 := List.replicate 16 0
def getD (l : List UInt8) : List UInt8 × Nat × Int := if l.length < 16 then (zeroD, 0, 5) else (l.take 16, 16, 0)
theorem codeD : Code okD zeroD (fun d => d) getD where
  back x t h := by
    unfold okD at h
    unfold getD
    rw [if_neg (by simp; omega), ← h, List.take_left]
  canon l x u _ h := by
    unfold getD at h
    by_cases h1 : l.length < 16
    · simp [h1] at h
    · simp [h1] at h
      obtain ⟨rfl, rfl⟩ := h
      exact ⟨by omega, rfl, by unfold okD; simp; omega⟩
  short x j h hj := by
    unfold getD
    rw [if_pos (by simp; unfold okD at h; omega)]
  errs l h := by
    unfold getD at h ⊢
    by_cases h1 : l.length < 16
    · simp [h1]
    · simp [h1] at h

section
variable {α : Type} {ok : α → Prop} {zero : α} {enc : α → List UInt8} {get : List UInt8 → α × Nat × Int}

theorem many_cons {n : Nat} {l : List UInt8} {x : α} {u : Nat} {xs : List α} {v : Nat} (h1 : get l = (x, u, 0)) (h2 : getMany get n (l.drop u) = (xs, v, 0)) : getMany get (n + 1) l = (x :: xs, u + v, 0) := by
  simp [getMany, h1, h2]
theorem many_err1 {n : Nat} {l : List UInt8} {x : α} {u : Nat} {e : Int} (h1 : get l = (x, u, e)) (he : e ≠ 0) : getMany get (n + 1) l = ([], 0, e) := by
  simp [getMany, h1, he]
theorem many_err2 {n : Nat} {l : List UInt8} {x : α} {u : Nat} {xs : List α} {v : Nat} {e : Int} (h1 : get l = (x, u, 0)) (h2 : getMany get n (l.drop u) = (xs, v, e)) (he : e ≠ 0) : getMany get (n + 1) l = ([], 0, e) := by
  simp [getMany, h1, h2, he]

theorem many_back (C : Code ok zero enc get) : ∀ (xs : List α) (t : List UInt8), (∀ x ∈ xs, ok x) → getMany get xs.length (xs.flatMap enc ++ t) = (xs, (xs.flatMap enc).length, 0)
  | [], t, _ => by simp [getMany]
  | x :: xs, t, h => by
    have h1 := C.back x (xs.flatMap enc ++ t) (h x (by simp))
    have h2 := many_back C xs t (fun y hy => h y (by simp [hy]))
    simp only [List.length_cons, List.flatMap_cons, List.append_assoc]
    rw [many_cons h1 (by rw [List.drop_left]; exact h2)]
    simp
theorem many_ok (C : Code ok zero enc get) : ∀ (n : Nat) (l : List UInt8) (xs : List α) (u : Nat), l.length ≤ 1000000000 → getMany get n l = (xs, u, 0) → xs.length = n ∧ u ≤ l.length ∧ l.take u = xs.flatMap enc ∧ ∀ x ∈ xs, ok x
  | 0, l, xs, u, _, h => by
    simp only [getMany, Prod.mk.injEq, and_true] at h
    obtain ⟨rfl, rfl⟩ := h
    simp
  | n + 1, l, xs, u, hl, h => by
    simp only [getMany] at h
    by_cases h1 : (get l).2.2 = 0
    · rw [if_pos h1] at h
      by_cases h2 : (getMany get n (l.drop (get l).2.1)).2.2 = 0
      · rw [if_pos h2] at h
        simp only [Prod.mk.injEq, and_true] at h
        obtain ⟨rfl, rfl⟩ := h
        obtain ⟨a1, a2, a3⟩ := C.canon l (get l).1 (get l).2.1 hl (by rw [← h1])
        obtain ⟨b0, b1, b2, b3⟩ := many_ok C n (l.drop (get l).2.1) (getMany get n (l.drop (get l).2.1)).1 (getMany get n (l.drop (get l).2.1)).2.1 (by simp; omega) (by rw [← h2])
        refine ⟨by simp [b0], by rw [List.length_drop] at b1; omega, ?_, ?_⟩
        · rw [List.flatMap_cons]; exact take_join a2 b2
        · intro y hy
          rcases List.mem_cons.1 hy with rfl | hy
          · exact a3
          · exact b3 y hy
      · rw [if_neg h2] at h
        simp only [Prod.mk.injEq] at h
        exact absurd h.2.2 h2
    · rw [if_neg h1] at h
      simp only [Prod.mk.injEq] at h
      exact absurd h.2.2 h1
theorem many_short (C : Code ok zero enc get) : ∀ (xs : List α) (j : Nat), (∀ x ∈ xs, ok x) → j < (xs.flatMap enc).length → getMany get xs.length ((xs.flatMap enc).take j) = ([], 0, 5)
  | [], j, _, hj => by simp at hj
  | x :: xs, j, h, hj => by
    have hx := h x (by simp)
    simp only [List.length_cons, List.flatMap_cons] at hj ⊢
    rcases prefix_cases (enc x) (xs.flatMap enc) j with ⟨h1, h2⟩ | ⟨i, rfl, h2⟩
    · rw [h2]; exact many_err1 (C.short x j hx h1) (by decide)
    · rw [h2]
      have h3 := C.back x ((xs.flatMap enc).take i) hx
      refine many_err2 (xs := []) (v := 0) h3 ?_ (by decide)
      rw [List.drop_left]
      exact many_short C xs i (fun y hy => h y (by simp [hy])) (by rw [List.length_append] at hj; omega)
theorem many_errs (C : Code ok zero enc get) : ∀ (n : Nat) (l : List UInt8), (getMany get n l).2.2 ≠ 0 → (getMany get n l).1 = [] ∧ (getMany get n l).2.1 = 0 ∧ ((getMany get n l).2.2 = 5 ∨ (getMany get n l).2.2 = 6)
  | 0, l, h => by simp [getMany] at h
  | n + 1, l, h => by
    simp only [getMany] at h ⊢
    by_cases h1 : (get l).2.2 = 0
    · rw [if_pos h1] at h ⊢
      by_cases h2 : (getMany get n (l.drop (get l).2.1)).2.2 = 0
      · rw [if_pos h2] at h; simp at h
      · rw [if_neg h2] at h ⊢
        exact ⟨rfl, rfl, (many_errs C n _ h2).2.2⟩
    · rw [if_neg h1] at h ⊢
      exact ⟨rfl, rfl, (C.errs l h1).2.2⟩

theorem flat_len (s : Nat) (h : ∀ x, ok x → s ≤ (enc x).length) : ∀ (xs : List α), (∀ x ∈ xs, ok x) → xs.length * s ≤ (xs.flatMap enc).length
  | [], _ => by simp
  | x :: xs, hx => by
    have h1 := h x (hx x (by simp))
    have h2 := flat_len s h xs (fun y hy => hx y (by simp [hy]))
    simp only [List.length_cons, List.flatMap_cons, List.length_append, Nat.succ_mul]
    omega

def okAll (ok : α → Prop) (xs : List α) : Prop := (∀ x ∈ xs, ok x) ∧ xs.length ≤ 1000000000

theorem all_of {s : Nat} {l : List UInt8} {n u : Nat} {xs : List α} {v : Nat} (h1 : getL l s = (n, u, 0)) (h2 : getMany get n (l.drop u) = (xs, v, 0)) : getAll get s l = (xs, u + v, 0) := by
  simp [getAll, h1, h2]
theorem all_err1 {s : Nat} {l : List UInt8} {x : Int} (h1 : getL l s = (0, 0, x)) (hx : x ≠ 0) : getAll get s l = ([], 0, x) := by
  simp [getAll, h1, hx]
theorem all_err2 {s : Nat} {l : List UInt8} {n u : Nat} {xs : List α} {v : Nat} {x : Int} (h1 : getL l s = (n, u, 0)) (h2 : getMany get n (l.drop u) = (xs, v, x)) (hx : x ≠ 0) : getAll get s l = ([], 0, x) := by
  simp [getAll, h1, h2, hx]

theorem codeAll (C : Code ok zero enc get) (s : Nat) (hs : 1 ≤ s) (hsz : ∀ x, ok x → s ≤ (enc x).length) : Code (okAll ok) [] (encAll enc) (getAll get s) where
  back xs t h := by
    unfold encAll
    rw [List.append_assoc]
    have h1 := getL_back xs.length s (xs.flatMap enc ++ t) h.2 hs (by have := flat_len s hsz xs h.1; rw [List.length_append]; omega)
    rw [all_of h1 (by rw [List.drop_left]; exact many_back C xs t h.1)]
    simp
  canon l xs u hl h := by
    unfold getAll at h
    by_cases h0 : (getL l s).2.2 = 0
    · rw [if_pos h0] at h
      obtain ⟨hi, h1, _, h2⟩ := getL_ok (l := l) (s := s) (n := (getL l s).1) (u := (getL l s).2.1) (by rw [← h0])
      obtain ⟨_, _, _, h3, _⟩ := getI_ok hi
      by_cases h5 : (getMany get (getL l s).1 (l.drop (getL l s).2.1)).2.2 = 0
      · rw [if_pos h5] at h
        obtain ⟨b0, b1, b2, b3⟩ := many_ok C (getL l s).1 (l.drop (getL l s).2.1) (getMany get (getL l s).1 (l.drop (getL l s).2.1)).1 (getMany get (getL l s).1 (l.drop (getL l s).2.1)).2.1 (by simp; omega) (by rw [← h5])
        simp only [Prod.mk.injEq, and_true] at h
        obtain ⟨rfl, rfl⟩ := h
        have hd : (l.length - (getL l s).2.1) / s ≤ l.length - (getL l s).2.1 := Nat.div_le_self _ _
        refine ⟨by rw [List.length_drop] at b1; omega, ?_, b3, by omega⟩
        unfold encAll
        rw [b0]
        exact take_join h3 b2
      · rw [if_neg h5] at h
        simp only [Prod.mk.injEq] at h
        exact absurd h.2.2 h5
    · rw [if_neg h0] at h
      simp only [Prod.mk.injEq] at h
      exact absurd h.2.2 h0
  short xs j h hj := by
    unfold encAll at hj ⊢
    rcases prefix_cases (encI xs.length) (xs.flatMap enc) j with ⟨h1, h2⟩ | ⟨i, rfl, h2⟩
    · rw [h2]; exact all_err1 (getL_short _ _ _ h.2 h1) (by decide)
    · rw [h2]
      by_cases hf : ((xs.flatMap enc).take i).length / s < xs.length
      · exact all_err1 (getL_few _ _ _ h.2 hf) (by decide)
      · have h1 := getL_back xs.length s ((xs.flatMap enc).take i) h.2 hs ((Nat.le_div_iff_mul_le (by omega)).1 (by omega))
        refine all_err2 h1 (by rw [List.drop_left]; exact many_short C xs i h.1 (by rw [List.length_append] at hj; omega)) (by decide)
  errs l h := by
    unfold getAll at h ⊢
    by_cases h0 : (getL l s).2.2 = 0
    · rw [if_pos h0] at h ⊢
      by_cases h5 : (getMany get (getL l s).1 (l.drop (getL l s).2.1)).2.2 = 0
      · rw [if_pos h5] at h; simp at h
      · rw [if_neg h5] at h ⊢
        exact ⟨rfl, rfl, (many_errs C _ _ h5).2.2⟩
    · rw [if_neg h0] at h ⊢
      exact ⟨rfl, rfl, getL_errs l s h0⟩
end
theorem codeInts : Code (okAll okI) [] (encAll encI) (getAll getI 1) := codeAll codeI 1 (by decide) (fun x _ => encI_pos x)
theorem codeStrings : Code (okAll okB) [] (encAll encB) (getAll getB 1) := codeAll codeB 1 (by decide) (fun x _ => encB_pos x)
theorem codeDigests : Code (okAll okD) [] (encAll (fun d => d)) (getAll getD 16) := codeAll codeD 16 (by decide) (fun x h => by unfold okD at h; omega)
end WM
end Go.Proofs.YtnhnfdfjlagcjaaDoor
