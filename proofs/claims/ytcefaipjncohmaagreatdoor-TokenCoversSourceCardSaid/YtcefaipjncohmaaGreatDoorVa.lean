/-
  TokenCoversSource in plain words: the lines of a text, and what is between tokens. No condition.
-/
import Derived.Test.YtcefaipjncohmaaGreatDoorQb
namespace Go.Proofs.YtcefaipjncohmaaGreatDoor
set_option linter.unusedVariables false
set_option linter.unusedSimpArgs false

def consH (c : UInt8) : List (List UInt8) → List (List UInt8)
  | [] => [[c]]
  | h :: t => (c :: h) :: t
/-- The lines of a text. -/
def linesL : List UInt8 → List (List UInt8)
  | [] => [[]]
  | b :: r => if b = 10 then [] :: linesL r else consH b (linesL r)
def glue : List (List UInt8) → List (List UInt8) → List (List UInt8)
  | [], m => m
  | [x], m => (match m with
    | [] => [x]
    | h :: t => (x ++ h) :: t)
  | x :: y :: z, m => x :: glue (y :: z) m
theorem linesL_cons (b : UInt8) (r : List UInt8) : linesL (b :: r) = if b = 10 then [] :: linesL r else consH b (linesL r) := rfl
theorem consH_ne (c : UInt8) (m : List (List UInt8)) : consH c m ≠ [] := by cases m <;> simp [consH]
theorem linesL_ne (l : List UInt8) : linesL l ≠ [] := by
  cases l with
  | nil => simp [linesL]
  | cons b r =>
    rw [linesL_cons]
    split
    · simp
    · exact consH_ne _ _
theorem linesL_ex (l : List UInt8) : ∃ h t, linesL l = h :: t := by
  cases h : linesL l with
  | nil => exact absurd h (linesL_ne l)
  | cons a b => exact ⟨a, b, rfl⟩
theorem glue_one (x h : List UInt8) (t : List (List UInt8)) : glue [x] (h :: t) = (x ++ h) :: t := rfl
theorem glue_more (x : List UInt8) {y : List (List UInt8)} (hy : y ≠ []) (m : List (List UInt8)) : glue (x :: y) m = x :: glue y m := by
  cases y with
  | nil => exact absurd rfl hy
  | cons a b => rfl
theorem glue_consH (c : UInt8) {xs m : List (List UInt8)} (hx : xs ≠ []) (hm : m ≠ []) : glue (consH c xs) m = consH c (glue xs m) := by
  cases m with
  | nil => exact absurd rfl hm
  | cons h t =>
    cases xs with
    | nil => exact absurd rfl hx
    | cons x y =>
      cases y with
      | nil => rfl
      | cons a b => rfl
theorem lines_app : ∀ a b : List UInt8, linesL (a ++ b) = glue (linesL a) (linesL b)
  | [], b => by
    obtain ⟨h, t, e⟩ := linesL_ex b
    show linesL b = glue [[]] (linesL b)
    rw [e]; rfl
  | c :: r, b => by
    have ih := lines_app r b
    show linesL (c :: (r ++ b)) = _
    rw [linesL_cons, linesL_cons]
    by_cases h : c = 10
    · rw [if_pos h, if_pos h, glue_more _ (linesL_ne r), ih]
    · rw [if_neg h, if_neg h, glue_consH c (linesL_ne r) (linesL_ne b), ih]
theorem glue_assoc1 (x : List UInt8) {m k : List (List UInt8)} (hm : m ≠ []) (hk : k ≠ []) : glue (glue [x] m) k = glue [x] (glue m k) := by
  cases m with
  | nil => exact absurd rfl hm
  | cons h t =>
    cases k with
    | nil => exact absurd rfl hk
    | cons h2 t2 =>
      cases t with
      | nil => simp [glue]
      | cons a b => rfl
theorem lines_count : ∀ l : List UInt8, (linesL l).length = l.count 10 + 1
  | [] => rfl
  | b :: r => by
    have ih := lines_count r
    rw [linesL_cons]
    by_cases h : b = 10
    · subst h
      rw [if_pos rfl, List.length_cons, ih, List.count_cons_self]
    · rw [if_neg h, List.count_cons_of_ne h, ← ih]
      obtain ⟨x, t, e⟩ := linesL_ex r
      rw [e]; rfl
theorem lines_none : ∀ l : List UInt8, (10 : UInt8) ∉ l → linesL l = [l]
  | [], _ => rfl
  | b :: r, h => by
    have h1 : b ≠ 10 := fun e => h (by simp [e])
    rw [linesL_cons, if_neg h1, lines_none r (fun e => h (List.mem_cons_of_mem _ e))]
    rfl
theorem glue_length : ∀ (xs : List (List UInt8)) (h : List UInt8) (t : List (List UInt8)), xs ≠ [] → (glue xs (h :: t)).length = xs.length + t.length
  | [], _, _, e => absurd rfl e
  | [x], h, t, _ => by rw [glue_one]; simp; omega
  | x :: y :: z, h, t, _ => by
    rw [glue_more x (by simp), List.length_cons, glue_length (y :: z) h t (by simp)]
    simp only [List.length_cons]; omega
/-- A line before the seam; the line at the seam; a line behind it. -/
theorem glue_low : ∀ (xs m : List (List UInt8)) (i : Nat), i + 1 < xs.length → (glue xs m)[i]? = xs[i]?
  | [], _, i, h => by simp at h
  | [x], _, i, h => by simp at h
  | x :: y :: z, m, 0, _ => rfl
  | x :: y :: z, m, i + 1, h => by
    rw [glue_more x (by simp)]
    show (glue (y :: z) m)[i]? = (y :: z)[i]?
    exact glue_low (y :: z) m i (by simpa using h)
theorem glue_at : ∀ (xs : List (List UInt8)) (x : List UInt8) (h : List UInt8) (t : List (List UInt8)), (glue (xs ++ [x]) (h :: t)) = xs ++ (x ++ h) :: t
  | [], x, h, t => rfl
  | y :: xs, x, h, t => by
    show glue (y :: (xs ++ [x])) _ = _
    rw [glue_more y (by simp), glue_at xs x h t]
    rfl
/-- The place behind some bytes, by the lines. -/
theorem col_lines : ∀ (G : List UInt8) (x : List UInt8), ∃ A y, glue [x] (linesL G) = A ++ [y] ∧ colL (x.length + 1) G = y.length + 1 ∧ A.length = G.count 10
  | [], x => ⟨[], x, by simp [linesL, glue], rfl, rfl⟩
  | b :: r, x => by
    rw [linesL_cons]
    by_cases h : b = 10
    · obtain ⟨A, y, h1, h2, h3⟩ := col_lines r []
      obtain ⟨h4, t4, e4⟩ := linesL_ex r
      rw [if_pos h, glue_one]
      refine ⟨x :: A, y, ?_, ?_, ?_⟩
      · rw [e4, glue_one] at h1
        rw [e4, List.append_nil]
        show x :: h4 :: t4 = x :: (A ++ [y])
        rw [← h1]; rfl
      · unfold colL
        rw [if_pos h]
        exact h2
      · subst h
        rw [List.count_cons_self, List.length_cons, h3]
    · obtain ⟨A, y, h1, h2, h3⟩ := col_lines r (x ++ [b])
      obtain ⟨h4, t4, e4⟩ := linesL_ex r
      rw [if_neg h]
      refine ⟨A, y, ?_, ?_, ?_⟩
      · rw [← h1, e4]
        show (x ++ b :: h4) :: t4 = (x ++ [b] ++ h4) :: t4
        simp
      · unfold colL
        rw [if_neg h, ← h2]
        simp
      · rw [List.count_cons_of_ne h, h3]
/-- Blanks and then perhaps a comment. -/
def blankB (b : UInt8) : Bool := decide (b = 32) || decide (b = 9) || decide (b = 13)
def gapLine : List UInt8 → Bool
  | [] => true
  | b :: r => decide (b = 35) || blankB b && gapLine r
theorem sep_blank {b : UInt8} (h : sepB b = true) (h10 : b ≠ 10) : blankB b = true := by
  rcases sep_cases h with rfl | rfl | rfl | rfl
  · rfl
  · rfl
  · rfl
  · exact absurd rfl h10
/-- Each line of a gap is made of blanks and perhaps a comment (the first may begin within a comment). -/
theorem gap_lines : ∀ (l : List UInt8) (ins : Bool), ∃ h t, linesL (l.take (gapL ins l)) = h :: t ∧ (ins = true ∨ gapLine h = true) ∧ ∀ x ∈ t, gapLine x = true
  | [], ins => ⟨[], [], by cases ins <;> rfl, Or.inr rfl, fun x h => by simp at h⟩
  | b :: r, ins => by
    by_cases h1 : (decide (b = 35) || ins && decide (b ≠ 10)) = true
    · have hg : gapL ins (b :: r) = gapL true r + 1 := by conv => lhs; unfold gapL; rw [if_pos h1]
      obtain ⟨h, t, e, h2, h3⟩ := gap_lines r true
      have h10 : b ≠ 10 := fun e => by subst e; revert h1; cases ins <;> decide
      rw [hg, List.take_succ_cons, linesL_cons, if_neg h10, e]
      refine ⟨b :: h, t, rfl, ?_, h3⟩
      simp only [Bool.or_eq_true, Bool.and_eq_true, decide_eq_true_eq] at h1
      rcases h1 with h1 | h1
      · right; simp [gapLine, h1]
      · exact Or.inl h1.1
    · by_cases h2 : sepB b = true
      · have hg : gapL ins (b :: r) = gapL false r + 1 := by conv => lhs; unfold gapL; rw [if_neg h1, if_pos h2]
        obtain ⟨h, t, e, h3, h4⟩ := gap_lines r false
        have h3 : gapLine h = true := by rcases h3 with h3 | h3; cases h3; exact h3
        rw [hg, List.take_succ_cons, linesL_cons, e]
        by_cases h10 : b = 10
        · rw [if_pos h10]
          exact ⟨[], h :: t, rfl, Or.inr rfl, fun x hx => by rcases List.mem_cons.1 hx with rfl | hx; exact h3; exact h4 x hx⟩
        · rw [if_neg h10]
          refine ⟨b :: h, t, rfl, Or.inr ?_, h4⟩
          simp [gapLine, sep_blank h2 h10, h3]
      · have hg : gapL ins (b :: r) = 0 := by conv => lhs; unfold gapL; rw [if_neg h1, if_neg h2]
        rw [hg]
        exact ⟨[], [], rfl, Or.inr rfl, fun x h => by simp at h⟩
/-- Where a token follows, the last line of the gap has no comment. -/
theorem gap_end : ∀ (l : List UInt8) (ins : Bool), nog (l.drop (gapL ins l)) = true → (ins = true → 10 ∈ l.take (gapL ins l)) ∧ ∃ A y, linesL (l.take (gapL ins l)) = A ++ [y] ∧ ((ins = true ∧ A = []) ∨ (35 : UInt8) ∉ y)
  | [], ins, hn => by cases ins <;> cases hn
  | b :: r, ins, hn => by
    by_cases h1 : (decide (b = 35) || ins && decide (b ≠ 10)) = true
    · have hg : gapL ins (b :: r) = gapL true r + 1 := by conv => lhs; unfold gapL; rw [if_pos h1]
      rw [hg, List.drop_succ_cons] at hn
      obtain ⟨h10m, A, y, e, h2⟩ := gap_end r true hn
      have h10 : b ≠ 10 := fun e => by subst e; revert h1; cases ins <;> decide
      have hm := h10m rfl
      rw [hg, List.take_succ_cons, linesL_cons, if_neg h10, e]
      refine ⟨fun _ => List.mem_cons_of_mem _ hm, ?_⟩
      have hc := lines_count (r.take (gapL true r))
      have hpos : 0 < (r.take (gapL true r)).count 10 := List.count_pos_iff.2 hm
      rw [e, List.length_append] at hc
      cases A with
      | nil => simp at hc; omega
      | cons a A =>
        refine ⟨(b :: a) :: A, y, rfl, Or.inr ?_⟩
        rcases h2 with h2 | h2
        · cases h2.2
        · exact h2
    · by_cases h2 : sepB b = true
      · have hg : gapL ins (b :: r) = gapL false r + 1 := by conv => lhs; unfold gapL; rw [if_neg h1, if_pos h2]
        rw [hg, List.drop_succ_cons] at hn
        obtain ⟨_, A, y, e, h3⟩ := gap_end r false hn
        have h5 : (35 : UInt8) ∉ y := by rcases h3 with h3 | h3; cases h3.1; exact h3
        clear h3
        rw [hg, List.take_succ_cons, linesL_cons, e]
        by_cases h10 : b = 10
        · rw [if_pos h10]
          exact ⟨fun _ => by simp [h10], [] :: A, y, rfl, Or.inr h5⟩
        · rw [if_neg h10]
          have hins : ins = true → False := fun e => by subst e; simp [h10] at h1
          refine ⟨fun e => absurd e (fun e => hins e), ?_⟩
          have h35 : b ≠ 35 := fun e => by subst e; simp at h1
          cases A with
          | nil => exact ⟨[], b :: y, rfl, Or.inr (by simp [h5, Ne.symm h35])⟩
          | cons a A => exact ⟨(b :: a) :: A, y, rfl, Or.inr h5⟩
      · have hg : gapL ins (b :: r) = 0 := by conv => lhs; unfold gapL; rw [if_neg h1, if_neg h2]
        rw [hg]
        have hins : ins = true → b = 10 := fun e => by
          subst e
          by_cases h10 : b = 10
          · exact h10
          · simp [h10] at h1
        refine ⟨fun e => absurd (hins e) (fun e => h2 (sep10 e)), [], [], rfl, Or.inr (by simp)⟩
end Go.Proofs.YtcefaipjncohmaaGreatDoor
