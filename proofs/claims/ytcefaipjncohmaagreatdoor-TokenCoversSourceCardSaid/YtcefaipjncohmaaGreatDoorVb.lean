/-
  TokenCoversSource in plain words: the place of a token among the lines. No condition.
-/
import Derived.Test.YtcefaipjncohmaaGreatDoorVa
namespace Go.Proofs.YtcefaipjncohmaaGreatDoor
set_option linter.unusedVariables false
set_option linter.unusedSimpArgs false

/-- The place p of a text is in line ln, at column cl. -/
def PosAt (l : List UInt8) (p ln cl : Nat) : Prop := ∃ A x, linesL (l.take p) = A ++ [x] ∧ A.length + 1 = ln ∧ x.length + 1 = cl
theorem pos_zero (l : List UInt8) : PosAt l 0 1 1 := ⟨[], [], rfl, rfl, rfl⟩
theorem split_last {m : List (List UInt8)} (h : m ≠ []) : ∃ A y, m = A ++ [y] := ⟨m.dropLast, m.getLast h, (List.dropLast_concat_getLast h).symm⟩
theorem take_add_app (l : List UInt8) (p g : Nat) : l.take (p + g) = l.take p ++ (l.drop p).take g := List.take_add
/-- The text's lines, by what is in front of a place, a piece at it, and what is behind the piece. -/
theorem lines_three (l : List UInt8) (p g : Nat) {A : List (List UInt8)} {x : List UInt8} (h : linesL (l.take p) = A ++ [x]) :
    ∃ B y h2 t2, linesL ((l.drop p).take g) = B ++ [y] ∧ linesL (l.drop (p + g)) = h2 :: t2 ∧ linesL (l.take (p + g)) = glue (A ++ [x]) (B ++ [y]) ∧ linesL l = glue (A ++ [x]) (B ++ (y ++ h2) :: t2) := by
  obtain ⟨B, y, e1⟩ := split_last (linesL_ne ((l.drop p).take g))
  obtain ⟨h2, t2, e2⟩ := linesL_ex (l.drop (p + g))
  refine ⟨B, y, h2, t2, e1, e2, ?_, ?_⟩
  · rw [take_add_app, lines_app, h, e1]
  · have e3 : l = l.take p ++ ((l.drop p).take g ++ l.drop (p + g)) := by
      rw [← List.drop_drop, List.take_append_drop, List.take_append_drop]
    conv => lhs; rw [e3]
    rw [lines_app, lines_app, h, e1, e2, glue_at]
theorem pos_gap {l : List UInt8} {p ln cl : Nat} (h : PosAt l p ln cl) (g : Nat) : PosAt l (p + g) (ln + ((l.drop p).take g).count 10) (colL cl ((l.drop p).take g)) := by
  obtain ⟨A, x, e, h1, h2⟩ := h
  obtain ⟨B, y, hh, tt, e1, _, e3, _⟩ := lines_three l p g e
  obtain ⟨C, z, f1, f2, f3⟩ := col_lines ((l.drop p).take g) x
  obtain ⟨h4, t4, e4⟩ := linesL_ex ((l.drop p).take g)
  rw [← e1] at e3
  rw [e4, glue_at] at e3
  rw [e4, glue_one] at f1
  refine ⟨A ++ C, z, ?_, ?_, ?_⟩
  · rw [e3, List.append_assoc, ← f1]
  · rw [List.length_append, f3]; omega
  · rw [← h2, f2]
theorem count_none {T : List UInt8} (h : (10 : UInt8) ∉ T) : T.count 10 = 0 := List.count_eq_zero.2 h
theorem pos_tok {l : List UInt8} {p ln cl k : Nat} (h : PosAt l p ln cl) (h10 : (10 : UInt8) ∉ (l.drop p).take k) (hk : k ≤ l.length - p) : PosAt l (p + k) ln (cl + k) := by
  have h2 := pos_gap h k
  rw [count_none h10, colL_none _ _ h10, List.length_take, List.length_drop] at h2
  rw [Nat.min_eq_left hk] at h2
  exact h2
/-- A piece without a newline lies in its line. -/
theorem tok_line {l : List UInt8} {p ln cl k : Nat} (h : PosAt l p ln cl) (h10 : (10 : UInt8) ∉ (l.drop p).take k) (hk : k ≤ l.length - p) :
    ∃ line, (linesL l)[ln - 1]? = some line ∧ cl - 1 + k ≤ line.length ∧ (line.take (cl - 1 + k)).drop (cl - 1) = (l.drop p).take k := by
  obtain ⟨A, x, e, h1, h2⟩ := h
  obtain ⟨B, y, hh, tt, e1, e2, e3, e4⟩ := lines_three l p k e
  rw [lines_none _ h10] at e1
  have hB : B = [] := by
    cases B with
    | nil => rfl
    | cons a b => simp at e1
  subst hB
  have hy : y = (l.drop p).take k := by simpa using e1.symm
  have hyl : y.length = k := by rw [hy, List.length_take, List.length_drop]; omega
  rw [List.nil_append, glue_at] at e4
  refine ⟨x ++ (y ++ hh), ?_, ?_, ?_⟩
  · rw [e4, ← h1, Nat.add_sub_cancel, List.getElem?_append_right (Nat.le_refl _), Nat.sub_self]
    rfl
  · rw [← h2]
    simp only [List.length_append]
    omega
  · rw [← h2, Nat.add_sub_cancel, ← List.append_assoc, List.take_append_of_le_length (by simp only [List.length_append]; omega), List.take_of_length_le (by simp only [List.length_append]; omega), List.drop_left, hy]
theorem gap_mem (l : List UInt8) : ∀ S ∈ linesL (l.take (gapL false l)), gapLine S = true := by
  obtain ⟨h, t, e, h1, h2⟩ := gap_lines l false
  rw [e]
  intro S hS
  rcases List.mem_cons.1 hS with rfl | hS
  · rcases h1 with h1 | h1
    · cases h1
    · exact h1
  · exact h2 S hS
theorem gap_last {l : List UInt8} (hn : nog (l.drop (gapL false l)) = true) {B : List (List UInt8)} {y : List UInt8} (e : linesL (l.take (gapL false l)) = B ++ [y]) : (35 : UInt8) ∉ y := by
  obtain ⟨_, A, z, e2, h⟩ := gap_end l false hn
  rw [e] at e2
  have : y = z := by simpa using (List.append_inj' e2 rfl).2
  rw [this]
  rcases h with h | h
  · cases h.1
  · exact h
/-- The lines between a place and the next token. -/
theorem seg_law {l : List UInt8} {p ln cl ln2 cl2 : Nat} (h : PosAt l p ln cl) (hl2 : ln + ((l.drop p).take (gapL false (l.drop p))).count 10 = ln2) (hc2 : colL cl ((l.drop p).take (gapL false (l.drop p))) = cl2) (n : Nat) (hn1 : ln ≤ n) (hn2 : n ≤ ln2) :
    ∃ line, (linesL l)[n - 1]? = some line ∧ (if n = ln then cl - 1 else 0) ≤ (if n = ln2 then cl2 - 1 else line.length) ∧ (if n = ln2 then cl2 - 1 else line.length) ≤ line.length ∧
      gapLine ((line.take (if n = ln2 then cl2 - 1 else line.length)).drop (if n = ln then cl - 1 else 0)) = true ∧
      (nog (l.drop (p + gapL false (l.drop p))) = true → n = ln2 → (35 : UInt8) ∉ (line.take (if n = ln2 then cl2 - 1 else line.length)).drop (if n = ln then cl - 1 else 0)) := by
  obtain ⟨A, x, e, h1, h2⟩ := h
  obtain ⟨B, y, hh, tt, e1, e2, e3, e4⟩ := lines_three l p (gapL false (l.drop p)) e
  have hmem := gap_mem (l.drop p)
  have hlast := fun hn => gap_last (l := l.drop p) hn e1
  rw [List.drop_drop] at hlast
  obtain ⟨C, z, f1, f2, f3⟩ := col_lines ((l.drop p).take (gapL false (l.drop p))) x
  rw [h2, hc2] at f2
  rw [e1] at f1 hmem
  have hcnt := lines_count ((l.drop p).take (gapL false (l.drop p)))
  rw [e1, List.length_append, List.length_singleton] at hcnt
  have hBl : B.length = ln2 - ln := by omega
  cases B with
  | nil =>
    have hnl : n = ln := by simp at hBl; omega
    have hnl2 : n = ln2 := by simp at hBl; omega
    rw [List.nil_append] at f1 e4 hmem
    rw [glue_one] at f1
    have hz : z = x ++ y := by
      have := (List.append_inj' (show ([] : List (List UInt8)) ++ [x ++ y] = C ++ [z] from f1) rfl).2
      simpa using this.symm
    rw [glue_at] at e4
    have hcl : cl - 1 = x.length := by omega
    have hcl2 : cl2 - 1 = x.length + y.length := by rw [f2, hz, List.length_append]; omega
    have hS : ((x ++ (y ++ hh)).take (x.length + y.length)).drop x.length = y := by
      rw [← List.append_assoc, List.take_append_of_le_length (by simp), List.take_of_length_le (by simp), List.drop_left]
    refine ⟨x ++ (y ++ hh), ?_, ?_, ?_, ?_, ?_⟩
    · rw [e4, hnl, ← h1, Nat.add_sub_cancel, List.getElem?_append_right (Nat.le_refl _), Nat.sub_self]; rfl
    · rw [if_pos hnl, if_pos hnl2, hcl, hcl2]; omega
    · rw [if_pos hnl2, hcl2]; simp only [List.length_append]; omega
    · rw [if_pos hnl, if_pos hnl2, hcl, hcl2, hS]; exact hmem y (by simp)
    · intro hn _
      rw [if_pos hnl, if_pos hnl2, hcl, hcl2, hS]; exact hlast hn
  | cons b0 B =>
    simp only [List.length_cons] at hBl hcnt
    have hne : ln ≠ ln2 := by omega
    rw [List.cons_append, glue_at] at e4
    rw [List.cons_append, glue_one] at f1
    have hz : z = y := by
      have : (x ++ b0) :: (B ++ [y]) = C ++ [z] := f1
      rw [← List.cons_append] at this
      have := (List.append_inj' this rfl).2
      simpa using this.symm
    have hcl : cl - 1 = x.length := by omega
    have hcl2 : cl2 - 1 = y.length := by rw [f2, hz]; omega
    by_cases hnl : n = ln
    · have hnl2 : n ≠ ln2 := fun e => hne (hnl.symm.trans e)
      refine ⟨x ++ b0, ?_, ?_, ?_, ?_, ?_⟩
      · rw [e4, hnl, ← h1, Nat.add_sub_cancel, List.getElem?_append_right (Nat.le_refl _), Nat.sub_self]; rfl
      · rw [if_pos hnl, if_neg hnl2, hcl]; simp
      · rw [if_neg hnl2]; exact Nat.le_refl _
      · rw [if_pos hnl, if_neg hnl2, hcl, List.take_length, List.drop_left]; exact hmem b0 (by simp)
      · exact fun _ e => absurd e hnl2
    · obtain ⟨i, hi⟩ : ∃ i, n = ln + 1 + i := ⟨n - ln - 1, by omega⟩
      have hget : (linesL l)[n - 1]? = (B ++ (y ++ hh) :: tt)[i]? := by
        rw [e4, List.getElem?_append_right (by omega)]
        have : n - 1 - A.length = i + 1 := by omega
        rw [this]; rfl
      by_cases hnl2 : n = ln2
      · have hiB : i = B.length := by omega
        refine ⟨y ++ hh, ?_, ?_, ?_, ?_, ?_⟩
        · rw [hget, hiB, List.getElem?_append_right (Nat.le_refl _), Nat.sub_self]; rfl
        · rw [if_neg hnl]; exact Nat.zero_le _
        · rw [if_pos hnl2, hcl2]; simp
        · rw [if_neg hnl, if_pos hnl2, hcl2, List.take_left, List.drop_zero]; exact hmem y (by simp)
        · intro hn _
          rw [if_neg hnl, if_pos hnl2, hcl2, List.take_left, List.drop_zero]; exact hlast hn
      · have hiB : i < B.length := by omega
        refine ⟨B[i], ?_, ?_, ?_, ?_, ?_⟩
        · rw [hget, List.getElem?_append_left hiB]; exact List.getElem?_eq_getElem hiB
        · rw [if_neg hnl]; exact Nat.zero_le _
        · rw [if_neg hnl2]; exact Nat.le_refl _
        · rw [if_neg hnl, if_neg hnl2, List.take_length, List.drop_zero]; exact hmem _ (by simp [List.getElem_mem])
        · exact fun _ e => absurd e hnl2
/-- The end's place. -/
theorem pos_end {l : List UInt8} {ln cl : Nat} (h : PosAt l l.length ln cl) : (linesL l).length = ln ∧ ∃ line, (linesL l)[ln - 1]? = some line ∧ line.length + 1 = cl := by
  obtain ⟨A, x, e, h1, h2⟩ := h
  rw [List.take_length] at e
  refine ⟨by rw [e, List.length_append]; exact h1, x, ?_, h2⟩
  rw [e, ← h1, Nat.add_sub_cancel, List.getElem?_append_right (Nat.le_refl _), Nat.sub_self]
  rfl
end Go.Proofs.YtcefaipjncohmaaGreatDoor
