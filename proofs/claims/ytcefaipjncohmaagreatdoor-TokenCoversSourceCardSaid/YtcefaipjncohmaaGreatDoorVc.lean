/-
  TokenCoversSource in plain words: what the library's Split, Cut, Trim and Contains make of lines. No condition.
-/
import Derived.Lib.Split
import Derived.Lib.SlTrimSet
import Derived.Lib.IndexMore
import Derived.Lib.IndexBytes
import Derived.Test.YtcefaipjncohmaaGreatDoorVb
namespace Go.Proofs.YtcefaipjncohmaaGreatDoor
set_option linter.unusedVariables false
set_option linter.unusedSimpArgs false

theorem bidx_none : ∀ {l : List UInt8} {c : UInt8}, c ∉ l → Lib.indexByte l c = -1
  | [], _, _ => rfl
  | b :: l, c, h => by
    have h1 : ¬ (b == c) = true := fun e => h (by rw [eq_of_beq e]; exact List.mem_cons_self ..)
    unfold Lib.indexByte
    rw [if_neg h1, bidx_none (fun e => h (List.mem_cons_of_mem _ e))]
    rfl
theorem bidx_at : ∀ {a r : List UInt8} {c : UInt8}, c ∉ a → Lib.indexByte (a ++ c :: r) c = a.length
  | [], r, c, _ => by
    show Lib.indexByte (c :: r) c = _
    unfold Lib.indexByte
    rw [if_pos (beq_self_eq_true c)]; rfl
  | b :: l, r, c, h => by
    have h1 : ¬ (b == c) = true := fun e => h (by rw [eq_of_beq e]; exact List.mem_cons_self ..)
    have h2 := bidx_at (r := r) (fun e => h (List.mem_cons_of_mem b e))
    show Lib.indexByte (b :: (l ++ c :: r)) c = _
    unfold Lib.indexByte
    rw [if_neg h1, h2, if_neg (by rw [beq_iff_eq]; omega), List.length_cons]
    omega
theorem lcut_none {l : List UInt8} {c : UInt8} (h : c ∉ l) : Lib.cut l [c] = (l, [], false) := by
  unfold Lib.cut
  rw [Lib.index_one, bidx_none h]; rfl
theorem lcut_at {a r : List UInt8} {c : UInt8} (h : c ∉ a) : Lib.cut (a ++ c :: r) [c] = (a, r, true) := by
  have e : (a ++ c :: r).drop (a.length + 1) = r := by
    rw [← List.drop_drop, List.drop_left]; rfl
  unfold Lib.cut
  rw [Lib.index_one, bidx_at h, if_pos (by omega), Int.toNat_natCast, List.take_left, List.length_singleton, e]
theorem split_at {l : List UInt8} {c : UInt8} (h : c ∈ l) : ∃ a r, l = a ++ c :: r ∧ c ∉ a := by
  induction l with
  | nil => simp at h
  | cons b l ih =>
    by_cases e : b = c
    · exact ⟨[], l, by rw [e]; rfl, by simp⟩
    · obtain ⟨a, r, e1, e2⟩ := ih (by rcases List.mem_cons.1 h with h | h; exact absurd h.symm e; exact h)
      exact ⟨b :: a, r, by rw [e1]; rfl, by simp [e2, Ne.symm e]⟩
theorem split_lines (n : Nat) : ∀ l : List UInt8, l.length ≤ n → Lib.splitK [10] 0 (Lib.count l [10]) l = linesL l := by
  induction n with
  | zero =>
    intro l hl
    have : l = [] := List.eq_nil_of_length_eq_zero (by omega)
    subst this
    rfl
  | succ n ih =>
    intro l hl
    by_cases h : (10 : UInt8) ∈ l
    · obtain ⟨a, r, rfl, ha⟩ := split_at h
      have hi : Lib.index (a ++ 10 :: r) [10] = a.length := by rw [Lib.index_one, bidx_at ha]
      have hd : (a ++ 10 :: r).drop (a.length + 1) = r := by rw [← List.drop_drop, List.drop_left]; rfl
      have hm : ¬ (Lib.index (a ++ 10 :: r) [10] == -1) = true := fun e => by have := beq_iff_eq.1 e; omega
      have hr : r.length ≤ n := by simp only [List.length_append, List.length_cons] at hl; omega
      rw [Lib.count_hit (by simp) hi, List.length_singleton, hd, Nat.add_comm 1]
      show (if Lib.index (a ++ 10 :: r) [10] == -1 then _ else _) = _
      rw [if_neg hm, hi, Int.toNat_natCast, Nat.add_zero, List.take_left, List.length_singleton, hd, ih r hr, lines_app, lines_none a ha, linesL_cons, if_pos rfl, glue_one, List.append_nil]
    · have hi : Lib.index l [10] = -1 := by rw [Lib.index_one, bidx_none h]
      rw [Lib.count_miss hi, lines_none l h]
      rfl
/-- A line of a gap: what Cut at '#' and Trim of blanks leave. -/
theorem gap_cut : ∀ S : List UInt8, gapLine S = true → ∃ a, (Lib.cut S [35]).1 = a ∧ (∀ b ∈ a, blankB b = true) ∧ ((35 : UInt8) ∉ S → (Lib.cut S [35]).2.2 = false)
  | S, h => by
    have hall : ∀ (a r : List UInt8), gapLine (a ++ r) = true → (35 : UInt8) ∉ a → ∀ b ∈ a, blankB b = true := by
      intro a
      induction a with
      | nil => intro r _ _ b hb; simp at hb
      | cons x a ih =>
        intro r hg hn b hb
        have hx : x ≠ 35 := fun e => hn (by simp [e])
        have hg2 : (decide (x = 35) || blankB x && gapLine (a ++ r)) = true := hg
        simp only [hx, decide_false, Bool.false_or, Bool.and_eq_true] at hg2
        rcases List.mem_cons.1 hb with rfl | hb
        · exact hg2.1
        · exact ih r hg2.2 (fun e => hn (List.mem_cons_of_mem _ e)) b hb
    by_cases h35 : (35 : UInt8) ∈ S
    · obtain ⟨a, r, rfl, ha⟩ := split_at h35
      rw [lcut_at ha]
      exact ⟨a, rfl, hall a _ h ha, fun e => absurd h35 e⟩
    · rw [lcut_none h35]
      refine ⟨S, rfl, hall S [] (by rw [List.append_nil]; exact h) h35, fun _ => rfl⟩
theorem trim_blank {a : List UInt8} (h : ∀ b ∈ a, blankB b = true) : Lib.trimS a [32, 9, 13] = [] := by
  have hc : ∀ b, blankB b = true → ([32, 9, 13] : List UInt8).contains b = true := fun b hb => by
    simp only [blankB, Bool.or_eq_true, decide_eq_true_eq] at hb
    rcases hb with (rfl | rfl) | rfl <;> decide
  have hd : ∀ l : List UInt8, (∀ b ∈ l, blankB b = true) → l.dropWhile (([32, 9, 13] : List UInt8).contains ·) = [] := by
    intro l
    induction l with
    | nil => intro _; rfl
    | cons x l ih =>
      intro hl
      rw [List.dropWhile_cons_of_pos (hc x (hl x (by simp)))]
      exact ih fun b hb => hl b (List.mem_cons_of_mem _ hb)
  unfold Lib.trimS Lib.trimLeftS Lib.trimRightS
  rw [hd a.reverse (fun b hb => h b (by simpa using hb))]
  rfl
theorem contains_none {a : List UInt8} (h : (10 : UInt8) ∉ a) : decide (0 ≤ Lib.indexByte a 10) = false := by
  rw [bidx_none h]; rfl
end Go.Proofs.YtcefaipjncohmaaGreatDoor
