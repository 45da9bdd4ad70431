/-
  What Holds and Refutes say of a system, in plain words. Conditions: none.
-/
import Derived.Test.YthjaelopmfjfeaaDoorZb
namespace Go.Proofs.YthjaelopmfjfeaaDoor
set_option linter.unusedVariables false
set_option linter.unusedSimpArgs false
open Go.RowKit Go.Shelf
set_option linter.unusedVariables false

theorem holdsTo_all {al : List (List Rat)} {bs xs : List Rat} {m : Nat} (h : holdsTo al bs xs m = 0) : ∀ k, k ≤ m → holdsTo al bs xs k = 0 := fun k hk => Classical.byContradiction fun hn => hn (by rw [← holdsTo_stop hn m hk, h])
theorem refTo_all {al : List (List Rat)} {ys : List Rat} {n : Nat} (h : refTo al ys n = 0) : ∀ k, k ≤ n → refTo al ys k = 0 := fun k hk => Classical.byContradiction fun hn => hn (by rw [← refTo_stop hn n hk, h])
section
variable {al : List (List Rat)} {bs xs ys : List Rat} {m n : Nat} (hm : al.length = m) (hw : ∀ a ∈ al, a.length = n) (hb : bs.length = m)
include hm hw hb
theorem tab_row {j : Nat} (hj : j < m) : ∃ a b, al[j]? = some a ∧ bs[j]? = some b ∧ a.length = n ∧ (∀ k, k < n → at2 (tabC m al bs) j k = nth a k) ∧ at2 (tabC m al bs) j n = b := by
  have ha : al[j]? = some (al[j]'(by omega)) := List.getElem?_eq_getElem (by omega)
  have hbj : bs[j]? = some (bs[j]'(by omega)) := List.getElem?_eq_getElem (by omega)
  have hl := hw _ (List.mem_of_getElem? ha)
  obtain ⟨h1, h2, _⟩ := tab_at hj ha hbj hl
  exact ⟨_, _, ha, hbj, hl, h1, h2⟩
theorem holds_zero (hx : xs.length = n) (h : holdsTo al bs xs m = 0) : Sol (tabC m al bs) m n xs := fun j hj => by
  obtain ⟨a, b, ha, hbj, hl, h1, h2⟩ := tab_row hm hw hb hj
  have h3 := holdsTo_all h (j + 1) hj
  have h4 : (if holdsTo al bs xs j = 0 then expI ((al[j]?).getD []) xs (nth bs j) else holdsTo al bs xs j) = 0 := h3
  rw [if_pos (holdsTo_all h j (by omega)), ha, nth_get hbj] at h4
  obtain ⟨_, h5⟩ := expI_ok h4
  have h6 := dotM_val h5
  have h7 : ((some a).getD [] : List Rat) = a := rfl
  rw [h7, hl] at h6
  rw [h2, h6]
  exact sumN_congr fun k hk => by rw [h1 k hk]
theorem sol_holds (hx : xs.length = n) (h : Sol (tabC m al bs) m n xs) : ∀ k, k ≤ m → holdsTo al bs xs k = 0 ∨ holdsTo al bs xs k = 17
  | 0, _ => .inl rfl
  | k + 1, hk => by
    obtain ⟨a, b, ha, hbj, hl, h1, h2⟩ := tab_row hm hw hb (show k < m from hk)
    show (if holdsTo al bs xs k = 0 then expI ((al[k]?).getD []) xs (nth bs k) else holdsTo al bs xs k) = 0 ∨ (if holdsTo al bs xs k = 0 then expI ((al[k]?).getD []) xs (nth bs k) else holdsTo al bs xs k) = 17
    rcases sol_holds hx h k (by omega) with h0 | h0
    · rw [if_pos h0, ha, nth_get hbj]
      refine expI_is (show a.length = xs.length by omega) ?_
      show sumN a.length (fun i => nth a i * nth xs i) = b
      rw [hl, ← h2, ← h k hk]
      exact sumN_congr fun i hi => by rw [h1 i hi]
    · rw [if_neg (by rw [h0]; decide), h0]; exact .inr rfl
theorem col_sum (c : Nat) (hc : c < n) : sumN m (fun q => nth ys q * nth (colL al c) q) = sumN m (fun q => nth ys q * at2 (tabC m al bs) q c) := sumN_congr fun q hq => by
  obtain ⟨a, b, ha, hbj, hl, h1, h2⟩ := tab_row hm hw hb hq
  rw [h1 c hc]
  unfold colL nth
  rw [List.getElem?_map, ha]; rfl
theorem b_sum : sumN m (fun q => nth ys q * nth bs q) = sumN m (fun q => nth ys q * at2 (tabC m al bs) q n) := sumN_congr fun q hq => by
  obtain ⟨a, b, ha, hbj, hl, h1, h2⟩ := tab_row hm hw hb hq
  rw [h2, nth_get hbj]
theorem ref_zero (hy : ys.length = m) (h1 : refTo al ys n = 0) (h2 : expI ys bs 1 = 0) : Ref (tabC m al bs) m n ys := by
  refine ⟨fun k hk => ?_, ?_⟩
  · have h3 := refTo_all h1 (k + 1) hk
    have h4 : (if refTo al ys k = 0 then expI ys (colL al k) 0 else refTo al ys k) = 0 := h3
    rw [if_pos (refTo_all h1 k (by omega))] at h4
    have h6 := dotM_val (expI_ok h4).2
    rw [hy, col_sum hm hw hb k hk] at h6
    exact h6.symm
  · have h6 := dotM_val (expI_ok h2).2
    rw [hy, b_sum hm hw hb] at h6
    exact h6.symm
theorem ref_cols (hy : ys.length = m) (h : Ref (tabC m al bs) m n ys) : ∀ k, k ≤ n → refTo al ys k = 0 ∨ refTo al ys k = 17
  | 0, _ => .inl rfl
  | k + 1, hk => by
    show (if refTo al ys k = 0 then expI ys (colL al k) 0 else refTo al ys k) = 0 ∨ (if refTo al ys k = 0 then expI ys (colL al k) 0 else refTo al ys k) = 17
    rcases ref_cols hy h k (by omega) with h0 | h0
    · rw [if_pos h0]
      refine expI_is (by rw [col_len, hy, hm]) ?_
      rw [hy, col_sum hm hw hb k hk]
      exact h.1 k hk
    · rw [if_neg (by rw [h0]; decide), h0]; exact .inr rfl
theorem ref_refutes (hy : ys.length = m) (h : Ref (tabC m al bs) m n ys) : (if refTo al ys n = 0 then expI ys bs 1 else refTo al ys n) = 0 ∨ (if refTo al ys n = 0 then expI ys bs 1 else refTo al ys n) = 17 := by
  rcases ref_cols hm hw hb hy h n (Nat.le_refl _) with h0 | h0
  · rw [if_pos h0]
    refine expI_is (by rw [hy, hb]) ?_
    rw [hy, b_sum hm hw hb]
    exact h.2
  · rw [if_neg (by rw [h0]; decide), h0]; exact .inr rfl
end
end Go.Proofs.YthjaelopmfjfeaaDoor
