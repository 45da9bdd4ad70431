/-
  What both sides read of a text, in plain words: the same; and a text says the head. No program's walk in this text. Conditions: none.
-/
import Derived.Test.YtbgndopgllnmaaaDoorKFn
import Derived.Lib.IndexBytes
namespace Go.Proofs.YtbgndopgllnmaaaDoor
set_option linter.unusedVariables false
set_option linter.unusedSimpArgs false
open Go.RowKit Go.Shelf

/-- What is read of m + 1 groups. -/
def posG : Nat → List UInt8 → Option (List Nat)
  | 0, l => (wordV l).map ([·])
  | m + 1, l => if l[4]? = some 46 then match wordV (l.take 4) with | some x => (posG m (l.drop 5)).map (x :: ·) | none => none else none
theorem posG_succ (m : Nat) (l : List UInt8) : posG (m + 1) l = if l[4]? = some 46 then match wordV (l.take 4) with | some x => (posG m (l.drop 5)).map (x :: ·) | none => none else none := rfl
theorem wordL_dot : ∀ {l : List UInt8} {x : Nat}, (46 : UInt8) ∈ l → wordL x l = none
  | [], _, h => by cases h
  | c :: r, x, h => by
    unfold wordL
    rcases List.mem_cons.1 h with rfl | h
    · rfl
    · split
      · exact wordL_dot h
      · rfl
theorem wordV_dot {l : List UInt8} (h : (46 : UInt8) ∈ l) : wordV l = none := by
  unfold wordV
  split
  · exact wordL_dot h
  · rfl
theorem ib_none {c : UInt8} : ∀ {l : List UInt8}, Lib.indexByte l c = -1 → c ∉ l
  | [], _, h => by cases h
  | b :: l, e, h => by
    unfold Lib.indexByte at e
    split at e
    · cases e
    · rename_i hb
      split at e
      · rename_i h1
        rcases List.mem_cons.1 h with rfl | h
        · exact hb (beq_self_eq_true _)
        · exact ib_none (beq_iff_eq.1 h1) h
      · rename_i h1
        have := Lib.indexByte_ge l c
        have h1' : Lib.indexByte l c ≠ -1 := fun k => h1 (beq_iff_eq.2 k)
        omega
theorem ib_hit {c : UInt8} : ∀ {l : List UInt8} {i : Nat}, Lib.indexByte l c = (i : Int) → l[i]? = some c ∧ ∀ j, j < i → l[j]? ≠ some c
  | [], i, e => by
    have : (-1 : Int) = (i : Int) := e
    omega
  | b :: l, i, e => by
    unfold Lib.indexByte at e
    split at e
    · rename_i hb
      have hi : i = 0 := by omega
      subst hi
      exact ⟨by rw [beq_iff_eq.1 hb]; rfl, fun j hj => absurd hj (Nat.not_lt_zero _)⟩
    · rename_i hb
      split at e
      · omega
      · rename_i h1
        have := Lib.indexByte_ge l c
        have h1' : Lib.indexByte l c ≠ -1 := fun k => h1 (beq_iff_eq.2 k)
        obtain ⟨t, rfl⟩ : ∃ t, i = t + 1 := ⟨i - 1, by omega⟩
        obtain ⟨h2, h3⟩ := ib_hit (l := l) (i := t) (c := c) (by omega)
        refine ⟨h2, fun j hj => ?_⟩
        cases j with
        | zero => intro k; injection k with k; exact hb (by rw [k]; exact beq_self_eq_true _)
        | succ j => exact h3 j (by omega)
def wordsLL : List (List UInt8) → Option (List Nat)
  | [] => some []
  | g :: r => match wordV g with | some x => (wordsLL r).map (x :: ·) | none => none
theorem wordsF_LL : ∀ l : List ByteArray, wordsF l = wordsLL (l.map (·.data.toList))
  | [] => rfl
  | s :: r => by
    unfold wordsF
    rw [wordsF_LL r]
    rfl
theorem split_pos : ∀ (m k : Nat) (l : List UInt8), m + 1 ≤ k ∨ l.length ≤ k → (if (Lib.splitK [46] 0 k l).length = m + 1 then wordsLL (Lib.splitK [46] 0 k l) else none) = posG m l
  | m, 0, l, hk => by
    have hl : l = [] := by
      cases l with
      | nil => rfl
      | cons a r => simp at hk
    subst hl
    cases m with
    | zero => rfl
    | succ m => rfl
  | m, k + 1, l, hk => by
    unfold Lib.splitK
    rw [Lib.index_one]
    by_cases hn : Lib.indexByte l 46 = -1
    · rw [if_pos (beq_iff_eq.2 hn)]
      have hno := ib_none hn
      cases m with
      | zero =>
        rw [if_pos (show [l].length = 0 + 1 from rfl)]
        show (match wordV l with | some x => (some []).map (x :: ·) | none => none) = (wordV l).map ([·])
        cases wordV l <;> rfl
      | succ m =>
        rw [if_neg (by simp)]
        rw [posG_succ]
        rw [if_neg fun h => hno (List.mem_of_getElem? h)]
    · rw [if_neg fun h => hn (beq_iff_eq.1 h)]
      have hge := Lib.indexByte_ge l 46
      obtain ⟨i, hi⟩ : ∃ i : Nat, Lib.indexByte l 46 = (i : Int) := ⟨(Lib.indexByte l 46).toNat, by omega⟩
      obtain ⟨h1, h2⟩ := ib_hit hi
      have hil := (List.getElem?_eq_some_iff.1 h1).1
      have hti : (Lib.indexByte l 46).toNat = i := by omega
      rw [hti]
      show (if (l.take (i + 0) :: Lib.splitK [46] 0 k (l.drop (i + 1))).length = m + 1 then wordsLL (l.take (i + 0) :: Lib.splitK [46] 0 k (l.drop (i + 1))) else none) = _
      rw [Nat.add_zero]
      cases m with
      | zero =>
        have hpos : 0 < (Lib.splitK [46] 0 k (l.drop (i + 1))).length := by
          cases k with
          | zero => exact Nat.zero_lt_one
          | succ k => unfold Lib.splitK; split <;> simp
        rw [if_neg (by rw [List.length_cons]; omega)]
        show none = (wordV l).map ([·])
        rw [wordV_dot (List.mem_of_getElem? h1)]; rfl
      | succ m =>
        have ih := split_pos m k (l.drop (i + 1)) (by rw [List.length_drop]; omega)
        have e : (if (l.take i :: Lib.splitK [46] 0 k (l.drop (i + 1))).length = m + 1 + 1 then wordsLL (l.take i :: Lib.splitK [46] 0 k (l.drop (i + 1))) else none) = match wordV (l.take i) with | some x => (posG m (l.drop (i + 1))).map (x :: ·) | none => none := by
          rw [← ih]
          by_cases hc : (Lib.splitK [46] 0 k (l.drop (i + 1))).length = m + 1
          · rw [if_pos (by rw [List.length_cons, hc]), if_pos hc]; rfl
          · rw [if_neg (by rw [List.length_cons]; omega), if_neg hc]
            cases wordV (l.take i) <;> rfl
        rw [e, posG_succ]
        by_cases h4 : i = 4
        · subst h4
          rw [if_pos h1]
        · have hL : wordV (l.take i) = none := by
            unfold wordV
            rw [if_neg (by rw [List.length_take]; omega)]
          rw [hL]
          by_cases hd : l[4]? = some 46
          · rw [if_pos hd]
            have hi4 : i < 4 := by
              rcases Nat.lt_or_ge i 4 with h | h
              · exact h
              · exact absurd hd (h2 4 (by omega))
            have hm : (46 : UInt8) ∈ l.take 4 := List.mem_of_getElem? (i := i) (by rw [List.getElem?_take, if_pos hi4]; exact h1)
            rw [wordV_dot hm]
          · rw [if_neg hd]
theorem parseM_pos (s : ByteArray) : parseM s = posG 9 s.data.toList := by
  have hd : (groupsOf s).map (·.data.toList) = Lib.splitK [46] 0 (min 11 (s.size + 1) - 1) s.data.toList := Lib.splitB_data { data := #[46] } 0 _ s
  have hl : (groupsOf s).length = (Lib.splitK [46] 0 (min 11 (s.size + 1) - 1) s.data.toList).length := by rw [← hd, List.length_map]
  unfold parseM
  rw [wordsF_LL, hd, hl]
  have hb := bytes_size s
  exact split_pos 9 _ _ (by omega)
theorem posG_len : ∀ {m : Nat} {l : List UInt8} {xs : List Nat}, posG m l = some xs → l.length = 5 * m + 4
  | 0, l, xs, h => by
    unfold posG wordV at h
    split at h
    · omega
    · cases h
  | m + 1, l, xs, h => by
    rw [posG_succ] at h
    split at h
    · rename_i h4
      have hl := (List.getElem?_eq_some_iff.1 h4).1
      split at h
      · cases hp : posG m (l.drop 5) with
        | none => rw [hp] at h; cases h
        | some ys =>
          have := posG_len hp
          rw [List.length_drop] at this
          omega
      · cases h
    · cases h
theorem posR_G {b : List UInt8} (hb : b.length = 49) : ∀ (m i : Nat), i + m = 9 → posR b (m + 1) i = posG m (b.drop (5 * i))
  | 0, i, h => by
    have hi : i = 9 := by omega
    subst hi
    unfold posR posG
    rw [if_neg (by omega), List.take_of_length_le (by rw [List.length_drop]; omega)]
    have : wordV (b.drop (5 * 9)) = wordL 0 (b.drop (5 * 9)) := by unfold wordV; rw [if_pos (by rw [List.length_drop]; omega)]
    rw [this]
    cases wordL 0 (b.drop (5 * 9)) <;> rfl
  | m + 1, i, h => by
    have ih := posR_G hb m (i + 1) (by omega)
    unfold posR posG
    rw [ih]
    have h4 : (b.drop (5 * i))[4]? = b[5 * i + 4]? := List.getElem?_drop
    have hw : wordV ((b.drop (5 * i)).take 4) = wordL 0 ((b.drop (5 * i)).take 4) := by unfold wordV; rw [if_pos (by rw [List.length_take, List.length_drop]; omega)]
    rw [h4, hw, List.drop_drop, show 5 * i + 5 = 5 * (i + 1) by omega]
    by_cases hc : b[5 * i + 4]? = some 46
    · rw [if_neg (fun k => k.2 hc), if_pos hc]
      cases wordL 0 (List.take 4 (List.drop (5 * i) b)) <;> rfl
    · rw [if_pos ⟨by omega, hc⟩, if_neg hc]
theorem posM_G (b : List UInt8) : posM b = posG 9 b := by
  unfold posM
  by_cases hb : b.length = 49
  · rw [if_pos hb]; exact posR_G hb 9 0 rfl
  · rw [if_neg hb]
    cases hp : posG 9 b with
    | none => rfl
    | some xs => exact absurd (posG_len hp) hb
theorem wordV_hex {x : Nat} (h : x < 65536) : wordV (hexL x) = some x := by
  have d1 := dig_hit _ (x / 4096 % 16) (Nat.mod_lt _ (by decide)) rfl
  have d2 := dig_hit _ (x / 256 % 16) (Nat.mod_lt _ (by decide)) rfl
  have d3 := dig_hit _ (x / 16 % 16) (Nat.mod_lt _ (by decide)) rfl
  have d4 := dig_hit _ (x / 1 % 16) (Nat.mod_lt _ (by decide)) rfl
  unfold wordV
  rw [if_pos (show (hexL x).length = 4 from rfl)]
  unfold hexL
  simp only [wordL, d1, d2, d3, d4]
  congr 1
  omega
theorem hex_wordV {l : List UInt8} {x : Nat} (h : wordV l = some x) : l = hexL x ∧ x < 65536 := by
  unfold wordV at h
  split at h
  · rename_i h4
    obtain ⟨a, b, c, d, rfl⟩ : ∃ a b c d, l = [a, b, c, d] := by
      rcases l with _ | ⟨a, _ | ⟨b, _ | ⟨c, _ | ⟨d, _ | ⟨e, r⟩⟩⟩⟩⟩
      · simp at h4
      · simp at h4
      · simp at h4
      · simp at h4
      · exact ⟨a, b, c, d, rfl⟩
      · simp at h4
    cases ha : digV a with
    | none => simp only [wordL, ha] at h; cases h
    | some p =>
      cases hb : digV b with
      | none => simp only [wordL, ha, hb] at h; cases h
      | some q =>
        cases hc : digV c with
        | none => simp only [wordL, ha, hb, hc] at h; cases h
        | some r =>
          cases hd : digV d with
          | none => simp only [wordL, ha, hb, hc, hd] at h; cases h
          | some t =>
            simp only [wordL, ha, hb, hc, hd] at h
            injection h with h
            have l1 := digV_lt ha
            have l2 := digV_lt hb
            have l3 := digV_lt hc
            have l4 := digV_lt hd
            have e1 : x / 4096 % 16 = p := by omega
            have e2 : x / 256 % 16 = q := by omega
            have e3 : x / 16 % 16 = r := by omega
            have e4 : x / 1 % 16 = t := by omega
            refine ⟨?_, by omega⟩
            unfold hexL
            rw [e1, e2, e3, e4, dig_back _ _ ha, dig_back _ _ hb, dig_back _ _ hc, dig_back _ _ hd]
  · cases h
/-- The text of numbers. -/
def textL : List Nat → List UInt8
  | [] => []
  | [x] => hexL x
  | x :: y :: r => hexL x ++ 46 :: textL (y :: r)
theorem posG_text : ∀ {m : Nat} {l : List UInt8} {xs : List Nat}, posG m l = some xs → l = textL xs ∧ xs.length = m + 1 ∧ ∀ x ∈ xs, x < 65536
  | 0, l, xs, h => by
    unfold posG at h
    cases hw : wordV l with
    | none => rw [hw] at h; cases h
    | some x =>
      rw [hw] at h
      have h : some [x] = some xs := h
      injection h with h
      subst h
      obtain ⟨e, hx⟩ := hex_wordV hw
      exact ⟨e, rfl, fun y hy => by rw [List.mem_singleton.1 hy]; exact hx⟩
  | m + 1, l, xs, h => by
    rw [posG_succ] at h
    split at h
    · rename_i h4
      split at h
      · rename_i x hw
        cases hp : posG m (l.drop 5) with
        | none => rw [hp] at h; cases h
        | some ys =>
          rw [hp] at h
          have h : some (x :: ys) = some xs := h
          injection h with h
          subst h
          obtain ⟨e, hl, hlt⟩ := posG_text hp
          obtain ⟨e2, hx⟩ := hex_wordV hw
          refine ⟨?_, by rw [List.length_cons, hl], fun y hy => ?_⟩
          · obtain ⟨y, r, rfl⟩ : ∃ y r, ys = y :: r := by
              cases ys with
              | nil => simp at hl
              | cons y r => exact ⟨y, r, rfl⟩
            show l = hexL x ++ 46 :: textL (y :: r)
            rw [← e, ← e2]
            have h5 := (List.getElem?_eq_some_iff.1 h4)
            obtain ⟨h5, h6⟩ := h5
            have : l.drop 4 = 46 :: l.drop 5 := by rw [List.drop_eq_getElem_cons h5, h6]
            rw [← this, List.take_append_drop]
          · rcases List.mem_cons.1 hy with rfl | hy
            · exact hx
            · exact hlt y hy
      · cases h
    · cases h
theorem text_posG : ∀ {m : Nat} {xs : List Nat}, xs.length = m + 1 → (∀ x ∈ xs, x < 65536) → posG m (textL xs) = some xs
  | 0, xs, hl, hx => by
    obtain ⟨x, rfl⟩ : ∃ x, xs = [x] := by
      rcases xs with _ | ⟨x, _ | ⟨y, r⟩⟩
      · simp at hl
      · exact ⟨x, rfl⟩
      · simp at hl
    show (wordV (hexL x)).map ([·]) = _
    rw [wordV_hex (hx x (by simp))]; rfl
  | m + 1, xs, hl, hx => by
    obtain ⟨x, y, r, rfl⟩ : ∃ x y r, xs = x :: y :: r := by
      rcases xs with _ | ⟨x, _ | ⟨y, r⟩⟩
      · simp at hl
      · simp at hl
      · exact ⟨x, y, r, rfl⟩
    have ih := text_posG (m := m) (xs := y :: r) (by simpa using hl) (fun z hz => hx z (List.mem_cons_of_mem _ hz))
    have h4 : (hexL x ++ 46 :: textL (y :: r))[4]? = some 46 := rfl
    have t4 : (hexL x ++ 46 :: textL (y :: r)).take 4 = hexL x := rfl
    have d5 : (hexL x ++ 46 :: textL (y :: r)).drop 5 = textL (y :: r) := rfl
    rw [show textL (x :: y :: r) = hexL x ++ 46 :: textL (y :: r) from rfl, posG_succ, if_pos h4, t4, d5, ih, wordV_hex (hx x (by simp))]
    rfl
/-- The words of a head. -/
def wordsH (f : Nat → Bool) : List Nat := [word f 0, word f 1, word f 2, word f 3, word f 4, word f 5, word f 6, word f 7, word f 8, word f 9]
theorem textH_L (f : Nat → Bool) : textH f 10 = textL (wordsH f) := by
  unfold wordsH
  simp only [textH, textL, List.append_assoc, List.nil_append, List.append_nil, Nat.reduceAdd, Nat.reduceEqDiff, if_true, if_false, List.cons_append]
theorem wordsH_lt (f : Nat → Bool) : ∀ x ∈ wordsH f, x < 65536 := by
  intro x hx
  unfold wordsH at hx
  simp only [List.mem_cons, List.not_mem_nil, or_false] at hx
  rcases hx with rfl | rfl | rfl | rfl | rfl | rfl | rfl | rfl | rfl | rfl <;> exact word_lt ..
theorem wordsH_H (f : Nat → Bool) : (wordsH f).map nV = H f := by rfl
theorem text_read (f : Nat → Bool) : parseM ⟨(textH f 10).toArray⟩ = some (wordsH f) := by
  rw [parseM_pos]
  show posG 9 (textH f 10) = _
  rw [textH_L]
  exact text_posG rfl (wordsH_lt f)
theorem both_read (s : ByteArray) : posM s.data.toList = parseM s := by rw [parseM_pos, posM_G]
theorem read_text {s : ByteArray} {xs : List Nat} (h : parseM s = some xs) : ∃ f, xs.map nV = H f ∧ s = ⟨(textH f 10).toArray⟩ := by
  rw [parseM_pos] at h
  obtain ⟨e, hl, hx⟩ := posG_text h
  obtain ⟨f, hf⟩ := right_head (l := xs.map fun x : Nat => (x : Int)) (by rw [List.length_map, hl]) (by
    intro x hx2
    obtain ⟨y, hy, rfl⟩ := List.mem_map.1 hx2
    have := hx y hy
    constructor <;> omega)
  have hn : xs.map nV = H f := by
    rw [H_iV, hf, List.map_map]; rfl
  refine ⟨f, hn, ?_⟩
  have hw : xs = wordsH f := by
    rw [← wordsH_H] at hn
    have inj : ∀ {a b : List Nat}, a.map nV = b.map nV → a = b := fun {a b} => by
      induction a generalizing b with
      | nil => intro h; cases b with | nil => rfl | cons _ _ => cases h
      | cons x a ih =>
        intro h
        cases b with
        | nil => cases h
        | cons y b =>
          injection h with h1 h2
          rw [ih h2]
          have : (x : Int) = (y : Int) := by injection h1
          rw [Int.ofNat_inj.1 this]
    exact inj hn
  apply ByteArray.ext
  apply Array.ext'
  show s.data.toList = textH f 10
  rw [textH_L, ← hw, e]
end Go.Proofs.YtbgndopgllnmaaaDoor
