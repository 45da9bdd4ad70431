/-
  Tokens in plain words: what a source is divided into, byte by byte. No condition.
-/
import Derived.WalkKit
namespace Go.Proofs.YtcefaipjncohmaaGreatDoor
set_option linter.unusedVariables false
set_option linter.unusedSimpArgs false

/-- A small letter, a decimal digit, a byte of a word, a separator, a sign of one byte. -/
def lo (b : UInt8) : Bool := decide (97 ≤ b.toNat) && decide (b.toNat ≤ 122)
def dg (b : UInt8) : Bool := decide (48 ≤ b.toNat) && decide (b.toNat ≤ 57)
def wb (b : UInt8) : Bool := lo b || dg b || decide (b.toNat = 95)
def sepB (b : UInt8) : Bool := decide (b.toNat = 32) || decide (b.toNat = 9) || decide (b.toNat = 13) || decide (b.toNat = 10)
def oneL : List UInt8 := [40, 41, 91, 93, 123, 125, 44, 59, 58, 46, 61, 43, 42, 47, 124]
/-- The number of bytes of the sign at the beginning. -/
def two (a b : UInt8) : Bool := decide (a = 58 ∧ b = 61) || decide (a = 46 ∧ b = 46) || decide (a = 45 ∧ b = 62)
def signL : List UInt8 → Nat
  | [] => 0
  | [a] => if a ∈ oneL then 1 else 0
  | a :: b :: _ => if two a b then 2 else if a ∈ oneL then 1 else 0
def runL : List UInt8 → Nat
  | [] => 0
  | b :: l => if wb b then runL l + 1 else 0
def begB : List UInt8 → Bool
  | [] => false
  | b :: l => lo b || dg b || sepB b || decide (b = 35) || decide (0 < signL (b :: l))
def oddL : List UInt8 → Nat
  | [] => 0
  | b :: l => if begB (b :: l) then 0 else oddL l + 1
/-- The value of a digit in base 16; 16 if the byte is none. -/
def digV (b : UInt8) : Nat := if dg b then b.toNat - 48 else if decide (97 ≤ b.toNat) && decide (b.toNat ≤ 102) then b.toNat - 87 else 16
/-- The number with some digits behind the number n. -/
def valL (base : Nat) : Nat → List UInt8 → Option Nat
  | n, [] => some n
  | n, b :: l => if base ≤ digV b ∨ 1073741824 < n * base + digV b then none else valL base (n * base + digV b) l
def numM (s : List UInt8) : Option Nat :=
  if [48, 120] <+: s then (if 10 < s.length ∨ s.length = 2 then none else valL 16 0 (s.drop 2))
  else if [48] <+: s ∧ s ≠ [48] then none else if s = [] then none else valL 10 0 s
/-- The words of the language. -/
def wordsL : List (List UInt8) := [[97, 110, 100], [97, 110, 121], [97, 116], [98, 97, 99, 107], [98, 111, 120], [98, 117, 114, 115, 116], [98, 121], [99, 97, 112, 97, 99, 105, 116, 121], [99, 101, 105, 108, 105, 110, 103], [99, 104, 101, 99, 107], [99, 111, 110, 116, 114, 97, 99, 116], [99, 111, 117, 110, 116], [100, 101, 109, 97, 110, 100], [100, 114, 111, 112], [101, 97, 99, 104], [101, 100, 103, 101], [101, 110, 116, 114, 105, 101, 115], [102, 97, 108, 115, 101], [102, 105, 101, 108, 100], [102, 108, 111, 111, 114], [102, 114, 111, 109], [105, 100], [105, 110], [105, 110, 110, 101, 114], [105, 110, 116, 111], [108, 105, 110, 107], [110, 101, 116, 119, 111, 114, 107], [110, 111, 100, 101], [110, 111, 116], [111, 112, 101, 110], [111, 114], [112, 97, 116, 104], [112, 111, 114, 116], [112, 114, 105, 99, 101], [114, 111, 117, 116, 101], [114, 117, 108, 101, 115], [115, 116, 97, 103, 101], [116, 97, 107, 101], [116, 101, 110, 97, 110, 116], [116, 104, 101, 110], [116, 105, 109, 101], [116, 111], [116, 111, 107, 101, 110], [116, 114, 97, 110, 115, 108, 97, 116, 101], [116, 114, 117, 101], [118, 105, 97], [119, 105, 100, 116, 104], [119, 105, 114, 101], [119, 105, 116, 104, 105, 110]]
def kindM (t : List UInt8) : Nat := if t ∈ wordsL then 2 else if t.length ≤ 24 then 1 else 5
def nameM : List UInt8 → Bool
  | [] => false
  | b :: l => lo b && decide (kindM (b :: l) = 1) && decide (runL (b :: l) = (b :: l).length)
/-- A token without its place: its kind, its number, how many bytes it has. -/
structure TM where
  kind : Nat
  n : Nat
  len : Nat
def tokM : List UInt8 → TM
  | [] => ⟨6, 0, 0⟩
  | b :: l => if lo b then ⟨kindM ((b :: l).take (runL (b :: l))), 0, runL (b :: l)⟩
    else if dg b then (match numM ((b :: l).take (runL (b :: l))) with
      | some n => ⟨3, n, runL (b :: l)⟩
      | none => ⟨5, 0, runL (b :: l)⟩)
    else if 0 < signL (b :: l) then ⟨4, 0, signL (b :: l)⟩ else ⟨5, 0, oddL (b :: l)⟩
structure Tok where
  kind : Nat
  n : Nat
  text : List UInt8
  line : Nat
  col : Nat
deriving DecidableEq
/-- The token at the beginning of a text, with its place. -/
def tokAt (l : List UInt8) (ln cl : Nat) : Tok := ⟨(tokM l).kind, (tokM l).n, l.take (tokM l).len, ln, cl⟩
/-- The tokens of a text, of which so many bytes belong to the token before. -/
def toks : List UInt8 → Bool → Nat → Nat → Nat → List Tok
  | [], _, _, ln, cl => [⟨6, 0, [], ln, cl⟩]
  | _ :: r, ins, k + 1, ln, cl => toks r ins k ln (cl + 1)
  | b :: r, ins, 0, ln, cl =>
    if b = 10 then toks r false 0 (ln + 1) 1
    else if ins ∨ b = 35 then toks r true 0 ln (cl + 1)
    else if sepB b then toks r false 0 ln (cl + 1)
    else tokAt (b :: r) ln cl :: toks r false ((tokM (b :: r)).len - 1) ln (cl + 1)
/-- How many bytes of separators are at the beginning. -/
def gapL : Bool → List UInt8 → Nat
  | _, [] => 0
  | ins, b :: r => if decide (b = 35) || ins && decide (b ≠ 10) then gapL true r + 1 else if sepB b then gapL false r + 1 else 0
def colL : Nat → List UInt8 → Nat
  | cl, [] => cl
  | cl, b :: r => if b = 10 then colL 1 r else colL (cl + 1) r

theorem sep10 {b : UInt8} (h : b = 10) : sepB b = true := by subst h; rfl
theorem toks_end (ins : Bool) (k ln cl : Nat) : toks [] ins k ln cl = [⟨6, 0, [], ln, cl⟩] := by cases k <;> rfl
theorem toks_skip {b : UInt8} {r : List UInt8} {ins : Bool} {k ln cl : Nat} : toks (b :: r) ins (k + 1) ln cl = toks r ins k ln (cl + 1) := rfl
theorem toks_cons {b : UInt8} {r : List UInt8} {ins : Bool} {ln cl : Nat} : toks (b :: r) ins 0 ln cl =
    if b = 10 then toks r false 0 (ln + 1) 1
    else if ins ∨ b = 35 then toks r true 0 ln (cl + 1)
    else if sepB b then toks r false 0 ln (cl + 1)
    else tokAt (b :: r) ln cl :: toks r false ((tokM (b :: r)).len - 1) ln (cl + 1) := rfl
theorem toks_drop : ∀ (k : Nat) (l : List UInt8) (ins : Bool) (ln cl : Nat), k ≤ l.length → toks l ins k ln cl = toks (l.drop k) ins 0 ln (cl + k)
  | 0, l, ins, ln, cl, _ => by simp
  | k + 1, [], ins, ln, cl, h => by simp at h
  | k + 1, b :: r, ins, ln, cl, h => by
    rw [toks_skip, toks_drop k r ins ln (cl + 1) (by simpa using h)]
    simp only [List.drop_succ_cons]
    congr 1
    omega
theorem gapL_le : ∀ (ins : Bool) (l : List UInt8), gapL ins l ≤ l.length
  | _, [] => Nat.le_refl 0
  | ins, b :: r => by
    unfold gapL
    have h1 := gapL_le true r
    have h2 := gapL_le false r
    simp only [List.length_cons]
    split
    · omega
    · split <;> omega
theorem toks_gap : ∀ (l : List UInt8) (ins : Bool) (ln cl : Nat), toks l ins 0 ln cl = toks (l.drop (gapL ins l)) false 0 (ln + (l.take (gapL ins l)).count 10) (colL cl (l.take (gapL ins l)))
  | [], ins, ln, cl => by simp [toks_end, gapL, colL]
  | b :: r, ins, ln, cl => by
    rw [toks_cons]
    by_cases h10 : b = 10
    · subst h10
      have hg : gapL ins (10 :: r) = gapL false r + 1 := by
        unfold gapL
        rw [if_neg (by cases ins <;> decide), if_pos (by decide)]
        cases r <;> rfl
      rw [if_pos rfl, toks_gap r, hg]
      simp [colL, Nat.add_assoc, Nat.add_comm 1]
    · rw [if_neg h10]
      by_cases h35 : ins = true ∨ b = 35
      · have hg : gapL ins (b :: r) = gapL true r + 1 := by
          have : (decide (b = 35) || ins && decide (b ≠ 10)) = true := by
            rcases h35 with h | h
            · rw [h]; simp [h10]
            · simp [h]
          unfold gapL
          rw [if_pos this]
          cases r <;> rfl
        rw [if_pos h35, toks_gap r, hg]
        simp [colL, h10]
      · have hn : (decide (b = 35) || ins && decide (b ≠ 10)) = false := by
          have h1 : ins = false := by cases ins <;> simp_all
          have h2 : b ≠ 35 := fun h => h35 (Or.inr h)
          simp [h1, h2]
        rw [if_neg h35]
        by_cases hs : sepB b = true
        · have hg : gapL ins (b :: r) = gapL false r + 1 := by
            unfold gapL
            rw [if_neg (by rw [hn]; decide), if_pos hs]
            cases r <;> rfl
          rw [if_pos hs, toks_gap r, hg]
          simp [colL, h10]
        · have hg : gapL ins (b :: r) = 0 := by
            unfold gapL
            rw [if_neg (by rw [hn]; decide), if_neg hs]
          rw [hg, if_neg hs]
          simp only [List.drop_zero, List.take_zero, List.count_nil, Nat.add_zero, colL]
          rw [toks_cons, if_neg h10, if_neg (fun h => h35 (Or.inr (by rcases h with h | h; cases h; exact h))), if_neg hs]

theorem runL_le : ∀ l : List UInt8, runL l ≤ l.length
  | [] => Nat.le_refl 0
  | b :: r => by
    unfold runL
    have := runL_le r
    split <;> simp only [List.length_cons] <;> omega
theorem oddL_le : ∀ l : List UInt8, oddL l ≤ l.length
  | [] => Nat.le_refl 0
  | b :: r => by
    unfold oddL
    have := oddL_le r
    split <;> simp only [List.length_cons] <;> omega
theorem signL_one (a : UInt8) : signL [a] = if a ∈ oneL then 1 else 0 := rfl
theorem signL_two (a b : UInt8) (r : List UInt8) : signL (a :: b :: r) = if two a b then 2 else if a ∈ oneL then 1 else 0 := rfl
theorem runL_cons (b : UInt8) (r : List UInt8) : runL (b :: r) = if wb b then runL r + 1 else 0 := rfl
theorem oddL_cons (b : UInt8) (r : List UInt8) : oddL (b :: r) = if begB (b :: r) then 0 else oddL r + 1 := rfl
theorem tokM_cons (b : UInt8) (l : List UInt8) : tokM (b :: l) = if lo b then ⟨kindM ((b :: l).take (runL (b :: l))), 0, runL (b :: l)⟩
    else if dg b then (match numM ((b :: l).take (runL (b :: l))) with
      | some n => ⟨3, n, runL (b :: l)⟩
      | none => ⟨5, 0, runL (b :: l)⟩)
    else if 0 < signL (b :: l) then ⟨4, 0, signL (b :: l)⟩ else ⟨5, 0, oddL (b :: l)⟩ := rfl
theorem signL_le : ∀ l : List UInt8, signL l ≤ l.length
  | [] => Nat.le_refl 0
  | [a] => by rw [signL_one]; split <;> simp
  | a :: b :: r => by rw [signL_two]; split <;> (try split) <;> simp
theorem tokM_le (l : List UInt8) : (tokM l).len ≤ l.length := by
  cases l with
  | nil => exact Nat.le_refl 0
  | cons b r =>
    rw [tokM_cons]
    have h1 := runL_le (b :: r)
    have h2 := oddL_le (b :: r)
    have h3 := signL_le (b :: r)
    split
    · exact h1
    · split
      · split <;> exact h1
      · split
        · exact h3
        · exact h2
theorem lo_wb {b : UInt8} (h : lo b = true) : wb b = true := by simp [wb, h]
theorem dg_wb {b : UInt8} (h : dg b = true) : wb b = true := by simp [wb, h]
theorem runL_pos {b : UInt8} {r : List UInt8} (h : wb b = true) : 0 < runL (b :: r) := by
  unfold runL
  rw [if_pos h]
  omega
/-- A byte with which a token begins. -/
def nog : List UInt8 → Bool
  | [] => false
  | b :: _ => !sepB b && decide (b ≠ 35)
theorem tokM_pos {l : List UInt8} (h : nog l = true) : 0 < (tokM l).len := by
  cases l with
  | nil => cases h
  | cons b r =>
    simp only [nog, Bool.and_eq_true, Bool.not_eq_true', decide_eq_true_eq] at h
    rw [tokM_cons]
    by_cases h1 : lo b = true
    · rw [if_pos h1]; exact runL_pos (lo_wb h1)
    · rw [if_neg h1]
      by_cases h2 : dg b = true
      · rw [if_pos h2]
        have := runL_pos (r := r) (dg_wb h2)
        split <;> exact this
      · rw [if_neg h2]
        by_cases h3 : 0 < signL (b :: r)
        · rw [if_pos h3]; exact h3
        · rw [if_neg h3]
          show 0 < oddL (b :: r)
          unfold oddL
          have : begB (b :: r) = false := by
            simp [begB, h1, h2, h3, h.1, h.2]
          rw [if_neg (by rw [this]; decide)]
          omega
theorem gapL_nog : ∀ (ins : Bool) (l : List UInt8), l.drop (gapL ins l) = [] ∨ nog (l.drop (gapL ins l)) = true
  | _, [] => Or.inl rfl
  | ins, b :: r => by
    by_cases h1 : (decide (b = 35) || ins && decide (b ≠ 10)) = true
    · have hg : gapL ins (b :: r) = gapL true r + 1 := by conv => lhs; unfold gapL; rw [if_pos h1]
      rw [hg]; exact gapL_nog true r
    · by_cases h2 : sepB b = true
      · have hg : gapL ins (b :: r) = gapL false r + 1 := by conv => lhs; unfold gapL; rw [if_neg h1, if_pos h2]
        rw [hg]; exact gapL_nog false r
      · have hg : gapL ins (b :: r) = 0 := by conv => lhs; unfold gapL; rw [if_neg h1, if_neg h2]
        rw [hg]
        right
        simp only [Bool.or_eq_true, decide_eq_true_eq, not_or] at h1
        simp [nog, h2, h1.1]
theorem toks_tok {l : List UInt8} (h : nog l = true) (ln cl : Nat) : toks l false 0 ln cl = tokAt l ln cl :: toks (l.drop (tokM l).len) false 0 ln (cl + (tokM l).len) := by
  have hp := tokM_pos h
  cases l with
  | nil => cases h
  | cons b r =>
    have hl := tokM_le (b :: r)
    simp only [nog, Bool.and_eq_true, Bool.not_eq_true', decide_eq_true_eq] at h
    have h10 : b ≠ 10 := fun e => by rw [sep10 e] at h; cases h.1
    rw [toks_cons, if_neg h10, if_neg (fun e => by rcases e with e | e; cases e; exact h.2 e), if_neg (by rw [h.1]; decide)]
    obtain ⟨k, hk⟩ : ∃ k, (tokM (b :: r)).len = k + 1 := ⟨_, (Nat.succ_pred_eq_of_pos hp).symm⟩
    rw [hk] at hl ⊢
    simp only [List.length_cons] at hl
    rw [toks_drop _ _ _ _ _ (by omega)]
    simp only [List.drop_succ_cons, Nat.add_sub_cancel]
    congr 2
    omega
/-- The place behind some bytes. -/
theorem colL_none : ∀ (l : List UInt8) (cl : Nat), (10 : UInt8) ∉ l → colL cl l = cl + l.length
  | [], cl, _ => rfl
  | b :: r, cl, h => by
    have h1 : b ≠ 10 := fun e => h (by simp [e])
    unfold colL
    rw [if_neg h1, colL_none r _ (fun e => h (List.mem_cons_of_mem _ e))]
    simp only [List.length_cons]
    omega
theorem colL_last : ∀ (a b : List UInt8) (cl : Nat), (10 : UInt8) ∉ b → colL cl (a ++ 10 :: b) = b.length + 1
  | [], b, cl, h => by
    show colL cl (10 :: b) = _
    unfold colL
    rw [if_pos rfl, colL_none b _ h]
    omega
  | x :: a, b, cl, h => by
    show colL cl (x :: (a ++ 10 :: b)) = _
    unfold colL
    split
    · exact colL_last a b _ h
    · exact colL_last a b _ h

theorem sep_cases {c : UInt8} (h : sepB c = true) : c = 32 ∨ c = 9 ∨ c = 13 ∨ c = 10 := by
  simp only [sepB, Bool.or_eq_true, decide_eq_true_eq] at h
  rcases h with ((h | h) | h) | h
  · exact Or.inl (UInt8.toNat_inj.1 h)
  · exact Or.inr (Or.inl (UInt8.toNat_inj.1 h))
  · exact Or.inr (Or.inr (Or.inl (UInt8.toNat_inj.1 h)))
  · exact Or.inr (Or.inr (Or.inr (UInt8.toNat_inj.1 h)))
theorem sep_wb {c : UInt8} (h : sepB c = true) : wb c = false := by
  rcases sep_cases h with rfl | rfl | rfl | rfl <;> rfl
theorem sep_two {a c : UInt8} (h : sepB c = true) : two a c = false := by
  rcases sep_cases h with rfl | rfl | rfl | rfl <;> simp [two]
theorem sep_beg {c : UInt8} {y : List UInt8} (h : sepB c = true) : begB (c :: y) = true := by
  simp [begB, h]
theorem runL_stop {c : UInt8} {y : List UInt8} (h : sepB c = true) : ∀ x : List UInt8, runL (x ++ c :: y) = runL x
  | [] => by show runL (c :: y) = 0; rw [runL_cons, if_neg (by rw [sep_wb h]; decide)]
  | b :: x => by
    show runL (b :: (x ++ c :: y)) = _
    rw [runL_cons, runL_cons, runL_stop h x]
theorem signL_stop {c : UInt8} {y : List UInt8} (h : sepB c = true) : ∀ x : List UInt8, x ≠ [] → signL (x ++ c :: y) = signL x
  | [], e => absurd rfl e
  | [a], _ => by
    show signL (a :: c :: y) = _
    rw [signL_two, signL_one, if_neg (by rw [sep_two h]; decide)]
  | a :: b :: x, _ => rfl
theorem oddL_stop {c : UInt8} {y : List UInt8} (h : sepB c = true) : ∀ x : List UInt8, oddL (x ++ c :: y) = oddL x
  | [] => by show oddL (c :: y) = 0; rw [oddL_cons, if_pos (sep_beg h)]
  | b :: x => by
    show oddL (b :: (x ++ c :: y)) = _
    have e : begB (b :: (x ++ c :: y)) = begB (b :: x) := by
      have := signL_stop (y := y) h (b :: x) (by simp)
      simp only [List.cons_append] at this
      simp [begB, this]
    rw [oddL_cons, oddL_cons, oddL_stop h x, e]
theorem take_stop {c : UInt8} {x y : List UInt8} {k : Nat} (h : k ≤ x.length) : (x ++ c :: y).take k = x.take k := by
  rw [List.take_append_of_le_length h]
theorem tokM_stop {c : UInt8} {y : List UInt8} (h : sepB c = true) (x : List UInt8) (hx : x ≠ []) : tokM (x ++ c :: y) = tokM x := by
  cases x with
  | nil => exact absurd rfl hx
  | cons b x =>
    have h1 := runL_stop (y := y) h (b :: x)
    have h2 := signL_stop (y := y) h (b :: x) hx
    have h3 := oddL_stop (y := y) h (b :: x)
    have h4 := take_stop (c := c) (y := y) (runL_le (b :: x))
    simp only [List.cons_append] at h1 h2 h3 h4 ⊢
    rw [tokM_cons, tokM_cons, h1, h2, h3, h4]
theorem nog_app {x y : List UInt8} (h : nog x = true) : nog (x ++ y) = true := by
  cases x with
  | nil => cases h
  | cons b x => exact h
theorem tokAt_stop {c : UInt8} {y : List UInt8} (h : sepB c = true) (x : List UInt8) (hx : x ≠ []) (ln cl : Nat) : tokAt (x ++ c :: y) ln cl = tokAt x ln cl := by
  unfold tokAt
  rw [tokM_stop h x hx, take_stop (tokM_le x)]
/-- What is in a token. -/
theorem run_wb : ∀ (l : List UInt8), ∀ b ∈ l.take (runL l), wb b = true
  | [], b, h => by simp [runL] at h
  | a :: l, b, h => by
    rw [runL_cons] at h
    split at h
    · rename_i hw
      rw [List.take_succ_cons] at h
      rcases List.mem_cons.1 h with rfl | h
      · exact hw
      · exact run_wb l b h
    · simp at h
theorem wb_10 {b : UInt8} (h : wb b = true) : b ≠ 10 := fun e => by rw [e] at h; cases h
theorem odd_10 : ∀ (l : List UInt8), ∀ b ∈ l.take (oddL l), b ≠ 10
  | [], b, h => by simp [oddL] at h
  | a :: l, b, h => by
    rw [oddL_cons] at h
    split at h
    · simp at h
    · rename_i hw
      rw [List.take_succ_cons] at h
      rcases List.mem_cons.1 h with rfl | h
      · intro e
        subst e
        exact hw (sep_beg rfl)
      · exact odd_10 l b h
theorem two_10 {a b : UInt8} (h : two a b = true) : a ≠ 10 ∧ b ≠ 10 := by
  simp only [two, Bool.or_eq_true, decide_eq_true_eq] at h
  rcases h with (⟨rfl, rfl⟩ | ⟨rfl, rfl⟩) | ⟨rfl, rfl⟩ <;> decide
theorem one_10 {a : UInt8} (h : a ∈ oneL) : a ≠ 10 := fun e => by subst e; revert h; decide
theorem sign_10 : ∀ (l : List UInt8), ∀ b ∈ l.take (signL l), b ≠ 10
  | [], b, h => by simp [signL] at h
  | [a], b, h => by
    rw [signL_one] at h
    split at h
    · rename_i ha
      simp at h
      rw [h]; exact one_10 ha
    · simp at h
  | a :: c :: l, b, h => by
    rw [signL_two] at h
    split at h
    · rename_i ht
      simp at h
      rcases h with rfl | rfl
      · exact (two_10 ht).1
      · exact (two_10 ht).2
    · split at h
      · rename_i ha
        simp at h
        rw [h]; exact one_10 ha
      · simp at h
theorem tok_10 (l : List UInt8) : (10 : UInt8) ∉ l.take (tokM l).len := by
  cases l with
  | nil => simp
  | cons b l =>
    rw [tokM_cons]
    split
    · exact fun h => wb_10 (run_wb _ _ h) rfl
    · split
      · split <;> exact fun h => wb_10 (run_wb _ _ h) rfl
      · split
        · exact fun h => sign_10 _ _ h rfl
        · exact fun h => odd_10 _ _ h rfl
theorem count_tok (l : List UInt8) : (l.drop (tokM l).len).count 10 = l.count 10 := by
  conv => rhs; rw [← List.take_append_drop (tokM l).len l, List.count_append, List.count_eq_zero.2 (tok_10 l)]
  omega
/-- Two texts with a newline between them. -/
theorem toks_local (b : List UInt8) : ∀ (n : Nat) (a : List UInt8), a.length ≤ n → ∀ (ins : Bool) (ln cl : Nat), toks (a ++ 10 :: b) ins 0 ln cl = (toks a ins 0 ln cl).dropLast ++ toks b false 0 (ln + a.count 10 + 1) 1 := by
  intro n
  induction n with
  | zero =>
    intro a ha ins ln cl
    have : a = [] := List.eq_nil_of_length_eq_zero (by omega)
    subst this
    show toks (10 :: b) ins 0 ln cl = _
    rw [toks_cons, if_pos rfl, toks_end]
    rfl
  | succ n ih =>
    intro a ha ins ln cl
    cases a with
    | nil =>
      show toks (10 :: b) ins 0 ln cl = _
      rw [toks_cons, if_pos rfl, toks_end]
      rfl
    | cons x r =>
      simp only [List.length_cons] at ha
      show toks (x :: (r ++ 10 :: b)) ins 0 ln cl = _
      rw [toks_cons, toks_cons]
      by_cases h10 : x = 10
      · subst h10
        rw [if_pos rfl, if_pos rfl, ih r (by omega)]
        simp [Nat.add_assoc, Nat.add_comm 1]
      · rw [if_neg h10, if_neg h10]
        have hc : (x :: r).count 10 = r.count 10 := by rw [List.count_cons]; simp [h10]
        by_cases h35 : ins = true ∨ x = 35
        · rw [if_pos h35, if_pos h35, ih r (by omega), hc]
        · rw [if_neg h35, if_neg h35]
          by_cases hs : sepB x = true
          · rw [if_pos hs, if_pos hs, ih r (by omega), hc]
          · rw [if_neg hs, if_neg hs]
            have hn : nog (x :: r) = true := by
              have : x ≠ 35 := fun e => h35 (Or.inr e)
              simp [nog, hs, this]
            have hp := tokM_pos hn
            have hle := tokM_le (x :: r)
            have e1 : tokAt (x :: (r ++ 10 :: b)) ln cl = tokAt (x :: r) ln cl := tokAt_stop (c := 10) (y := b) rfl (x :: r) (by simp) ln cl
            have e2 : tokM (x :: (r ++ 10 :: b)) = tokM (x :: r) := tokM_stop (c := 10) (y := b) rfl (x :: r) (by simp)
            rw [e1, e2]
            obtain ⟨k, hk⟩ : ∃ k, (tokM (x :: r)).len = k + 1 := ⟨_, (Nat.succ_pred_eq_of_pos hp).symm⟩
            have hct := count_tok (x :: r)
            rw [hk] at hle hct ⊢
            simp only [List.length_cons] at hle
            rw [List.drop_succ_cons] at hct
            rw [Nat.add_sub_cancel, toks_drop _ _ _ _ _ (by rw [List.length_append]; omega), toks_drop _ r _ _ _ (by omega), List.drop_append_of_le_length (by omega), ih (r.drop k) (by rw [List.length_drop]; omega), hct]
            have hne : toks (r.drop k) false 0 ln (cl + 1 + k) ≠ [] := by
              have : ∀ (l : List UInt8) (i : Bool) (k a c : Nat), toks l i k a c ≠ [] := by
                intro l
                induction l with
                | nil => intro i k a c; rw [toks_end]; simp
                | cons y l ihl =>
                  intro i k a c
                  cases k with
                  | zero => rw [toks_cons]; split; · exact ihl _ _ _ _
                            split; · exact ihl _ _ _ _
                            split; · exact ihl _ _ _ _
                            simp
                  | succ k => exact ihl _ _ _ _
              exact this _ _ _ _ _
            rw [List.dropLast_cons_of_ne_nil hne, List.cons_append]
theorem toks_shift : ∀ (l : List UInt8) (ins : Bool) (k ln cl d : Nat), toks l ins k (ln + d) cl = (toks l ins k ln cl).map (fun t => { t with line := t.line + d })
  | [], ins, k, ln, cl, d => by rw [toks_end, toks_end]; rfl
  | b :: r, ins, k + 1, ln, cl, d => by rw [toks_skip, toks_skip, toks_shift r]
  | b :: r, ins, 0, ln, cl, d => by
    rw [toks_cons, toks_cons]
    split
    · rw [show ln + d + 1 = (ln + 1) + d by omega, toks_shift r]
    · split
      · rw [toks_shift r]
      · split
        · rw [toks_shift r]
        · rw [toks_shift r]; rfl
end Go.Proofs.YtcefaipjncohmaaGreatDoor
