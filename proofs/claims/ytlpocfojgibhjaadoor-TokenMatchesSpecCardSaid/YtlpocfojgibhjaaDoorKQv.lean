/-
  Tokens put together again, in plain words: with blanks between them, and with comments. No condition.
-/
import Derived.Test.YtlpocfojgibhjaaDoorGM
import Derived.Lib.Replace
import Derived.Lib.CountLaws
namespace Go.Proofs.YtlpocfojgibhjaaDoor
set_option linter.unusedVariables false
set_option linter.unusedSimpArgs false

theorem index10 : ∀ s : List UInt8, (Lib.index s [10] = -1 ∧ (10 : UInt8) ∉ s) ∨ ∃ i : Nat, Lib.index s [10] = (i : Int) ∧ i < s.length ∧ (10 : UInt8) ∉ s.take i
  | [] => Or.inl ⟨rfl, by simp⟩
  | b :: l => by
    have e : Lib.index (b :: l) [10] = if ([10] : List UInt8).isPrefixOf (b :: l) then 0 else if Lib.index l [10] == -1 then -1 else Lib.index l [10] + 1 := rfl
    have ep : ([10] : List UInt8).isPrefixOf (b :: l) = ((10 : UInt8) == b) := by simp [List.isPrefixOf]
    rw [e, ep]
    by_cases hb : (10 : UInt8) = b
    · right
      refine ⟨0, by rw [if_pos (by simp [hb])]; rfl, by simp, by simp⟩
    · rw [if_neg (by simp [hb])]
      rcases index10 l with ⟨h1, h2⟩ | ⟨i, h1, h2, h3⟩
      · left
        rw [h1]
        exact ⟨rfl, by simp [hb, h2]⟩
      · right
        refine ⟨i + 1, ?_, by simpa using h2, ?_⟩
        · rw [h1, if_neg (by rw [beq_iff_eq]; omega)]; omega
        · rw [List.take_succ_cons]
          simp [hb, h3]
theorem replK : ∀ (k : Nat) (s : List UInt8), Lib.count s [10] ≤ k → (10 : UInt8) ∉ Lib.replaceK [10] [] k s ∧ (Lib.replaceK [10] [] k s).length ≤ s.length
  | 0, s, h => by
    refine ⟨?_, Nat.le_refl _⟩
    show (10 : UInt8) ∉ s
    rcases index10 s with ⟨h1, h2⟩ | ⟨i, h1, h2, h3⟩
    · exact h2
    · have := Lib.count_hit (sub := [10]) (by simp) h1
      omega
  | k + 1, s, h => by
    rcases index10 s with ⟨h1, h2⟩ | ⟨i, h1, h2, h3⟩
    · have e : Lib.replaceK [10] [] (k + 1) s = s := by
        rw [Lib.replaceK, if_pos (by rw [h1]; rfl)]
      rw [e]
      exact ⟨h2, Nat.le_refl _⟩
    · rw [Lib.replaceK_hit _ _ _ _ _ h1]
      have hc := Lib.count_hit (sub := [10]) (by simp) h1
      obtain ⟨ih1, ih2⟩ := replK k (s.drop (i + [(10 : UInt8)].length)) (by omega)
      constructor
      · rw [List.append_nil]
        intro hm
        rcases List.mem_append.1 hm with hm | hm
        · exact h3 hm
        · exact ih1 hm
      · rw [List.append_nil, List.length_append, List.length_take]
        rw [List.length_drop] at ih2
        simp only [List.length_cons, List.length_nil] at ih2 ⊢
        omega
theorem repl_all (s : List UInt8) : (10 : UInt8) ∉ Lib.replaceAll s [10] [] ∧ (Lib.replaceAll s [10] []).length ≤ s.length := by
  have e : Lib.replaceAll s [10] [] = Lib.replaceK [10] [] (Lib.count s [10]) s := by
    unfold Lib.replaceAll Lib.replace
    rw [if_neg (by decide)]
    unfold Lib.replaceNum
    rw [if_pos (Or.inl (by decide))]
  rw [e]
  exact replK _ s (Nat.le_refl _)
/-- A token that stands for itself. -/
def Solid (t : Tok) : Prop := nog t.text = true ∧ (tokM t.text).kind = t.kind ∧ (tokM t.text).n = t.n ∧ (tokM t.text).len = t.text.length
theorem runL_take : ∀ l : List UInt8, runL (l.take (runL l)) = runL l
  | [] => rfl
  | b :: l => by
    rw [runL_cons]
    split
    · rename_i h
      rw [List.take_succ_cons, runL_cons, if_pos h, runL_take l]
    · rfl
theorem signL_take : ∀ l : List UInt8, signL (l.take (signL l)) = signL l
  | [] => rfl
  | [a] => by
    rw [signL_one]
    split
    · rename_i h
      show signL [a] = 1
      rw [signL_one, if_pos h]
    · rfl
  | a :: b :: l => by
    rw [signL_two]
    split
    · rename_i h
      show signL [a, b] = 2
      rw [signL_two, if_pos h]
    · split
      · rename_i h
        show signL [a] = 1
        rw [signL_one, if_pos h]
      · rfl
theorem nog_take {l : List UInt8} {k : Nat} (h : nog l = true) (hk : 0 < k) : nog (l.take k) = true := by
  cases l with
  | nil => cases h
  | cons b r =>
    obtain ⟨j, rfl⟩ : ∃ j, k = j + 1 := ⟨k - 1, by omega⟩
    exact h
theorem tokM_take {l : List UInt8} (h : nog l = true) (h5 : (tokM l).kind ≠ 5) : tokM (l.take (tokM l).len) = tokM l := by
  have hp := tokM_pos h
  cases l with
  | nil => cases h
  | cons b r =>
    rw [tokM_cons] at h5 hp ⊢
    by_cases h1 : lo b = true
    · rw [if_pos h1] at hp ⊢
      simp only at hp ⊢
      have hr := runL_take (b :: r)
      obtain ⟨k, hk⟩ : ∃ k, runL (b :: r) = k + 1 := ⟨runL (b :: r) - 1, by omega⟩
      rw [hk] at hr ⊢
      rw [List.take_succ_cons] at hr ⊢
      rw [tokM_cons, if_pos h1, hr, List.take_succ_cons, List.take_take, Nat.min_self]
    · rw [if_neg h1] at hp h5 ⊢
      by_cases h2 : dg b = true
      · rw [if_pos h2] at hp h5 ⊢
        have hr := runL_take (b :: r)
        cases hn : numM ((b :: r).take (runL (b :: r))) with
        | none => rw [hn] at h5; exact absurd rfl h5
        | some n =>
          rw [hn] at hp
          simp only at hp ⊢
          obtain ⟨k, hk⟩ : ∃ k, runL (b :: r) = k + 1 := ⟨runL (b :: r) - 1, by omega⟩
          rw [hk] at hr hn ⊢
          rw [List.take_succ_cons] at hr hn ⊢
          rw [tokM_cons, if_neg h1, if_pos h2, hr]
          have e : (b :: r.take k).take (k + 1) = b :: r.take k := by rw [List.take_succ_cons, List.take_take, Nat.min_self]
          rw [e, hn]
      · rw [if_neg h2] at hp h5 ⊢
        by_cases h3 : 0 < signL (b :: r)
        · rw [if_pos h3] at hp ⊢
          simp only at hp ⊢
          have hs := signL_take (b :: r)
          obtain ⟨k, hk⟩ : ∃ k, signL (b :: r) = k + 1 := ⟨signL (b :: r) - 1, by omega⟩
          rw [hk] at hs ⊢
          rw [List.take_succ_cons] at hs ⊢
          rw [tokM_cons, if_neg h1, if_neg h2, hs, if_pos (by omega)]
        · rw [if_neg h3] at h5
          exact absurd rfl h5
theorem solid_at {l : List UInt8} (h : nog l = true) (h5 : (tokM l).kind ≠ 5) (ln cl : Nat) : Solid (tokAt l ln cl) := by
  have e := tokM_take h h5
  have hl := tokM_le l
  refine ⟨nog_take h (tokM_pos h), ?_, ?_, ?_⟩
  · show (tokM (l.take (tokM l).len)).kind = _; rw [e]; rfl
  · show (tokM (l.take (tokM l).len)).n = _; rw [e]; rfl
  · show (tokM (l.take (tokM l).len)).len = (l.take (tokM l).len).length; rw [e, List.length_take]; omega
theorem toks_split : ∀ (l : List UInt8) (ins : Bool) (k ln cl : Nat), ∃ ts a b, toks l ins k ln cl = ts ++ [⟨6, 0, [], a, b⟩] ∧ ∀ t ∈ ts, t.kind ≤ 5 ∧ (t.kind ≠ 5 → Solid t)
  | [], ins, k, ln, cl => ⟨[], ln, cl, by rw [toks_end]; rfl, by simp⟩
  | b :: r, ins, k + 1, ln, cl => toks_split r ins k ln (cl + 1)
  | b :: r, ins, 0, ln, cl => by
    rw [toks_cons]
    split
    · exact toks_split r _ _ _ _
    · split
      · exact toks_split r _ _ _ _
      · rename_i h35
        split
        · exact toks_split r _ _ _ _
        · rename_i hs
          obtain ⟨ts, x, y, e, hk⟩ := toks_split r false ((tokM (b :: r)).len - 1) ln (cl + 1)
          have hn : nog (b :: r) = true := by
            have : b ≠ 35 := fun e => h35 (Or.inr e)
            simp [nog, hs, this]
          refine ⟨tokAt (b :: r) ln cl :: ts, x, y, by rw [e]; rfl, fun t ht => ?_⟩
          rcases List.mem_cons.1 ht with rfl | ht
          · exact ⟨(tokM_kind hn).2, fun h5 => solid_at hn h5 ln cl⟩
          · exact hk t ht
/-- How many bytes the tokens have. -/
def totL (l : List Tok) : Nat := (l.map fun t => t.text.length).sum
theorem toks_tot : ∀ (l : List UInt8) (ins : Bool) (k ln cl : Nat), k ≤ l.length → totL (toks l ins k ln cl) + k ≤ l.length
  | [], ins, k, ln, cl, h => by rw [toks_end]; simpa [totL] using h
  | b :: r, ins, k + 1, ln, cl, h => by
    rw [toks_skip]
    have := toks_tot r ins k ln (cl + 1) (by simpa using h)
    simp only [List.length_cons]; omega
  | b :: r, ins, 0, ln, cl, h => by
    rw [toks_cons]
    simp only [List.length_cons]
    split
    · have := toks_tot r false 0 (ln + 1) 1 (Nat.zero_le _); omega
    · split
      · have := toks_tot r true 0 ln (cl + 1) (Nat.zero_le _); omega
      · rename_i h35
        split
        · have := toks_tot r false 0 ln (cl + 1) (Nat.zero_le _); omega
        · rename_i hs
          have hn : nog (b :: r) = true := by
            have : b ≠ 35 := fun e => h35 (Or.inr e)
            simp [nog, hs, this]
          have hp := tokM_pos hn
          have hle := tokM_le (b :: r)
          simp only [List.length_cons] at hle
          have := toks_tot r false ((tokM (b :: r)).len - 1) ln (cl + 1) (by omega)
          have e : totL (tokAt (b :: r) ln cl :: toks r false ((tokM (b :: r)).len - 1) ln (cl + 1)) = (tokAt (b :: r) ln cl).text.length + totL (toks r false ((tokM (b :: r)).len - 1) ln (cl + 1)) := by simp [totL]
          rw [e]
          have e2 : (tokAt (b :: r) ln cl).text.length ≤ (tokM (b :: r)).len := by
            show ((b :: r).take _).length ≤ _
            rw [List.length_take]; omega
          omega
/-- The tokens without their places. -/
def ptoks (l : List UInt8) : List Tok := (toks l false 0 1 1).map noPl
theorem toks_pl : ∀ (l : List UInt8) (ins : Bool) (k ln cl ln2 cl2 : Nat), (toks l ins k ln cl).map noPl = (toks l ins k ln2 cl2).map noPl
  | [], ins, k, ln, cl, ln2, cl2 => by rw [toks_end, toks_end]; rfl
  | b :: r, ins, k + 1, ln, cl, ln2, cl2 => toks_pl r ins k _ _ _ _
  | b :: r, ins, 0, ln, cl, ln2, cl2 => by
    rw [toks_cons, toks_cons]
    split
    · exact toks_pl r _ _ _ _ _ _
    · split
      · exact toks_pl r _ _ _ _ _ _
      · split
        · exact toks_pl r _ _ _ _ _ _
        · rw [List.map_cons, List.map_cons, toks_pl r _ _ ln (cl + 1) ln2 (cl2 + 1)]
          rfl
theorem ptoks_of (l : List UInt8) (ln cl : Nat) : (toks l false 0 ln cl).map noPl = ptoks l := toks_pl l false 0 ln cl 1 1
theorem ptoks_nil : ptoks [] = [⟨6, 0, [], 0, 0⟩] := rfl
theorem ptoks_sep {c : UInt8} (h : sepB c = true) (r : List UInt8) : ptoks (c :: r) = ptoks r := by
  unfold ptoks
  rw [toks_cons]
  by_cases h10 : c = 10
  · rw [if_pos h10]; exact toks_pl r _ _ _ _ _ _
  · rw [if_neg h10]
    have h35 : ¬ (false = true ∨ c = 35) := by
      rintro (e | e)
      · cases e
      · rw [e] at h; cases h
    rw [if_neg h35, if_pos h]
    exact toks_pl r _ _ _ _ _ _
theorem ptoks_solid {t : Tok} (h : Solid t) (r : List UInt8) (hr : r = [] ∨ ∃ c y, r = c :: y ∧ sepB c = true) : ptoks (t.text ++ r) = noPl t :: ptoks r := by
  obtain ⟨h1, h2, h3, h4⟩ := h
  have hne : t.text ≠ [] := fun e => by rw [e] at h1; cases h1
  have hM : tokM (t.text ++ r) = tokM t.text := by
    rcases hr with rfl | ⟨c, y, rfl, hc⟩
    · rw [List.append_nil]
    · exact tokM_stop hc _ hne
  unfold ptoks
  rw [toks_tok (nog_app h1), hM, h4, List.map_cons, List.drop_left]
  have e : noPl (tokAt (t.text ++ r) 1 1) = noPl t := by
    unfold noPl tokAt
    rw [hM, h2, h3, h4, List.take_left]
  rw [e]
  congr 1
  exact toks_pl r _ _ _ _ _ _
theorem join_two (a b : List UInt8) (l : List (List UInt8)) : Lib.join (a :: b :: l) [32] = a ++ 32 :: Lib.join (b :: l) [32] := by
  unfold Lib.join
  simp [List.intercalate, List.intersperse]
theorem ptoks_join : ∀ ts : List Tok, (∀ t ∈ ts, Solid t) → ptoks (Lib.join (ts.map (·.text)) [32]) = ts.map noPl ++ [⟨6, 0, [], 0, 0⟩]
  | [], _ => rfl
  | [t], h => by
    have e : Lib.join ([t].map (·.text)) [32] = t.text ++ [] := by rw [List.append_nil]; exact Lib.join_one _ _
    rw [e, ptoks_solid (h t (by simp)) [] (Or.inl rfl)]
    rfl
  | t :: u :: r, h => by
    have e : Lib.join ((t :: u :: r).map (·.text)) [32] = t.text ++ 32 :: Lib.join ((u :: r).map (·.text)) [32] := join_two _ _ _
    rw [e, ptoks_solid (h t (by simp)) _ (Or.inr ⟨32, _, rfl, rfl⟩), ptoks_sep rfl, ptoks_join (u :: r) (fun x hx => h x (List.mem_cons_of_mem _ hx))]
    rfl
/-- What goes before a token in the wide text. -/
def sepW (cmt : List UInt8) : List UInt8 := 32 :: 35 :: cmt ++ [10, 9, 13, 10]
def wideL (cmt : List UInt8) (l : List Tok) : List UInt8 := l.flatMap fun t => sepW cmt ++ t.text
theorem toks_comment (r : List UInt8) : ∀ (cmt : List UInt8) (ln cl : Nat), (10 : UInt8) ∉ cmt → (toks (cmt ++ 10 :: r) true 0 ln cl).map noPl = ptoks r
  | [], ln, cl, _ => by
    show (toks (10 :: r) true 0 ln cl).map noPl = _
    rw [toks_cons, if_pos rfl]
    exact ptoks_of r _ _
  | b :: cmt, ln, cl, h => by
    show (toks (b :: (cmt ++ 10 :: r)) true 0 ln cl).map noPl = _
    rw [toks_cons, if_neg (fun e => h (by simp [e])), if_pos (Or.inl rfl)]
    exact toks_comment r cmt ln (cl + 1) (fun e => h (List.mem_cons_of_mem _ e))
theorem ptoks_sepW {cmt : List UInt8} (h : (10 : UInt8) ∉ cmt) (r : List UInt8) : ptoks (sepW cmt ++ r) = ptoks r := by
  have e : sepW cmt ++ r = 32 :: 35 :: (cmt ++ 10 :: (9 :: 13 :: 10 :: r)) := by simp [sepW]
  rw [e, ptoks_sep rfl]
  have e2 : ptoks (35 :: (cmt ++ 10 :: (9 :: 13 :: 10 :: r))) = (toks (cmt ++ 10 :: (9 :: 13 :: 10 :: r)) true 0 1 2).map noPl := by
    unfold ptoks
    rw [toks_cons, if_neg (by decide), if_pos (Or.inr rfl)]
  rw [e2, toks_comment _ _ _ _ h, ptoks_sep rfl, ptoks_sep rfl, ptoks_sep rfl]
theorem ptoks_wide {cmt : List UInt8} (h : (10 : UInt8) ∉ cmt) (a b : Nat) : ∀ ts : List Tok, (∀ t ∈ ts, Solid t) → ptoks (wideL cmt (ts ++ [⟨6, 0, [], a, b⟩])) = ts.map noPl ++ [⟨6, 0, [], 0, 0⟩]
  | [], _ => by
    have e : wideL cmt ([] ++ [⟨6, 0, [], a, b⟩]) = sepW cmt ++ [] := by simp [wideL]
    rw [e, ptoks_sepW h]
    rfl
  | t :: ts, hs => by
    have e : wideL cmt (t :: ts ++ [⟨6, 0, [], a, b⟩]) = sepW cmt ++ (t.text ++ wideL cmt (ts ++ [⟨6, 0, [], a, b⟩])) := by simp [wideL]
    have hc : ∃ c y, wideL cmt (ts ++ [⟨6, 0, [], a, b⟩]) = c :: y ∧ sepB c = true := by
      cases ts with
      | nil => exact ⟨32, (sepW cmt).tail, by simp [wideL, sepW], rfl⟩
      | cons u r => exact ⟨32, (wideL cmt (u :: r ++ [⟨6, 0, [], a, b⟩])).tail, by simp [wideL, sepW], rfl⟩
    rw [e, ptoks_sepW h, ptoks_solid (hs t (by simp)) _ (Or.inr hc), ptoks_wide h a b ts (fun x hx => hs x (List.mem_cons_of_mem _ hx))]
    rfl
theorem wideL_len (cmt : List UInt8) : ∀ l : List Tok, (wideL cmt l).length = l.length * (cmt.length + 6) + totL l
  | [] => by simp [wideL, totL]
  | t :: l => by
    have e : wideL cmt (t :: l) = (sepW cmt ++ t.text) ++ wideL cmt l := by simp [wideL]
    have e2 : totL (t :: l) = t.text.length + totL l := by simp [totL]
    have e3 : (sepW cmt).length = cmt.length + 6 := by simp [sepW]
    rw [e, List.length_append, List.length_append, wideL_len cmt l, e2, e3, List.length_cons, Nat.succ_mul]
    omega
theorem join_len : ∀ l : List Tok, (Lib.join (l.map (·.text)) [32]).length ≤ totL l + l.length
  | [] => Nat.zero_le _
  | [t] => by
    rw [List.map_cons, List.map_nil, Lib.join_one]
    simp [totL]
  | t :: u :: r => by
    have e : Lib.join ((t :: u :: r).map (·.text)) [32] = t.text ++ 32 :: Lib.join ((u :: r).map (·.text)) [32] := join_two _ _ _
    have ih := join_len (u :: r)
    have e2 : totL (t :: u :: r) = t.text.length + totL (u :: r) := by simp [totL]
    rw [e, e2, List.length_append, List.length_cons]
    simp only [List.length_cons] at ih ⊢
    omega
/-- All that the law on joined tokens wants. -/
theorem joins_all (l cmt : List UInt8) (h : (10 : UInt8) ∉ cmt) (hb : ∀ t ∈ toks l false 0 1 1, t.kind ≠ 5) :
    ptoks (joinM (toks l false 0 1 1)) = ptoks l ∧ ptoks (wideL cmt (toks l false 0 1 1)) = ptoks l := by
  obtain ⟨ts, a, b, e, hk⟩ := toks_split l false 0 1 1
  have hs : ∀ t ∈ ts, Solid t := fun t ht => (hk t ht).2 (hb t (by rw [e]; exact List.mem_append_left _ ht))
  have hp : ptoks l = ts.map noPl ++ [⟨6, 0, [], 0, 0⟩] := by unfold ptoks; rw [e, List.map_append]; rfl
  have hj : joinTs (toks l false 0 1 1) = ts := by
    rw [e]
    unfold joinTs
    rw [List.filter_append, List.filter_eq_self.2 (fun t ht => by have := (hk t ht).1; simp; omega)]
    simp
  constructor
  · unfold joinM
    rw [hj, ptoks_join ts hs, hp]
  · rw [e, ptoks_wide h a b ts hs, hp]
end Go.Proofs.YtlpocfojgibhjaaDoor
