/-
  TokenCoversSource in plain words: one token of a text, and the last. No condition.
-/
import Derived.Test.YtcefaipjncohmaaGreatDoorVc
import Derived.Test.YtcefaipjncohmaaGreatDoorQn
namespace Go.Proofs.YtcefaipjncohmaaGreatDoor
set_option linter.unusedVariables false
set_option linter.unusedSimpArgs false

theorem toks_kindsQ : ∀ (l : List UInt8) (ins : Bool) (k ln cl : Nat), toks l ins k ln cl ≠ []
  | [], ins, k, ln, cl => by rw [toks_end]; simp
  | b :: r, ins, k + 1, ln, cl => by rw [toks_skip]; exact toks_kindsQ r ins k ln (cl + 1)
  | b :: r, ins, 0, ln, cl => by
    rw [toks_cons]
    split
    · exact toks_kindsQ _ _ _ _ _
    · split
      · exact toks_kindsQ _ _ _ _ _
      · split
        · exact toks_kindsQ _ _ _ _ _
        · simp
/-- What is asked of the lines between a place and the next token. -/
def SegOk (l : List UInt8) (ln cl ln2 cl2 : Nat) (stop : Bool) (n : Nat) : Prop :=
  ∃ line, (linesL l)[n - 1]? = some line ∧ (if n = ln then cl - 1 else 0) ≤ (if n = ln2 then cl2 - 1 else line.length) ∧ (if n = ln2 then cl2 - 1 else line.length) ≤ line.length ∧
    Lib.trimS (Lib.cut ((line.take (if n = ln2 then cl2 - 1 else line.length)).drop (if n = ln then cl - 1 else 0)) [35]).1 [32, 9, 13] = [] ∧
    (stop = false → n = ln2 → (Lib.cut ((line.take (if n = ln2 then cl2 - 1 else line.length)).drop (if n = ln then cl - 1 else 0)) [35]).2.2 = false)
theorem line_ge {l : List UInt8} {p ln cl : Nat} (h : PosAt l p ln cl) : 1 ≤ ln ∧ 1 ≤ cl := by
  obtain ⟨A, x, _, h1, h2⟩ := h
  omega
theorem line_le {l : List UInt8} {p ln cl : Nat} (h : PosAt l p ln cl) : ln ≤ (linesL l).length := by
  obtain ⟨line, h1, _⟩ := tok_line (k := 0) h (by simp) (Nat.zero_le _)
  have h2 := (List.getElem?_eq_some_iff.1 h1).1
  have := line_ge h
  omega
theorem col_ge : ∀ (G : List UInt8) (cl : Nat), (10 : UInt8) ∉ G → cl ≤ colL cl G := fun G cl h => by rw [colL_none G cl h]; omega
theorem step_law {l : List UInt8} {p ln cl : Nat} {t : Tok} {rest : List Tok} (h : PosAt l p ln cl) (hp : p ≤ l.length) (ht : toks (l.drop p) false 0 ln cl = t :: rest) :
    ln ≤ t.line ∧ t.line ≤ (linesL l).length ∧ (t.line = ln → cl ≤ t.col) ∧ 1 ≤ t.col ∧
    (∃ line, (linesL l)[t.line - 1]? = some line ∧ t.col - 1 + t.text.length ≤ line.length ∧ (line.take (t.col - 1 + t.text.length)).drop (t.col - 1) = t.text) ∧
    (t.text = [] ↔ t.kind = 6) ∧ (t.kind = 6 ↔ rest = []) ∧ (10 : UInt8) ∉ t.text ∧
    (∀ n, ln ≤ n → n ≤ t.line → SegOk l ln cl t.line t.col (decide (t.kind = 6)) n) ∧
    (rest ≠ [] → ∃ p2, PosAt l p2 t.line (t.col + t.text.length) ∧ p2 ≤ l.length ∧ toks (l.drop p2) false 0 t.line (t.col + t.text.length) = rest) ∧
    (rest = [] → PosAt l l.length t.line t.col) := by
  have hg := toks_gap (l.drop p) false ln cl
  rw [ht, List.drop_drop] at hg
  have hpg := pos_gap h (gapL false (l.drop p))
  have hgl := gapL_le false (l.drop p)
  rw [List.length_drop] at hgl
  have hcnt : ((l.drop p).take (gapL false (l.drop p))).count 10 = 0 → (10 : UInt8) ∉ (l.drop p).take (gapL false (l.drop p)) := fun e => List.count_eq_zero.1 e
  have hce := col_ge ((l.drop p).take (gapL false (l.drop p))) cl
  have hsg := fun ln2 cl2 a b n h1 h2 => seg_law (ln2 := ln2) (cl2 := cl2) h a b n h1 h2
  have hno := gapL_nog false (l.drop p)
  rw [List.drop_drop] at hno
  obtain ⟨g, hge⟩ : ∃ g, gapL false (l.drop p) = g := ⟨_, rfl⟩
  rw [hge] at hg hpg hgl hcnt hce hsg hno
  obtain ⟨ln2, hl2⟩ : ∃ x, ln + ((l.drop p).take g).count 10 = x := ⟨_, rfl⟩
  obtain ⟨cl2, hc2⟩ : ∃ x, colL cl ((l.drop p).take g) = x := ⟨_, rfl⟩
  rw [hl2, hc2] at hg hpg
  rw [hc2] at hce
  have hsg2 := hsg ln2 cl2 hl2 hc2
  have hseg : ∀ (stop : Bool), (stop = false → nog (l.drop (p + g)) = true) → ∀ n, ln ≤ n → n ≤ ln2 → SegOk l ln cl ln2 cl2 stop n := fun stop hst n h1 h2 => by
    obtain ⟨line, e1, e2, e3, e4, e5⟩ := hsg2 n h1 h2
    obtain ⟨a, f1, f2, f3⟩ := gap_cut _ e4
    refine ⟨line, e1, e2, e3, ?_, fun hs hn => f3 (e5 (hst hs) hn)⟩
    rw [f1]; exact trim_blank f2
  have hge1 := line_ge hpg
  have hle1 := line_le hpg
  have hcc : ln2 = ln → cl ≤ cl2 := fun e => hce (hcnt (by omega))
  rcases hno with hz | hz
  · rw [hz, toks_end] at hg
    injection hg with h1 h2
    subst h1 h2
    have hpl : p + g = l.length := by
      have := congrArg List.length hz
      rw [List.length_drop] at this
      simp at this
      omega
    refine ⟨by show ln ≤ ln2; omega, hle1, hcc, hge1.2, ?_, by simp, by simp, by simp, hseg true (fun e => by cases e), fun e => absurd rfl e, fun _ => by rw [← hpl]; exact hpg⟩
    obtain ⟨line, e1, e2, _⟩ := tok_line (k := 0) hpg (by simp) (Nat.zero_le _)
    exact ⟨line, e1, e2, by simp⟩
  · have h10 := tok_10 (l.drop (p + g))
    have htl := tokM_le (l.drop (p + g))
    rw [List.length_drop] at htl
    have hpos := tokM_pos hz
    have hk6 := (tokM_kind hz).1
    rw [toks_tok hz] at hg
    injection hg with h1 h2
    have hxl : t.text.length = (tokM (l.drop (p + g))).len := by
      rw [h1]
      show ((l.drop (p + g)).take (tokM (l.drop (p + g))).len).length = _
      rw [List.length_take, List.length_drop]; omega
    have hpt := pos_tok hpg h10 htl
    have hlin := tok_line hpg h10 htl
    rw [List.drop_drop] at h2
    have ex : t.text = (l.drop (p + g)).take (tokM (l.drop (p + g))).len := by rw [h1]; rfl
    have ek : t.kind = (tokM (l.drop (p + g))).kind := by rw [h1]; rfl
    have el : t.line = ln2 := by rw [h1]; rfl
    have ec : t.col = cl2 := by rw [h1]; rfl
    have hne : rest ≠ [] := fun e => by
      rw [e] at h2
      exact (toks_kindsQ _ _ _ _ _) h2.symm
    have htx : t.text ≠ [] := fun e => by rw [e] at hxl; simp at hxl; omega
    rw [el, ec]
    refine ⟨by omega, hle1, hcc, hge1.2, ?_, ⟨fun e => absurd e htx, fun e => absurd (ek.symm.trans e) hk6⟩, ⟨fun e => absurd (ek.symm.trans e) hk6, fun e => absurd e hne⟩, by rw [ex]; exact h10, ?_, fun _ => ⟨p + g + (tokM (l.drop (p + g))).len, ?_, by omega, ?_⟩, fun e => absurd e hne⟩
    · rw [hxl, ex]; exact hlin
    · rw [decide_eq_false (fun e => hk6 (ek.symm.trans e))]; exact hseg false (fun _ => hz)
    · rw [hxl]; exact hpt
    · rw [hxl]; exact h2.symm
/-- The last token is the end, behind the last line's last byte. -/
theorem last_law {l : List UInt8} : ∀ (T : List Tok) (p ln cl : Nat), PosAt l p ln cl → p ≤ l.length → toks (l.drop p) false 0 ln cl = T → ∃ t, T.getLast? = some t ∧ (linesL l).length = t.line ∧ ∃ line, (linesL l)[t.line - 1]? = some line ∧ line.length + 1 = t.col
  | [], p, ln, cl, h, hp, ht => absurd ht (toks_kindsQ _ _ _ _ _)
  | t :: rest, p, ln, cl, h, hp, ht => by
    obtain ⟨_, _, _, _, _, _, _, _, _, hmore, hend⟩ := step_law h hp ht
    cases hr : rest with
    | nil => exact ⟨t, rfl, pos_end (hend hr)⟩
    | cons u v =>
      obtain ⟨p2, h1, h2, h3⟩ := hmore (by rw [hr]; simp)
      obtain ⟨x, e1, e2⟩ := last_law rest p2 _ _ h1 h2 h3
      rw [hr] at e1
      exact ⟨x, by rw [List.getLast?_cons_cons]; exact e1, e2⟩
end Go.Proofs.YtcefaipjncohmaaGreatDoor
