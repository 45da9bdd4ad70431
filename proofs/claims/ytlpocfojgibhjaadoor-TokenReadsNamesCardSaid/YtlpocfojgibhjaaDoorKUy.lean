/-
  What TokenReadsNames says, in plain words: single tokens, and what is read of a number's text. No condition.
-/
import Derived.Test.YtlpocfojgibhjaaDoorKUd
namespace Go.Proofs.YtlpocfojgibhjaaDoor
set_option linter.unusedVariables false
set_option linter.unusedSimpArgs false

theorem digV_wb {b : UInt8} (h : ¬ 16 ≤ digV b) : wb b = true := by
  have : ∀ k : Fin 256, ¬ 16 ≤ digV (UInt8.ofNat k.1) → wb (UInt8.ofNat k.1) = true := by decide +kernel
  have h2 := this ⟨b.toNat, b.toNat_lt⟩
  simp only [UInt8.ofNat_toNat] at h2
  exact h2 h
theorem valL_cons (base n : Nat) (b : UInt8) (l : List UInt8) : valL base n (b :: l) = if base ≤ digV b ∨ 1073741824 < n * base + digV b then none else valL base (n * base + digV b) l := rfl
theorem valL_run {base : Nat} (hb : base ≤ 16) : ∀ (l : List UInt8) (n m : Nat), valL base n l = some m → runL l = l.length
  | [], n, m, _ => rfl
  | b :: l, n, m, h => by
    rw [valL_cons] at h
    split at h
    · cases h
    · rename_i hn
      rw [runL_cons, if_pos (digV_wb (by omega)), valL_run hb l _ m h]
      rfl
theorem num_run {l : List UInt8} {n : Nat} (h : numM l = some n) : runL l = l.length := by
  unfold numM at h
  split at h
  · rename_i hx
    obtain ⟨t, ht⟩ := hx
    split at h
    · cases h
    · subst ht
      have := valL_run (by decide) _ _ _ h
      simp only [List.cons_append, List.nil_append, List.drop_succ_cons, List.drop_zero] at this ⊢
      rw [runL_cons, runL_cons, this, if_pos (by rfl), if_pos (by rfl)]
      rfl
  · split at h
    · cases h
    · split at h
      · cases h
      · exact valL_run (by decide) _ _ _ h
theorem dg_lo {b : UInt8} (h : dg b = true) : ¬ lo b = true := by
  unfold dg at h
  unfold lo
  simp only [Bool.and_eq_true, decide_eq_true_eq] at h ⊢
  omega
theorem name_lo {l : List UInt8} (h : nameM l = true) : ∃ b r, l = b :: r ∧ lo b = true ∧ kindM l = 1 ∧ runL l = l.length := by
  cases l with
  | nil => cases h
  | cons b r =>
    have e : nameM (b :: r) = (lo b && decide (kindM (b :: r) = 1) && decide (runL (b :: r) = (b :: r).length)) := rfl
    rw [e] at h
    simp only [Bool.and_eq_true, decide_eq_true_eq] at h
    exact ⟨b, r, rfl, h.1.1, h.1.2, h.2⟩
theorem kindM_3 (l : List UInt8) : kindM l ≠ 3 := by
  unfold kindM
  split
  · decide
  · split <;> decide
theorem take_len {l : List UInt8} {k : Nat} (h : l.take k = l) : l.length ≤ k := by
  have := congrArg List.length h
  rw [List.length_take] at this
  omega
/-- What a text's tokens say of names and numbers. -/
theorem single_law (l : List UInt8) : ∃ t R, toks l false 0 1 1 = t :: R ∧
    (nameM l = true → R.length = 1 ∧ t.text = l ∧ t.kind = 1) ∧
    (∀ v, numM l = some v → R.length = 1 ∧ t.text = l ∧ t.kind = 3 ∧ t.n = v) ∧
    (t.text = l → t.kind = 1 → nameM l = true) ∧ (t.text = l → t.kind = 3 → (numM l).isSome = true) := by
  by_cases hg : nog l = true
  · have ht := toks_tok hg 1 1
    refine ⟨_, _, ht, ?_⟩
    have hend : (tokM l).len = l.length → (toks (l.drop (tokM l).len) false 0 1 (1 + (tokM l).len)).length = 1 ∧ (tokAt l 1 1).text = l := fun e => by
      rw [e, List.drop_length, toks_end]
      refine ⟨rfl, ?_⟩
      show l.take (tokM l).len = l
      rw [e, List.take_length]
    cases l with
    | nil => cases hg
    | cons b r =>
      by_cases h1 : lo b = true
      · have e : tokM (b :: r) = ⟨kindM ((b :: r).take (runL (b :: r))), 0, runL (b :: r)⟩ := by rw [tokM_cons, if_pos h1]
        refine ⟨fun hn => ?_, fun v hv => ?_, fun htx hk => ?_, fun htx hk => ?_⟩
        · obtain ⟨_, _, _, _, hk, hr⟩ := name_lo hn
          have h2 := hend (by rw [e]; exact hr)
          refine ⟨h2.1, h2.2, ?_⟩
          show (tokM (b :: r)).kind = 1
          rw [e]
          show kindM _ = 1
          rw [hr, List.take_length, hk]
        · exfalso
          obtain ⟨c, t, hc, hd⟩ := num_head hv
          injection hc with hc _
          subst hc
          exact dg_lo hd h1
        · have htx2 : (b :: r).take (tokM (b :: r)).len = b :: r := htx
          have hk2 : (tokM (b :: r)).kind = 1 := hk
          rw [e] at htx2 hk2
          have hk3 : kindM ((b :: r).take (runL (b :: r))) = 1 := hk2
          have htx3 : (b :: r).take (runL (b :: r)) = b :: r := htx2
          rw [htx3] at hk3
          have hl := take_len htx3
          have hle := runL_le (b :: r)
          show (lo b && decide (kindM (b :: r) = 1) && decide (runL (b :: r) = (b :: r).length)) = true
          rw [h1, decide_eq_true hk3, decide_eq_true (by omega)]
          rfl
        · exfalso
          have hk2 : (tokM (b :: r)).kind = 3 := hk
          rw [e] at hk2
          exact kindM_3 _ hk2
      · have hno : ∀ q : Prop, nameM (b :: r) = true → q := fun q hn => by
          obtain ⟨c, t, hc, hl, _⟩ := name_lo hn
          injection hc with hc _
          subst hc
          exact absurd hl h1
        by_cases h2 : dg b = true
        · cases hv : numM ((b :: r).take (runL (b :: r))) with
          | some n =>
            have e : tokM (b :: r) = ⟨3, n, runL (b :: r)⟩ := by rw [tokM_cons, if_neg h1, if_pos h2, hv]
            refine ⟨fun hn => hno _ hn, fun v hv2 => ?_, fun htx hk => ?_, fun htx hk => ?_⟩
            · have hr := num_run hv2
              rw [hr, List.take_length, hv2] at hv
              have h3 := hend (by rw [e]; exact hr)
              refine ⟨h3.1, h3.2, ?_, ?_⟩
              · show (tokM (b :: r)).kind = 3
                rw [e]
              · show (tokM (b :: r)).n = v
                rw [e]
                exact (Option.some.inj hv).symm
            · exfalso
              have hk2 : (tokM (b :: r)).kind = 1 := hk
              rw [e] at hk2
              cases hk2
            · have htx2 : (b :: r).take (tokM (b :: r)).len = b :: r := htx
              rw [e] at htx2
              have htx3 : (b :: r).take (runL (b :: r)) = b :: r := htx2
              rw [htx3] at hv
              rw [hv]; rfl
          | none =>
            have e : tokM (b :: r) = ⟨5, 0, runL (b :: r)⟩ := by rw [tokM_cons, if_neg h1, if_pos h2, hv]
            refine ⟨fun hn => hno _ hn, fun v hv2 => ?_, fun htx hk => ?_, fun htx hk => ?_⟩
            · exfalso
              have hr := num_run hv2
              rw [hr, List.take_length, hv2] at hv
              cases hv
            · exfalso
              have hk2 : (tokM (b :: r)).kind = 1 := hk
              rw [e] at hk2
              cases hk2
            · exfalso
              have hk2 : (tokM (b :: r)).kind = 3 := hk
              rw [e] at hk2
              cases hk2
        · have hnn : ∀ (v : Nat) (q : Prop), numM (b :: r) = some v → q := fun v q hv => by
            obtain ⟨c, t, hc, hd⟩ := num_head hv
            injection hc with hc _
            subst hc
            exact absurd hd h2
          have hk45 : (tokM (b :: r)).kind = 4 ∨ (tokM (b :: r)).kind = 5 := by
            rw [tokM_cons, if_neg h1, if_neg h2]
            split
            · exact Or.inl rfl
            · exact Or.inr rfl
          refine ⟨fun hn => hno _ hn, fun v hv2 => hnn v _ hv2, fun htx hk => ?_, fun htx hk => ?_⟩
          · exfalso
            have hk2 : (tokM (b :: r)).kind = 1 := hk
            omega
          · exfalso
            have hk2 : (tokM (b :: r)).kind = 3 := hk
            omega
  · -- no token begins here
    have hname : ∀ q : Prop, nameM l = true → q := fun q hn => by
      obtain ⟨b, r, hc, hl, _⟩ := name_lo hn
      exfalso
      apply hg
      subst hc
      have hw := lo_wb hl
      have h1 : sepB b = false := by
        cases hs : sepB b with
        | false => rfl
        | true => rw [sep_wb hs] at hw; cases hw
      have h2 : b ≠ 35 := fun e => by subst e; cases hw
      simp [nog, h1, h2]
    have hnum : ∀ (v : Nat) (q : Prop), numM l = some v → q := fun v q hv => by
      obtain ⟨b, r, hc, hd⟩ := num_head hv
      exfalso
      apply hg
      subst hc
      have hw := dg_wb hd
      have h1 : sepB b = false := by
        cases hs : sepB b with
        | false => rfl
        | true => rw [sep_wb hs] at hw; cases hw
      have h2 : b ≠ 35 := fun e => by subst e; cases hw
      simp [nog, h1, h2]
    have hgap := toks_gap l false 1 1
    rcases gapL_nog false l with hz | hz
    · rw [hz, toks_end] at hgap
      refine ⟨_, _, hgap, fun hn => hname _ hn, fun v hv => hnum v _ hv, fun _ (hk : (6 : Nat) = 1) => absurd hk (by decide), fun _ (hk : (6 : Nat) = 3) => absurd hk (by decide)⟩
    · rw [toks_tok hz] at hgap
      have hgl := gapL_le false l
      have hg0 : 0 < gapL false l := by
        rcases Nat.eq_zero_or_pos (gapL false l) with h | h
        · rw [h, List.drop_zero] at hz; exact absurd hz hg
        · exact h
      have hshort : ∀ q : Prop, (l.drop (gapL false l)).take (tokM (l.drop (gapL false l))).len = l → q := fun q e => by
        exfalso
        have := congrArg List.length e
        rw [List.length_take, List.length_drop] at this
        have h0 : 0 < l.length := by omega
        omega
      refine ⟨_, _, hgap, fun hn => hname _ hn, fun v hv => hnum v _ hv, fun htx _ => hshort _ htx, fun htx _ => hshort _ htx⟩
theorem valL_app (base : Nat) : ∀ (a b : List UInt8) (n m : Nat), valL base n a = some m → valL base n (a ++ b) = valL base m b
  | [], b, n, m, h => by
    have : n = m := Option.some.inj h
    rw [this]; rfl
  | x :: a, b, n, m, h => by
    rw [valL_cons] at h
    show valL base n (x :: (a ++ b)) = _
    rw [valL_cons]
    split at h
    · cases h
    · rename_i hn
      rw [if_neg hn]
      exact valL_app base a b _ m h
theorem digV_digH (d : Nat) (h : d < 16) : digV (digH d) = d := by
  have : ∀ m : Fin 16, digV (digH m.1) = m.1 := by decide
  exact this ⟨d, h⟩
theorem valL_hex (n : Nat) (h : n ≤ 1073741824) : valL 16 0 (hexD n) = some n := by
  induction n using Nat.strongRecOn with
  | _ n ih =>
    by_cases h16 : n < 16
    · rw [hexD_last h16, valL_cons, digV_digH n h16, if_neg (by omega)]
      show some _ = some n
      congr 1; omega
    · rw [hexD_step h h16, valL_app 16 _ _ 0 _ (ih (n / 16) (by omega) (by omega)), valL_cons, digV_digH _ (by omega), if_neg (by omega)]
      show some _ = some n
      congr 1; omega
theorem hexD_8 (n : Nat) (h : n ≤ 1073741824) : (hexD n).length ≤ 8 := by
  have e : hexD n = hexF 8 n := hexF_more 7 n (by omega)
  rw [e]; exact hexF_len 8 n
theorem num_hexM (n : Int) (h0 : 0 ≤ n) (h1 : n ≤ 1073741824) : numM (hexM n) = some n.toNat := by
  have e : hexM n = 48 :: 120 :: hexD n.toNat := if_neg (by omega)
  have h8 := hexD_8 n.toNat (by omega)
  have hv := valL_hex n.toNat (by omega)
  have hne : hexD n.toNat ≠ [] := fun e2 => by
    by_cases h16 : n.toNat < 16
    · rw [hexD_last h16] at e2; cases e2
    · rw [hexD_step (by omega) h16] at e2; simp at e2
  have hlen : (hexD n.toNat).length ≠ 0 := fun e2 => hne (List.eq_nil_of_length_eq_zero e2)
  rw [e]
  unfold numM
  rw [if_pos ⟨hexD n.toNat, rfl⟩, if_neg (by simp only [List.length_cons]; omega)]
  exact hv
theorem digV_dec (d : Nat) (h : d < 10) : digV (UInt8.ofNat (48 + d)) = d := by
  have : ∀ m : Fin 10, digV (UInt8.ofNat (48 + m.1)) = m.1 := by decide
  exact this ⟨d, h⟩
theorem valL_dec (n : Nat) (h : n ≤ 1073741824) : valL 10 0 (Lib.decDigits n) = some n := by
  induction n using Nat.strongRecOn with
  | _ n ih =>
    by_cases h10 : n < 10
    · rw [Lib.decDigits, dif_pos h10, valL_cons, digV_dec n h10, if_neg (by omega)]
      show some _ = some n
      congr 1; omega
    · rw [Lib.decDigits, dif_neg h10, valL_app 10 _ _ 0 _ (ih (n / 10) (by omega) (by omega)), valL_cons, digV_dec _ (by omega), if_neg (by omega)]
      show some _ = some n
      congr 1; omega
theorem dec_head (n : Nat) : ∃ c l, Lib.decDigits n = c :: l ∧ dg c = true ∧ (c = 48 → n = 0 ∧ l = []) := by
  induction n using Nat.strongRecOn with
  | _ n ih =>
    by_cases h : n < 10
    · refine ⟨UInt8.ofNat (48 + n), [], by rw [Lib.decDigits, dif_pos h], ?_, fun e => ⟨?_, rfl⟩⟩
      · have : ∀ m : Fin 10, dg (UInt8.ofNat (48 + m.1)) = true := by decide
        exact this ⟨n, h⟩
      · have : ∀ m : Fin 10, UInt8.ofNat (48 + m.1) = 48 → m.1 = 0 := by decide
        exact this ⟨n, h⟩ e
    · obtain ⟨c, l, e, h1, h2⟩ := ih (n / 10) (by omega)
      refine ⟨c, l ++ [UInt8.ofNat (48 + n % 10)], by rw [Lib.decDigits, dif_neg h, e]; rfl, h1, fun h48 => ?_⟩
      have := (h2 h48).1
      omega
theorem num_itoa (n : Int) (h0 : 0 ≤ n) (h1 : n ≤ 1073741824) : numM (Lib.itoa n) = some n.toNat := by
  have e : Lib.itoa n = Lib.decDigits n.toNat := by unfold Lib.itoa; rw [if_neg (by omega)]
  have hv := valL_dec n.toNat (by omega)
  obtain ⟨c, l, hc, hd, h48⟩ := dec_head n.toNat
  rw [e]
  rw [hc] at hv ⊢
  unfold numM
  have hp : ¬ [48, 120] <+: c :: l := by
    rintro ⟨t, ht⟩
    injection ht with h2 h3
    have h4 := (h48 h2.symm).2
    rw [h4] at h3
    cases h3
  rw [if_neg hp, if_neg ?_, if_neg (by simp)]
  · exact hv
  · rintro ⟨⟨t, ht⟩, hne⟩
    injection ht with h2 h3
    have h4 := (h48 h2.symm).2
    apply hne
    rw [← h2, h4]
end Go.Proofs.YtlpocfojgibhjaaDoor
