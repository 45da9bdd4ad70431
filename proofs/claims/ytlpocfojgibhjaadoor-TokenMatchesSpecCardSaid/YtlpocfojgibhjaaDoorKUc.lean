/-
  Contracts of the walks over the reference's Number and Hex. Conditions: texts that fit into memory.
-/
import Derived.Test.YtlpocfojgibhjaaDoorKUb
namespace Go.Proofs.YtlpocfojgibhjaaDoor
set_option linter.unusedVariables false
set_option linter.unusedSimpArgs false
open Go.RowKit Go.Shelf

/-- The number with some digits behind the number n, however great. -/
def valU (base : Nat) : Nat → List UInt8 → Option Nat
  | n, [] => some n
  | n, b :: l => if base ≤ digV b then none else valU base (base * n + digV b) l
theorem valU_ge {base : Nat} (hb : 1 ≤ base) : ∀ (l : List UInt8) (n m : Nat), valU base n l = some m → n ≤ m
  | [], n, m, h => by injection h with h; omega
  | b :: l, n, m, h => by
    have e : valU base n (b :: l) = if base ≤ digV b then none else valU base (base * n + digV b) l := rfl
    rw [e] at h
    split at h
    · cases h
    · have := valU_ge hb l _ m h
      have h2 : 1 * n ≤ base * n := Nat.mul_le_mul_right n hb
      omega
def cutU : Option Nat → Option Nat
  | none => none
  | some m => if 1073741824 < m then none else some m
theorem valL_U {base : Nat} (hb : 1 ≤ base) : ∀ (l : List UInt8) (n : Nat), n ≤ 1073741824 → valL base n l = cutU (valU base n l)
  | [], n, h => by
    show some n = cutU (some n)
    unfold cutU
    simp only
    rw [if_neg (by omega)]
  | b :: l, n, h => by
    have e : valU base n (b :: l) = if base ≤ digV b then none else valU base (base * n + digV b) l := rfl
    have e2 : valL base n (b :: l) = if base ≤ digV b ∨ 1073741824 < n * base + digV b then none else valL base (n * base + digV b) l := rfl
    rw [e, e2, Nat.mul_comm base n]
    by_cases h1 : base ≤ digV b
    · rw [if_pos (Or.inl h1), if_pos h1]; rfl
    · rw [if_neg h1]
      by_cases h2 : 1073741824 < n * base + digV b
      · rw [if_pos (Or.inr h2)]
        cases hv : valU base (n * base + digV b) l with
        | none => rfl
        | some m =>
          have := valU_ge hb l _ m hv
          unfold cutU
          simp only
          rw [if_pos (by omega)]
      · rw [if_neg (by omega)]
        exact valL_U hb l _ (by omega)
theorem valL_grow : ∀ (l : List UInt8) (n m : Nat), valL 10 n l = some m → n * 10 ^ l.length ≤ 1073741824 ∨ l = []
  | [], n, m, _ => Or.inr rfl
  | b :: l, n, m, h => by
    left
    have e2 : valL 10 n (b :: l) = if 10 ≤ digV b ∨ 1073741824 < n * 10 + digV b then none else valL 10 (n * 10 + digV b) l := rfl
    rw [e2] at h
    split at h
    · cases h
    · rename_i hn
      rw [List.length_cons, Nat.pow_succ]
      rcases valL_grow l _ m h with h1 | h1
      · have h3 : n * (10 ^ l.length * 10) ≤ (n * 10 + digV b) * 10 ^ l.length := by
          have : n * (10 ^ l.length * 10) = (n * 10) * 10 ^ l.length := by rw [Nat.mul_comm (10 ^ l.length) 10, ← Nat.mul_assoc]
          rw [this]
          exact Nat.mul_le_mul_right _ (Nat.le_add_right _ _)
        omega
      · subst h1
        simp
        omega
/-- A number without a prefix has at most ten digits. -/
theorem num_long {l : List UInt8} (h0 : ¬ [48] <+: l) (h : 10 < l.length) : valL 10 0 l = none := by
  cases l with
  | nil => simp at h
  | cons b r =>
    cases hv : valL 10 0 (b :: r) with
    | none => rfl
    | some m =>
      exfalso
      have e2 : valL 10 0 (b :: r) = if 10 ≤ digV b ∨ 1073741824 < 0 * 10 + digV b then none else valL 10 (0 * 10 + digV b) r := rfl
      rw [e2] at hv
      split at hv
      · cases hv
      · rename_i hn
        have hd1 : 1 ≤ digV b := by
          rcases Nat.eq_zero_or_pos (digV b) with hz | hz
          · exfalso
            have : ∀ k : Fin 256, digV (UInt8.ofNat k.1) = 0 → UInt8.ofNat k.1 = 48 := by decide +kernel
            have h2 := this ⟨b.toNat, b.toNat_lt⟩
            simp only [UInt8.ofNat_toNat] at h2
            rw [h2 hz] at h0
            exact h0 ⟨r, rfl⟩
          · exact hz
        simp only [List.length_cons] at h
        rcases valL_grow r _ m hv with h1 | h1
        · have h3 : 10 ^ 10 ≤ 10 ^ r.length := Nat.pow_le_pow_right (by decide) (by omega)
          have h4 : 1 * 10 ^ r.length ≤ (0 * 10 + digV b) * 10 ^ r.length := Nat.mul_le_mul_right _ (by omega)
          have : (10 : Nat) ^ 10 = 10000000000 := by decide
          omega
        · subst h1; simp at h
theorem valU_get {base n k : Nat} {l : List UInt8} {b : UInt8} (h : l[k]? = some b) : valU base n (l.drop k) = if base ≤ digV b then none else valU base (base * n + digV b) (l.drop (k + 1)) := by
  have hl := (List.getElem?_eq_some_iff.1 h).1
  rw [List.drop_eq_getElem_cons hl, (List.getElem?_eq_some_iff.1 h).2]
  rfl
def NbR (base : Nat) (l : List UInt8) (V : Option Nat) (w : World) (i m : Value) (wr : World) : Prop :=
  ∃ k n : Nat, k ≤ l.length ∧ n < 16 ^ k ∧ i = .int .i64 (k : Int) ∧ m = .int .i64 (n : Int) ∧ valU base n (l.drop k) = V ∧ Below w.heap.size w wr
theorem pow_le10 {k : Nat} (h : k ≤ 10) : 16 ^ k ≤ 1099511627776 := Nat.le_trans (Nat.pow_le_pow_right (by decide) h) (by decide)
theorem hex_pre {s : ByteArray} (h : 2 < s.size) (h0 : s[0]'(by omega) = 48) (h1 : s[1]'(by omega) = 120) : [48, 120] <+: s.data.toList := by
  obtain ⟨l, hl⟩ := head_of s (by omega)
  have hz := lenS s
  rw [hl] at hz
  cases l with
  | nil => simp at hz; omega
  | cons y r =>
    have e := byte_at s (show 1 < s.size by omega)
    simp only [hl] at e
    have h2 : y = s[1] := by simpa using e
    rw [hl, h0, h2, h1]
    exact ⟨r, rfl⟩
theorem hex_pre2 {s : ByteArray} (h : 2 < s.size) (hp : [48, 120] <+: s.data.toList) : s[0]'(by omega) = 48 ∧ s[1]'(by omega) = 120 := by
  obtain ⟨t, ht⟩ := hp
  have e0 := byte_at s (show 0 < s.size by omega)
  have e1 := byte_at s (show 1 < s.size by omega)
  simp only [← ht] at e0 e1
  exact ⟨by simpa using e0.symm, by simpa using e1.symm⟩
theorem zero_pre {s : ByteArray} (h : 0 < s.size) : [48] <+: s.data.toList ↔ s[0] = 48 := by
  obtain ⟨l, hl⟩ := head_of s h
  rw [hl]
  constructor
  · rintro ⟨t, ht⟩
    simp at ht
    exact ht.1.symm
  · intro e
    rw [e]
    exact ⟨l, rfl⟩
set_option maxRecDepth 100000 in
set_option maxHeartbeats 6400000 in
theorem rnumber_any (s : ByteArray) (hs : s.size ≤ 140737488355328) (w : World) : Calls Tryd.prog 17 #[.string s] w fun e w' => e = numE (numM s.data.toList) ∧ Below w.heap.size w w' := by
  by_cases hx : ∃ h : 2 < s.size, s[0]'(by omega) = 48 ∧ s[1]'(by omega) = 120
  · obtain ⟨h2, e0, e1⟩ := hx
    have E0 := Lib.hid e0
    have h48a : (((s[0]'(by omega)).toNat : Int) == 48) = true := by rw [e0]; rfl
    have h120 : (((s[1]'(by omega)).toNat : Int) == 120) = true := by rw [e1]; rfl
    have hp := hex_pre h2 e0 e1
    have hlen := lenS s
    have hN0 : numM s.data.toList = if 10 < s.data.toList.length ∨ s.data.toList.length = 2 then none else valL 16 0 (s.data.toList.drop 2) := if_pos hp
    rw [hlen] at hN0
    have h2i : (2 : Int) < (s.size : Int) := by omega
    have h2j : (2 : Int) ≤ (s.size : Int) := by omega
    have h1i : (1 : Int) < (s.size : Int) := by omega
    have h0i : (0 : Int) < (s.size : Int) := by omega
    have hts := tail_size s 2
    obtain ⟨D, hD⟩ : ∃ D, s.extract 2 s.size = D := ⟨_, rfl⟩
    have hDl : D.data.toList = s.data.toList.drop 2 := by rw [← hD]; exact tail_list s 2
    rw [hD] at hts
    rw [← hDl] at hN0
    by_cases hbig : 10 < s.size
    · rw [if_pos (Or.inl hbig)] at hN0
      have HR := Lib.hid hN0
      have hb8 : (8 : Int) < (D.size : Int) := by omega
      clear hN0 hp hlen hDl
      go_enter Tryd.func17, Tryd.ntmps17
      go_wp2
      go_ret2
      exact ⟨by rw [HR.out]; rfl, Below.refl _ _⟩
    · rw [if_neg (by omega), valL_U (by decide) _ _ (by decide)] at hN0
      have hdl : D.data.toList = D.data.toList := by first | rfl | exact tail_list s 2
      have HAT : Hid (∀ k (h : k < D.size), D.data.toList[k]? = some (D[k]'h)) := by
        have : ∀ k (h : k < D.size), D.data.toList[k]? = some (D[k]'h) := fun k h => by
          rw [← hdl, ← byte_at _ h, List.getElem?_eq_getElem]
        exact this
      have hlD := lenS D
      rw [hdl] at hlD
      obtain ⟨V, hV⟩ : ∃ V, Hid (valU 16 0 D.data.toList = V) := ⟨_, rfl⟩
      rw [hV.out] at hN0
      have HRES := Lib.hid hN0.symm
      have hN : Hid (D.data.toList.length = D.size) := hlD
      obtain ⟨dl, hdq⟩ : ∃ dl, Hid (D.data.toList = dl) := ⟨_, rfl⟩
      rw [hdq.out] at hN hV HAT
      have HNB : Hid (D.size ≤ 10) := (by omega : D.size ≤ 10)
      have hb8 : ¬ (8 : Int) < (D.size : Int) := by omega
      have hb10 : ¬ (10 : Int) < (D.size : Int) := by omega
      have hz : ((D.size : Int) == 0) = false := beq_eq_false_iff_ne.2 (by omega)
      have hzn : (D.size == 0) = false := beq_eq_false_iff_ne.2 (by omega)
      have hdb : (D.size : Int) ≤ 10 := by omega
      clear hN0 hp hlen hdl hlD hts hDl
      go_enter Tryd.func17, Tryd.ntmps17
      go_wp2
      go_loopw [7, 6] (fun i m wr => NbR 16 dl V w i m wr) (fun i _ _ => D.size - (intOf i).toNat)
      case atStart => exact ⟨0, 0, Nat.zero_le _, by decide, rfl, rfl, hV.out, Below.refl _ _⟩
      case round =>
        obtain ⟨k, n, hk, hn, rfl, rfl, hv, hbe⟩ := hrel
        rw [hN.out] at hk
        have HV := Lib.hid hv
        clear hv
        by_cases hlt : k < D.size
        · have hki : (k : Int) < (D.size : Int) := by omega
          have hk0 : (0 : Int) ≤ (k : Int) := by omega
          have hkd : k < D.size := hlt
          have hst := valU_get (base := 16) (n := n) (HAT.out k hkd)
          rw [HV.out] at hst
          obtain ⟨b, hb⟩ : ∃ b, D[k]'hkd = b := ⟨_, rfl⟩
          rw [hb] at hst
          have hdv := digV_le b
          have HW := fun w => rvalue_any b w
          obtain ⟨d, hd⟩ : ∃ d, digV b = d := ⟨_, rfl⟩
          rw [hd] at hst HW hdv
          have hp := pow_le10 (k := k) (by have := HNB.out; omega)
          have hn1 : (n : Int) ≤ 1099511627776 := by omega
          have hd1 : (d : Int) ≤ 16 := by omega
          have hn0 : (0 : Int) ≤ (n : Int) := by omega
          have hd0 : (0 : Int) ≤ (d : Int) := by omega
          have hpw : Hid (16 ≤ d ∨ 16 * n + d < 16 ^ (k + 1)) := by
            have : 16 ≤ d ∨ 16 * n + d < 16 ^ (k + 1) := by
              rcases Nat.lt_or_ge d 16 with h | h
              · right
                rw [Nat.pow_succ]
                have : n + 1 ≤ 16 ^ k := hn
                omega
              · exact Or.inl h
            exact this
          by_cases hbd : 16 ≤ d
          · rw [if_pos hbd] at hst
            have hbdi : (16 : Int) ≤ (d : Int) := by omega
            have HR := Lib.hid hst
            clear hst hd hp hn
            go_wp2_with fail
            (with_reducible refine (HW _).mono ?_)
            rintro e w2 ⟨rfl, hb2⟩
            have hbe := below_join hbe hb2
            go_wp2
            go_ret2
            exact ⟨by rw [← HRES.out, HR.out]; rfl, hbe⟩
          · rw [if_neg hbd] at hst
            have hbdi : ¬ (16 : Int) ≤ (d : Int) := by omega
            obtain ⟨m, hm⟩ : ∃ m, 16 * n + d = m := ⟨_, rfl⟩
            have hmi : (16 : Int) * (n : Int) + (d : Int) = (m : Int) := by omega
            rw [hm] at hst hpw
            have HR := Lib.hid hst
            have HPW := Lib.hid (hpw.out.resolve_left hbd)
            clear hst hd hp hn hpw
            go_wp2_with fail
            (with_reducible refine (HW _).mono ?_)
            rintro e w2 ⟨rfl, hb2⟩
            have hbe := below_join hbe hb2
            go_wp2
            go_roundw
            case rel => exact ⟨k + 1, m, by rw [hN.out]; exact hlt, HPW.out, by go_num, rfl, HR.out.symm, hbe⟩
            case measure => simp [intOf]; omega
        · have hkn : k = D.size := by omega
          subst hkn
          have hfin : V = some n := by
            rw [← HV.out, List.drop_eq_nil_of_le (by rw [hN.out]; exact Nat.le_refl _)]
            rfl
          have hki : ¬ (D.size : Int) < (D.size : Int) := by omega
          by_cases hbig : 1073741824 < n
          · have hbi : (1073741824 : Int) < (n : Int) := by omega
            have HF : Hid (cutU V = none) := by
              have : cutU V = none := by rw [hfin]; unfold cutU; simp only; rw [if_pos hbig]
              exact this
            clear hfin
            go_wp2
            go_ret2
            exact ⟨by rw [← HRES.out, HF.out]; rfl, hbe⟩
          · have hbi : ¬ (1073741824 : Int) < (n : Int) := by omega
            have HF : Hid (cutU V = some n) := by
              have : cutU V = some n := by rw [hfin]; unfold cutU; simp only; rw [if_neg hbig]
              exact this
            clear hfin
            go_wp2
            go_ret2
            exact ⟨by rw [← HRES.out, HF.out]; rfl, hbe⟩
  · skip
    have hcz : s.size ≤ 2 ∨ (∃ h : 2 < s.size, s[0]'(by omega) ≠ 48) ∨ (∃ h : 2 < s.size, s[0]'(by omega) = 48 ∧ s[1]'(by omega) ≠ 120) := by
      rcases Nat.lt_or_ge 2 s.size with h | h
      · by_cases e0 : s[0]'(by omega) = 48
        · exact Or.inr (Or.inr ⟨h, e0, fun e1 => hx ⟨h, e0, e1⟩⟩)
        · exact Or.inr (Or.inl ⟨h, e0⟩)
      · exact Or.inl h
    have hx2 : ¬ (2 < s.size ∧ [48, 120] <+: s.data.toList) := fun h => hx ⟨h.1, hex_pre2 h.1 h.2⟩
    clear hx
    have hlen := lenS s
    have hsz0 : s.size = 0 ∨ 0 < s.size := by omega
    have hcond : s.size = 0 ∨ 10 < s.size ∨ (1 < s.size ∧ [48] <+: s.data.toList) ∨ (0 < s.size ∧ s.size ≤ 10 ∧ ¬ (1 < s.size ∧ [48] <+: s.data.toList)) := by
      by_cases a1 : s.size = 0
      · exact Or.inl a1
      · by_cases a2 : 10 < s.size
        · exact Or.inr (Or.inl a2)
        · by_cases a3 : 1 < s.size ∧ [48] <+: s.data.toList
          · exact Or.inr (Or.inr (Or.inl a3))
          · exact Or.inr (Or.inr (Or.inr ⟨by omega, by omega, a3⟩))
    have hnone : (s.size = 0 ∨ 10 < s.size ∨ (1 < s.size ∧ [48] <+: s.data.toList)) → numM s.data.toList = none := fun h => by
      unfold numM
      by_cases hp : [48, 120] <+: s.data.toList
      · rw [if_pos hp]
        have : s.data.toList.length = 2 := by
          obtain ⟨t, ht⟩ := hp
          have h3 : 2 ≤ s.data.toList.length := by rw [← ht]; simp
          rcases Nat.lt_or_ge 2 s.size with h4 | h4
          · exact absurd ⟨h4, ⟨t, ht⟩⟩ hx2
          · omega
        rw [if_pos (Or.inr this)]
      · rw [if_neg hp]
        by_cases hz : [48] <+: s.data.toList ∧ s.data.toList ≠ [48]
        · rw [if_pos hz]
        · rw [if_neg hz]
          by_cases he : s.data.toList = []
          · rw [if_pos he]
          · rw [if_neg he]
            rcases h with h | h | h
            · exact absurd (List.eq_nil_of_length_eq_zero (by omega)) he
            · by_cases h48 : [48] <+: s.data.toList
              · exfalso
                refine hz ⟨h48, fun e => ?_⟩
                rw [e] at hlen; simp at hlen; omega
              · exact num_long h48 (by omega)
            · exfalso
              refine hz ⟨h.2, fun e => ?_⟩
              rw [e] at hlen; simp at hlen; omega
    have hsome : (0 < s.size ∧ s.size ≤ 10 ∧ ¬ (1 < s.size ∧ [48] <+: s.data.toList)) → numM s.data.toList = cutU (valU 10 0 s.data.toList) := fun h => by
      have hne : s.data.toList ≠ [] := fun e => by rw [e] at hlen; simp at hlen; omega
      rw [← valL_U (by decide) _ _ (by decide)]
      unfold numM
      have hp : ¬ [48, 120] <+: s.data.toList := fun hp => by
        obtain ⟨t, ht⟩ := hp
        have h3 : 2 ≤ s.data.toList.length := by rw [← ht]; simp
        refine h.2.2 ⟨by omega, ⟨120 :: t, ?_⟩⟩
        rw [← ht]; rfl
      have hz : ¬ ([48] <+: s.data.toList ∧ s.data.toList ≠ [48]) := fun hz => by
        refine h.2.2 ⟨?_, hz.1⟩
        rcases Nat.lt_or_ge 1 s.size with h4 | h4
        · exact h4
        · exfalso
          obtain ⟨t, ht⟩ := hz.1
          have : t = [] := by
            rw [← ht] at hlen
            simp at hlen
            exact List.eq_nil_of_length_eq_zero (by omega)
          subst this
          exact hz.2 ht.symm
      rw [if_neg hp, if_neg hz, if_neg hne]
    have HNONE := Lib.hid hnone
    have HSOME := Lib.hid hsome
    clear hnone hsome hx2
    rcases hcz with hc | ⟨h2, e0⟩ | ⟨h2, e0, e1⟩
    · skip
      have hc1 : ¬ (2 : Int) < (s.size : Int) := by omega
      rcases hcond with h | h | h | h
      · have HR := Lib.hid (HNONE.out (Or.inl h))
        have hz : ((s.size : Int) == 0) = true := by rw [h]; rfl
        clear hsz0
        go_enter Tryd.func17, Tryd.ntmps17
        go_wp2
        go_ret2
        exact ⟨by rw [HR.out]; rfl, Below.refl _ _⟩
      · have HR := Lib.hid (HNONE.out (Or.inr (Or.inl h)))
        have hz : ((s.size : Int) == 0) = false := beq_eq_false_iff_ne.2 (by omega)
        have hzn : (s.size == 0) = false := beq_eq_false_iff_ne.2 (by omega)
        have h10 : (10 : Int) < (s.size : Int) := by omega
        clear hsz0
        go_enter Tryd.func17, Tryd.ntmps17
        go_wp2
        go_ret2
        exact ⟨by rw [HR.out]; rfl, Below.refl _ _⟩
      · by_cases h11 : 10 < s.size
        · have HR := Lib.hid (HNONE.out (Or.inr (Or.inl h11)))
          have hz : ((s.size : Int) == 0) = false := beq_eq_false_iff_ne.2 (by omega)
          have hzn : (s.size == 0) = false := beq_eq_false_iff_ne.2 (by omega)
          have h10 : (10 : Int) < (s.size : Int) := by omega
          clear hsz0 h
          go_enter Tryd.func17, Tryd.ntmps17
          go_wp2
          go_ret2
          exact ⟨by rw [HR.out]; rfl, Below.refl _ _⟩
        · have HR := Lib.hid (HNONE.out (Or.inr (Or.inr h)))
          have hz : ((s.size : Int) == 0) = false := beq_eq_false_iff_ne.2 (by omega)
          have hzn : (s.size == 0) = false := beq_eq_false_iff_ne.2 (by omega)
          have h10 : ¬ (10 : Int) < (s.size : Int) := by omega
          have h1i : (1 : Int) < (s.size : Int) := by omega
          have h0i : (0 : Int) < (s.size : Int) := by omega
          have h0n : 0 < s.size := by omega
          have hb0 : s[0]'h0n = 48 := (zero_pre h0n).1 h.2
          have h48 : (((s[0]'h0n).toNat : Int) == 48) = true := by rw [hb0]; rfl
          clear hsz0 h
          go_enter Tryd.func17, Tryd.ntmps17
          go_wp2
          go_ret2
          exact ⟨by rw [HR.out]; rfl, Below.refl _ _⟩
      · have hres := HSOME.out h
        have hz : ((s.size : Int) == 0) = false := beq_eq_false_iff_ne.2 (by omega)
        have hzn : (s.size == 0) = false := beq_eq_false_iff_ne.2 (by omega)
        have h10 : ¬ (10 : Int) < (s.size : Int) := by omega
        have h0i : (0 : Int) < (s.size : Int) := by omega
        have h0n : 0 < s.size := by omega
        have hdl : s.data.toList = s.data.toList := by first | rfl | exact tail_list s 2
        have HAT : Hid (∀ k (h : k < s.size), s.data.toList[k]? = some (s[k]'h)) := by
          have : ∀ k (h : k < s.size), s.data.toList[k]? = some (s[k]'h) := fun k h => by
            rw [← hdl, ← byte_at _ h, List.getElem?_eq_getElem]
          exact this
        have hlD := lenS s
        rw [hdl] at hlD
        obtain ⟨V, hV⟩ : ∃ V, Hid (valU 10 0 s.data.toList = V) := ⟨_, rfl⟩
        rw [hV.out] at hres
        have HRES := Lib.hid hres.symm
        have hN : Hid (s.data.toList.length = s.size) := hlD
        have HNB : Hid (s.size ≤ 10) := h.2.1
        have hdb : (s.size : Int) ≤ 10 := by omega
        have h3 := h.2.2
        obtain ⟨dl, hdq⟩ : ∃ dl, Hid (s.data.toList = dl) := ⟨_, rfl⟩
        rw [hdq.out] at hN hV HAT
        by_cases h1n : 1 < s.size
        · have h1i : (1 : Int) < (s.size : Int) := by omega
          have hb0 : s[0]'h0n ≠ 48 := fun e => h3 ⟨h1n, (zero_pre h0n).2 e⟩
          have h48 : (((s[0]'h0n).toNat : Int) == 48) = false := beq_eq_false_iff_ne.2 fun e => hb0 (UInt8.toNat_inj.1 (by simpa using (by omega : (s[0]'h0n).toNat = 48)))
          clear hsz0 h hdl hlD hres h3
          go_enter Tryd.func17, Tryd.ntmps17
          go_wp2
          go_loopw [7, 6] (fun i m wr => NbR 10 dl V w i m wr) (fun i _ _ => s.size - (intOf i).toNat)
          case atStart => exact ⟨0, 0, Nat.zero_le _, by decide, rfl, rfl, hV.out, Below.refl _ _⟩
          case round =>
            obtain ⟨k, n, hk, hn, rfl, rfl, hv, hbe⟩ := hrel
            rw [hN.out] at hk
            have HV := Lib.hid hv
            clear hv
            by_cases hlt : k < s.size
            · have hki : (k : Int) < (s.size : Int) := by omega
              have hk0 : (0 : Int) ≤ (k : Int) := by omega
              have hkd : k < s.size := hlt
              have hst := valU_get (base := 10) (n := n) (HAT.out k hkd)
              rw [HV.out] at hst
              obtain ⟨b, hb⟩ : ∃ b, s[k]'hkd = b := ⟨_, rfl⟩
              rw [hb] at hst
              have hdv := digV_le b
              have HW := fun w => rvalue_any b w
              obtain ⟨d, hd⟩ : ∃ d, digV b = d := ⟨_, rfl⟩
              rw [hd] at hst HW hdv
              have hp := pow_le10 (k := k) (by have := HNB.out; omega)
              have hn1 : (n : Int) ≤ 1099511627776 := by omega
              have hd1 : (d : Int) ≤ 16 := by omega
              have hn0 : (0 : Int) ≤ (n : Int) := by omega
              have hd0 : (0 : Int) ≤ (d : Int) := by omega
              have hpw : Hid (10 ≤ d ∨ 10 * n + d < 16 ^ (k + 1)) := by
                have : 10 ≤ d ∨ 10 * n + d < 16 ^ (k + 1) := by
                  rcases Nat.lt_or_ge d 10 with h | h
                  · right
                    rw [Nat.pow_succ]
                    have : n + 1 ≤ 16 ^ k := hn
                    omega
                  · exact Or.inl h
                exact this
              by_cases hbd : 10 ≤ d
              · rw [if_pos hbd] at hst
                have hbdi : (10 : Int) ≤ (d : Int) := by omega
                have HR := Lib.hid hst
                clear hst hd hp hn
                go_wp2_with fail
                (with_reducible refine (HW _).mono ?_)
                rintro e w2 ⟨rfl, hb2⟩
                have hbe := below_join hbe hb2
                go_wp2
                go_ret2
                exact ⟨by rw [← HRES.out, HR.out]; rfl, hbe⟩
              · rw [if_neg hbd] at hst
                have hbdi : ¬ (10 : Int) ≤ (d : Int) := by omega
                obtain ⟨m, hm⟩ : ∃ m, 10 * n + d = m := ⟨_, rfl⟩
                have hmi : (10 : Int) * (n : Int) + (d : Int) = (m : Int) := by omega
                rw [hm] at hst hpw
                have HR := Lib.hid hst
                have HPW := Lib.hid (hpw.out.resolve_left hbd)
                clear hst hd hp hn hpw
                go_wp2_with fail
                (with_reducible refine (HW _).mono ?_)
                rintro e w2 ⟨rfl, hb2⟩
                have hbe := below_join hbe hb2
                go_wp2
                go_roundw
                case rel => exact ⟨k + 1, m, by rw [hN.out]; exact hlt, HPW.out, by go_num, rfl, HR.out.symm, hbe⟩
                case measure => simp [intOf]; omega
            · have hkn : k = s.size := by omega
              subst hkn
              have hfin : V = some n := by
                rw [← HV.out, List.drop_eq_nil_of_le (by rw [hN.out]; exact Nat.le_refl _)]
                rfl
              have hki : ¬ (s.size : Int) < (s.size : Int) := by omega
              by_cases hbig : 1073741824 < n
              · have hbi : (1073741824 : Int) < (n : Int) := by omega
                have HF : Hid (cutU V = none) := by
                  have : cutU V = none := by rw [hfin]; unfold cutU; simp only; rw [if_pos hbig]
                  exact this
                clear hfin
                go_wp2
                go_ret2
                exact ⟨by rw [← HRES.out, HF.out]; rfl, hbe⟩
              · have hbi : ¬ (1073741824 : Int) < (n : Int) := by omega
                have HF : Hid (cutU V = some n) := by
                  have : cutU V = some n := by rw [hfin]; unfold cutU; simp only; rw [if_neg hbig]
                  exact this
                clear hfin
                go_wp2
                go_ret2
                exact ⟨by rw [← HRES.out, HF.out]; rfl, hbe⟩
        · have h1i : ¬ (1 : Int) < (s.size : Int) := by omega
          clear hsz0 h hdl hlD hres h3
          go_enter Tryd.func17, Tryd.ntmps17
          go_wp2
          go_loopw [7, 6] (fun i m wr => NbR 10 dl V w i m wr) (fun i _ _ => s.size - (intOf i).toNat)
          case atStart => exact ⟨0, 0, Nat.zero_le _, by decide, rfl, rfl, hV.out, Below.refl _ _⟩
          case round =>
            obtain ⟨k, n, hk, hn, rfl, rfl, hv, hbe⟩ := hrel
            rw [hN.out] at hk
            have HV := Lib.hid hv
            clear hv
            by_cases hlt : k < s.size
            · have hki : (k : Int) < (s.size : Int) := by omega
              have hk0 : (0 : Int) ≤ (k : Int) := by omega
              have hkd : k < s.size := hlt
              have hst := valU_get (base := 10) (n := n) (HAT.out k hkd)
              rw [HV.out] at hst
              obtain ⟨b, hb⟩ : ∃ b, s[k]'hkd = b := ⟨_, rfl⟩
              rw [hb] at hst
              have hdv := digV_le b
              have HW := fun w => rvalue_any b w
              obtain ⟨d, hd⟩ : ∃ d, digV b = d := ⟨_, rfl⟩
              rw [hd] at hst HW hdv
              have hp := pow_le10 (k := k) (by have := HNB.out; omega)
              have hn1 : (n : Int) ≤ 1099511627776 := by omega
              have hd1 : (d : Int) ≤ 16 := by omega
              have hn0 : (0 : Int) ≤ (n : Int) := by omega
              have hd0 : (0 : Int) ≤ (d : Int) := by omega
              have hpw : Hid (10 ≤ d ∨ 10 * n + d < 16 ^ (k + 1)) := by
                have : 10 ≤ d ∨ 10 * n + d < 16 ^ (k + 1) := by
                  rcases Nat.lt_or_ge d 10 with h | h
                  · right
                    rw [Nat.pow_succ]
                    have : n + 1 ≤ 16 ^ k := hn
                    omega
                  · exact Or.inl h
                exact this
              by_cases hbd : 10 ≤ d
              · rw [if_pos hbd] at hst
                have hbdi : (10 : Int) ≤ (d : Int) := by omega
                have HR := Lib.hid hst
                clear hst hd hp hn
                go_wp2_with fail
                (with_reducible refine (HW _).mono ?_)
                rintro e w2 ⟨rfl, hb2⟩
                have hbe := below_join hbe hb2
                go_wp2
                go_ret2
                exact ⟨by rw [← HRES.out, HR.out]; rfl, hbe⟩
              · rw [if_neg hbd] at hst
                have hbdi : ¬ (10 : Int) ≤ (d : Int) := by omega
                obtain ⟨m, hm⟩ : ∃ m, 10 * n + d = m := ⟨_, rfl⟩
                have hmi : (10 : Int) * (n : Int) + (d : Int) = (m : Int) := by omega
                rw [hm] at hst hpw
                have HR := Lib.hid hst
                have HPW := Lib.hid (hpw.out.resolve_left hbd)
                clear hst hd hp hn hpw
                go_wp2_with fail
                (with_reducible refine (HW _).mono ?_)
                rintro e w2 ⟨rfl, hb2⟩
                have hbe := below_join hbe hb2
                go_wp2
                go_roundw
                case rel => exact ⟨k + 1, m, by rw [hN.out]; exact hlt, HPW.out, by go_num, rfl, HR.out.symm, hbe⟩
                case measure => simp [intOf]; omega
            · have hkn : k = s.size := by omega
              subst hkn
              have hfin : V = some n := by
                rw [← HV.out, List.drop_eq_nil_of_le (by rw [hN.out]; exact Nat.le_refl _)]
                rfl
              have hki : ¬ (s.size : Int) < (s.size : Int) := by omega
              by_cases hbig : 1073741824 < n
              · have hbi : (1073741824 : Int) < (n : Int) := by omega
                have HF : Hid (cutU V = none) := by
                  have : cutU V = none := by rw [hfin]; unfold cutU; simp only; rw [if_pos hbig]
                  exact this
                clear hfin
                go_wp2
                go_ret2
                exact ⟨by rw [← HRES.out, HF.out]; rfl, hbe⟩
              · have hbi : ¬ (1073741824 : Int) < (n : Int) := by omega
                have HF : Hid (cutU V = some n) := by
                  have : cutU V = some n := by rw [hfin]; unfold cutU; simp only; rw [if_neg hbig]
                  exact this
                clear hfin
                go_wp2
                go_ret2
                exact ⟨by rw [← HRES.out, HF.out]; rfl, hbe⟩
    · skip
      have hc1 : (2 : Int) < (s.size : Int) := by omega
      have hc0i : (0 : Int) < (s.size : Int) := by omega
      have hc2 : (((s[0]'(by omega)).toNat : Int) == 48) = false := beq_eq_false_iff_ne.2 fun e => e0 (UInt8.toNat_inj.1 (by simpa using (by omega : (s[0]'(by omega)).toNat = 48)))
      rcases hcond with h | h | h | h
      · have HR := Lib.hid (HNONE.out (Or.inl h))
        have hz : ((s.size : Int) == 0) = true := by rw [h]; rfl
        clear hsz0
        go_enter Tryd.func17, Tryd.ntmps17
        go_wp2
        go_ret2
        exact ⟨by rw [HR.out]; rfl, Below.refl _ _⟩
      · have HR := Lib.hid (HNONE.out (Or.inr (Or.inl h)))
        have hz : ((s.size : Int) == 0) = false := beq_eq_false_iff_ne.2 (by omega)
        have hzn : (s.size == 0) = false := beq_eq_false_iff_ne.2 (by omega)
        have h10 : (10 : Int) < (s.size : Int) := by omega
        clear hsz0
        go_enter Tryd.func17, Tryd.ntmps17
        go_wp2
        go_ret2
        exact ⟨by rw [HR.out]; rfl, Below.refl _ _⟩
      · by_cases h11 : 10 < s.size
        · have HR := Lib.hid (HNONE.out (Or.inr (Or.inl h11)))
          have hz : ((s.size : Int) == 0) = false := beq_eq_false_iff_ne.2 (by omega)
          have hzn : (s.size == 0) = false := beq_eq_false_iff_ne.2 (by omega)
          have h10 : (10 : Int) < (s.size : Int) := by omega
          clear hsz0 h
          go_enter Tryd.func17, Tryd.ntmps17
          go_wp2
          go_ret2
          exact ⟨by rw [HR.out]; rfl, Below.refl _ _⟩
        · exact absurd ((zero_pre (by omega)).1 h.2) e0
      · have hres := HSOME.out h
        have hz : ((s.size : Int) == 0) = false := beq_eq_false_iff_ne.2 (by omega)
        have hzn : (s.size == 0) = false := beq_eq_false_iff_ne.2 (by omega)
        have h10 : ¬ (10 : Int) < (s.size : Int) := by omega
        have h0i : (0 : Int) < (s.size : Int) := by omega
        have h0n : 0 < s.size := by omega
        have hdl : s.data.toList = s.data.toList := by first | rfl | exact tail_list s 2
        have HAT : Hid (∀ k (h : k < s.size), s.data.toList[k]? = some (s[k]'h)) := by
          have : ∀ k (h : k < s.size), s.data.toList[k]? = some (s[k]'h) := fun k h => by
            rw [← hdl, ← byte_at _ h, List.getElem?_eq_getElem]
          exact this
        have hlD := lenS s
        rw [hdl] at hlD
        obtain ⟨V, hV⟩ : ∃ V, Hid (valU 10 0 s.data.toList = V) := ⟨_, rfl⟩
        rw [hV.out] at hres
        have HRES := Lib.hid hres.symm
        have hN : Hid (s.data.toList.length = s.size) := hlD
        have HNB : Hid (s.size ≤ 10) := h.2.1
        have hdb : (s.size : Int) ≤ 10 := by omega
        have h3 := h.2.2
        obtain ⟨dl, hdq⟩ : ∃ dl, Hid (s.data.toList = dl) := ⟨_, rfl⟩
        rw [hdq.out] at hN hV HAT
        by_cases h1n : 1 < s.size
        · have h1i : (1 : Int) < (s.size : Int) := by omega
          have hb0 : s[0]'h0n ≠ 48 := fun e => h3 ⟨h1n, (zero_pre h0n).2 e⟩
          have h48 : (((s[0]'h0n).toNat : Int) == 48) = false := beq_eq_false_iff_ne.2 fun e => hb0 (UInt8.toNat_inj.1 (by simpa using (by omega : (s[0]'h0n).toNat = 48)))
          clear hsz0 h hdl hlD hres h3
          go_enter Tryd.func17, Tryd.ntmps17
          go_wp2
          go_loopw [7, 6] (fun i m wr => NbR 10 dl V w i m wr) (fun i _ _ => s.size - (intOf i).toNat)
          case atStart => exact ⟨0, 0, Nat.zero_le _, by decide, rfl, rfl, hV.out, Below.refl _ _⟩
          case round =>
            obtain ⟨k, n, hk, hn, rfl, rfl, hv, hbe⟩ := hrel
            rw [hN.out] at hk
            have HV := Lib.hid hv
            clear hv
            by_cases hlt : k < s.size
            · have hki : (k : Int) < (s.size : Int) := by omega
              have hk0 : (0 : Int) ≤ (k : Int) := by omega
              have hkd : k < s.size := hlt
              have hst := valU_get (base := 10) (n := n) (HAT.out k hkd)
              rw [HV.out] at hst
              obtain ⟨b, hb⟩ : ∃ b, s[k]'hkd = b := ⟨_, rfl⟩
              rw [hb] at hst
              have hdv := digV_le b
              have HW := fun w => rvalue_any b w
              obtain ⟨d, hd⟩ : ∃ d, digV b = d := ⟨_, rfl⟩
              rw [hd] at hst HW hdv
              have hp := pow_le10 (k := k) (by have := HNB.out; omega)
              have hn1 : (n : Int) ≤ 1099511627776 := by omega
              have hd1 : (d : Int) ≤ 16 := by omega
              have hn0 : (0 : Int) ≤ (n : Int) := by omega
              have hd0 : (0 : Int) ≤ (d : Int) := by omega
              have hpw : Hid (10 ≤ d ∨ 10 * n + d < 16 ^ (k + 1)) := by
                have : 10 ≤ d ∨ 10 * n + d < 16 ^ (k + 1) := by
                  rcases Nat.lt_or_ge d 10 with h | h
                  · right
                    rw [Nat.pow_succ]
                    have : n + 1 ≤ 16 ^ k := hn
                    omega
                  · exact Or.inl h
                exact this
              by_cases hbd : 10 ≤ d
              · rw [if_pos hbd] at hst
                have hbdi : (10 : Int) ≤ (d : Int) := by omega
                have HR := Lib.hid hst
                clear hst hd hp hn
                go_wp2_with fail
                (with_reducible refine (HW _).mono ?_)
                rintro e w2 ⟨rfl, hb2⟩
                have hbe := below_join hbe hb2
                go_wp2
                go_ret2
                exact ⟨by rw [← HRES.out, HR.out]; rfl, hbe⟩
              · rw [if_neg hbd] at hst
                have hbdi : ¬ (10 : Int) ≤ (d : Int) := by omega
                obtain ⟨m, hm⟩ : ∃ m, 10 * n + d = m := ⟨_, rfl⟩
                have hmi : (10 : Int) * (n : Int) + (d : Int) = (m : Int) := by omega
                rw [hm] at hst hpw
                have HR := Lib.hid hst
                have HPW := Lib.hid (hpw.out.resolve_left hbd)
                clear hst hd hp hn hpw
                go_wp2_with fail
                (with_reducible refine (HW _).mono ?_)
                rintro e w2 ⟨rfl, hb2⟩
                have hbe := below_join hbe hb2
                go_wp2
                go_roundw
                case rel => exact ⟨k + 1, m, by rw [hN.out]; exact hlt, HPW.out, by go_num, rfl, HR.out.symm, hbe⟩
                case measure => simp [intOf]; omega
            · have hkn : k = s.size := by omega
              subst hkn
              have hfin : V = some n := by
                rw [← HV.out, List.drop_eq_nil_of_le (by rw [hN.out]; exact Nat.le_refl _)]
                rfl
              have hki : ¬ (s.size : Int) < (s.size : Int) := by omega
              by_cases hbig : 1073741824 < n
              · have hbi : (1073741824 : Int) < (n : Int) := by omega
                have HF : Hid (cutU V = none) := by
                  have : cutU V = none := by rw [hfin]; unfold cutU; simp only; rw [if_pos hbig]
                  exact this
                clear hfin
                go_wp2
                go_ret2
                exact ⟨by rw [← HRES.out, HF.out]; rfl, hbe⟩
              · have hbi : ¬ (1073741824 : Int) < (n : Int) := by omega
                have HF : Hid (cutU V = some n) := by
                  have : cutU V = some n := by rw [hfin]; unfold cutU; simp only; rw [if_neg hbig]
                  exact this
                clear hfin
                go_wp2
                go_ret2
                exact ⟨by rw [← HRES.out, HF.out]; rfl, hbe⟩
        · exact absurd h2 (by omega)
    · skip
      have hc1 : (2 : Int) < (s.size : Int) := by omega
      have hc0i : (0 : Int) < (s.size : Int) := by omega
      have hc1i : (1 : Int) < (s.size : Int) := by omega
      have hc2 : (((s[0]'(by omega)).toNat : Int) == 48) = true := by rw [e0]; rfl
      have hc3 : (((s[1]'(by omega)).toNat : Int) == 120) = false := beq_eq_false_iff_ne.2 fun e => e1 (UInt8.toNat_inj.1 (by simpa using (by omega : (s[1]'(by omega)).toNat = 120)))
      rcases hcond with h | h | h | h
      · have HR := Lib.hid (HNONE.out (Or.inl h))
        have hz : ((s.size : Int) == 0) = true := by rw [h]; rfl
        clear hsz0
        go_enter Tryd.func17, Tryd.ntmps17
        go_wp2
        go_ret2
        exact ⟨by rw [HR.out]; rfl, Below.refl _ _⟩
      · have HR := Lib.hid (HNONE.out (Or.inr (Or.inl h)))
        have hz : ((s.size : Int) == 0) = false := beq_eq_false_iff_ne.2 (by omega)
        have hzn : (s.size == 0) = false := beq_eq_false_iff_ne.2 (by omega)
        have h10 : (10 : Int) < (s.size : Int) := by omega
        clear hsz0
        go_enter Tryd.func17, Tryd.ntmps17
        go_wp2
        go_ret2
        exact ⟨by rw [HR.out]; rfl, Below.refl _ _⟩
      · by_cases h11 : 10 < s.size
        · have HR := Lib.hid (HNONE.out (Or.inr (Or.inl h11)))
          have hz : ((s.size : Int) == 0) = false := beq_eq_false_iff_ne.2 (by omega)
          have hzn : (s.size == 0) = false := beq_eq_false_iff_ne.2 (by omega)
          have h10 : (10 : Int) < (s.size : Int) := by omega
          clear hsz0 h
          go_enter Tryd.func17, Tryd.ntmps17
          go_wp2
          go_ret2
          exact ⟨by rw [HR.out]; rfl, Below.refl _ _⟩
        · have HR := Lib.hid (HNONE.out (Or.inr (Or.inr h)))
          have hz : ((s.size : Int) == 0) = false := beq_eq_false_iff_ne.2 (by omega)
          have hzn : (s.size == 0) = false := beq_eq_false_iff_ne.2 (by omega)
          have h10 : ¬ (10 : Int) < (s.size : Int) := by omega
          have h1i : (1 : Int) < (s.size : Int) := by omega
          have h0i : (0 : Int) < (s.size : Int) := by omega
          have h0n : 0 < s.size := by omega
          have hb0 : s[0]'h0n = 48 := (zero_pre h0n).1 h.2
          have h48 : (((s[0]'h0n).toNat : Int) == 48) = true := by rw [hb0]; rfl
          clear hsz0 h
          go_enter Tryd.func17, Tryd.ntmps17
          go_wp2
          go_ret2
          exact ⟨by rw [HR.out]; rfl, Below.refl _ _⟩
      · exact absurd ⟨by omega, (zero_pre (by omega)).2 e0⟩ h.2.2
end Go.Proofs.YtlpocfojgibhjaaDoor
