/-
  Contracts of the walks over value and Number. Condition: texts that fit into memory.
-/
import Derived.Test.YtcefaipjncohmaaGreatDoorQg
namespace Go.Proofs.YtcefaipjncohmaaGreatDoor
set_option linter.unusedVariables false
set_option linter.unusedSimpArgs false
open Go.RowKit Go.Shelf

theorem ix_d16 (b : UInt8) : Lib.indexByte [48, 49, 50, 51, 52, 53, 54, 55, 56, 57, 97, 98, 99, 100, 101, 102] b = if 16 ≤ digV b then -1 else (digV b : Int) := by
  have : ∀ k : Fin 256, Lib.indexByte [48, 49, 50, 51, 52, 53, 54, 55, 56, 57, 97, 98, 99, 100, 101, 102] (UInt8.ofNat k.1) = if 16 ≤ digV (UInt8.ofNat k.1) then -1 else (digV (UInt8.ofNat k.1) : Int) := by decide +kernel
  have h := this ⟨b.toNat, b.toNat_lt⟩
  simpa using h
theorem ix_d10 (b : UInt8) : Lib.indexByte [48, 49, 50, 51, 52, 53, 54, 55, 56, 57] b = if 10 ≤ digV b then -1 else (digV b : Int) := by
  have : ∀ k : Fin 256, Lib.indexByte [48, 49, 50, 51, 52, 53, 54, 55, 56, 57] (UInt8.ofNat k.1) = if 10 ≤ digV (UInt8.ofNat k.1) then -1 else (digV (UInt8.ofNat k.1) : Int) := by decide +kernel
  have h := this ⟨b.toNat, b.toNat_lt⟩
  simpa using h
theorem digV_le (b : UInt8) : digV b ≤ 16 := by
  have : ∀ k : Fin 256, digV (UInt8.ofNat k.1) ≤ 16 := by decide +kernel
  have h := this ⟨b.toNat, b.toNat_lt⟩
  simpa using h
def numE : Option Nat → Ending
  | none => .returned (.tuple #[.int .i64 0, .bool false])
  | some n => .returned (.tuple #[.int .i64 (n : Int), .bool true])
theorem numE_none : numE none = .returned (.tuple #[.int .i64 0, .bool false]) := rfl
theorem numE_some (n : Nat) : numE (some n) = .returned (.tuple #[.int .i64 (n : Int), .bool true]) := rfl
def valE (l : List UInt8) : Option Nat → Option Nat
  | none => none
  | some n => if l = [] then none else some n
theorem valL_get {base n k : Nat} {l : List UInt8} {b : UInt8} (h : l[k]? = some b) : valL base n (l.drop k) = if base ≤ digV b ∨ 1073741824 < n * base + digV b then none else valL base (n * base + digV b) (l.drop (k + 1)) := by
  have hl := (List.getElem?_eq_some_iff.1 h).1
  rw [List.drop_eq_getElem_cons hl, (List.getElem?_eq_some_iff.1 h).2]
  rfl
def ValRel (base : Nat) (l : List UInt8) (V : Option Nat) (w : World) (i m : Value) (wr : World) : Prop :=
  ∃ k n : Nat, k ≤ l.length ∧ n ≤ 1073741824 ∧ i = .int .i64 (k : Int) ∧ m = .int .i64 (n : Int) ∧ valL base n (l.drop k) = V ∧ Below w.heap.size w wr
theorem run_cut16 (w : World) : (Instr.slice 9 (.string { data := #[48, 49, 50, 51, 52, 53, 54, 55, 56, 57, 97, 98, 99, 100, 101, 102] }) none (some (.int .i64 16)) none).run Tryz.prog w = .ok (.string { data := #[48, 49, 50, 51, 52, 53, 54, 55, 56, 57, 97, 98, 99, 100, 101, 102] }) w := by kernel_rfl
set_option maxRecDepth 100000 in
set_option maxHeartbeats 3200000 in
theorem value16_any (s : ByteArray) (w : World) (hs : s.size ≤ 140737488355328) :
    Calls Tryz.prog 39 #[.string s, .int .i64 16] w fun e w' => e = numE (valE s.data.toList (valL 16 0 s.data.toList)) ∧ Below w.heap.size w w' := by
  have hb10 := fun k (h : k < s.size) => byte_at s h
  obtain ⟨l, hl⟩ : ∃ l, s.data.toList = l := ⟨_, rfl⟩
  have hlen := lenS s
  rw [hl] at hlen ⊢
  obtain ⟨V, hV⟩ : ∃ V, Hid (valL 16 0 l = V) := ⟨_, rfl⟩
  rw [hV.out]
  have HAT : Hid (∀ k (h : k < s.size), l[k]? = some (s[k]'h)) := by
    have : ∀ k (h : k < s.size), l[k]? = some (s[k]'h) := fun k h => by
      rw [← hl, ← hb10 k h, List.getElem?_eq_getElem]
    exact this
  have HL0 : Hid (s.size = 0 → l = []) := (fun h => List.eq_nil_of_length_eq_zero (by omega) : s.size = 0 → l = [])
  have HL1 : Hid (l = [] → s.size = 0) := (fun h => by rw [← hlen, h]; rfl : l = [] → s.size = 0)
  obtain ⟨N, hN⟩ : ∃ N, Hid (l.length = N) := ⟨_, rfl⟩
  rw [hN.out] at hlen
  have HLEN := Lib.hid hlen
  clear hb10 hl hlen
  have hcut := run_cut16
  go_enter Tryz.func39, Tryz.ntmps39
  go_wp2
  go_loopw [11, 6] (fun i m wr => ValRel 16 l V w i m wr) (fun i _ _ => N - (intOf i).toNat)
  case atStart => exact ⟨0, 0, Nat.zero_le _, by omega, rfl, rfl, hV.out, Below.refl _ _⟩
  case round =>
    obtain ⟨k, n, hk, hn, rfl, rfl, hv, hbe⟩ := hrel
    rw [hN.out] at hk
    have HV := Lib.hid hv
    clear hv
    by_cases hlt : k < s.size
    · have hki : (k : Int) < (s.size : Int) := by omega
      have hk0 : (0 : Int) ≤ (k : Int) := by omega
      have hkN : k < N := by have := HLEN.out; omega
      have hst := valL_get (base := 16) (n := n) (HAT.out k hlt)
      rw [HV.out] at hst
      obtain ⟨b, hb⟩ : ∃ b, s[k]'hlt = b := ⟨_, rfl⟩
      rw [hb] at hst
      have HI := fun w => index_lib { data := #[48, 49, 50, 51, 52, 53, 54, 55, 56, 57, 97, 98, 99, 100, 101, 102] } (b.toNat : Int) w
      rw [u8_back, show ({ data := #[48, 49, 50, 51, 52, 53, 54, 55, 56, 57, 97, 98, 99, 100, 101, 102] } : ByteArray).data.toList = [48, 49, 50, 51, 52, 53, 54, 55, 56, 57, 97, 98, 99, 100, 101, 102] from rfl, ix_d16] at HI
      have hd16 := digV_le b
      obtain ⟨d, hd⟩ : ∃ d, digV b = d := ⟨_, rfl⟩
      rw [hd] at hst HI hd16
      by_cases hd0 : 16 ≤ d
      · rw [if_pos hd0] at HI
        rw [if_pos (Or.inl hd0)] at hst
        have HR := Lib.hid hst
        clear hst hd
        go_wp2
        go_quiet ((go_at_call 77; exact Calls.quiet_of_same (HI _)))
        have hbe := below_join hbe (below_drewN wr nq)
        go_wp2
        go_ret2
        exact ⟨by rw [HR.out]; rfl, hbe⟩
      · rw [if_neg hd0] at HI
        obtain ⟨m, hm⟩ : ∃ m, n * 16 + d = m := ⟨_, rfl⟩
        have hmi : (n : Int) * 16 + (d : Int) = (m : Int) := by omega
        rw [hm] at hst
        by_cases hbig : 1073741824 < m
        · rw [if_pos (Or.inr hbig)] at hst
          have hbigi : (1073741824 : Int) < (m : Int) := by omega
          have hbigj : ¬ (m : Int) ≤ 1073741824 := by omega
          have HR := Lib.hid hst
          clear hst hd
          go_wp2
          go_quiet ((go_at_call 77; exact Calls.quiet_of_same (HI _)))
          have hbe := below_join hbe (below_drewN wr nq)
          have hd0i : ¬ (d : Int) < 0 := by omega
          go_wp2
          go_ret2
          exact ⟨by rw [HR.out]; rfl, hbe⟩
        · rw [if_neg (by omega)] at hst
          have hbigi : ¬ (1073741824 : Int) < (m : Int) := by omega
          have HR := Lib.hid hst
          clear hst hd
          go_wp2
          go_quiet ((go_at_call 77; exact Calls.quiet_of_same (HI _)))
          have hbe := below_join hbe (below_drewN wr nq)
          have hd0i : ¬ (d : Int) < 0 := by omega
          go_wp2
          go_roundw
          case rel => exact ⟨k + 1, m, by rw [hN.out]; omega, by omega, by go_num, rfl, HR.out.symm, hbe⟩
          case measure => simp [intOf]; omega
    · have hkn : k = s.size := by have := HLEN.out; omega
      subst hkn
      have hfin : V = some n := by
        rw [← HV.out, List.drop_eq_nil_of_le (by rw [hN.out, HLEN.out]; exact Nat.le_refl _)]
        rfl
      have HF := Lib.hid hfin
      clear hfin
      by_cases h0 : s.size = 0
      · have h0i : ¬ (0 : Int) < (s.size : Int) := by omega
        have hz : n = 0 := by
          have h1 := HF.out
          rw [← hV.out, HL0.out h0] at h1
          have : some 0 = some n := h1
          injection this with h2
          exact h2.symm
        subst hz
        go_wp2
        go_ret2
        exact ⟨by rw [HF.out, HL0.out h0]; rfl, hbe⟩
      · have h0i : (0 : Int) < (s.size : Int) := by omega
        have hne : l ≠ [] := fun e => h0 (HL1.out e)
        have HE : Hid (numE (valE l V) = .returned (.tuple #[.int .i64 (n : Int), .bool true])) := by
          have : numE (valE l V) = .returned (.tuple #[.int .i64 (n : Int), .bool true]) := by rw [HF.out]; unfold valE; simp only; rw [if_neg hne]; rfl
          exact this
        clear hne
        go_wp2
        go_ret2
        exact ⟨(ret_two (decide_eq_true (Nat.pos_of_ne_zero h0))).trans HE.out.symm, hbe⟩
theorem run_cut10 (w : World) : (Instr.slice 9 (.string { data := #[48, 49, 50, 51, 52, 53, 54, 55, 56, 57, 97, 98, 99, 100, 101, 102] }) none (some (.int .i64 10)) none).run Tryz.prog w = .ok (.string { data := #[48, 49, 50, 51, 52, 53, 54, 55, 56, 57] }) w := by kernel_rfl
set_option maxRecDepth 100000 in
set_option maxHeartbeats 3200000 in
theorem value10_any (s : ByteArray) (w : World) (hs : s.size ≤ 140737488355328) :
    Calls Tryz.prog 39 #[.string s, .int .i64 10] w fun e w' => e = numE (valE s.data.toList (valL 10 0 s.data.toList)) ∧ Below w.heap.size w w' := by
  have hb10 := fun k (h : k < s.size) => byte_at s h
  obtain ⟨l, hl⟩ : ∃ l, s.data.toList = l := ⟨_, rfl⟩
  have hlen := lenS s
  rw [hl] at hlen ⊢
  obtain ⟨V, hV⟩ : ∃ V, Hid (valL 10 0 l = V) := ⟨_, rfl⟩
  rw [hV.out]
  have HAT : Hid (∀ k (h : k < s.size), l[k]? = some (s[k]'h)) := by
    have : ∀ k (h : k < s.size), l[k]? = some (s[k]'h) := fun k h => by
      rw [← hl, ← hb10 k h, List.getElem?_eq_getElem]
    exact this
  have HL0 : Hid (s.size = 0 → l = []) := (fun h => List.eq_nil_of_length_eq_zero (by omega) : s.size = 0 → l = [])
  have HL1 : Hid (l = [] → s.size = 0) := (fun h => by rw [← hlen, h]; rfl : l = [] → s.size = 0)
  obtain ⟨N, hN⟩ : ∃ N, Hid (l.length = N) := ⟨_, rfl⟩
  rw [hN.out] at hlen
  have HLEN := Lib.hid hlen
  clear hb10 hl hlen
  have hcut := run_cut10
  go_enter Tryz.func39, Tryz.ntmps39
  go_wp2
  go_loopw [11, 6] (fun i m wr => ValRel 10 l V w i m wr) (fun i _ _ => N - (intOf i).toNat)
  case atStart => exact ⟨0, 0, Nat.zero_le _, by omega, rfl, rfl, hV.out, Below.refl _ _⟩
  case round =>
    obtain ⟨k, n, hk, hn, rfl, rfl, hv, hbe⟩ := hrel
    rw [hN.out] at hk
    have HV := Lib.hid hv
    clear hv
    by_cases hlt : k < s.size
    · have hki : (k : Int) < (s.size : Int) := by omega
      have hk0 : (0 : Int) ≤ (k : Int) := by omega
      have hkN : k < N := by have := HLEN.out; omega
      have hst := valL_get (base := 10) (n := n) (HAT.out k hlt)
      rw [HV.out] at hst
      obtain ⟨b, hb⟩ : ∃ b, s[k]'hlt = b := ⟨_, rfl⟩
      rw [hb] at hst
      have HI := fun w => index_lib { data := #[48, 49, 50, 51, 52, 53, 54, 55, 56, 57] } (b.toNat : Int) w
      rw [u8_back, show ({ data := #[48, 49, 50, 51, 52, 53, 54, 55, 56, 57] } : ByteArray).data.toList = [48, 49, 50, 51, 52, 53, 54, 55, 56, 57] from rfl, ix_d10] at HI
      have hd16 := digV_le b
      obtain ⟨d, hd⟩ : ∃ d, digV b = d := ⟨_, rfl⟩
      rw [hd] at hst HI hd16
      by_cases hd0 : 10 ≤ d
      · rw [if_pos hd0] at HI
        rw [if_pos (Or.inl hd0)] at hst
        have HR := Lib.hid hst
        clear hst hd
        go_wp2
        go_quiet ((go_at_call 77; exact Calls.quiet_of_same (HI _)))
        have hbe := below_join hbe (below_drewN wr nq)
        go_wp2
        go_ret2
        exact ⟨by rw [HR.out]; rfl, hbe⟩
      · rw [if_neg hd0] at HI
        obtain ⟨m, hm⟩ : ∃ m, n * 10 + d = m := ⟨_, rfl⟩
        have hmi : (n : Int) * 10 + (d : Int) = (m : Int) := by omega
        rw [hm] at hst
        by_cases hbig : 1073741824 < m
        · rw [if_pos (Or.inr hbig)] at hst
          have hbigi : (1073741824 : Int) < (m : Int) := by omega
          have hbigj : ¬ (m : Int) ≤ 1073741824 := by omega
          have HR := Lib.hid hst
          clear hst hd
          go_wp2
          go_quiet ((go_at_call 77; exact Calls.quiet_of_same (HI _)))
          have hbe := below_join hbe (below_drewN wr nq)
          have hd0i : ¬ (d : Int) < 0 := by omega
          go_wp2
          go_ret2
          exact ⟨by rw [HR.out]; rfl, hbe⟩
        · rw [if_neg (by omega)] at hst
          have hbigi : ¬ (1073741824 : Int) < (m : Int) := by omega
          have HR := Lib.hid hst
          clear hst hd
          go_wp2
          go_quiet ((go_at_call 77; exact Calls.quiet_of_same (HI _)))
          have hbe := below_join hbe (below_drewN wr nq)
          have hd0i : ¬ (d : Int) < 0 := by omega
          go_wp2
          go_roundw
          case rel => exact ⟨k + 1, m, by rw [hN.out]; omega, by omega, by go_num, rfl, HR.out.symm, hbe⟩
          case measure => simp [intOf]; omega
    · have hkn : k = s.size := by have := HLEN.out; omega
      subst hkn
      have hfin : V = some n := by
        rw [← HV.out, List.drop_eq_nil_of_le (by rw [hN.out, HLEN.out]; exact Nat.le_refl _)]
        rfl
      have HF := Lib.hid hfin
      clear hfin
      by_cases h0 : s.size = 0
      · have h0i : ¬ (0 : Int) < (s.size : Int) := by omega
        have hz : n = 0 := by
          have h1 := HF.out
          rw [← hV.out, HL0.out h0] at h1
          have : some 0 = some n := h1
          injection this with h2
          exact h2.symm
        subst hz
        go_wp2
        go_ret2
        exact ⟨by rw [HF.out, HL0.out h0]; rfl, hbe⟩
      · have h0i : (0 : Int) < (s.size : Int) := by omega
        have hne : l ≠ [] := fun e => h0 (HL1.out e)
        have HE : Hid (numE (valE l V) = .returned (.tuple #[.int .i64 (n : Int), .bool true])) := by
          have : numE (valE l V) = .returned (.tuple #[.int .i64 (n : Int), .bool true]) := by rw [HF.out]; unfold valE; simp only; rw [if_neg hne]; rfl
          exact this
        clear hne
        go_wp2
        go_ret2
        exact ⟨(ret_two (decide_eq_true (Nat.pos_of_ne_zero h0))).trans HE.out.symm, hbe⟩
theorem pre_one (l : List UInt8) : Lib.hasPrefix l [48] = decide ([48] <+: l) := by
  unfold Lib.hasPrefix
  by_cases h : [48] <+: l
  · rw [decide_eq_true h]; exact List.isPrefixOf_iff_prefix.2 h
  · rw [decide_eq_false h]
    cases hc : List.isPrefixOf [48] l with
    | false => rfl
    | true => exact absurd (List.isPrefixOf_iff_prefix.1 hc) h
theorem pre_hex (l : List UInt8) : Lib.hasPrefix l [48, 120] = decide ([48, 120] <+: l) := by
  unfold Lib.hasPrefix
  by_cases h : [48, 120] <+: l
  · rw [decide_eq_true h]; exact List.isPrefixOf_iff_prefix.2 h
  · rw [decide_eq_false h]
    cases hc : List.isPrefixOf [48, 120] l with
    | false => rfl
    | true => exact absurd (List.isPrefixOf_iff_prefix.1 hc) h
theorem trim_hex {l : List UInt8} (h : [48, 120] <+: l) : Lib.trimPrefix l [48, 120] = l.drop 2 := by
  unfold Lib.trimPrefix
  rw [pre_hex, decide_eq_true h, if_pos rfl]
  rfl
theorem mk_size (l : List UInt8) : ({ data := l.toArray } : ByteArray).size = l.length := by simp [ByteArray.size]
set_option maxRecDepth 100000 in
set_option maxHeartbeats 3200000 in
theorem number_any (s : ByteArray) (w : World) (hs : s.size ≤ 140737488355328) :
    Calls Tryz.prog 11 #[.string s] w fun e w' => e = numE (numM s.data.toList) ∧ Below w.heap.size w w' := by
  have HC := fun w => cutp_lib s { data := #[48, 120] } w
  have HP := fun w => prefix_lib s { data := #[48] } w
  have H10 := fun w => value10_any s w hs
  have hlen := lenS s
  have hinj := fun (e : s.data.toList = [48]) => (data_inj e : s = { data := #[48] })
  obtain ⟨l, hl⟩ : ∃ l, s.data.toList = l := ⟨_, rfl⟩
  rw [hl] at HC HP H10 hlen hinj ⊢
  rw [show ({ data := #[48, 120] } : ByteArray).data.toList = [48, 120] from rfl, pre_hex] at HC
  rw [show ({ data := #[48] } : ByteArray).data.toList = [48] from rfl, pre_one] at HP
  have hsl : s = { data := #[48] } → l = [48] := fun e => by rw [← hl, e]
  obtain ⟨R, hR⟩ : ∃ R, Hid (numM l = R) := ⟨_, rfl⟩
  rw [hR.out]
  by_cases hx : [48, 120] <+: l
  · rw [decide_eq_true hx, trim_hex hx] at HC
    have h2 : 2 ≤ l.length := by obtain ⟨t, rfl⟩ := hx; simp
    have hN : numM l = if 10 < l.length ∨ l.length = 2 then none else valL 16 0 (l.drop 2) := if_pos hx
    have hdl : (l.drop 2).length = l.length - 2 := List.length_drop
    obtain ⟨D, hD⟩ : ∃ D, l.drop 2 = D := ⟨_, rfl⟩
    have hsz := mk_size D
    have H16 := fun w h => value16_any { data := D.toArray } w h
    rw [hD] at HC hN hdl
    rw [show ({ data := D.toArray } : ByteArray).data.toList = D from rfl] at H16
    rw [hdl] at hsz
    obtain ⟨B, hB⟩ : ∃ B : ByteArray, { data := D.toArray } = B := ⟨_, rfl⟩
    rw [hB] at HC H16 hsz
    by_cases hbig : 10 < l.length
    · have hbi : (8 : Int) < (B.size : Int) := by omega
      have hr : R = none := by rw [← hR.out, hN, if_pos (Or.inl hbig)]
      have HR := Lib.hid hr
      clear hr hN hdl hD hB hx HP hinj hsl hl
      go_enter Tryz.func11, Tryz.ntmps11
      go_wp2_with fail
      (with_reducible refine (HC _).mono ?_)
      rintro e w1 ⟨rfl, rfl⟩
      go_wp2
      go_ret2
      exact ⟨by rw [HR.out]; rfl, Below.refl _ _⟩
    · have hbi : ¬ (8 : Int) < (B.size : Int) := by omega
      have hr : valE D (valL 16 0 D) = R := by
        rw [← hR.out, hN]
        by_cases h0 : l.length = 2
        · have : D = [] := List.eq_nil_of_length_eq_zero (by omega)
          rw [if_pos (Or.inr h0), this]
          rfl
        · have : D ≠ [] := fun e => by rw [e] at hdl; simp at hdl; omega
          rw [if_neg (by omega)]
          cases valL 16 0 D with
          | none => rfl
          | some n => unfold valE; simp only; rw [if_neg this]
      have HV := fun w => H16 w (by omega)
      rw [hr] at HV
      clear hr hN hdl hD hB hx HP hinj hsl hl H16
      go_enter Tryz.func11, Tryz.ntmps11
      go_wp2_with fail
      (with_reducible refine (HC _).mono ?_)
      rintro e w1 ⟨rfl, rfl⟩
      cases R with
      | none =>
        simp only [numE_none, numE_some] at HV ⊢
        go_wp2_with fail
        (with_reducible refine (HV _).mono ?_)
        rintro e w2 ⟨rfl, hb2⟩
        go_wp2
        go_ret2
        exact ⟨rfl, hb2⟩
      | some n =>
        simp only [numE_none, numE_some] at HV ⊢
        go_wp2_with fail
        (with_reducible refine (HV _).mono ?_)
        rintro e w2 ⟨rfl, hb2⟩
        go_wp2
        go_ret2
        exact ⟨rfl, hb2⟩
  · rw [decide_eq_false hx] at HC
    have hN : numM l = if [48] <+: l ∧ l ≠ [48] then none else if l = [] then none else valL 10 0 l := if_neg hx
    by_cases hp : [48] <+: l
    · rw [decide_eq_true hp] at HP
      by_cases hq : l = [48]
      · have hse := hinj hq
        rw [if_neg (fun h => h.2 hq), if_neg (by rw [hq]; decide)] at hN
        have hv : valE l (valL 10 0 l) = R := by rw [← hR.out, hN, hq]; rfl
        rw [hv] at H10
        have hss := beq_same hse
        have hs1 : s.toList = [48] := by rw [ByteArray.toList_eq, hl, hq]
        clear hv hN hq hx hp hinj hsl hl hse hss
        go_enter Tryz.func11, Tryz.ntmps11
        go_wp2_with fail
        (with_reducible refine (HC _).mono ?_)
        rintro e w1 ⟨rfl, rfl⟩
        go_wp2_with fail
        (with_reducible refine (HP _).mono ?_)
        rintro e w1 ⟨rfl, rfl⟩
        cases R with
        | none =>
          simp only [numE_none, numE_some] at H10 ⊢
          go_wp2_with fail
          (with_reducible refine (H10 _).mono ?_)
          rintro e w2 ⟨rfl, hb2⟩
          go_wp2
          go_ret2
          exact ⟨rfl, hb2⟩
        | some n =>
          simp only [numE_none, numE_some] at H10 ⊢
          go_wp2_with fail
          (with_reducible refine (H10 _).mono ?_)
          rintro e w2 ⟨rfl, hb2⟩
          go_wp2
          go_ret2
          exact ⟨rfl, hb2⟩
      · rw [if_pos ⟨hp, hq⟩] at hN
        have hr : R = none := by rw [← hR.out, hN]
        have HR := Lib.hid hr
        have hs1 : (s.toList == [48]) = false := beq_eq_false_iff_ne.2 (by rw [ByteArray.toList_eq, hl]; exact hq)
        clear hr hN hx hp hinj hsl hl hq H10
        go_enter Tryz.func11, Tryz.ntmps11
        go_wp2_with fail
        (with_reducible refine (HC _).mono ?_)
        rintro e w1 ⟨rfl, rfl⟩
        go_wp2_with fail
        (with_reducible refine (HP _).mono ?_)
        rintro e w1 ⟨rfl, rfl⟩
        go_wp2
        go_ret2
        exact ⟨by rw [HR.out]; rfl, Below.refl _ _⟩
    · rw [decide_eq_false hp] at HP
      rw [if_neg (fun h => hp h.1)] at hN
      have hv : valE l (valL 10 0 l) = R := by
        rw [← hR.out, hN]
        by_cases h0 : l = []
        · rw [if_pos h0, h0]; rfl
        · rw [if_neg h0]
          cases valL 10 0 l with
          | none => rfl
          | some n => unfold valE; simp only; rw [if_neg h0]
      rw [hv] at H10
      clear hv hN hx hp hinj hsl hl
      go_enter Tryz.func11, Tryz.ntmps11
      go_wp2_with fail
      (with_reducible refine (HC _).mono ?_)
      rintro e w1 ⟨rfl, rfl⟩
      go_wp2_with fail
      (with_reducible refine (HP _).mono ?_)
      rintro e w1 ⟨rfl, rfl⟩
      cases R with
      | none =>
        simp only [numE_none, numE_some] at H10 ⊢
        go_wp2_with fail
        (with_reducible refine (H10 _).mono ?_)
        rintro e w2 ⟨rfl, hb2⟩
        go_wp2
        go_ret2
        exact ⟨rfl, hb2⟩
      | some n =>
        simp only [numE_none, numE_some] at H10 ⊢
        go_wp2_with fail
        (with_reducible refine (H10 _).mono ?_)
        rintro e w2 ⟨rfl, hb2⟩
        go_wp2
        go_ret2
        exact ⟨rfl, hb2⟩
end Go.Proofs.YtcefaipjncohmaaGreatDoor
