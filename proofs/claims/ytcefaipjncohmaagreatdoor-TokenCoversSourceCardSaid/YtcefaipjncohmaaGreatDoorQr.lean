/-
  Contracts of the walks over FormatInt in base 16, Hex, Repeat, and the law's kinds. Conditions: the library's table lies there.
-/
import Derived.Test.YtcefaipjncohmaaGreatDoorQq
namespace Go.Proofs.YtcefaipjncohmaaGreatDoor
set_option linter.unusedVariables false
set_option linter.unusedSimpArgs false
open Go.RowKit Go.Shelf

/-- The library's table lies there. -/
def DB (w : World) : Prop := w.cell? ⟨7, 15, none⟩ = some (.int .u8 4)
theorem DB.next {w w' : World} (h : DB w) (hb : Below w.heap.size w w') : DB w' := cellf_below hb h
set_option maxRecDepth 100000 in
theorem ifmt_any (n : Nat) (hn : n ≤ 1073741824) (w : World) (h : DB w) :
    Calls Tryz.prog 78 #[.int .i64 (n : Int), .int .i64 16] w fun e w' => e = .returned (.string ⟨(hexD n).toArray⟩) ∧ Below w.heap.size w w' := by
  have HB := fun w (h : DB w) => fbits_any n hn w h
  obtain ⟨R, hR⟩ : ∃ R, (⟨(hexD n).toArray⟩ : ByteArray) = R := ⟨_, rfl⟩
  rw [hR] at HB ⊢
  have hni : (n : Int) ≤ 1073741824 := by omega
  have hn0 : ¬ (n : Int) < 0 := by omega
  go_enter Tryz.func78, Tryz.ntmps78
  go_wp2_with fail
  (with_reducible refine (HB _ h).mono ?_)
  rintro e w1 ⟨rfl, hb1⟩
  go_wp2
  go_ret
  exact ⟨rfl, hb1⟩
set_option maxRecDepth 100000 in
theorem fmt_any (n : Nat) (hn : n ≤ 1073741824) (w : World) (h : DB w) :
    Calls Tryz.prog 40 #[.int .i64 (n : Int), .int .i64 16] w fun e w' => e = .returned (.string ⟨(hexD n).toArray⟩) ∧ Below w.heap.size w w' := by
  have HB := fun w h => ifmt_any n hn w h
  obtain ⟨R, hR⟩ : ∃ R, (⟨(hexD n).toArray⟩ : ByteArray) = R := ⟨_, rfl⟩
  rw [hR] at HB ⊢
  go_enter Tryz.func40, Tryz.ntmps40
  go_wp2_with fail
  (with_reducible refine (HB _ h).mono ?_)
  rintro e w1 ⟨rfl, hb1⟩
  go_wp2
  go_ret
  exact ⟨rfl, hb1⟩
theorem hexF_len : ∀ f n : Nat, (hexF f n).length ≤ f
  | 0, n => Nat.le_refl 0
  | f + 1, n => by
    unfold hexF
    have := hexF_len f (n / 16)
    split
    · simp
    · simp; omega
theorem hexD_len (n : Nat) : (hexD n).length ≤ 9 := hexF_len 9 n
/-- A number with its prefix. -/
def hexM (n : Int) : List UInt8 := if n < 0 ∨ 1073741824 < n then [] else 48 :: 120 :: hexD n.toNat
set_option maxRecDepth 100000 in
set_option maxHeartbeats 1600000 in
theorem hex_any (n : Int) (w : World) (h : DB w) :
    Calls Tryz.prog 13 #[.int .i64 n] w fun e w' => e = .returned (.string ⟨(hexM n).toArray⟩) ∧ Below w.heap.size w w' := by
  by_cases h0 : n < 0
  · have hr : hexM n = [] := if_pos (Or.inl h0)
    rw [hr]
    go_enter Tryz.func13, Tryz.ntmps13
    go_wp2
    go_ret
    exact ⟨rfl, Below.refl _ _⟩
  · by_cases h1 : 1073741824 < n
    · have hr : hexM n = [] := if_pos (Or.inr h1)
      rw [hr]
      go_enter Tryz.func13, Tryz.ntmps13
      go_wp2
      go_ret
      exact ⟨rfl, Below.refl _ _⟩
    · have hr : hexM n = 48 :: 120 :: hexD n.toNat := if_neg (by omega)
      obtain ⟨m, rfl⟩ : ∃ m : Nat, n = (m : Int) := ⟨n.toNat, by omega⟩
      have hm : m ≤ 1073741824 := by omega
      have hmi : ¬ (1073741824 : Int) < (m : Int) := by omega
      rw [hr, Int.toNat_natCast]
      have HB := fun w h => fmt_any m hm w h
      obtain ⟨R, hR⟩ : ∃ R, (⟨(hexD m).toArray⟩ : ByteArray) = R := ⟨_, rfl⟩
      have hfin : (⟨(48 :: 120 :: hexD m).toArray⟩ : ByteArray) = { data := #[48, 120] } ++ R := by
        apply data_inj
        rw [← hR]
        simp
      have hcat : ¬ 9223372036854775807 < 2 + R.size := by
        have := hexD_len m
        rw [← hR, mk_size]
        omega
      rw [hR] at HB
      have HF := Lib.hid hfin
      clear hr hR hfin h0 h1
      rw [HF.out]
      go_enter Tryz.func13, Tryz.ntmps13
      go_wp2_with fail
      (with_reducible refine (HB _ h).mono ?_)
      rintro e w1 ⟨rfl, hb1⟩
      go_wp2
      go_ret
      exact ⟨rfl, hb1⟩
/-- The kinds of tokens, as digits, without the end. -/
def kdig (t : Tok) : UInt8 := UInt8.ofNat (48 + t.kind)
def kindsM (l : List UInt8) : List UInt8 := (toks l false 0 1 1).dropLast.map kdig
theorem toks_kinds : ∀ (l : List UInt8) (ins : Bool) (k ln cl : Nat), toks l ins k ln cl ≠ [] ∧ (∀ t ∈ (toks l ins k ln cl).dropLast, t.kind ≤ 5) ∧ ∃ t, (toks l ins k ln cl).getLast? = some t ∧ t.kind = 6
  | [], ins, k, ln, cl => by rw [toks_end]; exact ⟨by simp, by simp, ⟨6, 0, [], ln, cl⟩, rfl, rfl⟩
  | b :: r, ins, k + 1, ln, cl => toks_kinds r ins k ln (cl + 1)
  | b :: r, ins, 0, ln, cl => by
    rw [toks_cons]
    split
    · exact toks_kinds r _ _ _ _
    · rename_i h10
      split
      · exact toks_kinds r _ _ _ _
      · rename_i h35
        split
        · exact toks_kinds r _ _ _ _
        · rename_i hs
          obtain ⟨h1, h2, tl, h3, h4⟩ := toks_kinds r false ((tokM (b :: r)).len - 1) ln (cl + 1)
          refine ⟨by simp, ?_, tl, ?_, h4⟩
          · rw [List.dropLast_cons_of_ne_nil h1]
            intro t ht
            rcases List.mem_cons.1 ht with rfl | ht
            · have hn : nog (b :: r) = true := by
                have : b ≠ 35 := fun e => h35 (Or.inr e)
                simp [nog, hs, this]
              exact (tokM_kind hn).2
            · exact h2 t ht
          · rw [List.getLast?_cons, h3]; rfl
theorem run_dg0 (w : World) : (convert 21 9 (.int .i32 48)).run Tryz.prog w = .ok (.string { data := #[48] }) w := by kernel_rfl
theorem run_dg1 (w : World) : (convert 21 9 (.int .i32 49)).run Tryz.prog w = .ok (.string { data := #[49] }) w := by kernel_rfl
theorem run_dg2 (w : World) : (convert 21 9 (.int .i32 50)).run Tryz.prog w = .ok (.string { data := #[50] }) w := by kernel_rfl
theorem run_dg3 (w : World) : (convert 21 9 (.int .i32 51)).run Tryz.prog w = .ok (.string { data := #[51] }) w := by kernel_rfl
theorem run_dg4 (w : World) : (convert 21 9 (.int .i32 52)).run Tryz.prog w = .ok (.string { data := #[52] }) w := by kernel_rfl
theorem run_dg5 (w : World) : (convert 21 9 (.int .i32 53)).run Tryz.prog w = .ok (.string { data := #[53] }) w := by kernel_rfl
theorem run_dg6 (w : World) : (convert 21 9 (.int .i32 54)).run Tryz.prog w = .ok (.string { data := #[54] }) w := by kernel_rfl
theorem run_digit (d : Nat) (h : d ≤ 6) (w : World) : (convert 21 9 (.int .i32 ((48 : Int) + (d : Int)))).run Tryz.prog w = .ok (.string { data := #[UInt8.ofNat (48 + d)] }) w := by
  have : d = 0 ∨ d = 1 ∨ d = 2 ∨ d = 3 ∨ d = 4 ∨ d = 5 ∨ d = 6 := by omega
  rcases this with e | e | e | e | e | e | e
  · rw [e]; exact run_dg0 w
  · rw [e]; exact run_dg1 w
  · rw [e]; exact run_dg2 w
  · rw [e]; exact run_dg3 w
  · rw [e]; exact run_dg4 w
  · rw [e]; exact run_dg5 w
  · rw [e]; exact run_dg6 w
def KdRel (l : List Tok) (w : World) (i o : Value) (wr : World) : Prop :=
  ∃ k : Nat, k ≤ l.length - 1 ∧ i = .int .i64 (k : Int) ∧ o = .string ⟨((l.take k).map kdig).toArray⟩ ∧ Below w.heap.size w wr
set_option maxRecDepth 100000 in
set_option maxHeartbeats 1600000 in
theorem kinds_any (s : ByteArray) (hs : s.size ≤ 60000) (w : World) (hT : TT w) :
    Calls Tryz.prog 12 #[.string s] w fun e w' => e = .returned (.string ⟨(kindsM s.data.toList).toArray⟩) ∧ Below w.heap.size w w' := by
  have HTK := fun w hT => tokens_any s hs w hT
  obtain ⟨h1, h2, tl, h3, h4⟩ := toks_kinds s.data.toList false 0 1 1
  have hbd : (toks s.data.toList false 0 1 1).length ≤ s.size + 1 := by
    have := toks_len s.data.toList false 0 1 1
    rw [bytes_size] at this; exact this
  unfold TokRes at HTK
  unfold kindsM
  obtain ⟨T, hTT⟩ : ∃ T, toks s.data.toList false 0 1 1 = T := ⟨_, rfl⟩
  simp only [hTT] at HTK h1 h2 h3 hbd ⊢
  have HT := Lib.hid hT
  clear hT hTT
  have hdl : T.dropLast = T.take (T.length - 1) := List.dropLast_eq_take
  obtain ⟨n, hn⟩ : ∃ n, Hid (T.length = n + 1) := ⟨T.length - 1, by
    have : T.length ≠ 0 := fun e => h1 (List.eq_nil_of_length_eq_zero e)
    show T.length = T.length - 1 + 1
    omega⟩
  rw [hn.out, Nat.add_sub_cancel] at hdl
  have hlast : ∃ t, T[n]? = some t ∧ t.kind = 6 := by
    refine ⟨tl, ?_, h4⟩
    rw [List.getLast?_eq_getElem?, hn.out, Nat.add_sub_cancel] at h3
    exact h3
  have hkd : ∀ k t, k < n → T[k]? = some t → t.kind ≤ 6 := fun k t hk ht => by
    refine Nat.le_trans (h2 t ?_) (by decide)
    rw [hdl]
    refine List.mem_iff_getElem?.2 ⟨k, ?_⟩
    rw [List.getElem?_take, if_pos hk]; exact ht
  rw [hdl]
  have HLS := Lib.hid hlast
  have HKD := Lib.hid hkd
  have hn6 : n ≤ 60000 := by have := hn.out; omega
  obtain ⟨F, hF⟩ : ∃ F : ByteArray, Hid (⟨((T.take n).map kdig).toArray⟩ = F) := ⟨_, rfl⟩
  rw [hF.out]
  simp only [hn.out] at HTK
  clear h1 h2 h3 h4 hbd hdl hlast hkd hs
  have hni : (n : Int) ≤ 60000 := by omega
  have hnn : ((n + 1 : Nat) : Int) = (n : Int) + 1 := by omega
  go_enter Tryz.func12, Tryz.ntmps12
  go_wp2_with fail
  (with_reducible refine (HTK _ HT.out).mono ?_)
  rintro e w1 ⟨⟨A, c, rfl, Ow⟩, hbe⟩
  have hTk := tks_own (l := T) Ow
  have HA := Lib.hid hTk
  clear hTk Ow
  go_wp2
  go_loopw [6, 5] (KdRel T w1) (fun i _ _ => n - (intOf i).toNat)
  case atStart => exact ⟨0, Nat.zero_le _, rfl, rfl, Below.refl _ _⟩
  case round =>
    obtain ⟨k, hk, rfl, rfl, hbx⟩ := hrel
    rw [hn.out, Nat.add_sub_cancel] at hk
    by_cases hlt : k < n
    · have hki : (k : Int) < (n : Int) := by omega
      have hk0 : (0 : Int) ≤ (k : Int) := by omega
      have hki2 : (k : Int) + 1 < (n : Int) + 1 := by omega
      have hki3 : (k : Int) < (n : Int) + 1 := by omega
      obtain ⟨t, ht⟩ : ∃ t, T[k]? = some t := ⟨_, List.getElem?_eq_getElem (by rw [hn.out]; omega)⟩
      obtain ⟨ga, oa, hAe, hc⟩ := (HA.out.next hbx) k t ht
      subst hAe
      have c0 : wr.cell? ⟨ga, oa + k * 5, none⟩ = some (.int .i64 (t.kind : Int)) := hc 0 _ rfl
      have hk6 := HKD.out k t hlt ht
      have hrd := fun w => run_digit t.kind hk6 w
      have htk : (T.take (k + 1)).map kdig = (T.take k).map kdig ++ [kdig t] := by
        obtain ⟨h1, h2⟩ := List.getElem?_eq_some_iff.1 ht
        rw [← List.take_append_getElem h1, h2, List.map_append]; rfl
      have HK2 := Lib.hid htk
      have hsz : ((T.take k).map kdig).length ≤ k := by rw [List.length_map, List.length_take]; omega
      have hKT : ({ data := #[UInt8.ofNat (48 + t.kind)] } : ByteArray) = { data := #[kdig t] } := rfl
      obtain ⟨K, hK⟩ : ∃ K, t.kind = K := ⟨_, rfl⟩
      rw [hK] at c0 hrd hk6
      have hkk6 : (K : Int) ≤ 6 := by omega
      rw [show UInt8.ofNat (48 + K) = kdig t by unfold kdig; rw [hK]] at hrd
      obtain ⟨D, hD⟩ : ∃ D, kdig t = D := ⟨_, rfl⟩
      rw [hD] at hrd
      obtain ⟨O, hO⟩ : ∃ O : ByteArray, (⟨((T.take k).map kdig).toArray⟩ : ByteArray) = O := ⟨_, rfl⟩
      have hos : O.size ≤ 60000 := by rw [← hO, mk_size]; omega
      have hcat : ¬ 9223372036854775807 < O.size + 1 := by omega
      have hnew : Hid ((⟨((T.take (k + 1)).map kdig).toArray⟩ : ByteArray) = O ++ { data := #[D] }) := by
        have : (⟨((T.take (k + 1)).map kdig).toArray⟩ : ByteArray) = O ++ { data := #[D] } := by
          apply data_inj
          rw [← hO, HK2.out, hD]
          simp
        exact this
      rw [hO]
      clear htk hc ht hsz hKT hK hD hO
      go_wp2
      go_roundw
      case rel => exact ⟨k + 1, by rw [hn.out]; omega, by go_num, by rw [hnew.out], hbx⟩
      case measure => simp [intOf]; omega
    · have hkn : k = n := by omega
      subst hkn
      obtain ⟨t, ht, ht6⟩ := HLS.out
      obtain ⟨ga, oa, hAe, hc⟩ := (HA.out.next hbx) k t ht
      subst hAe
      have c0 : wr.cell? ⟨ga, oa + k * 5, none⟩ = some (.int .i64 6) := by
        have := hc 0 _ rfl
        rw [ht6] at this
        exact this
      have hfin := below_join hbe hbx
      rw [hF.out]
      have hk0 : (0 : Int) ≤ (k : Int) := by omega
      have hki : ¬ (k : Int) + 1 < (k : Int) + 1 := by omega
      have hki2 : (k : Int) < (k : Int) + 1 := by omega
      have hkk : ((k : Int) + 1) - 1 = (k : Int) := by omega
      have hkz : ((k : Int) + 1 == 0) = false := beq_eq_false_iff_ne.2 (by omega)
      clear hc ht ht6
      go_wp2
      go_ret
      exact ⟨rfl, hfin⟩
end Go.Proofs.YtcefaipjncohmaaGreatDoor
