/-
  Contract of the walk over the reference's number. Conditions: the library's variables lie there.
-/
import Derived.Test.YthjaelopmfjfeaaDoorVg
namespace Go.Proofs.YthjaelopmfjfeaaDoor
set_option linter.unusedVariables false
set_option linter.unusedSimpArgs false
open Go.RowKit Go.Shelf

theorem itoa64_any (n : Int) (w : World) (h0 : -4611686018427387904 ≤ n) (h1 : n ≤ 4611686018427387904) (hq : QW w) : Calls Tryd.prog 57 #[.int .i64 n] w fun e w' => e = .returned (.string ⟨(Lib.itoa n).toArray⟩) ∧ Below w.heap.size w w' := by
  refine Calls.mono (Any.strconv_Itoa Tryd.itoaA n (by omega) (by omega) w hq.tab) ?_
  rintro e w' ⟨rfl, k, os, rfl⟩
  exact ⟨rfl, Lib.below_grow _ w (Nat.le_refl _) k os⟩
def RNRel (L : List UInt8) (z : Nat) (n i : Value) : Prop := ∃ (k m : Nat), k ≤ z ∧ m < 10 ^ k ∧ i = .int .i64 (k : Int) ∧ n = .int .i64 (m : Int) ∧ digN (L.take k) = some m
theorem head_cons (s : ByteArray) (h : 0 < s.size) : s.data.toList = s[0] :: s.data.toList.drop 1 := by
  have h2 := List.drop_eq_getElem_cons (l := s.data.toList) (i := 0) (by rw [bytes_size]; exact h)
  rw [List.drop_zero] at h2
  exact h2
theorem digN_take (s : ByteArray) (k : Nat) (hk : k < s.size) (n : Nat) (h : digN (s.data.toList.take k) = some n) : digN (s.data.toList.take (k + 1)) = if 48 ≤ s[k].toNat ∧ s[k].toNat ≤ 57 then some (10 * n + (s[k].toNat - 48)) else none := by
  have hl : k < s.data.toList.length := by rw [bytes_size]; exact hk
  unfold digN at h ⊢
  rw [List.take_succ_eq_append_getElem hl, List.foldl_append, h]; rfl
theorem digN_stop (s : ByteArray) (k : Nat) (h : digN (s.data.toList.take k) = none) : digN s.data.toList = none := by
  have e : s.data.toList = s.data.toList.take k ++ s.data.toList.drop k := (List.take_append_drop k _).symm
  rw [e]
  unfold digN at h ⊢
  rw [List.foldl_append, h]
  exact digN_none _
theorem refIs_short {L : List UInt8} {D : ByteArray} (hD : D.data.toList = refDigits L) (h : D.size = 0 ∨ 10 < D.size) : refIs L = false := by
  have hl := bytes_size D
  rw [hD] at hl
  unfold refIs
  rcases h with h | h
  · rw [decide_eq_false (show ¬ 1 ≤ (refDigits L).length by omega)]; rfl
  · rw [decide_eq_false (show ¬ (refDigits L).length ≤ 10 by omega), Bool.and_false]; rfl
theorem refIs_none {L : List UInt8} {D : ByteArray} (hD : D.data.toList = refDigits L) (h : digN D.data.toList = none) : refIs L = false := by
  rw [hD] at h
  unfold refIs
  rw [h, Option.isSome_none, Bool.and_false]; rfl
theorem refIs_end {L : List UInt8} {D : ByteArray} (hD : D.data.toList = refDigits L) (n : Nat) (h1 : 1 ≤ D.size) (h2 : D.size ≤ 10) (h : digN D.data.toList = some n) : decide (Lib.itoa (refN L) = L) = refIs L := by
  have hl := bytes_size D
  rw [hD] at hl h
  unfold refIs
  rw [decide_eq_true (show 1 ≤ (refDigits L).length by omega), decide_eq_true (show (refDigits L).length ≤ 10 by omega), h]; rfl
set_option maxRecDepth 100000 in
set_option maxHeartbeats 3200000 in
theorem rnumber_any (s : ByteArray) (w : World) (hs : s.size ≤ 140737488355328) (hw : QW w) :
    Calls Tryd.prog 55 #[.string s] w fun e w' => ∃ n : Int, e = .returned (.tuple #[.int .i64 n, .bool (refIs s.data.toList)]) ∧ (refIs s.data.toList = true → n = refN s.data.toList) ∧ Below w.heap.size w w' := by
  have HW := Lib.hid hw
  obtain ⟨B, hB⟩ : ∃ B, refIs s.data.toList = B := ⟨_, rfl⟩
  have hsi : (s.size : Int) ≤ 140737488355328 := by omega
  by_cases hneg : s.data.toList.head? = some 45
  · have hpos : 0 < s.size := Nat.pos_of_ne_zero fun e => by
      have : s.data.toList = [] := List.eq_nil_of_length_eq_zero (by rw [bytes_size]; exact e)
      rw [this] at hneg; cases hneg
    have hposi : (0 : Int) < (s.size : Int) := by omega
    have hposj : (1 : Int) ≤ (s.size : Int) := by omega
    have hb0 : s[0].toNat = 45 := by
      have h1 : s.data.toList = s[0] :: s.data.toList.drop 1 := by
        exact head_cons s hpos
      rw [h1] at hneg
      injection hneg with hneg
      rw [hneg]; rfl
    have hb0i : ((s[0].toNat : Int) == 45) = true := by rw [hb0]; rfl
    obtain ⟨D, hDe⟩ : ∃ D, s.extract 1 s.size = D := ⟨_, rfl⟩
    have hD : D.data.toList = refDigits s.data.toList := by
      rw [← hDe, Lib.extract_to_end]; unfold refDigits; rw [if_pos hneg]
    have hDs : D.size + 1 = s.size := by rw [← hDe, ByteArray.size_extract]; omega
    have hlts : (D.size : Int) < (s.size : Int) := by omega
    have HB0 : Hid (D.size = 0 ∨ 10 < D.size → B = false) := by
      have : D.size = 0 ∨ 10 < D.size → B = false := fun h => hB ▸ refIs_short hD h
      exact this
    have HB1 : Hid (digN D.data.toList = none → B = false) := by
      have : digN D.data.toList = none → B = false := fun h => hB ▸ refIs_none hD h
      exact this
    have HV : Hid (∀ n, n < 10000000000 → digN D.data.toList = some n → ∃ V : Int, (V = -(n : Int) ∧ V = refN s.data.toList) ∧ (-4611686018427387904 ≤ V ∧ V ≤ 4611686018427387904)) := by
      have : ∀ n, n < 10000000000 → digN D.data.toList = some n → ∃ V : Int, (V = -(n : Int) ∧ V = refN s.data.toList) ∧ (-4611686018427387904 ≤ V ∧ V ≤ 4611686018427387904) := fun n hn h => by
        refine ⟨-(n : Int), ⟨rfl, ?_⟩, by omega⟩
        unfold refN
        rw [← hD, h]
        dsimp only
        rw [if_pos hneg]
      exact this
    have HB2 : Hid (∀ n, n < 10000000000 → 1 ≤ D.size → D.size ≤ 10 → digN D.data.toList = some n → ∀ V : Int, (V = -(n : Int) ∧ V = refN s.data.toList) → decide (Lib.itoa V = s.data.toList) = B) := by
      have : ∀ n, n < 10000000000 → 1 ≤ D.size → D.size ≤ 10 → digN D.data.toList = some n → ∀ V : Int, (V = -(n : Int) ∧ V = refN s.data.toList) → decide (Lib.itoa V = s.data.toList) = B := fun n _ h1 h2 h3 V hV => by
        rw [hV.2, ← hB]; exact refIs_end hD n h1 h2 h3
      exact this
    rw [hB]
    clear hneg hb0 hB hD
    go_enter Tryd.func55, Tryd.ntmps55
    by_cases h0 : D.size = 0
    · have h0i : (D.size == 0) = true := beq_iff_eq.2 h0
      have h0j : ((D.size : Int) == 0) = true := by rw [beq_iff_eq]; omega
      have hno : Hid (B = false) := HB0.out (.inl h0)
      go_wp2
      go_ret2
      exact ⟨0, by rw [hno.out]; rfl, (fun h => by rw [hno.out] at h; cases h), Below.refl _ _⟩
    · have h0i : (D.size == 0) = false := beq_eq_false_iff_ne.2 h0
      have h0j : ((D.size : Int) == 0) = false := by rw [beq_eq_false_iff_ne]; omega
      by_cases h10 : 10 < D.size
      · have h10i : (10 : Int) < (D.size : Int) := by omega
        have hno : Hid (B = false) := HB0.out (.inr h10)
        go_wp2
        go_ret2
        exact ⟨0, by rw [hno.out]; rfl, (fun h => by rw [hno.out] at h; cases h), Below.refl _ _⟩
      · have h10i : (D.size : Int) ≤ 10 := by omega
        go_wp2
        go_loop [5, 6] (RNRel D.data.toList D.size) (fun _ i => D.size - (intOf i).toNat)
        case atStart => exact ⟨0, 0, by omega, by decide, rfl, rfl, rfl⟩
        case round =>
          obtain ⟨k, n, hk, hn, rfl, rfl, hdg⟩ := hrel
          have HDG := Lib.hid hdg
          clear hdg
          by_cases hlt : k < D.size
          · have hki : (k : Int) < (D.size : Int) := by omega
            have hk0 : (0 : Int) ≤ (k : Int) := by omega
            have hn10 : n < 10000000000 := Nat.lt_of_lt_of_le hn (Nat.pow_le_pow_right (by omega) (show k ≤ 10 by omega))
            have hst := digN_take D k hlt n HDG.out
            obtain ⟨c, hcv⟩ : ∃ c : Nat, D[k].toNat = c := ⟨_, rfl⟩
            have hc256 : c < 256 := by rw [← hcv]; exact D[k].toNat_lt
            rw [hcv] at hst
            have HST := Lib.hid hst
            clear hst
            by_cases h48 : 48 ≤ c
            · have h48i : (48 : Int) ≤ (c : Int) := by omega
              by_cases h57 : c ≤ 57
              · have h57i : (c : Int) ≤ 57 := by omega
                have hw1 : IntKind.i64.wrap (10 * (n : Int)) = 10 * (n : Int) := by simp only [IntKind.wrap_i64]; omega
                obtain ⟨e, he⟩ : ∃ e : Nat, c - 48 = e := ⟨_, rfl⟩
                have hw2 : IntKind.u8.wrap ((c : Int) - 48) = (e : Int) := by simp only [IntKind.wrap_u8]; omega
                have hw3 : IntKind.i64.wrap (e : Int) = (e : Int) := by simp only [IntKind.wrap_i64]; omega
                have hw4 : IntKind.i64.wrap (10 * (n : Int) + (e : Int)) = ((10 * n + e : Nat) : Int) := by simp only [IntKind.wrap_i64]; omega
                have hnx : Hid (digN (D.data.toList.take (k + 1)) = some (10 * n + e)) := by
                  have : digN (D.data.toList.take (k + 1)) = some (10 * n + e) := by rw [HST.out, if_pos ⟨h48, h57⟩, he]
                  exact this
                have hnb : Hid (10 * n + e < 10 ^ (k + 1)) := by
                  have : 10 * n + e < 10 ^ (k + 1) := by rw [Nat.pow_succ]; omega
                  exact this
                clear he hn
                go_wp2
                go_round
                case rel => exact ⟨k + 1, 10 * n + e, by omega, hnb.out, by go_num, by go_num, hnx.out⟩
                case measure => simp [intOf]; omega
              · have h57i : (57 : Int) < (c : Int) := by omega
                have hno : Hid (B = false) := HB1.out (digN_stop D (k + 1) (by rw [HST.out, if_neg (fun h => h57 h.2)]))
                go_wp2
                go_ret2
                exact ⟨0, by rw [hno.out]; rfl, (fun h => by rw [hno.out] at h; cases h), Below.refl _ _⟩
            · have h48i : (c : Int) < 48 := by omega
              have hno : Hid (B = false) := HB1.out (digN_stop D (k + 1) (by rw [HST.out, if_neg (fun h => h48 h.1)]))
              go_wp2
              go_ret2
              exact ⟨0, by rw [hno.out]; rfl, (fun h => by rw [hno.out] at h; cases h), Below.refl _ _⟩
          · obtain rfl : k = D.size := by omega
            have hki : ¬ (D.size : Int) < (D.size : Int) := by omega
            have hn10 : n < 10000000000 := Nat.lt_of_lt_of_le hn (Nat.pow_le_pow_right (by omega) (show D.size ≤ 10 by omega))
            have hdn : Hid (digN D.data.toList = some n) := by
              have : digN D.data.toList = some n := by
                have h := HDG.out
                rw [List.take_of_length_le (by rw [bytes_size]; exact Nat.le_refl _)] at h
                exact h
              exact this
            obtain ⟨V, hV, hVb⟩ := HV.out n hn10 hdn.out
            have hVB := Lib.hid hVb
            have HIT := Lib.hid (fun w (h : QW w) => itoa64_any V w (by omega) (by omega) h)
            obtain ⟨T, hT⟩ : ∃ T : ByteArray, (⟨(Lib.itoa V).toArray⟩ : ByteArray) = T := ⟨_, rfl⟩
            rw [hT] at HIT
            have hbq : (T.toList == s.toList) = B := by
              have h := HB2.out n hn10 (by omega) (by omega) hdn.out V hV
              rw [← h, ← hT]
              by_cases e : Lib.itoa V = s.data.toList
              · rw [decide_eq_true e, beq_iff_eq, ByteArray.toList_eq, ByteArray.toList_eq]
                exact e
              · rw [decide_eq_false e, beq_eq_false_iff_ne, ByteArray.toList_eq, ByteArray.toList_eq]
                exact e
            have HBV : Hid (B = true → V = refN s.data.toList) := by
              have : B = true → V = refN s.data.toList := fun _ => hV.2
              exact this
            have hV1 := hV.1
            clear hT hV hVb hn HDG hdn
            subst hV1
            have hwn : IntKind.i64.wrap (-(n : Int)) = -(n : Int) := by simp only [IntKind.wrap_i64]; omega
            go_wp2_with fail
            (with_reducible refine (HIT.out _ HW.out).mono ?_)
            rintro e w2 ⟨rfl, hb2⟩
            go_wp2
            go_ret2
            exact ⟨_, rfl, HBV.out, hb2⟩
  · have hD : s.data.toList = refDigits s.data.toList := by unfold refDigits; rw [if_neg hneg]
    have hlts : ¬ (s.size : Int) < (s.size : Int) := by omega
    have HB0 : Hid (s.size = 0 ∨ 10 < s.size → B = false) := by
      have : s.size = 0 ∨ 10 < s.size → B = false := fun h => hB ▸ refIs_short hD h
      exact this
    have HB1 : Hid (digN s.data.toList = none → B = false) := by
      have : digN s.data.toList = none → B = false := fun h => hB ▸ refIs_none hD h
      exact this
    have HV : Hid (∀ n, n < 10000000000 → digN s.data.toList = some n → ∃ V : Int, (V = (n : Int) ∧ V = refN s.data.toList) ∧ (-4611686018427387904 ≤ V ∧ V ≤ 4611686018427387904)) := by
      have : ∀ n, n < 10000000000 → digN s.data.toList = some n → ∃ V : Int, (V = (n : Int) ∧ V = refN s.data.toList) ∧ (-4611686018427387904 ≤ V ∧ V ≤ 4611686018427387904) := fun n hn h => by
        refine ⟨(n : Int), ⟨rfl, ?_⟩, by omega⟩
        unfold refN
        rw [← hD, h]
        dsimp only
        rw [if_neg hneg]
      exact this
    have HB2 : Hid (∀ n, n < 10000000000 → 1 ≤ s.size → s.size ≤ 10 → digN s.data.toList = some n → ∀ V : Int, (V = (n : Int) ∧ V = refN s.data.toList) → decide (Lib.itoa V = s.data.toList) = B) := by
      have : ∀ n, n < 10000000000 → 1 ≤ s.size → s.size ≤ 10 → digN s.data.toList = some n → ∀ V : Int, (V = (n : Int) ∧ V = refN s.data.toList) → decide (Lib.itoa V = s.data.toList) = B := fun n _ h1 h2 h3 V hV => by
        rw [hV.2, ← hB]; exact refIs_end hD n h1 h2 h3
      exact this
    have hfst : ∀ h : 0 < s.size, ((s[0].toNat : Int) == 45) = false := fun h => by
      rw [beq_eq_false_iff_ne]
      intro e
      apply hneg
      have h1 : s.data.toList = s[0] :: s.data.toList.drop 1 := by
        exact head_cons s h
      rw [h1]
      show some s[0] = some 45
      congr 1
      exact UInt8.toNat_inj.1 (by have : (45 : UInt8).toNat = 45 := rfl; omega)
    rw [hB]
    clear hneg hB hD
    go_enter Tryd.func55, Tryd.ntmps55
    by_cases hz : 0 < s.size
    · have hzi : (0 : Int) < (s.size : Int) := by omega
      have hf := hfst hz
      by_cases h0 : s.size = 0
      · have h0i : (s.size == 0) = true := beq_iff_eq.2 h0
        have h0j : ((s.size : Int) == 0) = true := by rw [beq_iff_eq]; omega
        have hno : Hid (B = false) := HB0.out (.inl h0)
        go_wp2
        go_ret2
        exact ⟨0, by rw [hno.out]; rfl, (fun h => by rw [hno.out] at h; cases h), Below.refl _ _⟩
      · have h0i : (s.size == 0) = false := beq_eq_false_iff_ne.2 h0
        have h0j : ((s.size : Int) == 0) = false := by rw [beq_eq_false_iff_ne]; omega
        by_cases h10 : 10 < s.size
        · have h10i : (10 : Int) < (s.size : Int) := by omega
          have hno : Hid (B = false) := HB0.out (.inr h10)
          go_wp2
          go_ret2
          exact ⟨0, by rw [hno.out]; rfl, (fun h => by rw [hno.out] at h; cases h), Below.refl _ _⟩
        · have h10i : (s.size : Int) ≤ 10 := by omega
          go_wp2
          go_loop [5, 6] (RNRel s.data.toList s.size) (fun _ i => s.size - (intOf i).toNat)
          case atStart => exact ⟨0, 0, by omega, by decide, rfl, rfl, rfl⟩
          case round =>
            obtain ⟨k, n, hk, hn, rfl, rfl, hdg⟩ := hrel
            have HDG := Lib.hid hdg
            clear hdg
            by_cases hlt : k < s.size
            · have hki : (k : Int) < (s.size : Int) := by omega
              have hk0 : (0 : Int) ≤ (k : Int) := by omega
              have hn10 : n < 10000000000 := Nat.lt_of_lt_of_le hn (Nat.pow_le_pow_right (by omega) (show k ≤ 10 by omega))
              have hst := digN_take s k hlt n HDG.out
              obtain ⟨c, hcv⟩ : ∃ c : Nat, s[k].toNat = c := ⟨_, rfl⟩
              have hc256 : c < 256 := by rw [← hcv]; exact s[k].toNat_lt
              rw [hcv] at hst
              have HST := Lib.hid hst
              clear hst
              by_cases h48 : 48 ≤ c
              · have h48i : (48 : Int) ≤ (c : Int) := by omega
                by_cases h57 : c ≤ 57
                · have h57i : (c : Int) ≤ 57 := by omega
                  have hw1 : IntKind.i64.wrap (10 * (n : Int)) = 10 * (n : Int) := by simp only [IntKind.wrap_i64]; omega
                  obtain ⟨e, he⟩ : ∃ e : Nat, c - 48 = e := ⟨_, rfl⟩
                  have hw2 : IntKind.u8.wrap ((c : Int) - 48) = (e : Int) := by simp only [IntKind.wrap_u8]; omega
                  have hw3 : IntKind.i64.wrap (e : Int) = (e : Int) := by simp only [IntKind.wrap_i64]; omega
                  have hw4 : IntKind.i64.wrap (10 * (n : Int) + (e : Int)) = ((10 * n + e : Nat) : Int) := by simp only [IntKind.wrap_i64]; omega
                  have hnx : Hid (digN (s.data.toList.take (k + 1)) = some (10 * n + e)) := by
                    have : digN (s.data.toList.take (k + 1)) = some (10 * n + e) := by rw [HST.out, if_pos ⟨h48, h57⟩, he]
                    exact this
                  have hnb : Hid (10 * n + e < 10 ^ (k + 1)) := by
                    have : 10 * n + e < 10 ^ (k + 1) := by rw [Nat.pow_succ]; omega
                    exact this
                  clear he hn
                  go_wp2
                  go_round
                  case rel => exact ⟨k + 1, 10 * n + e, by omega, hnb.out, by go_num, by go_num, hnx.out⟩
                  case measure => simp [intOf]; omega
                · have h57i : (57 : Int) < (c : Int) := by omega
                  have hno : Hid (B = false) := HB1.out (digN_stop s (k + 1) (by rw [HST.out, if_neg (fun h => h57 h.2)]))
                  go_wp2
                  go_ret2
                  exact ⟨0, by rw [hno.out]; rfl, (fun h => by rw [hno.out] at h; cases h), Below.refl _ _⟩
              · have h48i : (c : Int) < 48 := by omega
                have hno : Hid (B = false) := HB1.out (digN_stop s (k + 1) (by rw [HST.out, if_neg (fun h => h48 h.1)]))
                go_wp2
                go_ret2
                exact ⟨0, by rw [hno.out]; rfl, (fun h => by rw [hno.out] at h; cases h), Below.refl _ _⟩
            · obtain rfl : k = s.size := by omega
              have hki : ¬ (s.size : Int) < (s.size : Int) := by omega
              have hn10 : n < 10000000000 := Nat.lt_of_lt_of_le hn (Nat.pow_le_pow_right (by omega) (show s.size ≤ 10 by omega))
              have hdn : Hid (digN s.data.toList = some n) := by
                have : digN s.data.toList = some n := by
                  have h := HDG.out
                  rw [List.take_of_length_le (by rw [bytes_size]; exact Nat.le_refl _)] at h
                  exact h
                exact this
              obtain ⟨V, hV, hVb⟩ := HV.out n hn10 hdn.out
              have hVB := Lib.hid hVb
              have HIT := Lib.hid (fun w (h : QW w) => itoa64_any V w (by omega) (by omega) h)
              obtain ⟨T, hT⟩ : ∃ T : ByteArray, (⟨(Lib.itoa V).toArray⟩ : ByteArray) = T := ⟨_, rfl⟩
              rw [hT] at HIT
              have hbq : (T.toList == s.toList) = B := by
                have h := HB2.out n hn10 (by omega) (by omega) hdn.out V hV
                rw [← h, ← hT]
                by_cases e : Lib.itoa V = s.data.toList
                · rw [decide_eq_true e, beq_iff_eq, ByteArray.toList_eq, ByteArray.toList_eq]
                  exact e
                · rw [decide_eq_false e, beq_eq_false_iff_ne, ByteArray.toList_eq, ByteArray.toList_eq]
                  exact e
              have HBV : Hid (B = true → V = refN s.data.toList) := by
                have : B = true → V = refN s.data.toList := fun _ => hV.2
                exact this
              have hV1 := hV.1
              clear hT hV hVb hn HDG hdn
              subst hV1
              go_wp2_with fail
              (with_reducible refine (HIT.out _ HW.out).mono ?_)
              rintro e w2 ⟨rfl, hb2⟩
              go_wp2
              go_ret2
              exact ⟨_, rfl, HBV.out, hb2⟩
    · have h0 : s.size = 0 := by omega
      have h0i : (s.size == 0) = true := beq_iff_eq.2 h0
      have hzi : ¬ (0 : Int) < (s.size : Int) := by omega
      have h0j : ((s.size : Int) == 0) = true := by rw [beq_iff_eq]; omega
      have hno : Hid (B = false) := HB0.out (.inl h0)
      go_wp2
      go_ret2
      exact ⟨0, by rw [hno.out]; rfl, (fun h => by rw [hno.out] at h; cases h), Below.refl _ _⟩
end Go.Proofs.YthjaelopmfjfeaaDoor
