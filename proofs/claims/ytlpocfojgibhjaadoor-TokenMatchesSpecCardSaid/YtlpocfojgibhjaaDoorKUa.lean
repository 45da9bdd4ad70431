/-
  Contracts of the walks over the reference's small functions on bytes and texts. Conditions: texts that fit into memory.
-/
import Derived.Test.YtlpocfojgibhjaaDoorGM
namespace Go.Proofs.YtlpocfojgibhjaaDoor
set_option linter.unusedVariables false
set_option linter.unusedSimpArgs false
open Go.RowKit Go.Shelf

theorem rletter_any (b : UInt8) (w : World) : Calls Tryd.prog 46 #[.int .u8 (b.toNat : Int)] w fun e w' => e = .returned (.bool (lo b)) ∧ Below w.heap.size w w' := by
  obtain ⟨n, hn⟩ : ∃ n : Nat, b.toNat = n := ⟨_, rfl⟩
  have hr : lo b = (decide (97 ≤ n) && decide (n ≤ 122)) := by unfold lo; rw [hn]
  rw [hr, hn]
  clear hr hn
  have h1 : decide ((97 : Int) ≤ (n : Int)) = decide (97 ≤ n) := by by_cases h : 97 ≤ n <;> simp [h] <;> omega
  have h2 : decide ((n : Int) ≤ 122) = decide (n ≤ 122) := by by_cases h : n ≤ 122 <;> simp [h] <;> omega
  obtain ⟨p, hp⟩ : ∃ p, decide (97 ≤ n) = p := ⟨_, rfl⟩
  obtain ⟨q, hq⟩ : ∃ q, decide (n ≤ 122) = q := ⟨_, rfl⟩
  rw [hp] at h1 ⊢
  rw [hq] at h2 ⊢
  clear hp hq
  cases p
  all_goals
    go_enter Tryd.func46, Tryd.ntmps46
    go_wp2
    go_ret
    exact ⟨rfl, Below.refl _ _⟩
theorem rdigit_any (b : UInt8) (w : World) : Calls Tryd.prog 73 #[.int .u8 (b.toNat : Int)] w fun e w' => e = .returned (.bool (dg b)) ∧ Below w.heap.size w w' := by
  obtain ⟨n, hn⟩ : ∃ n : Nat, b.toNat = n := ⟨_, rfl⟩
  have hr : dg b = (decide (48 ≤ n) && decide (n ≤ 57)) := by unfold dg; rw [hn]
  rw [hr, hn]
  clear hr hn
  have h1 : decide ((48 : Int) ≤ (n : Int)) = decide (48 ≤ n) := by by_cases h : 48 ≤ n <;> simp [h] <;> omega
  have h2 : decide ((n : Int) ≤ 57) = decide (n ≤ 57) := by by_cases h : n ≤ 57 <;> simp [h] <;> omega
  obtain ⟨p, hp⟩ : ∃ p, decide (48 ≤ n) = p := ⟨_, rfl⟩
  obtain ⟨q, hq⟩ : ∃ q, decide (n ≤ 57) = q := ⟨_, rfl⟩
  rw [hp] at h1 ⊢
  rw [hq] at h2 ⊢
  clear hp hq
  cases p
  all_goals
    go_enter Tryd.func73, Tryd.ntmps73
    go_wp2
    go_ret
    exact ⟨rfl, Below.refl _ _⟩
theorem rwordByte_any (b : UInt8) (w : World) : Calls Tryd.prog 84 #[.int .u8 (b.toNat : Int)] w fun e w' => e = .returned (.bool (wb b)) ∧ Below w.heap.size w w' := by
  have HL := fun w => rletter_any b w
  have HD := fun w => rdigit_any b w
  obtain ⟨p, hp⟩ : ∃ p, lo b = p := ⟨_, rfl⟩
  obtain ⟨q, hq⟩ : ∃ q, dg b = q := ⟨_, rfl⟩
  obtain ⟨n, hn⟩ : ∃ n : Nat, b.toNat = n := ⟨_, rfl⟩
  have hr : wb b = (p || q || decide (n = 95)) := by unfold wb; rw [hp, hq, hn]
  rw [hr, hn]
  rw [hn] at HL HD
  rw [hp] at HL
  rw [hq] at HD
  clear hr hn hp hq
  have h1 : ((n : Int) == 95) = decide (n = 95) := by by_cases h : n = 95 <;> simp [h] <;> omega
  cases p
  · cases q
    · go_enter Tryd.func84, Tryd.ntmps84
      go_wp2_with fail
      (with_reducible refine (HL _).mono ?_)
      rintro e w1 ⟨rfl, hb1⟩
      go_wp2_with fail
      (with_reducible refine (HD _).mono ?_)
      rintro e w2 ⟨rfl, hb2⟩
      have hb1 := below_join hb1 hb2
      go_wp2
      go_ret
      exact ⟨by simp [h1], hb1⟩
    · go_enter Tryd.func84, Tryd.ntmps84
      go_wp2_with fail
      (with_reducible refine (HL _).mono ?_)
      rintro e w1 ⟨rfl, hb1⟩
      go_wp2_with fail
      (with_reducible refine (HD _).mono ?_)
      rintro e w2 ⟨rfl, hb2⟩
      have hb1 := below_join hb1 hb2
      go_wp2
      go_ret
      exact ⟨rfl, hb1⟩
  · go_enter Tryd.func84, Tryd.ntmps84
    go_wp2_with fail
    (with_reducible refine (HL _).mono ?_)
    rintro e w1 ⟨rfl, hb1⟩
    go_wp2_with fail
    (with_reducible refine (HD _).mono ?_)
    rintro e w2 ⟨rfl, hb2⟩
    have hb1 := below_join hb1 hb2
    go_wp2
    go_ret
    exact ⟨rfl, hb1⟩
theorem rblank_any (b : UInt8) (w : World) : Calls Tryd.prog 32 #[.int .u8 (b.toNat : Int)] w fun e w' => e = .returned (.bool (sepB b)) ∧ Below w.heap.size w w' := by
  obtain ⟨n, hn⟩ : ∃ n : Nat, b.toNat = n := ⟨_, rfl⟩
  have hr : sepB b = (decide (n = 32) || decide (n = 9) || decide (n = 13) || decide (n = 10)) := by unfold sepB; rw [hn]
  rw [hr, hn]
  clear hr hn
  have hh : ∀ k : Nat, ((n : Int) == (k : Int)) = decide (n = k) := fun k => by by_cases h : n = k <;> simp [h] <;> omega
  have h1 : ((n : Int) == 32) = decide (n = 32) := hh 32
  have h2 : ((n : Int) == 9) = decide (n = 9) := hh 9
  have h3 : ((n : Int) == 13) = decide (n = 13) := hh 13
  have h4 : ((n : Int) == 10) = decide (n = 10) := hh 10
  obtain ⟨p, hp⟩ : ∃ p, decide (n = 32) = p := ⟨_, rfl⟩
  obtain ⟨q, hq⟩ : ∃ q, decide (n = 9) = q := ⟨_, rfl⟩
  obtain ⟨r, hr⟩ : ∃ r, decide (n = 13) = r := ⟨_, rfl⟩
  obtain ⟨s, hs⟩ : ∃ s, decide (n = 10) = s := ⟨_, rfl⟩
  rw [hp] at h1 ⊢
  rw [hq] at h2 ⊢
  rw [hr] at h3 ⊢
  rw [hs] at h4 ⊢
  clear hp hq hr hs hh
  cases p <;> cases q <;> cases r
  all_goals
    go_enter Tryd.func32, Tryd.ntmps32
    go_wp2
    go_ret
    exact ⟨by first | rfl | simp [h4], Below.refl _ _⟩
set_option maxRecDepth 100000 in
theorem run_words (w : World) : (Instr.buildSlice 30 49 #[(0, .string { data := #[97, 110, 100] }), (1, .string { data := #[97, 110, 121] }), (2, .string { data := #[97, 116] }), (3, .string { data := #[98, 97, 99, 107] }), (4, .string { data := #[98, 111, 120] }), (5, .string { data := #[98, 117, 114, 115, 116] }), (6, .string { data := #[98, 121] }), (7, .string { data := #[99, 97, 112, 97, 99, 105, 116, 121] }), (8, .string { data := #[99, 101, 105, 108, 105, 110, 103] }), (9, .string { data := #[99, 104, 101, 99, 107] }), (10, .string { data := #[99, 111, 110, 116, 114, 97, 99, 116] }), (11, .string { data := #[99, 111, 117, 110, 116] }), (12, .string { data := #[100, 101, 109, 97, 110, 100] }), (13, .string { data := #[100, 114, 111, 112] }), (14, .string { data := #[101, 97, 99, 104] }), (15, .string { data := #[101, 100, 103, 101] }), (16, .string { data := #[101, 110, 116, 114, 105, 101, 115] }), (17, .string { data := #[102, 97, 108, 115, 101] }), (18, .string { data := #[102, 105, 101, 108, 100] }), (19, .string { data := #[102, 108, 111, 111, 114] }), (20, .string { data := #[102, 114, 111, 109] }), (21, .string { data := #[105, 100] }), (22, .string { data := #[105, 110] }), (23, .string { data := #[105, 110, 110, 101, 114] }), (24, .string { data := #[105, 110, 116, 111] }), (25, .string { data := #[108, 105, 110, 107] }), (26, .string { data := #[110, 101, 116, 119, 111, 114, 107] }), (27, .string { data := #[110, 111, 100, 101] }), (28, .string { data := #[110, 111, 116] }), (29, .string { data := #[111, 112, 101, 110] }), (30, .string { data := #[111, 114] }), (31, .string { data := #[112, 97, 116, 104] }), (32, .string { data := #[112, 111, 114, 116] }), (33, .string { data := #[112, 114, 105, 99, 101] }), (34, .string { data := #[114, 111, 117, 116, 101] }), (35, .string { data := #[114, 117, 108, 101, 115] }), (36, .string { data := #[115, 116, 97, 103, 101] }), (37, .string { data := #[116, 97, 107, 101] }), (38, .string { data := #[116, 101, 110, 97, 110, 116] }), (39, .string { data := #[116, 104, 101, 110] }), (40, .string { data := #[116, 105, 109, 101] }), (41, .string { data := #[116, 111] }), (42, .string { data := #[116, 111, 107, 101, 110] }), (43, .string { data := #[116, 114, 97, 110, 115, 108, 97, 116, 101] }), (44, .string { data := #[116, 114, 117, 101] }), (45, .string { data := #[118, 105, 97] }), (46, .string { data := #[119, 105, 100, 116, 104] }), (47, .string { data := #[119, 105, 114, 101] }), (48, .string { data := #[119, 105, 116, 104, 105, 110] })]).run Tryd.prog w = .ok (.slice (some ⟨w.heap.size, 0, none⟩) 49 49) (w.alloc (.cells wordVs.toArray 9)) := by kernel_rfl
theorem words_lit : #[Value.string { data := #[97, 110, 100] }, Value.string { data := #[97, 110, 121] }, Value.string { data := #[97, 116] }, Value.string { data := #[98, 97, 99, 107] }, Value.string { data := #[98, 111, 120] }, Value.string { data := #[98, 117, 114, 115, 116] }, Value.string { data := #[98, 121] }, Value.string { data := #[99, 97, 112, 97, 99, 105, 116, 121] }, Value.string { data := #[99, 101, 105, 108, 105, 110, 103] }, Value.string { data := #[99, 104, 101, 99, 107] }, Value.string { data := #[99, 111, 110, 116, 114, 97, 99, 116] }, Value.string { data := #[99, 111, 117, 110, 116] }, Value.string { data := #[100, 101, 109, 97, 110, 100] }, Value.string { data := #[100, 114, 111, 112] }, Value.string { data := #[101, 97, 99, 104] }, Value.string { data := #[101, 100, 103, 101] }, Value.string { data := #[101, 110, 116, 114, 105, 101, 115] }, Value.string { data := #[102, 97, 108, 115, 101] }, Value.string { data := #[102, 105, 101, 108, 100] }, Value.string { data := #[102, 108, 111, 111, 114] }, Value.string { data := #[102, 114, 111, 109] }, Value.string { data := #[105, 100] }, Value.string { data := #[105, 110] }, Value.string { data := #[105, 110, 110, 101, 114] }, Value.string { data := #[105, 110, 116, 111] }, Value.string { data := #[108, 105, 110, 107] }, Value.string { data := #[110, 101, 116, 119, 111, 114, 107] }, Value.string { data := #[110, 111, 100, 101] }, Value.string { data := #[110, 111, 116] }, Value.string { data := #[111, 112, 101, 110] }, Value.string { data := #[111, 114] }, Value.string { data := #[112, 97, 116, 104] }, Value.string { data := #[112, 111, 114, 116] }, Value.string { data := #[112, 114, 105, 99, 101] }, Value.string { data := #[114, 111, 117, 116, 101] }, Value.string { data := #[114, 117, 108, 101, 115] }, Value.string { data := #[115, 116, 97, 103, 101] }, Value.string { data := #[116, 97, 107, 101] }, Value.string { data := #[116, 101, 110, 97, 110, 116] }, Value.string { data := #[116, 104, 101, 110] }, Value.string { data := #[116, 105, 109, 101] }, Value.string { data := #[116, 111] }, Value.string { data := #[116, 111, 107, 101, 110] }, Value.string { data := #[116, 114, 97, 110, 115, 108, 97, 116, 101] }, Value.string { data := #[116, 114, 117, 101] }, Value.string { data := #[118, 105, 97] }, Value.string { data := #[119, 105, 100, 116, 104] }, Value.string { data := #[119, 105, 114, 101] }, Value.string { data := #[119, 105, 116, 104, 105, 110] }] = wordVs.toArray := by rfl
theorem words_new (w : World) : Blk (w.alloc (.cells #[Value.string { data := #[97, 110, 100] }, Value.string { data := #[97, 110, 121] }, Value.string { data := #[97, 116] }, Value.string { data := #[98, 97, 99, 107] }, Value.string { data := #[98, 111, 120] }, Value.string { data := #[98, 117, 114, 115, 116] }, Value.string { data := #[98, 121] }, Value.string { data := #[99, 97, 112, 97, 99, 105, 116, 121] }, Value.string { data := #[99, 101, 105, 108, 105, 110, 103] }, Value.string { data := #[99, 104, 101, 99, 107] }, Value.string { data := #[99, 111, 110, 116, 114, 97, 99, 116] }, Value.string { data := #[99, 111, 117, 110, 116] }, Value.string { data := #[100, 101, 109, 97, 110, 100] }, Value.string { data := #[100, 114, 111, 112] }, Value.string { data := #[101, 97, 99, 104] }, Value.string { data := #[101, 100, 103, 101] }, Value.string { data := #[101, 110, 116, 114, 105, 101, 115] }, Value.string { data := #[102, 97, 108, 115, 101] }, Value.string { data := #[102, 105, 101, 108, 100] }, Value.string { data := #[102, 108, 111, 111, 114] }, Value.string { data := #[102, 114, 111, 109] }, Value.string { data := #[105, 100] }, Value.string { data := #[105, 110] }, Value.string { data := #[105, 110, 110, 101, 114] }, Value.string { data := #[105, 110, 116, 111] }, Value.string { data := #[108, 105, 110, 107] }, Value.string { data := #[110, 101, 116, 119, 111, 114, 107] }, Value.string { data := #[110, 111, 100, 101] }, Value.string { data := #[110, 111, 116] }, Value.string { data := #[111, 112, 101, 110] }, Value.string { data := #[111, 114] }, Value.string { data := #[112, 97, 116, 104] }, Value.string { data := #[112, 111, 114, 116] }, Value.string { data := #[112, 114, 105, 99, 101] }, Value.string { data := #[114, 111, 117, 116, 101] }, Value.string { data := #[114, 117, 108, 101, 115] }, Value.string { data := #[115, 116, 97, 103, 101] }, Value.string { data := #[116, 97, 107, 101] }, Value.string { data := #[116, 101, 110, 97, 110, 116] }, Value.string { data := #[116, 104, 101, 110] }, Value.string { data := #[116, 105, 109, 101] }, Value.string { data := #[116, 111] }, Value.string { data := #[116, 111, 107, 101, 110] }, Value.string { data := #[116, 114, 97, 110, 115, 108, 97, 116, 101] }, Value.string { data := #[116, 114, 117, 101] }, Value.string { data := #[118, 105, 97] }, Value.string { data := #[119, 105, 100, 116, 104] }, Value.string { data := #[119, 105, 114, 101] }, Value.string { data := #[119, 105, 116, 104, 105, 110] }] 9)) w.heap.size 9 wordVs := by
  rw [words_lit]; exact blk_new w _ _
set_option maxRecDepth 100000 in
set_option maxHeartbeats 1600000 in
theorem rwords_any (w : World) : Calls Tryd.prog 15 #[] w fun e w' => (∃ g, e = .returned (.slice (some ⟨g, 0, none⟩) 49 49) ∧ Blk w' g 9 wordVs ∧ w.heap.size ≤ g) ∧ Below w.heap.size w w' := by
  go_enter Tryd.func15, Tryd.ntmps15
  go_wp2
  go_ret
  exact ⟨⟨w.heap.size, rfl, words_new w, Nat.le_refl _⟩, below_new w _⟩
def WdR (l : List UInt8) (g : Nat) (w : World) (i : Value) (wr : World) : Prop := ∃ k : Nat, k ≤ 49 ∧ i = .int .i64 (k : Int) ∧ (∀ j, j < k → wAt j ≠ l) ∧ Blk wr g 9 wordVs ∧ Below w.heap.size w wr
set_option maxRecDepth 100000 in
set_option maxHeartbeats 1600000 in
theorem risWord_any (s : ByteArray) (w : World) : Calls Tryd.prog 47 #[.string s] w fun e w' => e = .returned (.bool (decide (s.data.toList ∈ wordsL))) ∧ Below w.heap.size w w' := by
  obtain ⟨l, hl⟩ : ∃ l, Hid (s.data.toList = l) := ⟨_, rfl⟩
  rw [hl.out]
  go_enter Tryd.func47, Tryd.ntmps47
  go_wp2_with fail
  (with_reducible refine (rwords_any _).mono ?_)
  rintro e w1 ⟨⟨g, rfl, B, _⟩, hbe⟩
  have H0 : Hid (WdR l g w (.int .i64 0) w1) := (⟨0, Nat.zero_le _, rfl, fun j h => absurd h (Nat.not_lt_zero _), B, hbe⟩ : WdR l g w (.int .i64 0) w1)
  clear B hbe
  go_wp2
  go_loopw [4] (WdR l g w) (fun i _ => 49 - (intOf i).toNat)
  case atStart => exact H0.out
  case round =>
    clear H0
    obtain ⟨k, hk, rfl, hall, B, hbe⟩ := hrel
    have HA := Lib.hid hall
    clear hall
    by_cases hlt : k < 49
    · have hki : (k : Int) < 49 := by omega
      have hk0 : (0 : Int) ≤ (k : Int) := by omega
      have c0 := B.cell (wVs_get hlt)
      have hin : Hid (wAt k = l → l ∈ wordsL) := (fun h => mem_words.2 ⟨k, hlt, h⟩ : wAt k = l → l ∈ wordsL)
      have hWB : (wB k).toList = wAt k := by rw [ByteArray.toList_eq]; rfl
      by_cases he : wAt k = l
      · have hd : Hid (decide (l ∈ wordsL) = true) := by
          have : decide (l ∈ wordsL) = true := decide_eq_true (hin.out he)
          exact this
        have hq : ((wB k).toList == s.toList) = true := by
          rw [hWB, he, ← hl.out, ByteArray.toList_eq]; exact beq_self_eq_true _
        obtain ⟨W, hW⟩ : ∃ W, wB k = W := ⟨_, rfl⟩
        rw [hW] at c0 hq
        clear hW hWB he hin
        go_wp2
        go_ret
        exact ⟨ret_bool hd.out, hbe⟩
      · have hq : ((wB k).toList == s.toList) = false := by
          refine beq_eq_false_iff_ne.2 fun h => he ?_
          rw [hWB, ByteArray.toList_eq, hl.out] at h
          exact h
        obtain ⟨W, hW⟩ : ∃ W, wB k = W := ⟨_, rfl⟩
        rw [hW] at c0 hq
        have HE := Lib.hid he
        clear hW hWB he hin
        go_wp2
        go_roundw
        case rel => exact ⟨k + 1, hlt, by go_num, fun j hj => by
            rcases Nat.lt_or_ge j k with h | h
            · exact HA.out j h
            · have : j = k := by omega
              subst this; exact HE.out, B, hbe⟩
        case measure => simp [intOf]; omega
    · have hk49 : k = 49 := by omega
      subst hk49
      have hd : Hid (decide (l ∈ wordsL) = false) := by
        have : decide (l ∈ wordsL) = false := decide_eq_false fun h => by
          obtain ⟨j, hj, e⟩ := mem_words.1 h
          exact HA.out j hj e
        exact this
      go_wp2
      go_ret
      exact ⟨ret_bool hd.out, hbe⟩
def RunR (n : Nat) (w : World) (i : Value) (wr : World) : Prop := ∃ k : Nat, k ≤ n ∧ i = .int .i64 (k : Int) ∧ Below w.heap.size w wr
set_option maxRecDepth 100000 in
set_option maxHeartbeats 1600000 in
theorem rrun_any (s : ByteArray) (hs : s.size ≤ 140737488355328) (w : World) : Calls Tryd.prog 48 #[.string s] w fun e w' => e = .returned (.int .i64 (runL s.data.toList : Nat)) ∧ Below w.heap.size w w' := by
  have hle := run_size s
  have hAt := fun k (h : k < s.size) (hk : k < runL s.data.toList) => run_at s h hk
  have hEnd := fun k (h : k < s.size) (hk : k = runL s.data.toList) => run_end s h hk
  obtain ⟨n, hn⟩ : ∃ n, runL s.data.toList = n := ⟨_, rfl⟩
  rw [hn] at hle hAt hEnd ⊢
  clear hn
  have HA := Lib.hid hAt
  have HE := Lib.hid hEnd
  clear hAt hEnd
  have hni : (n : Int) ≤ (s.size : Int) := by omega
  have hsi : (s.size : Int) ≤ 140737488355328 := by omega
  go_enter Tryd.func48, Tryd.ntmps48
  go_wp2
  go_loopw [3] (RunR n w) (fun i _ => n - (intOf i).toNat)
  case atStart => exact ⟨0, Nat.zero_le _, rfl, Below.refl _ _⟩
  case round =>
    obtain ⟨k, hk, rfl, hbe⟩ := hrel
    by_cases hks : k < s.size
    · have hki : (k : Int) < (s.size : Int) := by omega
      have hk0 : (0 : Int) ≤ (k : Int) := by omega
      obtain ⟨b, hb⟩ : ∃ b, s[k]'hks = b := ⟨_, rfl⟩
      have HW := fun w => rwordByte_any b w
      by_cases hlt : k < n
      · have hw := HA.out k hks hlt
        rw [hb] at hw
        rw [hw] at HW
        clear hw
        go_wp2_with fail
        (with_reducible refine (HW _).mono ?_)
        rintro e w2 ⟨rfl, hb2⟩
        have hbe := below_join hbe hb2
        clear hb2 HW
        go_wp2
        go_roundw
        case rel => exact ⟨k + 1, hlt, by go_num, hbe⟩
        case measure => simp [intOf]; omega
      · have hkn : k = n := by omega
        have hw := HE.out k hks hkn
        rw [hb] at hw
        rw [hw] at HW
        clear hw
        subst hkn
        go_wp2_with fail
        (with_reducible refine (HW _).mono ?_)
        rintro e w2 ⟨rfl, hb2⟩
        have hbe := below_join hbe hb2
        clear hb2 HW
        go_wp2
        go_ret
        exact ⟨rfl, hbe⟩
    · have hkn : k = n := by omega
      subst hkn
      have hki : ¬ (k : Int) < (s.size : Int) := by omega
      go_wp2
      go_ret
      exact ⟨rfl, hbe⟩
end Go.Proofs.YtlpocfojgibhjaaDoor
