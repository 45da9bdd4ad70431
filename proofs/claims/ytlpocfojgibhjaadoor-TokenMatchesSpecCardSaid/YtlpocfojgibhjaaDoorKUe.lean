/-
  Contract of the walk over the reference's token. Conditions: the text begins with no separator.
-/
import Derived.Test.YtlpocfojgibhjaaDoorKUd
namespace Go.Proofs.YtlpocfojgibhjaaDoor
set_option linter.unusedVariables false
set_option linter.unusedSimpArgs false
open Go.RowKit Go.Shelf

theorem run_take : ∀ l : List UInt8, runL (l.take (runL l)) = runL l
  | [] => rfl
  | b :: l => by
    rw [runL_cons]
    by_cases h : wb b = true
    · rw [if_pos h, List.take_succ_cons, runL_cons, if_pos h, run_take l]
    · rw [if_neg h]; rfl
theorem name_take {b : UInt8} {l : List UInt8} (h : lo b = true) : nameM ((b :: l).take (runL (b :: l))) = decide (kindM ((b :: l).take (runL (b :: l))) = 1) := by
  have hr := run_take (b :: l)
  have hlen : ((b :: l).take (runL (b :: l))).length = runL (b :: l) := by
    rw [List.length_take]
    have := runL_le (b :: l)
    omega
  have hp := runL_pos (r := l) (lo_wb h)
  obtain ⟨k, hk⟩ : ∃ k, runL (b :: l) = k + 1 := ⟨runL (b :: l) - 1, by omega⟩
  have e : (b :: l).take (runL (b :: l)) = b :: l.take k := by rw [hk]; rfl
  rw [e] at hr hlen ⊢
  show (lo b && decide (kindM (b :: l.take k) = 1) && decide (runL (b :: l.take k) = (b :: l.take k).length)) = _
  rw [h, hr, hlen]
  simp
theorem kind_cases (T : List UInt8) : (decide (T ∈ wordsL) = true ∧ kindM T = 2) ∨ (decide (T ∈ wordsL) = false ∧ kindM T = 1) ∨ (decide (T ∈ wordsL) = false ∧ kindM T = 5) := by
  unfold kindM
  by_cases h : T ∈ wordsL
  · exact Or.inl ⟨decide_eq_true h, if_pos h⟩
  · right
    rw [if_neg h]
    by_cases h2 : T.length ≤ 24
    · exact Or.inl ⟨decide_eq_false h, if_pos h2⟩
    · exact Or.inr ⟨decide_eq_false h, if_neg h2⟩
theorem tokE_mk (K N : Nat) (c : ByteArray) : TokE (K : Int) (N : Int) c = .returned (.agg #[.int .i64 (K : Int), .int .i64 (N : Int), .string c, .int .i64 0, .int .i64 0]) := rfl
set_option maxRecDepth 100000 in
set_option maxHeartbeats 6400000 in
theorem rtoken_any (s : ByteArray) (hs : s.size ≤ 140737488355328) (hg : nog s.data.toList = true) (w : World) :
    Calls Tryd.prog 33 #[.string s] w fun e w' => e = TokE ((tokM s.data.toList).kind : Nat) ((tokM s.data.toList).n : Nat) (s.extract 0 (tokM s.data.toList).len) ∧ Below w.heap.size w w' := by
  have hpos : 0 < s.size := by
    rcases Nat.eq_zero_or_pos s.size with h | h
    · have : s.data.toList = [] := List.eq_nil_of_length_eq_zero (by rw [bytes_size]; exact h)
      rw [this] at hg; cases hg
    · exact h
  have h0i : (0 : Int) < (s.size : Int) := by omega
  obtain ⟨l, hl⟩ := head_of s hpos
  have hcons := tokM_cons (s[0]'hpos) l
  have hnt := name_take (b := s[0]'hpos) (l := l)
  rw [← hl] at hcons hnt
  have hrl := run_size s
  have hsl := signL_le s.data.toList
  have hol := oddL_le s.data.toList
  rw [bytes_size] at hsl hol
  have HR := fun w => rrun_any s hs w
  have HIW := fun w => risWord_any (s.extract 0 (runL s.data.toList)) w
  have HNM := fun w => rname_any (s.extract 0 (runL s.data.toList)) (by rw [run_sz]; omega) w
  have HNB := fun w => rnumber_any (s.extract 0 (runL s.data.toList)) (by rw [run_sz]; omega) w
  rw [cut_ls] at HIW HNM HNB
  have HSG := fun w => rsign_any s hpos hs w
  have HOD := fun w => rodd_any s hs w
  have hkc := kind_cases (s.data.toList.take (runL s.data.toList))
  obtain ⟨b, hb⟩ : ∃ b, s[0]'hpos = b := ⟨_, rfl⟩
  rw [hb] at hcons hnt
  have HL := fun w => rletter_any b w
  have HD := fun w => rdigit_any b w
  obtain ⟨p, hp⟩ : ∃ p, lo b = p := ⟨_, rfl⟩
  obtain ⟨q, hq⟩ : ∃ q, dg b = q := ⟨_, rfl⟩
  rw [hp] at HL hcons hnt
  rw [hq] at HD hcons
  obtain ⟨iw, hiw⟩ : ∃ x, decide (s.data.toList.take (runL s.data.toList) ∈ wordsL) = x := ⟨_, rfl⟩
  rw [hiw] at HIW hkc
  obtain ⟨nm, hnm⟩ : ∃ x, nameM (s.data.toList.take (runL s.data.toList)) = x := ⟨_, rfl⟩
  rw [hnm] at HNM hnt
  obtain ⟨K, hK⟩ : ∃ x, kindM (s.data.toList.take (runL s.data.toList)) = x := ⟨_, rfl⟩
  rw [hK] at hcons hnt hkc
  obtain ⟨V, hV⟩ : ∃ x, numM (s.data.toList.take (runL s.data.toList)) = x := ⟨_, rfl⟩
  rw [hV] at HNB hcons
  obtain ⟨nr, hnr⟩ : ∃ x, runL s.data.toList = x := ⟨_, rfl⟩
  rw [hnr] at HR HIW HNM HNB hcons hrl
  obtain ⟨z, hz⟩ : ∃ x, signL s.data.toList = x := ⟨_, rfl⟩
  rw [hz] at HSG hcons hsl
  obtain ⟨no, hno⟩ : ∃ x, oddL s.data.toList = x := ⟨_, rfl⟩
  rw [hno] at HOD hcons hol
  have hri : (nr : Int) ≤ (s.size : Int) := by omega
  have hr0 : (0 : Int) ≤ (nr : Int) := by omega
  have hzi : (z : Int) ≤ (s.size : Int) := by omega
  have hz0 : (0 : Int) ≤ (z : Int) := by omega
  have hoi : (no : Int) ≤ (s.size : Int) := by omega
  have ho0 : (0 : Int) ≤ (no : Int) := by omega
  have hsi : (s.size : Int) ≤ 140737488355328 := by omega
  clear hl hp hq hiw hnm hK hV hnr hz hno hg
  cases p with
  | true =>
    rw [if_pos rfl] at hcons
    rw [hcons]
    simp only
    rw [tokE_mk]
    replace hnt := hnt rfl
    clear HNB HSG HOD hcons hsl hol hrl hzi hz0 hoi ho0
    rcases hkc with ⟨h1, h2⟩ | ⟨h1, h2⟩ | ⟨h1, h2⟩
    · subst h1 h2
      clear hnt
      go_enter Tryd.func33, Tryd.ntmps33
      go_wp2_with (with_reducible refine wpList_alloc (o := ⟨some 2, .alloc 37, _, _, _, _⟩) (by with_unfolding_all rfl) 37 (by with_unfolding_all rfl) (.agg #[.int .i64 0, .int .i64 0, .string ByteArray.empty, .int .i64 0, .int .i64 0]) [Value.int .i64 0, .int .i64 0, .string ByteArray.empty, .int .i64 0, .int .i64 0] (by exact Tryd.zeroTok) (by with_unfolding_all rfl) ?_)
      intro g2 w1 hg2 hs1 hb1 B2
      have hl2 : w.heap.size ≤ g2 := Nat.le_of_eq hg2.out.symm
      have hb1 := hb1.mono (Nat.le_of_eq hg2.out.symm)
      have hbe : Below w.heap.size w w1 := hb1
      clear hb1 hg2 hs1
      go_wp2_with fail
      (with_reducible refine (HL _).mono ?_)
      rintro e w2 ⟨rfl, hb2⟩
      have B2 := B2.next hb2 B2.lt
      have hbe := below_join hbe hb2
      clear hb2
      go_wp2_with fail
      (with_reducible refine (HD _).mono ?_)
      rintro e w3 ⟨rfl, hb3⟩
      have B2 := B2.next hb3 B2.lt
      have hbe := below_join hbe hb3
      clear hb3
      go_wp2_with fail
      (with_reducible refine (HR _).mono ?_)
      rintro e w4 ⟨rfl, hb4⟩
      have B2 := B2.next hb4 B2.lt
      have hbe := below_join hbe hb4
      clear hb4
      go_wp2_with (first | (with_reducible refine wpList_build (o := ⟨some 24, .build 37 #[(0, .const (.int .i64 5)), (2, .tmp 23)], _, _, _, _⟩) (by with_unfolding_all rfl) 37 #[(0, .const (.int .i64 5)), (2, .tmp 23)] (by with_unfolding_all rfl) #[(0, .int .i64 5), (2, .string (s.extract 0 nr))] (by with_unfolding_all rfl) (.agg #[.int .i64 5, .int .i64 0, .string (s.extract 0 nr), .int .i64 0, .int .i64 0]) (by with_unfolding_all exact fun w => (fun w => run_b02 w 5 (s.extract 0 nr)) w) ?_) | (with_reducible refine wpList_alloc (o := ⟨some 5, .alloc 37, _, _, _, _⟩) (by with_unfolding_all rfl) 37 (by with_unfolding_all rfl) (.agg #[.int .i64 0, .int .i64 0, .string ByteArray.empty, .int .i64 0, .int .i64 0]) [Value.int .i64 0, .int .i64 0, .string ByteArray.empty, .int .i64 0, .int .i64 0] (by exact Tryd.zeroTok) (by with_unfolding_all rfl) ?_))
      intro g5 w5 hg5 hs5 hb5 B5
      have hl5 : w.heap.size ≤ g5 := Nat.le_trans hbe.size (Nat.le_of_eq hg5.out.symm)
      have ne2_5 : g2 ≠ g5 := by have := B2.lt; have := hg5.out; omega
      have ne5_2 := ne2_5.symm
      have hb5 := hb5.mono (Nat.le_of_eq hg5.out.symm)
      have B2 := B2.next hb5 B2.lt
      have hbe := below_join hbe hb5
      clear hb5 hg5 hs5
      go_wp2_with (with_reducible refine wpList_put (o := ⟨none, .store 37 (.tmp 5) (.tmp 24), _, _, _, _⟩) (by with_unfolding_all rfl) 37 (.tmp 5) (.tmp 24) (by with_unfolding_all rfl) g5 0 (by with_unfolding_all rfl) (.agg #[.int .i64 5, .int .i64 0, .string (s.extract 0 nr), .int .i64 0, .int .i64 0]) (by with_unfolding_all rfl) B5 [Value.int .i64 5, .int .i64 0, .string (s.extract 0 nr), .int .i64 0, .int .i64 0] (by with_unfolding_all rfl) (by with_unfolding_all (exact Tryd.szTok)) (by with_unfolding_all (exact Nat.le_refl 5)) (by with_unfolding_all (exact tok_one _ _ _ _ _)) ?_)
      intro w6 hu6 C5
      rw [splice_all _ _ (by rfl)] at C5
      have B2 := B2.upd hu6 ne2_5
      have hbe := hbe.trans (hu6.below (B := w.heap.size) hl5)
      clear B5 hu6
      have B5 := C5
      clear C5
      have z5_2 := B5.cell (k := 2) rfl
      go_wp2_with fail
      (with_reducible refine (HIW _).mono ?_)
      rintro e w7 ⟨rfl, hb7⟩
      clear z5_2
      have B2 := B2.next hb7 B2.lt
      have B5 := B5.next hb7 B5.lt
      have hbe := below_join hbe hb7
      clear hb7
      have z5_2 := B5.cell (k := 2) rfl
      go_wp2_with fail
      (with_reducible refine (HNM _).mono ?_)
      rintro e w8 ⟨rfl, hb8⟩
      clear z5_2
      have B2 := B2.next hb8 B2.lt
      have B5 := B5.next hb8 B5.lt
      have hbe := below_join hbe hb8
      clear hb8
      go_wp2_with (with_reducible refine wpList_put (o := ⟨none, .store 3 (.tmp 32) (.const (.int .i64 2)), _, _, _, _⟩) (by with_unfolding_all rfl) 3 (.tmp 32) (.const (.int .i64 2)) (by with_unfolding_all rfl) g5 0 (by with_unfolding_all rfl) (.int .i64 2) (by with_unfolding_all rfl) B5 [.int .i64 2] (by with_unfolding_all rfl) (by with_unfolding_all (exact Tryd.szInt)) (by with_unfolding_all (exact Nat.le_of_ble_eq_true rfl)) (by with_unfolding_all (exact one_cell1 rfl)) ?_)
      intro w9 hu9 C5
      have C5 : Blk w9 g5 37 [Value.int .i64 2, .int .i64 0, .string (s.extract 0 nr), .int .i64 0, .int .i64 0] := C5
      have B2 := B2.upd hu9 ne2_5
      have hbe := hbe.trans (hu9.below (B := w.heap.size) hl5)
      clear B5 hu9
      have B5 := C5
      clear C5
      have z5_0 := B5.cell (k := 0) rfl
      have z5_1 := B5.cell (k := 1) rfl
      have z5_2 := B5.cell (k := 2) rfl
      have z5_3 := B5.cell (k := 3) rfl
      have z5_4 := B5.cell (k := 4) rfl
      go_wp2_with (with_reducible refine wpList_put (o := ⟨none, .store 37 (.tmp 2) (.tmp 35), _, _, _, _⟩) (by with_unfolding_all rfl) 37 (.tmp 2) (.tmp 35) (by with_unfolding_all rfl) g2 0 (by with_unfolding_all rfl) (.agg #[.int .i64 2, .int .i64 0, .string (s.extract 0 nr), .int .i64 0, .int .i64 0]) (by with_unfolding_all rfl) B2 [Value.int .i64 2, .int .i64 0, .string (s.extract 0 nr), .int .i64 0, .int .i64 0] (by with_unfolding_all rfl) (by with_unfolding_all (exact Tryd.szTok)) (by with_unfolding_all (exact Nat.le_refl 5)) (by with_unfolding_all (exact tok_one _ _ _ _ _)) ?_)
      intro w10 hu10 C2
      rw [splice_all _ _ (by rfl)] at C2
      have B5 := B5.upd hu10 ne5_2
      have hbe := hbe.trans (hu10.below (B := w.heap.size) hl2)
      clear B2 hu10
      have B2 := C2
      clear C2
      clear z5_0 z5_1 z5_2 z5_3 z5_4
      go_wp2
      exact bodyPost_ret (results_cell_row rfl _ _ g2 _ _ _ _ rfl B2 Tryd.underlying37 rfl Tryd.szTok) rfl ⟨rfl, hbe⟩
    · subst h1 h2
      rw [decide_eq_true rfl] at hnt
      subst hnt
      go_enter Tryd.func33, Tryd.ntmps33
      go_wp2_with (with_reducible refine wpList_alloc (o := ⟨some 2, .alloc 37, _, _, _, _⟩) (by with_unfolding_all rfl) 37 (by with_unfolding_all rfl) (.agg #[.int .i64 0, .int .i64 0, .string ByteArray.empty, .int .i64 0, .int .i64 0]) [Value.int .i64 0, .int .i64 0, .string ByteArray.empty, .int .i64 0, .int .i64 0] (by exact Tryd.zeroTok) (by with_unfolding_all rfl) ?_)
      intro g2 w1 hg2 hs1 hb1 B2
      have hl2 : w.heap.size ≤ g2 := Nat.le_of_eq hg2.out.symm
      have hb1 := hb1.mono (Nat.le_of_eq hg2.out.symm)
      have hbe : Below w.heap.size w w1 := hb1
      clear hb1 hg2 hs1
      go_wp2_with fail
      (with_reducible refine (HL _).mono ?_)
      rintro e w2 ⟨rfl, hb2⟩
      have B2 := B2.next hb2 B2.lt
      have hbe := below_join hbe hb2
      clear hb2
      go_wp2_with fail
      (with_reducible refine (HD _).mono ?_)
      rintro e w3 ⟨rfl, hb3⟩
      have B2 := B2.next hb3 B2.lt
      have hbe := below_join hbe hb3
      clear hb3
      go_wp2_with fail
      (with_reducible refine (HR _).mono ?_)
      rintro e w4 ⟨rfl, hb4⟩
      have B2 := B2.next hb4 B2.lt
      have hbe := below_join hbe hb4
      clear hb4
      go_wp2_with (first | (with_reducible refine wpList_build (o := ⟨some 24, .build 37 #[(0, .const (.int .i64 5)), (2, .tmp 23)], _, _, _, _⟩) (by with_unfolding_all rfl) 37 #[(0, .const (.int .i64 5)), (2, .tmp 23)] (by with_unfolding_all rfl) #[(0, .int .i64 5), (2, .string (s.extract 0 nr))] (by with_unfolding_all rfl) (.agg #[.int .i64 5, .int .i64 0, .string (s.extract 0 nr), .int .i64 0, .int .i64 0]) (by with_unfolding_all exact fun w => (fun w => run_b02 w 5 (s.extract 0 nr)) w) ?_) | (with_reducible refine wpList_alloc (o := ⟨some 5, .alloc 37, _, _, _, _⟩) (by with_unfolding_all rfl) 37 (by with_unfolding_all rfl) (.agg #[.int .i64 0, .int .i64 0, .string ByteArray.empty, .int .i64 0, .int .i64 0]) [Value.int .i64 0, .int .i64 0, .string ByteArray.empty, .int .i64 0, .int .i64 0] (by exact Tryd.zeroTok) (by with_unfolding_all rfl) ?_))
      intro g5 w5 hg5 hs5 hb5 B5
      have hl5 : w.heap.size ≤ g5 := Nat.le_trans hbe.size (Nat.le_of_eq hg5.out.symm)
      have ne2_5 : g2 ≠ g5 := by have := B2.lt; have := hg5.out; omega
      have ne5_2 := ne2_5.symm
      have hb5 := hb5.mono (Nat.le_of_eq hg5.out.symm)
      have B2 := B2.next hb5 B2.lt
      have hbe := below_join hbe hb5
      clear hb5 hg5 hs5
      go_wp2_with (with_reducible refine wpList_put (o := ⟨none, .store 37 (.tmp 5) (.tmp 24), _, _, _, _⟩) (by with_unfolding_all rfl) 37 (.tmp 5) (.tmp 24) (by with_unfolding_all rfl) g5 0 (by with_unfolding_all rfl) (.agg #[.int .i64 5, .int .i64 0, .string (s.extract 0 nr), .int .i64 0, .int .i64 0]) (by with_unfolding_all rfl) B5 [Value.int .i64 5, .int .i64 0, .string (s.extract 0 nr), .int .i64 0, .int .i64 0] (by with_unfolding_all rfl) (by with_unfolding_all (exact Tryd.szTok)) (by with_unfolding_all (exact Nat.le_refl 5)) (by with_unfolding_all (exact tok_one _ _ _ _ _)) ?_)
      intro w6 hu6 C5
      rw [splice_all _ _ (by rfl)] at C5
      have B2 := B2.upd hu6 ne2_5
      have hbe := hbe.trans (hu6.below (B := w.heap.size) hl5)
      clear B5 hu6
      have B5 := C5
      clear C5
      have z5_2 := B5.cell (k := 2) rfl
      go_wp2_with fail
      (with_reducible refine (HIW _).mono ?_)
      rintro e w7 ⟨rfl, hb7⟩
      clear z5_2
      have B2 := B2.next hb7 B2.lt
      have B5 := B5.next hb7 B5.lt
      have hbe := below_join hbe hb7
      clear hb7
      have z5_2 := B5.cell (k := 2) rfl
      go_wp2_with fail
      (with_reducible refine (HNM _).mono ?_)
      rintro e w8 ⟨rfl, hb8⟩
      clear z5_2
      have B2 := B2.next hb8 B2.lt
      have B5 := B5.next hb8 B5.lt
      have hbe := below_join hbe hb8
      clear hb8
      go_wp2_with (with_reducible refine wpList_put (o := ⟨none, .store 3 (.tmp 34) (.const (.int .i64 1)), _, _, _, _⟩) (by with_unfolding_all rfl) 3 (.tmp 34) (.const (.int .i64 1)) (by with_unfolding_all rfl) g5 0 (by with_unfolding_all rfl) (.int .i64 1) (by with_unfolding_all rfl) B5 [.int .i64 1] (by with_unfolding_all rfl) (by with_unfolding_all (exact Tryd.szInt)) (by with_unfolding_all (exact Nat.le_of_ble_eq_true rfl)) (by with_unfolding_all (exact one_cell1 rfl)) ?_)
      intro w9 hu9 C5
      have C5 : Blk w9 g5 37 [Value.int .i64 1, .int .i64 0, .string (s.extract 0 nr), .int .i64 0, .int .i64 0] := C5
      have B2 := B2.upd hu9 ne2_5
      have hbe := hbe.trans (hu9.below (B := w.heap.size) hl5)
      clear B5 hu9
      have B5 := C5
      clear C5
      have z5_0 := B5.cell (k := 0) rfl
      have z5_1 := B5.cell (k := 1) rfl
      have z5_2 := B5.cell (k := 2) rfl
      have z5_3 := B5.cell (k := 3) rfl
      have z5_4 := B5.cell (k := 4) rfl
      go_wp2_with (with_reducible refine wpList_put (o := ⟨none, .store 37 (.tmp 2) (.tmp 35), _, _, _, _⟩) (by with_unfolding_all rfl) 37 (.tmp 2) (.tmp 35) (by with_unfolding_all rfl) g2 0 (by with_unfolding_all rfl) (.agg #[.int .i64 1, .int .i64 0, .string (s.extract 0 nr), .int .i64 0, .int .i64 0]) (by with_unfolding_all rfl) B2 [Value.int .i64 1, .int .i64 0, .string (s.extract 0 nr), .int .i64 0, .int .i64 0] (by with_unfolding_all rfl) (by with_unfolding_all (exact Tryd.szTok)) (by with_unfolding_all (exact Nat.le_refl 5)) (by with_unfolding_all (exact tok_one _ _ _ _ _)) ?_)
      intro w10 hu10 C2
      rw [splice_all _ _ (by rfl)] at C2
      have B5 := B5.upd hu10 ne5_2
      have hbe := hbe.trans (hu10.below (B := w.heap.size) hl2)
      clear B2 hu10
      have B2 := C2
      clear C2
      clear z5_0 z5_1 z5_2 z5_3 z5_4
      go_wp2
      exact bodyPost_ret (results_cell_row rfl _ _ g2 _ _ _ _ rfl B2 Tryd.underlying37 rfl Tryd.szTok) rfl ⟨rfl, hbe⟩
    · subst h1 h2
      replace hnt : nm = false := hnt
      subst hnt
      go_enter Tryd.func33, Tryd.ntmps33
      go_wp2_with (with_reducible refine wpList_alloc (o := ⟨some 2, .alloc 37, _, _, _, _⟩) (by with_unfolding_all rfl) 37 (by with_unfolding_all rfl) (.agg #[.int .i64 0, .int .i64 0, .string ByteArray.empty, .int .i64 0, .int .i64 0]) [Value.int .i64 0, .int .i64 0, .string ByteArray.empty, .int .i64 0, .int .i64 0] (by exact Tryd.zeroTok) (by with_unfolding_all rfl) ?_)
      intro g2 w1 hg2 hs1 hb1 B2
      have hl2 : w.heap.size ≤ g2 := Nat.le_of_eq hg2.out.symm
      have hb1 := hb1.mono (Nat.le_of_eq hg2.out.symm)
      have hbe : Below w.heap.size w w1 := hb1
      clear hb1 hg2 hs1
      go_wp2_with fail
      (with_reducible refine (HL _).mono ?_)
      rintro e w2 ⟨rfl, hb2⟩
      have B2 := B2.next hb2 B2.lt
      have hbe := below_join hbe hb2
      clear hb2
      go_wp2_with fail
      (with_reducible refine (HD _).mono ?_)
      rintro e w3 ⟨rfl, hb3⟩
      have B2 := B2.next hb3 B2.lt
      have hbe := below_join hbe hb3
      clear hb3
      go_wp2_with fail
      (with_reducible refine (HR _).mono ?_)
      rintro e w4 ⟨rfl, hb4⟩
      have B2 := B2.next hb4 B2.lt
      have hbe := below_join hbe hb4
      clear hb4
      go_wp2_with (first | (with_reducible refine wpList_build (o := ⟨some 24, .build 37 #[(0, .const (.int .i64 5)), (2, .tmp 23)], _, _, _, _⟩) (by with_unfolding_all rfl) 37 #[(0, .const (.int .i64 5)), (2, .tmp 23)] (by with_unfolding_all rfl) #[(0, .int .i64 5), (2, .string (s.extract 0 nr))] (by with_unfolding_all rfl) (.agg #[.int .i64 5, .int .i64 0, .string (s.extract 0 nr), .int .i64 0, .int .i64 0]) (by with_unfolding_all exact fun w => (fun w => run_b02 w 5 (s.extract 0 nr)) w) ?_) | (with_reducible refine wpList_alloc (o := ⟨some 5, .alloc 37, _, _, _, _⟩) (by with_unfolding_all rfl) 37 (by with_unfolding_all rfl) (.agg #[.int .i64 0, .int .i64 0, .string ByteArray.empty, .int .i64 0, .int .i64 0]) [Value.int .i64 0, .int .i64 0, .string ByteArray.empty, .int .i64 0, .int .i64 0] (by exact Tryd.zeroTok) (by with_unfolding_all rfl) ?_))
      intro g5 w5 hg5 hs5 hb5 B5
      have hl5 : w.heap.size ≤ g5 := Nat.le_trans hbe.size (Nat.le_of_eq hg5.out.symm)
      have ne2_5 : g2 ≠ g5 := by have := B2.lt; have := hg5.out; omega
      have ne5_2 := ne2_5.symm
      have hb5 := hb5.mono (Nat.le_of_eq hg5.out.symm)
      have B2 := B2.next hb5 B2.lt
      have hbe := below_join hbe hb5
      clear hb5 hg5 hs5
      go_wp2_with (with_reducible refine wpList_put (o := ⟨none, .store 37 (.tmp 5) (.tmp 24), _, _, _, _⟩) (by with_unfolding_all rfl) 37 (.tmp 5) (.tmp 24) (by with_unfolding_all rfl) g5 0 (by with_unfolding_all rfl) (.agg #[.int .i64 5, .int .i64 0, .string (s.extract 0 nr), .int .i64 0, .int .i64 0]) (by with_unfolding_all rfl) B5 [Value.int .i64 5, .int .i64 0, .string (s.extract 0 nr), .int .i64 0, .int .i64 0] (by with_unfolding_all rfl) (by with_unfolding_all (exact Tryd.szTok)) (by with_unfolding_all (exact Nat.le_refl 5)) (by with_unfolding_all (exact tok_one _ _ _ _ _)) ?_)
      intro w6 hu6 C5
      rw [splice_all _ _ (by rfl)] at C5
      have B2 := B2.upd hu6 ne2_5
      have hbe := hbe.trans (hu6.below (B := w.heap.size) hl5)
      clear B5 hu6
      have B5 := C5
      clear C5
      have z5_2 := B5.cell (k := 2) rfl
      go_wp2_with fail
      (with_reducible refine (HIW _).mono ?_)
      rintro e w7 ⟨rfl, hb7⟩
      clear z5_2
      have B2 := B2.next hb7 B2.lt
      have B5 := B5.next hb7 B5.lt
      have hbe := below_join hbe hb7
      clear hb7
      have z5_2 := B5.cell (k := 2) rfl
      go_wp2_with fail
      (with_reducible refine (HNM _).mono ?_)
      rintro e w8 ⟨rfl, hb8⟩
      clear z5_2
      have B2 := B2.next hb8 B2.lt
      have B5 := B5.next hb8 B5.lt
      have hbe := below_join hbe hb8
      clear hb8
      have z5_0 := B5.cell (k := 0) rfl
      have z5_1 := B5.cell (k := 1) rfl
      have z5_2 := B5.cell (k := 2) rfl
      have z5_3 := B5.cell (k := 3) rfl
      have z5_4 := B5.cell (k := 4) rfl
      go_wp2_with (with_reducible refine wpList_put (o := ⟨none, .store 37 (.tmp 2) (.tmp 35), _, _, _, _⟩) (by with_unfolding_all rfl) 37 (.tmp 2) (.tmp 35) (by with_unfolding_all rfl) g2 0 (by with_unfolding_all rfl) (.agg #[.int .i64 5, .int .i64 0, .string (s.extract 0 nr), .int .i64 0, .int .i64 0]) (by with_unfolding_all rfl) B2 [Value.int .i64 5, .int .i64 0, .string (s.extract 0 nr), .int .i64 0, .int .i64 0] (by with_unfolding_all rfl) (by with_unfolding_all (exact Tryd.szTok)) (by with_unfolding_all (exact Nat.le_refl 5)) (by with_unfolding_all (exact tok_one _ _ _ _ _)) ?_)
      intro w9 hu9 C2
      rw [splice_all _ _ (by rfl)] at C2
      have B5 := B5.upd hu9 ne5_2
      have hbe := hbe.trans (hu9.below (B := w.heap.size) hl2)
      clear B2 hu9
      have B2 := C2
      clear C2
      clear z5_0 z5_1 z5_2 z5_3 z5_4
      go_wp2
      exact bodyPost_ret (results_cell_row rfl _ _ g2 _ _ _ _ rfl B2 Tryd.underlying37 rfl Tryd.szTok) rfl ⟨rfl, hbe⟩
  | false =>
    rw [if_neg (by decide)] at hcons
    clear hnt hkc HIW HNM
    cases q with
    | true =>
      rw [if_pos rfl] at hcons
      clear HSG HOD hsl hol hrl hzi hz0 hoi ho0
      cases V with
      | some v =>
        simp only at hcons
        rw [hcons]
        simp only
        rw [tokE_mk]
        simp only [numE_some] at HNB
        clear hcons
        go_enter Tryd.func33, Tryd.ntmps33
        go_wp2_with (with_reducible refine wpList_alloc (o := ⟨some 2, .alloc 37, _, _, _, _⟩) (by with_unfolding_all rfl) 37 (by with_unfolding_all rfl) (.agg #[.int .i64 0, .int .i64 0, .string ByteArray.empty, .int .i64 0, .int .i64 0]) [Value.int .i64 0, .int .i64 0, .string ByteArray.empty, .int .i64 0, .int .i64 0] (by exact Tryd.zeroTok) (by with_unfolding_all rfl) ?_)
        intro g2 w1 hg2 hs1 hb1 B2
        have hl2 : w.heap.size ≤ g2 := Nat.le_of_eq hg2.out.symm
        have hb1 := hb1.mono (Nat.le_of_eq hg2.out.symm)
        have hbe : Below w.heap.size w w1 := hb1
        clear hb1 hg2 hs1
        go_wp2_with fail
        (with_reducible refine (HL _).mono ?_)
        rintro e w2 ⟨rfl, hb2⟩
        have B2 := B2.next hb2 B2.lt
        have hbe := below_join hbe hb2
        clear hb2
        go_wp2_with fail
        (with_reducible refine (HD _).mono ?_)
        rintro e w3 ⟨rfl, hb3⟩
        have B2 := B2.next hb3 B2.lt
        have hbe := below_join hbe hb3
        clear hb3
        go_wp2_with fail
        (with_reducible refine (HR _).mono ?_)
        rintro e w4 ⟨rfl, hb4⟩
        have B2 := B2.next hb4 B2.lt
        have hbe := below_join hbe hb4
        clear hb4
        go_wp2_with (first | (with_reducible refine wpList_build (o := ⟨some 42, .build 37 #[(0, .const (.int .i64 3)), (2, .tmp 41)], _, _, _, _⟩) (by with_unfolding_all rfl) 37 #[(0, .const (.int .i64 3)), (2, .tmp 41)] (by with_unfolding_all rfl) #[(0, .int .i64 3), (2, .string (s.extract 0 nr))] (by with_unfolding_all rfl) (.agg #[.int .i64 3, .int .i64 0, .string (s.extract 0 nr), .int .i64 0, .int .i64 0]) (by with_unfolding_all exact fun w => (fun w => run_b02 w 3 (s.extract 0 nr)) w) ?_) | (with_reducible refine wpList_alloc (o := ⟨some 8, .alloc 37, _, _, _, _⟩) (by with_unfolding_all rfl) 37 (by with_unfolding_all rfl) (.agg #[.int .i64 0, .int .i64 0, .string ByteArray.empty, .int .i64 0, .int .i64 0]) [Value.int .i64 0, .int .i64 0, .string ByteArray.empty, .int .i64 0, .int .i64 0] (by exact Tryd.zeroTok) (by with_unfolding_all rfl) ?_))
        intro g8 w5 hg8 hs5 hb5 B8
        have hl8 : w.heap.size ≤ g8 := Nat.le_trans hbe.size (Nat.le_of_eq hg8.out.symm)
        have ne2_8 : g2 ≠ g8 := by have := B2.lt; have := hg8.out; omega
        have ne8_2 := ne2_8.symm
        have hb5 := hb5.mono (Nat.le_of_eq hg8.out.symm)
        have B2 := B2.next hb5 B2.lt
        have hbe := below_join hbe hb5
        clear hb5 hg8 hs5
        go_wp2_with (with_reducible refine wpList_put (o := ⟨none, .store 37 (.tmp 8) (.tmp 42), _, _, _, _⟩) (by with_unfolding_all rfl) 37 (.tmp 8) (.tmp 42) (by with_unfolding_all rfl) g8 0 (by with_unfolding_all rfl) (.agg #[.int .i64 3, .int .i64 0, .string (s.extract 0 nr), .int .i64 0, .int .i64 0]) (by with_unfolding_all rfl) B8 [Value.int .i64 3, .int .i64 0, .string (s.extract 0 nr), .int .i64 0, .int .i64 0] (by with_unfolding_all rfl) (by with_unfolding_all (exact Tryd.szTok)) (by with_unfolding_all (exact Nat.le_refl 5)) (by with_unfolding_all (exact tok_one _ _ _ _ _)) ?_)
        intro w6 hu6 C8
        rw [splice_all _ _ (by rfl)] at C8
        have B2 := B2.upd hu6 ne2_8
        have hbe := hbe.trans (hu6.below (B := w.heap.size) hl8)
        clear B8 hu6
        have B8 := C8
        clear C8
        have z8_2 := B8.cell (k := 2) rfl
        go_wp2_with fail
        (with_reducible refine (HNB _).mono ?_)
        rintro e w7 ⟨rfl, hb7⟩
        clear z8_2
        have B2 := B2.next hb7 B2.lt
        have B8 := B8.next hb7 B8.lt
        have hbe := below_join hbe hb7
        clear hb7
        go_wp2_with (with_reducible refine wpList_put (o := ⟨none, .store 3 (.tmp 53) (.tmp 52), _, _, _, _⟩) (by with_unfolding_all rfl) 3 (.tmp 53) (.tmp 52) (by with_unfolding_all rfl) g8 1 (by with_unfolding_all rfl) (.int .i64 (v : Int)) (by with_unfolding_all rfl) B8 [(.int .i64 (v : Int))] (by with_unfolding_all rfl) (by with_unfolding_all (exact Tryd.szInt)) (by with_unfolding_all (exact Nat.le_of_ble_eq_true rfl)) (by with_unfolding_all (exact one_cell1 rfl)) ?_)
        intro w8 hu8 C8
        have C8 : Blk w8 g8 37 [Value.int .i64 3, .int .i64 (v : Int), .string (s.extract 0 nr), .int .i64 0, .int .i64 0] := C8
        have B2 := B2.upd hu8 ne2_8
        have hbe := hbe.trans (hu8.below (B := w.heap.size) hl8)
        clear B8 hu8
        have B8 := C8
        clear C8
        have z8_0 := B8.cell (k := 0) rfl
        have z8_1 := B8.cell (k := 1) rfl
        have z8_2 := B8.cell (k := 2) rfl
        have z8_3 := B8.cell (k := 3) rfl
        have z8_4 := B8.cell (k := 4) rfl
        go_wp2_with (with_reducible refine wpList_put (o := ⟨none, .store 37 (.tmp 2) (.tmp 54), _, _, _, _⟩) (by with_unfolding_all rfl) 37 (.tmp 2) (.tmp 54) (by with_unfolding_all rfl) g2 0 (by with_unfolding_all rfl) (.agg #[.int .i64 3, .int .i64 (v : Int), .string (s.extract 0 nr), .int .i64 0, .int .i64 0]) (by with_unfolding_all rfl) B2 [Value.int .i64 3, .int .i64 (v : Int), .string (s.extract 0 nr), .int .i64 0, .int .i64 0] (by with_unfolding_all rfl) (by with_unfolding_all (exact Tryd.szTok)) (by with_unfolding_all (exact Nat.le_refl 5)) (by with_unfolding_all (exact tok_one _ _ _ _ _)) ?_)
        intro w9 hu9 C2
        rw [splice_all _ _ (by rfl)] at C2
        have B8 := B8.upd hu9 ne8_2
        have hbe := hbe.trans (hu9.below (B := w.heap.size) hl2)
        clear B2 hu9
        have B2 := C2
        clear C2
        clear z8_0 z8_1 z8_2 z8_3 z8_4
        go_wp2
        exact bodyPost_ret (results_cell_row rfl _ _ g2 _ _ _ _ rfl B2 Tryd.underlying37 rfl Tryd.szTok) rfl ⟨rfl, hbe⟩
      | none =>
        simp only at hcons
        rw [hcons]
        simp only
        rw [tokE_mk]
        simp only [numE_none] at HNB
        clear hcons
        go_enter Tryd.func33, Tryd.ntmps33
        go_wp2_with (with_reducible refine wpList_alloc (o := ⟨some 2, .alloc 37, _, _, _, _⟩) (by with_unfolding_all rfl) 37 (by with_unfolding_all rfl) (.agg #[.int .i64 0, .int .i64 0, .string ByteArray.empty, .int .i64 0, .int .i64 0]) [Value.int .i64 0, .int .i64 0, .string ByteArray.empty, .int .i64 0, .int .i64 0] (by exact Tryd.zeroTok) (by with_unfolding_all rfl) ?_)
        intro g2 w1 hg2 hs1 hb1 B2
        have hl2 : w.heap.size ≤ g2 := Nat.le_of_eq hg2.out.symm
        have hb1 := hb1.mono (Nat.le_of_eq hg2.out.symm)
        have hbe : Below w.heap.size w w1 := hb1
        clear hb1 hg2 hs1
        go_wp2_with fail
        (with_reducible refine (HL _).mono ?_)
        rintro e w2 ⟨rfl, hb2⟩
        have B2 := B2.next hb2 B2.lt
        have hbe := below_join hbe hb2
        clear hb2
        go_wp2_with fail
        (with_reducible refine (HD _).mono ?_)
        rintro e w3 ⟨rfl, hb3⟩
        have B2 := B2.next hb3 B2.lt
        have hbe := below_join hbe hb3
        clear hb3
        go_wp2_with fail
        (with_reducible refine (HR _).mono ?_)
        rintro e w4 ⟨rfl, hb4⟩
        have B2 := B2.next hb4 B2.lt
        have hbe := below_join hbe hb4
        clear hb4
        go_wp2_with (first | (with_reducible refine wpList_build (o := ⟨some 42, .build 37 #[(0, .const (.int .i64 3)), (2, .tmp 41)], _, _, _, _⟩) (by with_unfolding_all rfl) 37 #[(0, .const (.int .i64 3)), (2, .tmp 41)] (by with_unfolding_all rfl) #[(0, .int .i64 3), (2, .string (s.extract 0 nr))] (by with_unfolding_all rfl) (.agg #[.int .i64 3, .int .i64 0, .string (s.extract 0 nr), .int .i64 0, .int .i64 0]) (by with_unfolding_all exact fun w => (fun w => run_b02 w 3 (s.extract 0 nr)) w) ?_) | (with_reducible refine wpList_alloc (o := ⟨some 8, .alloc 37, _, _, _, _⟩) (by with_unfolding_all rfl) 37 (by with_unfolding_all rfl) (.agg #[.int .i64 0, .int .i64 0, .string ByteArray.empty, .int .i64 0, .int .i64 0]) [Value.int .i64 0, .int .i64 0, .string ByteArray.empty, .int .i64 0, .int .i64 0] (by exact Tryd.zeroTok) (by with_unfolding_all rfl) ?_))
        intro g8 w5 hg8 hs5 hb5 B8
        have hl8 : w.heap.size ≤ g8 := Nat.le_trans hbe.size (Nat.le_of_eq hg8.out.symm)
        have ne2_8 : g2 ≠ g8 := by have := B2.lt; have := hg8.out; omega
        have ne8_2 := ne2_8.symm
        have hb5 := hb5.mono (Nat.le_of_eq hg8.out.symm)
        have B2 := B2.next hb5 B2.lt
        have hbe := below_join hbe hb5
        clear hb5 hg8 hs5
        go_wp2_with (with_reducible refine wpList_put (o := ⟨none, .store 37 (.tmp 8) (.tmp 42), _, _, _, _⟩) (by with_unfolding_all rfl) 37 (.tmp 8) (.tmp 42) (by with_unfolding_all rfl) g8 0 (by with_unfolding_all rfl) (.agg #[.int .i64 3, .int .i64 0, .string (s.extract 0 nr), .int .i64 0, .int .i64 0]) (by with_unfolding_all rfl) B8 [Value.int .i64 3, .int .i64 0, .string (s.extract 0 nr), .int .i64 0, .int .i64 0] (by with_unfolding_all rfl) (by with_unfolding_all (exact Tryd.szTok)) (by with_unfolding_all (exact Nat.le_refl 5)) (by with_unfolding_all (exact tok_one _ _ _ _ _)) ?_)
        intro w6 hu6 C8
        rw [splice_all _ _ (by rfl)] at C8
        have B2 := B2.upd hu6 ne2_8
        have hbe := hbe.trans (hu6.below (B := w.heap.size) hl8)
        clear B8 hu6
        have B8 := C8
        clear C8
        have z8_2 := B8.cell (k := 2) rfl
        go_wp2_with fail
        (with_reducible refine (HNB _).mono ?_)
        rintro e w7 ⟨rfl, hb7⟩
        clear z8_2
        have B2 := B2.next hb7 B2.lt
        have B8 := B8.next hb7 B8.lt
        have hbe := below_join hbe hb7
        clear hb7
        go_wp2_with (with_reducible refine wpList_put (o := ⟨none, .store 3 (.tmp 51) (.const (.int .i64 5)), _, _, _, _⟩) (by with_unfolding_all rfl) 3 (.tmp 51) (.const (.int .i64 5)) (by with_unfolding_all rfl) g8 0 (by with_unfolding_all rfl) (.int .i64 5) (by with_unfolding_all rfl) B8 [.int .i64 5] (by with_unfolding_all rfl) (by with_unfolding_all (exact Tryd.szInt)) (by with_unfolding_all (exact Nat.le_of_ble_eq_true rfl)) (by with_unfolding_all (exact one_cell1 rfl)) ?_)
        intro w8 hu8 C8
        have C8 : Blk w8 g8 37 [Value.int .i64 5, .int .i64 0, .string (s.extract 0 nr), .int .i64 0, .int .i64 0] := C8
        have B2 := B2.upd hu8 ne2_8
        have hbe := hbe.trans (hu8.below (B := w.heap.size) hl8)
        clear B8 hu8
        have B8 := C8
        clear C8
        go_wp2_with (with_reducible refine wpList_put (o := ⟨none, .store 3 (.tmp 53) (.tmp 52), _, _, _, _⟩) (by with_unfolding_all rfl) 3 (.tmp 53) (.tmp 52) (by with_unfolding_all rfl) g8 1 (by with_unfolding_all rfl) (.int .i64 0) (by with_unfolding_all rfl) B8 [(.int .i64 0)] (by with_unfolding_all rfl) (by with_unfolding_all (exact Tryd.szInt)) (by with_unfolding_all (exact Nat.le_of_ble_eq_true rfl)) (by with_unfolding_all (exact one_cell1 rfl)) ?_)
        intro w9 hu9 C8
        have C8 : Blk w9 g8 37 [Value.int .i64 5, .int .i64 0, .string (s.extract 0 nr), .int .i64 0, .int .i64 0] := C8
        have B2 := B2.upd hu9 ne2_8
        have hbe := hbe.trans (hu9.below (B := w.heap.size) hl8)
        clear B8 hu9
        have B8 := C8
        clear C8
        have z8_0 := B8.cell (k := 0) rfl
        have z8_1 := B8.cell (k := 1) rfl
        have z8_2 := B8.cell (k := 2) rfl
        have z8_3 := B8.cell (k := 3) rfl
        have z8_4 := B8.cell (k := 4) rfl
        go_wp2_with (with_reducible refine wpList_put (o := ⟨none, .store 37 (.tmp 2) (.tmp 54), _, _, _, _⟩) (by with_unfolding_all rfl) 37 (.tmp 2) (.tmp 54) (by with_unfolding_all rfl) g2 0 (by with_unfolding_all rfl) (.agg #[.int .i64 5, .int .i64 0, .string (s.extract 0 nr), .int .i64 0, .int .i64 0]) (by with_unfolding_all rfl) B2 [Value.int .i64 5, .int .i64 0, .string (s.extract 0 nr), .int .i64 0, .int .i64 0] (by with_unfolding_all rfl) (by with_unfolding_all (exact Tryd.szTok)) (by with_unfolding_all (exact Nat.le_refl 5)) (by with_unfolding_all (exact tok_one _ _ _ _ _)) ?_)
        intro w10 hu10 C2
        rw [splice_all _ _ (by rfl)] at C2
        have B8 := B8.upd hu10 ne8_2
        have hbe := hbe.trans (hu10.below (B := w.heap.size) hl2)
        clear B2 hu10
        have B2 := C2
        clear C2
        clear z8_0 z8_1 z8_2 z8_3 z8_4
        go_wp2
        exact bodyPost_ret (results_cell_row rfl _ _ g2 _ _ _ _ rfl B2 Tryd.underlying37 rfl Tryd.szTok) rfl ⟨rfl, hbe⟩
    | false =>
      rw [if_neg (by decide)] at hcons
      clear HR HNB hrl hri hr0
      by_cases hzp : 0 < z
      · rw [if_pos hzp] at hcons
        rw [hcons]
        simp only
        rw [tokE_mk]
        have hzpi : (0 : Int) < (z : Int) := by omega
        clear hcons hzp HOD hsl hol hoi ho0
        go_enter Tryd.func33, Tryd.ntmps33
        go_wp2_with (with_reducible refine wpList_alloc (o := ⟨some 2, .alloc 37, _, _, _, _⟩) (by with_unfolding_all rfl) 37 (by with_unfolding_all rfl) (.agg #[.int .i64 0, .int .i64 0, .string ByteArray.empty, .int .i64 0, .int .i64 0]) [Value.int .i64 0, .int .i64 0, .string ByteArray.empty, .int .i64 0, .int .i64 0] (by exact Tryd.zeroTok) (by with_unfolding_all rfl) ?_)
        intro g2 w1 hg2 hs1 hb1 B2
        have hl2 : w.heap.size ≤ g2 := Nat.le_of_eq hg2.out.symm
        have hb1 := hb1.mono (Nat.le_of_eq hg2.out.symm)
        have hbe : Below w.heap.size w w1 := hb1
        clear hb1 hg2 hs1
        go_wp2_with fail
        (with_reducible refine (HL _).mono ?_)
        rintro e w2 ⟨rfl, hb2⟩
        have B2 := B2.next hb2 B2.lt
        have hbe := below_join hbe hb2
        clear hb2
        go_wp2_with fail
        (with_reducible refine (HD _).mono ?_)
        rintro e w3 ⟨rfl, hb3⟩
        have B2 := B2.next hb3 B2.lt
        have hbe := below_join hbe hb3
        clear hb3
        go_wp2_with fail
        (with_reducible refine (HSG _).mono ?_)
        rintro e w4 ⟨rfl, hb4⟩
        have B2 := B2.next hb4 B2.lt
        have hbe := below_join hbe hb4
        clear hb4
        go_wp2_with (first | (with_reducible refine wpList_build (o := ⟨some 62, .build 37 #[(0, .const (.int .i64 4)), (2, .tmp 61)], _, _, _, _⟩) (by with_unfolding_all rfl) 37 #[(0, .const (.int .i64 4)), (2, .tmp 61)] (by with_unfolding_all rfl) #[(0, .int .i64 4), (2, .string (s.extract 0 z))] (by with_unfolding_all rfl) (.agg #[.int .i64 4, .int .i64 0, .string (s.extract 0 z), .int .i64 0, .int .i64 0]) (by with_unfolding_all exact fun w => (fun w => run_b02 w 4 (s.extract 0 z)) w) ?_) | (with_reducible refine wpList_put (o := ⟨none, .store 37 (.tmp 2) (.tmp 62), _, _, _, _⟩) (by with_unfolding_all rfl) 37 (.tmp 2) (.tmp 62) (by with_unfolding_all rfl) g2 0 (by with_unfolding_all rfl) (.agg #[.int .i64 4, .int .i64 0, .string (s.extract 0 z), .int .i64 0, .int .i64 0]) (by with_unfolding_all rfl) B2 [Value.int .i64 4, .int .i64 0, .string (s.extract 0 z), .int .i64 0, .int .i64 0] (by with_unfolding_all rfl) (by with_unfolding_all (exact Tryd.szTok)) (by with_unfolding_all (exact Nat.le_refl 5)) (by with_unfolding_all (exact tok_one _ _ _ _ _)) ?_))
        intro w5 hu5 C2
        rw [splice_all _ _ (by rfl)] at C2
        have hbe := hbe.trans (hu5.below (B := w.heap.size) hl2)
        clear B2 hu5
        have B2 := C2
        clear C2
        go_wp2
        exact bodyPost_ret (results_cell_row rfl _ _ g2 _ _ _ _ rfl B2 Tryd.underlying37 rfl Tryd.szTok) rfl ⟨rfl, hbe⟩
      · rw [if_neg hzp] at hcons
        rw [hcons]
        simp only
        rw [tokE_mk]
        have hzpi : ¬ (0 : Int) < (z : Int) := by omega
        clear hcons hzp hsl hol
        go_enter Tryd.func33, Tryd.ntmps33
        go_wp2_with (with_reducible refine wpList_alloc (o := ⟨some 2, .alloc 37, _, _, _, _⟩) (by with_unfolding_all rfl) 37 (by with_unfolding_all rfl) (.agg #[.int .i64 0, .int .i64 0, .string ByteArray.empty, .int .i64 0, .int .i64 0]) [Value.int .i64 0, .int .i64 0, .string ByteArray.empty, .int .i64 0, .int .i64 0] (by exact Tryd.zeroTok) (by with_unfolding_all rfl) ?_)
        intro g2 w1 hg2 hs1 hb1 B2
        have hl2 : w.heap.size ≤ g2 := Nat.le_of_eq hg2.out.symm
        have hb1 := hb1.mono (Nat.le_of_eq hg2.out.symm)
        have hbe : Below w.heap.size w w1 := hb1
        clear hb1 hg2 hs1
        go_wp2_with fail
        (with_reducible refine (HL _).mono ?_)
        rintro e w2 ⟨rfl, hb2⟩
        have B2 := B2.next hb2 B2.lt
        have hbe := below_join hbe hb2
        clear hb2
        go_wp2_with fail
        (with_reducible refine (HD _).mono ?_)
        rintro e w3 ⟨rfl, hb3⟩
        have B2 := B2.next hb3 B2.lt
        have hbe := below_join hbe hb3
        clear hb3
        go_wp2_with fail
        (with_reducible refine (HSG _).mono ?_)
        rintro e w4 ⟨rfl, hb4⟩
        have B2 := B2.next hb4 B2.lt
        have hbe := below_join hbe hb4
        clear hb4
        go_wp2_with fail
        (with_reducible refine (HOD _).mono ?_)
        rintro e w5 ⟨rfl, hb5⟩
        have B2 := B2.next hb5 B2.lt
        have hbe := below_join hbe hb5
        clear hb5
        go_wp2_with (first | (with_reducible refine wpList_build (o := ⟨some 67, .build 37 #[(0, .const (.int .i64 5)), (2, .tmp 66)], _, _, _, _⟩) (by with_unfolding_all rfl) 37 #[(0, .const (.int .i64 5)), (2, .tmp 66)] (by with_unfolding_all rfl) #[(0, .int .i64 5), (2, .string (s.extract 0 no))] (by with_unfolding_all rfl) (.agg #[.int .i64 5, .int .i64 0, .string (s.extract 0 no), .int .i64 0, .int .i64 0]) (by with_unfolding_all exact fun w => (fun w => run_b02 w 5 (s.extract 0 no)) w) ?_) | (with_reducible refine wpList_put (o := ⟨none, .store 37 (.tmp 2) (.tmp 67), _, _, _, _⟩) (by with_unfolding_all rfl) 37 (.tmp 2) (.tmp 67) (by with_unfolding_all rfl) g2 0 (by with_unfolding_all rfl) (.agg #[.int .i64 5, .int .i64 0, .string (s.extract 0 no), .int .i64 0, .int .i64 0]) (by with_unfolding_all rfl) B2 [Value.int .i64 5, .int .i64 0, .string (s.extract 0 no), .int .i64 0, .int .i64 0] (by with_unfolding_all rfl) (by with_unfolding_all (exact Tryd.szTok)) (by with_unfolding_all (exact Nat.le_refl 5)) (by with_unfolding_all (exact tok_one _ _ _ _ _)) ?_))
        intro w6 hu6 C2
        rw [splice_all _ _ (by rfl)] at C2
        have hbe := hbe.trans (hu6.below (B := w.heap.size) hl2)
        clear B2 hu6
        have B2 := C2
        clear C2
        go_wp2
        exact bodyPost_ret (results_cell_row rfl _ _ g2 _ _ _ _ rfl B2 Tryd.underlying37 rfl Tryd.szTok) rfl ⟨rfl, hbe⟩
end Go.Proofs.YtlpocfojgibhjaaDoor
