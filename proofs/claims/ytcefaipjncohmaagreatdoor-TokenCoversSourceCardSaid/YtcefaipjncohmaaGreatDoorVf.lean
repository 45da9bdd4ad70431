/-
  The law TokenCoversSource. Conditions: the tables lie there.
-/
import Derived.Test.YtcefaipjncohmaaGreatDoorVi
import Derived.Test.YtcefaipjncohmaaGreatDoorQu
namespace Go.Proofs.YtcefaipjncohmaaGreatDoor
set_option linter.unusedVariables false
set_option linter.unusedSimpArgs false
open Go.RowKit Go.Shelf

theorem five_blkZ {w : World} {g : Nat} {t : TypeId} {l : List Tok} {R : List Value} (h : Blk w g t (flatT l ++ R)) {k : Nat} {x : Tok} (hx : l[k]? = some x) : w.cell? ⟨g, k * 5, none⟩ = some (.int .i64 (x.kind : Int)) ∧ w.cell? ⟨g, k * 5 + 1, none⟩ = some (.int .i64 (x.n : Int)) ∧ w.cell? ⟨g, k * 5 + 2, none⟩ = some (.string (tB x)) ∧ w.cell? ⟨g, k * 5 + 3, none⟩ = some (.int .i64 (x.line : Int)) ∧ w.cell? ⟨g, k * 5 + 4, none⟩ = some (.int .i64 (x.col : Int)) := by
  have h2 := flatT_get hx
  exact ⟨flat_mid h _ _ (h2 0 _ rfl), flat_mid h _ _ (h2 1 _ rfl), flat_mid h _ _ (h2 2 _ rfl), flat_mid h _ _ (h2 3 _ rfl), flat_mid h _ _ (h2 4 _ rfl)⟩
def CvRel (l : List UInt8) (T : List Tok) (n g3 : Nat) (L3 : List Value) (g5 : Nat) (L5 : List Value) (w : World) (a6 a7 a36 : Value) (wr : World) : Prop :=
  ∃ k ln cl : Nat, k ≤ n ∧ a36 = .int .i64 (k : Int) ∧ a6 = .int .i64 (ln : Int) ∧ a7 = .int .i64 (cl : Int) ∧ (k < n → ∃ p, PosAt l p ln cl ∧ p ≤ l.length ∧ toks (l.drop p) false 0 ln cl = T.drop k) ∧ Blk wr g3 30 L3 ∧ Blk wr g5 9 L5 ∧ Below w.heap.size w wr
/-- Where the loop over the lines stands. -/
def IvRel (ln L1 g3 : Nat) (L3 : List Value) (g5 : Nat) (L5 : List Value) (g9 : Nat) (L9 : List Value) (w : World) (a10 : Value) (wr : World) : Prop :=
  ∃ j : Nat, ln ≤ j ∧ j ≤ L1 + 1 ∧ a10 = .int .i64 (j : Int) ∧ Blk wr g3 30 L3 ∧ Blk wr g5 9 L5 ∧ Blk wr g9 30 L9 ∧ Below w.heap.size w wr
/-- What the end of the law reads. -/
theorem last_mem {s : ByteArray} (hs : s.size ≤ 2000) {T : List Tok} {n m : Nat} (hn : T.length = n) (hm : (linesL s.data.toList).length = m) {Ls : List ByteArray} (hls : Ls.map (·.data.toList) = linesL s.data.toList) (R : List Value) (h : ∃ t, T.getLast? = some t ∧ (linesL s.data.toList).length = t.line ∧ ∃ line, (linesL s.data.toList)[t.line - 1]? = some line ∧ line.length + 1 = t.col) :
    ∃ Y : ByteArray, (flatT T ++ R)[(n - 1) * 5 + 3]? = some (.int .i64 (m : Int)) ∧ (flatT T ++ R)[(n - 1) * 5 + 4]? = some (.int .i64 ((Y.size + 1 : Nat) : Int)) ∧ (Ls.map Value.string)[m - 1]? = some (.string Y) ∧ Y.size ≤ 2000 := by
  obtain ⟨t, h1, h2, line, h3, h4⟩ := h
  rw [List.getLast?_eq_getElem?, hn] at h1
  rw [hm] at h2
  obtain ⟨Y, hY1, hY2⟩ := line_at hls h3
  have hYs : Y.size = line.length := by rw [← bytes_size, hY2]
  have hb := line_len_at h3
  rw [bytes_size] at hb
  have e3 := flatT_get h1 3 _ rfl
  have e4 := flatT_get h1 4 _ rfl
  refine ⟨Y, ?_, ?_, ?_, by omega⟩
  · rw [List.getElem?_append_left (List.getElem?_eq_some_iff.1 e3).1, e3, h2]
  · rw [List.getElem?_append_left (List.getElem?_eq_some_iff.1 e4).1, e4, hYs, h4]
  · rw [h2]; exact hY1
set_option maxRecDepth 100000 in
set_option maxHeartbeats 12800000 in
theorem coversLaw_any (s : ByteArray) (w : World) (hq : QW w) :
    Calls Tryz.prog 3 #[.string s] w fun e w' => e = .returned (.bool true) ∧ Below w.heap.size w w' := by
  have HQ := Lib.hid hq
  have HS := fun w hq => sanity_any w hq
  clear hq
  by_cases h2000 : 2000 < s.size
  · have i2000 : (2000 : Int) < (s.size : Int) := by omega
    go_enter Tryz.func3, Tryz.ntmps3
    go_wp2_with fail
    (with_reducible refine (HS _ HQ.out).mono ?_)
    rintro e w1 ⟨rfl, hb1⟩
    go_wp2
    go_ret
    exact ⟨rfl, hb1⟩
  · have i2000 : ¬ (2000 : Int) < (s.size : Int) := by omega
    have hsz : s.size ≤ 2000 := by omega
    have HLEN := Lib.hid (lenS s)
    have hla := toks_len s.data.toList false 0 1 1
    rw [bytes_size] at hla
    have ha0 := toks_kindsQ s.data.toList false 0 1 1
    have hA := fun n hn h0 w hT => tokens2_any s (by omega) w hT _ rfl n hn h0
    have HSP := fun w hq => splitL_any s hsz w hq
    obtain ⟨T, hT⟩ : ∃ T, Hid (toks s.data.toList false 0 1 1 = T) := ⟨_, rfl⟩
    simp only [hT.out] at hla ha0 hA
    obtain ⟨n, hn⟩ : ∃ n, Hid (T.length = n) := ⟨_, rfl⟩
    have hn0 : 0 < n := by
      rcases Nat.eq_zero_or_pos n with h | h
      · exact absurd (List.eq_nil_of_length_eq_zero (hn.out.trans h)) ha0
      · exact h
    have HA := hA n hn.out hn0
    have hnb : n ≤ 2001 := by have := hn.out; omega
    obtain ⟨m, hm⟩ : ∃ m, Hid ((linesL s.data.toList).length = m) := ⟨_, rfl⟩
    rw [hm.out] at HSP
    have hmb : m ≤ 2001 := by
      have h1 := lines_count s.data.toList
      have h2 : s.data.toList.count 10 ≤ s.data.toList.length := List.count_le_length
      have h3 := HLEN.out
      have h4 := hm.out
      omega
    have hbe : Below w.heap.size w w := Below.refl _ _
    have hn1 : ((n : Int) == 0) = false := beq_eq_false_iff_ne.2 (by omega)
    have HLAST := Lib.hid (last_law T 0 1 1 (pos_zero s.data.toList) (Nat.zero_le _) hT.out)
    clear ha0 hla hA h2000
    go_enter Tryz.func3, Tryz.ntmps3
    go_wp2_with fail
    (with_reducible refine (HA _ (HQ.out.next hbe).tt).mono ?_)
    rintro e w2 ⟨⟨g3, c3, R3, rfl, hl3, hc3, B3⟩, hb2⟩
    have hbe := below_join hbe hb2
    clear hb2
    go_wp2_with fail
    (with_reducible refine (HSP _ (HQ.out.next hbe)).mono ?_)
    rintro e w3 ⟨⟨g5, Ls, rfl, B5, hLs, hl5⟩, hb3⟩
    have B3 := B3.next hb3 B3.lt
    have hbe := below_join hbe hb3
    clear hb3
    have HLS := Lib.hid hLs
    have H0 : Hid (CvRel s.data.toList T n g3 (flatT T ++ R3) g5 (Ls.map Value.string) w (.int .i64 1) (.int .i64 1) (.int .i64 0) w3) := (⟨0, 1, 1, Nat.zero_le _, rfl, rfl, rfl, fun _ => ⟨0, pos_zero _, Nat.zero_le _, hT.out⟩, B3, B5, hbe⟩ : CvRel s.data.toList T n g3 (flatT T ++ R3) g5 (Ls.map Value.string) w (.int .i64 1) (.int .i64 1) (.int .i64 0) w3)
    have HN0 := Lib.hid hn0
    clear B3 B5 hbe hLs hl3 hl5 hn0
    go_wp2
    go_loopw [6, 7, 36] (CvRel s.data.toList T n g3 (flatT T ++ R3) g5 (Ls.map Value.string) w) (fun _ _ i _ => n - (intOf i).toNat)
    case atStart => exact H0.out
    case round =>
      clear H0
      obtain ⟨k, ln, cl, hk, rfl, rfl, rfl, hpos, B3, B5, hbe⟩ := hrel
      by_cases hlt : k < n
      · have hki : (k : Int) < (n : Int) := by omega
        have hk0 : (0 : Int) ≤ (k : Int) := by omega
        obtain ⟨p, hp1, hp2, hp3⟩ := hpos hlt
        obtain ⟨t, ht⟩ : ∃ t, T[k]? = some t := ⟨_, List.getElem?_eq_getElem (by rw [hn.out]; exact hlt)⟩
        obtain ⟨htl, hte⟩ := List.getElem?_eq_some_iff.1 ht
        rw [List.drop_eq_getElem_cons htl, hte] at hp3
        obtain ⟨s1, s2, s3, s4, ⟨line, s5a, s5b, s5c⟩, s6, s7, s8, s9, s10, s11⟩ := step_law hp1 hp2 hp3
        have hln1 := line_ge hp1
        obtain ⟨a0, a1, a2, a3, a4⟩ := five_blkZ B3 ht
        obtain ⟨Y, hY1, hY2⟩ := line_at HLS.out s5a
        have hYs : Y.size = line.length := by rw [← bytes_size, hY2]
        have hlb : line.length ≤ 2000 := by
          have := line_len_at s5a
          rw [bytes_size] at this
          omega
        have hXs : (tB t).size = t.text.length := mk_size t.text
        have hcut : (Y.extract (t.col - 1) (t.col - 1 + t.text.length)) = tB t := ext_eq (by rw [hY2]; exact s5c)
        have hrest : (t.kind = 6 ↔ k + 1 = n) := by
          rw [s7]
          constructor
          · intro e
            have := congrArg List.length e
            rw [List.length_drop, hn.out] at this
            simp at this
            omega
          · intro e
            exact List.drop_eq_nil_of_le (by rw [hn.out]; omega)
        rw [hm.out] at s2
        obtain ⟨L1, hL1⟩ : ∃ x, t.line = x := ⟨_, rfl⟩
        obtain ⟨C1, hC1⟩ : ∃ x, t.col = x := ⟨_, rfl⟩
        obtain ⟨K, hK⟩ : ∃ x, t.kind = x := ⟨_, rfl⟩
        obtain ⟨N1, hN1⟩ : ∃ x, t.n = x := ⟨_, rfl⟩
        obtain ⟨X, hX⟩ : ∃ x, tB t = x := ⟨_, rfl⟩
        have HX0 : Hid (X.size = 0 ↔ K = 6) := by
          have h0 : (tB t).size = 0 ↔ t.kind = 6 := tB_size0.trans s6
          rw [hX, hK] at h0
          exact h0
        have h10 : (10 : UInt8) ∉ X.data.toList := by rw [← hX]; simpa [tB] using s8
        simp only [hL1, hC1, hK, hN1, hX] at a0 a1 a2 a3 a4 s1 s2 s3 s4 s5b s9 s10 s11 hXs hcut hrest hY1
        rw [← hXs] at s5b s10 hcut
        rw [← hYs] at s5b
        obtain ⟨L1m, hLm⟩ : ∃ x, L1 - 1 = x := ⟨_, rfl⟩
        obtain ⟨C1m, hCm⟩ : ∃ x, C1 - 1 = x := ⟨_, rfl⟩
        obtain ⟨CX, hCX⟩ : ∃ x, C1m + X.size = x := ⟨_, rfl⟩
        rw [hLm] at hY1
        rw [hCm, hCX] at s5b
        have q1 : ¬ (L1 : Int) < (ln : Int) := by omega
        have q2 : ¬ (m : Int) < (L1 : Int) := by omega
        have q3 : ¬ (C1 : Int) < 1 := by omega
        have q4 : (L1 : Int) - 1 = (L1m : Int) := by omega
        have q5 : (C1 : Int) - 1 = (C1m : Int) := by omega
        have q6 : (C1m : Int) + (X.size : Int) = (CX : Int) := by omega
        have q7 : ¬ (Y.size : Int) < (CX : Int) := by omega
        have q8 : (n : Int) - 1 = ((n - 1 : Nat) : Int) := by omega
        obtain ⟨n1, hn1e⟩ : ∃ x, n - 1 = x := ⟨_, rfl⟩
        rw [hn1e] at q8
        have w4 := wrap_small (x := L1m) (by omega)
        have w5 := wrap_small (x := C1m) (by omega)
        have w6 := wrap_small (x := CX) (by omega)
        have w8 := wrap_small (x := n1) (by omega)
        have r1 : (0 : Int) ≤ (L1m : Int) := by omega
        have r2 : (L1m : Int) < (m : Int) := by omega
        have D1 : Hid (decide (L1 < ln) = false) := (decide_eq_false (by omega) : decide (L1 < ln) = false)
        have D2 : Hid (decide (m < L1) = false) := (decide_eq_false (by omega) : decide (m < L1) = false)
        have D3 : Hid (decide (C1 < 1) = false) := (decide_eq_false (by omega) : decide (C1 < 1) = false)
        have D3i : Hid (decide ((C1 : Int) < 1) = false) := (decide_eq_false (by omega) : decide ((C1 : Int) < 1) = false)
        have D4 : Hid (decide (C1 = 0) = false) := (decide_eq_false (by omega) : decide (C1 = 0) = false)
        have D7 : Hid (decide (Y.size < CX) = false) := (decide_eq_false (by omega) : decide (Y.size < CX) = false)
        have HY := Lib.hid hY1
        have HREST := Lib.hid hrest
        have HCUT := Lib.hid hcut
        obtain ⟨C2, hC2⟩ : ∃ x, C1 + X.size = x := ⟨_, rfl⟩
        have q9 : (C1 : Int) + (X.size : Int) = (C2 : Int) := by omega
        have w9 := wrap_small (x := C2) (by omega)
        rw [hC2] at s10
        have HS10 := Lib.hid s10
        obtain ⟨kb, hkb⟩ : ∃ kb, decide (K = 6) = kb := ⟨_, rfl⟩
        rw [hkb] at s9
        have HSEG : Hid (∀ j, ln ≤ j → j ≤ L1 → ∃ Y a b, SegMem Ls m ln cl L1 C1 j kb Y a b) := (fun j h1 h2 => seg_mem hsz HLS.out hm.out hln1.1 h1 (s9 j h1 h2) : ∀ j, ln ≤ j → j ≤ L1 → ∃ Y a b, SegMem Ls m ln cl L1 C1 j kb Y a b)
        have k6 : ((K : Int) == 6) = kb := by
          rw [← hkb, Bool.eq_iff_iff, beq_iff_eq, decide_eq_true_eq]
          omega
        have t2 : X.toList.isEmpty = kb := by
          rcases Nat.eq_zero_or_pos X.size with h | h
          · rw [isEmpty_nil h, ← hkb, decide_eq_true (HX0.out.1 h)]
          · rw [isEmpty_ne h, ← hkb, decide_eq_false (fun e => by have := HX0.out.2 e; omega)]
        have t1 : (X.toList = []) = (kb = true) := by
          rw [← t2, List.isEmpty_iff]
        have t3 : ((k : Int) == (n1 : Int)) = kb := by
          rw [← hkb, Bool.eq_iff_iff, beq_iff_eq, decide_eq_true_eq, HREST.out]
          omega
        have H10 := Lib.hid h10
        have HS3 := Lib.hid s3
        have HLE : Hid (1 ≤ ln ∧ 1 ≤ cl ∧ ln ≤ L1 ∧ 1 ≤ C1) := (⟨hln1.1, hln1.2, s1, s4⟩ : 1 ≤ ln ∧ 1 ≤ cl ∧ ln ≤ L1 ∧ 1 ≤ C1)
        have HCm := Lib.hid hCm
        have HCX := Lib.hid hCX
        clear s1 s2 s3 s4 s5a s5b s5c s6 s7 s8 s9 s10 s11 hXs hcut hrest hY1 hY2 hYs hL1 hC1 hK hN1 hX h10 hkb hC2 hp1 hp2 hp3 ht htl hte hpos
        go_wp2_with (with_reducible refine wpList_alloc (o := ⟨some 9, .alloc 30, _, _, _, _⟩) (by with_unfolding_all rfl) 30 (by with_unfolding_all rfl) (.agg #[.int .i64 0, .int .i64 0, .string ByteArray.empty, .int .i64 0, .int .i64 0]) [Value.int .i64 0, .int .i64 0, .string ByteArray.empty, .int .i64 0, .int .i64 0] (by exact Tryz.zeroTok) (by with_unfolding_all rfl) ?_)
        intro g9 w11 hg9 hs11 hb11 B9
        have hl9 : w.heap.size ≤ g9 := Nat.le_trans hbe.size (Nat.le_of_eq hg9.out.symm)
        have ne3_9 : g3 ≠ g9 := by have := B3.lt; have := hg9.out; omega
        have ne9_3 := ne3_9.symm
        have ne5_9 : g5 ≠ g9 := by have := B5.lt; have := hg9.out; omega
        have ne9_5 := ne5_9.symm
        have hb11 := hb11.mono (Nat.le_of_eq hg9.out.symm)
        have B3 := B3.next hb11 B3.lt
        have B5 := B5.next hb11 B5.lt
        have hbe := below_join hbe hb11
        clear hb11 hg9 hs11
        go_wp2_with (with_reducible refine wpList_put (o := ⟨none, .store 30 (.tmp 9) (.tmp 40), _, _, _, _⟩) (by with_unfolding_all rfl) 30 (.tmp 9) (.tmp 40) (by with_unfolding_all rfl) g9 0 (by with_unfolding_all rfl) (.agg #[.int .i64 (K : Int), .int .i64 (N1 : Int), .string X, .int .i64 (L1 : Int), .int .i64 (C1 : Int)]) (by with_unfolding_all rfl) B9 [Value.int .i64 (K : Int), .int .i64 (N1 : Int), .string X, .int .i64 (L1 : Int), .int .i64 (C1 : Int)] (by with_unfolding_all rfl) (by with_unfolding_all (exact Tryz.szTok)) (by with_unfolding_all (exact Nat.le_refl 5)) (by with_unfolding_all (exact tok_one _ _ _ _ _)) ?_)
        intro w12 hu12 C9
        rw [splice_all _ _ (by rfl)] at C9
        have B3 := B3.upd hu12 ne3_9
        have B5 := B5.upd hu12 ne5_9
        have hbe := hbe.trans (hu12.below (B := w.heap.size) hl9)
        clear B9 hu12
        have B9 := C9
        clear C9
        clear a0 a1 a2 a3 a4
        by_cases hE : L1 = ln
        · as_aux_lemma =>
            have e1 : ((L1 : Int) == (ln : Int)) = true := by rw [hE]; exact beq_self_eq_true _
            have e2 : ¬ (C1 : Int) < (cl : Int) := by have := HS3.out hE; omega
            have D5 : Hid (decide (C1 < cl) = false) := (decide_eq_false (by have := HS3.out hE; omega) : decide (C1 < cl) = false)
            have HE := Lib.hid hE
            clear hE
            go_wp2
            have hdd := below_drew w12
            have B3 := B3.next hdd B3.lt
            have B5 := B5.next hdd B5.lt
            have B9 := B9.next hdd B9.lt
            have hbe := below_join hbe hdd
            refine wp_region_held_drew (S := fun w' => w'.cell? ⟨g9, 3, none⟩ = some (.int .i64 (L1 : Int)) ∧ w'.cell? ⟨g9, 4, none⟩ = some (.int .i64 (C1 : Int)) ∧ w'.cell? ⟨g9, 2, none⟩ = some (.string X) ∧ w'.cell? ⟨g5, L1m, none⟩ = some (.string Y) ∧ w'.cell? ⟨g9, 0, none⟩ = some (.int .i64 (K : Int))) (by kernel_rfl) ⟨B9.cell (k := 3) rfl, B9.cell (k := 4) rfl, B9.cell (k := 2) rfl, B5.cell (k := L1m) HY.out, B9.cell (k := 0) rfl⟩ (fun hHeld => ?_)
            clear hdd
            generalize w12.drew = w13 at B3 B5 B9 hbe hHeld  ⊢
            have d1 := D1.out
            have d2 := D2.out
            have d3 := D3.out
            have d3i := D3i.out
            have d4 := D4.out
            have d7 := D7.out
            have d5 := D5.out
            refine wpAnyH_take (i := 0) (v := ?vqaa0) rfl (by kernel_rfl) (by kernel_rfl) (by kernel_rfl) (fun _ _ _ h => h) (Or.inl ⟨by rfl, ?yqaa0⟩) (by assumption) ?rqaa0
            case yqaa0 => intro w hSw; (try dsimp only at hSw); go_simp <;> (try with_reducible rfl)
            (try simp only [List.getElem_toArray, List.getElem_cons_zero, Act.put, List.setIfInBounds_toArray, List.set_cons_zero, List.set_cons_succ])
            refine wpAnyH_take (i := 1) (v := ?vqaa1) rfl (by kernel_rfl) (by kernel_rfl) (by kernel_rfl) (fun _ _ _ h => h) (Or.inl ⟨by rfl, ?yqaa1⟩) (by assumption) ?rqaa1
            case yqaa1 => intro w hSw; have hSc := hSw.1; go_simp <;> (try with_reducible rfl)
            (try simp only [List.getElem_toArray, List.getElem_cons_succ, List.getElem_cons_zero, Act.put, List.setIfInBounds_toArray, List.set_cons_zero, List.set_cons_succ])
            refine wpAnyH_take (i := 2) (v := ?vqaa2) rfl (by kernel_rfl) (by kernel_rfl) (by kernel_rfl) (fun _ _ _ h => h) (Or.inl ⟨by rfl, ?yqaa2⟩) (by assumption) ?rqaa2
            case yqaa2 => intro w hSw; (try dsimp only at hSw); go_simp <;> (try with_reducible rfl)
            (try simp only [List.getElem_toArray, List.getElem_cons_succ, List.getElem_cons_zero, Act.put, List.setIfInBounds_toArray, List.set_cons_zero, List.set_cons_succ])
            refine wpAnyH_take (i := 3) (v := ?vqaa3) rfl (by kernel_rfl) (by kernel_rfl) (by kernel_rfl) (fun _ _ _ h => h) (Or.inl ⟨by rfl, ?yqaa3⟩) (by assumption) ?rqaa3
            case yqaa3 => intro w hSw; (try dsimp only at hSw); go_simp <;> (try with_reducible rfl)
            (try simp only [List.getElem_toArray, List.getElem_cons_succ, List.getElem_cons_zero, Act.put, List.setIfInBounds_toArray, List.set_cons_zero, List.set_cons_succ])
            refine wpAnyH_take (i := 4) (v := ?vqaa4) rfl (by kernel_rfl) (by kernel_rfl) (by kernel_rfl) (fun _ _ _ h => h) (Or.inl ⟨by rfl, ?yqaa4⟩) (by assumption) ?rqaa4
            case yqaa4 => intro w hSw; (try dsimp only at hSw); go_simp <;> (try with_reducible rfl)
            (try simp only [List.getElem_toArray, List.getElem_cons_succ, List.getElem_cons_zero, Act.put, List.setIfInBounds_toArray, List.set_cons_zero, List.set_cons_succ])
            refine wpAnyH_take (i := 5) (v := ?vqaa5) rfl (by kernel_rfl) (by kernel_rfl) (by kernel_rfl) (fun _ _ _ h => h) (Or.inl ⟨by rfl, ?yqaa5⟩) (by assumption) ?rqaa5
            case yqaa5 => intro w hSw; (try dsimp only at hSw); go_simp <;> (try with_reducible rfl)
            (try simp only [List.getElem_toArray, List.getElem_cons_succ, List.getElem_cons_zero, Act.put, List.setIfInBounds_toArray, List.set_cons_zero, List.set_cons_succ])
            refine wpAnyH_take (i := 6) (v := ?vqaa6) rfl (by kernel_rfl) (by kernel_rfl) (by kernel_rfl) (fun _ _ _ h => h) (Or.inl ⟨by rfl, ?yqaa6⟩) (by assumption) ?rqaa6
            case yqaa6 => intro w hSw; have hSc := hSw.1; go_simp <;> (try with_reducible rfl)
            (try simp only [List.getElem_toArray, List.getElem_cons_succ, List.getElem_cons_zero, Act.put, List.setIfInBounds_toArray, List.set_cons_zero, List.set_cons_succ])
            refine wpAnyH_take (i := 7) (v := ?vqaa7) rfl (by kernel_rfl) (by kernel_rfl) (by kernel_rfl) (fun _ _ _ h => h) (Or.inl ⟨by rfl, ?yqaa7⟩) (by assumption) ?rqaa7
            case yqaa7 => intro w hSw; (try dsimp only at hSw); go_simp <;> (try with_reducible rfl)
            (try simp only [List.getElem_toArray, List.getElem_cons_succ, List.getElem_cons_zero, Act.put, List.setIfInBounds_toArray, List.set_cons_zero, List.set_cons_succ])
            refine wpAnyH_take (i := 8) (v := ?vqaa8) rfl (by kernel_rfl) (by kernel_rfl) (by kernel_rfl) (fun _ _ _ h => h) (Or.inl ⟨by rfl, ?yqaa8⟩) (by assumption) ?rqaa8
            case yqaa8 => intro w hSw; (try dsimp only at hSw); go_simp <;> (try with_reducible rfl)
            (try simp only [List.getElem_toArray, List.getElem_cons_succ, List.getElem_cons_zero, Act.put, List.setIfInBounds_toArray, List.set_cons_zero, List.set_cons_succ])
            refine wpAnyH_take (i := 9) (v := ?vqaa9) rfl (by kernel_rfl) (by kernel_rfl) (by kernel_rfl) (fun _ _ _ h => h) (Or.inl ⟨by rfl, ?yqaa9⟩) (by assumption) ?rqaa9
            case yqaa9 => intro w hSw; (try dsimp only at hSw); go_simp <;> (try with_reducible rfl)
            (try simp only [List.getElem_toArray, List.getElem_cons_succ, List.getElem_cons_zero, Act.put, List.setIfInBounds_toArray, List.set_cons_zero, List.set_cons_succ])
            refine wpAnyH_take (i := 10) (v := ?vqaa10) rfl (by kernel_rfl) (by kernel_rfl) (by kernel_rfl) (fun _ _ _ h => h) (Or.inl ⟨by rfl, ?yqaa10⟩) (by assumption) ?rqaa10
            case yqaa10 => intro w hSw; (try dsimp only at hSw); go_simp <;> (try with_reducible rfl)
            (try simp only [List.getElem_toArray, List.getElem_cons_succ, List.getElem_cons_zero, Act.put, List.setIfInBounds_toArray, List.set_cons_zero, List.set_cons_succ])
            refine wpAnyH_take (i := 11) (v := ?vqaa11) rfl (by kernel_rfl) (by kernel_rfl) (by kernel_rfl) (fun _ _ _ h => h) (Or.inl ⟨by rfl, ?yqaa11⟩) (by assumption) ?rqaa11
            case yqaa11 => intro w hSw; (try dsimp only at hSw); go_simp <;> (try with_reducible rfl)
            (try simp only [List.getElem_toArray, List.getElem_cons_succ, List.getElem_cons_zero, Act.put, List.setIfInBounds_toArray, List.set_cons_zero, List.set_cons_succ])
            refine wpAnyH_take (i := 12) (v := ?vqaa12) rfl (by kernel_rfl) (by kernel_rfl) (by kernel_rfl) (fun _ _ _ h => h) (Or.inl ⟨by rfl, ?yqaa12⟩) (by assumption) ?rqaa12
            case yqaa12 => intro w hSw; (try dsimp only at hSw); go_simp <;> (try with_reducible rfl)
            (try simp only [List.getElem_toArray, List.getElem_cons_succ, List.getElem_cons_zero, Act.put, List.setIfInBounds_toArray, List.set_cons_zero, List.set_cons_succ])
            refine wpAnyH_take (i := 13) (v := ?vqaa13) rfl (by kernel_rfl) (by kernel_rfl) (by kernel_rfl) (fun _ _ _ h => h) (Or.inl ⟨by rfl, ?yqaa13⟩) (by assumption) ?rqaa13
            case yqaa13 => intro w hSw; have hSc := hSw.1; go_simp <;> (try with_reducible rfl)
            (try simp only [List.getElem_toArray, List.getElem_cons_succ, List.getElem_cons_zero, Act.put, List.setIfInBounds_toArray, List.set_cons_zero, List.set_cons_succ])
            refine wpAnyH_take (i := 14) (v := ?vqaa14) rfl (by kernel_rfl) (by kernel_rfl) (by kernel_rfl) (fun _ _ _ h => h) (Or.inl ⟨by rfl, ?yqaa14⟩) (by assumption) ?rqaa14
            case yqaa14 => intro w hSw; (try dsimp only at hSw); go_simp <;> (try with_reducible rfl)
            (try simp only [List.getElem_toArray, List.getElem_cons_succ, List.getElem_cons_zero, Act.put, List.setIfInBounds_toArray, List.set_cons_zero, List.set_cons_succ])
            refine wpAnyH_take (i := 15) (v := ?vqaa15) rfl (by kernel_rfl) (by kernel_rfl) (by kernel_rfl) (fun _ _ _ h => h) (Or.inl ⟨by rfl, ?yqaa15⟩) (by assumption) ?rqaa15
            case yqaa15 => intro w hSw; (try dsimp only at hSw); go_simp <;> (try with_reducible rfl)
            (try simp only [List.getElem_toArray, List.getElem_cons_succ, List.getElem_cons_zero, Act.put, List.setIfInBounds_toArray, List.set_cons_zero, List.set_cons_succ])
            refine wpAnyH_take (i := 16) (v := ?vqaa16) rfl (by kernel_rfl) (by kernel_rfl) (by kernel_rfl) (fun _ _ _ h => h) (Or.inl ⟨by rfl, ?yqaa16⟩) (by assumption) ?rqaa16
            case yqaa16 => intro w hSw; (try dsimp only at hSw); go_simp <;> (try with_reducible rfl)
            (try simp only [List.getElem_toArray, List.getElem_cons_succ, List.getElem_cons_zero, Act.put, List.setIfInBounds_toArray, List.set_cons_zero, List.set_cons_succ])
            refine wpAnyH_take (i := 17) (v := ?vqaa17) rfl (by kernel_rfl) (by kernel_rfl) (by kernel_rfl) (fun _ _ _ h => h) (Or.inl ⟨by rfl, ?yqaa17⟩) (by assumption) ?rqaa17
            case yqaa17 => intro w hSw; (try dsimp only at hSw); go_simp <;> (try with_reducible rfl)
            (try simp only [List.getElem_toArray, List.getElem_cons_succ, List.getElem_cons_zero, Act.put, List.setIfInBounds_toArray, List.set_cons_zero, List.set_cons_succ])
            refine wpAnyH_take (i := 18) (v := ?vqaa18) rfl (by kernel_rfl) (by kernel_rfl) (by kernel_rfl) (fun _ _ _ h => h) (Or.inl ⟨by rfl, ?yqaa18⟩) (by assumption) ?rqaa18
            case yqaa18 => intro w hSw; have hSc := hSw.2.1; go_simp <;> (try with_reducible rfl)
            (try simp only [List.getElem_toArray, List.getElem_cons_succ, List.getElem_cons_zero, Act.put, List.setIfInBounds_toArray, List.set_cons_zero, List.set_cons_succ])
            refine wpAnyH_take (i := 19) (v := ?vqaa19) rfl (by kernel_rfl) (by kernel_rfl) (by kernel_rfl) (fun _ _ _ h => h) (Or.inl ⟨by rfl, ?yqaa19⟩) (by assumption) ?rqaa19
            case yqaa19 => intro w hSw; (try dsimp only at hSw); go_simp <;> (try with_reducible rfl)
            (try simp only [List.getElem_toArray, List.getElem_cons_succ, List.getElem_cons_zero, Act.put, List.setIfInBounds_toArray, List.set_cons_zero, List.set_cons_succ])
            refine wpAnyH_take (i := 20) (v := ?vqaa20) rfl (by kernel_rfl) (by kernel_rfl) (by kernel_rfl) (fun _ _ _ h => h) (Or.inl ⟨by rfl, ?yqaa20⟩) (by assumption) ?rqaa20
            case yqaa20 => intro w hSw; (try dsimp only at hSw); go_simp <;> (try with_reducible rfl)
            (try simp only [List.getElem_toArray, List.getElem_cons_succ, List.getElem_cons_zero, Act.put, List.setIfInBounds_toArray, List.set_cons_zero, List.set_cons_succ])
            refine wpAnyH_take (i := 21) (v := ?vqaa21) rfl (by kernel_rfl) (by kernel_rfl) (by kernel_rfl) (fun _ _ _ h => h) (Or.inl ⟨by rfl, ?yqaa21⟩) (by assumption) ?rqaa21
            case yqaa21 => intro w hSw; (try dsimp only at hSw); go_simp <;> (try with_reducible rfl)
            (try simp only [List.getElem_toArray, List.getElem_cons_succ, List.getElem_cons_zero, Act.put, List.setIfInBounds_toArray, List.set_cons_zero, List.set_cons_succ])
            refine wpAnyH_take (i := 22) (v := ?vqaa22) rfl (by kernel_rfl) (by kernel_rfl) (by kernel_rfl) (fun _ _ _ h => h) (Or.inl ⟨by rfl, ?yqaa22⟩) (by assumption) ?rqaa22
            case yqaa22 => intro w hSw; (try dsimp only at hSw); go_simp <;> (try with_reducible rfl)
            (try simp only [List.getElem_toArray, List.getElem_cons_succ, List.getElem_cons_zero, Act.put, List.setIfInBounds_toArray, List.set_cons_zero, List.set_cons_succ])
            refine wpAnyH_take (i := 23) (v := ?vqaa23) rfl (by kernel_rfl) (by kernel_rfl) (by kernel_rfl) (fun _ _ _ h => h) (Or.inl ⟨by rfl, ?yqaa23⟩) (by assumption) ?rqaa23
            case yqaa23 => intro w hSw; (try dsimp only at hSw); go_simp <;> (try with_reducible rfl)
            (try simp only [List.getElem_toArray, List.getElem_cons_succ, List.getElem_cons_zero, Act.put, List.setIfInBounds_toArray, List.set_cons_zero, List.set_cons_succ])
            refine wpAnyH_take (i := 24) (v := ?vqaa24) rfl (by kernel_rfl) (by kernel_rfl) (by kernel_rfl) (fun _ _ _ h => h) (Or.inl ⟨by rfl, ?yqaa24⟩) (by assumption) ?rqaa24
            case yqaa24 => intro w hSw; (try dsimp only at hSw); go_simp <;> (try with_reducible rfl)
            (try simp only [List.getElem_toArray, List.getElem_cons_succ, List.getElem_cons_zero, Act.put, List.setIfInBounds_toArray, List.set_cons_zero, List.set_cons_succ])
            refine wpAnyH_take (i := 25) (v := ?vqaa25) rfl (by kernel_rfl) (by kernel_rfl) (by kernel_rfl) (fun _ _ _ h => h) (Or.inl ⟨by rfl, ?yqaa25⟩) (by assumption) ?rqaa25
            case yqaa25 => intro w hSw; have hSc := hSw.2.1; go_simp <;> (try with_reducible rfl)
            (try simp only [List.getElem_toArray, List.getElem_cons_succ, List.getElem_cons_zero, Act.put, List.setIfInBounds_toArray, List.set_cons_zero, List.set_cons_succ])
            refine wpAnyH_take (i := 26) (v := ?vqaa26) rfl (by kernel_rfl) (by kernel_rfl) (by kernel_rfl) (fun _ _ _ h => h) (Or.inl ⟨by rfl, ?yqaa26⟩) (by assumption) ?rqaa26
            case yqaa26 => intro w hSw; (try dsimp only at hSw); go_simp <;> (try with_reducible rfl)
            (try simp only [List.getElem_toArray, List.getElem_cons_succ, List.getElem_cons_zero, Act.put, List.setIfInBounds_toArray, List.set_cons_zero, List.set_cons_succ])
            refine wpAnyH_take (i := 27) (v := ?vqaa27) rfl (by kernel_rfl) (by kernel_rfl) (by kernel_rfl) (fun _ _ _ h => h) (Or.inl ⟨by rfl, ?yqaa27⟩) (by assumption) ?rqaa27
            case yqaa27 => intro w hSw; (try dsimp only at hSw); go_simp <;> (try with_reducible rfl)
            (try simp only [List.getElem_toArray, List.getElem_cons_succ, List.getElem_cons_zero, Act.put, List.setIfInBounds_toArray, List.set_cons_zero, List.set_cons_succ])
            refine wpAnyH_take (i := 28) (v := ?vqaa28) rfl (by kernel_rfl) (by kernel_rfl) (by kernel_rfl) (fun _ _ _ h => h) (Or.inl ⟨by rfl, ?yqaa28⟩) (by assumption) ?rqaa28
            case yqaa28 => intro w hSw; (try dsimp only at hSw); go_simp <;> (try with_reducible rfl)
            (try simp only [List.getElem_toArray, List.getElem_cons_succ, List.getElem_cons_zero, Act.put, List.setIfInBounds_toArray, List.set_cons_zero, List.set_cons_succ])
            refine wpAnyH_take (i := 29) (v := ?vqaa29) rfl (by kernel_rfl) (by kernel_rfl) (by kernel_rfl) (fun _ _ _ h => h) (Or.inl ⟨by rfl, ?yqaa29⟩) (by assumption) ?rqaa29
            case yqaa29 => intro w hSw; (try dsimp only at hSw); go_simp <;> (try with_reducible rfl)
            (try simp only [List.getElem_toArray, List.getElem_cons_succ, List.getElem_cons_zero, Act.put, List.setIfInBounds_toArray, List.set_cons_zero, List.set_cons_succ])
            refine wpAnyH_take (i := 30) (v := ?vqaa30) rfl (by kernel_rfl) (by kernel_rfl) (by kernel_rfl) (fun _ _ _ h => h) (Or.inl ⟨by rfl, ?yqaa30⟩) (by assumption) ?rqaa30
            case yqaa30 => intro w hSw; have hSc := hSw.2.1; go_simp <;> (try with_reducible rfl)
            (try simp only [List.getElem_toArray, List.getElem_cons_succ, List.getElem_cons_zero, Act.put, List.setIfInBounds_toArray, List.set_cons_zero, List.set_cons_succ])
            refine wpAnyH_take (i := 31) (v := ?vqaa31) rfl (by kernel_rfl) (by kernel_rfl) (by kernel_rfl) (fun _ _ _ h => h) (Or.inl ⟨by rfl, ?yqaa31⟩) (by assumption) ?rqaa31
            case yqaa31 => intro w hSw; (try dsimp only at hSw); go_simp <;> (try with_reducible rfl)
            (try simp only [List.getElem_toArray, List.getElem_cons_succ, List.getElem_cons_zero, Act.put, List.setIfInBounds_toArray, List.set_cons_zero, List.set_cons_succ])
            refine wpAnyH_take (i := 32) (v := ?vqaa32) rfl (by kernel_rfl) (by kernel_rfl) (by kernel_rfl) (fun _ _ _ h => h) (Or.inl ⟨by rfl, ?yqaa32⟩) (by assumption) ?rqaa32
            case yqaa32 => intro w hSw; (try dsimp only at hSw); go_simp <;> (try with_reducible rfl)
            (try simp only [List.getElem_toArray, List.getElem_cons_succ, List.getElem_cons_zero, Act.put, List.setIfInBounds_toArray, List.set_cons_zero, List.set_cons_succ])
            refine wpAnyH_take (i := 33) (v := ?vqaa33) rfl (by kernel_rfl) (by kernel_rfl) (by kernel_rfl) (fun _ _ _ h => h) (Or.inl ⟨by rfl, ?yqaa33⟩) (by assumption) ?rqaa33
            case yqaa33 => intro w hSw; have hSc := hSw.2.2.1; go_simp <;> (try with_reducible rfl)
            (try simp only [List.getElem_toArray, List.getElem_cons_succ, List.getElem_cons_zero, Act.put, List.setIfInBounds_toArray, List.set_cons_zero, List.set_cons_succ])
            refine wpAnyH_take (i := 34) (v := ?vqaa34) rfl (by kernel_rfl) (by kernel_rfl) (by kernel_rfl) (fun _ _ _ h => h) (Or.inl ⟨by rfl, ?yqaa34⟩) (by assumption) ?rqaa34
            case yqaa34 => intro w hSw; (try dsimp only at hSw); go_simp <;> (try with_reducible rfl)
            (try simp only [List.getElem_toArray, List.getElem_cons_succ, List.getElem_cons_zero, Act.put, List.setIfInBounds_toArray, List.set_cons_zero, List.set_cons_succ])
            refine wpAnyH_take (i := 35) (v := ?vqaa35) rfl (by kernel_rfl) (by kernel_rfl) (by kernel_rfl) (fun _ _ _ h => h) (Or.inl ⟨by rfl, ?yqaa35⟩) (by assumption) ?rqaa35
            case yqaa35 => intro w hSw; (try dsimp only at hSw); go_simp <;> (try with_reducible rfl)
            (try simp only [List.getElem_toArray, List.getElem_cons_succ, List.getElem_cons_zero, Act.put, List.setIfInBounds_toArray, List.set_cons_zero, List.set_cons_succ])
            refine wpAnyH_take (i := 36) (v := ?vqaa36) rfl (by kernel_rfl) (by kernel_rfl) (by kernel_rfl) (fun _ _ _ h => h) (Or.inl ⟨by rfl, ?yqaa36⟩) (by assumption) ?rqaa36
            case yqaa36 => intro w hSw; (try dsimp only at hSw); go_simp <;> (try with_reducible rfl)
            (try simp only [List.getElem_toArray, List.getElem_cons_succ, List.getElem_cons_zero, Act.put, List.setIfInBounds_toArray, List.set_cons_zero, List.set_cons_succ])
            refine wpAnyH_take (i := 37) (v := ?vqaa37) rfl (by kernel_rfl) (by kernel_rfl) (by kernel_rfl) (fun _ _ _ h => h) (Or.inl ⟨by rfl, ?yqaa37⟩) (by assumption) ?rqaa37
            case yqaa37 => intro w hSw; (try dsimp only at hSw); go_simp <;> (try with_reducible rfl)
            (try simp only [List.getElem_toArray, List.getElem_cons_succ, List.getElem_cons_zero, Act.put, List.setIfInBounds_toArray, List.set_cons_zero, List.set_cons_succ])
            refine wpAnyH_take (i := 38) (v := ?vqaa38) rfl (by kernel_rfl) (by kernel_rfl) (by kernel_rfl) (fun _ _ _ h => h) (Or.inl ⟨by rfl, ?yqaa38⟩) (by assumption) ?rqaa38
            case yqaa38 => intro w hSw; have hSc := hSw.1; go_simp <;> (try with_reducible rfl)
            (try simp only [List.getElem_toArray, List.getElem_cons_succ, List.getElem_cons_zero, Act.put, List.setIfInBounds_toArray, List.set_cons_zero, List.set_cons_succ])
            refine wpAnyH_take (i := 39) (v := ?vqaa39) rfl (by kernel_rfl) (by kernel_rfl) (by kernel_rfl) (fun _ _ _ h => h) (Or.inl ⟨by rfl, ?yqaa39⟩) (by assumption) ?rqaa39
            case yqaa39 => intro w hSw; (try dsimp only at hSw); go_simp <;> (try with_reducible rfl)
            (try simp only [List.getElem_toArray, List.getElem_cons_succ, List.getElem_cons_zero, Act.put, List.setIfInBounds_toArray, List.set_cons_zero, List.set_cons_succ])
            refine wpAnyH_take (i := 40) (v := ?vqaa40) rfl (by kernel_rfl) (by kernel_rfl) (by kernel_rfl) (fun _ _ _ h => h) (Or.inl ⟨by rfl, ?yqaa40⟩) (by assumption) ?rqaa40
            case yqaa40 => intro w hSw; (try dsimp only at hSw); go_simp <;> (try with_reducible rfl)
            (try simp only [List.getElem_toArray, List.getElem_cons_succ, List.getElem_cons_zero, Act.put, List.setIfInBounds_toArray, List.set_cons_zero, List.set_cons_succ])
            refine wpAnyH_take (i := 41) (v := ?vqaa41) rfl (by kernel_rfl) (by kernel_rfl) (by kernel_rfl) (fun _ _ _ h => h) (Or.inl ⟨by rfl, ?yqaa41⟩) (by assumption) ?rqaa41
            case yqaa41 => intro w hSw; have hSc := hSw.2.2.2.1; go_simp <;> (try with_reducible rfl)
            (try simp only [List.getElem_toArray, List.getElem_cons_succ, List.getElem_cons_zero, Act.put, List.setIfInBounds_toArray, List.set_cons_zero, List.set_cons_succ])
            refine wpAnyH_take (i := 42) (v := ?vqaa42) rfl (by kernel_rfl) (by kernel_rfl) (by kernel_rfl) (fun _ _ _ h => h) (Or.inl ⟨by rfl, ?yqaa42⟩) (by assumption) ?rqaa42
            case yqaa42 => intro w hSw; (try dsimp only at hSw); go_simp <;> (try with_reducible rfl)
            (try simp only [List.getElem_toArray, List.getElem_cons_succ, List.getElem_cons_zero, Act.put, List.setIfInBounds_toArray, List.set_cons_zero, List.set_cons_succ])
            refine wpAnyH_take (i := 43) (v := ?vqaa43) rfl (by kernel_rfl) (by kernel_rfl) (by kernel_rfl) (fun _ _ _ h => h) (Or.inl ⟨by rfl, ?yqaa43⟩) (by assumption) ?rqaa43
            case yqaa43 => intro w hSw; (try dsimp only at hSw); go_simp <;> (try with_reducible rfl)
            (try simp only [List.getElem_toArray, List.getElem_cons_succ, List.getElem_cons_zero, Act.put, List.setIfInBounds_toArray, List.set_cons_zero, List.set_cons_succ])
            refine wpAnyH_take (i := 44) (v := ?vqaa44) rfl (by kernel_rfl) (by kernel_rfl) (by kernel_rfl) (fun _ _ _ h => h) (Or.inl ⟨by rfl, ?yqaa44⟩) (by assumption) ?rqaa44
            case yqaa44 => intro w hSw; (try dsimp only at hSw); go_simp <;> (try with_reducible rfl)
            (try simp only [List.getElem_toArray, List.getElem_cons_succ, List.getElem_cons_zero, Act.put, List.setIfInBounds_toArray, List.set_cons_zero, List.set_cons_succ])
            refine wpAnyH_take (i := 45) (v := ?vqaa45) rfl (by kernel_rfl) (by kernel_rfl) (by kernel_rfl) (fun _ _ _ h => h) (Or.inl ⟨by rfl, ?yqaa45⟩) (by assumption) ?rqaa45
            case yqaa45 => intro w hSw; (try dsimp only at hSw); go_simp <;> (try with_reducible rfl)
            (try simp only [List.getElem_toArray, List.getElem_cons_succ, List.getElem_cons_zero, Act.put, List.setIfInBounds_toArray, List.set_cons_zero, List.set_cons_succ])
            refine wpAnyH_take (i := 46) (v := ?vqaa46) rfl (by kernel_rfl) (by kernel_rfl) (by kernel_rfl) (fun _ _ _ h => h) (Or.inl ⟨by rfl, ?yqaa46⟩) (by assumption) ?rqaa46
            case yqaa46 => intro w hSw; (try dsimp only at hSw); go_simp <;> (try with_reducible rfl)
            (try simp only [List.getElem_toArray, List.getElem_cons_succ, List.getElem_cons_zero, Act.put, List.setIfInBounds_toArray, List.set_cons_zero, List.set_cons_succ])
            refine wpAnyH_take (i := 47) (v := ?vqaa47) rfl (by kernel_rfl) (by kernel_rfl) (by kernel_rfl) (fun _ _ _ h => h) (Or.inl ⟨by rfl, ?yqaa47⟩) (by assumption) ?rqaa47
            case yqaa47 => intro w hSw; have hSc := hSw.2.2.1; go_simp <;> (try with_reducible rfl)
            (try simp only [List.getElem_toArray, List.getElem_cons_succ, List.getElem_cons_zero, Act.put, List.setIfInBounds_toArray, List.set_cons_zero, List.set_cons_succ])
            refine wpAnyH_take (i := 48) (v := ?vqaa48) rfl (by kernel_rfl) (by kernel_rfl) (by kernel_rfl) (fun _ _ _ h => h) (Or.inl ⟨by rfl, ?yqaa48⟩) (by assumption) ?rqaa48
            case yqaa48 => intro w hSw; (try dsimp only at hSw); go_simp <;> (try with_reducible rfl)
            (try simp only [List.getElem_toArray, List.getElem_cons_succ, List.getElem_cons_zero, Act.put, List.setIfInBounds_toArray, List.set_cons_zero, List.set_cons_succ])
            refine wpAnyH_take (i := 49) (v := ?vqaa49) rfl (by kernel_rfl) (by kernel_rfl) (by kernel_rfl) (fun _ _ _ h => h) (Or.inl ⟨by rfl, ?yqaa49⟩) (by assumption) ?rqaa49
            case yqaa49 => intro w hSw; (try dsimp only at hSw); go_simp <;> (try with_reducible rfl)
            (try simp only [List.getElem_toArray, List.getElem_cons_succ, List.getElem_cons_zero, Act.put, List.setIfInBounds_toArray, List.set_cons_zero, List.set_cons_succ])
            refine wpAnyH_take (i := 50) (v := ?vqaa50) rfl (by kernel_rfl) (by kernel_rfl) (by kernel_rfl) (fun _ _ _ h => h) (Or.inl ⟨by rfl, ?yqaa50⟩) (by assumption) ?rqaa50
            case yqaa50 => intro w hSw; have hSc := hSw.2.2.2.2; go_simp <;> (try with_reducible rfl)
            (try simp only [List.getElem_toArray, List.getElem_cons_succ, List.getElem_cons_zero, Act.put, List.setIfInBounds_toArray, List.set_cons_zero, List.set_cons_succ])
            refine wpAnyH_take (i := 51) (v := ?vqaa51) rfl (by kernel_rfl) (by kernel_rfl) (by kernel_rfl) (fun _ _ _ h => h) (Or.inl ⟨by rfl, ?yqaa51⟩) (by assumption) ?rqaa51
            case yqaa51 => intro w hSw; (try dsimp only at hSw); go_simp <;> (try with_reducible rfl)
            (try simp only [List.getElem_toArray, List.getElem_cons_succ, List.getElem_cons_zero, Act.put, List.setIfInBounds_toArray, List.set_cons_zero, List.set_cons_succ])
            refine wpAnyH_take (i := 52) (v := ?vqaa52) rfl (by kernel_rfl) (by kernel_rfl) (by kernel_rfl) (fun _ _ _ h => h) (Or.inl ⟨by rfl, ?yqaa52⟩) (by assumption) ?rqaa52
            case yqaa52 => intro w hSw; (try dsimp only at hSw); go_simp <;> (try with_reducible rfl)
            (try simp only [List.getElem_toArray, List.getElem_cons_succ, List.getElem_cons_zero, Act.put, List.setIfInBounds_toArray, List.set_cons_zero, List.set_cons_succ])
            refine wpAnyH_take (i := 53) (v := ?vqaa53) rfl (by kernel_rfl) (by kernel_rfl) (by kernel_rfl) (fun _ _ _ h => h) (Or.inl ⟨by rfl, ?yqaa53⟩) (by assumption) ?rqaa53
            case yqaa53 => intro w hSw; (try dsimp only at hSw); go_simp <;> (try with_reducible rfl)
            (try simp only [List.getElem_toArray, List.getElem_cons_succ, List.getElem_cons_zero, Act.put, List.setIfInBounds_toArray, List.set_cons_zero, List.set_cons_succ])
            refine wpAnyH_take (i := 54) (v := ?vqaa54) rfl (by kernel_rfl) (by kernel_rfl) (by kernel_rfl) (fun _ _ _ h => h) (Or.inl ⟨by rfl, ?yqaa54⟩) (by assumption) ?rqaa54
            case yqaa54 => intro w hSw; (try dsimp only at hSw); go_simp <;> (try with_reducible rfl)
            (try simp only [List.getElem_toArray, List.getElem_cons_succ, List.getElem_cons_zero, Act.put, List.setIfInBounds_toArray, List.set_cons_zero, List.set_cons_succ])
            refine wpAnyH_take (i := 55) (v := ?vqaa55) rfl (by kernel_rfl) (by kernel_rfl) (by kernel_rfl) (fun _ _ _ h => h) (Or.inl ⟨by rfl, ?yqaa55⟩) (by assumption) ?rqaa55
            case yqaa55 => intro w hSw; (try dsimp only at hSw); go_simp <;> (try with_reducible rfl)
            (try simp only [List.getElem_toArray, List.getElem_cons_succ, List.getElem_cons_zero, Act.put, List.setIfInBounds_toArray, List.set_cons_zero, List.set_cons_succ])
            refine wpAnyH_take (i := 56) (v := ?vqaa56) rfl (by kernel_rfl) (by kernel_rfl) (by kernel_rfl) (fun _ _ _ h => h) (Or.inl ⟨by rfl, ?yqaa56⟩) (by assumption) ?rqaa56
            case yqaa56 => intro w hSw; have hSc := hSw.2.2.2.2; go_simp <;> (try with_reducible rfl)
            (try simp only [List.getElem_toArray, List.getElem_cons_succ, List.getElem_cons_zero, Act.put, List.setIfInBounds_toArray, List.set_cons_zero, List.set_cons_succ])
            refine wpAnyH_take (i := 57) (v := ?vqaa57) rfl (by kernel_rfl) (by kernel_rfl) (by kernel_rfl) (fun _ _ _ h => h) (Or.inl ⟨by rfl, ?yqaa57⟩) (by assumption) ?rqaa57
            case yqaa57 => intro w hSw; (try dsimp only at hSw); go_simp <;> (try with_reducible rfl)
            (try simp only [List.getElem_toArray, List.getElem_cons_succ, List.getElem_cons_zero, Act.put, List.setIfInBounds_toArray, List.set_cons_zero, List.set_cons_succ])
            refine wpAnyH_take (i := 58) (v := ?vqaa58) rfl (by kernel_rfl) (by kernel_rfl) (by kernel_rfl) (fun _ _ _ h => h) (Or.inl ⟨by rfl, ?yqaa58⟩) (by assumption) ?rqaa58
            case yqaa58 => intro w hSw; (try dsimp only at hSw); go_simp <;> (try with_reducible rfl)
            (try simp only [List.getElem_toArray, List.getElem_cons_succ, List.getElem_cons_zero, Act.put, List.setIfInBounds_toArray, List.set_cons_zero, List.set_cons_succ])
            refine wpAnyH_take (i := 59) (v := ?vqaa59) rfl (by kernel_rfl) (by kernel_rfl) (by kernel_rfl) (fun _ _ _ h => h) (Or.inl ⟨by rfl, ?yqaa59⟩) (by assumption) ?rqaa59
            case yqaa59 => intro w hSw; (try dsimp only at hSw); go_simp <;> (try with_reducible rfl)
            (try simp only [List.getElem_toArray, List.getElem_cons_succ, List.getElem_cons_zero, Act.put, List.setIfInBounds_toArray, List.set_cons_zero, List.set_cons_succ])
            refine wpAnyH_take (i := 60) (v := ?vqaa60) rfl (by kernel_rfl) (by kernel_rfl) (by kernel_rfl) (fun _ _ _ h => h) (Or.inl ⟨by rfl, ?yqaa60⟩) (by assumption) ?rqaa60
            case yqaa60 => intro w hSw; (try dsimp only at hSw); go_simp <;> (try with_reducible rfl)
            (try simp only [List.getElem_toArray, List.getElem_cons_succ, List.getElem_cons_zero, Act.put, List.setIfInBounds_toArray, List.set_cons_zero, List.set_cons_succ])
            refine wpAnyH_take (i := 61) (v := ?vqaa61) rfl (by kernel_rfl) (by kernel_rfl) (by kernel_rfl) (fun _ _ _ h => h) (Or.inl ⟨by rfl, ?yqaa61⟩) (by assumption) ?rqaa61
            case yqaa61 => intro w hSw; (try dsimp only at hSw); go_simp <;> (try with_reducible rfl)
            (try simp only [List.getElem_toArray, List.getElem_cons_succ, List.getElem_cons_zero, Act.put, List.setIfInBounds_toArray, List.set_cons_zero, List.set_cons_succ])
            refine wpAnyH_take (i := 62) (v := ?vqaa62) rfl (by kernel_rfl) (by kernel_rfl) (by kernel_rfl) (fun _ _ _ h => h) (Or.inl ⟨by rfl, ?yqaa62⟩) (by assumption) ?rqaa62
            case yqaa62 => intro w hSw; (try dsimp only at hSw); go_simp <;> (try with_reducible rfl)
            (try simp only [List.getElem_toArray, List.getElem_cons_succ, List.getElem_cons_zero, Act.put, List.setIfInBounds_toArray, List.set_cons_zero, List.set_cons_succ])
            refine wpAnyH_take (i := 63) (v := ?vqaa63) rfl (by kernel_rfl) (by kernel_rfl) (by kernel_rfl) (fun _ _ _ h => h) (Or.inl ⟨by rfl, ?yqaa63⟩) (by assumption) ?rqaa63
            case yqaa63 => intro w hSw; (try dsimp only at hSw); go_simp <;> (try with_reducible rfl)
            (try simp only [List.getElem_toArray, List.getElem_cons_succ, List.getElem_cons_zero, Act.put, List.setIfInBounds_toArray, List.set_cons_zero, List.set_cons_succ])
            refine wpAnyH_take (i := 64) (v := ?vqaa64) rfl (by kernel_rfl) (by kernel_rfl) (by kernel_rfl) (fun _ _ _ h => h) (Or.inl ⟨by rfl, ?yqaa64⟩) (by assumption) ?rqaa64
            case yqaa64 => intro w hSw; (try dsimp only at hSw); go_simp <;> (try with_reducible rfl)
            (try simp only [List.getElem_toArray, List.getElem_cons_succ, List.getElem_cons_zero, Act.put, List.setIfInBounds_toArray, List.set_cons_zero, List.set_cons_succ])
            refine wpAnyH_done (by kernel_rfl) ?_ _
            clear hHeld 
            have H1 : Hid (IvRel ln L1 g3 (flatT T ++ R3) g5 (Ls.map Value.string) g9 [Value.int .i64 (K : Int), .int .i64 (N1 : Int), .string X, .int .i64 (L1 : Int), .int .i64 (C1 : Int)] w (.int .i64 (ln : Int)) w13) := (⟨ln, Nat.le_refl _, by have := HLE.out; omega, rfl, B3, B5, B9, hbe⟩ : IvRel ln L1 g3 (flatT T ++ R3) g5 (Ls.map Value.string) g9 [Value.int .i64 (K : Int), .int .i64 (N1 : Int), .string X, .int .i64 (L1 : Int), .int .i64 (C1 : Int)] w (.int .i64 (ln : Int)) w13)
            clear B3 B5 B9 hbe
            go_wp2
            go_loopw [10] (IvRel ln L1 g3 (flatT T ++ R3) g5 (Ls.map Value.string) g9 [Value.int .i64 (K : Int), .int .i64 (N1 : Int), .string X, .int .i64 (L1 : Int), .int .i64 (C1 : Int)] w) (fun a _ => L1 + 1 - (intOf a).toNat)
            case atStart => exact H1.out
            case round =>
              clear H1
              obtain ⟨j, hj1, hj2, rfl, B3, B5, B9, hbe⟩ := hrel
              by_cases hjl : j ≤ L1
              · skip
                have jle : (j : Int) ≤ (L1 : Int) := by omega
                obtain ⟨Y2, fa, fb, hseg⟩ := HSEG.out j hj1 hjl
                obtain ⟨j1, hj1e⟩ : ∃ x, j - 1 = x := ⟨_, rfl⟩
                have u1 : (j : Int) - 1 = (j1 : Int) := by have := hseg.ge; omega
                have u2 := wrap_small (x := j1) (by have := hseg.le; omega)
                have u3 : (0 : Int) ≤ (j1 : Int) := by omega
                have u4 : (j1 : Int) < (m : Int) := by have := hseg.le; omega
                have HYj : Hid ((Ls.map Value.string)[j1]? = some (.string Y2)) := (by rw [← hj1e]; exact hseg.at_ : (Ls.map Value.string)[j1]? = some (.string Y2))
                have HG := Lib.hid hseg
                clear hseg hj1e
                have z9_3 := B9.cell (k := 3) rfl
                go_wp2
                clear z9_3
                have hdd := below_drew wr
                have B3 := B3.next hdd B3.lt
                have B5 := B5.next hdd B5.lt
                have B9 := B9.next hdd B9.lt
                have hbe := below_join hbe hdd
                refine wp_region_held_drew (S := fun w' => w'.cell? ⟨g5, j1, none⟩ = some (.string Y2)) (by kernel_rfl) (B5.cell (k := j1) HYj.out) (fun hHeld => ?_)
                clear hdd
                generalize wr.drew = w15 at B3 B5 B9 hbe hHeld  ⊢
                refine wpAnyH_take (i := 0) (v := ?vqab0) rfl (by kernel_rfl) (by kernel_rfl) (by kernel_rfl) (fun _ _ _ h => h) (Or.inl ⟨by rfl, ?yqab0⟩) (by assumption) ?rqab0
                case yqab0 => intro w hSw; (try dsimp only at hSw); go_simp <;> (try with_reducible rfl)
                (try simp only [List.getElem_toArray, List.getElem_cons_zero, Act.put, List.setIfInBounds_toArray, List.set_cons_zero, List.set_cons_succ])
                refine wpAnyH_take (i := 1) (v := ?vqab1) rfl (by kernel_rfl) (by kernel_rfl) (by kernel_rfl) (fun _ _ _ h => h) (Or.inl ⟨by rfl, ?yqab1⟩) (by assumption) ?rqab1
                case yqab1 => intro w hSw; (try dsimp only at hSw); go_simp <;> (try with_reducible rfl)
                (try simp only [List.getElem_toArray, List.getElem_cons_succ, List.getElem_cons_zero, Act.put, List.setIfInBounds_toArray, List.set_cons_zero, List.set_cons_succ])
                refine wpAnyH_take (i := 2) (v := ?vqab2) rfl (by kernel_rfl) (by kernel_rfl) (by kernel_rfl) (fun _ _ _ h => h) (Or.inl ⟨by rfl, ?yqab2⟩) (by assumption) ?rqab2
                case yqab2 => intro w hSw; (try dsimp only at hSw); go_simp <;> (try with_reducible rfl)
                (try simp only [List.getElem_toArray, List.getElem_cons_succ, List.getElem_cons_zero, Act.put, List.setIfInBounds_toArray, List.set_cons_zero, List.set_cons_succ])
                refine wpAnyH_take (i := 3) (v := ?vqab3) rfl (by kernel_rfl) (by kernel_rfl) (by kernel_rfl) (fun _ _ _ h => h) (Or.inl ⟨by rfl, ?yqab3⟩) (by assumption) ?rqab3
                case yqab3 => intro w hSw; (try dsimp only at hSw); go_simp <;> (try with_reducible rfl)
                (try simp only [List.getElem_toArray, List.getElem_cons_succ, List.getElem_cons_zero, Act.put, List.setIfInBounds_toArray, List.set_cons_zero, List.set_cons_succ])
                refine wpAnyH_take (i := 4) (v := ?vqab4) rfl (by kernel_rfl) (by kernel_rfl) (by kernel_rfl) (fun _ _ _ h => h) (Or.inl ⟨by rfl, ?yqab4⟩) (by assumption) ?rqab4
                case yqab4 => intro w hSw; have hSc := hSw; go_simp <;> (try with_reducible rfl)
                (try simp only [List.getElem_toArray, List.getElem_cons_succ, List.getElem_cons_zero, Act.put, List.setIfInBounds_toArray, List.set_cons_zero, List.set_cons_succ])
                refine wpAnyH_take (i := 5) (v := ?vqab5) rfl (by kernel_rfl) (by kernel_rfl) (by kernel_rfl) (fun _ _ _ h => h) (Or.inl ⟨by rfl, ?yqab5⟩) (by assumption) ?rqab5
                case yqab5 => intro w hSw; (try dsimp only at hSw); go_simp <;> (try with_reducible rfl)
                (try simp only [List.getElem_toArray, List.getElem_cons_succ, List.getElem_cons_zero, Act.put, List.setIfInBounds_toArray, List.set_cons_zero, List.set_cons_succ])
                refine wpAnyH_take (i := 6) (v := ?vqab6) rfl (by kernel_rfl) (by kernel_rfl) (by kernel_rfl) (fun _ _ _ h => h) (Or.inl ⟨by rfl, ?yqab6⟩) (by assumption) ?rqab6
                case yqab6 => intro w hSw; (try dsimp only at hSw); go_simp <;> (try with_reducible rfl)
                (try simp only [List.getElem_toArray, List.getElem_cons_succ, List.getElem_cons_zero, Act.put, List.setIfInBounds_toArray, List.set_cons_zero, List.set_cons_succ])
                refine wpAnyH_take (i := 7) (v := ?vqab7) rfl (by kernel_rfl) (by kernel_rfl) (by kernel_rfl) (fun _ _ _ h => h) (Or.inl ⟨by rfl, ?yqab7⟩) (by assumption) ?rqab7
                case yqab7 => intro w hSw; (try dsimp only at hSw); go_simp <;> (try with_reducible rfl)
                (try simp only [List.getElem_toArray, List.getElem_cons_succ, List.getElem_cons_zero, Act.put, List.setIfInBounds_toArray, List.set_cons_zero, List.set_cons_succ])
                refine wpAnyH_done (by kernel_rfl) ?_ _
                clear hHeld 
                have hB : j = L1 := by have := HE.out; omega
                have hA : j = ln := by have := HE.out; omega
                have ea : ((j : Int) == (ln : Int)) = true := by rw [hA]; exact beq_self_eq_true _
                have v1 : (cl : Int) - 1 = (fa : Int) := by have := HG.out.a1 hA; have := HLE.out; omega
                have v2 := wrap_small (x := fa) (by have := HG.out.ab; have := HG.out.bl; have := HG.out.small; omega)
                have eb : ((j : Int) == (L1 : Int)) = true := by rw [hB]; exact beq_self_eq_true _
                obtain rfl : C1m = fb := by have := HG.out.b1 hB; have := HCm.out; omega
                have hab : fa ≤ C1m := HG.out.ab
                have hbl : C1m ≤ Y2.size := HG.out.bl
                have hsm : Y2.size ≤ 2000 := HG.out.small
                have x1 : (0 : Int) ≤ (fa : Int) := by omega
                have x2 : (fa : Int) ≤ (C1m : Int) := by omega
                have x3 : (C1m : Int) ≤ (Y2.size : Int) := by omega
                have HB := Lib.hid hB
                clear hA hB
                have htr := HG.out.tr
                have hco := HG.out.co
                have HTR := Lib.hid htr
                have HCO := Lib.hid hco
                have hXs : (Y2.extract fa C1m).size ≤ 2000 := by rw [ByteArray.size_extract]; omega
                have HXS := Lib.hid hXs
                clear htr hco hXs
                have z9_3 := B9.cell (k := 3) rfl
                have z9_4 := B9.cell (k := 4) rfl
                have zy := B5.cell (k := j1) HYj.out
                go_wp2_with fail
                (with_reducible refine (cut_gap (X := (Y2.extract fa C1m)) HXS.out HTR.out _ (HQ.out.next hbe)).mono ?_)
                rintro e w16 ⟨⟨G, GR, cb, rfl, hG1, hG2, hG3⟩, hb16⟩
                clear z9_3 z9_4 zy
                have B3 := B3.next hb16 B3.lt
                have B5 := B5.next hb16 B5.lt
                have B9 := B9.next hb16 B9.lt
                have hbe := below_join hbe hb16
                clear hb16
                go_wp2_with fail
                (with_reducible refine (trim_gap hG1 hG2 _).mono ?_)
                rintro e w17 ⟨⟨Z, rfl, hZ1, hZ2⟩, hb17⟩
                have B3 := B3.next hb17 B3.lt
                have B5 := B5.next hb17 B5.lt
                have B9 := B9.next hb17 B9.lt
                have hbe := below_join hbe hb17
                clear hb17
                have hco2 := HCO.out
                rw [hG3] at hco2
                clear hG1 hG2 hG3 HCO HTR HXS hab hbl hsm x1 x2 x3
                cases cb with
                | false =>
                  clear hco2
                  have z9_0 := B9.cell (k := 0) rfl
                  have z9_3 := B9.cell (k := 3) rfl
                  go_wp2
                  go_roundw
                  case rel => exact ⟨j + 1, by omega, by omega, by go_num, B3, B5, B9, hbe⟩
                  case measure => simp [intOf]; omega
                | true =>
                  obtain rfl : kb = true := by
                    cases kb with
                    | true => rfl
                    | false => exact absurd (hco2 rfl HB.out) (by decide)
                  clear hco2
                  have z9_0 := B9.cell (k := 0) rfl
                  have z9_3 := B9.cell (k := 3) rfl
                  go_wp2
                  go_roundw
                  case rel => exact ⟨j + 1, by omega, by omega, by go_num, B3, B5, B9, hbe⟩
                  case measure => simp [intOf]; omega
              · skip
                have jle : ¬ (j : Int) ≤ (L1 : Int) := by omega
                have y1 : (0 : Int) ≤ (C1m : Int) := by omega
                have y4 : C1m ≤ CX := by have := HCX.out; omega
                have y5 : CX ≤ Y.size := by omega
                have y2 : (C1m : Int) ≤ (CX : Int) := by omega
                have y3 : (CX : Int) ≤ (Y.size : Int) := by omega
                have z9_3 := B9.cell (k := 3) rfl
                go_wp2
                clear z9_3
                have hdd := below_drew wr
                have B3 := B3.next hdd B3.lt
                have B5 := B5.next hdd B5.lt
                have B9 := B9.next hdd B9.lt
                have hbe := below_join hbe hdd
                refine wp_region_held_drew (S := fun w' => w'.cell? ⟨g9, 3, none⟩ = some (.int .i64 (L1 : Int)) ∧ w'.cell? ⟨g5, L1m, none⟩ = some (.string Y) ∧ w'.cell? ⟨g9, 4, none⟩ = some (.int .i64 (C1 : Int)) ∧ w'.cell? ⟨g9, 2, none⟩ = some (.string X)) (by kernel_rfl) ⟨B9.cell (k := 3) rfl, B5.cell (k := L1m) HY.out, B9.cell (k := 4) rfl, B9.cell (k := 2) rfl⟩ (fun hHeld => ?_)
                clear hdd
                generalize wr.drew = w18 at B3 B5 B9 hbe hHeld  ⊢
                have hcut := HCUT.out
                rw [HCm.out, HCX.out] at hcut
                refine wpAnyH_take (i := 0) (v := ?vqac0) rfl (by kernel_rfl) (by kernel_rfl) (by kernel_rfl) (fun _ _ _ h => h) (Or.inl ⟨by rfl, ?yqac0⟩) (by assumption) ?rqac0
                case yqac0 => intro w hSw; (try dsimp only at hSw); go_simp <;> (try with_reducible rfl)
                (try simp only [List.getElem_toArray, List.getElem_cons_zero, Act.put, List.setIfInBounds_toArray, List.set_cons_zero, List.set_cons_succ])
                refine wpAnyH_take (i := 1) (v := ?vqac1) rfl (by kernel_rfl) (by kernel_rfl) (by kernel_rfl) (fun _ _ _ h => h) (Or.inl ⟨by rfl, ?yqac1⟩) (by assumption) ?rqac1
                case yqac1 => intro w hSw; (try dsimp only at hSw); go_simp <;> (try with_reducible rfl)
                (try simp only [List.getElem_toArray, List.getElem_cons_succ, List.getElem_cons_zero, Act.put, List.setIfInBounds_toArray, List.set_cons_zero, List.set_cons_succ])
                refine wpAnyH_take (i := 2) (v := ?vqac2) rfl (by kernel_rfl) (by kernel_rfl) (by kernel_rfl) (fun _ _ _ h => h) (Or.inl ⟨by rfl, ?yqac2⟩) (by assumption) ?rqac2
                case yqac2 => intro w hSw; have hSc := hSw.1; go_simp <;> (try with_reducible rfl)
                (try simp only [List.getElem_toArray, List.getElem_cons_succ, List.getElem_cons_zero, Act.put, List.setIfInBounds_toArray, List.set_cons_zero, List.set_cons_succ])
                refine wpAnyH_take (i := 3) (v := ?vqac3) rfl (by kernel_rfl) (by kernel_rfl) (by kernel_rfl) (fun _ _ _ h => h) (Or.inl ⟨by rfl, ?yqac3⟩) (by assumption) ?rqac3
                case yqac3 => intro w hSw; (try dsimp only at hSw); go_simp <;> (try with_reducible rfl)
                (try simp only [List.getElem_toArray, List.getElem_cons_succ, List.getElem_cons_zero, Act.put, List.setIfInBounds_toArray, List.set_cons_zero, List.set_cons_succ])
                refine wpAnyH_take (i := 4) (v := ?vqac4) rfl (by kernel_rfl) (by kernel_rfl) (by kernel_rfl) (fun _ _ _ h => h) (Or.inl ⟨by rfl, ?yqac4⟩) (by assumption) ?rqac4
                case yqac4 => intro w hSw; (try dsimp only at hSw); go_simp <;> (try with_reducible rfl)
                (try simp only [List.getElem_toArray, List.getElem_cons_succ, List.getElem_cons_zero, Act.put, List.setIfInBounds_toArray, List.set_cons_zero, List.set_cons_succ])
                refine wpAnyH_take (i := 5) (v := ?vqac5) rfl (by kernel_rfl) (by kernel_rfl) (by kernel_rfl) (fun _ _ _ h => h) (Or.inl ⟨by rfl, ?yqac5⟩) (by assumption) ?rqac5
                case yqac5 => intro w hSw; have hSc := hSw.2.1; go_simp <;> (try with_reducible rfl)
                (try simp only [List.getElem_toArray, List.getElem_cons_succ, List.getElem_cons_zero, Act.put, List.setIfInBounds_toArray, List.set_cons_zero, List.set_cons_succ])
                refine wpAnyH_take (i := 6) (v := ?vqac6) rfl (by kernel_rfl) (by kernel_rfl) (by kernel_rfl) (fun _ _ _ h => h) (Or.inl ⟨by rfl, ?yqac6⟩) (by assumption) ?rqac6
                case yqac6 => intro w hSw; (try dsimp only at hSw); go_simp <;> (try with_reducible rfl)
                (try simp only [List.getElem_toArray, List.getElem_cons_succ, List.getElem_cons_zero, Act.put, List.setIfInBounds_toArray, List.set_cons_zero, List.set_cons_succ])
                refine wpAnyH_take (i := 7) (v := ?vqac7) rfl (by kernel_rfl) (by kernel_rfl) (by kernel_rfl) (fun _ _ _ h => h) (Or.inl ⟨by rfl, ?yqac7⟩) (by assumption) ?rqac7
                case yqac7 => intro w hSw; have hSc := hSw.2.2.1; go_simp <;> (try with_reducible rfl)
                (try simp only [List.getElem_toArray, List.getElem_cons_succ, List.getElem_cons_zero, Act.put, List.setIfInBounds_toArray, List.set_cons_zero, List.set_cons_succ])
                refine wpAnyH_take (i := 8) (v := ?vqac8) rfl (by kernel_rfl) (by kernel_rfl) (by kernel_rfl) (fun _ _ _ h => h) (Or.inl ⟨by rfl, ?yqac8⟩) (by assumption) ?rqac8
                case yqac8 => intro w hSw; (try dsimp only at hSw); go_simp <;> (try with_reducible rfl)
                (try simp only [List.getElem_toArray, List.getElem_cons_succ, List.getElem_cons_zero, Act.put, List.setIfInBounds_toArray, List.set_cons_zero, List.set_cons_succ])
                refine wpAnyH_take (i := 9) (v := ?vqac9) rfl (by kernel_rfl) (by kernel_rfl) (by kernel_rfl) (fun _ _ _ h => h) (Or.inl ⟨by rfl, ?yqac9⟩) (by assumption) ?rqac9
                case yqac9 => intro w hSw; (try dsimp only at hSw); go_simp <;> (try with_reducible rfl)
                (try simp only [List.getElem_toArray, List.getElem_cons_succ, List.getElem_cons_zero, Act.put, List.setIfInBounds_toArray, List.set_cons_zero, List.set_cons_succ])
                refine wpAnyH_take (i := 10) (v := ?vqac10) rfl (by kernel_rfl) (by kernel_rfl) (by kernel_rfl) (fun _ _ _ h => h) (Or.inl ⟨by rfl, ?yqac10⟩) (by assumption) ?rqac10
                case yqac10 => intro w hSw; have hSc := hSw.2.2.1; go_simp <;> (try with_reducible rfl)
                (try simp only [List.getElem_toArray, List.getElem_cons_succ, List.getElem_cons_zero, Act.put, List.setIfInBounds_toArray, List.set_cons_zero, List.set_cons_succ])
                refine wpAnyH_take (i := 11) (v := ?vqac11) rfl (by kernel_rfl) (by kernel_rfl) (by kernel_rfl) (fun _ _ _ h => h) (Or.inl ⟨by rfl, ?yqac11⟩) (by assumption) ?rqac11
                case yqac11 => intro w hSw; (try dsimp only at hSw); go_simp <;> (try with_reducible rfl)
                (try simp only [List.getElem_toArray, List.getElem_cons_succ, List.getElem_cons_zero, Act.put, List.setIfInBounds_toArray, List.set_cons_zero, List.set_cons_succ])
                refine wpAnyH_take (i := 12) (v := ?vqac12) rfl (by kernel_rfl) (by kernel_rfl) (by kernel_rfl) (fun _ _ _ h => h) (Or.inl ⟨by rfl, ?yqac12⟩) (by assumption) ?rqac12
                case yqac12 => intro w hSw; (try dsimp only at hSw); go_simp <;> (try with_reducible rfl)
                (try simp only [List.getElem_toArray, List.getElem_cons_succ, List.getElem_cons_zero, Act.put, List.setIfInBounds_toArray, List.set_cons_zero, List.set_cons_succ])
                refine wpAnyH_take (i := 13) (v := ?vqac13) rfl (by kernel_rfl) (by kernel_rfl) (by kernel_rfl) (fun _ _ _ h => h) (Or.inl ⟨by rfl, ?yqac13⟩) (by assumption) ?rqac13
                case yqac13 => intro w hSw; have hSc := hSw.2.2.2; go_simp <;> (try with_reducible rfl)
                (try simp only [List.getElem_toArray, List.getElem_cons_succ, List.getElem_cons_zero, Act.put, List.setIfInBounds_toArray, List.set_cons_zero, List.set_cons_succ])
                refine wpAnyH_take (i := 14) (v := ?vqac14) rfl (by kernel_rfl) (by kernel_rfl) (by kernel_rfl) (fun _ _ _ h => h) (Or.inl ⟨by rfl, ?yqac14⟩) (by assumption) ?rqac14
                case yqac14 => intro w hSw; (try dsimp only at hSw); go_simp <;> (try with_reducible rfl)
                (try simp only [List.getElem_toArray, List.getElem_cons_succ, List.getElem_cons_zero, Act.put, List.setIfInBounds_toArray, List.set_cons_zero, List.set_cons_succ])
                refine wpAnyH_take (i := 15) (v := ?vqac15) rfl (by kernel_rfl) (by kernel_rfl) (by kernel_rfl) (fun _ _ _ h => h) (Or.inl ⟨by rfl, ?yqac15⟩) (by assumption) ?rqac15
                case yqac15 => intro w hSw; (try dsimp only at hSw); go_simp <;> (try with_reducible rfl)
                (try simp only [List.getElem_toArray, List.getElem_cons_succ, List.getElem_cons_zero, Act.put, List.setIfInBounds_toArray, List.set_cons_zero, List.set_cons_succ])
                refine wpAnyH_take (i := 16) (v := ?vqac16) rfl (by kernel_rfl) (by kernel_rfl) (by kernel_rfl) (fun _ _ _ h => h) (Or.inl ⟨by rfl, ?yqac16⟩) (by assumption) ?rqac16
                case yqac16 => intro w hSw; (try dsimp only at hSw); go_simp <;> (try with_reducible rfl)
                (try simp only [List.getElem_toArray, List.getElem_cons_succ, List.getElem_cons_zero, Act.put, List.setIfInBounds_toArray, List.set_cons_zero, List.set_cons_succ])
                refine wpAnyH_take (i := 17) (v := ?vqac17) rfl (by kernel_rfl) (by kernel_rfl) (by kernel_rfl) (fun _ _ _ h => h) (Or.inl ⟨by rfl, ?yqac17⟩) (by assumption) ?rqac17
                case yqac17 => intro w hSw; (try dsimp only at hSw); go_simp <;> (try with_reducible rfl)
                (try simp only [List.getElem_toArray, List.getElem_cons_succ, List.getElem_cons_zero, Act.put, List.setIfInBounds_toArray, List.set_cons_zero, List.set_cons_succ])
                refine wpAnyH_take (i := 18) (v := ?vqac18) rfl (by kernel_rfl) (by kernel_rfl) (by kernel_rfl) (fun _ _ _ h => h) (Or.inl ⟨by rfl, ?yqac18⟩) (by assumption) ?rqac18
                case yqac18 => intro w hSw; have hSc := hSw.2.2.2; go_simp <;> (try with_reducible rfl)
                (try simp only [List.getElem_toArray, List.getElem_cons_succ, List.getElem_cons_zero, Act.put, List.setIfInBounds_toArray, List.set_cons_zero, List.set_cons_succ])
                refine wpAnyH_take (i := 19) (v := ?vqac19) rfl (by kernel_rfl) (by kernel_rfl) (by kernel_rfl) (fun _ _ _ h => h) (Or.inl ⟨by rfl, ?yqac19⟩) (by assumption) ?rqac19
                case yqac19 => intro w hSw; (try dsimp only at hSw); go_simp <;> (try with_reducible rfl)
                (try simp only [List.getElem_toArray, List.getElem_cons_succ, List.getElem_cons_zero, Act.put, List.setIfInBounds_toArray, List.set_cons_zero, List.set_cons_succ])
                refine wpAnyH_take (i := 20) (v := ?vqac20) rfl (by kernel_rfl) (by kernel_rfl) (by kernel_rfl) (fun _ _ _ h => h) (Or.inl ⟨by rfl, ?yqac20⟩) (by assumption) ?rqac20
                case yqac20 => intro w hSw; (try dsimp only at hSw); go_simp <;> (try with_reducible rfl)
                (try simp only [List.getElem_toArray, List.getElem_cons_succ, List.getElem_cons_zero, Act.put, List.setIfInBounds_toArray, List.set_cons_zero, List.set_cons_succ])
                refine wpAnyH_take (i := 21) (v := ?vqac21) rfl (by kernel_rfl) (by kernel_rfl) (by kernel_rfl) (fun _ _ _ h => h) (Or.inl ⟨by rfl, ?yqac21⟩) (by assumption) ?rqac21
                case yqac21 => intro w hSw; (try dsimp only at hSw); go_simp <;> (try with_reducible rfl)
                (try simp only [List.getElem_toArray, List.getElem_cons_succ, List.getElem_cons_zero, Act.put, List.setIfInBounds_toArray, List.set_cons_zero, List.set_cons_succ])
                refine wpAnyH_take (i := 22) (v := ?vqac22) rfl (by kernel_rfl) (by kernel_rfl) (by kernel_rfl) (fun _ _ _ h => h) (Or.inl ⟨by rfl, ?yqac22⟩) (by assumption) ?rqac22
                case yqac22 => intro w hSw; have hSc := hSw.2.2.2; go_simp <;> (try with_reducible rfl)
                (try simp only [List.getElem_toArray, List.getElem_cons_succ, List.getElem_cons_zero, Act.put, List.setIfInBounds_toArray, List.set_cons_zero, List.set_cons_succ])
                refine wpAnyH_ready (rs := [23]) (by kernel_rfl) (by simp) ?_
                refine AllReadyH.cons rfl (fun K hK => ?_) AllReadyH.nil
                go_simp
                go_wp2_with fail
                (with_reducible refine (contains_no H10.out _).mono ?_)
                rintro e w19 ⟨rfl, hb19⟩
                have B3 := B3.next hb19 B3.lt
                have B5 := B5.next hb19 B5.lt
                have B9 := B9.next hb19 B9.lt
                have hbe := below_join hbe hb19
                refine hK.out _ _ ⟨B9.cell (k := 3) rfl, B5.cell (k := L1m) HY.out, B9.cell (k := 4) rfl, B9.cell (k := 2) rfl⟩ (fun hHeld => ?_)
                clear hK K hb19
                refine wpAnyH_take (i := 24) (v := ?vqac24) rfl (by kernel_rfl) (by kernel_rfl) (by kernel_rfl) (fun _ _ _ h => h) (Or.inl ⟨by rfl, ?yqac24⟩) (by assumption) ?rqac24
                case yqac24 => intro w hSw; (try dsimp only at hSw); go_simp <;> (try with_reducible rfl)
                (try simp only [List.getElem_toArray, List.getElem_cons_succ, List.getElem_cons_zero, Act.put, List.setIfInBounds_toArray, List.set_cons_zero, List.set_cons_succ])
                refine wpAnyH_done (by kernel_rfl) ?_ _
                clear hHeld 
                go_wp2
                have hdd := below_drew w19
                have B3 := B3.next hdd B3.lt
                have B5 := B5.next hdd B5.lt
                have B9 := B9.next hdd B9.lt
                have hbe := below_join hbe hdd
                refine wp_region_held_drew (S := fun w' => w'.cell? ⟨g9, 3, none⟩ = some (.int .i64 (L1 : Int)) ∧ w'.cell? ⟨g9, 4, none⟩ = some (.int .i64 (C1 : Int)) ∧ w'.cell? ⟨g9, 2, none⟩ = some (.string X)) (by kernel_rfl) ⟨B9.cell (k := 3) rfl, B9.cell (k := 4) rfl, B9.cell (k := 2) rfl⟩ (fun hHeld => ?_)
                clear hdd
                generalize w19.drew = w20 at B3 B5 B9 hbe hHeld  ⊢
                refine wpAnyH_take (i := 0) (v := ?vqad0) rfl (by kernel_rfl) (by kernel_rfl) (by kernel_rfl) (fun _ _ _ h => h) (Or.inl ⟨by rfl, ?yqad0⟩) (by assumption) ?rqad0
                case yqad0 => intro w hSw; (try dsimp only at hSw); go_simp <;> (try with_reducible rfl)
                (try simp only [List.getElem_toArray, List.getElem_cons_zero, Act.put, List.setIfInBounds_toArray, List.set_cons_zero, List.set_cons_succ])
                refine wpAnyH_take (i := 1) (v := ?vqad1) rfl (by kernel_rfl) (by kernel_rfl) (by kernel_rfl) (fun _ _ _ h => h) (Or.inl ⟨by rfl, ?yqad1⟩) (by assumption) ?rqad1
                case yqad1 => intro w hSw; have hSc := hSw.1; go_simp <;> (try with_reducible rfl)
                (try simp only [List.getElem_toArray, List.getElem_cons_succ, List.getElem_cons_zero, Act.put, List.setIfInBounds_toArray, List.set_cons_zero, List.set_cons_succ])
                refine wpAnyH_take (i := 2) (v := ?vqad2) rfl (by kernel_rfl) (by kernel_rfl) (by kernel_rfl) (fun _ _ _ h => h) (Or.inl ⟨by rfl, ?yqad2⟩) (by assumption) ?rqad2
                case yqad2 => intro w hSw; (try dsimp only at hSw); go_simp <;> (try with_reducible rfl)
                (try simp only [List.getElem_toArray, List.getElem_cons_succ, List.getElem_cons_zero, Act.put, List.setIfInBounds_toArray, List.set_cons_zero, List.set_cons_succ])
                refine wpAnyH_take (i := 3) (v := ?vqad3) rfl (by kernel_rfl) (by kernel_rfl) (by kernel_rfl) (fun _ _ _ h => h) (Or.inl ⟨by rfl, ?yqad3⟩) (by assumption) ?rqad3
                case yqad3 => intro w hSw; have hSc := hSw.2.1; go_simp <;> (try with_reducible rfl)
                (try simp only [List.getElem_toArray, List.getElem_cons_succ, List.getElem_cons_zero, Act.put, List.setIfInBounds_toArray, List.set_cons_zero, List.set_cons_succ])
                refine wpAnyH_take (i := 4) (v := ?vqad4) rfl (by kernel_rfl) (by kernel_rfl) (by kernel_rfl) (fun _ _ _ h => h) (Or.inl ⟨by rfl, ?yqad4⟩) (by assumption) ?rqad4
                case yqad4 => intro w hSw; (try dsimp only at hSw); go_simp <;> (try with_reducible rfl)
                (try simp only [List.getElem_toArray, List.getElem_cons_succ, List.getElem_cons_zero, Act.put, List.setIfInBounds_toArray, List.set_cons_zero, List.set_cons_succ])
                refine wpAnyH_take (i := 5) (v := ?vqad5) rfl (by kernel_rfl) (by kernel_rfl) (by kernel_rfl) (fun _ _ _ h => h) (Or.inl ⟨by rfl, ?yqad5⟩) (by assumption) ?rqad5
                case yqad5 => intro w hSw; have hSc := hSw.2.2; go_simp <;> (try with_reducible rfl)
                (try simp only [List.getElem_toArray, List.getElem_cons_succ, List.getElem_cons_zero, Act.put, List.setIfInBounds_toArray, List.set_cons_zero, List.set_cons_succ])
                refine wpAnyH_take (i := 6) (v := ?vqad6) rfl (by kernel_rfl) (by kernel_rfl) (by kernel_rfl) (fun _ _ _ h => h) (Or.inl ⟨by rfl, ?yqad6⟩) (by assumption) ?rqad6
                case yqad6 => intro w hSw; (try dsimp only at hSw); go_simp <;> (try with_reducible rfl)
                (try simp only [List.getElem_toArray, List.getElem_cons_succ, List.getElem_cons_zero, Act.put, List.setIfInBounds_toArray, List.set_cons_zero, List.set_cons_succ])
                refine wpAnyH_take (i := 7) (v := ?vqad7) rfl (by kernel_rfl) (by kernel_rfl) (by kernel_rfl) (fun _ _ _ h => h) (Or.inl ⟨by rfl, ?yqad7⟩) (by assumption) ?rqad7
                case yqad7 => intro w hSw; (try dsimp only at hSw); go_simp <;> (try with_reducible rfl)
                (try simp only [List.getElem_toArray, List.getElem_cons_succ, List.getElem_cons_zero, Act.put, List.setIfInBounds_toArray, List.set_cons_zero, List.set_cons_succ])
                refine wpAnyH_take (i := 8) (v := ?vqad8) rfl (by kernel_rfl) (by kernel_rfl) (by kernel_rfl) (fun _ _ _ h => h) (Or.inl ⟨by rfl, ?yqad8⟩) (by assumption) ?rqad8
                case yqad8 => intro w hSw; (try dsimp only at hSw); go_simp <;> (try with_reducible rfl)
                (try simp only [List.getElem_toArray, List.getElem_cons_succ, List.getElem_cons_zero, Act.put, List.setIfInBounds_toArray, List.set_cons_zero, List.set_cons_succ])
                refine wpAnyH_take (i := 9) (v := ?vqad9) rfl (by kernel_rfl) (by kernel_rfl) (by kernel_rfl) (fun _ _ _ h => h) (Or.inl ⟨by rfl, ?yqad9⟩) (by assumption) ?rqad9
                case yqad9 => intro w hSw; (try dsimp only at hSw); go_simp <;> (try with_reducible rfl)
                (try simp only [List.getElem_toArray, List.getElem_cons_succ, List.getElem_cons_zero, Act.put, List.setIfInBounds_toArray, List.set_cons_zero, List.set_cons_succ])
                refine wpAnyH_done (by kernel_rfl) ?_ _
                clear hHeld 
                go_wp2
                go_roundw
                case rel => exact ⟨k + 1, L1, C2, hlt, by go_num, rfl, rfl, fun h => HS10.out (fun e => by
                    have h1 := congrArg List.length e
                    rw [List.length_drop, hn.out] at h1
                    simp at h1
                    omega), B3, B5, hbe⟩
                case measure => simp [intOf]; omega
        · as_aux_lemma =>
            have e1 : ((L1 : Int) == (ln : Int)) = false := beq_eq_false_iff_ne.2 (fun e => hE (Int.ofNat_inj.1 e))
            have E1 := Lib.hid e1
            clear e1
            have HE := Lib.hid hE
            clear hE
            go_wp2
            have hdd := below_drew w12
            have B3 := B3.next hdd B3.lt
            have B5 := B5.next hdd B5.lt
            have B9 := B9.next hdd B9.lt
            have hbe := below_join hbe hdd
            refine wp_region_held_drew (S := fun w' => w'.cell? ⟨g9, 3, none⟩ = some (.int .i64 (L1 : Int)) ∧ w'.cell? ⟨g9, 4, none⟩ = some (.int .i64 (C1 : Int)) ∧ w'.cell? ⟨g9, 2, none⟩ = some (.string X) ∧ w'.cell? ⟨g5, L1m, none⟩ = some (.string Y) ∧ w'.cell? ⟨g9, 0, none⟩ = some (.int .i64 (K : Int))) (by kernel_rfl) ⟨B9.cell (k := 3) rfl, B9.cell (k := 4) rfl, B9.cell (k := 2) rfl, B5.cell (k := L1m) HY.out, B9.cell (k := 0) rfl⟩ (fun hHeld => ?_)
            clear hdd
            generalize w12.drew = w13 at B3 B5 B9 hbe hHeld  ⊢
            simp only [List.append_eq, List.cons_append, List.nil_append] at hHeld ⊢
            have d1 := D1.out
            have d2 := D2.out
            have d3 := D3.out
            have d3i := D3i.out
            have d4 := D4.out
            have d7 := D7.out
            refine wpAnyH_take (i := 0) (v := ?vqae0) rfl (by kernel_rfl) (by kernel_rfl) (by kernel_rfl) (fun _ _ _ h => h) (Or.inl ⟨by rfl, ?yqae0⟩) (by assumption) ?rqae0
            case yqae0 => intro w hSw; (try dsimp only at hSw); go_simp <;> (try with_reducible rfl)
            (try simp only [List.getElem_toArray, List.getElem_cons_zero, Act.put, List.setIfInBounds_toArray, List.set_cons_zero, List.set_cons_succ])
            refine wpAnyH_take (i := 1) (v := ?vqae1) rfl (by kernel_rfl) (by kernel_rfl) (by kernel_rfl) (fun _ _ _ h => h) (Or.inl ⟨by rfl, ?yqae1⟩) (by assumption) ?rqae1
            case yqae1 => intro w hSw; have hSc := hSw.1; go_simp <;> (try with_reducible rfl)
            (try simp only [List.getElem_toArray, List.getElem_cons_succ, List.getElem_cons_zero, Act.put, List.setIfInBounds_toArray, List.set_cons_zero, List.set_cons_succ])
            refine wpAnyH_take (i := 2) (v := ?vqae2) rfl (by kernel_rfl) (by kernel_rfl) (by kernel_rfl) (fun _ _ _ h => h) (Or.inl ⟨by rfl, ?yqae2⟩) (by assumption) ?rqae2
            case yqae2 => intro w hSw; (try dsimp only at hSw); go_simp <;> (try with_reducible rfl)
            (try simp only [List.getElem_toArray, List.getElem_cons_succ, List.getElem_cons_zero, Act.put, List.setIfInBounds_toArray, List.set_cons_zero, List.set_cons_succ])
            refine wpAnyH_take (i := 3) (v := ?vqae3) rfl (by kernel_rfl) (by kernel_rfl) (by kernel_rfl) (fun _ _ _ h => h) (Or.inl ⟨by rfl, ?yqae3⟩) (by assumption) ?rqae3
            case yqae3 => intro w hSw; (try dsimp only at hSw); go_simp <;> (try with_reducible rfl)
            (try simp only [List.getElem_toArray, List.getElem_cons_succ, List.getElem_cons_zero, Act.put, List.setIfInBounds_toArray, List.set_cons_zero, List.set_cons_succ])
            refine wpAnyH_take (i := 4) (v := ?vqae4) rfl (by kernel_rfl) (by kernel_rfl) (by kernel_rfl) (fun _ _ _ h => h) (Or.inl ⟨by rfl, ?yqae4⟩) (by assumption) ?rqae4
            case yqae4 => intro w hSw; (try dsimp only at hSw); go_simp <;> (try with_reducible rfl)
            (try simp only [List.getElem_toArray, List.getElem_cons_succ, List.getElem_cons_zero, Act.put, List.setIfInBounds_toArray, List.set_cons_zero, List.set_cons_succ])
            refine wpAnyH_take (i := 5) (v := ?vqae5) rfl (by kernel_rfl) (by kernel_rfl) (by kernel_rfl) (fun _ _ _ h => h) (Or.inl ⟨by rfl, ?yqae5⟩) (by assumption) ?rqae5
            case yqae5 => intro w hSw; (try dsimp only at hSw); go_simp <;> (try with_reducible rfl)
            (try simp only [List.getElem_toArray, List.getElem_cons_succ, List.getElem_cons_zero, Act.put, List.setIfInBounds_toArray, List.set_cons_zero, List.set_cons_succ])
            refine wpAnyH_take (i := 6) (v := ?vqae6) rfl (by kernel_rfl) (by kernel_rfl) (by kernel_rfl) (fun _ _ _ h => h) (Or.inl ⟨by rfl, ?yqae6⟩) (by assumption) ?rqae6
            case yqae6 => intro w hSw; have hSc := hSw.1; go_simp <;> (try with_reducible rfl)
            (try simp only [List.getElem_toArray, List.getElem_cons_succ, List.getElem_cons_zero, Act.put, List.setIfInBounds_toArray, List.set_cons_zero, List.set_cons_succ])
            refine wpAnyH_take (i := 7) (v := ?vqae7) rfl (by kernel_rfl) (by kernel_rfl) (by kernel_rfl) (fun _ _ _ h => h) (Or.inl ⟨by rfl, ?yqae7⟩) (by assumption) ?rqae7
            case yqae7 => intro w hSw; (try dsimp only at hSw); go_simp <;> (try with_reducible rfl)
            (try simp only [List.getElem_toArray, List.getElem_cons_succ, List.getElem_cons_zero, Act.put, List.setIfInBounds_toArray, List.set_cons_zero, List.set_cons_succ])
            refine wpAnyH_take (i := 8) (v := ?vqae8) rfl (by kernel_rfl) (by kernel_rfl) (by kernel_rfl) (fun _ _ _ h => h) (Or.inl ⟨by rfl, ?yqae8⟩) (by assumption) ?rqae8
            case yqae8 => intro w hSw; (try dsimp only at hSw); go_simp <;> (try with_reducible rfl)
            (try simp only [List.getElem_toArray, List.getElem_cons_succ, List.getElem_cons_zero, Act.put, List.setIfInBounds_toArray, List.set_cons_zero, List.set_cons_succ])
            refine wpAnyH_take (i := 9) (v := ?vqae9) rfl (by kernel_rfl) (by kernel_rfl) (by kernel_rfl) (fun _ _ _ h => h) (Or.inl ⟨by rfl, ?yqae9⟩) (by assumption) ?rqae9
            case yqae9 => intro w hSw; (try dsimp only at hSw); go_simp <;> (try with_reducible rfl)
            (try simp only [List.getElem_toArray, List.getElem_cons_succ, List.getElem_cons_zero, Act.put, List.setIfInBounds_toArray, List.set_cons_zero, List.set_cons_succ])
            refine wpAnyH_take (i := 10) (v := ?vqae10) rfl (by kernel_rfl) (by kernel_rfl) (by kernel_rfl) (fun _ _ _ h => h) (Or.inl ⟨by rfl, ?yqae10⟩) (by assumption) ?rqae10
            case yqae10 => intro w hSw; (try dsimp only at hSw); go_simp <;> (try with_reducible rfl)
            (try simp only [List.getElem_toArray, List.getElem_cons_succ, List.getElem_cons_zero, Act.put, List.setIfInBounds_toArray, List.set_cons_zero, List.set_cons_succ])
            refine wpAnyH_take (i := 11) (v := ?vqae11) rfl (by kernel_rfl) (by kernel_rfl) (by kernel_rfl) (fun _ _ _ h => h) (Or.inl ⟨by rfl, ?yqae11⟩) (by assumption) ?rqae11
            case yqae11 => intro w hSw; (try dsimp only at hSw); go_simp <;> (try with_reducible rfl)
            (try simp only [List.getElem_toArray, List.getElem_cons_succ, List.getElem_cons_zero, Act.put, List.setIfInBounds_toArray, List.set_cons_zero, List.set_cons_succ])
            refine wpAnyH_take (i := 12) (v := ?vqae12) rfl (by kernel_rfl) (by kernel_rfl) (by kernel_rfl) (fun _ _ _ h => h) (Or.inl ⟨by rfl, ?yqae12⟩) (by assumption) ?rqae12
            case yqae12 => intro w hSw; (try dsimp only at hSw); go_simp <;> (try with_reducible rfl)
            (try simp only [List.getElem_toArray, List.getElem_cons_succ, List.getElem_cons_zero, Act.put, List.setIfInBounds_toArray, List.set_cons_zero, List.set_cons_succ])
            refine wpAnyH_take (i := 13) (v := ?vqae13) rfl (by kernel_rfl) (by kernel_rfl) (by kernel_rfl) (fun _ _ _ h => h) (Or.inl ⟨by rfl, ?yqae13⟩) (by assumption) ?rqae13
            case yqae13 => intro w hSw; have hSc := hSw.1; go_simp <;> (try with_reducible rfl)
            (try simp only [List.getElem_toArray, List.getElem_cons_succ, List.getElem_cons_zero, Act.put, List.setIfInBounds_toArray, List.set_cons_zero, List.set_cons_succ])
            refine wpAnyH_take (i := 14) (v := ?vqae14) rfl (by kernel_rfl) (by kernel_rfl) (by kernel_rfl) (fun _ _ _ h => h) (Or.inl ⟨by rfl, ?yqae14⟩) (by assumption) ?rqae14
            case yqae14 => intro w hSw; (try dsimp only at hSw); go_simp <;> (try with_reducible rfl)
            (try simp only [List.getElem_toArray, List.getElem_cons_succ, List.getElem_cons_zero, Act.put, List.setIfInBounds_toArray, List.set_cons_zero, List.set_cons_succ])
            have e1 := E1.out
            refine wpAnyH_take (i := 15) (v := ?vqae15) rfl (by kernel_rfl) (by kernel_rfl) (by kernel_rfl) (fun _ _ _ h => h) (Or.inl ⟨by rfl, ?yqae15⟩) (by assumption) ?rqae15
            case yqae15 => intro w hSw; (try dsimp only at hSw); go_simp <;> (try with_reducible rfl)
            (try simp only [List.getElem_toArray, List.getElem_cons_succ, List.getElem_cons_zero, Act.put, List.setIfInBounds_toArray, List.set_cons_zero, List.set_cons_succ])
            refine wpAnyH_take (i := 16) (v := ?vqae16) rfl (by kernel_rfl) (by kernel_rfl) (by kernel_rfl) (fun _ _ _ h => h) (Or.inl ⟨by rfl, ?yqae16⟩) (by assumption) ?rqae16
            case yqae16 => intro w hSw; (try dsimp only at hSw); go_simp <;> (try with_reducible rfl)
            (try simp only [List.getElem_toArray, List.getElem_cons_succ, List.getElem_cons_zero, Act.put, List.setIfInBounds_toArray, List.set_cons_zero, List.set_cons_succ])
            refine wpAnyH_take (i := 17) (v := undef) rfl (by kernel_rfl) (by kernel_rfl) (by kernel_rfl) (fun _ _ _ h => h) (Or.inr ⟨by rfl, rfl⟩) (by assumption) ?rqae17
            (try simp only [List.getElem_toArray, List.getElem_cons_succ, List.getElem_cons_zero, Act.put, List.setIfInBounds_toArray, List.set_cons_zero, List.set_cons_succ])
            refine wpAnyH_take (i := 18) (v := undef) rfl (by kernel_rfl) (by kernel_rfl) (by kernel_rfl) (fun _ _ _ h => h) (Or.inr ⟨by rfl, rfl⟩) (by assumption) ?rqae18
            (try simp only [List.getElem_toArray, List.getElem_cons_succ, List.getElem_cons_zero, Act.put, List.setIfInBounds_toArray, List.set_cons_zero, List.set_cons_succ])
            refine wpAnyH_take (i := 19) (v := undef) rfl (by kernel_rfl) (by kernel_rfl) (by kernel_rfl) (fun _ _ _ h => h) (Or.inr ⟨by rfl, rfl⟩) (by assumption) ?rqae19
            (try simp only [List.getElem_toArray, List.getElem_cons_succ, List.getElem_cons_zero, Act.put, List.setIfInBounds_toArray, List.set_cons_zero, List.set_cons_succ])
            refine wpAnyH_take (i := 20) (v := undef) rfl (by kernel_rfl) (by kernel_rfl) (by kernel_rfl) (fun _ _ _ h => h) (Or.inr ⟨by rfl, rfl⟩) (by assumption) ?rqae20
            (try simp only [List.getElem_toArray, List.getElem_cons_succ, List.getElem_cons_zero, Act.put, List.setIfInBounds_toArray, List.set_cons_zero, List.set_cons_succ])
            refine wpAnyH_take (i := 21) (v := ?vqae21) rfl (by kernel_rfl) (by kernel_rfl) (by kernel_rfl) (fun _ _ _ h => h) (Or.inl ⟨by rfl, ?yqae21⟩) (by assumption) ?rqae21
            case yqae21 => intro w hSw; (try dsimp only at hSw); go_simp <;> (try with_reducible rfl)
            (try simp only [List.getElem_toArray, List.getElem_cons_succ, List.getElem_cons_zero, Act.put, List.setIfInBounds_toArray, List.set_cons_zero, List.set_cons_succ])
            refine wpAnyH_take (i := 22) (v := ?vqae22) rfl (by kernel_rfl) (by kernel_rfl) (by kernel_rfl) (fun _ _ _ h => h) (Or.inl ⟨by rfl, ?yqae22⟩) (by assumption) ?rqae22
            case yqae22 => intro w hSw; (try dsimp only at hSw); go_simp <;> (try with_reducible rfl)
            (try simp only [List.getElem_toArray, List.getElem_cons_succ, List.getElem_cons_zero, Act.put, List.setIfInBounds_toArray, List.set_cons_zero, List.set_cons_succ])
            refine wpAnyH_take (i := 23) (v := ?vqae23) rfl (by kernel_rfl) (by kernel_rfl) (by kernel_rfl) (fun _ _ _ h => h) (Or.inl ⟨by rfl, ?yqae23⟩) (by assumption) ?rqae23
            case yqae23 => intro w hSw; (try dsimp only at hSw); go_simp <;> (try with_reducible rfl)
            (try simp only [List.getElem_toArray, List.getElem_cons_succ, List.getElem_cons_zero, Act.put, List.setIfInBounds_toArray, List.set_cons_zero, List.set_cons_succ])
            refine wpAnyH_take (i := 24) (v := ?vqae24) rfl (by kernel_rfl) (by kernel_rfl) (by kernel_rfl) (fun _ _ _ h => h) (Or.inl ⟨by rfl, ?yqae24⟩) (by assumption) ?rqae24
            case yqae24 => intro w hSw; (try dsimp only at hSw); go_simp <;> (try with_reducible rfl)
            (try simp only [List.getElem_toArray, List.getElem_cons_succ, List.getElem_cons_zero, Act.put, List.setIfInBounds_toArray, List.set_cons_zero, List.set_cons_succ])
            refine wpAnyH_take (i := 25) (v := ?vqae25) rfl (by kernel_rfl) (by kernel_rfl) (by kernel_rfl) (fun _ _ _ h => h) (Or.inl ⟨by rfl, ?yqae25⟩) (by assumption) ?rqae25
            case yqae25 => intro w hSw; have hSc := hSw.2.1; go_simp <;> (try with_reducible rfl)
            (try simp only [List.getElem_toArray, List.getElem_cons_succ, List.getElem_cons_zero, Act.put, List.setIfInBounds_toArray, List.set_cons_zero, List.set_cons_succ])
            refine wpAnyH_take (i := 26) (v := ?vqae26) rfl (by kernel_rfl) (by kernel_rfl) (by kernel_rfl) (fun _ _ _ h => h) (Or.inl ⟨by rfl, ?yqae26⟩) (by assumption) ?rqae26
            case yqae26 => intro w hSw; (try dsimp only at hSw); go_simp <;> (try with_reducible rfl)
            (try simp only [List.getElem_toArray, List.getElem_cons_succ, List.getElem_cons_zero, Act.put, List.setIfInBounds_toArray, List.set_cons_zero, List.set_cons_succ])
            refine wpAnyH_take (i := 27) (v := ?vqae27) rfl (by kernel_rfl) (by kernel_rfl) (by kernel_rfl) (fun _ _ _ h => h) (Or.inl ⟨by rfl, ?yqae27⟩) (by assumption) ?rqae27
            case yqae27 => intro w hSw; (try dsimp only at hSw); go_simp <;> (try with_reducible rfl)
            (try simp only [List.getElem_toArray, List.getElem_cons_succ, List.getElem_cons_zero, Act.put, List.setIfInBounds_toArray, List.set_cons_zero, List.set_cons_succ])
            refine wpAnyH_take (i := 28) (v := ?vqae28) rfl (by kernel_rfl) (by kernel_rfl) (by kernel_rfl) (fun _ _ _ h => h) (Or.inl ⟨by rfl, ?yqae28⟩) (by assumption) ?rqae28
            case yqae28 => intro w hSw; (try dsimp only at hSw); go_simp <;> (try with_reducible rfl)
            (try simp only [List.getElem_toArray, List.getElem_cons_succ, List.getElem_cons_zero, Act.put, List.setIfInBounds_toArray, List.set_cons_zero, List.set_cons_succ])
            refine wpAnyH_take (i := 29) (v := ?vqae29) rfl (by kernel_rfl) (by kernel_rfl) (by kernel_rfl) (fun _ _ _ h => h) (Or.inl ⟨by rfl, ?yqae29⟩) (by assumption) ?rqae29
            case yqae29 => intro w hSw; (try dsimp only at hSw); go_simp <;> (try with_reducible rfl)
            (try simp only [List.getElem_toArray, List.getElem_cons_succ, List.getElem_cons_zero, Act.put, List.setIfInBounds_toArray, List.set_cons_zero, List.set_cons_succ])
            refine wpAnyH_take (i := 30) (v := ?vqae30) rfl (by kernel_rfl) (by kernel_rfl) (by kernel_rfl) (fun _ _ _ h => h) (Or.inl ⟨by rfl, ?yqae30⟩) (by assumption) ?rqae30
            case yqae30 => intro w hSw; have hSc := hSw.2.1; go_simp <;> (try with_reducible rfl)
            (try simp only [List.getElem_toArray, List.getElem_cons_succ, List.getElem_cons_zero, Act.put, List.setIfInBounds_toArray, List.set_cons_zero, List.set_cons_succ])
            refine wpAnyH_take (i := 31) (v := ?vqae31) rfl (by kernel_rfl) (by kernel_rfl) (by kernel_rfl) (fun _ _ _ h => h) (Or.inl ⟨by rfl, ?yqae31⟩) (by assumption) ?rqae31
            case yqae31 => intro w hSw; (try dsimp only at hSw); go_simp <;> (try with_reducible rfl)
            (try simp only [List.getElem_toArray, List.getElem_cons_succ, List.getElem_cons_zero, Act.put, List.setIfInBounds_toArray, List.set_cons_zero, List.set_cons_succ])
            refine wpAnyH_take (i := 32) (v := ?vqae32) rfl (by kernel_rfl) (by kernel_rfl) (by kernel_rfl) (fun _ _ _ h => h) (Or.inl ⟨by rfl, ?yqae32⟩) (by assumption) ?rqae32
            case yqae32 => intro w hSw; (try dsimp only at hSw); go_simp <;> (try with_reducible rfl)
            (try simp only [List.getElem_toArray, List.getElem_cons_succ, List.getElem_cons_zero, Act.put, List.setIfInBounds_toArray, List.set_cons_zero, List.set_cons_succ])
            refine wpAnyH_take (i := 33) (v := ?vqae33) rfl (by kernel_rfl) (by kernel_rfl) (by kernel_rfl) (fun _ _ _ h => h) (Or.inl ⟨by rfl, ?yqae33⟩) (by assumption) ?rqae33
            case yqae33 => intro w hSw; have hSc := hSw.2.2.1; go_simp <;> (try with_reducible rfl)
            (try simp only [List.getElem_toArray, List.getElem_cons_succ, List.getElem_cons_zero, Act.put, List.setIfInBounds_toArray, List.set_cons_zero, List.set_cons_succ])
            refine wpAnyH_take (i := 34) (v := ?vqae34) rfl (by kernel_rfl) (by kernel_rfl) (by kernel_rfl) (fun _ _ _ h => h) (Or.inl ⟨by rfl, ?yqae34⟩) (by assumption) ?rqae34
            case yqae34 => intro w hSw; (try dsimp only at hSw); go_simp <;> (try with_reducible rfl)
            (try simp only [List.getElem_toArray, List.getElem_cons_succ, List.getElem_cons_zero, Act.put, List.setIfInBounds_toArray, List.set_cons_zero, List.set_cons_succ])
            refine wpAnyH_take (i := 35) (v := ?vqae35) rfl (by kernel_rfl) (by kernel_rfl) (by kernel_rfl) (fun _ _ _ h => h) (Or.inl ⟨by rfl, ?yqae35⟩) (by assumption) ?rqae35
            case yqae35 => intro w hSw; (try dsimp only at hSw); go_simp <;> (try with_reducible rfl)
            (try simp only [List.getElem_toArray, List.getElem_cons_succ, List.getElem_cons_zero, Act.put, List.setIfInBounds_toArray, List.set_cons_zero, List.set_cons_succ])
            refine wpAnyH_take (i := 36) (v := ?vqae36) rfl (by kernel_rfl) (by kernel_rfl) (by kernel_rfl) (fun _ _ _ h => h) (Or.inl ⟨by rfl, ?yqae36⟩) (by assumption) ?rqae36
            case yqae36 => intro w hSw; (try dsimp only at hSw); go_simp <;> (try with_reducible rfl)
            (try simp only [List.getElem_toArray, List.getElem_cons_succ, List.getElem_cons_zero, Act.put, List.setIfInBounds_toArray, List.set_cons_zero, List.set_cons_succ])
            refine wpAnyH_take (i := 37) (v := ?vqae37) rfl (by kernel_rfl) (by kernel_rfl) (by kernel_rfl) (fun _ _ _ h => h) (Or.inl ⟨by rfl, ?yqae37⟩) (by assumption) ?rqae37
            case yqae37 => intro w hSw; (try dsimp only at hSw); go_simp <;> (try with_reducible rfl)
            (try simp only [List.getElem_toArray, List.getElem_cons_succ, List.getElem_cons_zero, Act.put, List.setIfInBounds_toArray, List.set_cons_zero, List.set_cons_succ])
            refine wpAnyH_take (i := 38) (v := ?vqae38) rfl (by kernel_rfl) (by kernel_rfl) (by kernel_rfl) (fun _ _ _ h => h) (Or.inl ⟨by rfl, ?yqae38⟩) (by assumption) ?rqae38
            case yqae38 => intro w hSw; have hSc := hSw.1; go_simp <;> (try with_reducible rfl)
            (try simp only [List.getElem_toArray, List.getElem_cons_succ, List.getElem_cons_zero, Act.put, List.setIfInBounds_toArray, List.set_cons_zero, List.set_cons_succ])
            refine wpAnyH_take (i := 39) (v := ?vqae39) rfl (by kernel_rfl) (by kernel_rfl) (by kernel_rfl) (fun _ _ _ h => h) (Or.inl ⟨by rfl, ?yqae39⟩) (by assumption) ?rqae39
            case yqae39 => intro w hSw; (try dsimp only at hSw); go_simp <;> (try with_reducible rfl)
            (try simp only [List.getElem_toArray, List.getElem_cons_succ, List.getElem_cons_zero, Act.put, List.setIfInBounds_toArray, List.set_cons_zero, List.set_cons_succ])
            refine wpAnyH_take (i := 40) (v := ?vqae40) rfl (by kernel_rfl) (by kernel_rfl) (by kernel_rfl) (fun _ _ _ h => h) (Or.inl ⟨by rfl, ?yqae40⟩) (by assumption) ?rqae40
            case yqae40 => intro w hSw; (try dsimp only at hSw); go_simp <;> (try with_reducible rfl)
            (try simp only [List.getElem_toArray, List.getElem_cons_succ, List.getElem_cons_zero, Act.put, List.setIfInBounds_toArray, List.set_cons_zero, List.set_cons_succ])
            refine wpAnyH_take (i := 41) (v := ?vqae41) rfl (by kernel_rfl) (by kernel_rfl) (by kernel_rfl) (fun _ _ _ h => h) (Or.inl ⟨by rfl, ?yqae41⟩) (by assumption) ?rqae41
            case yqae41 => intro w hSw; have hSc := hSw.2.2.2.1; go_simp <;> (try with_reducible rfl)
            (try simp only [List.getElem_toArray, List.getElem_cons_succ, List.getElem_cons_zero, Act.put, List.setIfInBounds_toArray, List.set_cons_zero, List.set_cons_succ])
            refine wpAnyH_take (i := 42) (v := ?vqae42) rfl (by kernel_rfl) (by kernel_rfl) (by kernel_rfl) (fun _ _ _ h => h) (Or.inl ⟨by rfl, ?yqae42⟩) (by assumption) ?rqae42
            case yqae42 => intro w hSw; (try dsimp only at hSw); go_simp <;> (try with_reducible rfl)
            (try simp only [List.getElem_toArray, List.getElem_cons_succ, List.getElem_cons_zero, Act.put, List.setIfInBounds_toArray, List.set_cons_zero, List.set_cons_succ])
            refine wpAnyH_take (i := 43) (v := ?vqae43) rfl (by kernel_rfl) (by kernel_rfl) (by kernel_rfl) (fun _ _ _ h => h) (Or.inl ⟨by rfl, ?yqae43⟩) (by assumption) ?rqae43
            case yqae43 => intro w hSw; (try dsimp only at hSw); go_simp <;> (try with_reducible rfl)
            (try simp only [List.getElem_toArray, List.getElem_cons_succ, List.getElem_cons_zero, Act.put, List.setIfInBounds_toArray, List.set_cons_zero, List.set_cons_succ])
            refine wpAnyH_take (i := 44) (v := ?vqae44) rfl (by kernel_rfl) (by kernel_rfl) (by kernel_rfl) (fun _ _ _ h => h) (Or.inl ⟨by rfl, ?yqae44⟩) (by assumption) ?rqae44
            case yqae44 => intro w hSw; (try dsimp only at hSw); go_simp <;> (try with_reducible rfl)
            (try simp only [List.getElem_toArray, List.getElem_cons_succ, List.getElem_cons_zero, Act.put, List.setIfInBounds_toArray, List.set_cons_zero, List.set_cons_succ])
            refine wpAnyH_take (i := 45) (v := ?vqae45) rfl (by kernel_rfl) (by kernel_rfl) (by kernel_rfl) (fun _ _ _ h => h) (Or.inl ⟨by rfl, ?yqae45⟩) (by assumption) ?rqae45
            case yqae45 => intro w hSw; (try dsimp only at hSw); go_simp <;> (try with_reducible rfl)
            (try simp only [List.getElem_toArray, List.getElem_cons_succ, List.getElem_cons_zero, Act.put, List.setIfInBounds_toArray, List.set_cons_zero, List.set_cons_succ])
            refine wpAnyH_take (i := 46) (v := ?vqae46) rfl (by kernel_rfl) (by kernel_rfl) (by kernel_rfl) (fun _ _ _ h => h) (Or.inl ⟨by rfl, ?yqae46⟩) (by assumption) ?rqae46
            case yqae46 => intro w hSw; (try dsimp only at hSw); go_simp <;> (try with_reducible rfl)
            (try simp only [List.getElem_toArray, List.getElem_cons_succ, List.getElem_cons_zero, Act.put, List.setIfInBounds_toArray, List.set_cons_zero, List.set_cons_succ])
            refine wpAnyH_take (i := 47) (v := ?vqae47) rfl (by kernel_rfl) (by kernel_rfl) (by kernel_rfl) (fun _ _ _ h => h) (Or.inl ⟨by rfl, ?yqae47⟩) (by assumption) ?rqae47
            case yqae47 => intro w hSw; have hSc := hSw.2.2.1; go_simp <;> (try with_reducible rfl)
            (try simp only [List.getElem_toArray, List.getElem_cons_succ, List.getElem_cons_zero, Act.put, List.setIfInBounds_toArray, List.set_cons_zero, List.set_cons_succ])
            refine wpAnyH_take (i := 48) (v := ?vqae48) rfl (by kernel_rfl) (by kernel_rfl) (by kernel_rfl) (fun _ _ _ h => h) (Or.inl ⟨by rfl, ?yqae48⟩) (by assumption) ?rqae48
            case yqae48 => intro w hSw; (try dsimp only at hSw); go_simp <;> (try with_reducible rfl)
            (try simp only [List.getElem_toArray, List.getElem_cons_succ, List.getElem_cons_zero, Act.put, List.setIfInBounds_toArray, List.set_cons_zero, List.set_cons_succ])
            refine wpAnyH_take (i := 49) (v := ?vqae49) rfl (by kernel_rfl) (by kernel_rfl) (by kernel_rfl) (fun _ _ _ h => h) (Or.inl ⟨by rfl, ?yqae49⟩) (by assumption) ?rqae49
            case yqae49 => intro w hSw; (try dsimp only at hSw); go_simp <;> (try with_reducible rfl)
            (try simp only [List.getElem_toArray, List.getElem_cons_succ, List.getElem_cons_zero, Act.put, List.setIfInBounds_toArray, List.set_cons_zero, List.set_cons_succ])
            refine wpAnyH_take (i := 50) (v := ?vqae50) rfl (by kernel_rfl) (by kernel_rfl) (by kernel_rfl) (fun _ _ _ h => h) (Or.inl ⟨by rfl, ?yqae50⟩) (by assumption) ?rqae50
            case yqae50 => intro w hSw; have hSc := hSw.2.2.2.2; go_simp <;> (try with_reducible rfl)
            (try simp only [List.getElem_toArray, List.getElem_cons_succ, List.getElem_cons_zero, Act.put, List.setIfInBounds_toArray, List.set_cons_zero, List.set_cons_succ])
            refine wpAnyH_take (i := 51) (v := ?vqae51) rfl (by kernel_rfl) (by kernel_rfl) (by kernel_rfl) (fun _ _ _ h => h) (Or.inl ⟨by rfl, ?yqae51⟩) (by assumption) ?rqae51
            case yqae51 => intro w hSw; (try dsimp only at hSw); go_simp <;> (try with_reducible rfl)
            (try simp only [List.getElem_toArray, List.getElem_cons_succ, List.getElem_cons_zero, Act.put, List.setIfInBounds_toArray, List.set_cons_zero, List.set_cons_succ])
            refine wpAnyH_take (i := 52) (v := ?vqae52) rfl (by kernel_rfl) (by kernel_rfl) (by kernel_rfl) (fun _ _ _ h => h) (Or.inl ⟨by rfl, ?yqae52⟩) (by assumption) ?rqae52
            case yqae52 => intro w hSw; (try dsimp only at hSw); go_simp <;> (try with_reducible rfl)
            (try simp only [List.getElem_toArray, List.getElem_cons_succ, List.getElem_cons_zero, Act.put, List.setIfInBounds_toArray, List.set_cons_zero, List.set_cons_succ])
            refine wpAnyH_take (i := 53) (v := ?vqae53) rfl (by kernel_rfl) (by kernel_rfl) (by kernel_rfl) (fun _ _ _ h => h) (Or.inl ⟨by rfl, ?yqae53⟩) (by assumption) ?rqae53
            case yqae53 => intro w hSw; (try dsimp only at hSw); go_simp <;> (try with_reducible rfl)
            (try simp only [List.getElem_toArray, List.getElem_cons_succ, List.getElem_cons_zero, Act.put, List.setIfInBounds_toArray, List.set_cons_zero, List.set_cons_succ])
            refine wpAnyH_take (i := 54) (v := ?vqae54) rfl (by kernel_rfl) (by kernel_rfl) (by kernel_rfl) (fun _ _ _ h => h) (Or.inl ⟨by rfl, ?yqae54⟩) (by assumption) ?rqae54
            case yqae54 => intro w hSw; (try dsimp only at hSw); go_simp <;> (try with_reducible rfl)
            (try simp only [List.getElem_toArray, List.getElem_cons_succ, List.getElem_cons_zero, Act.put, List.setIfInBounds_toArray, List.set_cons_zero, List.set_cons_succ])
            refine wpAnyH_take (i := 55) (v := ?vqae55) rfl (by kernel_rfl) (by kernel_rfl) (by kernel_rfl) (fun _ _ _ h => h) (Or.inl ⟨by rfl, ?yqae55⟩) (by assumption) ?rqae55
            case yqae55 => intro w hSw; (try dsimp only at hSw); go_simp <;> (try with_reducible rfl)
            (try simp only [List.getElem_toArray, List.getElem_cons_succ, List.getElem_cons_zero, Act.put, List.setIfInBounds_toArray, List.set_cons_zero, List.set_cons_succ])
            refine wpAnyH_take (i := 56) (v := ?vqae56) rfl (by kernel_rfl) (by kernel_rfl) (by kernel_rfl) (fun _ _ _ h => h) (Or.inl ⟨by rfl, ?yqae56⟩) (by assumption) ?rqae56
            case yqae56 => intro w hSw; have hSc := hSw.2.2.2.2; go_simp <;> (try with_reducible rfl)
            (try simp only [List.getElem_toArray, List.getElem_cons_succ, List.getElem_cons_zero, Act.put, List.setIfInBounds_toArray, List.set_cons_zero, List.set_cons_succ])
            refine wpAnyH_take (i := 57) (v := ?vqae57) rfl (by kernel_rfl) (by kernel_rfl) (by kernel_rfl) (fun _ _ _ h => h) (Or.inl ⟨by rfl, ?yqae57⟩) (by assumption) ?rqae57
            case yqae57 => intro w hSw; (try dsimp only at hSw); go_simp <;> (try with_reducible rfl)
            (try simp only [List.getElem_toArray, List.getElem_cons_succ, List.getElem_cons_zero, Act.put, List.setIfInBounds_toArray, List.set_cons_zero, List.set_cons_succ])
            refine wpAnyH_take (i := 58) (v := ?vqae58) rfl (by kernel_rfl) (by kernel_rfl) (by kernel_rfl) (fun _ _ _ h => h) (Or.inl ⟨by rfl, ?yqae58⟩) (by assumption) ?rqae58
            case yqae58 => intro w hSw; (try dsimp only at hSw); go_simp <;> (try with_reducible rfl)
            (try simp only [List.getElem_toArray, List.getElem_cons_succ, List.getElem_cons_zero, Act.put, List.setIfInBounds_toArray, List.set_cons_zero, List.set_cons_succ])
            refine wpAnyH_take (i := 59) (v := ?vqae59) rfl (by kernel_rfl) (by kernel_rfl) (by kernel_rfl) (fun _ _ _ h => h) (Or.inl ⟨by rfl, ?yqae59⟩) (by assumption) ?rqae59
            case yqae59 => intro w hSw; (try dsimp only at hSw); go_simp <;> (try with_reducible rfl)
            (try simp only [List.getElem_toArray, List.getElem_cons_succ, List.getElem_cons_zero, Act.put, List.setIfInBounds_toArray, List.set_cons_zero, List.set_cons_succ])
            refine wpAnyH_take (i := 60) (v := ?vqae60) rfl (by kernel_rfl) (by kernel_rfl) (by kernel_rfl) (fun _ _ _ h => h) (Or.inl ⟨by rfl, ?yqae60⟩) (by assumption) ?rqae60
            case yqae60 => intro w hSw; (try dsimp only at hSw); go_simp <;> (try with_reducible rfl)
            (try simp only [List.getElem_toArray, List.getElem_cons_succ, List.getElem_cons_zero, Act.put, List.setIfInBounds_toArray, List.set_cons_zero, List.set_cons_succ])
            refine wpAnyH_take (i := 61) (v := ?vqae61) rfl (by kernel_rfl) (by kernel_rfl) (by kernel_rfl) (fun _ _ _ h => h) (Or.inl ⟨by rfl, ?yqae61⟩) (by assumption) ?rqae61
            case yqae61 => intro w hSw; (try dsimp only at hSw); go_simp <;> (try with_reducible rfl)
            (try simp only [List.getElem_toArray, List.getElem_cons_succ, List.getElem_cons_zero, Act.put, List.setIfInBounds_toArray, List.set_cons_zero, List.set_cons_succ])
            refine wpAnyH_take (i := 62) (v := ?vqae62) rfl (by kernel_rfl) (by kernel_rfl) (by kernel_rfl) (fun _ _ _ h => h) (Or.inl ⟨by rfl, ?yqae62⟩) (by assumption) ?rqae62
            case yqae62 => intro w hSw; (try dsimp only at hSw); go_simp <;> (try with_reducible rfl)
            (try simp only [List.getElem_toArray, List.getElem_cons_succ, List.getElem_cons_zero, Act.put, List.setIfInBounds_toArray, List.set_cons_zero, List.set_cons_succ])
            refine wpAnyH_take (i := 63) (v := ?vqae63) rfl (by kernel_rfl) (by kernel_rfl) (by kernel_rfl) (fun _ _ _ h => h) (Or.inl ⟨by rfl, ?yqae63⟩) (by assumption) ?rqae63
            case yqae63 => intro w hSw; (try dsimp only at hSw); go_simp <;> (try with_reducible rfl)
            (try simp only [List.getElem_toArray, List.getElem_cons_succ, List.getElem_cons_zero, Act.put, List.setIfInBounds_toArray, List.set_cons_zero, List.set_cons_succ])
            refine wpAnyH_take (i := 64) (v := ?vqae64) rfl (by kernel_rfl) (by kernel_rfl) (by kernel_rfl) (fun _ _ _ h => h) (Or.inl ⟨by rfl, ?yqae64⟩) (by assumption) ?rqae64
            case yqae64 => intro w hSw; (try dsimp only at hSw); go_simp <;> (try with_reducible rfl)
            (try simp only [List.getElem_toArray, List.getElem_cons_succ, List.getElem_cons_zero, Act.put, List.setIfInBounds_toArray, List.set_cons_zero, List.set_cons_succ])
            refine wpAnyH_done (by kernel_rfl) ?_ _
            clear hHeld 
            have H1 : Hid (IvRel ln L1 g3 (flatT T ++ R3) g5 (Ls.map Value.string) g9 [Value.int .i64 (K : Int), .int .i64 (N1 : Int), .string X, .int .i64 (L1 : Int), .int .i64 (C1 : Int)] w (.int .i64 (ln : Int)) w13) := (⟨ln, Nat.le_refl _, by have := HLE.out; omega, rfl, B3, B5, B9, hbe⟩ : IvRel ln L1 g3 (flatT T ++ R3) g5 (Ls.map Value.string) g9 [Value.int .i64 (K : Int), .int .i64 (N1 : Int), .string X, .int .i64 (L1 : Int), .int .i64 (C1 : Int)] w (.int .i64 (ln : Int)) w13)
            clear B3 B5 B9 hbe
            go_wp2
            go_loopw [10] (IvRel ln L1 g3 (flatT T ++ R3) g5 (Ls.map Value.string) g9 [Value.int .i64 (K : Int), .int .i64 (N1 : Int), .string X, .int .i64 (L1 : Int), .int .i64 (C1 : Int)] w) (fun a _ => L1 + 1 - (intOf a).toNat)
            case atStart => exact H1.out
            case round =>
              clear H1
              obtain ⟨j, hj1, hj2, rfl, B3, B5, B9, hbe⟩ := hrel
              by_cases hjl : j ≤ L1
              · skip
                have jle : (j : Int) ≤ (L1 : Int) := by omega
                obtain ⟨Y2, fa, fb, hseg⟩ := HSEG.out j hj1 hjl
                obtain ⟨j1, hj1e⟩ : ∃ x, j - 1 = x := ⟨_, rfl⟩
                have u1 : (j : Int) - 1 = (j1 : Int) := by have := hseg.ge; omega
                have u2 := wrap_small (x := j1) (by have := hseg.le; omega)
                have u3 : (0 : Int) ≤ (j1 : Int) := by omega
                have u4 : (j1 : Int) < (m : Int) := by have := hseg.le; omega
                have HYj : Hid ((Ls.map Value.string)[j1]? = some (.string Y2)) := (by rw [← hj1e]; exact hseg.at_ : (Ls.map Value.string)[j1]? = some (.string Y2))
                have HG := Lib.hid hseg
                clear hseg hj1e
                have z9_3 := B9.cell (k := 3) rfl
                go_wp2
                clear z9_3
                have hdd := below_drew wr
                have B3 := B3.next hdd B3.lt
                have B5 := B5.next hdd B5.lt
                have B9 := B9.next hdd B9.lt
                have hbe := below_join hbe hdd
                refine wp_region_held_drew (S := fun w' => w'.cell? ⟨g5, j1, none⟩ = some (.string Y2)) (by kernel_rfl) (B5.cell (k := j1) HYj.out) (fun hHeld => ?_)
                clear hdd
                generalize wr.drew = w15 at B3 B5 B9 hbe hHeld  ⊢
                refine wpAnyH_take (i := 0) (v := ?vqaf0) rfl (by kernel_rfl) (by kernel_rfl) (by kernel_rfl) (fun _ _ _ h => h) (Or.inl ⟨by rfl, ?yqaf0⟩) (by assumption) ?rqaf0
                case yqaf0 => intro w hSw; (try dsimp only at hSw); go_simp <;> (try with_reducible rfl)
                (try simp only [List.getElem_toArray, List.getElem_cons_zero, Act.put, List.setIfInBounds_toArray, List.set_cons_zero, List.set_cons_succ])
                refine wpAnyH_take (i := 1) (v := ?vqaf1) rfl (by kernel_rfl) (by kernel_rfl) (by kernel_rfl) (fun _ _ _ h => h) (Or.inl ⟨by rfl, ?yqaf1⟩) (by assumption) ?rqaf1
                case yqaf1 => intro w hSw; (try dsimp only at hSw); go_simp <;> (try with_reducible rfl)
                (try simp only [List.getElem_toArray, List.getElem_cons_succ, List.getElem_cons_zero, Act.put, List.setIfInBounds_toArray, List.set_cons_zero, List.set_cons_succ])
                refine wpAnyH_take (i := 2) (v := ?vqaf2) rfl (by kernel_rfl) (by kernel_rfl) (by kernel_rfl) (fun _ _ _ h => h) (Or.inl ⟨by rfl, ?yqaf2⟩) (by assumption) ?rqaf2
                case yqaf2 => intro w hSw; (try dsimp only at hSw); go_simp <;> (try with_reducible rfl)
                (try simp only [List.getElem_toArray, List.getElem_cons_succ, List.getElem_cons_zero, Act.put, List.setIfInBounds_toArray, List.set_cons_zero, List.set_cons_succ])
                refine wpAnyH_take (i := 3) (v := ?vqaf3) rfl (by kernel_rfl) (by kernel_rfl) (by kernel_rfl) (fun _ _ _ h => h) (Or.inl ⟨by rfl, ?yqaf3⟩) (by assumption) ?rqaf3
                case yqaf3 => intro w hSw; (try dsimp only at hSw); go_simp <;> (try with_reducible rfl)
                (try simp only [List.getElem_toArray, List.getElem_cons_succ, List.getElem_cons_zero, Act.put, List.setIfInBounds_toArray, List.set_cons_zero, List.set_cons_succ])
                refine wpAnyH_take (i := 4) (v := ?vqaf4) rfl (by kernel_rfl) (by kernel_rfl) (by kernel_rfl) (fun _ _ _ h => h) (Or.inl ⟨by rfl, ?yqaf4⟩) (by assumption) ?rqaf4
                case yqaf4 => intro w hSw; have hSc := hSw; go_simp <;> (try with_reducible rfl)
                (try simp only [List.getElem_toArray, List.getElem_cons_succ, List.getElem_cons_zero, Act.put, List.setIfInBounds_toArray, List.set_cons_zero, List.set_cons_succ])
                refine wpAnyH_take (i := 5) (v := ?vqaf5) rfl (by kernel_rfl) (by kernel_rfl) (by kernel_rfl) (fun _ _ _ h => h) (Or.inl ⟨by rfl, ?yqaf5⟩) (by assumption) ?rqaf5
                case yqaf5 => intro w hSw; (try dsimp only at hSw); go_simp <;> (try with_reducible rfl)
                (try simp only [List.getElem_toArray, List.getElem_cons_succ, List.getElem_cons_zero, Act.put, List.setIfInBounds_toArray, List.set_cons_zero, List.set_cons_succ])
                refine wpAnyH_take (i := 6) (v := ?vqaf6) rfl (by kernel_rfl) (by kernel_rfl) (by kernel_rfl) (fun _ _ _ h => h) (Or.inl ⟨by rfl, ?yqaf6⟩) (by assumption) ?rqaf6
                case yqaf6 => intro w hSw; (try dsimp only at hSw); go_simp <;> (try with_reducible rfl)
                (try simp only [List.getElem_toArray, List.getElem_cons_succ, List.getElem_cons_zero, Act.put, List.setIfInBounds_toArray, List.set_cons_zero, List.set_cons_succ])
                refine wpAnyH_take (i := 7) (v := ?vqaf7) rfl (by kernel_rfl) (by kernel_rfl) (by kernel_rfl) (fun _ _ _ h => h) (Or.inl ⟨by rfl, ?yqaf7⟩) (by assumption) ?rqaf7
                case yqaf7 => intro w hSw; (try dsimp only at hSw); go_simp <;> (try with_reducible rfl)
                (try simp only [List.getElem_toArray, List.getElem_cons_succ, List.getElem_cons_zero, Act.put, List.setIfInBounds_toArray, List.set_cons_zero, List.set_cons_succ])
                refine wpAnyH_done (by kernel_rfl) ?_ _
                clear hHeld 
                by_cases hA : j = ln
                · have hB : ¬ j = L1 := by have := HE.out; omega
                  have ea : ((j : Int) == (ln : Int)) = true := by rw [hA]; exact beq_self_eq_true _
                  have v1 : (cl : Int) - 1 = (fa : Int) := by have := HG.out.a1 hA; have := HLE.out; omega
                  have v2 := wrap_small (x := fa) (by have := HG.out.ab; have := HG.out.bl; have := HG.out.small; omega)
                  have eb : ((j : Int) == (L1 : Int)) = false := beq_eq_false_iff_ne.2 (fun e => hB (Int.ofNat_inj.1 e))
                  obtain rfl : Y2.size = fb := (HG.out.b2 hB).symm
                  have hab : fa ≤ Y2.size := HG.out.ab
                  have hbl : Y2.size ≤ Y2.size := HG.out.bl
                  have hsm : Y2.size ≤ 2000 := HG.out.small
                  have x1 : (0 : Int) ≤ (fa : Int) := by omega
                  have x2 : (fa : Int) ≤ (Y2.size : Int) := by omega
                  have x3 : (Y2.size : Int) ≤ (Y2.size : Int) := by omega
                  have HB := Lib.hid hB
                  clear hA hB
                  have htr := HG.out.tr
                  have hco := HG.out.co
                  have HTR := Lib.hid htr
                  have HCO := Lib.hid hco
                  have hXs : (Y2.extract fa Y2.size).size ≤ 2000 := by rw [ByteArray.size_extract]; omega
                  have HXS := Lib.hid hXs
                  clear htr hco hXs
                  have z9_3 := B9.cell (k := 3) rfl
                  have z9_4 := B9.cell (k := 4) rfl
                  have zy := B5.cell (k := j1) HYj.out
                  go_wp2_with fail
                  (with_reducible refine (cut_gap (X := (Y2.extract fa Y2.size)) HXS.out HTR.out _ (HQ.out.next hbe)).mono ?_)
                  rintro e w16 ⟨⟨G, GR, cb, rfl, hG1, hG2, hG3⟩, hb16⟩
                  clear z9_3 z9_4 zy
                  have B3 := B3.next hb16 B3.lt
                  have B5 := B5.next hb16 B5.lt
                  have B9 := B9.next hb16 B9.lt
                  have hbe := below_join hbe hb16
                  clear hb16
                  go_wp2_with fail
                  (with_reducible refine (trim_gap hG1 hG2 _).mono ?_)
                  rintro e w17 ⟨⟨Z, rfl, hZ1, hZ2⟩, hb17⟩
                  have B3 := B3.next hb17 B3.lt
                  have B5 := B5.next hb17 B5.lt
                  have B9 := B9.next hb17 B9.lt
                  have hbe := below_join hbe hb17
                  clear hb17
                  have hco2 := HCO.out
                  rw [hG3] at hco2
                  clear hG1 hG2 hG3 HCO HTR HXS hab hbl hsm x1 x2 x3
                  cases cb with
                  | false =>
                    clear hco2
                    have z9_0 := B9.cell (k := 0) rfl
                    have z9_3 := B9.cell (k := 3) rfl
                    go_wp2
                    go_roundw
                    case rel => exact ⟨j + 1, by omega, by omega, by go_num, B3, B5, B9, hbe⟩
                    case measure => simp [intOf]; omega
                  | true =>
                    clear hco2
                    have z9_0 := B9.cell (k := 0) rfl
                    have z9_3 := B9.cell (k := 3) rfl
                    go_wp2
                    go_roundw
                    case rel => exact ⟨j + 1, by omega, by omega, by go_num, B3, B5, B9, hbe⟩
                    case measure => simp [intOf]; omega
                · by_cases hB : j = L1
                  · skip
                    have ea : ((j : Int) == (ln : Int)) = false := beq_eq_false_iff_ne.2 (fun e => hA (Int.ofNat_inj.1 e))
                    obtain rfl : 0 = fa := (HG.out.a2 hA).symm
                    have eb : ((j : Int) == (L1 : Int)) = true := by rw [hB]; exact beq_self_eq_true _
                    obtain rfl : C1m = fb := by have := HG.out.b1 hB; have := HCm.out; omega
                    have hab : 0 ≤ C1m := HG.out.ab
                    have hbl : C1m ≤ Y2.size := HG.out.bl
                    have hsm : Y2.size ≤ 2000 := HG.out.small
                    have x1 : (0 : Int) ≤ (0 : Int) := by omega
                    have x2 : (0 : Int) ≤ (C1m : Int) := by omega
                    have x3 : (C1m : Int) ≤ (Y2.size : Int) := by omega
                    have HB := Lib.hid hB
                    clear hA hB
                    have htr := HG.out.tr
                    have hco := HG.out.co
                    have HTR := Lib.hid htr
                    have HCO := Lib.hid hco
                    have hXs : (Y2.extract 0 C1m).size ≤ 2000 := by rw [ByteArray.size_extract]; omega
                    have HXS := Lib.hid hXs
                    clear htr hco hXs
                    have z9_3 := B9.cell (k := 3) rfl
                    have z9_4 := B9.cell (k := 4) rfl
                    have zy := B5.cell (k := j1) HYj.out
                    go_wp2_with fail
                    (with_reducible refine (cut_gap (X := (Y2.extract 0 C1m)) HXS.out HTR.out _ (HQ.out.next hbe)).mono ?_)
                    rintro e w16 ⟨⟨G, GR, cb, rfl, hG1, hG2, hG3⟩, hb16⟩
                    clear z9_3 z9_4 zy
                    have B3 := B3.next hb16 B3.lt
                    have B5 := B5.next hb16 B5.lt
                    have B9 := B9.next hb16 B9.lt
                    have hbe := below_join hbe hb16
                    clear hb16
                    go_wp2_with fail
                    (with_reducible refine (trim_gap hG1 hG2 _).mono ?_)
                    rintro e w17 ⟨⟨Z, rfl, hZ1, hZ2⟩, hb17⟩
                    have B3 := B3.next hb17 B3.lt
                    have B5 := B5.next hb17 B5.lt
                    have B9 := B9.next hb17 B9.lt
                    have hbe := below_join hbe hb17
                    clear hb17
                    have hco2 := HCO.out
                    rw [hG3] at hco2
                    clear hG1 hG2 hG3 HCO HTR HXS hab hbl hsm x1 x2 x3
                    cases cb with
                    | false =>
                      clear hco2
                      have z9_0 := B9.cell (k := 0) rfl
                      have z9_3 := B9.cell (k := 3) rfl
                      go_wp2
                      go_roundw
                      case rel => exact ⟨j + 1, by omega, by omega, by go_num, B3, B5, B9, hbe⟩
                      case measure => simp [intOf]; omega
                    | true =>
                      obtain rfl : kb = true := by
                        cases kb with
                        | true => rfl
                        | false => exact absurd (hco2 rfl HB.out) (by decide)
                      clear hco2
                      have z9_0 := B9.cell (k := 0) rfl
                      have z9_3 := B9.cell (k := 3) rfl
                      go_wp2
                      go_roundw
                      case rel => exact ⟨j + 1, by omega, by omega, by go_num, B3, B5, B9, hbe⟩
                      case measure => simp [intOf]; omega
                  · skip
                    have ea : ((j : Int) == (ln : Int)) = false := beq_eq_false_iff_ne.2 (fun e => hA (Int.ofNat_inj.1 e))
                    obtain rfl : 0 = fa := (HG.out.a2 hA).symm
                    have eb : ((j : Int) == (L1 : Int)) = false := beq_eq_false_iff_ne.2 (fun e => hB (Int.ofNat_inj.1 e))
                    obtain rfl : Y2.size = fb := (HG.out.b2 hB).symm
                    have hXw : Y2.extract 0 Y2.size = Y2 := by simp
                    have hab : 0 ≤ Y2.size := HG.out.ab
                    have hbl : Y2.size ≤ Y2.size := HG.out.bl
                    have hsm : Y2.size ≤ 2000 := HG.out.small
                    have x1 : (0 : Int) ≤ (0 : Int) := by omega
                    have x2 : (0 : Int) ≤ (Y2.size : Int) := by omega
                    have x3 : (Y2.size : Int) ≤ (Y2.size : Int) := by omega
                    have HB := Lib.hid hB
                    clear hA hB
                    have htr := HG.out.tr
                    have hco := HG.out.co
                    rw [hXw] at htr hco
                    have HTR := Lib.hid htr
                    have HCO := Lib.hid hco
                    have hXs : Y2.size ≤ 2000 := by exact hsm
                    have HXS := Lib.hid hXs
                    clear htr hco hXs
                    have z9_3 := B9.cell (k := 3) rfl
                    have z9_4 := B9.cell (k := 4) rfl
                    have zy := B5.cell (k := j1) HYj.out
                    go_wp2_with fail
                    (with_reducible refine (cut_gap (X := Y2) HXS.out HTR.out _ (HQ.out.next hbe)).mono ?_)
                    rintro e w16 ⟨⟨G, GR, cb, rfl, hG1, hG2, hG3⟩, hb16⟩
                    clear z9_3 z9_4 zy
                    have B3 := B3.next hb16 B3.lt
                    have B5 := B5.next hb16 B5.lt
                    have B9 := B9.next hb16 B9.lt
                    have hbe := below_join hbe hb16
                    clear hb16
                    go_wp2_with fail
                    (with_reducible refine (trim_gap hG1 hG2 _).mono ?_)
                    rintro e w17 ⟨⟨Z, rfl, hZ1, hZ2⟩, hb17⟩
                    have B3 := B3.next hb17 B3.lt
                    have B5 := B5.next hb17 B5.lt
                    have B9 := B9.next hb17 B9.lt
                    have hbe := below_join hbe hb17
                    clear hb17
                    have hco2 := HCO.out
                    rw [hG3] at hco2
                    clear hG1 hG2 hG3 HCO HTR HXS hab hbl hsm x1 x2 x3
                    cases cb with
                    | false =>
                      clear hco2
                      have z9_0 := B9.cell (k := 0) rfl
                      have z9_3 := B9.cell (k := 3) rfl
                      go_wp2
                      go_roundw
                      case rel => exact ⟨j + 1, by omega, by omega, by go_num, B3, B5, B9, hbe⟩
                      case measure => simp [intOf]; omega
                    | true =>
                      clear hco2
                      have z9_0 := B9.cell (k := 0) rfl
                      have z9_3 := B9.cell (k := 3) rfl
                      go_wp2
                      go_roundw
                      case rel => exact ⟨j + 1, by omega, by omega, by go_num, B3, B5, B9, hbe⟩
                      case measure => simp [intOf]; omega
              · skip
                have jle : ¬ (j : Int) ≤ (L1 : Int) := by omega
                have y1 : (0 : Int) ≤ (C1m : Int) := by omega
                have y4 : C1m ≤ CX := by have := HCX.out; omega
                have y5 : CX ≤ Y.size := by omega
                have y2 : (C1m : Int) ≤ (CX : Int) := by omega
                have y3 : (CX : Int) ≤ (Y.size : Int) := by omega
                have z9_3 := B9.cell (k := 3) rfl
                go_wp2
                clear z9_3
                have hdd := below_drew wr
                have B3 := B3.next hdd B3.lt
                have B5 := B5.next hdd B5.lt
                have B9 := B9.next hdd B9.lt
                have hbe := below_join hbe hdd
                refine wp_region_held_drew (S := fun w' => w'.cell? ⟨g9, 3, none⟩ = some (.int .i64 (L1 : Int)) ∧ w'.cell? ⟨g5, L1m, none⟩ = some (.string Y) ∧ w'.cell? ⟨g9, 4, none⟩ = some (.int .i64 (C1 : Int)) ∧ w'.cell? ⟨g9, 2, none⟩ = some (.string X)) (by kernel_rfl) ⟨B9.cell (k := 3) rfl, B5.cell (k := L1m) HY.out, B9.cell (k := 4) rfl, B9.cell (k := 2) rfl⟩ (fun hHeld => ?_)
                clear hdd
                generalize wr.drew = w18 at B3 B5 B9 hbe hHeld  ⊢
                have hcut := HCUT.out
                rw [HCm.out, HCX.out] at hcut
                refine wpAnyH_take (i := 0) (v := ?vqag0) rfl (by kernel_rfl) (by kernel_rfl) (by kernel_rfl) (fun _ _ _ h => h) (Or.inl ⟨by rfl, ?yqag0⟩) (by assumption) ?rqag0
                case yqag0 => intro w hSw; (try dsimp only at hSw); go_simp <;> (try with_reducible rfl)
                (try simp only [List.getElem_toArray, List.getElem_cons_zero, Act.put, List.setIfInBounds_toArray, List.set_cons_zero, List.set_cons_succ])
                refine wpAnyH_take (i := 1) (v := ?vqag1) rfl (by kernel_rfl) (by kernel_rfl) (by kernel_rfl) (fun _ _ _ h => h) (Or.inl ⟨by rfl, ?yqag1⟩) (by assumption) ?rqag1
                case yqag1 => intro w hSw; (try dsimp only at hSw); go_simp <;> (try with_reducible rfl)
                (try simp only [List.getElem_toArray, List.getElem_cons_succ, List.getElem_cons_zero, Act.put, List.setIfInBounds_toArray, List.set_cons_zero, List.set_cons_succ])
                refine wpAnyH_take (i := 2) (v := ?vqag2) rfl (by kernel_rfl) (by kernel_rfl) (by kernel_rfl) (fun _ _ _ h => h) (Or.inl ⟨by rfl, ?yqag2⟩) (by assumption) ?rqag2
                case yqag2 => intro w hSw; have hSc := hSw.1; go_simp <;> (try with_reducible rfl)
                (try simp only [List.getElem_toArray, List.getElem_cons_succ, List.getElem_cons_zero, Act.put, List.setIfInBounds_toArray, List.set_cons_zero, List.set_cons_succ])
                refine wpAnyH_take (i := 3) (v := ?vqag3) rfl (by kernel_rfl) (by kernel_rfl) (by kernel_rfl) (fun _ _ _ h => h) (Or.inl ⟨by rfl, ?yqag3⟩) (by assumption) ?rqag3
                case yqag3 => intro w hSw; (try dsimp only at hSw); go_simp <;> (try with_reducible rfl)
                (try simp only [List.getElem_toArray, List.getElem_cons_succ, List.getElem_cons_zero, Act.put, List.setIfInBounds_toArray, List.set_cons_zero, List.set_cons_succ])
                refine wpAnyH_take (i := 4) (v := ?vqag4) rfl (by kernel_rfl) (by kernel_rfl) (by kernel_rfl) (fun _ _ _ h => h) (Or.inl ⟨by rfl, ?yqag4⟩) (by assumption) ?rqag4
                case yqag4 => intro w hSw; (try dsimp only at hSw); go_simp <;> (try with_reducible rfl)
                (try simp only [List.getElem_toArray, List.getElem_cons_succ, List.getElem_cons_zero, Act.put, List.setIfInBounds_toArray, List.set_cons_zero, List.set_cons_succ])
                refine wpAnyH_take (i := 5) (v := ?vqag5) rfl (by kernel_rfl) (by kernel_rfl) (by kernel_rfl) (fun _ _ _ h => h) (Or.inl ⟨by rfl, ?yqag5⟩) (by assumption) ?rqag5
                case yqag5 => intro w hSw; have hSc := hSw.2.1; go_simp <;> (try with_reducible rfl)
                (try simp only [List.getElem_toArray, List.getElem_cons_succ, List.getElem_cons_zero, Act.put, List.setIfInBounds_toArray, List.set_cons_zero, List.set_cons_succ])
                refine wpAnyH_take (i := 6) (v := ?vqag6) rfl (by kernel_rfl) (by kernel_rfl) (by kernel_rfl) (fun _ _ _ h => h) (Or.inl ⟨by rfl, ?yqag6⟩) (by assumption) ?rqag6
                case yqag6 => intro w hSw; (try dsimp only at hSw); go_simp <;> (try with_reducible rfl)
                (try simp only [List.getElem_toArray, List.getElem_cons_succ, List.getElem_cons_zero, Act.put, List.setIfInBounds_toArray, List.set_cons_zero, List.set_cons_succ])
                refine wpAnyH_take (i := 7) (v := ?vqag7) rfl (by kernel_rfl) (by kernel_rfl) (by kernel_rfl) (fun _ _ _ h => h) (Or.inl ⟨by rfl, ?yqag7⟩) (by assumption) ?rqag7
                case yqag7 => intro w hSw; have hSc := hSw.2.2.1; go_simp <;> (try with_reducible rfl)
                (try simp only [List.getElem_toArray, List.getElem_cons_succ, List.getElem_cons_zero, Act.put, List.setIfInBounds_toArray, List.set_cons_zero, List.set_cons_succ])
                refine wpAnyH_take (i := 8) (v := ?vqag8) rfl (by kernel_rfl) (by kernel_rfl) (by kernel_rfl) (fun _ _ _ h => h) (Or.inl ⟨by rfl, ?yqag8⟩) (by assumption) ?rqag8
                case yqag8 => intro w hSw; (try dsimp only at hSw); go_simp <;> (try with_reducible rfl)
                (try simp only [List.getElem_toArray, List.getElem_cons_succ, List.getElem_cons_zero, Act.put, List.setIfInBounds_toArray, List.set_cons_zero, List.set_cons_succ])
                refine wpAnyH_take (i := 9) (v := ?vqag9) rfl (by kernel_rfl) (by kernel_rfl) (by kernel_rfl) (fun _ _ _ h => h) (Or.inl ⟨by rfl, ?yqag9⟩) (by assumption) ?rqag9
                case yqag9 => intro w hSw; (try dsimp only at hSw); go_simp <;> (try with_reducible rfl)
                (try simp only [List.getElem_toArray, List.getElem_cons_succ, List.getElem_cons_zero, Act.put, List.setIfInBounds_toArray, List.set_cons_zero, List.set_cons_succ])
                refine wpAnyH_take (i := 10) (v := ?vqag10) rfl (by kernel_rfl) (by kernel_rfl) (by kernel_rfl) (fun _ _ _ h => h) (Or.inl ⟨by rfl, ?yqag10⟩) (by assumption) ?rqag10
                case yqag10 => intro w hSw; have hSc := hSw.2.2.1; go_simp <;> (try with_reducible rfl)
                (try simp only [List.getElem_toArray, List.getElem_cons_succ, List.getElem_cons_zero, Act.put, List.setIfInBounds_toArray, List.set_cons_zero, List.set_cons_succ])
                refine wpAnyH_take (i := 11) (v := ?vqag11) rfl (by kernel_rfl) (by kernel_rfl) (by kernel_rfl) (fun _ _ _ h => h) (Or.inl ⟨by rfl, ?yqag11⟩) (by assumption) ?rqag11
                case yqag11 => intro w hSw; (try dsimp only at hSw); go_simp <;> (try with_reducible rfl)
                (try simp only [List.getElem_toArray, List.getElem_cons_succ, List.getElem_cons_zero, Act.put, List.setIfInBounds_toArray, List.set_cons_zero, List.set_cons_succ])
                refine wpAnyH_take (i := 12) (v := ?vqag12) rfl (by kernel_rfl) (by kernel_rfl) (by kernel_rfl) (fun _ _ _ h => h) (Or.inl ⟨by rfl, ?yqag12⟩) (by assumption) ?rqag12
                case yqag12 => intro w hSw; (try dsimp only at hSw); go_simp <;> (try with_reducible rfl)
                (try simp only [List.getElem_toArray, List.getElem_cons_succ, List.getElem_cons_zero, Act.put, List.setIfInBounds_toArray, List.set_cons_zero, List.set_cons_succ])
                refine wpAnyH_take (i := 13) (v := ?vqag13) rfl (by kernel_rfl) (by kernel_rfl) (by kernel_rfl) (fun _ _ _ h => h) (Or.inl ⟨by rfl, ?yqag13⟩) (by assumption) ?rqag13
                case yqag13 => intro w hSw; have hSc := hSw.2.2.2; go_simp <;> (try with_reducible rfl)
                (try simp only [List.getElem_toArray, List.getElem_cons_succ, List.getElem_cons_zero, Act.put, List.setIfInBounds_toArray, List.set_cons_zero, List.set_cons_succ])
                refine wpAnyH_take (i := 14) (v := ?vqag14) rfl (by kernel_rfl) (by kernel_rfl) (by kernel_rfl) (fun _ _ _ h => h) (Or.inl ⟨by rfl, ?yqag14⟩) (by assumption) ?rqag14
                case yqag14 => intro w hSw; (try dsimp only at hSw); go_simp <;> (try with_reducible rfl)
                (try simp only [List.getElem_toArray, List.getElem_cons_succ, List.getElem_cons_zero, Act.put, List.setIfInBounds_toArray, List.set_cons_zero, List.set_cons_succ])
                refine wpAnyH_take (i := 15) (v := ?vqag15) rfl (by kernel_rfl) (by kernel_rfl) (by kernel_rfl) (fun _ _ _ h => h) (Or.inl ⟨by rfl, ?yqag15⟩) (by assumption) ?rqag15
                case yqag15 => intro w hSw; (try dsimp only at hSw); go_simp <;> (try with_reducible rfl)
                (try simp only [List.getElem_toArray, List.getElem_cons_succ, List.getElem_cons_zero, Act.put, List.setIfInBounds_toArray, List.set_cons_zero, List.set_cons_succ])
                refine wpAnyH_take (i := 16) (v := ?vqag16) rfl (by kernel_rfl) (by kernel_rfl) (by kernel_rfl) (fun _ _ _ h => h) (Or.inl ⟨by rfl, ?yqag16⟩) (by assumption) ?rqag16
                case yqag16 => intro w hSw; (try dsimp only at hSw); go_simp <;> (try with_reducible rfl)
                (try simp only [List.getElem_toArray, List.getElem_cons_succ, List.getElem_cons_zero, Act.put, List.setIfInBounds_toArray, List.set_cons_zero, List.set_cons_succ])
                refine wpAnyH_take (i := 17) (v := ?vqag17) rfl (by kernel_rfl) (by kernel_rfl) (by kernel_rfl) (fun _ _ _ h => h) (Or.inl ⟨by rfl, ?yqag17⟩) (by assumption) ?rqag17
                case yqag17 => intro w hSw; (try dsimp only at hSw); go_simp <;> (try with_reducible rfl)
                (try simp only [List.getElem_toArray, List.getElem_cons_succ, List.getElem_cons_zero, Act.put, List.setIfInBounds_toArray, List.set_cons_zero, List.set_cons_succ])
                refine wpAnyH_take (i := 18) (v := ?vqag18) rfl (by kernel_rfl) (by kernel_rfl) (by kernel_rfl) (fun _ _ _ h => h) (Or.inl ⟨by rfl, ?yqag18⟩) (by assumption) ?rqag18
                case yqag18 => intro w hSw; have hSc := hSw.2.2.2; go_simp <;> (try with_reducible rfl)
                (try simp only [List.getElem_toArray, List.getElem_cons_succ, List.getElem_cons_zero, Act.put, List.setIfInBounds_toArray, List.set_cons_zero, List.set_cons_succ])
                refine wpAnyH_take (i := 19) (v := ?vqag19) rfl (by kernel_rfl) (by kernel_rfl) (by kernel_rfl) (fun _ _ _ h => h) (Or.inl ⟨by rfl, ?yqag19⟩) (by assumption) ?rqag19
                case yqag19 => intro w hSw; (try dsimp only at hSw); go_simp <;> (try with_reducible rfl)
                (try simp only [List.getElem_toArray, List.getElem_cons_succ, List.getElem_cons_zero, Act.put, List.setIfInBounds_toArray, List.set_cons_zero, List.set_cons_succ])
                refine wpAnyH_take (i := 20) (v := ?vqag20) rfl (by kernel_rfl) (by kernel_rfl) (by kernel_rfl) (fun _ _ _ h => h) (Or.inl ⟨by rfl, ?yqag20⟩) (by assumption) ?rqag20
                case yqag20 => intro w hSw; (try dsimp only at hSw); go_simp <;> (try with_reducible rfl)
                (try simp only [List.getElem_toArray, List.getElem_cons_succ, List.getElem_cons_zero, Act.put, List.setIfInBounds_toArray, List.set_cons_zero, List.set_cons_succ])
                refine wpAnyH_take (i := 21) (v := ?vqag21) rfl (by kernel_rfl) (by kernel_rfl) (by kernel_rfl) (fun _ _ _ h => h) (Or.inl ⟨by rfl, ?yqag21⟩) (by assumption) ?rqag21
                case yqag21 => intro w hSw; (try dsimp only at hSw); go_simp <;> (try with_reducible rfl)
                (try simp only [List.getElem_toArray, List.getElem_cons_succ, List.getElem_cons_zero, Act.put, List.setIfInBounds_toArray, List.set_cons_zero, List.set_cons_succ])
                refine wpAnyH_take (i := 22) (v := ?vqag22) rfl (by kernel_rfl) (by kernel_rfl) (by kernel_rfl) (fun _ _ _ h => h) (Or.inl ⟨by rfl, ?yqag22⟩) (by assumption) ?rqag22
                case yqag22 => intro w hSw; have hSc := hSw.2.2.2; go_simp <;> (try with_reducible rfl)
                (try simp only [List.getElem_toArray, List.getElem_cons_succ, List.getElem_cons_zero, Act.put, List.setIfInBounds_toArray, List.set_cons_zero, List.set_cons_succ])
                refine wpAnyH_ready (rs := [23]) (by kernel_rfl) (by simp) ?_
                refine AllReadyH.cons rfl (fun K hK => ?_) AllReadyH.nil
                go_simp
                go_wp2_with fail
                (with_reducible refine (contains_no H10.out _).mono ?_)
                rintro e w19 ⟨rfl, hb19⟩
                have B3 := B3.next hb19 B3.lt
                have B5 := B5.next hb19 B5.lt
                have B9 := B9.next hb19 B9.lt
                have hbe := below_join hbe hb19
                refine hK.out _ _ ⟨B9.cell (k := 3) rfl, B5.cell (k := L1m) HY.out, B9.cell (k := 4) rfl, B9.cell (k := 2) rfl⟩ (fun hHeld => ?_)
                clear hK K hb19
                refine wpAnyH_take (i := 24) (v := ?vqag24) rfl (by kernel_rfl) (by kernel_rfl) (by kernel_rfl) (fun _ _ _ h => h) (Or.inl ⟨by rfl, ?yqag24⟩) (by assumption) ?rqag24
                case yqag24 => intro w hSw; (try dsimp only at hSw); go_simp <;> (try with_reducible rfl)
                (try simp only [List.getElem_toArray, List.getElem_cons_succ, List.getElem_cons_zero, Act.put, List.setIfInBounds_toArray, List.set_cons_zero, List.set_cons_succ])
                refine wpAnyH_done (by kernel_rfl) ?_ _
                clear hHeld 
                go_wp2
                have hdd := below_drew w19
                have B3 := B3.next hdd B3.lt
                have B5 := B5.next hdd B5.lt
                have B9 := B9.next hdd B9.lt
                have hbe := below_join hbe hdd
                refine wp_region_held_drew (S := fun w' => w'.cell? ⟨g9, 3, none⟩ = some (.int .i64 (L1 : Int)) ∧ w'.cell? ⟨g9, 4, none⟩ = some (.int .i64 (C1 : Int)) ∧ w'.cell? ⟨g9, 2, none⟩ = some (.string X)) (by kernel_rfl) ⟨B9.cell (k := 3) rfl, B9.cell (k := 4) rfl, B9.cell (k := 2) rfl⟩ (fun hHeld => ?_)
                clear hdd
                generalize w19.drew = w20 at B3 B5 B9 hbe hHeld  ⊢
                refine wpAnyH_take (i := 0) (v := ?vqah0) rfl (by kernel_rfl) (by kernel_rfl) (by kernel_rfl) (fun _ _ _ h => h) (Or.inl ⟨by rfl, ?yqah0⟩) (by assumption) ?rqah0
                case yqah0 => intro w hSw; (try dsimp only at hSw); go_simp <;> (try with_reducible rfl)
                (try simp only [List.getElem_toArray, List.getElem_cons_zero, Act.put, List.setIfInBounds_toArray, List.set_cons_zero, List.set_cons_succ])
                refine wpAnyH_take (i := 1) (v := ?vqah1) rfl (by kernel_rfl) (by kernel_rfl) (by kernel_rfl) (fun _ _ _ h => h) (Or.inl ⟨by rfl, ?yqah1⟩) (by assumption) ?rqah1
                case yqah1 => intro w hSw; have hSc := hSw.1; go_simp <;> (try with_reducible rfl)
                (try simp only [List.getElem_toArray, List.getElem_cons_succ, List.getElem_cons_zero, Act.put, List.setIfInBounds_toArray, List.set_cons_zero, List.set_cons_succ])
                refine wpAnyH_take (i := 2) (v := ?vqah2) rfl (by kernel_rfl) (by kernel_rfl) (by kernel_rfl) (fun _ _ _ h => h) (Or.inl ⟨by rfl, ?yqah2⟩) (by assumption) ?rqah2
                case yqah2 => intro w hSw; (try dsimp only at hSw); go_simp <;> (try with_reducible rfl)
                (try simp only [List.getElem_toArray, List.getElem_cons_succ, List.getElem_cons_zero, Act.put, List.setIfInBounds_toArray, List.set_cons_zero, List.set_cons_succ])
                refine wpAnyH_take (i := 3) (v := ?vqah3) rfl (by kernel_rfl) (by kernel_rfl) (by kernel_rfl) (fun _ _ _ h => h) (Or.inl ⟨by rfl, ?yqah3⟩) (by assumption) ?rqah3
                case yqah3 => intro w hSw; have hSc := hSw.2.1; go_simp <;> (try with_reducible rfl)
                (try simp only [List.getElem_toArray, List.getElem_cons_succ, List.getElem_cons_zero, Act.put, List.setIfInBounds_toArray, List.set_cons_zero, List.set_cons_succ])
                refine wpAnyH_take (i := 4) (v := ?vqah4) rfl (by kernel_rfl) (by kernel_rfl) (by kernel_rfl) (fun _ _ _ h => h) (Or.inl ⟨by rfl, ?yqah4⟩) (by assumption) ?rqah4
                case yqah4 => intro w hSw; (try dsimp only at hSw); go_simp <;> (try with_reducible rfl)
                (try simp only [List.getElem_toArray, List.getElem_cons_succ, List.getElem_cons_zero, Act.put, List.setIfInBounds_toArray, List.set_cons_zero, List.set_cons_succ])
                refine wpAnyH_take (i := 5) (v := ?vqah5) rfl (by kernel_rfl) (by kernel_rfl) (by kernel_rfl) (fun _ _ _ h => h) (Or.inl ⟨by rfl, ?yqah5⟩) (by assumption) ?rqah5
                case yqah5 => intro w hSw; have hSc := hSw.2.2; go_simp <;> (try with_reducible rfl)
                (try simp only [List.getElem_toArray, List.getElem_cons_succ, List.getElem_cons_zero, Act.put, List.setIfInBounds_toArray, List.set_cons_zero, List.set_cons_succ])
                refine wpAnyH_take (i := 6) (v := ?vqah6) rfl (by kernel_rfl) (by kernel_rfl) (by kernel_rfl) (fun _ _ _ h => h) (Or.inl ⟨by rfl, ?yqah6⟩) (by assumption) ?rqah6
                case yqah6 => intro w hSw; (try dsimp only at hSw); go_simp <;> (try with_reducible rfl)
                (try simp only [List.getElem_toArray, List.getElem_cons_succ, List.getElem_cons_zero, Act.put, List.setIfInBounds_toArray, List.set_cons_zero, List.set_cons_succ])
                refine wpAnyH_take (i := 7) (v := ?vqah7) rfl (by kernel_rfl) (by kernel_rfl) (by kernel_rfl) (fun _ _ _ h => h) (Or.inl ⟨by rfl, ?yqah7⟩) (by assumption) ?rqah7
                case yqah7 => intro w hSw; (try dsimp only at hSw); go_simp <;> (try with_reducible rfl)
                (try simp only [List.getElem_toArray, List.getElem_cons_succ, List.getElem_cons_zero, Act.put, List.setIfInBounds_toArray, List.set_cons_zero, List.set_cons_succ])
                refine wpAnyH_take (i := 8) (v := ?vqah8) rfl (by kernel_rfl) (by kernel_rfl) (by kernel_rfl) (fun _ _ _ h => h) (Or.inl ⟨by rfl, ?yqah8⟩) (by assumption) ?rqah8
                case yqah8 => intro w hSw; (try dsimp only at hSw); go_simp <;> (try with_reducible rfl)
                (try simp only [List.getElem_toArray, List.getElem_cons_succ, List.getElem_cons_zero, Act.put, List.setIfInBounds_toArray, List.set_cons_zero, List.set_cons_succ])
                refine wpAnyH_take (i := 9) (v := ?vqah9) rfl (by kernel_rfl) (by kernel_rfl) (by kernel_rfl) (fun _ _ _ h => h) (Or.inl ⟨by rfl, ?yqah9⟩) (by assumption) ?rqah9
                case yqah9 => intro w hSw; (try dsimp only at hSw); go_simp <;> (try with_reducible rfl)
                (try simp only [List.getElem_toArray, List.getElem_cons_succ, List.getElem_cons_zero, Act.put, List.setIfInBounds_toArray, List.set_cons_zero, List.set_cons_succ])
                refine wpAnyH_done (by kernel_rfl) ?_ _
                clear hHeld 
                go_wp2
                go_roundw
                case rel => exact ⟨k + 1, L1, C2, hlt, by go_num, rfl, rfl, fun h => HS10.out (fun e => by
                    have h1 := congrArg List.length e
                    rw [List.length_drop, hn.out] at h1
                    simp at h1
                    omega), B3, B5, hbe⟩
                case measure => simp [intOf]; omega
      · as_aux_lemma =>
          have hki : ¬ (k : Int) < (n : Int) := by omega
          obtain ⟨Y, f3, f4, f5, f6⟩ := last_mem hsz hn.out hm.out HLS.out R3 HLAST.out
          obtain ⟨n1, hn1e⟩ : ∃ x, n - 1 = x := ⟨_, rfl⟩
          obtain ⟨m1, hm1e⟩ : ∃ x, m - 1 = x := ⟨_, rfl⟩
          have hm0 : 0 < m := by have := lines_count s.data.toList; have := hm.out; omega
          obtain ⟨YS, hYS⟩ : ∃ x, Y.size + 1 = x := ⟨_, rfl⟩
          rw [hn1e, hYS] at f4
          rw [hn1e] at f3
          rw [hm1e] at f5
          have p1 : (n : Int) - 1 = (n1 : Int) := by have := HN0.out; omega
          have p2 : (m : Int) - 1 = (m1 : Int) := by omega
          have p3 : (Y.size : Int) + 1 = (YS : Int) := by omega
          have p4 := wrap_small (x := n1) (by omega)
          have p5 := wrap_small (x := m1) (by omega)
          have p6 := wrap_small (x := YS) (by omega)
          have p7 : (0 : Int) ≤ (n1 : Int) := by omega
          have p8 : (n1 : Int) < (n : Int) := by have := HN0.out; omega
          have p9 : (0 : Int) ≤ (m1 : Int) := by omega
          have p10 : (m1 : Int) < (m : Int) := by omega
          have F3 := Lib.hid f3
          have F4 := Lib.hid f4
          have F5 := Lib.hid f5
          clear f3 f4 f5 f6 hn1e hm1e hYS hm0
          go_wp2
          have hdd := below_drew wr
          have B3 := B3.next hdd B3.lt
          have B5 := B5.next hdd B5.lt
          have hbe := below_join hbe hdd
          refine wp_region_held_drew (S := fun w' => w'.cell? ⟨g3, (n1 * 5 + 3), none⟩ = some (.int .i64 (m : Int)) ∧ w'.cell? ⟨g3, (n1 * 5 + 4), none⟩ = some (.int .i64 (YS : Int)) ∧ w'.cell? ⟨g5, m1, none⟩ = some (.string Y)) (by kernel_rfl) ⟨B3.cell F3.out, B3.cell F4.out, B5.cell F5.out⟩ (fun hHeld => ?_)
          clear hdd
          generalize wr.drew = w501 at B3 B5 hbe hHeld  ⊢
          refine wpAnyH_ready (rs := [0]) (by kernel_rfl) (by simp) ?_
          refine AllReadyH.cons rfl (fun K hK => ?_) AllReadyH.nil
          go_simp
          go_wp2_with fail
          (with_reducible refine (HS _ (HQ.out.next hbe)).mono ?_)
          rintro e w502 ⟨rfl, hb502⟩
          have B3 := B3.next hb502 B3.lt
          have B5 := B5.next hb502 B5.lt
          have hbe := below_join hbe hb502
          refine hK.out _ _ ⟨B3.cell F3.out, B3.cell F4.out, B5.cell F5.out⟩ (fun hHeld => ?_)
          clear hK K hb502
          refine wpAnyH_take (i := 1) (v := ?vqai1) rfl (by kernel_rfl) (by kernel_rfl) (by kernel_rfl) (fun _ _ _ h => h) (Or.inl ⟨by rfl, ?yqai1⟩) (by assumption) ?rqai1
          case yqai1 => intro w hSw; (try dsimp only at hSw); go_simp <;> (try with_reducible rfl)
          (try simp only [List.getElem_toArray, List.getElem_cons_succ, List.getElem_cons_zero, Act.put, List.setIfInBounds_toArray, List.set_cons_zero, List.set_cons_succ])
          refine wpAnyH_take (i := 2) (v := ?vqai2) rfl (by kernel_rfl) (by kernel_rfl) (by kernel_rfl) (fun _ _ _ h => h) (Or.inl ⟨by rfl, ?yqai2⟩) (by assumption) ?rqai2
          case yqai2 => intro w hSw; (try dsimp only at hSw); go_simp <;> (try with_reducible rfl)
          (try simp only [List.getElem_toArray, List.getElem_cons_succ, List.getElem_cons_zero, Act.put, List.setIfInBounds_toArray, List.set_cons_zero, List.set_cons_succ])
          refine wpAnyH_take (i := 3) (v := ?vqai3) rfl (by kernel_rfl) (by kernel_rfl) (by kernel_rfl) (fun _ _ _ h => h) (Or.inl ⟨by rfl, ?yqai3⟩) (by assumption) ?rqai3
          case yqai3 => intro w hSw; (try dsimp only at hSw); go_simp <;> (try with_reducible rfl)
          (try simp only [List.getElem_toArray, List.getElem_cons_succ, List.getElem_cons_zero, Act.put, List.setIfInBounds_toArray, List.set_cons_zero, List.set_cons_succ])
          refine wpAnyH_take (i := 4) (v := ?vqai4) rfl (by kernel_rfl) (by kernel_rfl) (by kernel_rfl) (fun _ _ _ h => h) (Or.inl ⟨by rfl, ?yqai4⟩) (by assumption) ?rqai4
          case yqai4 => intro w hSw; (try dsimp only at hSw); go_simp <;> (try with_reducible rfl)
          (try simp only [List.getElem_toArray, List.getElem_cons_succ, List.getElem_cons_zero, Act.put, List.setIfInBounds_toArray, List.set_cons_zero, List.set_cons_succ])
          refine wpAnyH_take (i := 5) (v := ?vqai5) rfl (by kernel_rfl) (by kernel_rfl) (by kernel_rfl) (fun _ _ _ h => h) (Or.inl ⟨by rfl, ?yqai5⟩) (by assumption) ?rqai5
          case yqai5 => intro w hSw; (try dsimp only at hSw); go_simp <;> (try with_reducible rfl)
          (try simp only [List.getElem_toArray, List.getElem_cons_succ, List.getElem_cons_zero, Act.put, List.setIfInBounds_toArray, List.set_cons_zero, List.set_cons_succ])
          refine wpAnyH_take (i := 6) (v := ?vqai6) rfl (by kernel_rfl) (by kernel_rfl) (by kernel_rfl) (fun _ _ _ h => h) (Or.inl ⟨by rfl, ?yqai6⟩) (by assumption) ?rqai6
          case yqai6 => intro w hSw; (try dsimp only at hSw); go_simp <;> (try with_reducible rfl)
          (try simp only [List.getElem_toArray, List.getElem_cons_succ, List.getElem_cons_zero, Act.put, List.setIfInBounds_toArray, List.set_cons_zero, List.set_cons_succ])
          refine wpAnyH_take (i := 7) (v := ?vqai7) rfl (by kernel_rfl) (by kernel_rfl) (by kernel_rfl) (fun _ _ _ h => h) (Or.inl ⟨by rfl, ?yqai7⟩) (by assumption) ?rqai7
          case yqai7 => intro w hSw; (try dsimp only at hSw); go_simp <;> (try with_reducible rfl)
          (try simp only [List.getElem_toArray, List.getElem_cons_succ, List.getElem_cons_zero, Act.put, List.setIfInBounds_toArray, List.set_cons_zero, List.set_cons_succ])
          refine wpAnyH_take (i := 8) (v := ?vqai8) rfl (by kernel_rfl) (by kernel_rfl) (by kernel_rfl) (fun _ _ _ h => h) (Or.inl ⟨by rfl, ?yqai8⟩) (by assumption) ?rqai8
          case yqai8 => intro w hSw; have hSc := hSw.1; go_simp <;> (try with_reducible rfl)
          (try simp only [List.getElem_toArray, List.getElem_cons_succ, List.getElem_cons_zero, Act.put, List.setIfInBounds_toArray, List.set_cons_zero, List.set_cons_succ])
          refine wpAnyH_take (i := 9) (v := ?vqai9) rfl (by kernel_rfl) (by kernel_rfl) (by kernel_rfl) (fun _ _ _ h => h) (Or.inl ⟨by rfl, ?yqai9⟩) (by assumption) ?rqai9
          case yqai9 => intro w hSw; (try dsimp only at hSw); go_simp <;> (try with_reducible rfl)
          (try simp only [List.getElem_toArray, List.getElem_cons_succ, List.getElem_cons_zero, Act.put, List.setIfInBounds_toArray, List.set_cons_zero, List.set_cons_succ])
          refine wpAnyH_take (i := 10) (v := ?vqai10) rfl (by kernel_rfl) (by kernel_rfl) (by kernel_rfl) (fun _ _ _ h => h) (Or.inl ⟨by rfl, ?yqai10⟩) (by assumption) ?rqai10
          case yqai10 => intro w hSw; (try dsimp only at hSw); go_simp <;> (try with_reducible rfl)
          (try simp only [List.getElem_toArray, List.getElem_cons_succ, List.getElem_cons_zero, Act.put, List.setIfInBounds_toArray, List.set_cons_zero, List.set_cons_succ])
          refine wpAnyH_take (i := 11) (v := ?vqai11) rfl (by kernel_rfl) (by kernel_rfl) (by kernel_rfl) (fun _ _ _ h => h) (Or.inl ⟨by rfl, ?yqai11⟩) (by assumption) ?rqai11
          case yqai11 => intro w hSw; (try dsimp only at hSw); go_simp <;> (try with_reducible rfl)
          (try simp only [List.getElem_toArray, List.getElem_cons_succ, List.getElem_cons_zero, Act.put, List.setIfInBounds_toArray, List.set_cons_zero, List.set_cons_succ])
          refine wpAnyH_take (i := 12) (v := ?vqai12) rfl (by kernel_rfl) (by kernel_rfl) (by kernel_rfl) (fun _ _ _ h => h) (Or.inl ⟨by rfl, ?yqai12⟩) (by assumption) ?rqai12
          case yqai12 => intro w hSw; (try dsimp only at hSw); go_simp <;> (try with_reducible rfl)
          (try simp only [List.getElem_toArray, List.getElem_cons_succ, List.getElem_cons_zero, Act.put, List.setIfInBounds_toArray, List.set_cons_zero, List.set_cons_succ])
          refine wpAnyH_take (i := 13) (v := ?vqai13) rfl (by kernel_rfl) (by kernel_rfl) (by kernel_rfl) (fun _ _ _ h => h) (Or.inl ⟨by rfl, ?yqai13⟩) (by assumption) ?rqai13
          case yqai13 => intro w hSw; (try dsimp only at hSw); go_simp <;> (try with_reducible rfl)
          (try simp only [List.getElem_toArray, List.getElem_cons_succ, List.getElem_cons_zero, Act.put, List.setIfInBounds_toArray, List.set_cons_zero, List.set_cons_succ])
          refine wpAnyH_take (i := 14) (v := ?vqai14) rfl (by kernel_rfl) (by kernel_rfl) (by kernel_rfl) (fun _ _ _ h => h) (Or.inl ⟨by rfl, ?yqai14⟩) (by assumption) ?rqai14
          case yqai14 => intro w hSw; (try dsimp only at hSw); go_simp <;> (try with_reducible rfl)
          (try simp only [List.getElem_toArray, List.getElem_cons_succ, List.getElem_cons_zero, Act.put, List.setIfInBounds_toArray, List.set_cons_zero, List.set_cons_succ])
          refine wpAnyH_take (i := 15) (v := ?vqai15) rfl (by kernel_rfl) (by kernel_rfl) (by kernel_rfl) (fun _ _ _ h => h) (Or.inl ⟨by rfl, ?yqai15⟩) (by assumption) ?rqai15
          case yqai15 => intro w hSw; (try dsimp only at hSw); go_simp <;> (try with_reducible rfl)
          (try simp only [List.getElem_toArray, List.getElem_cons_succ, List.getElem_cons_zero, Act.put, List.setIfInBounds_toArray, List.set_cons_zero, List.set_cons_succ])
          refine wpAnyH_take (i := 16) (v := ?vqai16) rfl (by kernel_rfl) (by kernel_rfl) (by kernel_rfl) (fun _ _ _ h => h) (Or.inl ⟨by rfl, ?yqai16⟩) (by assumption) ?rqai16
          case yqai16 => intro w hSw; (try dsimp only at hSw); go_simp <;> (try with_reducible rfl)
          (try simp only [List.getElem_toArray, List.getElem_cons_succ, List.getElem_cons_zero, Act.put, List.setIfInBounds_toArray, List.set_cons_zero, List.set_cons_succ])
          refine wpAnyH_take (i := 17) (v := ?vqai17) rfl (by kernel_rfl) (by kernel_rfl) (by kernel_rfl) (fun _ _ _ h => h) (Or.inl ⟨by rfl, ?yqai17⟩) (by assumption) ?rqai17
          case yqai17 => intro w hSw; (try dsimp only at hSw); go_simp <;> (try with_reducible rfl)
          (try simp only [List.getElem_toArray, List.getElem_cons_succ, List.getElem_cons_zero, Act.put, List.setIfInBounds_toArray, List.set_cons_zero, List.set_cons_succ])
          refine wpAnyH_take (i := 18) (v := ?vqai18) rfl (by kernel_rfl) (by kernel_rfl) (by kernel_rfl) (fun _ _ _ h => h) (Or.inl ⟨by rfl, ?yqai18⟩) (by assumption) ?rqai18
          case yqai18 => intro w hSw; (try dsimp only at hSw); go_simp <;> (try with_reducible rfl)
          (try simp only [List.getElem_toArray, List.getElem_cons_succ, List.getElem_cons_zero, Act.put, List.setIfInBounds_toArray, List.set_cons_zero, List.set_cons_succ])
          refine wpAnyH_take (i := 19) (v := ?vqai19) rfl (by kernel_rfl) (by kernel_rfl) (by kernel_rfl) (fun _ _ _ h => h) (Or.inl ⟨by rfl, ?yqai19⟩) (by assumption) ?rqai19
          case yqai19 => intro w hSw; (try dsimp only at hSw); go_simp <;> (try with_reducible rfl)
          (try simp only [List.getElem_toArray, List.getElem_cons_succ, List.getElem_cons_zero, Act.put, List.setIfInBounds_toArray, List.set_cons_zero, List.set_cons_succ])
          refine wpAnyH_take (i := 20) (v := ?vqai20) rfl (by kernel_rfl) (by kernel_rfl) (by kernel_rfl) (fun _ _ _ h => h) (Or.inl ⟨by rfl, ?yqai20⟩) (by assumption) ?rqai20
          case yqai20 => intro w hSw; have hSc := hSw.2.1; go_simp <;> (try with_reducible rfl)
          (try simp only [List.getElem_toArray, List.getElem_cons_succ, List.getElem_cons_zero, Act.put, List.setIfInBounds_toArray, List.set_cons_zero, List.set_cons_succ])
          refine wpAnyH_take (i := 21) (v := ?vqai21) rfl (by kernel_rfl) (by kernel_rfl) (by kernel_rfl) (fun _ _ _ h => h) (Or.inl ⟨by rfl, ?yqai21⟩) (by assumption) ?rqai21
          case yqai21 => intro w hSw; (try dsimp only at hSw); go_simp <;> (try with_reducible rfl)
          (try simp only [List.getElem_toArray, List.getElem_cons_succ, List.getElem_cons_zero, Act.put, List.setIfInBounds_toArray, List.set_cons_zero, List.set_cons_succ])
          refine wpAnyH_take (i := 22) (v := ?vqai22) rfl (by kernel_rfl) (by kernel_rfl) (by kernel_rfl) (fun _ _ _ h => h) (Or.inl ⟨by rfl, ?yqai22⟩) (by assumption) ?rqai22
          case yqai22 => intro w hSw; (try dsimp only at hSw); go_simp <;> (try with_reducible rfl)
          (try simp only [List.getElem_toArray, List.getElem_cons_succ, List.getElem_cons_zero, Act.put, List.setIfInBounds_toArray, List.set_cons_zero, List.set_cons_succ])
          refine wpAnyH_take (i := 23) (v := ?vqai23) rfl (by kernel_rfl) (by kernel_rfl) (by kernel_rfl) (fun _ _ _ h => h) (Or.inl ⟨by rfl, ?yqai23⟩) (by assumption) ?rqai23
          case yqai23 => intro w hSw; (try dsimp only at hSw); go_simp <;> (try with_reducible rfl)
          (try simp only [List.getElem_toArray, List.getElem_cons_succ, List.getElem_cons_zero, Act.put, List.setIfInBounds_toArray, List.set_cons_zero, List.set_cons_succ])
          refine wpAnyH_take (i := 24) (v := ?vqai24) rfl (by kernel_rfl) (by kernel_rfl) (by kernel_rfl) (fun _ _ _ h => h) (Or.inl ⟨by rfl, ?yqai24⟩) (by assumption) ?rqai24
          case yqai24 => intro w hSw; (try dsimp only at hSw); go_simp <;> (try with_reducible rfl)
          (try simp only [List.getElem_toArray, List.getElem_cons_succ, List.getElem_cons_zero, Act.put, List.setIfInBounds_toArray, List.set_cons_zero, List.set_cons_succ])
          refine wpAnyH_take (i := 25) (v := ?vqai25) rfl (by kernel_rfl) (by kernel_rfl) (by kernel_rfl) (fun _ _ _ h => h) (Or.inl ⟨by rfl, ?yqai25⟩) (by assumption) ?rqai25
          case yqai25 => intro w hSw; (try dsimp only at hSw); go_simp <;> (try with_reducible rfl)
          (try simp only [List.getElem_toArray, List.getElem_cons_succ, List.getElem_cons_zero, Act.put, List.setIfInBounds_toArray, List.set_cons_zero, List.set_cons_succ])
          refine wpAnyH_take (i := 26) (v := ?vqai26) rfl (by kernel_rfl) (by kernel_rfl) (by kernel_rfl) (fun _ _ _ h => h) (Or.inl ⟨by rfl, ?yqai26⟩) (by assumption) ?rqai26
          case yqai26 => intro w hSw; have hSc := hSw.2.2; go_simp <;> (try with_reducible rfl)
          (try simp only [List.getElem_toArray, List.getElem_cons_succ, List.getElem_cons_zero, Act.put, List.setIfInBounds_toArray, List.set_cons_zero, List.set_cons_succ])
          refine wpAnyH_take (i := 27) (v := ?vqai27) rfl (by kernel_rfl) (by kernel_rfl) (by kernel_rfl) (fun _ _ _ h => h) (Or.inl ⟨by rfl, ?yqai27⟩) (by assumption) ?rqai27
          case yqai27 => intro w hSw; (try dsimp only at hSw); go_simp <;> (try with_reducible rfl)
          (try simp only [List.getElem_toArray, List.getElem_cons_succ, List.getElem_cons_zero, Act.put, List.setIfInBounds_toArray, List.set_cons_zero, List.set_cons_succ])
          refine wpAnyH_take (i := 28) (v := ?vqai28) rfl (by kernel_rfl) (by kernel_rfl) (by kernel_rfl) (fun _ _ _ h => h) (Or.inl ⟨by rfl, ?yqai28⟩) (by assumption) ?rqai28
          case yqai28 => intro w hSw; (try dsimp only at hSw); go_simp <;> (try with_reducible rfl)
          (try simp only [List.getElem_toArray, List.getElem_cons_succ, List.getElem_cons_zero, Act.put, List.setIfInBounds_toArray, List.set_cons_zero, List.set_cons_succ])
          refine wpAnyH_take (i := 29) (v := ?vqai29) rfl (by kernel_rfl) (by kernel_rfl) (by kernel_rfl) (fun _ _ _ h => h) (Or.inl ⟨by rfl, ?yqai29⟩) (by assumption) ?rqai29
          case yqai29 => intro w hSw; (try dsimp only at hSw); go_simp <;> (try with_reducible rfl)
          (try simp only [List.getElem_toArray, List.getElem_cons_succ, List.getElem_cons_zero, Act.put, List.setIfInBounds_toArray, List.set_cons_zero, List.set_cons_succ])
          refine wpAnyH_take (i := 30) (v := ?vqai30) rfl (by kernel_rfl) (by kernel_rfl) (by kernel_rfl) (fun _ _ _ h => h) (Or.inl ⟨by rfl, ?yqai30⟩) (by assumption) ?rqai30
          case yqai30 => intro w hSw; (try dsimp only at hSw); go_simp <;> (try with_reducible rfl)
          (try simp only [List.getElem_toArray, List.getElem_cons_succ, List.getElem_cons_zero, Act.put, List.setIfInBounds_toArray, List.set_cons_zero, List.set_cons_succ])
          refine wpAnyH_take (i := 31) (v := ?vqai31) rfl (by kernel_rfl) (by kernel_rfl) (by kernel_rfl) (fun _ _ _ h => h) (Or.inl ⟨by rfl, ?yqai31⟩) (by assumption) ?rqai31
          case yqai31 => intro w hSw; (try dsimp only at hSw); go_simp <;> (try with_reducible rfl)
          (try simp only [List.getElem_toArray, List.getElem_cons_succ, List.getElem_cons_zero, Act.put, List.setIfInBounds_toArray, List.set_cons_zero, List.set_cons_succ])
          refine wpAnyH_done (by kernel_rfl) ?_ _
          clear hHeld 
          go_wp2
          go_ret
          exact ⟨rfl, hbe⟩
end Go.Proofs.YtcefaipjncohmaaGreatDoor
