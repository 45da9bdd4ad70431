/-
  Contract of the walk over the reference's Parse. Conditions: the library's variables lie there.
-/
import Derived.Test.YthjaelopmfjfeaaDoorVi
import Derived.Test.YthjaelopmfjfeaaDoorVh
namespace Go.Proofs.YthjaelopmfjfeaaDoor
set_option linter.unusedVariables false
set_option linter.unusedSimpArgs false
open Go.RowKit Go.Shelf

/-- Where the first slash stands; the length if there is none. -/
def fst47 : List UInt8 → Nat
  | [] => 0
  | c :: l => if c = 47 then 0 else fst47 l + 1
theorem fst47_le : ∀ l, fst47 l ≤ l.length
  | [] => Nat.le_refl _
  | c :: l => by
    have := fst47_le l
    unfold fst47
    rw [List.length_cons]
    split <;> omega
theorem fst47_index : ∀ l, Lib.indexByte l 47 = if fst47 l < l.length then (fst47 l : Int) else -1
  | [] => rfl
  | c :: l => by
    have h := fst47_index l
    have hle := fst47_le l
    unfold Lib.indexByte fst47
    by_cases hc : c = 47
    · subst hc
      rw [if_pos (by rfl), if_pos rfl, if_pos (by rw [List.length_cons]; omega)]; rfl
    · rw [if_neg (show ¬ (c == 47) = true from fun e => hc (eq_of_beq e)), if_neg hc, h, List.length_cons]
      by_cases h2 : fst47 l < l.length
      · rw [if_pos h2, if_neg (by rw [beq_iff_eq]; omega), if_pos (by omega)]; omega
      · rw [if_neg h2, if_pos (by rfl), if_neg (by omega)]
theorem cut_fst (L : List UInt8) : (Lib.cut L [47]).1 = L.take (fst47 L) ∧ (Lib.cut L [47]).2.2 = decide (fst47 L < L.length) ∧ (fst47 L < L.length → (Lib.cut L [47]).2.1 = L.drop (fst47 L + 1)) := by
  have hle := fst47_le L
  unfold Lib.cut
  rw [Lib.index_one, fst47_index]
  by_cases h : fst47 L < L.length
  · rw [if_pos h, if_pos (by omega), Int.toNat_natCast]
    exact ⟨rfl, (decide_eq_true h).symm, fun _ => rfl⟩
  · rw [if_neg h, if_neg (by omega)]
    refine ⟨?_, (decide_eq_false h).symm, fun h2 => absurd h2 h⟩
    show L = L.take (fst47 L)
    rw [List.take_of_length_le (by omega)]
theorem dropq_byte (s : ByteArray) (i : Nat) (h : i < s.size) : s.data.toList.drop i = s[i] :: s.data.toList.drop (i + 1) := by
  have hl : i < s.data.toList.length := by rw [bytes_size s]; exact h
  rw [List.drop_eq_getElem_cons hl]; rfl
theorem run_buildQ1 (w : World) : (Instr.build 23 #[(1, .int .i64 1)]).run Tryd.prog w = .ok (.agg [Value.int .i64 0, Value.int .i64 1].toArray) w := by kernel_rfl
def RAtRel (s : ByteArray) (a i : Value) : Prop := ∃ j : Nat, j ≤ s.size ∧ i = .int .i64 ((j : Int) - 1) ∧ a = .int .i64 ((j + fst47 (s.data.toList.drop j) : Nat) : Int)
set_option maxRecDepth 100000 in
set_option maxHeartbeats 3200000 in
theorem rparse_any (s : ByteArray) (w : World) (hs : s.size ≤ 140737488355328) (hw : QW w) :
    Calls Tryd.prog 13 #[.string s] w fun e w' => ParsedQ s.data.toList e ∧ Below w.heap.size w w' := by
  have HW := Lib.hid hw
  obtain ⟨L, hL⟩ : ∃ L, s.data.toList = L := ⟨_, rfl⟩
  have hlen : L.length = s.size := by rw [← hL]; exact bytes_size s
  obtain ⟨k1, k2, k3⟩ := cut_fst L
  have hale := fst47_le L
  rw [hlen] at k2 k3 hale
  obtain ⟨A, hA⟩ : ∃ A, fst47 L = A := ⟨_, rfl⟩
  rw [hA] at k1 k2 k3 hale
  obtain ⟨X, hX⟩ : ∃ X, s.extract 0 A = X := ⟨_, rfl⟩
  have hXl : X.data.toList = (Lib.cut L [47]).1 := by rw [← hX, Lib.extract_from_zero, hL, k1]
  have hXs : X.size ≤ 140737488355328 := by rw [← hX, ByteArray.size_extract]; omega
  obtain ⟨Y, hY⟩ : ∃ X, s.extract (A + 1) s.size = X := ⟨_, rfl⟩
  have hYl : A < s.size → Y.data.toList = (Lib.cut L [47]).2.1 := fun h => by rw [← hY, Lib.extract_to_end, hL, k3 h]
  have hYs : Y.size ≤ 140737488355328 := by rw [← hY, ByteArray.size_extract]; omega
  have HN1 := Lib.hid (fun w (h : QW w) => rnumber_any X w hXs h)
  have HN2 := Lib.hid (fun w (h : QW w) => rnumber_any Y w hYs h)
  have HYL := Lib.hid hYl
  have K2 := Lib.hid k2
  rw [hXl] at HN1
  have HL := Lib.hid hL
  have HA := Lib.hid hA
  have hsi : (s.size : Int) ≤ 140737488355328 := by omega
  have hwm : IntKind.i64.wrap ((s.size : Int) - 1) = (s.size : Int) - 1 := by simp only [IntKind.wrap_i64]; omega
  rw [hL]
  clear hXl hYl k1 k2 k3 hXs hYs hL hA hw hlen
  go_enter Tryd.func13, Tryd.ntmps13
  go_wp2_with (with_reducible refine wpList_alloc (o := ⟨some 2, .alloc 23, _, _, _, _⟩) (by with_unfolding_all rfl) 23 (by with_unfolding_all rfl) (.agg zC.toArray) zC (by exact Tryd.zeroQ) (by with_unfolding_all rfl) ?_)
  intro g2 w1 hg2 hs1 hb1 hZ
  have hl2 : w.heap.size ≤ g2 := Nat.le_of_eq hg2.out.symm
  have hbe : Below w.heap.size w w1 := hb1.mono hl2
  clear hb1 hs1 hg2
  go_wp2
  go_loop [4, 5] (RAtRel s) (fun _ i => (intOf i + 1).toNat)
  case atStart => exact ⟨s.size, Nat.le_refl _, rfl, by rw [List.drop_eq_nil_of_le (by rw [bytes_size]; exact Nat.le_refl _)]; rfl⟩
  case round =>
    obtain ⟨j, hj, rfl, rfl⟩ := hrel
    by_cases hj0 : j = 0
    · subst hj0
      have hat : Hid (((0 + fst47 (s.data.toList.drop 0) : Nat) : Int) = (A : Int)) := by
        have : ((0 + fst47 (s.data.toList.drop 0) : Nat) : Int) = (A : Int) := by rw [List.drop_zero, HL.out, HA.out]; omega
        exact this
      rw [hat.out]
      clear hat
      have hA0 : (0 : Int) ≤ (A : Int) := by omega
      have hAs : (A : Int) ≤ (s.size : Int) := by omega
      have hwA : IntKind.i64.wrap ((A : Int) + 1) = (A : Int) + 1 := by simp only [IntKind.wrap_i64]; omega
      go_wp2_with (first | (with_reducible refine wpList_build (o := ⟨some 26, .build 23 #[(1, .const (.int .i64 1))], _, _, _, _⟩) (by with_unfolding_all rfl) 23 #[(1, .const (.int .i64 1))] (by with_unfolding_all rfl) #[(1, .int .i64 1)] (by with_unfolding_all rfl) (.agg [Value.int .i64 0, Value.int .i64 1].toArray) (by with_unfolding_all exact fun w => run_buildQ1 w) ?_) | (with_reducible refine wpList_alloc (o := ⟨some 6, .alloc 23, _, _, _, _⟩) (by with_unfolding_all rfl) 23 (by with_unfolding_all rfl) (.agg zC.toArray) zC (by exact Tryd.zeroQ) (by with_unfolding_all rfl) ?_))
      intro g6 w5 hg6 hs5 hb5 hR
      have h26 : g2 < g6 := by have := hZ.lt; have := hg6.out; omega
      have hl6 : w.heap.size ≤ g6 := by omega
      have hb5 := hb5.mono (Nat.le_of_eq hg6.out.symm)
      have hZ := hZ.next hb5 hZ.lt
      have hbe := below_join hbe hb5
      clear hb5 hs5 hg6
      go_wp2_with (with_reducible refine wpList_put (o := ⟨none, .store 23 (.tmp 6) (.tmp 26), _, _, _, _⟩) (by with_unfolding_all rfl) 23 (.tmp 6) (.tmp 26) (by with_unfolding_all rfl) g6 0 (by with_unfolding_all rfl) (.agg [Value.int .i64 0, Value.int .i64 1].toArray) (by with_unfolding_all rfl) hR [Value.int .i64 0, Value.int .i64 1] (by with_unfolding_all rfl) (by with_unfolding_all (exact Tryd.szQ)) (by with_unfolding_all (exact Nat.le_refl 2)) (by with_unfolding_all (exact int_one 0 1)) ?_)
      intro w6 hu6 hR6
      rw [splice_all _ _ (by rfl)] at hR6
      have hR := hR6
      have hZ := hZ.upd hu6 (by omega)
      have hbe := hbe.trans (hu6.below (B := w.heap.size) hl6)
      clear hu6 hR6
      go_wp2_with fail
      (with_reducible refine (HN1.out _ (HW.out.next hbe)).mono ?_)
      rintro e w7 ⟨n1, rfl, hn1, hb7⟩
      have hZ := hZ.next hb7 hZ.lt
      have hR := hR.next hb7 hR.lt
      have hbe := below_join hbe hb7
      have HI1 := Lib.hid hn1
      obtain ⟨B1, hB1⟩ : ∃ B, refIs (Lib.cut L [47]).1 = B := ⟨_, rfl⟩
      rw [hB1] at HI1 ⊢
      have HB1 := Lib.hid hB1
      clear hb7 hn1 hB1
      go_wp2_with (with_reducible refine wpList_put (o := ⟨none, .store 3 (.tmp 35) (.tmp 34), _, _, _, _⟩) (by with_unfolding_all rfl) 3 (.tmp 35) (.tmp 34) (by with_unfolding_all rfl) g6 0 (by with_unfolding_all rfl) (.int .i64 n1) (by with_unfolding_all rfl) hR [Value.int .i64 n1] (by with_unfolding_all rfl) (by with_unfolding_all (exact Tryd.szI)) (by with_unfolding_all (show 0 + 1 ≤ 2; omega)) (by with_unfolding_all (exact one_cell1 rfl)) ?_)
      intro w8 hu8 hR8
      have hR : Blk w8 g6 23 [Value.int .i64 n1, Value.int .i64 1] := hR8
      have hZ := hZ.upd hu8 (by omega)
      have hbe := hbe.trans (hu8.below (B := w.heap.size) hl6)
      clear hu8 hR8
      cases B1 with
      | false =>
        obtain ⟨Na, hNa⟩ : ∃ n : Int, n = n1 := ⟨n1, rfl⟩
        obtain ⟨Da, hDa⟩ : ∃ n : Int, n = 1 := ⟨1, rfl⟩
        rw [← hNa, ← hDa] at hR
        have HFa : Hid ((false && chk Na Da) = false → ParsedQ L (.returned (.tuple #[.agg zC.toArray, .bool false]))) := by
          have : (false && chk Na Da) = false → ParsedQ L (.returned (.tuple #[.agg zC.toArray, .bool false])) := fun _ => ParsedQ.refNo (by
            have : refOk L = false := by
              unfold refOk
              rw [HB1.out]
              split <;> rfl
            rw [this]; rfl)
          exact this
        have HYa : Hid ((false && chk Na Da) = true → True) := by
          have : (false && chk Na Da) = true → True := fun _ => trivial
          exact this
        clear hNa hDa
        obtain ⟨C, hC⟩ : ∃ C, chk Na Da = C := ⟨_, rfl⟩
        have HCK := Lib.hid (fun w => rcheck_any Na Da w)
        rw [hC] at HCK HFa HYa
        clear hC
        go_wp2_with (with_reducible refine wpList_get (o := ⟨some 58, .load 23 (.tmp 6), _, _, _, _⟩) (by with_unfolding_all rfl) 23 (.tmp 6) (by with_unfolding_all rfl) g6 0 (by with_unfolding_all rfl) hR [Value.int .i64 Na, Value.int .i64 Da] (cs_all _) _ (by exact Tryd.underlying23) (by with_unfolding_all rfl) (by with_unfolding_all exact Tryd.szQ) ?_)
        (with_reducible refine (HCK.out _).mono ?_)
        rintro e w7 ⟨rfl, hb7⟩
        have hZ := hZ.next hb7 hZ.lt
        have hR := hR.next hb7 hR.lt
        have hbe := below_join hbe hb7
        clear hb7 HCK
        cases C with
        | false =>
          have hno : Hid (ParsedQ L (.returned (.tuple #[.agg zC.toArray, .bool false]))) := HFa.out (by rw [Bool.and_false])
          go_wp2_with (first | (with_reducible refine wpList_build (o := ⟨some 66, .build 23 #[], _, _, _, _⟩) (by with_unfolding_all rfl) 23 #[] (by with_unfolding_all rfl) #[] (by with_unfolding_all rfl) (.agg zC.toArray) (by with_unfolding_all exact fun w => run_buildQ0 w) ?_) | (with_reducible refine wpList_put (o := ⟨none, .store 23 (.tmp 2) (.tmp 66), _, _, _, _⟩) (by with_unfolding_all rfl) 23 (.tmp 2) (.tmp 66) (by with_unfolding_all rfl) g2 0 (by with_unfolding_all rfl) (.agg zC.toArray) (by with_unfolding_all rfl) hZ zC (by with_unfolding_all rfl) (by with_unfolding_all (exact Tryd.szQ)) (by with_unfolding_all (exact Nat.le_refl 2)) (by with_unfolding_all (exact int_one 0 0)) ?_))
          intro w9 hu9 hZ9
          rw [splice_all _ _ (by rfl)] at hZ9
          have hfin := hbe.trans (hu9.below (B := w.heap.size) hl2)
          go_wp2
          refine bodyPost_ret (results_cell_two rfl _ _ g2 _ _ _ _ _ rfl rfl hZ9 Tryd.underlying23 rfl Tryd.szQ) rfl ⟨?_, hfin⟩
          exact hno.out
        | true =>
          have hno : Hid (ParsedQ L (.returned (.tuple #[.agg zC.toArray, .bool false]))) := HFa.out (by rfl)
          go_wp2_with (first | (with_reducible refine wpList_build (o := ⟨some 66, .build 23 #[], _, _, _, _⟩) (by with_unfolding_all rfl) 23 #[] (by with_unfolding_all rfl) #[] (by with_unfolding_all rfl) (.agg zC.toArray) (by with_unfolding_all exact fun w => run_buildQ0 w) ?_) | (with_reducible refine wpList_put (o := ⟨none, .store 23 (.tmp 2) (.tmp 66), _, _, _, _⟩) (by with_unfolding_all rfl) 23 (.tmp 2) (.tmp 66) (by with_unfolding_all rfl) g2 0 (by with_unfolding_all rfl) (.agg zC.toArray) (by with_unfolding_all rfl) hZ zC (by with_unfolding_all rfl) (by with_unfolding_all (exact Tryd.szQ)) (by with_unfolding_all (exact Nat.le_refl 2)) (by with_unfolding_all (exact int_one 0 0)) ?_))
          intro w9 hu9 hZ9
          rw [splice_all _ _ (by rfl)] at hZ9
          have hfin := hbe.trans (hu9.below (B := w.heap.size) hl2)
          go_wp2
          refine bodyPost_ret (results_cell_two rfl _ _ g2 _ _ _ _ _ rfl rfl hZ9 Tryd.underlying23 rfl Tryd.szQ) rfl ⟨?_, hfin⟩
          exact hno.out
      | true =>
        by_cases hAl : A < s.size
        · have hAli : (A : Int) < (s.size : Int) := by omega
          have hAlj : (A : Int) + 1 ≤ (s.size : Int) := by omega
          have hA1 : (0 : Int) ≤ (A : Int) + 1 := by omega
          have hfound : (Lib.cut L [47]).2.2 = true := by rw [K2.out]; exact decide_eq_true hAl
          have HN3 := HN2
          rw [HYL.out hAl] at HN3
          go_wp2_with fail
          (with_reducible refine (HN3.out _ (HW.out.next hbe)).mono ?_)
          rintro e w10 ⟨n2, rfl, hn2, hb10⟩
          have hZ := hZ.next hb10 hZ.lt
          have hR := hR.next hb10 hR.lt
          have hbe := below_join hbe hb10
          have HI2 := Lib.hid hn2
          obtain ⟨B2, hB2⟩ : ∃ B, refIs (Lib.cut L [47]).2.1 = B := ⟨_, rfl⟩
          rw [hB2] at HI2 ⊢
          have HB2 := Lib.hid hB2
          clear hb10 hn2 hB2 HN3
          go_wp2_with (with_reducible refine wpList_put (o := ⟨none, .store 3 (.tmp 52) (.tmp 51), _, _, _, _⟩) (by with_unfolding_all rfl) 3 (.tmp 52) (.tmp 51) (by with_unfolding_all rfl) g6 1 (by with_unfolding_all rfl) (.int .i64 n2) (by with_unfolding_all rfl) hR [Value.int .i64 n2] (by with_unfolding_all rfl) (by with_unfolding_all (exact Tryd.szI)) (by with_unfolding_all (exact Nat.le_refl 2)) (by with_unfolding_all (exact one_cell1 rfl)) ?_)
          intro w11 hu11 hR11
          have hR : Blk w11 g6 23 [Value.int .i64 n1, Value.int .i64 n2] := hR11
          have hZ := hZ.upd hu11 (by omega)
          have hbe := hbe.trans (hu11.below (B := w.heap.size) hl6)
          clear hu11 hR11
          have hn1 := HI1.out (by first | trivial | rfl)
          obtain ⟨Nb, hNb⟩ : ∃ n : Int, n = n1 := ⟨n1, rfl⟩
          obtain ⟨Db, hDb⟩ : ∃ n : Int, n = n2 := ⟨n2, rfl⟩
          subst hNb
          subst hDb
          cases B2 with
          | false =>
            have HFb : Hid ((false && chk Nb Db) = false → ParsedQ L (.returned (.tuple #[.agg zC.toArray, .bool false]))) := by
              have : (false && chk Nb Db) = false → ParsedQ L (.returned (.tuple #[.agg zC.toArray, .bool false])) := fun _ => ParsedQ.refNo (by
                have : refOk L = false := by
                  unfold refOk
                  rw [if_pos hfound, HB2.out, Bool.false_and, Bool.and_false]
                rw [this]; rfl)
              exact this
            have HYb : Hid ((false && chk Nb Db) = true → True) := by
              have : (false && chk Nb Db) = true → True := fun _ => trivial
              exact this
            clear hn1
            obtain ⟨C, hC⟩ : ∃ C, chk Nb Db = C := ⟨_, rfl⟩
            have HCK := Lib.hid (fun w => rcheck_any Nb Db w)
            rw [hC] at HCK HFb HYb
            clear hC
            go_wp2_with (with_reducible refine wpList_get (o := ⟨some 58, .load 23 (.tmp 6), _, _, _, _⟩) (by with_unfolding_all rfl) 23 (.tmp 6) (by with_unfolding_all rfl) g6 0 (by with_unfolding_all rfl) hR [Value.int .i64 Nb, Value.int .i64 Db] (cs_all _) _ (by exact Tryd.underlying23) (by with_unfolding_all rfl) (by with_unfolding_all exact Tryd.szQ) ?_)
            (with_reducible refine (HCK.out _).mono ?_)
            rintro e w7 ⟨rfl, hb7⟩
            have hZ := hZ.next hb7 hZ.lt
            have hR := hR.next hb7 hR.lt
            have hbe := below_join hbe hb7
            clear hb7 HCK
            cases C with
            | false =>
              have hno : Hid (ParsedQ L (.returned (.tuple #[.agg zC.toArray, .bool false]))) := HFb.out (by rw [Bool.and_false])
              go_wp2_with (first | (with_reducible refine wpList_build (o := ⟨some 66, .build 23 #[], _, _, _, _⟩) (by with_unfolding_all rfl) 23 #[] (by with_unfolding_all rfl) #[] (by with_unfolding_all rfl) (.agg zC.toArray) (by with_unfolding_all exact fun w => run_buildQ0 w) ?_) | (with_reducible refine wpList_put (o := ⟨none, .store 23 (.tmp 2) (.tmp 66), _, _, _, _⟩) (by with_unfolding_all rfl) 23 (.tmp 2) (.tmp 66) (by with_unfolding_all rfl) g2 0 (by with_unfolding_all rfl) (.agg zC.toArray) (by with_unfolding_all rfl) hZ zC (by with_unfolding_all rfl) (by with_unfolding_all (exact Tryd.szQ)) (by with_unfolding_all (exact Nat.le_refl 2)) (by with_unfolding_all (exact int_one 0 0)) ?_))
              intro w9 hu9 hZ9
              rw [splice_all _ _ (by rfl)] at hZ9
              have hfin := hbe.trans (hu9.below (B := w.heap.size) hl2)
              go_wp2
              refine bodyPost_ret (results_cell_two rfl _ _ g2 _ _ _ _ _ rfl rfl hZ9 Tryd.underlying23 rfl Tryd.szQ) rfl ⟨?_, hfin⟩
              exact hno.out
            | true =>
              have hno : Hid (ParsedQ L (.returned (.tuple #[.agg zC.toArray, .bool false]))) := HFb.out (by rfl)
              go_wp2_with (first | (with_reducible refine wpList_build (o := ⟨some 66, .build 23 #[], _, _, _, _⟩) (by with_unfolding_all rfl) 23 #[] (by with_unfolding_all rfl) #[] (by with_unfolding_all rfl) (.agg zC.toArray) (by with_unfolding_all exact fun w => run_buildQ0 w) ?_) | (with_reducible refine wpList_put (o := ⟨none, .store 23 (.tmp 2) (.tmp 66), _, _, _, _⟩) (by with_unfolding_all rfl) 23 (.tmp 2) (.tmp 66) (by with_unfolding_all rfl) g2 0 (by with_unfolding_all rfl) (.agg zC.toArray) (by with_unfolding_all rfl) hZ zC (by with_unfolding_all rfl) (by with_unfolding_all (exact Tryd.szQ)) (by with_unfolding_all (exact Nat.le_refl 2)) (by with_unfolding_all (exact int_one 0 0)) ?_))
              intro w9 hu9 hZ9
              rw [splice_all _ _ (by rfl)] at hZ9
              have hfin := hbe.trans (hu9.below (B := w.heap.size) hl2)
              go_wp2
              refine bodyPost_ret (results_cell_two rfl _ _ g2 _ _ _ _ _ rfl rfl hZ9 Tryd.underlying23 rfl Tryd.szQ) rfl ⟨?_, hfin⟩
              exact hno.out
          | true =>
            have hn2 := HI2.out (by first | trivial | rfl)
            have hD : refD L = Db := by unfold refD; rw [if_pos hfound, hn2]
            by_cases h1 : Db = 1
            · have h1b : (Db == 1) = true := beq_iff_eq.2 h1
              have HFb : Hid ((false && chk Nb Db) = false → ParsedQ L (.returned (.tuple #[.agg zC.toArray, .bool false]))) := by
                have : (false && chk Nb Db) = false → ParsedQ L (.returned (.tuple #[.agg zC.toArray, .bool false])) := fun _ => ParsedQ.refNo (by
                  have : refOk L = false := by
                    unfold refOk
                    rw [if_pos hfound, HB2.out, HB1.out, ← hn2, decide_eq_false (fun h => h h1)]; rfl
                  rw [this]; rfl)
                exact this
              have HYb : Hid ((false && chk Nb Db) = true → True) := by
                have : (false && chk Nb Db) = true → True := fun _ => trivial
                exact this
              have hne : (Db != 1) = false := by rw [h1]; rfl
              clear hn1 hn2 hD h1
              obtain ⟨C, hC⟩ : ∃ C, chk Nb Db = C := ⟨_, rfl⟩
              have HCK := Lib.hid (fun w => rcheck_any Nb Db w)
              rw [hC] at HCK HFb HYb
              clear hC
              go_wp2_with (with_reducible refine wpList_get (o := ⟨some 58, .load 23 (.tmp 6), _, _, _, _⟩) (by with_unfolding_all rfl) 23 (.tmp 6) (by with_unfolding_all rfl) g6 0 (by with_unfolding_all rfl) hR [Value.int .i64 Nb, Value.int .i64 Db] (cs_all _) _ (by exact Tryd.underlying23) (by with_unfolding_all rfl) (by with_unfolding_all exact Tryd.szQ) ?_)
              (with_reducible refine (HCK.out _).mono ?_)
              rintro e w7 ⟨rfl, hb7⟩
              have hZ := hZ.next hb7 hZ.lt
              have hR := hR.next hb7 hR.lt
              have hbe := below_join hbe hb7
              clear hb7 HCK
              cases C with
              | false =>
                have hno : Hid (ParsedQ L (.returned (.tuple #[.agg zC.toArray, .bool false]))) := HFb.out (by rw [Bool.and_false])
                go_wp2_with (first | (with_reducible refine wpList_build (o := ⟨some 66, .build 23 #[], _, _, _, _⟩) (by with_unfolding_all rfl) 23 #[] (by with_unfolding_all rfl) #[] (by with_unfolding_all rfl) (.agg zC.toArray) (by with_unfolding_all exact fun w => run_buildQ0 w) ?_) | (with_reducible refine wpList_put (o := ⟨none, .store 23 (.tmp 2) (.tmp 66), _, _, _, _⟩) (by with_unfolding_all rfl) 23 (.tmp 2) (.tmp 66) (by with_unfolding_all rfl) g2 0 (by with_unfolding_all rfl) (.agg zC.toArray) (by with_unfolding_all rfl) hZ zC (by with_unfolding_all rfl) (by with_unfolding_all (exact Tryd.szQ)) (by with_unfolding_all (exact Nat.le_refl 2)) (by with_unfolding_all (exact int_one 0 0)) ?_))
                intro w9 hu9 hZ9
                rw [splice_all _ _ (by rfl)] at hZ9
                have hfin := hbe.trans (hu9.below (B := w.heap.size) hl2)
                go_wp2
                refine bodyPost_ret (results_cell_two rfl _ _ g2 _ _ _ _ _ rfl rfl hZ9 Tryd.underlying23 rfl Tryd.szQ) rfl ⟨?_, hfin⟩
                exact hno.out
              | true =>
                have hno : Hid (ParsedQ L (.returned (.tuple #[.agg zC.toArray, .bool false]))) := HFb.out (by rfl)
                go_wp2_with (first | (with_reducible refine wpList_build (o := ⟨some 66, .build 23 #[], _, _, _, _⟩) (by with_unfolding_all rfl) 23 #[] (by with_unfolding_all rfl) #[] (by with_unfolding_all rfl) (.agg zC.toArray) (by with_unfolding_all exact fun w => run_buildQ0 w) ?_) | (with_reducible refine wpList_put (o := ⟨none, .store 23 (.tmp 2) (.tmp 66), _, _, _, _⟩) (by with_unfolding_all rfl) 23 (.tmp 2) (.tmp 66) (by with_unfolding_all rfl) g2 0 (by with_unfolding_all rfl) (.agg zC.toArray) (by with_unfolding_all rfl) hZ zC (by with_unfolding_all rfl) (by with_unfolding_all (exact Tryd.szQ)) (by with_unfolding_all (exact Nat.le_refl 2)) (by with_unfolding_all (exact int_one 0 0)) ?_))
                intro w9 hu9 hZ9
                rw [splice_all _ _ (by rfl)] at hZ9
                have hfin := hbe.trans (hu9.below (B := w.heap.size) hl2)
                go_wp2
                refine bodyPost_ret (results_cell_two rfl _ _ g2 _ _ _ _ _ rfl rfl hZ9 Tryd.underlying23 rfl Tryd.szQ) rfl ⟨?_, hfin⟩
                exact hno.out
            · have h1b : (Db == 1) = false := beq_eq_false_iff_ne.2 h1
              have hok : refOk L = true := by
                unfold refOk
                rw [if_pos hfound, HB2.out, HB1.out, ← hn2, decide_eq_true h1]; rfl
              have hne : (Db != 1) = true := by rw [bne_iff_ne]; exact h1
              have HFc : Hid ((true && chk Nb Db) = false → ParsedQ L (.returned (.tuple #[.agg zC.toArray, .bool false]))) := by
                have : (true && chk Nb Db) = false → ParsedQ L (.returned (.tuple #[.agg zC.toArray, .bool false])) := fun h => ParsedQ.refNo (by rw [hok, hD, ← hn1]; exact h)
                exact this
              have HYc : Hid ((true && chk Nb Db) = true → ParsedQ L (.returned (.tuple #[.agg #[.int .i64 Nb, .int .i64 Db], .bool true]))) := by
                have : (true && chk Nb Db) = true → ParsedQ L (.returned (.tuple #[.agg #[.int .i64 Nb, .int .i64 Db], .bool true])) := fun h => by
                  have h2 := ParsedQ.refYes hok (by rw [hD, ← hn1]; exact h)
                  rw [hD, ← hn1] at h2
                  exact h2
                exact this
              obtain ⟨Nc, hNc⟩ : ∃ n : Int, n = Nb := ⟨Nb, rfl⟩
              obtain ⟨Dc, hDc⟩ : ∃ n : Int, n = Db := ⟨Db, rfl⟩
              subst hNc
              subst hDc
              clear hn1 hn2 hD h1 hok
              obtain ⟨C, hC⟩ : ∃ C, chk Nc Dc = C := ⟨_, rfl⟩
              have HCK := Lib.hid (fun w => rcheck_any Nc Dc w)
              rw [hC] at HCK HFc HYc
              clear hC
              go_wp2_with (with_reducible refine wpList_get (o := ⟨some 58, .load 23 (.tmp 6), _, _, _, _⟩) (by with_unfolding_all rfl) 23 (.tmp 6) (by with_unfolding_all rfl) g6 0 (by with_unfolding_all rfl) hR [Value.int .i64 Nc, Value.int .i64 Dc] (cs_all _) _ (by exact Tryd.underlying23) (by with_unfolding_all rfl) (by with_unfolding_all exact Tryd.szQ) ?_)
              (with_reducible refine (HCK.out _).mono ?_)
              rintro e w7 ⟨rfl, hb7⟩
              have hZ := hZ.next hb7 hZ.lt
              have hR := hR.next hb7 hR.lt
              have hbe := below_join hbe hb7
              clear hb7 HCK
              cases C with
              | false =>
                have hno : Hid (ParsedQ L (.returned (.tuple #[.agg zC.toArray, .bool false]))) := HFc.out (by rw [Bool.and_false])
                go_wp2_with (first | (with_reducible refine wpList_build (o := ⟨some 66, .build 23 #[], _, _, _, _⟩) (by with_unfolding_all rfl) 23 #[] (by with_unfolding_all rfl) #[] (by with_unfolding_all rfl) (.agg zC.toArray) (by with_unfolding_all exact fun w => run_buildQ0 w) ?_) | (with_reducible refine wpList_put (o := ⟨none, .store 23 (.tmp 2) (.tmp 66), _, _, _, _⟩) (by with_unfolding_all rfl) 23 (.tmp 2) (.tmp 66) (by with_unfolding_all rfl) g2 0 (by with_unfolding_all rfl) (.agg zC.toArray) (by with_unfolding_all rfl) hZ zC (by with_unfolding_all rfl) (by with_unfolding_all (exact Tryd.szQ)) (by with_unfolding_all (exact Nat.le_refl 2)) (by with_unfolding_all (exact int_one 0 0)) ?_))
                intro w9 hu9 hZ9
                rw [splice_all _ _ (by rfl)] at hZ9
                have hfin := hbe.trans (hu9.below (B := w.heap.size) hl2)
                go_wp2
                refine bodyPost_ret (results_cell_two rfl _ _ g2 _ _ _ _ _ rfl rfl hZ9 Tryd.underlying23 rfl Tryd.szQ) rfl ⟨?_, hfin⟩
                exact hno.out
              | true =>
                have hyes : Hid (ParsedQ L (.returned (.tuple #[.agg #[.int .i64 Nc, .int .i64 Dc], .bool true]))) := HYc.out (by rfl)
                go_wp2_with (first | (with_reducible refine wpList_get (o := ⟨some 67, .load 23 (.tmp 6), _, _, _, _⟩) (by with_unfolding_all rfl) 23 (.tmp 6) (by with_unfolding_all rfl) g6 0 (by with_unfolding_all rfl) hR [Value.int .i64 Nc, Value.int .i64 Dc] (cs_all _) _ (by exact Tryd.underlying23) (by with_unfolding_all rfl) (by with_unfolding_all exact Tryd.szQ) ?_) | (with_reducible refine wpList_put (o := ⟨none, .store 23 (.tmp 2) (.tmp 67), _, _, _, _⟩) (by with_unfolding_all rfl) 23 (.tmp 2) (.tmp 67) (by with_unfolding_all rfl) g2 0 (by with_unfolding_all rfl) (.agg [Value.int .i64 Nc, Value.int .i64 Dc].toArray) (by with_unfolding_all rfl) hZ [Value.int .i64 Nc, Value.int .i64 Dc] (by with_unfolding_all rfl) (by with_unfolding_all (exact Tryd.szQ)) (by with_unfolding_all (exact Nat.le_refl 2)) (by with_unfolding_all (exact int_one Nc Dc)) ?_))
                intro w9 hu9 hZ9
                rw [splice_all _ _ (by rfl)] at hZ9
                have hfin := hbe.trans (hu9.below (B := w.heap.size) hl2)
                go_wp2
                refine bodyPost_ret (results_cell_two rfl _ _ g2 _ _ _ _ _ rfl rfl hZ9 Tryd.underlying23 rfl Tryd.szQ) rfl ⟨?_, hfin⟩
                exact hyes.out
        · have hn1 := HI1.out (by first | trivial | rfl)
          have hAli : ¬ (A : Int) < (s.size : Int) := by omega
          have hfound : ¬ (Lib.cut L [47]).2.2 = true := by rw [K2.out, decide_eq_false hAl]; decide
          have hok : refOk L = true := by
            unfold refOk
            rw [if_neg hfound]; exact HB1.out
          have hD : refD L = 1 := by unfold refD; rw [if_neg hfound]
          obtain ⟨Nd, hNd⟩ : ∃ n : Int, n = n1 := ⟨n1, rfl⟩
          subst hNd
          obtain ⟨Dd, hDd⟩ : ∃ n : Int, n = 1 := ⟨1, rfl⟩
          rw [← hDd] at hR hD
          have HFd : Hid ((true && chk Nd Dd) = false → ParsedQ L (.returned (.tuple #[.agg zC.toArray, .bool false]))) := by
            have : (true && chk Nd Dd) = false → ParsedQ L (.returned (.tuple #[.agg zC.toArray, .bool false])) := fun h => ParsedQ.refNo (by rw [hok, hD, ← hn1]; exact h)
            exact this
          have HYd : Hid ((true && chk Nd Dd) = true → ParsedQ L (.returned (.tuple #[.agg #[.int .i64 Nd, .int .i64 Dd], .bool true]))) := by
            have : (true && chk Nd Dd) = true → ParsedQ L (.returned (.tuple #[.agg #[.int .i64 Nd, .int .i64 Dd], .bool true])) := fun h => by
              have h2 := ParsedQ.refYes hok (by rw [hD, ← hn1]; exact h)
              rw [hD, ← hn1] at h2
              exact h2
            exact this
          clear hn1 hD hok hDd hfound
          obtain ⟨C, hC⟩ : ∃ C, chk Nd Dd = C := ⟨_, rfl⟩
          have HCK := Lib.hid (fun w => rcheck_any Nd Dd w)
          rw [hC] at HCK HFd HYd
          clear hC
          go_wp2_with (with_reducible refine wpList_get (o := ⟨some 58, .load 23 (.tmp 6), _, _, _, _⟩) (by with_unfolding_all rfl) 23 (.tmp 6) (by with_unfolding_all rfl) g6 0 (by with_unfolding_all rfl) hR [Value.int .i64 Nd, Value.int .i64 Dd] (cs_all _) _ (by exact Tryd.underlying23) (by with_unfolding_all rfl) (by with_unfolding_all exact Tryd.szQ) ?_)
          (with_reducible refine (HCK.out _).mono ?_)
          rintro e w7 ⟨rfl, hb7⟩
          have hZ := hZ.next hb7 hZ.lt
          have hR := hR.next hb7 hR.lt
          have hbe := below_join hbe hb7
          clear hb7 HCK
          cases C with
          | false =>
            have hno : Hid (ParsedQ L (.returned (.tuple #[.agg zC.toArray, .bool false]))) := HFd.out (by rw [Bool.and_false])
            go_wp2_with (first | (with_reducible refine wpList_build (o := ⟨some 66, .build 23 #[], _, _, _, _⟩) (by with_unfolding_all rfl) 23 #[] (by with_unfolding_all rfl) #[] (by with_unfolding_all rfl) (.agg zC.toArray) (by with_unfolding_all exact fun w => run_buildQ0 w) ?_) | (with_reducible refine wpList_put (o := ⟨none, .store 23 (.tmp 2) (.tmp 66), _, _, _, _⟩) (by with_unfolding_all rfl) 23 (.tmp 2) (.tmp 66) (by with_unfolding_all rfl) g2 0 (by with_unfolding_all rfl) (.agg zC.toArray) (by with_unfolding_all rfl) hZ zC (by with_unfolding_all rfl) (by with_unfolding_all (exact Tryd.szQ)) (by with_unfolding_all (exact Nat.le_refl 2)) (by with_unfolding_all (exact int_one 0 0)) ?_))
            intro w9 hu9 hZ9
            rw [splice_all _ _ (by rfl)] at hZ9
            have hfin := hbe.trans (hu9.below (B := w.heap.size) hl2)
            go_wp2
            refine bodyPost_ret (results_cell_two rfl _ _ g2 _ _ _ _ _ rfl rfl hZ9 Tryd.underlying23 rfl Tryd.szQ) rfl ⟨?_, hfin⟩
            exact hno.out
          | true =>
            have hyes : Hid (ParsedQ L (.returned (.tuple #[.agg #[.int .i64 Nd, .int .i64 Dd], .bool true]))) := HYd.out (by rfl)
            go_wp2_with (first | (with_reducible refine wpList_get (o := ⟨some 67, .load 23 (.tmp 6), _, _, _, _⟩) (by with_unfolding_all rfl) 23 (.tmp 6) (by with_unfolding_all rfl) g6 0 (by with_unfolding_all rfl) hR [Value.int .i64 Nd, Value.int .i64 Dd] (cs_all _) _ (by exact Tryd.underlying23) (by with_unfolding_all rfl) (by with_unfolding_all exact Tryd.szQ) ?_) | (with_reducible refine wpList_put (o := ⟨none, .store 23 (.tmp 2) (.tmp 67), _, _, _, _⟩) (by with_unfolding_all rfl) 23 (.tmp 2) (.tmp 67) (by with_unfolding_all rfl) g2 0 (by with_unfolding_all rfl) (.agg [Value.int .i64 Nd, Value.int .i64 Dd].toArray) (by with_unfolding_all rfl) hZ [Value.int .i64 Nd, Value.int .i64 Dd] (by with_unfolding_all rfl) (by with_unfolding_all (exact Tryd.szQ)) (by with_unfolding_all (exact Nat.le_refl 2)) (by with_unfolding_all (exact int_one Nd Dd)) ?_))
            intro w9 hu9 hZ9
            rw [splice_all _ _ (by rfl)] at hZ9
            have hfin := hbe.trans (hu9.below (B := w.heap.size) hl2)
            go_wp2
            refine bodyPost_ret (results_cell_two rfl _ _ g2 _ _ _ _ _ rfl rfl hZ9 Tryd.underlying23 rfl Tryd.szQ) rfl ⟨?_, hfin⟩
            exact hyes.out
    · obtain ⟨i, rfl⟩ : ∃ i, j = i + 1 := ⟨j - 1, by omega⟩
      have e1 : ((i + 1 : Nat) : Int) - 1 = (i : Int) := by omega
      have hi0 : (0 : Int) ≤ (i : Int) := by omega
      have his : (i : Int) < (s.size : Int) := by omega
      have hin : i < s.size := by omega
      have hdr := dropq_byte s i hin
      have hle := fst47_le (s.data.toList.drop (i + 1))
      have hst : fst47 (s.data.toList.drop i) = if s[i] = 47 then 0 else fst47 (s.data.toList.drop (i + 1)) + 1 := by rw [hdr]; rfl
      obtain ⟨F0, hF0⟩ : ∃ f, fst47 (s.data.toList.drop i) = f := ⟨_, rfl⟩
      obtain ⟨F1, hF1⟩ : ∃ f, fst47 (s.data.toList.drop (i + 1)) = f := ⟨_, rfl⟩
      rw [hF0, hF1] at hst
      have HF0 := Lib.hid hF0
      rw [hF1, e1]
      have hwi : IntKind.i64.wrap ((i : Int) - 1) = (i : Int) - 1 := by simp only [IntKind.wrap_i64]; omega
      obtain ⟨c, hcv⟩ : ∃ c : Nat, s[i].toNat = c := ⟨_, rfl⟩
      by_cases hc : s[i] = 47
      · rw [if_pos hc] at hst
        have hc47 : (c == 47) = true := by rw [beq_iff_eq, ← hcv, hc]; rfl
        have hc47i : ((c : Int) == 47) = true := by rw [beq_iff_eq]; have := beq_iff_eq.1 hc47; omega
        have HST := Lib.hid hst
        clear hst hc hF0 hF1 hdr hle
        go_wp2
        go_round
        case rel => exact ⟨i, by omega, rfl, by rw [HF0.out, HST.out]; rfl⟩
        case measure => (simp [intOf]) <;> omega
      · rw [if_neg hc] at hst
        have hcn : c ≠ 47 := fun e => hc (UInt8.toNat_inj.1 (by rw [hcv, e]; rfl))
        have hc47 : (c == 47) = false := beq_eq_false_iff_ne.2 hcn
        have hc47i : ((c : Int) == 47) = false := by rw [beq_eq_false_iff_ne]; omega
        have HST := Lib.hid hst
        clear hst hc hF0 hF1 hdr hle hcn
        go_wp2
        go_round
        case rel => exact ⟨i, by omega, rfl, by rw [HF0.out, HST.out]; exact congrArg (Value.int .i64) (by omega)⟩
        case measure => (simp [intOf]) <;> omega
end Go.Proofs.YthjaelopmfjfeaaDoor
