/-
  Contract of the walk over Parse of the program. Conditions: the library's variables lie there.
-/
import Derived.Test.YthjaelopmfjfeaaDoorVg
namespace Go.Proofs.YthjaelopmfjfeaaDoor
set_option linter.unusedVariables false
set_option linter.unusedSimpArgs false
open Go.RowKit Go.Shelf

theorem cut_sizes (s : ByteArray) (h : s.size ≤ 140737488355328) : (⟨(Lib.cut s.data.toList [47]).1.toArray⟩ : ByteArray).size ≤ 140737488355328 ∧ (⟨(Lib.cut s.data.toList [47]).2.1.toArray⟩ : ByteArray).size ≤ 140737488355328 := by
  have hl := bytes_size s
  rw [arr_size, arr_size]
  rcases cut_back s.data.toList 47 with ⟨_, h2, _⟩ | ⟨h1, h2⟩
  · have h3 := congrArg List.length h2
    rw [List.length_append, List.length_cons] at h3
    omega
  · rw [h2]
    refine ⟨by omega, ?_⟩
    have : (Lib.cut s.data.toList [47]).2.1.length ≤ s.data.toList.length := by
      unfold Lib.cut
      split
      · show (List.drop _ _).length ≤ _
        rw [List.length_drop]; omega
      · exact Nat.zero_le _
    omega
set_option maxRecDepth 100000 in
set_option maxHeartbeats 3200000 in
theorem parse_any (s : ByteArray) (w : World) (hs : s.size ≤ 140737488355328) (hw : QW w) :
    Calls Tryd.prog 12 #[.string s] w fun e w' => ParsedQ s.data.toList e ∧ Below w.heap.size w w' := by
  have HW := Lib.hid hw
  obtain ⟨hz1, hz2⟩ := cut_sizes s hs
  have HCU := Lib.hid (fun w => cutQ_any s w hs)
  have HA1 := Lib.hid (fun w (h : QW w) => atoi_any ⟨(Lib.cut s.data.toList [47]).1.toArray⟩ w hz1 h)
  have HA2 := Lib.hid (fun w (h : QW w) => atoi_any ⟨(Lib.cut s.data.toList [47]).2.1.toArray⟩ w hz2 h)
  obtain ⟨L, hL⟩ : ∃ L, s.data.toList = L := ⟨_, rfl⟩
  have HL := Lib.hid hL
  rw [hL] at HCU HA1 HA2 ⊢
  obtain ⟨X, hX⟩ : ∃ X : ByteArray, (⟨(Lib.cut L [47]).1.toArray⟩ : ByteArray) = X := ⟨_, rfl⟩
  obtain ⟨Y, hY⟩ : ∃ X : ByteArray, (⟨(Lib.cut L [47]).2.1.toArray⟩ : ByteArray) = X := ⟨_, rfl⟩
  obtain ⟨Z, hZ⟩ : ∃ X : Bool, (Lib.cut L [47]).2.2 = X := ⟨_, rfl⟩
  have hX2 : X.data.toList = (Lib.cut L [47]).1 := by rw [← hX]
  have hY2 : Y.data.toList = (Lib.cut L [47]).2.1 := by rw [← hY]
  rw [hX, hY, hZ] at HCU
  rw [hX, hX2] at HA1
  rw [hY, hY2] at HA2
  have hNv : readN L = atoiV (Lib.cut L [47]).1 := rfl
  have hDv : readD L = if Z = true then atoiV (Lib.cut L [47]).2.1 else 1 := by rw [← hZ]; rfl
  obtain ⟨N, hN⟩ : ∃ N, atoiV (Lib.cut L [47]).1 = N := ⟨_, rfl⟩
  obtain ⟨A2, hA2⟩ : ∃ N, atoiV (Lib.cut L [47]).2.1 = N := ⟨_, rfl⟩
  rw [hN] at HA1 hNv
  rw [hA2] at HA2 hDv
  have HN := Lib.hid hNv
  clear hX hY hZ hX2 hY2 hN hA2 hNv hz1 hz2 hL hw
  go_enter Tryd.func12, Tryd.ntmps12
  go_wp2_with (with_reducible refine wpList_alloc (o := ⟨some 2, .alloc 23, _, _, _, _⟩) (by with_unfolding_all rfl) 23 (by with_unfolding_all rfl) (.agg zC.toArray) zC (by exact Tryd.zeroQ) (by with_unfolding_all rfl) ?_)
  intro g2 w1 hg2 hs1 hb1 hZ
  have hl2 : w.heap.size ≤ g2 := Nat.le_of_eq hg2.out.symm
  have hbe : Below w.heap.size w w1 := hb1.mono hl2
  clear hb1 hs1 hg2
  go_wp2_with fail
  (with_reducible refine (HCU.out _).mono ?_)
  rintro e w2 ⟨rfl, hb2⟩
  have hZ := hZ.next hb2 hZ.lt
  have hbe := below_join hbe hb2
  clear hb2
  go_wp2_with fail
  (with_reducible refine (HA1.out _ (HW.out.next hbe)).mono ?_)
  rintro e w3 ⟨⟨v3, rfl⟩, hb3⟩
  have hZ := hZ.next hb3 hZ.lt
  have hbe := below_join hbe hb3
  clear hb3
  go_wp2_with fail
  (with_reducible refine (whole_any N _).mono ?_)
  rintro e w4 ⟨rfl, hb4⟩
  have hZ := hZ.next hb4 hZ.lt
  have hbe := below_join hbe hb4
  clear hb4
  go_wp2_with (with_reducible refine wpList_alloc (o := ⟨some 9, .alloc 23, _, _, _, _⟩) (by with_unfolding_all rfl) 23 (by with_unfolding_all rfl) (.agg zC.toArray) zC (by exact Tryd.zeroQ) (by with_unfolding_all rfl) ?_)
  intro g9 w5 hg9 hs5 hb5 hR
  have h29 : g2 < g9 := by have := hZ.lt; have := hg9.out; omega
  have hl9 : w.heap.size ≤ g9 := by omega
  have hb5 := hb5.mono (Nat.le_of_eq hg9.out.symm)
  have hZ := hZ.next hb5 hZ.lt
  have hbe := below_join hbe hb5
  clear hb5 hs5 hg9
  go_wp2_with (with_reducible refine wpList_put (o := ⟨none, .store 23 (.tmp 9) (.tmp 22), _, _, _, _⟩) (by with_unfolding_all rfl) 23 (.tmp 9) (.tmp 22) (by with_unfolding_all rfl) g9 0 (by with_unfolding_all rfl) (.agg [Value.int .i64 N, Value.int .i64 1].toArray) (by with_unfolding_all rfl) hR [Value.int .i64 N, Value.int .i64 1] (by with_unfolding_all rfl) (by with_unfolding_all (exact Tryd.szQ)) (by with_unfolding_all (exact Nat.le_refl 2)) (by with_unfolding_all (exact int_one N 1)) ?_)
  intro w6 hu6 hR6
  rw [splice_all _ _ (by rfl)] at hR6
  have hR := hR6
  have hZ := hZ.upd hu6 (by omega)
  have hbe := hbe.trans (hu6.below (B := w.heap.size) hl9)
  clear hu6 hR6
  cases Z with
  | false =>
    rw [if_neg (by decide)] at hDv
    obtain ⟨D, hD1⟩ : ∃ D : Int, D = 1 := ⟨1, rfl⟩
    rw [← hD1] at hDv hR
    have HD := Lib.hid hDv
    clear hDv hD1
    obtain ⟨C, hC⟩ : ∃ C, chk N D = C := ⟨_, rfl⟩
    have HCK := Lib.hid (fun w => check_any N D w)
    rw [hC] at HCK
    go_wp2_with (with_reducible refine wpList_get (o := ⟨some 30, .load 23 (.tmp 9), _, _, _, _⟩) (by with_unfolding_all rfl) 23 (.tmp 9) (by with_unfolding_all rfl) g9 0 (by with_unfolding_all rfl) hR [Value.int .i64 N, Value.int .i64 D] (cs_all _) _ (by exact Tryd.underlying23) (by with_unfolding_all rfl) (by with_unfolding_all exact Tryd.szQ) ?_)
    (with_reducible refine (HCK.out _).mono ?_)
    rintro e w7 ⟨rfl, hb7⟩
    have hZ := hZ.next hb7 hZ.lt
    have hR := hR.next hb7 hR.lt
    have hbe := below_join hbe hb7
    clear hb7 HCK
    cases C with
    | false =>
      have HNO : Hid (ParsedQ L (.returned (.tuple #[.agg zC.toArray, .bool false]))) := by
        have : ParsedQ L (.returned (.tuple #[.agg zC.toArray, .bool false])) := ParsedQ.not (by rw [HN.out, HD.out]; exact hC)
        exact this
      clear hC
      go_wp2_with (first | (with_reducible refine wpList_build (o := ⟨some 39, .build 23 #[], _, _, _, _⟩) (by with_unfolding_all rfl) 23 #[] (by with_unfolding_all rfl) #[] (by with_unfolding_all rfl) (.agg zC.toArray) (by with_unfolding_all exact fun w => run_buildQ0 w) ?_) | (with_reducible refine wpList_put (o := ⟨none, .store 23 (.tmp 2) (.tmp 39), _, _, _, _⟩) (by with_unfolding_all rfl) 23 (.tmp 2) (.tmp 39) (by with_unfolding_all rfl) g2 0 (by with_unfolding_all rfl) (.agg zC.toArray) (by with_unfolding_all rfl) hZ zC (by with_unfolding_all rfl) (by with_unfolding_all (exact Tryd.szQ)) (by with_unfolding_all (exact Nat.le_refl 2)) (by with_unfolding_all (exact int_one 0 0)) ?_))
      intro w9 hu9 hZ9
      rw [splice_all _ _ (by rfl)] at hZ9
      have hfin := hbe.trans (hu9.below (B := w.heap.size) hl2)
      go_wp2
      refine bodyPost_ret (results_cell_two rfl _ _ g2 _ _ _ _ _ rfl rfl hZ9 Tryd.underlying23 rfl Tryd.szQ) rfl ⟨?_, hfin⟩
      exact HNO.out
    | true =>
      obtain ⟨q, hq, hqn, hqd⟩ := chk_is hC
      have HTX := Lib.hid (fun w (h : QW w) => text_any q w hq h)
      have hqc : qC q = [Value.int .i64 N, Value.int .i64 D] := by unfold qC; rw [hqn, hqd]
      rw [hqc] at HTX
      obtain ⟨T, hT⟩ : ∃ T : ByteArray, (⟨(textQ q).toArray⟩ : ByteArray) = T := ⟨_, rfl⟩
      rw [hT] at HTX
      have HQN := Lib.hid hqn
      have HQD := Lib.hid hqd
      have HQ := Lib.hid hq
      clear hC hqc hqn hqd hq
      go_wp2_with (with_reducible refine wpList_getg (o := ⟨some 34, .load 23 (.tmp 9), _, _, _, _⟩) (by with_unfolding_all rfl) 23 (.tmp 9) (by with_unfolding_all rfl) g9 0 (by with_unfolding_all rfl) hR [Value.int .i64 N, Value.int .i64 D] (cs_all _) _ (by exact Tryd.underlying23) (by with_unfolding_all rfl) (by with_unfolding_all exact Tryd.szQ) ?_)
      (with_reducible refine (HTX.out _ (HW.out.next hbe)).mono ?_)
      rintro e w8 ⟨rfl, hb8⟩
      have hZ := hZ.next hb8 hZ.lt
      have hR := hR.next hb8 hR.lt
      have hbe := below_join hbe hb8
      clear hb8 HTX
      by_cases hts : T = s
      · have HTS : Hid (ParsedQ L (.returned (.tuple #[.agg #[.int .i64 N, .int .i64 D], .bool true]))) := by
          have : ParsedQ L (.returned (.tuple #[.agg #[.int .i64 N, .int .i64 D], .bool true])) := by
            have h := ParsedQ.yes (s := L) HQ.out (by rw [HQN.out, HN.out]) (by rw [HQD.out, HD.out]) (by rw [← HL.out, ← hts, ← hT])
            rw [HN.out, HD.out] at h
            exact h
          exact this
        have hbq : (T.toList == s.toList) = true := by rw [hts]; exact beq_self_eq_true _
        clear hT hts
        go_wp2_with (first | (with_reducible refine wpList_get (o := ⟨some 40, .load 23 (.tmp 9), _, _, _, _⟩) (by with_unfolding_all rfl) 23 (.tmp 9) (by with_unfolding_all rfl) g9 0 (by with_unfolding_all rfl) hR [Value.int .i64 N, Value.int .i64 D] (cs_all _) _ (by exact Tryd.underlying23) (by with_unfolding_all rfl) (by with_unfolding_all exact Tryd.szQ) ?_) | (with_reducible refine wpList_put (o := ⟨none, .store 23 (.tmp 2) (.tmp 40), _, _, _, _⟩) (by with_unfolding_all rfl) 23 (.tmp 2) (.tmp 40) (by with_unfolding_all rfl) g2 0 (by with_unfolding_all rfl) (.agg [Value.int .i64 N, Value.int .i64 D].toArray) (by with_unfolding_all rfl) hZ [Value.int .i64 N, Value.int .i64 D] (by with_unfolding_all rfl) (by with_unfolding_all (exact Tryd.szQ)) (by with_unfolding_all (exact Nat.le_refl 2)) (by with_unfolding_all (exact int_one N D)) ?_))
        intro w9 hu9 hZ9
        rw [splice_all _ _ (by rfl)] at hZ9
        have hfin := hbe.trans (hu9.below (B := w.heap.size) hl2)
        go_wp2
        refine bodyPost_ret (results_cell_two rfl _ _ g2 _ _ _ _ _ rfl rfl hZ9 Tryd.underlying23 rfl Tryd.szQ) rfl ⟨?_, hfin⟩
        exact HTS.out
      · have hnt : ¬ textQ q = L := fun e => hts (by
          rw [← hT, e, ← HL.out])
        have hbq : (T.toList == s.toList) = false := beq_eq_false_iff_ne.2 (fun e => hts (by
          rw [ByteArray.toList_eq, ByteArray.toList_eq] at e
          apply ByteArray.ext
          apply Array.ext'
          exact e))
        have HNO : Hid (ParsedQ L (.returned (.tuple #[.agg zC.toArray, .bool false]))) := by
          have : ParsedQ L (.returned (.tuple #[.agg zC.toArray, .bool false])) := ParsedQ.other (q := q) (by rw [HQN.out, HN.out]) (by rw [HQD.out, HD.out]) hnt
          exact this
        clear hT hts hnt
        go_wp2_with (first | (with_reducible refine wpList_build (o := ⟨some 39, .build 23 #[], _, _, _, _⟩) (by with_unfolding_all rfl) 23 #[] (by with_unfolding_all rfl) #[] (by with_unfolding_all rfl) (.agg zC.toArray) (by with_unfolding_all exact fun w => run_buildQ0 w) ?_) | (with_reducible refine wpList_put (o := ⟨none, .store 23 (.tmp 2) (.tmp 39), _, _, _, _⟩) (by with_unfolding_all rfl) 23 (.tmp 2) (.tmp 39) (by with_unfolding_all rfl) g2 0 (by with_unfolding_all rfl) (.agg zC.toArray) (by with_unfolding_all rfl) hZ zC (by with_unfolding_all rfl) (by with_unfolding_all (exact Tryd.szQ)) (by with_unfolding_all (exact Nat.le_refl 2)) (by with_unfolding_all (exact int_one 0 0)) ?_))
        intro w9 hu9 hZ9
        rw [splice_all _ _ (by rfl)] at hZ9
        have hfin := hbe.trans (hu9.below (B := w.heap.size) hl2)
        go_wp2
        refine bodyPost_ret (results_cell_two rfl _ _ g2 _ _ _ _ _ rfl rfl hZ9 Tryd.underlying23 rfl Tryd.szQ) rfl ⟨?_, hfin⟩
        exact HNO.out
  | true =>
    rw [if_pos rfl] at hDv
    obtain ⟨D, hD1⟩ : ∃ D : Int, D = A2 := ⟨A2, rfl⟩
    subst hD1
    have HD := Lib.hid hDv
    clear hDv
    go_wp2_with fail
    (with_reducible refine (HA2.out _ (HW.out.next hbe)).mono ?_)
    rintro e w10 ⟨⟨v10, rfl⟩, hb10⟩
    have hZ := hZ.next hb10 hZ.lt
    have hR := hR.next hb10 hR.lt
    have hbe := below_join hbe hb10
    clear hb10
    go_wp2_with (with_reducible refine wpList_put (o := ⟨none, .store 3 (.tmp 29) (.tmp 27), _, _, _, _⟩) (by with_unfolding_all rfl) 3 (.tmp 29) (.tmp 27) (by with_unfolding_all rfl) g9 1 (by with_unfolding_all rfl) (.int .i64 D) (by with_unfolding_all rfl) hR [Value.int .i64 D] (by with_unfolding_all rfl) (by with_unfolding_all (exact Tryd.szI)) (by with_unfolding_all (exact Nat.le_refl 2)) (by with_unfolding_all (exact one_cell1 rfl)) ?_)
    intro w11 hu11 hR11
    have hR : Blk w11 g9 23 [Value.int .i64 N, Value.int .i64 D] := hR11
    have hZ := hZ.upd hu11 (by omega)
    have hbe := hbe.trans (hu11.below (B := w.heap.size) hl9)
    clear hu11 hR11
    obtain ⟨C, hC⟩ : ∃ C, chk N D = C := ⟨_, rfl⟩
    have HCK := Lib.hid (fun w => check_any N D w)
    rw [hC] at HCK
    go_wp2_with (with_reducible refine wpList_get (o := ⟨some 30, .load 23 (.tmp 9), _, _, _, _⟩) (by with_unfolding_all rfl) 23 (.tmp 9) (by with_unfolding_all rfl) g9 0 (by with_unfolding_all rfl) hR [Value.int .i64 N, Value.int .i64 D] (cs_all _) _ (by exact Tryd.underlying23) (by with_unfolding_all rfl) (by with_unfolding_all exact Tryd.szQ) ?_)
    (with_reducible refine (HCK.out _).mono ?_)
    rintro e w7 ⟨rfl, hb7⟩
    have hZ := hZ.next hb7 hZ.lt
    have hR := hR.next hb7 hR.lt
    have hbe := below_join hbe hb7
    clear hb7 HCK
    cases C with
    | false =>
      have HNO : Hid (ParsedQ L (.returned (.tuple #[.agg zC.toArray, .bool false]))) := by
        have : ParsedQ L (.returned (.tuple #[.agg zC.toArray, .bool false])) := ParsedQ.not (by rw [HN.out, HD.out]; exact hC)
        exact this
      clear hC
      go_wp2_with (first | (with_reducible refine wpList_build (o := ⟨some 39, .build 23 #[], _, _, _, _⟩) (by with_unfolding_all rfl) 23 #[] (by with_unfolding_all rfl) #[] (by with_unfolding_all rfl) (.agg zC.toArray) (by with_unfolding_all exact fun w => run_buildQ0 w) ?_) | (with_reducible refine wpList_put (o := ⟨none, .store 23 (.tmp 2) (.tmp 39), _, _, _, _⟩) (by with_unfolding_all rfl) 23 (.tmp 2) (.tmp 39) (by with_unfolding_all rfl) g2 0 (by with_unfolding_all rfl) (.agg zC.toArray) (by with_unfolding_all rfl) hZ zC (by with_unfolding_all rfl) (by with_unfolding_all (exact Tryd.szQ)) (by with_unfolding_all (exact Nat.le_refl 2)) (by with_unfolding_all (exact int_one 0 0)) ?_))
      intro w9 hu9 hZ9
      rw [splice_all _ _ (by rfl)] at hZ9
      have hfin := hbe.trans (hu9.below (B := w.heap.size) hl2)
      go_wp2
      refine bodyPost_ret (results_cell_two rfl _ _ g2 _ _ _ _ _ rfl rfl hZ9 Tryd.underlying23 rfl Tryd.szQ) rfl ⟨?_, hfin⟩
      exact HNO.out
    | true =>
      obtain ⟨q, hq, hqn, hqd⟩ := chk_is hC
      have HTX := Lib.hid (fun w (h : QW w) => text_any q w hq h)
      have hqc : qC q = [Value.int .i64 N, Value.int .i64 D] := by unfold qC; rw [hqn, hqd]
      rw [hqc] at HTX
      obtain ⟨T, hT⟩ : ∃ T : ByteArray, (⟨(textQ q).toArray⟩ : ByteArray) = T := ⟨_, rfl⟩
      rw [hT] at HTX
      have HQN := Lib.hid hqn
      have HQD := Lib.hid hqd
      have HQ := Lib.hid hq
      clear hC hqc hqn hqd hq
      go_wp2_with (with_reducible refine wpList_getg (o := ⟨some 34, .load 23 (.tmp 9), _, _, _, _⟩) (by with_unfolding_all rfl) 23 (.tmp 9) (by with_unfolding_all rfl) g9 0 (by with_unfolding_all rfl) hR [Value.int .i64 N, Value.int .i64 D] (cs_all _) _ (by exact Tryd.underlying23) (by with_unfolding_all rfl) (by with_unfolding_all exact Tryd.szQ) ?_)
      (with_reducible refine (HTX.out _ (HW.out.next hbe)).mono ?_)
      rintro e w8 ⟨rfl, hb8⟩
      have hZ := hZ.next hb8 hZ.lt
      have hR := hR.next hb8 hR.lt
      have hbe := below_join hbe hb8
      clear hb8 HTX
      by_cases hts : T = s
      · have HTS : Hid (ParsedQ L (.returned (.tuple #[.agg #[.int .i64 N, .int .i64 D], .bool true]))) := by
          have : ParsedQ L (.returned (.tuple #[.agg #[.int .i64 N, .int .i64 D], .bool true])) := by
            have h := ParsedQ.yes (s := L) HQ.out (by rw [HQN.out, HN.out]) (by rw [HQD.out, HD.out]) (by rw [← HL.out, ← hts, ← hT])
            rw [HN.out, HD.out] at h
            exact h
          exact this
        have hbq : (T.toList == s.toList) = true := by rw [hts]; exact beq_self_eq_true _
        clear hT hts
        go_wp2_with (first | (with_reducible refine wpList_get (o := ⟨some 40, .load 23 (.tmp 9), _, _, _, _⟩) (by with_unfolding_all rfl) 23 (.tmp 9) (by with_unfolding_all rfl) g9 0 (by with_unfolding_all rfl) hR [Value.int .i64 N, Value.int .i64 D] (cs_all _) _ (by exact Tryd.underlying23) (by with_unfolding_all rfl) (by with_unfolding_all exact Tryd.szQ) ?_) | (with_reducible refine wpList_put (o := ⟨none, .store 23 (.tmp 2) (.tmp 40), _, _, _, _⟩) (by with_unfolding_all rfl) 23 (.tmp 2) (.tmp 40) (by with_unfolding_all rfl) g2 0 (by with_unfolding_all rfl) (.agg [Value.int .i64 N, Value.int .i64 D].toArray) (by with_unfolding_all rfl) hZ [Value.int .i64 N, Value.int .i64 D] (by with_unfolding_all rfl) (by with_unfolding_all (exact Tryd.szQ)) (by with_unfolding_all (exact Nat.le_refl 2)) (by with_unfolding_all (exact int_one N D)) ?_))
        intro w9 hu9 hZ9
        rw [splice_all _ _ (by rfl)] at hZ9
        have hfin := hbe.trans (hu9.below (B := w.heap.size) hl2)
        go_wp2
        refine bodyPost_ret (results_cell_two rfl _ _ g2 _ _ _ _ _ rfl rfl hZ9 Tryd.underlying23 rfl Tryd.szQ) rfl ⟨?_, hfin⟩
        exact HTS.out
      · have hnt : ¬ textQ q = L := fun e => hts (by
          rw [← hT, e, ← HL.out])
        have hbq : (T.toList == s.toList) = false := beq_eq_false_iff_ne.2 (fun e => hts (by
          rw [ByteArray.toList_eq, ByteArray.toList_eq] at e
          apply ByteArray.ext
          apply Array.ext'
          exact e))
        have HNO : Hid (ParsedQ L (.returned (.tuple #[.agg zC.toArray, .bool false]))) := by
          have : ParsedQ L (.returned (.tuple #[.agg zC.toArray, .bool false])) := ParsedQ.other (q := q) (by rw [HQN.out, HN.out]) (by rw [HQD.out, HD.out]) hnt
          exact this
        clear hT hts hnt
        go_wp2_with (first | (with_reducible refine wpList_build (o := ⟨some 39, .build 23 #[], _, _, _, _⟩) (by with_unfolding_all rfl) 23 #[] (by with_unfolding_all rfl) #[] (by with_unfolding_all rfl) (.agg zC.toArray) (by with_unfolding_all exact fun w => run_buildQ0 w) ?_) | (with_reducible refine wpList_put (o := ⟨none, .store 23 (.tmp 2) (.tmp 39), _, _, _, _⟩) (by with_unfolding_all rfl) 23 (.tmp 2) (.tmp 39) (by with_unfolding_all rfl) g2 0 (by with_unfolding_all rfl) (.agg zC.toArray) (by with_unfolding_all rfl) hZ zC (by with_unfolding_all rfl) (by with_unfolding_all (exact Tryd.szQ)) (by with_unfolding_all (exact Nat.le_refl 2)) (by with_unfolding_all (exact int_one 0 0)) ?_))
        intro w9 hu9 hZ9
        rw [splice_all _ _ (by rfl)] at hZ9
        have hfin := hbe.trans (hu9.below (B := w.heap.size) hl2)
        go_wp2
        refine bodyPost_ret (results_cell_two rfl _ _ g2 _ _ _ _ _ rfl rfl hZ9 Tryd.underlying23 rfl Tryd.szQ) rfl ⟨?_, hfin⟩
        exact HNO.out
end Go.Proofs.YthjaelopmfjfeaaDoor
