/-
  The walk over the statement DiskKeepsWhatWasFlushed. Conditions: the arguments lie in memory that the law leaves alone, their integers are such.
-/
import Derived.Test.YtbmoedgokimhmaaDlb
namespace Go.Proofs.Ytbmoedgokimhmaa
open Go.RowKit

set_option maxRecDepth 100000 in
set_option maxHeartbeats 3200000 in
theorem keepLaw_any (p : Int) (A : Option Addr) (c : Nat) (xs : List OpM) (A2 : Option Addr) (c2 : Nat) (picks : List Int) (w : World) (hl : xs.length ≤ 140737488355328) (hi : IntsOk xs) (hS : ScriptAt w.heap.size w A xs) (hP : ∀ w', Below w.heap.size w w' → PkAt w' A2 picks) :
    Calls Try.prog 4 #[.int .i64 p, .slice A xs.length c, .slice A2 picks.length c2] w fun e w' => e = .returned (.bool true) ∧ Below w.heap.size w w' := by
  have HS := Lib.hid hS
  have HL := Lib.hid hl
  have HII := Lib.hid hi
  have HP := Lib.hid hP
  obtain ⟨q, hq⟩ : ∃ q, Hid (picks.length = q) := ⟨_, rfl⟩
  rw [hq.out]
  clear hP
  obtain ⟨N, hN⟩ : ∃ N, Hid (xs.length = N) := ⟨_, rfl⟩
  rw [hN.out]
  clear hS hl hi
  by_cases hp : 40 < p
  · go_enter Try.func4, Try.ntmps4
    go_wp2_with fail
    (with_reducible refine (sanity_any _).mono ?_)
    rintro e wS ⟨rfl, hbS⟩
    have hbz := hbS
    go_wp2
    go_ret
    exact ⟨rfl, hbz⟩
  · have hp1 : p ≤ 40 := by omega
    clear hp
    go_enter Try.func4, Try.ntmps4
    go_wp2_with fail
    rw [← hN.out]
    (with_reducible refine (few_any A c xs _ HL.out HS.out).mono ?_)
    rintro e w1 ⟨⟨b, rfl, hfb⟩, hb1⟩
    rw [hN.out]
    have HFB := Lib.hid hfb
    clear hfb
    cases b with
    | false =>
      go_wp2_with fail
      (with_reducible refine (sanity_any _).mono ?_)
      rintro e wS ⟨rfl, hbS⟩
      have hbz := below_join hb1 hbS
      go_wp2
      go_ret
      exact ⟨rfl, hbz⟩
    | true =>
      replace HFB := Lib.hid (HFB.out rfl)
      by_cases hq70 : 70 < q
      · have hq70i : (70 : Int) < (q : Int) := by omega
        go_wp2_with fail
        (with_reducible refine (sanity_any _).mono ?_)
        rintro e wS ⟨rfl, hbS⟩
        have hbz := below_join hb1 hbS
        go_wp2
        go_ret
        exact ⟨rfl, hbz⟩
      have hq70' : q ≤ 70 := by omega
      have hq70i : (q : Int) ≤ 70 := by omega
      clear hq70
      by_cases hp0 : p < 1
      · go_wp2_with fail
        (with_reducible refine (played_bad p A N c _ (Or.inl hp0)).mono ?_)
        rintro e w2 ⟨rfl, rfl⟩
        go_wp2_with fail
        (with_reducible refine (sanity_any _).mono ?_)
        rintro e wS ⟨rfl, hbS⟩
        have hbz := below_join hb1 hbS
        go_wp2
        go_ret
        exact ⟨rfl, hbz⟩
      obtain ⟨n, rfl⟩ : ∃ n : Nat, p = (n : Int) := ⟨p.toNat, by omega⟩
      have hn1 : 1 ≤ n := by omega
      have hn2 : n ≤ 40 := by omega
      have HF := Lib.hid (fine_of HII.out HFB.out.2)
      have hN40 : xs.length ≤ 40 := HFB.out.1
      clear hp0
      go_wp2_with fail
      rw [← hN.out]
      (with_reducible refine (played_any n A c xs _ hn1 hn2 hN40 HF.out ((HS.out.next hb1).up hb1.size)).mono ?_)
      rintro e w2 ⟨gd, gp, gm, gr, ga, cap, X, rfl, hT, hb2⟩
      rw [hN.out] at hN40 hT
      rw [hN.out]
      have hM : ((DM.make n).run xs).ok := DM.run_ok _ (DM.make_ok (by omega)) HF.out
      have hML : ((DM.make n).run xs).ps.length = n := by rw [DM.run_len, DM.make_len]
      obtain ⟨M, hMM⟩ : ∃ M, Hid ((DM.make n).run xs = M) := ⟨_, rfl⟩
      rw [hMM.out] at hM hML hT
      have HM := Lib.hid hM
      have HML := Lib.hid hML
      obtain ⟨n0, hn0⟩ : ∃ n0, Hid (w.heap.size = n0) := ⟨_, rfl⟩
      replace hT : Two n0 w2 gd gp gm n [] N gr ga cap X M := hT.low (by rw [← hn0.out]; exact hb1.size)
      have hbel : Below n0 w w2 := by rw [← hn0.out]; exact below_join hb1 hb2
      have hsz : n0 ≤ w2.heap.size := by rw [← hn0.out]; exact Nat.le_trans hb1.size hb2.size
      obtain ⟨big1, big2⟩ := hT.big
      have HB1 := Lib.hid big1
      have HB2 := Lib.hid big2
      obtain ⟨ee1, ee2, ee3⟩ := hT.e2
      have EE1 := Lib.hid ee1
      have EE2 := Lib.hid ee2
      have EE3 := Lib.hid ee3
      have EE4 := Lib.hid hT.e
      obtain ⟨cp, hcp⟩ : ∃ cp, Hid (n = cp) := ⟨_, rfl⟩
      obtain ⟨Y, hY⟩ : ∃ Y : List Value, Hid ([] = Y) := ⟨_, rfl⟩
      replace hT : Two n0 w2 gd gp gm cp Y N gr ga cap X M := by rw [← hcp.out, ← hY.out]; exact hT
      clear hb1 hb2 big1 big2 ee1 ee2 ee3 hM hML hp1 HFB
      rw [hn0.out] at HP
      obtain ⟨M1, hM1⟩ : ∃ M1, Hid (M.tripTo (-1) = M1) := ⟨_, rfl⟩
      have HM1 : Hid M1.ok := by
        have : M1.ok := by rw [← hM1.out]; exact DM.tripTo_ok HM.out ⟨by omega, by omega⟩
        exact this
      go_wp2_with fail
      (with_reducible refine (trip_any gd gp gm N cp Y M (-1) _ (by omega) (by omega) hT.p).mono ?_)
      rintro e w3 ⟨rfl, hp3, ho3⟩
      rw [hM1.out] at hp3
      have hbel3 := below_only hbel (ho3.mono (by simp)) HB1.out hsz
      have hsz3 : n0 ≤ w3.heap.size := Nat.le_trans hsz ho3.size
      clear hT hbel hsz ho3
      obtain ⟨i0, hi0, hz0, hz1, hz2⟩ := info_parts Try.infoS
      obtain ⟨LR, hLR⟩ : ∃ LR, Hid (rdRow M1 n = LR) := ⟨_, rfl⟩
      have hLRn : Hid (LR.length = n) := by
        have : LR.length = n := by rw [← hLR.out, rdRow_len]
        exact this
      have BP : Hid (∀ w', Below w3.heap.size w3 w' → PRep w' gd gp gm cp Y M1 N) := by
        have : ∀ w', Below w3.heap.size w3 w' → PRep w' gd gp gm cp Y M1 N := fun w' hb => hp3.next hb
        exact this
      go_wp2
      go_loopw [10, 46] (RImRel LR n w3) (fun _ i _ => n - natOf i)
      case atStart => exact ⟨0, Nat.zero_le _, rfl, World.ownsRow_nil _ _ _ _, Below.refl _ _⟩
      case round =>
        obtain ⟨j, hj, rfl, hown, hbr⟩ := hrel
        obtain ⟨AB, cB, rfl⟩ := own_shape hown
        by_cases hjn : j < n
        · have hji : (j : Int) < (n : Int) := by omega
          obtain ⟨sK, hsK⟩ : ∃ sK : ByteArray, Hid ((⟨(M1.readS (j : Int)).toArray⟩ : ByteArray) = sK) := ⟨_, rfl⟩
          obtain ⟨eK, heK⟩ : ∃ eK, Hid (M1.readE (j : Int) = eK) := ⟨_, rfl⟩
          have hnx : Hid ((LR.take j).map S8 ++ [Value.string sK] = (LR.take (j + 1)).map S8) := by
            have : (LR.take j).map S8 ++ [Value.string sK] = (LR.take (j + 1)).map S8 := by
              rw [← hsK.out]
              exact take_next S8 LR j _ (by rw [← hLR.out]; exact rdRow_at M1 hjn)
            exact this
          obtain ⟨XS, hXS⟩ : ∃ XS, Hid ((LR.take j).map S8 = XS) := ⟨_, rfl⟩
          rw [hXS.out] at hown hnx
          have hpr := BP.out wr hbr
          clear hj hXS
          go_wp2_with fail
          (with_reducible refine (read_str gd gp gm N cp Y M1 _ sK eK _ HM1.out hsK.out heK.out hpr).mono ?_)
          rintro e wq ⟨rfl, hbq⟩
          have hown2 := own_only hown (Only.of_below (L := []) hbq) (by simp)
          have hbr2 := below_join hbr hbq
          have hszq := hbr2.size
          have hlt := hown2.lt
          clear hown hbr hbq hpr
          go_wp2_with (at_builtin; refine wpList_append_own _ rfl _ _ 43 rfl w3.heap.size 9 i0 _ 1 16 Try.underlying43 hi0 hz0 hz1 hz2 rfl (by decide) _ _ _ rfl (hown2.alloc _) ⟨wq.heap.size, 0, none⟩ 1 1 [.string sK] rfl (by with_unfolding_all rfl) (fun j u hu => one_cellV hu) (one_cell1 rfl) (by unfold maxLen; omega) (by omega) (by with_unfolding_all (simp; omega)) ?_)
          intro v5 w5 hown5 hgrow5 _
          have hbr5 := (hbr2.alloc hszq (.cells #[.string sK] 9)).grown hgrow5 (by simp; omega) (fun j hj => (hlt j hj).1)
          rw [hnx.out] at hown5
          clear hown2 hlt hgrow5 hbr2
          go_wp2
          go_roundw
          case rel => exact ⟨j + 1, by omega, by go_num, hown5, hbr5⟩
          case measure => simp [natOf]; omega
        · obtain rfl : j = n := by omega
          rw [List.take_of_length_le (Nat.le_of_eq hLRn.out)] at hown
          have hp5 := BP.out wr hbr
          have hbel5 := hbel3.trans (hbr.mono hsz3)
          have hsz5 : n0 ≤ wr.heap.size := Nat.le_trans hsz3 hbr.size
          have KE : Hid (∀ w', Only [gd, gp, gm] wr w' → RowAt w' AB (LR.map S8)) := by
            have : ∀ w', Only [gd, gp, gm] wr w' → RowAt w' AB (LR.map S8) := fun w' ho => RowAt.of_own (own_only hown ho (by
              have h1 := hp3.d.lt
              have h2 := hp3.p.lt
              have h3 := hp3.m.lt
              intro q hq
              simp only [List.mem_cons, List.not_mem_nil, or_false] at hq
              rcases hq with rfl | rfl | rfl <;> assumption))
            exact this
          clear hj hjn hp3 hbel3 hsz3 hown hbr BP
          by_cases hu : M.up = true
          · obtain ⟨e1, e2⟩ := flush_tripped hu
            obtain ⟨M2, hM2⟩ : ∃ M2, (M.tripTo (-1)).settled = M2 := ⟨_, rfl⟩
            obtain ⟨M3, hM3⟩ : ∃ M3, M2.tripTo 0 = M3 := ⟨_, rfl⟩
            obtain ⟨M4, hM4⟩ : ∃ M4, M3.step = M4 := ⟨_, rfl⟩
            obtain ⟨M5, hM5⟩ : ∃ M5, M4.mount picks = M5 := ⟨_, rfl⟩
            have hM1o := HM1.out
            have oM2 : M2.ok := by rw [← hM2, ← e2]; exact DM.flush_ok (by rw [hM1.out]; exact hM1o)
            have oM3 : M3.ok := by rw [← hM3]; exact DM.tripTo_ok oM2 ⟨by omega, by omega⟩
            have oM4 : M4.ok := by rw [← hM4]; exact DM.step_ok oM3
            have oM5 : M5.ok := by rw [← hM5]; exact DM.mount_ok oM4 _
            have lM2 : M2.ps.length = j := by rw [← hM2, settled_len]; exact HML.out
            have lM5 : M5.ps.length = j := by rw [← hM5, DM.mount_len, ← hM4, DM.step_ps, ← hM3]; exact lM2
            have hu2 : M2.up = true := by rw [← hM2]; exact hu
            obtain ⟨w1', w2'⟩ := write_trip0 hu2 (by omega : 0 < M2.ps.length)
            obtain ⟨k1, k2⟩ := kept_image HM.out hu HML.out picks
            rw [hM2, hM3, hM4, hM5, hM1.out, hLR.out] at k1
            rw [hM2, hM3, hM4, hM5] at k2
            rw [hM3] at w1' w2'
            rw [hM4] at w2'
            rw [hM2] at e2
            rw [hM1.out] at e1 e2
            have F1 := Lib.hid e1
            have F2 := Lib.hid e2
            have W1 := Lib.hid w1'
            have W2 := Lib.hid w2'
            have K1 := Lib.hid k1
            have K2 : Hid (M5.pending.length = 0) := by
              have : M5.pending.length = 0 := by rw [k2]; rfl
              exact this
            have T3 := Lib.hid hM3
            have T5 := Lib.hid hM5
            have O2 := Lib.hid oM2
            have O3 := Lib.hid oM3
            have O4 := Lib.hid oM4
            have O5 := Lib.hid oM5
            have L5 := Lib.hid lM5
            have U5 : Hid (M5.up = true) := by
              have : M5.up = true := by rw [← hM5]; rfl
              exact this
            clear hu e1 e2 hM2 hM3 hM4 hM5 hM1o oM2 oM3 oM4 oM5 lM2 lM5 hu2 w1' w2' k1 k2
            go_wp2_with fail
            (with_reducible refine (flush_any gd gp gm N cp Y M1 _ HM1.out hp5).mono ?_)
            rintro e w6 ⟨rfl, hp6, ho6⟩
            rw [F2.out] at hp6
            rw [F1.out]
            clear hp5
            go_wp2_with fail
            (with_reducible refine (trip_any gd gp gm N cp Y M2 0 _ (by omega) (by omega) hp6).mono ?_)
            rintro e w7 ⟨rfl, hp7, ho7⟩
            rw [T3.out] at hp7
            have O7 : Only [gd, gp, gm] wr w7 := ho6.trans (ho7.mono (by simp))
            clear hp6 ho6 ho7
            go_wp2_with fail
            (with_reducible refine (write_any gd gp gm N cp Y M3 0 0 { data := #[122] } _ O3.out (by decide) (by omega) hp7).mono ?_)
            rintro e w8 ⟨rfl, hp8, ho8⟩
            rw [W2.out] at hp8
            rw [W1.out]
            have O8 : Only [gd, gp, gm] wr w8 := O7.trans (ho8.mono (by simp))
            have hbel8 := below_only hbel5 O8 HB1.out hsz5
            have hsz8 : n0 ≤ w8.heap.size := Nat.le_trans hsz5 O8.size
            clear hp7 O7 ho8
            go_wp2_with fail
            rw [← hq.out]
            (with_reducible refine (mount_any gd gp gm (N + 1) cp Y M4 A2 c2 picks _ O4.out hp8 (by rw [hq.out]; omega) (fun w' ho => HP.out w' (below_only hbel8 ho HB1.out hsz8))).mono ?_)
            rintro e w9 ⟨rfl, hp9, ho9⟩
            rw [T5.out] at hp9
            rw [hq.out]
            have O9 := O8.trans ho9
            clear hp8 O8 ho9 hbel8 hsz8
            go_wp2_with fail
            (with_reducible refine (sanity_any _).mono ?_)
            rintro e wA ⟨rfl, hbA⟩
            have hpA := hp9.next hbA
            have OA := O9.trans (Only.of_below (L := [gd, gp, gm]) hbA)
            clear hp9 O9 hbA
            go_wp2_with fail
            (with_reducible refine (image_any gd gp gm (N + 1) cp Y M5 _ O5.out hpA).mono ?_)
            rintro e wB ⟨gI, rfl, hIB, hbB, _⟩
            rw [L5.out]
            rw [K1.out] at hIB
            have hpB := hpA.next hbB
            have OB := OA.trans (Only.of_below (L := [gd, gp, gm]) hbB)
            have hJB := KE.out _ OB
            clear hpA OA hbB
            go_wp2_with fail
            (with_reducible refine (sameTexts_img _ _ _ _ j LR _ hLRn.out (by omega) (RowAt.of_blk hIB) hJB).mono ?_)
            rintro e wC ⟨rfl, hbC⟩
            have hpC := hpB.next hbC
            have OC := OB.trans (Only.of_below (L := [gd, gp, gm]) hbC)
            clear hpB OB hbC hIB hJB
            go_wp2_with fail
            (with_reducible refine (pending_any gd gp gm (N + 1) cp Y M5 _ O5.out hpC).mono ?_)
            rintro e wD ⟨v, rfl, rowD, _, hbD⟩
            obtain ⟨AD, cD, rfl⟩ := own_shape rowD
            rw [K2.out]
            have hpD := hpC.next hbD
            have OD := OC.trans (Only.of_below (L := [gd, gp, gm]) hbD)
            clear hpC OC hbD rowD
            go_wp2_with fail
            (with_reducible refine (up_any gd gp gm (N + 1) cp Y M5 _ hpD).mono ?_)
            rintro e w' ⟨rfl, rfl⟩
            rw [U5.out]
            have hbelz := below_only hbel5 OD HB1.out hsz5
            clear hpD OD
            go_wp2
            go_ret
            exact ⟨rfl, by rw [hn0.out]; exact hbelz⟩
          · have huf : M1.up = false := by
              have h0 : M.up = false := by simpa using hu
              rw [← hM1.out]; exact h0
            obtain ⟨e1, e2⟩ := flush_down huf
            have F1 := Lib.hid e1
            have F2 := Lib.hid e2
            have HU := Lib.hid huf
            clear hu huf e1 e2
            go_wp2_with fail
            (with_reducible refine (flush_any gd gp gm N cp Y M1 _ HM1.out hp5).mono ?_)
            rintro e w6 ⟨rfl, hp6, ho6⟩
            rw [F2.out] at hp6
            rw [F1.out]
            clear hp5
            go_wp2_with fail
            (with_reducible refine (sanity_any _).mono ?_)
            rintro e w7 ⟨rfl, hb7⟩
            have hp7 := hp6.next hb7
            have O7 := ho6.trans (Only.of_below (L := [gd, gp, gm]) hb7)
            clear hp6 ho6 hb7
            go_wp2_with fail
            (with_reducible refine (up_any gd gp gm N cp Y M1 _ hp7).mono ?_)
            rintro e w' ⟨rfl, rfl⟩
            rw [HU.out]
            have hbelz := below_only hbel5 O7 HB1.out hsz5
            clear hp7 O7
            go_wp2
            go_ret
            exact ⟨rfl, by rw [hn0.out]; exact hbelz⟩
end Go.Proofs.Ytbmoedgokimhmaa
