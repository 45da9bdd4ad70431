/-
  The walk over the statement DiskWritesBytes. Conditions: the arguments lie in memory that the law leaves alone, their integers are such.
-/
import Derived.Test.YtbmoedgokimhmaaDla
namespace Go.Proofs.Ytbmoedgokimhmaa
open Go.RowKit

set_option maxRecDepth 100000 in
set_option maxHeartbeats 3200000 in
theorem writeLaw_any (p : Int) (A : Option Addr) (c : Nat) (xs : List OpM) (i a : Int) (s : ByteArray) (w : World) (hl : xs.length ≤ 140737488355328) (hi : IntsOk xs) (hS : ScriptAt w.heap.size w A xs) :
    Calls Try.prog 7 #[.int .i64 p, .slice A xs.length c, .int .i64 i, .int .i64 a, .string s] w fun e w' => e = .returned (.bool true) ∧ Below w.heap.size w w' := by
  have HS := Lib.hid hS
  have HL := Lib.hid hl
  have HII := Lib.hid hi
  obtain ⟨N, hN⟩ : ∃ N, Hid (xs.length = N) := ⟨_, rfl⟩
  rw [hN.out]
  clear hS hl hi
  by_cases hp : 40 < p
  · go_enter Try.func7, Try.ntmps7
    go_wp2_with fail
    (with_reducible refine (sanity_any _).mono ?_)
    rintro e wS ⟨rfl, hbS⟩
    have hbz := hbS
    go_wp2
    go_ret
    exact ⟨rfl, hbz⟩
  · have hp1 : p ≤ 40 := by omega
    clear hp
    go_enter Try.func7, Try.ntmps7
    go_wp2_with fail
    rw [← hN.out]
    (with_reducible refine (few_any A c xs _ HL.out HS.out).mono ?_)
    rintro e w1 ⟨⟨b, rfl, hfb⟩, hb1⟩
    rw [hN.out]
    have HFB := Lib.hid hfb
    clear hfb
    cases b with
    | false =>
      go_wp2_with fail
      (with_reducible refine (sanity_any _).mono ?_)
      rintro e wS ⟨rfl, hbS⟩
      have hbz := below_join hb1 hbS
      go_wp2
      go_ret
      exact ⟨rfl, hbz⟩
    | true =>
      replace HFB := Lib.hid (HFB.out rfl)
      by_cases hq70 : 300 < s.size
      · have hq70i : (300 : Int) < (s.size : Int) := by omega
        go_wp2_with fail
        (with_reducible refine (sanity_any _).mono ?_)
        rintro e wS ⟨rfl, hbS⟩
        have hbz := below_join hb1 hbS
        go_wp2
        go_ret
        exact ⟨rfl, hbz⟩
      have hq70' : s.size ≤ 300 := by omega
      have hq70i : (s.size : Int) ≤ 300 := by omega
      clear hq70
      by_cases hp0 : p < 1
      · go_wp2_with fail
        (with_reducible refine (played_bad p A N c _ (Or.inl hp0)).mono ?_)
        rintro e w2 ⟨rfl, rfl⟩
        go_wp2_with fail
        (with_reducible refine (sanity_any _).mono ?_)
        rintro e wS ⟨rfl, hbS⟩
        have hbz := below_join hb1 hbS
        go_wp2
        go_ret
        exact ⟨rfl, hbz⟩
      obtain ⟨n, rfl⟩ : ∃ n : Nat, p = (n : Int) := ⟨p.toNat, by omega⟩
      have hn1 : 1 ≤ n := by omega
      have hn2 : n ≤ 40 := by omega
      have HF := Lib.hid (fine_of HII.out HFB.out.2)
      have hN40 : xs.length ≤ 40 := HFB.out.1
      clear hp0
      go_wp2_with fail
      rw [← hN.out]
      (with_reducible refine (played_any n A c xs _ hn1 hn2 hN40 HF.out ((HS.out.next hb1).up hb1.size)).mono ?_)
      rintro e w2 ⟨gd, gp, gm, gr, ga, cap, X, rfl, hT, hb2⟩
      rw [hN.out] at hN40 hT
      rw [hN.out]
      have hM : ((DM.make n).run xs).ok := DM.run_ok _ (DM.make_ok (by omega)) HF.out
      have hML : ((DM.make n).run xs).ps.length = n := by rw [DM.run_len, DM.make_len]
      obtain ⟨M, hMM⟩ : ∃ M, Hid ((DM.make n).run xs = M) := ⟨_, rfl⟩
      rw [hMM.out] at hM hML hT
      have HM := Lib.hid hM
      have HML := Lib.hid hML
      obtain ⟨n0, hn0⟩ : ∃ n0, Hid (w.heap.size = n0) := ⟨_, rfl⟩
      replace hT : Two n0 w2 gd gp gm n [] N gr ga cap X M := hT.low (by rw [← hn0.out]; exact hb1.size)
      have hbel : Below n0 w w2 := by rw [← hn0.out]; exact below_join hb1 hb2
      have hsz : n0 ≤ w2.heap.size := by rw [← hn0.out]; exact Nat.le_trans hb1.size hb2.size
      obtain ⟨big1, big2⟩ := hT.big
      have HB1 := Lib.hid big1
      have HB2 := Lib.hid big2
      obtain ⟨ee1, ee2, ee3⟩ := hT.e2
      have EE1 := Lib.hid ee1
      have EE2 := Lib.hid ee2
      have EE3 := Lib.hid ee3
      have EE4 := Lib.hid hT.e
      obtain ⟨cp, hcp⟩ : ∃ cp, Hid (n = cp) := ⟨_, rfl⟩
      obtain ⟨Y, hY⟩ : ∃ Y : List Value, Hid ([] = Y) := ⟨_, rfl⟩
      replace hT : Two n0 w2 gd gp gm cp Y N gr ga cap X M := by rw [← hcp.out, ← hY.out]; exact hT
      clear hb1 hb2 big1 big2 ee1 ee2 ee3 hM hML hp1 HFB
      go_wp2_with fail
      (with_reducible refine (image_any gd gp gm N cp Y M _ HM.out hT.p).mono ?_)
      rintro e w3 ⟨gi, rfl, hI, hb3, hgi⟩
      rw [HML.out]
      have hT3 := hT.next hb3
      have hbel3 := hbel.trans (hb3.mono hsz)
      have hsz3 : n0 ≤ w3.heap.size := Nat.le_trans hsz hb3.size
      have NI : Hid (gi ∉ [gd, gp, gm]) := by
        have : gi ∉ [gd, gp, gm] := by
          have h1 := hT.p.d.lt
          have h2 := hT.p.p.lt
          have h3 := hT.p.m.lt
          simp only [List.mem_cons, List.not_mem_nil, or_false]; omega
        exact this
      clear hT hbel hsz hb3 hgi
      obtain ⟨i0, hi0, hz0, hz1, hz2⟩ := info_parts Try.infoS
      obtain ⟨LR, hLR⟩ : ∃ LR, Hid (rdRow M n = LR) := ⟨_, rfl⟩
      have hLRn : Hid (LR.length = n) := by
        have : LR.length = n := by rw [← hLR.out, rdRow_len]
        exact this
      have BP : Hid (∀ w', Below w3.heap.size w3 w' → PRep w' gd gp gm cp Y M N) := by
        have : ∀ w', Below w3.heap.size w3 w' → PRep w' gd gp gm cp Y M N := fun w' hb => hT3.p.next hb
        exact this
      go_wp2
      go_loopw [15, 54] (RImRel LR n w3) (fun _ i _ => n - natOf i)
      case atStart => exact ⟨0, Nat.zero_le _, rfl, World.ownsRow_nil _ _ _ _, Below.refl _ _⟩
      case round =>
        obtain ⟨j, hj, rfl, hown, hbr⟩ := hrel
        obtain ⟨AB, cB, rfl⟩ := own_shape hown
        by_cases hjn : j < n
        · have hji : (j : Int) < (n : Int) := by omega
          obtain ⟨sK, hsK⟩ : ∃ sK : ByteArray, Hid ((⟨(M.readS (j : Int)).toArray⟩ : ByteArray) = sK) := ⟨_, rfl⟩
          obtain ⟨eK, heK⟩ : ∃ eK, Hid (M.readE (j : Int) = eK) := ⟨_, rfl⟩
          have hnx : Hid ((LR.take j).map S8 ++ [Value.string sK] = (LR.take (j + 1)).map S8) := by
            have : (LR.take j).map S8 ++ [Value.string sK] = (LR.take (j + 1)).map S8 := by
              rw [← hsK.out]
              exact take_next S8 LR j _ (by rw [← hLR.out]; exact rdRow_at M hjn)
            exact this
          obtain ⟨XS, hXS⟩ : ∃ XS, Hid ((LR.take j).map S8 = XS) := ⟨_, rfl⟩
          rw [hXS.out] at hown hnx
          have hpr := BP.out wr hbr
          clear hj hXS
          go_wp2_with fail
          (with_reducible refine (read_str gd gp gm N cp Y M _ sK eK _ HM.out hsK.out heK.out hpr).mono ?_)
          rintro e wq ⟨rfl, hbq⟩
          have hown2 := own_only hown (Only.of_below (L := []) hbq) (by simp)
          have hbr2 := below_join hbr hbq
          have hszq := hbr2.size
          have hlt := hown2.lt
          clear hown hbr hbq hpr
          go_wp2_with (at_builtin; refine wpList_append_own _ rfl _ _ 43 rfl w3.heap.size 9 i0 _ 1 16 Try.underlying43 hi0 hz0 hz1 hz2 rfl (by decide) _ _ _ rfl (hown2.alloc _) ⟨wq.heap.size, 0, none⟩ 1 1 [.string sK] rfl (by with_unfolding_all rfl) (fun j u hu => one_cellV hu) (one_cell1 rfl) (by unfold maxLen; omega) (by omega) (by with_unfolding_all (simp; omega)) ?_)
          intro v5 w5 hown5 hgrow5 _
          have hbr5 := (hbr2.alloc hszq (.cells #[.string sK] 9)).grown hgrow5 (by simp; omega) (fun j hj => (hlt j hj).1)
          rw [hnx.out] at hown5
          clear hown2 hlt hgrow5 hbr2
          go_wp2
          go_roundw
          case rel => exact ⟨j + 1, by omega, by go_num, hown5, hbr5⟩
          case measure => simp [natOf]; omega
        · obtain rfl : j = n := by omega
          rw [List.take_of_length_le (Nat.le_of_eq hLRn.out)] at hown
          have hp5 := BP.out wr hbr
          have hbel5 := hbel3.trans (hbr.mono hsz3)
          have hsz5 : n0 ≤ wr.heap.size := Nat.le_trans hsz3 hbr.size
          have hI5 := hI.next hbr hI.lt
          have KE : Hid (∀ w', Only [gd, gp, gm] wr w' → Blk w' gi 9 (M.image.map S8) ∧ RowAt w' AB (LR.map S8)) := by
            have : ∀ w', Only [gd, gp, gm] wr w' → Blk w' gi 9 (M.image.map S8) ∧ RowAt w' AB (LR.map S8) := fun w' ho => ⟨hI5.only ho NI.out, RowAt.of_own (own_only hown ho (by
              have h1 := hT3.p.d.lt
              have h2 := hT3.p.p.lt
              have h3 := hT3.p.m.lt
              intro q hq
              simp only [List.mem_cons, List.not_mem_nil, or_false] at hq
              rcases hq with rfl | rfl | rfl <;> assumption))⟩
            exact this
          clear hj hjn hT3 hI hI5 hbel3 hsz3 hown hbr BP
          by_cases hu : M.up = true
          · by_cases hfit : (M.okP i && DM.fits a s.data.toList.length) = true
            · by_cases hst : M.step.up = true
              · obtain ⟨h1, h2⟩ := Bool.and_eq_true_iff.1 hfit
                obtain ⟨jj, rfl, hjj⟩ := DM.okP_nat h1
                have h3 := of_decide_eq_true h2
                rw [bytes_size] at h3
                obtain ⟨bb, rfl⟩ : ∃ bb : Nat, a = (bb : Int) := ⟨a.toNat, by omega⟩
                obtain ⟨ee, hee⟩ : ∃ ee, bb + s.size = ee := ⟨_, rfl⟩
                have hee128 : ee ≤ 128 := by omega
                have hbe : bb ≤ ee := by omega
                have hjn : jj < j := by rw [← HML.out]; exact hjj
                obtain ⟨e1, e2⟩ := write_good hu hfit hst
                rw [Int.toNat_natCast, Int.toNat_natCast] at e2
                obtain ⟨R, hR⟩ : ∃ R, (M.page jj).now = R := ⟨_, rfl⟩
                have hRl : R.length = 128 := by rw [← hR]; exact Pg.now_length (DM.page_ok HM.out hjj)
                obtain ⟨sR, hsR⟩ : ∃ sR : ByteArray, (⟨R.toArray⟩ : ByteArray) = sR := ⟨_, rfl⟩
                have hzR : sR.size = 128 := by rw [← hsR]; exact hRl
                obtain ⟨P, hP⟩ : ∃ P, DM.put R bb s.data.toList = P := ⟨_, rfl⟩
                obtain ⟨sP, hsP⟩ : ∃ sP : ByteArray, (⟨P.toArray⟩ : ByteArray) = sP := ⟨_, rfl⟩
                have hpb := put_bytes R s bb hRl (by omega)
                rw [hsR, hP, hee, hsP] at hpb
                obtain ⟨M2, hM2⟩ : ∃ M2, M.step.set jj ⟨(M.page jj).old, some (DM.put (M.page jj).now bb s.data.toList)⟩ = M2 := ⟨_, rfl⟩
                have HM2 : Hid M2.ok := by
                  have : M2.ok := by rw [← hM2, ← e2]; exact DM.write_ok HM.out _ _ _
                  exact this
                have HML2 : Hid (M2.ps.length = j) := by
                  have : M2.ps.length = j := by rw [← hM2, DM.set_len, DM.step_ps]; exact HML.out
                  exact this
                have HIM : Hid (M2.image = M.image) := by
                  have : M2.image = M.image := by
                    rw [← hM2, ← image_step M, ← DM.page_step M jj]
                    exact DM.image_new M.step jj (by rw [DM.step_ps]; exact hjj) _
                  exact this
                have hup2 : M2.up = true := by rw [← hM2]; exact hst
                have HRE : Hid (∀ k, k < j → M2.readE (k : Int) = 0) := fun k hk => readE_up hup2 HML2.out hk
                have HRS : Hid (∀ k, k < j → M2.readS (k : Int) = if k = jj then P else M.readS (k : Int)) := by
                  have : ∀ k, k < j → M2.readS (k : Int) = if k = jj then P else M.readS (k : Int) := fun k hk => by
                    rw [readS_up hup2 HML2.out hk, readS_up hu HML.out hk, ← hM2, write_page hjj k (by rw [HML.out]; exact hk), hR, hP]
                  exact this
                have HRJ : Hid (S8 (M.readS (jj : Int)) = .string sR) := by
                  have : S8 (M.readS (jj : Int)) = .string sR := by rw [readS_up hu HML.out hjn, hR]; unfold S8; rw [hsR]
                  exact this
                have HE : Hid (M.writeE (jj : Int) (bb : Int) s.data.toList = 0) := e1
                have HW : Hid (M.write (jj : Int) (bb : Int) s.data.toList = M2) := by
                  have : M.write (jj : Int) (bb : Int) s.data.toList = M2 := by rw [e2]; exact hM2
                  exact this
                have HPP := Lib.hid hsP
                have hcat2 : ¬ (9223372036854775807 < min bb 128 + s.size + (128 - ee)) := by omega
                have hcat1 : ¬ (9223372036854775807 < min bb 128 + s.size) := by omega
                have hwr : IntKind.i64.wrap ((bb : Int) + (s.size : Int)) = (ee : Int) := by simp only [IntKind.wrap_i64]; omega
                have heei : (ee : Int) ≤ 128 := by omega
                have hbei : (bb : Int) ≤ (ee : Int) := by omega
                have hbb128 : (bb : Int) ≤ 128 := by omega
                clear hu hfit hst h1 h2 h3 hjj e1 e2 hR hRl hsR hP hsP hM2 hup2
                go_wp2_with fail
                (with_reducible refine (write_any gd gp gm N cp Y M _ _ s _ HM.out (by omega) (by omega) hp5).mono ?_)
                rintro e w6 ⟨rfl, hp6, ho6⟩
                rw [HW.out] at hp6
                rw [HE.out]
                have O6 : Only [gd, gp, gm] wr w6 := ho6.mono (by simp)
                clear hp5 ho6
                go_wp2
                go_loopw [120] (fun i wr' => ∃ k : Nat, k ≤ j ∧ i = .int .i64 k ∧ Below w6.heap.size w6 wr') (fun i _ => j - natOf i)
                case atStart => exact ⟨0, Nat.zero_le _, rfl, Below.refl _ _⟩
                case round =>
                  obtain ⟨k, hk, rfl, hbr⟩ := hrel
                  by_cases hkn : k < j
                  · have hki : (k : Int) < (j : Int) := by omega
                    obtain ⟨sT, hsT⟩ : ∃ sT : ByteArray, (⟨(M2.readS (k : Int)).toArray⟩ : ByteArray) = sT := ⟨_, rfl⟩
                    have hp7 := hp6.next hbr
                    have HRK := Lib.hid (HRS.out k hkn)
                    have HEK := Lib.hid (HRE.out k hkn)
                    have HST := Lib.hid hsT
                    clear hk hsT
                    go_wp2_with fail
                    (with_reducible refine (read_str gd gp gm (N + 1) cp Y M2 _ sT 0 _ HM2.out HST.out HEK.out hp7).mono ?_)
                    rintro e w7 ⟨rfl, hb7⟩
                    have hbr7 := below_join hbr hb7
                    have O7 := O6.trans (Only.of_below (L := [gd, gp, gm]) hbr7)
                    obtain ⟨gB, rfl, hcB⟩ := (KE.out _ O7).2 k (S8 (M.readS (k : Int))) (by rw [List.getElem?_map, ← hLR.out, rdRow_at M hkn]; rfl)
                    clear hbr hb7 hp7 O7
                    by_cases hkj : k = jj
                    · have hrk := HRK.out
                      rw [if_pos hkj] at hrk
                      have hst := HST.out
                      rw [hrk, HPP.out] at hst
                      rw [hkj, HRJ.out] at hcB
                      rw [← hkj] at hcB
                      rw [hst] at hpb
                      have hkeq : ((k : Int) == (jj : Int)) = true := beq_iff_eq.2 (by omega)
                      clear hkj hrk hst
                      go_wp2
                      go_quiet (fail)
                      have hbr2 := below_drewN hbr7 nq
                      generalize w7.drewN nq = wq at hbr2 ⊢
                      clear hbr7 hcB
                      go_wp2
                      go_roundw
                      case rel => exact ⟨k + 1, by omega, by go_num, hbr2⟩
                      case measure => simp [natOf]; omega
                    · have hrk := HRK.out
                      rw [if_neg hkj] at hrk
                      have hst := HST.out
                      rw [hrk] at hst
                      have hcB' : w7.cell? ⟨gB, k, none⟩ = some (.string sT) := by rw [hcB]; unfold S8; rw [hst]
                      have hkne : ((k : Int) == (jj : Int)) = false := beq_eq_false_iff_ne.2 (by omega)
                      clear hkj hrk hst hcB
                      go_wp2
                      go_roundw
                      case rel => exact ⟨k + 1, by omega, by go_num, hbr7⟩
                      case measure => simp [natOf]; omega
                  · obtain rfl : k = j := by omega
                    have O6' := O6.trans (Only.of_below (L := [gd, gp, gm]) hbr)
                    have hp6' := hp6.next hbr
                    clear hk hkn hp6 O6
                    go_wp2_with fail
                    (with_reducible refine (sanity_any _).mono ?_)
                    rintro e w7 ⟨rfl, hb7⟩
                    have hp7 := hp6'.next hb7
                    have O7 := O6'.trans (Only.of_below (L := [gd, gp, gm]) hb7)
                    clear hp6' O6' hb7 hbr
                    go_wp2_with fail
                    (with_reducible refine (image_any gd gp gm (N + 1) cp Y M2 _ HM2.out hp7).mono ?_)
                    rintro e w8 ⟨g8, rfl, hI8, hb8, _⟩
                    rw [HML2.out]
                    rw [HIM.out] at hI8
                    have O8 := O7.trans (Only.of_below (L := [gd, gp, gm]) hb8)
                    have hJ8 := (KE.out _ O8).1
                    have hlen8 : M.image.length = k := by unfold DM.image; rw [List.length_map]; exact HML.out
                    have HLEN8 := Lib.hid hlen8
                    clear hp7 O7 hb8 hlen8
                    go_wp2_with fail
                    (with_reducible refine (sameTexts_img _ _ _ _ k M.image _ HLEN8.out (by omega) (RowAt.of_blk hI8) (RowAt.of_blk hJ8)).mono ?_)
                    rintro e wz ⟨rfl, hbz⟩
                    have Oz := O8.trans (Only.of_below (L := [gd, gp, gm]) hbz)
                    have hbelz := below_only hbel5 Oz HB1.out hsz5
                    clear hI8 hJ8 hbz O8 Oz
                    go_wp2
                    go_ret
                    exact ⟨rfl, by rw [hn0.out]; exact hbelz⟩
              · have hsf : M.step.up = false := by simpa using hst
                obtain ⟨e1, e2⟩ := write_trip hu hfit hsf
                have HE := Lib.hid e1
                have HW := Lib.hid e2
                have HU := Lib.hid hsf
                have HM2 := Lib.hid (DM.step_ok HM.out)
                have HML2 : Hid (M.step.ps.length = j) := by
                  have : M.step.ps.length = j := by rw [DM.step_ps]; exact HML.out
                  exact this
                have HIM : Hid (M.step.image = M.image) := image_step M
                clear hu hfit hst hsf e1 e2
                go_wp2_with fail
                (with_reducible refine (write_any gd gp gm N cp Y M i a s _ HM.out (by omega) (by omega) hp5).mono ?_)
                rintro e w6 ⟨rfl, hp6, ho6⟩
                rw [HW.out] at hp6
                rw [HE.out]
                have O6 : Only [gd, gp, gm] wr w6 := ho6.mono (by simp)
                clear hp5 ho6
                go_wp2_with fail
                (with_reducible refine (sanity_any _).mono ?_)
                rintro e w7 ⟨rfl, hb7⟩
                have hp7 := hp6.next hb7
                have O7 := O6.trans (Only.of_below (L := [gd, gp, gm]) hb7)
                clear hp6 O6 hb7
                go_wp2_with fail
                (with_reducible refine (up_any gd gp gm (N + 1) cp Y M.step _ hp7).mono ?_)
                rintro e w' ⟨rfl, rfl⟩
                rw [HU.out]
                go_wp2_with fail
                (with_reducible refine (image_any gd gp gm (N + 1) cp Y M.step _ HM2.out hp7).mono ?_)
                rintro e w8 ⟨g8, rfl, hI8, hb8, _⟩
                rw [HML2.out]
                rw [HIM.out] at hI8
                have O8 := O7.trans (Only.of_below (L := [gd, gp, gm]) hb8)
                have hJ8 := (KE.out _ O8).1
                have hlen8 : M.image.length = j := by unfold DM.image; rw [List.length_map]; exact HML.out
                have HLEN8 := Lib.hid hlen8
                clear hp7 O7 hb8 hlen8
                go_wp2_with fail
                (with_reducible refine (sameTexts_img _ _ _ _ j M.image _ HLEN8.out (by omega) (RowAt.of_blk hI8) (RowAt.of_blk hJ8)).mono ?_)
                rintro e wz ⟨rfl, hbz⟩
                have Oz := O8.trans (Only.of_below (L := [gd, gp, gm]) hbz)
                have hbelz := below_only hbel5 Oz HB1.out hsz5
                clear hI8 hJ8 hbz O8 Oz
                go_wp2
                go_ret
                exact ⟨rfl, by rw [hn0.out]; exact hbelz⟩
            · have hff : (M.okP i && DM.fits a s.data.toList.length) = false := by simpa using hfit
              obtain ⟨e1, e2⟩ := write_bad hu hff
              have HE := Lib.hid e1
              have HW := Lib.hid e2
              have HM2 := HM
              have HML2 := HML
              have hcase : i < 0 ∨ (0 ≤ i ∧ (j : Int) ≤ i) ∨ (0 ≤ i ∧ i < (j : Int) ∧ a < 0) ∨ (0 ≤ i ∧ i < (j : Int) ∧ 0 ≤ a ∧ 128 < a) ∨ (0 ≤ i ∧ i < (j : Int) ∧ 0 ≤ a ∧ a ≤ 128 ∧ 128 < a + (s.size : Int)) := by
                unfold DM.okP DM.fits at hff
                rw [HML.out, bytes_size, Bool.and_eq_false_iff, decide_eq_false_iff_not, decide_eq_false_iff_not] at hff
                omega
              obtain ⟨u, hwu⟩ : ∃ u, IntKind.i64.wrap (a + (s.size : Int)) = u := ⟨_, rfl⟩
              clear hu hfit hff e1 e2
              go_wp2_with fail
              (with_reducible refine (write_any gd gp gm N cp Y M i a s _ HM.out (by omega) (by omega) hp5).mono ?_)
              rintro e w6 ⟨rfl, hp6, ho6⟩
              rw [HW.out] at hp6
              rw [HE.out]
              have O6 : Only [gd, gp, gm] wr w6 := ho6.mono (by simp)
              clear hp5 ho6
              go_wp2_with fail
              (with_reducible refine (sanity_any _).mono ?_)
              rintro e w7 ⟨rfl, hb7⟩
              have hp7 := hp6.next hb7
              have O7 := O6.trans (Only.of_below (L := [gd, gp, gm]) hb7)
              clear hp6 O6 hb7
              rcases hcase with hc | ⟨hc1, hc2⟩ | ⟨hc1, hc2, hc3⟩ | ⟨hc1, hc2, hc3, hc4⟩ | ⟨hc1, hc2, hc3, hc4, hc5⟩
              · go_wp2_with fail
                (with_reducible refine (image_any gd gp gm (N + 1) cp Y M _ HM2.out hp7).mono ?_)
                rintro e w8 ⟨g8, rfl, hI8, hb8, _⟩
                rw [HML2.out]
                have O8 := O7.trans (Only.of_below (L := [gd, gp, gm]) hb8)
                have hJ8 := (KE.out _ O8).1
                have hlen8 : M.image.length = j := by unfold DM.image; rw [List.length_map]; exact HML.out
                have HLEN8 := Lib.hid hlen8
                clear hp7 O7 hb8 hlen8
                go_wp2_with fail
                (with_reducible refine (sameTexts_img _ _ _ _ j M.image _ HLEN8.out (by omega) (RowAt.of_blk hI8) (RowAt.of_blk hJ8)).mono ?_)
                rintro e wz ⟨rfl, hbz⟩
                have Oz := O8.trans (Only.of_below (L := [gd, gp, gm]) hbz)
                have hbelz := below_only hbel5 Oz HB1.out hsz5
                clear hI8 hJ8 hbz O8 Oz
                go_wp2
                go_ret
                exact ⟨rfl, by rw [hn0.out]; exact hbelz⟩
              · go_wp2_with fail
                (with_reducible refine (image_any gd gp gm (N + 1) cp Y M _ HM2.out hp7).mono ?_)
                rintro e w8 ⟨g8, rfl, hI8, hb8, _⟩
                rw [HML2.out]
                have O8 := O7.trans (Only.of_below (L := [gd, gp, gm]) hb8)
                have hJ8 := (KE.out _ O8).1
                have hlen8 : M.image.length = j := by unfold DM.image; rw [List.length_map]; exact HML.out
                have HLEN8 := Lib.hid hlen8
                clear hp7 O7 hb8 hlen8
                go_wp2_with fail
                (with_reducible refine (sameTexts_img _ _ _ _ j M.image _ HLEN8.out (by omega) (RowAt.of_blk hI8) (RowAt.of_blk hJ8)).mono ?_)
                rintro e wz ⟨rfl, hbz⟩
                have Oz := O8.trans (Only.of_below (L := [gd, gp, gm]) hbz)
                have hbelz := below_only hbel5 Oz HB1.out hsz5
                clear hI8 hJ8 hbz O8 Oz
                go_wp2
                go_ret
                exact ⟨rfl, by rw [hn0.out]; exact hbelz⟩
              · go_wp2_with fail
                (with_reducible refine (image_any gd gp gm (N + 1) cp Y M _ HM2.out hp7).mono ?_)
                rintro e w8 ⟨g8, rfl, hI8, hb8, _⟩
                rw [HML2.out]
                have O8 := O7.trans (Only.of_below (L := [gd, gp, gm]) hb8)
                have hJ8 := (KE.out _ O8).1
                have hlen8 : M.image.length = j := by unfold DM.image; rw [List.length_map]; exact HML.out
                have HLEN8 := Lib.hid hlen8
                clear hp7 O7 hb8 hlen8
                go_wp2_with fail
                (with_reducible refine (sameTexts_img _ _ _ _ j M.image _ HLEN8.out (by omega) (RowAt.of_blk hI8) (RowAt.of_blk hJ8)).mono ?_)
                rintro e wz ⟨rfl, hbz⟩
                have Oz := O8.trans (Only.of_below (L := [gd, gp, gm]) hbz)
                have hbelz := below_only hbel5 Oz HB1.out hsz5
                clear hI8 hJ8 hbz O8 Oz
                go_wp2
                go_ret
                exact ⟨rfl, by rw [hn0.out]; exact hbelz⟩
              · by_cases hu128 : 128 < u
                · go_wp2_with fail
                  (with_reducible refine (image_any gd gp gm (N + 1) cp Y M _ HM2.out hp7).mono ?_)
                  rintro e w8 ⟨g8, rfl, hI8, hb8, _⟩
                  rw [HML2.out]
                  have O8 := O7.trans (Only.of_below (L := [gd, gp, gm]) hb8)
                  have hJ8 := (KE.out _ O8).1
                  have hlen8 : M.image.length = j := by unfold DM.image; rw [List.length_map]; exact HML.out
                  have HLEN8 := Lib.hid hlen8
                  clear hp7 O7 hb8 hlen8
                  go_wp2_with fail
                  (with_reducible refine (sameTexts_img _ _ _ _ j M.image _ HLEN8.out (by omega) (RowAt.of_blk hI8) (RowAt.of_blk hJ8)).mono ?_)
                  rintro e wz ⟨rfl, hbz⟩
                  have Oz := O8.trans (Only.of_below (L := [gd, gp, gm]) hbz)
                  have hbelz := below_only hbel5 Oz HB1.out hsz5
                  clear hI8 hJ8 hbz O8 Oz
                  go_wp2
                  go_ret
                  exact ⟨rfl, by rw [hn0.out]; exact hbelz⟩
                · have hu128' : u ≤ 128 := by omega
                  clear hu128
                  go_wp2_with fail
                  (with_reducible refine (image_any gd gp gm (N + 1) cp Y M _ HM2.out hp7).mono ?_)
                  rintro e w8 ⟨g8, rfl, hI8, hb8, _⟩
                  rw [HML2.out]
                  have O8 := O7.trans (Only.of_below (L := [gd, gp, gm]) hb8)
                  have hJ8 := (KE.out _ O8).1
                  have hlen8 : M.image.length = j := by unfold DM.image; rw [List.length_map]; exact HML.out
                  have HLEN8 := Lib.hid hlen8
                  clear hp7 O7 hb8 hlen8
                  go_wp2_with fail
                  (with_reducible refine (sameTexts_img _ _ _ _ j M.image _ HLEN8.out (by omega) (RowAt.of_blk hI8) (RowAt.of_blk hJ8)).mono ?_)
                  rintro e wz ⟨rfl, hbz⟩
                  have Oz := O8.trans (Only.of_below (L := [gd, gp, gm]) hbz)
                  have hbelz := below_only hbel5 Oz HB1.out hsz5
                  clear hI8 hJ8 hbz O8 Oz
                  go_wp2
                  go_ret
                  exact ⟨rfl, by rw [hn0.out]; exact hbelz⟩
              · have hu128 : 128 < u := by
                  rw [← hwu]
                  simp only [IntKind.wrap_i64]; omega
                go_wp2_with fail
                (with_reducible refine (image_any gd gp gm (N + 1) cp Y M _ HM2.out hp7).mono ?_)
                rintro e w8 ⟨g8, rfl, hI8, hb8, _⟩
                rw [HML2.out]
                have O8 := O7.trans (Only.of_below (L := [gd, gp, gm]) hb8)
                have hJ8 := (KE.out _ O8).1
                have hlen8 : M.image.length = j := by unfold DM.image; rw [List.length_map]; exact HML.out
                have HLEN8 := Lib.hid hlen8
                clear hp7 O7 hb8 hlen8
                go_wp2_with fail
                (with_reducible refine (sameTexts_img _ _ _ _ j M.image _ HLEN8.out (by omega) (RowAt.of_blk hI8) (RowAt.of_blk hJ8)).mono ?_)
                rintro e wz ⟨rfl, hbz⟩
                have Oz := O8.trans (Only.of_below (L := [gd, gp, gm]) hbz)
                have hbelz := below_only hbel5 Oz HB1.out hsz5
                clear hI8 hJ8 hbz O8 Oz
                go_wp2
                go_ret
                exact ⟨rfl, by rw [hn0.out]; exact hbelz⟩
          · have huf : M.up = false := by simpa using hu
            obtain ⟨e1, e2⟩ := write_down (i := i) (a := a) (s := s.data.toList) huf
            have HE := Lib.hid e1
            have HW := Lib.hid e2
            have HU := Lib.hid huf
            have HM2 := HM
            have HML2 := HML
            clear hu huf e1 e2
            go_wp2_with fail
            (with_reducible refine (write_any gd gp gm N cp Y M i a s _ HM.out (by omega) (by omega) hp5).mono ?_)
            rintro e w6 ⟨rfl, hp6, ho6⟩
            rw [HW.out] at hp6
            rw [HE.out]
            have O6 : Only [gd, gp, gm] wr w6 := ho6.mono (by simp)
            clear hp5 ho6
            go_wp2_with fail
            (with_reducible refine (sanity_any _).mono ?_)
            rintro e w7 ⟨rfl, hb7⟩
            have hp7 := hp6.next hb7
            have O7 := O6.trans (Only.of_below (L := [gd, gp, gm]) hb7)
            clear hp6 O6 hb7
            go_wp2_with fail
            (with_reducible refine (up_any gd gp gm (N + 1) cp Y M _ hp7).mono ?_)
            rintro e w' ⟨rfl, rfl⟩
            rw [HU.out]
            go_wp2_with fail
            (with_reducible refine (image_any gd gp gm (N + 1) cp Y M _ HM2.out hp7).mono ?_)
            rintro e w8 ⟨g8, rfl, hI8, hb8, _⟩
            rw [HML2.out]
            have O8 := O7.trans (Only.of_below (L := [gd, gp, gm]) hb8)
            have hJ8 := (KE.out _ O8).1
            have hlen8 : M.image.length = j := by unfold DM.image; rw [List.length_map]; exact HML.out
            have HLEN8 := Lib.hid hlen8
            clear hp7 O7 hb8 hlen8
            go_wp2_with fail
            (with_reducible refine (sameTexts_img _ _ _ _ j M.image _ HLEN8.out (by omega) (RowAt.of_blk hI8) (RowAt.of_blk hJ8)).mono ?_)
            rintro e wz ⟨rfl, hbz⟩
            have Oz := O8.trans (Only.of_below (L := [gd, gp, gm]) hbz)
            have hbelz := below_only hbel5 Oz HB1.out hsz5
            clear hI8 hJ8 hbz O8 Oz
            go_wp2
            go_ret
            exact ⟨rfl, by rw [hn0.out]; exact hbelz⟩
end Go.Proofs.Ytbmoedgokimhmaa
