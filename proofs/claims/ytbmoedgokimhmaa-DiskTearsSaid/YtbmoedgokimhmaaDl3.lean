/-
  The walk over the statement DiskTears. Conditions: the arguments lie in memory that the law leaves alone, their integers are such.
-/
import Derived.Test.YtbmoedgokimhmaaDlc
namespace Go.Proofs.Ytbmoedgokimhmaa
open Go.RowKit

set_option maxRecDepth 100000 in
set_option maxHeartbeats 3200000 in
theorem tearLaw_any (p : Int) (A : Option Addr) (c : Nat) (xs : List OpM) (A2 : Option Addr) (c2 : Nat) (picks : List Int) (w : World) (hl : xs.length ≤ 140737488355328) (hi : IntsOk xs) (hS : ScriptAt w.heap.size w A xs) (hP : ∀ w', Below w.heap.size w w' → PkAt w' A2 picks) :
    Calls Try.prog 5 #[.int .i64 p, .slice A xs.length c, .slice A2 picks.length c2] w fun e w' => e = .returned (.bool true) ∧ Below w.heap.size w w' := by
  have HS := Lib.hid hS
  have HL := Lib.hid hl
  have HII := Lib.hid hi
  have HP := Lib.hid hP
  obtain ⟨q, hq⟩ : ∃ q, Hid (picks.length = q) := ⟨_, rfl⟩
  rw [hq.out]
  clear hP
  obtain ⟨N, hN⟩ : ∃ N, Hid (xs.length = N) := ⟨_, rfl⟩
  rw [hN.out]
  clear hS hl hi
  by_cases hp : 40 < p
  · go_enter Try.func5, Try.ntmps5
    go_wp2_with fail
    (with_reducible refine (sanity_any _).mono ?_)
    rintro e wS ⟨rfl, hbS⟩
    have hbz := hbS
    go_wp2
    go_ret
    exact ⟨rfl, hbz⟩
  · have hp1 : p ≤ 40 := by omega
    clear hp
    go_enter Try.func5, Try.ntmps5
    go_wp2_with fail
    rw [← hN.out]
    (with_reducible refine (few_any A c xs _ HL.out HS.out).mono ?_)
    rintro e w1 ⟨⟨b, rfl, hfb⟩, hb1⟩
    rw [hN.out]
    have HFB := Lib.hid hfb
    clear hfb
    cases b with
    | false =>
      go_wp2_with fail
      (with_reducible refine (sanity_any _).mono ?_)
      rintro e wS ⟨rfl, hbS⟩
      have hbz := below_join hb1 hbS
      go_wp2
      go_ret
      exact ⟨rfl, hbz⟩
    | true =>
      replace HFB := Lib.hid (HFB.out rfl)
      by_cases hq70 : 70 < q
      · have hq70i : (70 : Int) < (q : Int) := by omega
        go_wp2_with fail
        (with_reducible refine (sanity_any _).mono ?_)
        rintro e wS ⟨rfl, hbS⟩
        have hbz := below_join hb1 hbS
        go_wp2
        go_ret
        exact ⟨rfl, hbz⟩
      have hq70' : q ≤ 70 := by omega
      have hq70i : (q : Int) ≤ 70 := by omega
      clear hq70
      by_cases hp0 : p < 1
      · go_wp2_with fail
        (with_reducible refine (played_bad p A N c _ (Or.inl hp0)).mono ?_)
        rintro e w2 ⟨rfl, rfl⟩
        go_wp2_with fail
        (with_reducible refine (sanity_any _).mono ?_)
        rintro e wS ⟨rfl, hbS⟩
        have hbz := below_join hb1 hbS
        go_wp2
        go_ret
        exact ⟨rfl, hbz⟩
      obtain ⟨n, rfl⟩ : ∃ n : Nat, p = (n : Int) := ⟨p.toNat, by omega⟩
      have hn1 : 1 ≤ n := by omega
      have hn2 : n ≤ 40 := by omega
      have HF := Lib.hid (fine_of HII.out HFB.out.2)
      have hN40 : xs.length ≤ 40 := HFB.out.1
      clear hp0
      go_wp2_with fail
      rw [← hN.out]
      (with_reducible refine (played_any n A c xs _ hn1 hn2 hN40 HF.out ((HS.out.next hb1).up hb1.size)).mono ?_)
      rintro e w2 ⟨gd, gp, gm, gr, ga, cap, X, rfl, hT, hb2⟩
      rw [hN.out] at hN40 hT
      rw [hN.out]
      have hM : ((DM.make n).run xs).ok := DM.run_ok _ (DM.make_ok (by omega)) HF.out
      have hML : ((DM.make n).run xs).ps.length = n := by rw [DM.run_len, DM.make_len]
      obtain ⟨M, hMM⟩ : ∃ M, Hid ((DM.make n).run xs = M) := ⟨_, rfl⟩
      rw [hMM.out] at hM hML hT
      have HM := Lib.hid hM
      have HML := Lib.hid hML
      obtain ⟨n0, hn0⟩ : ∃ n0, Hid (w.heap.size = n0) := ⟨_, rfl⟩
      replace hT : Two n0 w2 gd gp gm n [] N gr ga cap X M := hT.low (by rw [← hn0.out]; exact hb1.size)
      have hbel : Below n0 w w2 := by rw [← hn0.out]; exact below_join hb1 hb2
      have hsz : n0 ≤ w2.heap.size := by rw [← hn0.out]; exact Nat.le_trans hb1.size hb2.size
      obtain ⟨big1, big2⟩ := hT.big
      have HB1 := Lib.hid big1
      have HB2 := Lib.hid big2
      obtain ⟨ee1, ee2, ee3⟩ := hT.e2
      have EE1 := Lib.hid ee1
      have EE2 := Lib.hid ee2
      have EE3 := Lib.hid ee3
      have EE4 := Lib.hid hT.e
      obtain ⟨cp, hcp⟩ : ∃ cp, Hid (n = cp) := ⟨_, rfl⟩
      obtain ⟨Y, hY⟩ : ∃ Y : List Value, Hid ([] = Y) := ⟨_, rfl⟩
      replace hT : Two n0 w2 gd gp gm cp Y N gr ga cap X M := by rw [← hcp.out, ← hY.out]; exact hT
      clear hb1 hb2 big1 big2 ee1 ee2 ee3 hM hML hp1 HFB
      go_wp2_with fail
      (with_reducible refine (image_any gd gp gm N cp Y M _ HM.out hT.p).mono ?_)
      rintro e w3 ⟨gi, rfl, hI, hb3, hgi⟩
      rw [HML.out]
      have hT3 := hT.next hb3
      have hbel3 := hbel.trans (hb3.mono hsz)
      have hsz3 : n0 ≤ w3.heap.size := Nat.le_trans hsz hb3.size
      have NI : Hid (gi ∉ [gd, gp, gm]) := by
        have : gi ∉ [gd, gp, gm] := by
          have h1 := hT.p.d.lt
          have h2 := hT.p.p.lt
          have h3 := hT.p.m.lt
          simp only [List.mem_cons, List.not_mem_nil, or_false]; omega
        exact this
      clear hT hbel hsz hb3 hgi
      go_wp2_with fail
      (with_reducible refine (pending_any gd gp gm N cp Y M _ HM.out hT3.p).mono ?_)
      rintro e w4 ⟨v, rfl, row4, _, hb4⟩
      have row4' : w4.ownsRow w3.heap.size 3 1 v M.pending.length ((pendZ M).map (Value.int .i64)) := row4
      obtain ⟨A4, c4, rfl⟩ := own_shape row4'
      obtain ⟨PL, hPL⟩ : ∃ PL, Hid (M.pending.length = PL) := ⟨_, rfl⟩
      rw [hPL.out] at row4'
      rw [hPL.out]
      have hT4 := hT3.next hb4
      have hI4 := hI.next hb4 hI.lt
      have hbel4 := hbel3.trans (hb4.mono hsz3)
      have hsz4 : n0 ≤ w4.heap.size := Nat.le_trans hsz3 hb4.size
      have KE : Hid (∀ w', Only [gd, gp, gm] w4 w' → Blk w' gi 9 (M.image.map S8) ∧ RowAt w' A4 ((pendZ M).map (Value.int .i64)) ∧ RRep w' gr ga cap X M) := by
        have : ∀ w', Only [gd, gp, gm] w4 w' → Blk w' gi 9 (M.image.map S8) ∧ RowAt w' A4 ((pendZ M).map (Value.int .i64)) ∧ RRep w' gr ga cap X M := fun w' ho => ⟨hI4.only ho NI.out, RowAt.of_own (own_only row4' ho (by
          have h1 := hT3.p.d.lt
          have h2 := hT3.p.p.lt
          have h3 := hT3.p.m.lt
          intro q hq
          simp only [List.mem_cons, List.not_mem_nil, or_false] at hq
          rcases hq with rfl | rfl | rfl <;> assumption)), hT4.r.only ho EE4.out.1 EE4.out.2⟩
        exact this
      have hp4 := hT4.p
      clear hT3 hT4 hI hI4 hbel3 hsz3 row4 row4' hb4
      rw [hn0.out] at HP
      obtain ⟨M2, hM2⟩ : ∃ M2, Hid (M.mount picks = M2) := ⟨_, rfl⟩
      have HM2 : Hid M2.ok := by
        have : M2.ok := by rw [← hM2.out]; exact DM.mount_ok HM.out _
        exact this
      have HPN : Hid (M2.pending.length = 0) := by
        have : M2.pending.length = 0 := by rw [← hM2.out, pend_none (mount_none M picks)]; rfl
        exact this
      have hPZ : Hid ((pendZ M).length = PL) := by
        have : (pendZ M).length = PL := by rw [pendZ_length]; exact hPL.out
        exact this
      have hend : Hid ((pendTo M n).length = PL) := by
        have : (pendTo M n).length = PL := by rw [← HML.out, pendTo_all]; exact hPZ.out
        exact this
      go_wp2_with fail
      rw [← hq.out]
      (with_reducible refine (mount_any gd gp gm N cp Y M A2 c2 picks _ HM.out hp4 (by rw [hq.out]; omega) (fun w' ho => HP.out w' (below_only hbel4 ho HB1.out hsz4))).mono ?_)
      rintro e w5 ⟨rfl, hp5, ho5⟩
      rw [hM2.out] at hp5
      rw [hq.out]
      obtain ⟨hI5, hR5, hr5⟩ := KE.out _ ho5
      have hbel5 := below_only hbel4 ho5 HB1.out hsz4
      have hsz5 : n0 ≤ w5.heap.size := Nat.le_trans hsz4 ho5.size
      clear hp4 ho5 KE hbel4 hsz4
      go_wp2
      go_loopw [12, 57] (fun kv i wr => ∃ j : Nat, j ≤ n ∧ i = .int .i64 j ∧ kv = .int .i64 ((pendTo M j).length : Nat) ∧ Below w5.heap.size w5 wr) (fun _ i _ => n - natOf i)
      case atStart => exact ⟨0, Nat.zero_le _, rfl, rfl, Below.refl _ _⟩
      case round =>
        obtain ⟨j, hj, rfl, rfl, hbr⟩ := hrel
        by_cases hjn : j < n
        · have hji : (j : Int) < (n : Int) := by omega
          have hjM : j < M.ps.length := by rw [HML.out]; exact hjn
          obtain ⟨sT, hsT⟩ : ∃ sT : ByteArray, (⟨(M2.readS (j : Int)).toArray⟩ : ByteArray) = sT := ⟨_, rfl⟩
          have hre : M2.readE (j : Int) = 0 := by rw [← hM2.out]; exact (mount_read HML.out hjn picks).1
          have HRE := Lib.hid hre
          have HST := Lib.hid hsT
          obtain ⟨sO, hsO⟩ : ∃ sO : ByteArray, (⟨(M.page j).old.toArray⟩ : ByteArray) = sO := ⟨_, rfl⟩
          have hOl := (DM.page_ok HM.out hjM).1
          have hzO : sO.size = 128 := by rw [← hsO]; exact hOl
          have hIcell : (M.image.map S8)[j]? = some (S8 (M.page j).old) := by rw [List.getElem?_map, image_at hjM]; rfl
          have hOs : Hid (S8 (M.page j).old = .string sO) := by
            have : S8 (M.page j).old = .string sO := by unfold S8; rw [hsO]
            exact this
          have HSO := Lib.hid hsO
          obtain ⟨kk, hkk⟩ : ∃ kk, (pendTo M j).length = kk := ⟨_, rfl⟩
          have hkk4 : kk ≤ 4096 := by have := pendTo_le M j; have := HM.out.2.2.2; omega
          have hp6 := hp5.next hbr
          have HKK := Lib.hid hkk
          rw [hkk]
          clear hsT hre hsO hkk
          go_wp2_with fail
          (with_reducible refine (read_str gd gp gm N cp Y M2 _ sT 0 _ HM2.out HST.out HRE.out hp6).mono ?_)
          rintro e w7 ⟨rfl, hb7⟩
          have hbr7 := below_join hbr hb7
          have hI7 := hI5.next hbr7 hI5.lt
          have hr7 := hr5.next hbr7
          have hR7 := hR5.next hbr7
          have hIc := hI7.cell hIcell
          rw [hOs.out] at hIc
          clear hbr hb7 hp6
          by_cases hpe : (M.page j).pend = true
          · have hpk := pending_at hjM hpe
            rw [HKK.out] at hpk
            have hkPL : kk < PL := by rw [← hPL.out]; exact (List.getElem?_eq_some_iff.1 hpk).1
            have hkPLi : (kk : Int) < (PL : Int) := by omega
            obtain ⟨gB, rfl, hRB⟩ := hR7 kk (.int .i64 (j : Int)) (by unfold pendZ; rw [List.map_map, List.getElem?_map, hpk]; rfl)
            obtain ⟨lN, hlN⟩ : ∃ lN, (M.page j).new = some lN := by
              unfold Pg.pend at hpe
              cases hx : (M.page j).new with
              | none => rw [hx] at hpe; cases hpe
              | some l => exact ⟨l, rfl⟩
            have hNl := (DM.page_ok HM.out hjM).2 lN hlN
            obtain ⟨sN, hsN⟩ : ∃ sN : ByteArray, (⟨lN.toArray⟩ : ByteArray) = sN := ⟨_, rfl⟩
            have hzN : sN.size = 128 := by rw [← hsN]; exact hNl
            have hNs : Hid (S8 ((M.page j).new.getD []) = .string sN) := by
              have : S8 ((M.page j).new.getD []) = .string sN := by rw [hlN]; unfold S8; rw [← hsN]; rfl
              exact this
            have hmr := mount_read_yes HML.out hjn hpk hlN picks
            rw [hM2.out] at hmr
            have hsT2 := HST.out
            rw [hmr, ← settle_bytes lN _ _ hOl, hsN, HSO.out] at hsT2
            obtain ⟨pk, hpkc⟩ : ∃ pk, DM.pick picks kk = pk := ⟨_, rfl⟩
            have hpk128 : pk ≤ 128 := by rw [← hpkc]; exact pick_le picks kk
            have hpki : (pk : Int) ≤ 128 := by omega
            have hpk0 : (0 : Int) ≤ (pk : Int) := by omega
            have hmin : min (pk : Int) 128 = (pk : Int) := by omega
            rw [hpkc] at hsT2
            have hcat : ¬ (9223372036854775807 < min pk 128 + (128 - pk)) := by omega
            have hnext : Hid ((pendTo M (j + 1)).length = kk + 1) := by
              have : (pendTo M (j + 1)).length = kk + 1 := by rw [pendTo_yes M j hpe, List.length_append, HKK.out]; rfl
              exact this
            have hPIC := Lib.hid hpkc
            clear hpe hpk hlN hNl hsN hmr hpkc hj
            by_cases hkq : kk < q
            · obtain ⟨x, hx⟩ : ∃ x, picks[kk]? = some x := ⟨_, List.getElem?_eq_getElem (by rw [hq.out]; exact hkq)⟩
              obtain ⟨pa, rfl, hpc⟩ := HP.out w7 (hbel5.trans (hbr7.mono hsz5)) kk x hx
              have hkqi : (kk : Int) < (q : Int) := by omega
              have hcx := pick_at picks kk x hx
              rw [hPIC.out] at hcx
              obtain ⟨m, hm0⟩ : ∃ m, Hid (max x 0 = m) := ⟨_, rfl⟩
              have hmc : Hid (min m 128 = (pk : Int)) := by
                have : min m 128 = (pk : Int) := by have := hm0.out; unfold clampN at hcx; omega
                exact this
              clear hx hcx
              go_wp2_with (first | (with_reducible refine wpList_maxZ (o := ⟨some 90, .call ⟨.builtin .max, #[.tmp 89, .const (.int .i64 0)], #[3, 3]⟩, _, _, _, _⟩) (by with_unfolding_all rfl) (.tmp 89) (.const (.int .i64 0)) 3 3 (by with_unfolding_all rfl) x 0 m (by with_unfolding_all rfl) (by with_unfolding_all rfl) hm0.out ?_) | (with_reducible refine wpList_minZ (o := ⟨some 91, .call ⟨.builtin .min, #[.tmp 90, .const (.int .i64 128)], #[3, 3]⟩, _, _, _, _⟩) (by with_unfolding_all rfl) (.tmp 90) (.const (.int .i64 128)) 3 3 (by with_unfolding_all rfl) m 128 (pk : Int) (by with_unfolding_all rfl) (by with_unfolding_all rfl) hmc.out ?_))
              go_wp2
              have hdd := below_drew w7
              have hSd := And.intro ((hr7.next hdd).d.cell (k := 0) rfl) (And.intro ((hr7.next hdd).q1 hjM) ((hI7.next hdd hI7.lt).cell hIcell))
              rw [HML.out] at hSd
              have hbrd := below_join hbr7 hdd
              clear hbr7 hr7 hI7 hRB
              refine wp_region_held_drew (S := fun w' => w'.cell? ⟨gr, 0, none⟩ = some (.slice (some ⟨ga, 0, none⟩) n cap) ∧ w'.cell? ⟨ga, j * 3 + 1, none⟩ = some (.string sN) ∧ w'.cell? ⟨gi, j, none⟩ = some (.string sO)) (by kernel_rfl) (by rw [hNs.out, hOs.out] at hSd; exact hSd) (fun hHeld => ?_)
              generalize w7.drew = wd at hHeld hbrd ⊢
              clear hSd
              refine wpAnyH_take (i := 0) (v := ?vv0) rfl (by kernel_rfl) (by kernel_rfl) (by kernel_rfl) (fun _ _ _ h => h) (Or.inl ⟨by rfl, ?yv0⟩) (by assumption) ?rv0
              case yv0 => intro w hSw; (try dsimp only at hSw); go_simp <;> (try with_reducible rfl)
              (try simp only [List.getElem_toArray, List.getElem_cons_zero, Act.put, List.setIfInBounds_toArray, List.set_cons_zero, List.set_cons_succ])
              refine wpAnyH_take (i := 1) (v := ?vv1) rfl (by kernel_rfl) (by kernel_rfl) (by kernel_rfl) (fun _ _ _ h => h) (Or.inl ⟨by rfl, ?yv1⟩) (by assumption) ?rv1
              case yv1 => intro w hSw; (try dsimp only at hSw); go_simp <;> (try with_reducible rfl)
              (try simp only [List.getElem_toArray, List.getElem_cons_succ, List.getElem_cons_zero, Act.put, List.setIfInBounds_toArray, List.set_cons_zero, List.set_cons_succ])
              refine wpAnyH_take (i := 2) (v := ?vv2) rfl (by kernel_rfl) (by kernel_rfl) (by kernel_rfl) (fun _ _ _ h => h) (Or.inl ⟨by rfl, ?yv2⟩) (by assumption) ?rv2
              case yv2 => intro w hSw; (try dsimp only at hSw); go_simp <;> (try with_reducible rfl)
              (try simp only [List.getElem_toArray, List.getElem_cons_succ, List.getElem_cons_zero, Act.put, List.setIfInBounds_toArray, List.set_cons_zero, List.set_cons_succ])
              refine wpAnyH_take (i := 3) (v := ?vv3) rfl (by kernel_rfl) (by kernel_rfl) (by kernel_rfl) (fun _ _ _ h => h) (Or.inl ⟨by rfl, ?yv3⟩) (by assumption) ?rv3
              case yv3 => intro w hSw; (try dsimp only at hSw); go_simp <;> (try with_reducible rfl)
              (try simp only [List.getElem_toArray, List.getElem_cons_succ, List.getElem_cons_zero, Act.put, List.setIfInBounds_toArray, List.set_cons_zero, List.set_cons_succ])
              refine wpAnyH_take (i := 4) (v := ?vv4) rfl (by kernel_rfl) (by kernel_rfl) (by kernel_rfl) (fun _ _ _ h => h) (Or.inl ⟨by rfl, ?yv4⟩) (by assumption) ?rv4
              case yv4 => intro w hSw; (try dsimp only at hSw); go_simp <;> (try with_reducible rfl)
              (try simp only [List.getElem_toArray, List.getElem_cons_succ, List.getElem_cons_zero, Act.put, List.setIfInBounds_toArray, List.set_cons_zero, List.set_cons_succ])
              refine wpAnyH_take (i := 5) (v := ?vv5) rfl (by kernel_rfl) (by kernel_rfl) (by kernel_rfl) (fun _ _ _ h => h) (Or.inl ⟨by rfl, ?yv5⟩) (by assumption) ?rv5
              case yv5 => intro w hSw; (try dsimp only at hSw); go_simp <;> (try with_reducible rfl)
              (try simp only [List.getElem_toArray, List.getElem_cons_succ, List.getElem_cons_zero, Act.put, List.setIfInBounds_toArray, List.set_cons_zero, List.set_cons_succ])
              refine wpAnyH_take (i := 6) (v := ?vv6) rfl (by kernel_rfl) (by kernel_rfl) (by kernel_rfl) (fun _ _ _ h => h) (Or.inl ⟨by rfl, ?yv6⟩) (by assumption) ?rv6
              case yv6 => intro w hSw; (try dsimp only at hSw); go_simp <;> (try with_reducible rfl)
              (try simp only [List.getElem_toArray, List.getElem_cons_succ, List.getElem_cons_zero, Act.put, List.setIfInBounds_toArray, List.set_cons_zero, List.set_cons_succ])
              refine wpAnyH_take (i := 7) (v := ?vv7) rfl (by kernel_rfl) (by kernel_rfl) (by kernel_rfl) (fun _ _ _ h => h) (Or.inl ⟨by rfl, ?yv7⟩) (by assumption) ?rv7
              case yv7 => intro w hSw; (try dsimp only at hSw); go_simp <;> (try with_reducible rfl)
              (try simp only [List.getElem_toArray, List.getElem_cons_succ, List.getElem_cons_zero, Act.put, List.setIfInBounds_toArray, List.set_cons_zero, List.set_cons_succ])
              refine wpAnyH_take (i := 8) (v := ?vv8) rfl (by kernel_rfl) (by kernel_rfl) (by kernel_rfl) (fun _ _ _ h => h) (Or.inl ⟨by rfl, ?yv8⟩) (by assumption) ?rv8
              case yv8 => intro w hSw; (try dsimp only at hSw); go_simp <;> (try with_reducible rfl)
              (try simp only [List.getElem_toArray, List.getElem_cons_succ, List.getElem_cons_zero, Act.put, List.setIfInBounds_toArray, List.set_cons_zero, List.set_cons_succ])
              refine wpAnyH_take (i := 9) (v := ?vv9) rfl (by kernel_rfl) (by kernel_rfl) (by kernel_rfl) (fun _ _ _ h => h) (Or.inl ⟨by rfl, ?yv9⟩) (by assumption) ?rv9
              case yv9 => intro w hSw; (try dsimp only at hSw); go_simp <;> (try with_reducible rfl)
              (try simp only [List.getElem_toArray, List.getElem_cons_succ, List.getElem_cons_zero, Act.put, List.setIfInBounds_toArray, List.set_cons_zero, List.set_cons_succ])
              refine wpAnyH_take (i := 10) (v := ?vv10) rfl (by kernel_rfl) (by kernel_rfl) (by kernel_rfl) (fun _ _ _ h => h) (Or.inl ⟨by rfl, ?yv10⟩) (by assumption) ?rv10
              case yv10 => intro w hSw; (try dsimp only at hSw); go_simp <;> (try with_reducible rfl)
              (try simp only [List.getElem_toArray, List.getElem_cons_succ, List.getElem_cons_zero, Act.put, List.setIfInBounds_toArray, List.set_cons_zero, List.set_cons_succ])
              refine wpAnyH_take (i := 11) (v := ?vv11) rfl (by kernel_rfl) (by kernel_rfl) (by kernel_rfl) (fun _ _ _ h => h) (Or.inl ⟨by rfl, ?yv11⟩) (by assumption) ?rv11
              case yv11 => intro w hSw; (try dsimp only at hSw); go_simp <;> (try with_reducible rfl)
              (try simp only [List.getElem_toArray, List.getElem_cons_succ, List.getElem_cons_zero, Act.put, List.setIfInBounds_toArray, List.set_cons_zero, List.set_cons_succ])
              refine wpAnyH_take (i := 12) (v := ?vv12) rfl (by kernel_rfl) (by kernel_rfl) (by kernel_rfl) (fun _ _ _ h => h) (Or.inl ⟨by rfl, ?yv12⟩) (by assumption) ?rv12
              case yv12 => intro w hSw; (try dsimp only at hSw); go_simp <;> (try with_reducible rfl)
              (try simp only [List.getElem_toArray, List.getElem_cons_succ, List.getElem_cons_zero, Act.put, List.setIfInBounds_toArray, List.set_cons_zero, List.set_cons_succ])
              refine wpAnyH_take (i := 13) (v := ?vv13) rfl (by kernel_rfl) (by kernel_rfl) (by kernel_rfl) (fun _ _ _ h => h) (Or.inl ⟨by rfl, ?yv13⟩) (by assumption) ?rv13
              case yv13 => intro w hSw; (try dsimp only at hSw); go_simp <;> (try with_reducible rfl)
              (try simp only [List.getElem_toArray, List.getElem_cons_succ, List.getElem_cons_zero, Act.put, List.setIfInBounds_toArray, List.set_cons_zero, List.set_cons_succ])
              refine wpAnyH_take (i := 14) (v := ?vv14) rfl (by kernel_rfl) (by kernel_rfl) (by kernel_rfl) (fun _ _ _ h => h) (Or.inl ⟨by rfl, ?yv14⟩) (by assumption) ?rv14
              case yv14 => intro w hSw; (try dsimp only at hSw); go_simp <;> (try with_reducible rfl)
              (try simp only [List.getElem_toArray, List.getElem_cons_succ, List.getElem_cons_zero, Act.put, List.setIfInBounds_toArray, List.set_cons_zero, List.set_cons_succ])
              refine wpAnyH_take (i := 15) (v := ?vv15) rfl (by kernel_rfl) (by kernel_rfl) (by kernel_rfl) (fun _ _ _ h => h) (Or.inl ⟨by rfl, ?yv15⟩) (by assumption) ?rv15
              case yv15 => intro w hSw; (try dsimp only at hSw); go_simp <;> (try with_reducible rfl)
              (try simp only [List.getElem_toArray, List.getElem_cons_succ, List.getElem_cons_zero, Act.put, List.setIfInBounds_toArray, List.set_cons_zero, List.set_cons_succ])
              refine wpAnyH_take (i := 16) (v := ?vv16) rfl (by kernel_rfl) (by kernel_rfl) (by kernel_rfl) (fun _ _ _ h => h) (Or.inl ⟨by rfl, ?yv16⟩) (by assumption) ?rv16
              case yv16 => intro w hSw; (try dsimp only at hSw); go_simp <;> (try with_reducible rfl)
              (try simp only [List.getElem_toArray, List.getElem_cons_succ, List.getElem_cons_zero, Act.put, List.setIfInBounds_toArray, List.set_cons_zero, List.set_cons_succ])
              refine wpAnyH_take (i := 17) (v := ?vv17) rfl (by kernel_rfl) (by kernel_rfl) (by kernel_rfl) (fun _ _ _ h => h) (Or.inl ⟨by rfl, ?yv17⟩) (by assumption) ?rv17
              case yv17 => intro w hSw; (try dsimp only at hSw); go_simp <;> (try with_reducible rfl)
              (try simp only [List.getElem_toArray, List.getElem_cons_succ, List.getElem_cons_zero, Act.put, List.setIfInBounds_toArray, List.set_cons_zero, List.set_cons_succ])
              refine wpAnyH_take (i := 18) (v := ?vv18) rfl (by kernel_rfl) (by kernel_rfl) (by kernel_rfl) (fun _ _ _ h => h) (Or.inl ⟨by rfl, ?yv18⟩) (by assumption) ?rv18
              case yv18 => intro w hSw; (try dsimp only at hSw); go_simp <;> (try with_reducible rfl)
              (try simp only [List.getElem_toArray, List.getElem_cons_succ, List.getElem_cons_zero, Act.put, List.setIfInBounds_toArray, List.set_cons_zero, List.set_cons_succ])
              refine wpAnyH_take (i := 19) (v := ?vv19) rfl (by kernel_rfl) (by kernel_rfl) (by kernel_rfl) (fun _ _ _ h => h) (Or.inl ⟨by rfl, ?yv19⟩) (by assumption) ?rv19
              case yv19 => intro w hSw; (try dsimp only at hSw); go_simp <;> (try with_reducible rfl)
              (try simp only [List.getElem_toArray, List.getElem_cons_succ, List.getElem_cons_zero, Act.put, List.setIfInBounds_toArray, List.set_cons_zero, List.set_cons_succ])
              refine wpAnyH_take (i := 20) (v := ?vv20) rfl (by kernel_rfl) (by kernel_rfl) (by kernel_rfl) (fun _ _ _ h => h) (Or.inl ⟨by rfl, ?yv20⟩) (by assumption) ?rv20
              case yv20 => intro w hSw; (try dsimp only at hSw); go_simp <;> (try with_reducible rfl)
              (try simp only [List.getElem_toArray, List.getElem_cons_succ, List.getElem_cons_zero, Act.put, List.setIfInBounds_toArray, List.set_cons_zero, List.set_cons_succ])
              refine wpAnyH_take (i := 21) (v := ?vv21) rfl (by kernel_rfl) (by kernel_rfl) (by kernel_rfl) (fun _ _ _ h => h) (Or.inl ⟨by rfl, ?yv21⟩) (by assumption) ?rv21
              case yv21 => intro w hSw; (try dsimp only at hSw); go_simp <;> (try with_reducible rfl)
              (try simp only [List.getElem_toArray, List.getElem_cons_succ, List.getElem_cons_zero, Act.put, List.setIfInBounds_toArray, List.set_cons_zero, List.set_cons_succ])
              refine wpAnyH_take (i := 22) (v := ?vv22) rfl (by kernel_rfl) (by kernel_rfl) (by kernel_rfl) (fun _ _ _ h => h) (Or.inl ⟨by rfl, ?yv22⟩) (by assumption) ?rv22
              case yv22 => intro w hSw; (try dsimp only at hSw); go_simp <;> (try with_reducible rfl)
              (try simp only [List.getElem_toArray, List.getElem_cons_succ, List.getElem_cons_zero, Act.put, List.setIfInBounds_toArray, List.set_cons_zero, List.set_cons_succ])
              refine wpAnyH_take (i := 23) (v := ?vv23) rfl (by kernel_rfl) (by kernel_rfl) (by kernel_rfl) (fun _ _ _ h => h) (Or.inl ⟨by rfl, ?yv23⟩) (by assumption) ?rv23
              case yv23 => intro w hSw; (try dsimp only at hSw); go_simp <;> (try with_reducible rfl)
              (try simp only [List.getElem_toArray, List.getElem_cons_succ, List.getElem_cons_zero, Act.put, List.setIfInBounds_toArray, List.set_cons_zero, List.set_cons_succ])
              refine wpAnyH_take (i := 24) (v := ?vv24) rfl (by kernel_rfl) (by kernel_rfl) (by kernel_rfl) (fun _ _ _ h => h) (Or.inl ⟨by rfl, ?yv24⟩) (by assumption) ?rv24
              case yv24 => intro w hSw; (try dsimp only at hSw); go_simp <;> (try with_reducible rfl)
              (try simp only [List.getElem_toArray, List.getElem_cons_succ, List.getElem_cons_zero, Act.put, List.setIfInBounds_toArray, List.set_cons_zero, List.set_cons_succ])
              refine wpAnyH_take (i := 25) (v := ?vv25) rfl (by kernel_rfl) (by kernel_rfl) (by kernel_rfl) (fun _ _ _ h => h) (Or.inl ⟨by rfl, ?yv25⟩) (by assumption) ?rv25
              case yv25 => intro w hSw; (try dsimp only at hSw); go_simp <;> (try with_reducible rfl)
              (try simp only [List.getElem_toArray, List.getElem_cons_succ, List.getElem_cons_zero, Act.put, List.setIfInBounds_toArray, List.set_cons_zero, List.set_cons_succ])
              refine wpAnyH_take (i := 26) (v := ?vv26) rfl (by kernel_rfl) (by kernel_rfl) (by kernel_rfl) (fun _ _ _ h => h) (Or.inl ⟨by rfl, ?yv26⟩) (by assumption) ?rv26
              case yv26 => intro w hSw; (try dsimp only at hSw); go_simp <;> (try with_reducible rfl)
              (try simp only [List.getElem_toArray, List.getElem_cons_succ, List.getElem_cons_zero, Act.put, List.setIfInBounds_toArray, List.set_cons_zero, List.set_cons_succ])
              refine wpAnyH_ready (rs := [27]) (by kernel_rfl) (by simp) ?_
              refine AllReadyH.cons rfl (fun K hK => ?_) AllReadyH.nil
              go_simp
              refine hK.out _ _ hHeld (fun _ => ?_)
              clear hK K hHeld
              refine wpAnyH_done (by kernel_rfl) ?_ _
              go_wp2
              go_roundw
              case rel => exact ⟨j + 1, by omega, by go_num, by rw [hnext.out]; go_num, hbrd⟩
              case measure => simp [natOf]; omega
            · have hkqi : (q : Int) ≤ (kk : Int) := by omega
              have hp128 : pk = 128 := by
                have := pick_past picks kk (by rw [hq.out]; omega)
                rw [clampN_128, hPIC.out] at this
                exact this.symm
              subst hp128
              have hmin128 : min (128 : Int) 128 = 128 := rfl
              have hsT3 : sN.extract 0 128 = sT := by simpa using hsT2
              have hzT : sT.size = 128 := by
                rw [← hsT3, ByteArray.size_extract, hzN]; rfl
              have hzT' : ¬ (9223372036854775807 < sT.size) := by omega
              clear hsT2
              go_wp2
              have hdd := below_drew w7
              have hSd := And.intro ((hr7.next hdd).d.cell (k := 0) rfl) (And.intro ((hr7.next hdd).q1 hjM) ((hI7.next hdd hI7.lt).cell hIcell))
              rw [HML.out] at hSd
              have hbrd := below_join hbr7 hdd
              clear hbr7 hr7 hI7 hRB
              refine wp_region_held_drew (S := fun w' => w'.cell? ⟨gr, 0, none⟩ = some (.slice (some ⟨ga, 0, none⟩) n cap) ∧ w'.cell? ⟨ga, j * 3 + 1, none⟩ = some (.string sN) ∧ w'.cell? ⟨gi, j, none⟩ = some (.string sO)) (by kernel_rfl) (by rw [hNs.out, hOs.out] at hSd; exact hSd) (fun hHeld => ?_)
              generalize w7.drew = wd at hHeld hbrd ⊢
              clear hSd
              refine wpAnyH_take (i := 0) (v := ?vu0) rfl (by kernel_rfl) (by kernel_rfl) (by kernel_rfl) (fun _ _ _ h => h) (Or.inl ⟨by rfl, ?yu0⟩) (by assumption) ?ru0
              case yu0 => intro w hSw; (try dsimp only at hSw); go_simp <;> (try with_reducible rfl)
              (try simp only [List.getElem_toArray, List.getElem_cons_zero, Act.put, List.setIfInBounds_toArray, List.set_cons_zero, List.set_cons_succ])
              refine wpAnyH_take (i := 1) (v := ?vu1) rfl (by kernel_rfl) (by kernel_rfl) (by kernel_rfl) (fun _ _ _ h => h) (Or.inl ⟨by rfl, ?yu1⟩) (by assumption) ?ru1
              case yu1 => intro w hSw; (try dsimp only at hSw); go_simp <;> (try with_reducible rfl)
              (try simp only [List.getElem_toArray, List.getElem_cons_succ, List.getElem_cons_zero, Act.put, List.setIfInBounds_toArray, List.set_cons_zero, List.set_cons_succ])
              refine wpAnyH_take (i := 2) (v := ?vu2) rfl (by kernel_rfl) (by kernel_rfl) (by kernel_rfl) (fun _ _ _ h => h) (Or.inl ⟨by rfl, ?yu2⟩) (by assumption) ?ru2
              case yu2 => intro w hSw; (try dsimp only at hSw); go_simp <;> (try with_reducible rfl)
              (try simp only [List.getElem_toArray, List.getElem_cons_succ, List.getElem_cons_zero, Act.put, List.setIfInBounds_toArray, List.set_cons_zero, List.set_cons_succ])
              refine wpAnyH_take (i := 3) (v := ?vu3) rfl (by kernel_rfl) (by kernel_rfl) (by kernel_rfl) (fun _ _ _ h => h) (Or.inl ⟨by rfl, ?yu3⟩) (by assumption) ?ru3
              case yu3 => intro w hSw; (try dsimp only at hSw); go_simp <;> (try with_reducible rfl)
              (try simp only [List.getElem_toArray, List.getElem_cons_succ, List.getElem_cons_zero, Act.put, List.setIfInBounds_toArray, List.set_cons_zero, List.set_cons_succ])
              refine wpAnyH_take (i := 4) (v := ?vu4) rfl (by kernel_rfl) (by kernel_rfl) (by kernel_rfl) (fun _ _ _ h => h) (Or.inl ⟨by rfl, ?yu4⟩) (by assumption) ?ru4
              case yu4 => intro w hSw; (try dsimp only at hSw); go_simp <;> (try with_reducible rfl)
              (try simp only [List.getElem_toArray, List.getElem_cons_succ, List.getElem_cons_zero, Act.put, List.setIfInBounds_toArray, List.set_cons_zero, List.set_cons_succ])
              refine wpAnyH_take (i := 5) (v := ?vu5) rfl (by kernel_rfl) (by kernel_rfl) (by kernel_rfl) (fun _ _ _ h => h) (Or.inl ⟨by rfl, ?yu5⟩) (by assumption) ?ru5
              case yu5 => intro w hSw; (try dsimp only at hSw); go_simp <;> (try with_reducible rfl)
              (try simp only [List.getElem_toArray, List.getElem_cons_succ, List.getElem_cons_zero, Act.put, List.setIfInBounds_toArray, List.set_cons_zero, List.set_cons_succ])
              refine wpAnyH_take (i := 6) (v := ?vu6) rfl (by kernel_rfl) (by kernel_rfl) (by kernel_rfl) (fun _ _ _ h => h) (Or.inl ⟨by rfl, ?yu6⟩) (by assumption) ?ru6
              case yu6 => intro w hSw; (try dsimp only at hSw); go_simp <;> (try with_reducible rfl)
              (try simp only [List.getElem_toArray, List.getElem_cons_succ, List.getElem_cons_zero, Act.put, List.setIfInBounds_toArray, List.set_cons_zero, List.set_cons_succ])
              refine wpAnyH_take (i := 7) (v := ?vu7) rfl (by kernel_rfl) (by kernel_rfl) (by kernel_rfl) (fun _ _ _ h => h) (Or.inl ⟨by rfl, ?yu7⟩) (by assumption) ?ru7
              case yu7 => intro w hSw; (try dsimp only at hSw); go_simp <;> (try with_reducible rfl)
              (try simp only [List.getElem_toArray, List.getElem_cons_succ, List.getElem_cons_zero, Act.put, List.setIfInBounds_toArray, List.set_cons_zero, List.set_cons_succ])
              refine wpAnyH_take (i := 8) (v := ?vu8) rfl (by kernel_rfl) (by kernel_rfl) (by kernel_rfl) (fun _ _ _ h => h) (Or.inl ⟨by rfl, ?yu8⟩) (by assumption) ?ru8
              case yu8 => intro w hSw; (try dsimp only at hSw); go_simp <;> (try with_reducible rfl)
              (try simp only [List.getElem_toArray, List.getElem_cons_succ, List.getElem_cons_zero, Act.put, List.setIfInBounds_toArray, List.set_cons_zero, List.set_cons_succ])
              refine wpAnyH_take (i := 9) (v := ?vu9) rfl (by kernel_rfl) (by kernel_rfl) (by kernel_rfl) (fun _ _ _ h => h) (Or.inl ⟨by rfl, ?yu9⟩) (by assumption) ?ru9
              case yu9 => intro w hSw; (try dsimp only at hSw); go_simp <;> (try with_reducible rfl)
              (try simp only [List.getElem_toArray, List.getElem_cons_succ, List.getElem_cons_zero, Act.put, List.setIfInBounds_toArray, List.set_cons_zero, List.set_cons_succ])
              refine wpAnyH_take (i := 10) (v := ?vu10) rfl (by kernel_rfl) (by kernel_rfl) (by kernel_rfl) (fun _ _ _ h => h) (Or.inl ⟨by rfl, ?yu10⟩) (by assumption) ?ru10
              case yu10 => intro w hSw; (try dsimp only at hSw); go_simp <;> (try with_reducible rfl)
              (try simp only [List.getElem_toArray, List.getElem_cons_succ, List.getElem_cons_zero, Act.put, List.setIfInBounds_toArray, List.set_cons_zero, List.set_cons_succ])
              refine wpAnyH_take (i := 11) (v := ?vu11) rfl (by kernel_rfl) (by kernel_rfl) (by kernel_rfl) (fun _ _ _ h => h) (Or.inl ⟨by rfl, ?yu11⟩) (by assumption) ?ru11
              case yu11 => intro w hSw; (try dsimp only at hSw); go_simp <;> (try with_reducible rfl)
              (try simp only [List.getElem_toArray, List.getElem_cons_succ, List.getElem_cons_zero, Act.put, List.setIfInBounds_toArray, List.set_cons_zero, List.set_cons_succ])
              refine wpAnyH_take (i := 12) (v := ?vu12) rfl (by kernel_rfl) (by kernel_rfl) (by kernel_rfl) (fun _ _ _ h => h) (Or.inl ⟨by rfl, ?yu12⟩) (by assumption) ?ru12
              case yu12 => intro w hSw; (try dsimp only at hSw); go_simp <;> (try with_reducible rfl)
              (try simp only [List.getElem_toArray, List.getElem_cons_succ, List.getElem_cons_zero, Act.put, List.setIfInBounds_toArray, List.set_cons_zero, List.set_cons_succ])
              refine wpAnyH_take (i := 13) (v := ?vu13) rfl (by kernel_rfl) (by kernel_rfl) (by kernel_rfl) (fun _ _ _ h => h) (Or.inl ⟨by rfl, ?yu13⟩) (by assumption) ?ru13
              case yu13 => intro w hSw; (try dsimp only at hSw); go_simp <;> (try with_reducible rfl)
              (try simp only [List.getElem_toArray, List.getElem_cons_succ, List.getElem_cons_zero, Act.put, List.setIfInBounds_toArray, List.set_cons_zero, List.set_cons_succ])
              refine wpAnyH_take (i := 14) (v := ?vu14) rfl (by kernel_rfl) (by kernel_rfl) (by kernel_rfl) (fun _ _ _ h => h) (Or.inl ⟨by rfl, ?yu14⟩) (by assumption) ?ru14
              case yu14 => intro w hSw; (try dsimp only at hSw); go_simp <;> (try with_reducible rfl)
              (try simp only [List.getElem_toArray, List.getElem_cons_succ, List.getElem_cons_zero, Act.put, List.setIfInBounds_toArray, List.set_cons_zero, List.set_cons_succ])
              refine wpAnyH_take (i := 15) (v := ?vu15) rfl (by kernel_rfl) (by kernel_rfl) (by kernel_rfl) (fun _ _ _ h => h) (Or.inl ⟨by rfl, ?yu15⟩) (by assumption) ?ru15
              case yu15 => intro w hSw; (try dsimp only at hSw); go_simp <;> (try with_reducible rfl)
              (try simp only [List.getElem_toArray, List.getElem_cons_succ, List.getElem_cons_zero, Act.put, List.setIfInBounds_toArray, List.set_cons_zero, List.set_cons_succ])
              refine wpAnyH_take (i := 16) (v := ?vu16) rfl (by kernel_rfl) (by kernel_rfl) (by kernel_rfl) (fun _ _ _ h => h) (Or.inl ⟨by rfl, ?yu16⟩) (by assumption) ?ru16
              case yu16 => intro w hSw; (try dsimp only at hSw); go_simp <;> (try with_reducible rfl)
              (try simp only [List.getElem_toArray, List.getElem_cons_succ, List.getElem_cons_zero, Act.put, List.setIfInBounds_toArray, List.set_cons_zero, List.set_cons_succ])
              refine wpAnyH_take (i := 17) (v := ?vu17) rfl (by kernel_rfl) (by kernel_rfl) (by kernel_rfl) (fun _ _ _ h => h) (Or.inl ⟨by rfl, ?yu17⟩) (by assumption) ?ru17
              case yu17 => intro w hSw; (try dsimp only at hSw); go_simp <;> (try with_reducible rfl)
              (try simp only [List.getElem_toArray, List.getElem_cons_succ, List.getElem_cons_zero, Act.put, List.setIfInBounds_toArray, List.set_cons_zero, List.set_cons_succ])
              refine wpAnyH_take (i := 18) (v := ?vu18) rfl (by kernel_rfl) (by kernel_rfl) (by kernel_rfl) (fun _ _ _ h => h) (Or.inl ⟨by rfl, ?yu18⟩) (by assumption) ?ru18
              case yu18 => intro w hSw; (try dsimp only at hSw); go_simp <;> (try with_reducible rfl)
              (try simp only [List.getElem_toArray, List.getElem_cons_succ, List.getElem_cons_zero, Act.put, List.setIfInBounds_toArray, List.set_cons_zero, List.set_cons_succ])
              refine wpAnyH_take (i := 19) (v := ?vu19) rfl (by kernel_rfl) (by kernel_rfl) (by kernel_rfl) (fun _ _ _ h => h) (Or.inl ⟨by rfl, ?yu19⟩) (by assumption) ?ru19
              case yu19 => intro w hSw; (try dsimp only at hSw); go_simp <;> (try with_reducible rfl)
              (try simp only [List.getElem_toArray, List.getElem_cons_succ, List.getElem_cons_zero, Act.put, List.setIfInBounds_toArray, List.set_cons_zero, List.set_cons_succ])
              refine wpAnyH_take (i := 20) (v := ?vu20) rfl (by kernel_rfl) (by kernel_rfl) (by kernel_rfl) (fun _ _ _ h => h) (Or.inl ⟨by rfl, ?yu20⟩) (by assumption) ?ru20
              case yu20 => intro w hSw; (try dsimp only at hSw); go_simp <;> (try with_reducible rfl)
              (try simp only [List.getElem_toArray, List.getElem_cons_succ, List.getElem_cons_zero, Act.put, List.setIfInBounds_toArray, List.set_cons_zero, List.set_cons_succ])
              refine wpAnyH_take (i := 21) (v := ?vu21) rfl (by kernel_rfl) (by kernel_rfl) (by kernel_rfl) (fun _ _ _ h => h) (Or.inl ⟨by rfl, ?yu21⟩) (by assumption) ?ru21
              case yu21 => intro w hSw; (try dsimp only at hSw); go_simp <;> (try with_reducible rfl)
              (try simp only [List.getElem_toArray, List.getElem_cons_succ, List.getElem_cons_zero, Act.put, List.setIfInBounds_toArray, List.set_cons_zero, List.set_cons_succ])
              refine wpAnyH_take (i := 22) (v := ?vu22) rfl (by kernel_rfl) (by kernel_rfl) (by kernel_rfl) (fun _ _ _ h => h) (Or.inl ⟨by rfl, ?yu22⟩) (by assumption) ?ru22
              case yu22 => intro w hSw; (try dsimp only at hSw); go_simp <;> (try with_reducible rfl)
              (try simp only [List.getElem_toArray, List.getElem_cons_succ, List.getElem_cons_zero, Act.put, List.setIfInBounds_toArray, List.set_cons_zero, List.set_cons_succ])
              refine wpAnyH_take (i := 23) (v := ?vu23) rfl (by kernel_rfl) (by kernel_rfl) (by kernel_rfl) (fun _ _ _ h => h) (Or.inl ⟨by rfl, ?yu23⟩) (by assumption) ?ru23
              case yu23 => intro w hSw; (try dsimp only at hSw); go_simp <;> (try with_reducible rfl)
              (try simp only [List.getElem_toArray, List.getElem_cons_succ, List.getElem_cons_zero, Act.put, List.setIfInBounds_toArray, List.set_cons_zero, List.set_cons_succ])
              refine wpAnyH_take (i := 24) (v := ?vu24) rfl (by kernel_rfl) (by kernel_rfl) (by kernel_rfl) (fun _ _ _ h => h) (Or.inl ⟨by rfl, ?yu24⟩) (by assumption) ?ru24
              case yu24 => intro w hSw; (try dsimp only at hSw); go_simp <;> (try with_reducible rfl)
              (try simp only [List.getElem_toArray, List.getElem_cons_succ, List.getElem_cons_zero, Act.put, List.setIfInBounds_toArray, List.set_cons_zero, List.set_cons_succ])
              refine wpAnyH_take (i := 25) (v := ?vu25) rfl (by kernel_rfl) (by kernel_rfl) (by kernel_rfl) (fun _ _ _ h => h) (Or.inl ⟨by rfl, ?yu25⟩) (by assumption) ?ru25
              case yu25 => intro w hSw; (try dsimp only at hSw); go_simp <;> (try with_reducible rfl)
              (try simp only [List.getElem_toArray, List.getElem_cons_succ, List.getElem_cons_zero, Act.put, List.setIfInBounds_toArray, List.set_cons_zero, List.set_cons_succ])
              refine wpAnyH_take (i := 26) (v := ?vu26) rfl (by kernel_rfl) (by kernel_rfl) (by kernel_rfl) (fun _ _ _ h => h) (Or.inl ⟨by rfl, ?yu26⟩) (by assumption) ?ru26
              case yu26 => intro w hSw; (try dsimp only at hSw); go_simp <;> (try with_reducible rfl)
              (try simp only [List.getElem_toArray, List.getElem_cons_succ, List.getElem_cons_zero, Act.put, List.setIfInBounds_toArray, List.set_cons_zero, List.set_cons_succ])
              refine wpAnyH_ready (rs := [27]) (by kernel_rfl) (by simp) ?_
              refine AllReadyH.cons rfl (fun K hK => ?_) AllReadyH.nil
              go_simp
              refine hK.out _ _ hHeld (fun _ => ?_)
              clear hK K hHeld
              refine wpAnyH_done (by kernel_rfl) ?_ _
              go_wp2
              go_roundw
              case rel => exact ⟨j + 1, by omega, by go_num, by rw [hnext.out]; go_num, hbrd⟩
              case measure => simp [natOf]; omega
          · have hpf : (M.page j).pend = false := by simpa using hpe
            have hmr := mount_read_no HML.out hjn hpf picks
            rw [hM2.out] at hmr
            have hst := HST.out
            rw [hmr, HSO.out] at hst
            have hnext : Hid ((pendTo M (j + 1)).length = kk) := by
              have : (pendTo M (j + 1)).length = kk := by rw [pendTo_no M j hpf, HKK.out]
              exact this
            by_cases hkPL : kk < PL
            · have hkPLi : (kk : Int) < (PL : Int) := by omega
              obtain ⟨x, hx⟩ : ∃ x, M.pending[kk]? = some x := ⟨_, List.getElem?_eq_getElem (by rw [hPL.out]; exact hkPL)⟩
              obtain ⟨gB, rfl, hRB⟩ := hR7 kk (.int .i64 (x : Int)) (by unfold pendZ; rw [List.map_map, List.getElem?_map, hx]; rfl)
              have hxj : ((x : Int) == (j : Int)) = false := beq_eq_false_iff_ne.2 (fun e => by
                have e' : x = j := by omega
                rw [e'] at hx
                have := pending_pend (List.mem_of_getElem? hx)
                rw [hpf] at this; cases this)
              clear hpe hpf hmr hx hj
              go_wp2
              go_roundw
              case rel => exact ⟨j + 1, by omega, by go_num, by rw [hnext.out], hbr7⟩
              case measure => simp [natOf]; omega
            · have hkPLi : (PL : Int) ≤ (kk : Int) := by omega
              clear hpe hpf hmr hj
              go_wp2
              go_roundw
              case rel => exact ⟨j + 1, by omega, by go_num, by rw [hnext.out], hbr7⟩
              case measure => simp [natOf]; omega
        · obtain rfl : j = n := by omega
          rw [hend.out]
          have hp6 := hp5.next hbr
          have hbel6 := hbel5.trans (hbr.mono hsz5)
          have hsz6 : n0 ≤ wr.heap.size := Nat.le_trans hsz5 hbr.size
          clear hj hjn hp5 hI5 hR5 hr5 hbr hbel5 hsz5
          go_wp2_with fail
          (with_reducible refine (sanity_any _).mono ?_)
          rintro e w7 ⟨rfl, hb7⟩
          have hp7 := hp6.next hb7
          have hbel7 := hbel6.trans (hb7.mono hsz6)
          have hsz7 : n0 ≤ w7.heap.size := Nat.le_trans hsz6 hb7.size
          clear hp6 hb7 hbel6 hsz6
          go_wp2_with fail
          (with_reducible refine (pending_any gd gp gm N cp Y M2 _ HM2.out hp7).mono ?_)
          rintro e w8 ⟨v, rfl, row8, _, hb8⟩
          obtain ⟨A8, c8, rfl⟩ := own_shape row8
          rw [HPN.out]
          have hbelz := hbel7.trans (hb8.mono hsz7)
          clear hp7 hbel7 hsz7 row8 hb8
          go_wp2
          go_ret
          exact ⟨rfl, by rw [hn0.out]; exact hbelz⟩
end Go.Proofs.Ytbmoedgokimhmaa
