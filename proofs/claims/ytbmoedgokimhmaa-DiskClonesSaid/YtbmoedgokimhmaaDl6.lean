/-
  The walk over the statement DiskClones. Conditions: the arguments lie in memory that the law leaves alone, their integers are such.
-/
import Derived.Test.YtbmoedgokimhmaaDl0
namespace Go.Proofs.Ytbmoedgokimhmaa
open Go.RowKit

set_option maxRecDepth 100000 in
set_option maxHeartbeats 3200000 in
theorem cloneLaw_any (p : Int) (A : Option Addr) (c : Nat) (xs : List OpM) (A2 : Option Addr) (c2 : Nat) (more : List OpM) (w : World) (hl : xs.length ≤ 140737488355328) (hi : IntsOk xs) (hS : ScriptAt w.heap.size w A xs) (hl2 : more.length ≤ 140737488355328) (hi2 : IntsOk more) (hS2 : ScriptAt w.heap.size w A2 more) :
    Calls Try.prog 8 #[.int .i64 p, .slice A xs.length c, .slice A2 more.length c2] w fun e w' => e = .returned (.bool true) ∧ Below w.heap.size w w' := by
  have HS := Lib.hid hS
  have HL := Lib.hid hl
  have HII := Lib.hid hi
  have HS2 := Lib.hid hS2
  have HL2 := Lib.hid hl2
  have HII2 := Lib.hid hi2
  obtain ⟨K, hK⟩ : ∃ K, Hid (more.length = K) := ⟨_, rfl⟩
  rw [hK.out]
  clear hS2 hl2 hi2
  obtain ⟨N, hN⟩ : ∃ N, Hid (xs.length = N) := ⟨_, rfl⟩
  rw [hN.out]
  clear hS hl hi
  by_cases hp : 40 < p
  · go_enter Try.func8, Try.ntmps8
    go_wp2_with fail
    (with_reducible refine (sanity_any _).mono ?_)
    rintro e wS ⟨rfl, hbS⟩
    have hbz := hbS
    go_wp2
    go_ret
    exact ⟨rfl, hbz⟩
  · have hp1 : p ≤ 40 := by omega
    clear hp
    go_enter Try.func8, Try.ntmps8
    go_wp2_with fail
    rw [← hN.out]
    (with_reducible refine (few_any A c xs _ HL.out HS.out).mono ?_)
    rintro e w1 ⟨⟨b, rfl, hfb⟩, hb1⟩
    rw [hN.out]
    have HFB := Lib.hid hfb
    clear hfb
    cases b with
    | false =>
      go_wp2_with fail
      (with_reducible refine (sanity_any _).mono ?_)
      rintro e wS ⟨rfl, hbS⟩
      have hbz := below_join hb1 hbS
      go_wp2
      go_ret
      exact ⟨rfl, hbz⟩
    | true =>
      replace HFB := Lib.hid (HFB.out rfl)
      go_wp2_with fail
      rw [← hK.out]
      (with_reducible refine (few_any A2 c2 more _ HL2.out ((HS2.out.next hb1).up hb1.size)).mono ?_)
      rintro e w1' ⟨⟨b, rfl, hfb2⟩, hb1'⟩
      rw [hK.out]
      have HFB2 := Lib.hid hfb2
      have hb1 := below_join hb1 hb1'
      clear hfb2 hb1'
      cases b with
      | false =>
        go_wp2_with fail
        (with_reducible refine (sanity_any _).mono ?_)
        rintro e wS ⟨rfl, hbS⟩
        have hbz := below_join hb1 hbS
        go_wp2
        go_ret
        exact ⟨rfl, hbz⟩
      | true =>
        replace HFB2 := Lib.hid (HFB2.out rfl)
        by_cases hp0 : p < 1
        · go_wp2_with fail
          (with_reducible refine (played_bad p A N c _ (Or.inl hp0)).mono ?_)
          rintro e w2 ⟨rfl, rfl⟩
          go_wp2_with fail
          (with_reducible refine (sanity_any _).mono ?_)
          rintro e wS ⟨rfl, hbS⟩
          have hbz := below_join hb1 hbS
          go_wp2
          go_ret
          exact ⟨rfl, hbz⟩
        obtain ⟨n, rfl⟩ : ∃ n : Nat, p = (n : Int) := ⟨p.toNat, by omega⟩
        have hn1 : 1 ≤ n := by omega
        have hn2 : n ≤ 40 := by omega
        have HF := Lib.hid (fine_of HII.out HFB.out.2)
        have hN40 : xs.length ≤ 40 := HFB.out.1
        clear hp0
        go_wp2_with fail
        rw [← hN.out]
        (with_reducible refine (played_any n A c xs _ hn1 hn2 hN40 HF.out ((HS.out.next hb1).up hb1.size)).mono ?_)
        rintro e w2 ⟨gd, gp, gm, gr, ga, cap, X, rfl, hT, hb2⟩
        rw [hN.out] at hN40 hT
        rw [hN.out]
        have hM : ((DM.make n).run xs).ok := DM.run_ok _ (DM.make_ok (by omega)) HF.out
        have hML : ((DM.make n).run xs).ps.length = n := by rw [DM.run_len, DM.make_len]
        obtain ⟨M, hMM⟩ : ∃ M, Hid ((DM.make n).run xs = M) := ⟨_, rfl⟩
        rw [hMM.out] at hM hML hT
        have HM := Lib.hid hM
        have HML := Lib.hid hML
        obtain ⟨n0, hn0⟩ : ∃ n0, Hid (w.heap.size = n0) := ⟨_, rfl⟩
        replace hT : Two n0 w2 gd gp gm n [] N gr ga cap X M := hT.low (by rw [← hn0.out]; exact hb1.size)
        have hbel : Below n0 w w2 := by rw [← hn0.out]; exact below_join hb1 hb2
        have hsz : n0 ≤ w2.heap.size := by rw [← hn0.out]; exact Nat.le_trans hb1.size hb2.size
        obtain ⟨big1, big2⟩ := hT.big
        have HB1 := Lib.hid big1
        have HB2 := Lib.hid big2
        obtain ⟨ee1, ee2, ee3⟩ := hT.e2
        have EE1 := Lib.hid ee1
        have EE2 := Lib.hid ee2
        have EE3 := Lib.hid ee3
        have EE4 := Lib.hid hT.e
        obtain ⟨cp, hcp⟩ : ∃ cp, Hid (n = cp) := ⟨_, rfl⟩
        obtain ⟨Y, hY⟩ : ∃ Y : List Value, Hid ([] = Y) := ⟨_, rfl⟩
        replace hT : Two n0 w2 gd gp gm cp Y N gr ga cap X M := by rw [← hcp.out, ← hY.out]; exact hT
        clear hb1 hb2 big1 big2 ee1 ee2 ee3 hM hML hp1 HFB
        have HF2 := Lib.hid (fine_of HII2.out HFB2.out.2)
        have hK40 : K ≤ 40 := by rw [← hK.out]; exact HFB2.out.1
        rw [hn0.out] at HS2
        clear HFB2 HS HF
        go_wp2_with fail
        (with_reducible refine (clone_any gd gp gm N cp Y M _ HM.out (by rw [HML.out]; omega) hT.p).mono ?_)
        rintro e w3 ⟨cd, cgp, cgm, ccp, cY, rfl, hc3, hb3, hg1, hg2, hg3⟩
        have hT3 := hT.next hb3
        have hbel3 := hbel.trans (hb3.mono hsz)
        have hsz3 : n0 ≤ w3.heap.size := Nat.le_trans hsz hb3.size
        have hlt := Lib.hid (show gd < w2.heap.size ∧ gp < w2.heap.size ∧ gm < w2.heap.size ∧ gr < w2.heap.size ∧ ga < w2.heap.size from ⟨hT.p.d.lt, hT.p.p.lt, hT.p.m.lt, hT.r.d.lt, hT.r.p.lt⟩)
        clear hT hbel hb3
        go_wp2_with fail
        (with_reducible refine (same_eq cd cgp cgm N ccp gr ga cap cY X M _ HM.out hc3 hT3.r).mono ?_)
        rintro e w4 ⟨rfl, hb4⟩
        have hT4 := hT3.next hb4
        have hc4 := hc3.next hb4
        have hbel4 := hbel3.trans (hb4.mono hsz3)
        have hsz4 : n0 ≤ w4.heap.size := Nat.le_trans hsz3 hb4.size
        have hltc := Lib.hid (show cd < w4.heap.size ∧ cgp < w4.heap.size ∧ cgm < w4.heap.size ∧ gd < w4.heap.size ∧ gp < w4.heap.size ∧ gm < w4.heap.size ∧ gr < w4.heap.size ∧ ga < w4.heap.size from ⟨hc4.d.lt, hc4.p.lt, hc4.m.lt, hT4.p.d.lt, hT4.p.p.lt, hT4.p.m.lt, hT4.r.d.lt, hT4.r.p.lt⟩)
        clear hT3 hc3 hbel3 hsz3 hb4
        go_wp2_with fail
        (with_reducible refine (rclone_any gr ga cap X M _ HM.out (by rw [HML.out]; omega) hT4.r).mono ?_)
        rintro e w5 ⟨v, rfl, kr, ka, kcap, KX, rfl, hk5, hb5, hk1, hk2⟩
        have hT5 := hT4.next hb5
        have hc5 := hc4.next hb5
        have hbel5 := hbel4.trans (hb5.mono hsz4)
        have hsz5 : n0 ≤ w5.heap.size := Nat.le_trans hsz4 hb5.size
        have hU5 : Two n0 w5 cd cgp cgm ccp cY N kr ka kcap KX M := by
          have h1 := hltc.out
          refine ⟨hc5, hk5, ⟨by omega, by omega, by omega, by omega, by omega⟩, ?_, ?_⟩
          · simp only [List.mem_cons, List.not_mem_nil, or_false]; omega
          · simp only [List.mem_cons, List.not_mem_nil, or_false]; omega
        have CE1 : Hid (cd ∉ [gd, gp, gm] ∧ cgp ∉ [gd, gp, gm] ∧ cgm ∉ [gd, gp, gm] ∧ kr ∉ [gd, gp, gm] ∧ ka ∉ [gd, gp, gm]) := by
          have : cd ∉ [gd, gp, gm] ∧ cgp ∉ [gd, gp, gm] ∧ cgm ∉ [gd, gp, gm] ∧ kr ∉ [gd, gp, gm] ∧ ka ∉ [gd, gp, gm] := by
            have h1 := hltc.out
            have h2 := hlt.out
            simp only [List.mem_cons, List.not_mem_nil, or_false]; omega
          exact this
        have CE2 : Hid (cd ∉ [gr, ga] ∧ cgp ∉ [gr, ga] ∧ cgm ∉ [gr, ga] ∧ kr ∉ [gr, ga] ∧ ka ∉ [gr, ga]) := by
          have : cd ∉ [gr, ga] ∧ cgp ∉ [gr, ga] ∧ cgm ∉ [gr, ga] ∧ kr ∉ [gr, ga] ∧ ka ∉ [gr, ga] := by
            have h1 := hltc.out
            have h2 := hlt.out
            simp only [List.mem_cons, List.not_mem_nil, or_false]; omega
          exact this
        have DE1 : Hid (gd ∉ [cd, cgp, cgm] ∧ gp ∉ [cd, cgp, cgm] ∧ gm ∉ [cd, cgp, cgm] ∧ gr ∉ [cd, cgp, cgm] ∧ ga ∉ [cd, cgp, cgm]) := by
          have : gd ∉ [cd, cgp, cgm] ∧ gp ∉ [cd, cgp, cgm] ∧ gm ∉ [cd, cgp, cgm] ∧ gr ∉ [cd, cgp, cgm] ∧ ga ∉ [cd, cgp, cgm] := by
            have h2 := hlt.out
            simp only [List.mem_cons, List.not_mem_nil, or_false]; omega
          exact this
        have DE2 : Hid (gd ∉ [kr, ka] ∧ gp ∉ [kr, ka] ∧ gm ∉ [kr, ka] ∧ gr ∉ [kr, ka] ∧ ga ∉ [kr, ka]) := by
          have : gd ∉ [kr, ka] ∧ gp ∉ [kr, ka] ∧ gm ∉ [kr, ka] ∧ gr ∉ [kr, ka] ∧ ga ∉ [kr, ka] := by
            have h1 := hltc.out
            simp only [List.mem_cons, List.not_mem_nil, or_false]; omega
          exact this
        obtain ⟨big1, big2⟩ := hU5.big
        have HC1 := Lib.hid big1
        have HC2 := Lib.hid big2
        obtain ⟨ee1, ee2, ee3⟩ := hU5.e2
        have FE1 := Lib.hid ee1
        have FE2 := Lib.hid ee2
        have FE3 := Lib.hid ee3
        have hMk := HM
        have h0 : Two n0 w5 gd gp gm cp Y (N + 0) gr ga cap X (M.run (more.take 0)) := hT5
        have hfin : Hid (M.run (more.take K) = M.run more) := by
          have : M.run (more.take K) = M.run more := by rw [← hK.out, DM.run_all]
          exact this
        clear hT4 hc4 hk5 hb5 hk1 hk2 hbel4 hsz4 hc5 hltc hlt hg1 hg2 hg3 big1 big2 ee1 ee2 ee3 hT5
        go_wp2
        go_loopw [61] (fun i wr => LpRel n0 M more gd gp gm cp Y N gr ga cap X K w i wr ∧ Two n0 wr cd cgp cgm ccp cY N kr ka kcap KX M) (fun i _ => K - natOf i)
        case atStart => exact ⟨⟨0, Nat.zero_le _, rfl, h0, hbel5, hsz5⟩, hU5⟩
        case round =>
          clear h0 hbel5 hsz5 hU5
          obtain ⟨⟨j, hj, rfl, hT, hbel, hsz⟩, hC⟩ := hrel
          by_cases hjn : j < K
          · have hk0' : N ≤ 40 := hN40
            have hjz : j < 40 := by omega
            have hji : (j : Int) < (K : Int) := by omega
            obtain ⟨x, hx⟩ : ∃ x, more[j]? = some x := ⟨_, List.getElem?_eq_getElem (by rw [hK.out]; exact hjn)⟩
            obtain ⟨p, pa, pc, rfl, hcw⟩ := HS2.out j x hx
            have hfx := HF2.out x (List.mem_of_getElem? hx)
            have HNX := Lib.hid (DM.run_next M more j x hx)
            have HOK : Hid ((M.run (more.take j)).ok) := by
              have : (M.run (more.take j)).ok := DM.run_ok _ hMk.out (fun y hy => HF2.out y (List.mem_of_mem_take hy))
              exact this
            obtain ⟨hc, _⟩ := hcw wr hbel
            have HPK : Hid (∀ w', Below n0 w w' → PkAt w' pa x.picks) := by
              have : ∀ w', Below n0 w w' → PkAt w' pa x.picks := fun w' hb' => (hcw w' hb').2
              exact this
            obtain ⟨M1, hM1⟩ : ∃ M1, Hid (M.run (more.take j) = M1) := ⟨_, rfl⟩
            rw [hM1.out] at HNX HOK hT
            obtain ⟨M2, hM2⟩ : ∃ M2, Hid (M1.doM x = M2) := ⟨_, rfl⟩
            have HOK2 : Hid M2.ok := by
              have : M2.ok := by rw [← hM2.out]; exact DM.doM_ok HOK.out x hfx.i
              exact this
            rw [hM2.out] at HNX
            obtain ⟨sT, hsT⟩ : ∃ sT : ByteArray, Hid (S8 (M1.doS x) = .string sT) := ⟨_, rfl⟩
            obtain ⟨eT, heT⟩ : ∃ eT, Hid (M1.doE x = eT) := ⟨_, rfl⟩
            obtain ⟨kind, i, at_, tx, pk⟩ := x
            have HI := Lib.hid hfx.i
            have HA := Lib.hid hfx.a
            have HTX : tx.size ≤ 1000000 := by have h := hfx.t; have : tx.size ≤ 300 := h; omega
            have HPL : pk.length ≤ 1000000 := by have h := hfx.p; have : pk.length ≤ 70 := h; omega
            obtain ⟨q, hq⟩ : ∃ q, Hid (pk.length = q) := ⟨_, rfl⟩
            unfold opRow at hc
            simp only [hq.out] at hc
            have hun := Try.underlying34
            clear hx hj hcw hfx
            go_wp2_with (first | (with_reducible refine wpList_load_add (op := ⟨some 64, .load 34 (.tmp 63), _, _, _, _⟩) (by with_unfolding_all rfl) 34 (.tmp 63) (by with_unfolding_all rfl) (p.add (j * 5)) (by with_unfolding_all rfl) [.int .i64 kind, .int .i64 i, .int .i64 at_, .string tx, .slice pa q pc] _ hc hun (by with_unfolding_all rfl) (by with_unfolding_all exact Try.sizeO) ?_) | (with_reducible refine wpList_alloc (o := ⟨some 13, .alloc 34, _, _, _, _⟩) (by with_unfolding_all rfl) 34 (by with_unfolding_all rfl) (.agg #[.int .i64 0, .int .i64 0, .int .i64 0, .string ⟨#[]⟩, .slice none 0 0]) [.int .i64 0, .int .i64 0, .int .i64 0, .string ⟨#[]⟩, .slice none 0 0] (by exact Try.zeroO) (by with_unfolding_all rfl) ?_))
            intro g4 w2 hg4 hs2 hb2 hB2
            have hle4 : wr.heap.size ≤ g4 := Nat.le_of_eq hg4.out.symm
            go_wp2_with (with_reducible refine wpList_put (o := ⟨none, .store 34 (.tmp 13) (.tmp 64), _, _, _, _⟩) (by with_unfolding_all rfl) 34 (.tmp 13) (.tmp 64) (by with_unfolding_all rfl) g4 0 (by with_unfolding_all rfl) (.agg #[.int .i64 kind, .int .i64 i, .int .i64 at_, .string tx, .slice pa q pc]) (by with_unfolding_all rfl) hB2 [.int .i64 kind, .int .i64 i, .int .i64 at_, .string tx, .slice pa q pc] (by with_unfolding_all rfl) (by with_unfolding_all exact Try.sizeO) (by with_unfolding_all exact Nat.le_refl _) (by with_unfolding_all exact one_cell5 rfl rfl rfl rfl rfl) ?_)
            intro w3 hu3 hB3
            have hB3' : Blk w3 g4 34 [.int .i64 kind, .int .i64 i, .int .i64 at_, .string tx, .slice pa q pc] := hB3
            have hb3 : Below wr.heap.size wr w3 := (hb2.mono hle4).trans (hu3.below (B := wr.heap.size) hle4)
            have hbel3 : Below n0 w w3 := hbel.trans (hb3.mono hsz)
            have hsz3 : n0 ≤ w3.heap.size := Nat.le_trans hsz hb3.size
            have hT3 := hT.next hb3
            have hC3 := hC.next hb3
            have hg4d : g4 ∉ [gd, gp, gm] := by
              have h1 := hT.p.d.lt
              have h2 := hT.p.p.lt
              have h3 := hT.p.m.lt
              simp only [List.mem_cons, List.not_mem_nil, or_false]; omega
            clear hc hb2 hB2 hB3 hu3 hb3 hg4 hs2 hT hC hbel hsz
            go_wp2_with (first | (with_reducible refine wpList_get (o := ⟨some 66, .load 34 (.tmp 13), _, _, _, _⟩) (by with_unfolding_all rfl) 34 (.tmp 13) (by with_unfolding_all rfl) g4 0 (by with_unfolding_all rfl) hB3' [.int .i64 kind, .int .i64 i, .int .i64 at_, .string tx, .slice pa q pc] (cs_all _) _ (by with_unfolding_all exact hun) (by with_unfolding_all rfl) (by with_unfolding_all exact Try.sizeO) ?_) | fail)
            rw [← hq.out]
            (with_reducible refine (do_any gd gp gm (N + j) cp Y M1 kind i at_ tx pa pc pk _ HOK.out HI.out HA.out HTX HPL (by omega) hT3.p (fun w' ho => HPK.out w' (below_only hbel3 ho HB1.out hsz3))).mono ?_)
            rintro e w4 ⟨rfl, hp4, ho4⟩
            rw [hM2.out] at hp4
            rw [hsT.out, heT.out, hq.out]
            have hC4 := hC3.only ho4 CE1.out
            have hr4 := hT3.r.only ho4 hT3.e.1 hT3.e.2
            have hbel4 := below_only hbel3 ho4 HB1.out hsz3
            have hsz4 : n0 ≤ w4.heap.size := Nat.le_trans hsz3 ho4.size
            have hB4 := hB3'.only ho4 hg4d
            clear hC3 hB3' hbel3 hsz3 ho4 hg4d
            go_wp2_with (first | (with_reducible refine wpList_get (o := ⟨some 69, .load 34 (.tmp 13), _, _, _, _⟩) (by with_unfolding_all rfl) 34 (.tmp 13) (by with_unfolding_all rfl) g4 0 (by with_unfolding_all rfl) hB4 [.int .i64 kind, .int .i64 i, .int .i64 at_, .string tx, .slice pa q pc] (cs_all _) _ (by with_unfolding_all exact hun) (by with_unfolding_all rfl) (by with_unfolding_all exact Try.sizeO) ?_) | fail)
            rw [← hq.out]
            (with_reducible refine (rdo_any gr ga cap X M1 kind i at_ tx pa pc pk _ HOK.out HI.out HA.out HTX HPL hr4 (fun w' ho => HPK.out w' (below_only hbel4 ho HB2.out hsz4))).mono ?_)
            rintro e w5 ⟨rfl, hr5, ho5⟩
            rw [hM2.out] at hr5
            rw [hsT.out, heT.out]
            have hC5 := hC4.only ho5 CE2.out
            have hp5 := hp4.only ho5 EE1.out EE2.out EE3.out
            have hbel5 := below_only hbel4 ho5 HB2.out hsz4
            have hsz5 : n0 ≤ w5.heap.size := Nat.le_trans hsz4 ho5.size
            have hT5 : Two n0 w5 gd gp gm cp Y (N + j + 1) gr ga cap X M2 := ⟨hp5, hr5, hT3.b, hT3.e⟩
            clear hC4 hB4 hT3 hp4 hr4 hbel4 hsz4 hp5 hr5 ho5 HPK HTX HPL
            have hT6 : Two n0 w5 gd gp gm cp Y (N + (j + 1)) gr ga cap X (M.run (more.take (j + 1))) := by
              rw [HNX.out]
              exact hT5
            clear hT5
            go_wp2
            go_roundw
            case rel => exact ⟨⟨j + 1, by omega, by go_num, hT6, hbel5, hsz5⟩, hC5⟩
            case measure => simp [natOf]; omega
          · obtain rfl : j = K := by omega
            rw [hfin.out] at hT
            obtain ⟨MF, hMF⟩ : ∃ MF, Hid (M.run more = MF) := ⟨_, rfl⟩
            rw [hMF.out] at hT
            have HMF : Hid MF.ok := by
              have : MF.ok := by rw [← hMF.out]; exact DM.run_ok _ HM.out HF2.out
              exact this
            clear hj hjn
            go_wp2_with fail
            (with_reducible refine (same_eq cd cgp cgm N ccp kr ka kcap cY KX M _ HM.out hC.p hC.r).mono ?_)
            rintro e w6 ⟨rfl, hb6⟩
            have hT6 := hT.next hb6
            have hC6 := hC.next hb6
            have hbel6 := hbel.trans (hb6.mono hsz)
            have hsz6 : n0 ≤ w6.heap.size := Nat.le_trans hsz hb6.size
            clear hT hC hb6 hbel hsz
            go_wp2_with fail
            (with_reducible refine (same_eq gd gp gm (N + j) cp gr ga cap Y X MF _ HMF.out hT6.p hT6.r).mono ?_)
            rintro e w7 ⟨rfl, hb7⟩
            have hT7 := hT6.next hb7
            have hC7 := hC6.next hb7
            have hbel7 := hbel6.trans (hb7.mono hsz6)
            have hsz7 : n0 ≤ w7.heap.size := Nat.le_trans hsz6 hb7.size
            obtain ⟨kd, hkd⟩ : ∃ kd, Hid (N + j = kd) := ⟨_, rfl⟩
            rw [hkd.out] at hT7
            have h0 : Two n0 w7 cd cgp cgm ccp cY (N + 0) kr ka kcap KX (M.run (more.take 0)) := hC7
            clear hT6 hC6 hb7 hbel6 hsz6 hC7
            obtain ⟨K, hKK⟩ : ∃ K, Hid (j = K) := ⟨_, rfl⟩
            have hK2 : Hid (more.length = K) := by
              have : more.length = K := by rw [hK.out, hKK.out]
              exact this
            have hK240 : K ≤ 40 := by have := hKK.out; omega
            rw [hKK.out] at hfin
            rw [hKK.out]
            go_wp2
            go_loopw [84] (fun i wr => LpRel n0 M more cd cgp cgm ccp cY N kr ka kcap KX K w i wr ∧ Two n0 wr gd gp gm cp Y kd gr ga cap X MF) (fun i _ => K - natOf i)
            case atStart => exact ⟨⟨0, Nat.zero_le _, rfl, h0, hbel7, hsz7⟩, hT7⟩
            case round =>
              clear h0 hbel7 hsz7 hT7
              obtain ⟨⟨j, hj, rfl, hU, hbel, hsz⟩, hV⟩ := hrel
              by_cases hjn : j < K
              · have hk0' : N ≤ 40 := hN40
                have hjz : j < 40 := by omega
                have hji : (j : Int) < (K : Int) := by omega
                obtain ⟨x, hx⟩ : ∃ x, more[j]? = some x := ⟨_, List.getElem?_eq_getElem (by rw [hK2.out]; exact hjn)⟩
                obtain ⟨p, pa, pc, rfl, hcw⟩ := HS2.out j x hx
                have hfx := HF2.out x (List.mem_of_getElem? hx)
                have HNX := Lib.hid (DM.run_next M more j x hx)
                have HOK : Hid ((M.run (more.take j)).ok) := by
                  have : (M.run (more.take j)).ok := DM.run_ok _ hMk.out (fun y hy => HF2.out y (List.mem_of_mem_take hy))
                  exact this
                obtain ⟨hc, _⟩ := hcw wr hbel
                have HPK : Hid (∀ w', Below n0 w w' → PkAt w' pa x.picks) := by
                  have : ∀ w', Below n0 w w' → PkAt w' pa x.picks := fun w' hb' => (hcw w' hb').2
                  exact this
                obtain ⟨M1, hM1⟩ : ∃ M1, Hid (M.run (more.take j) = M1) := ⟨_, rfl⟩
                rw [hM1.out] at HNX HOK hU
                obtain ⟨M2, hM2⟩ : ∃ M2, Hid (M1.doM x = M2) := ⟨_, rfl⟩
                have HOK2 : Hid M2.ok := by
                  have : M2.ok := by rw [← hM2.out]; exact DM.doM_ok HOK.out x hfx.i
                  exact this
                rw [hM2.out] at HNX
                obtain ⟨sT, hsT⟩ : ∃ sT : ByteArray, Hid (S8 (M1.doS x) = .string sT) := ⟨_, rfl⟩
                obtain ⟨eT, heT⟩ : ∃ eT, Hid (M1.doE x = eT) := ⟨_, rfl⟩
                obtain ⟨kind, i, at_, tx, pk⟩ := x
                have HI := Lib.hid hfx.i
                have HA := Lib.hid hfx.a
                have HTX : tx.size ≤ 1000000 := by have h := hfx.t; have : tx.size ≤ 300 := h; omega
                have HPL : pk.length ≤ 1000000 := by have h := hfx.p; have : pk.length ≤ 70 := h; omega
                obtain ⟨q, hq⟩ : ∃ q, Hid (pk.length = q) := ⟨_, rfl⟩
                unfold opRow at hc
                simp only [hq.out] at hc
                have hun := Try.underlying34
                clear hx hj hcw hfx
                go_wp2_with (first | (with_reducible refine wpList_load_add (op := ⟨some 87, .load 34 (.tmp 86), _, _, _, _⟩) (by with_unfolding_all rfl) 34 (.tmp 86) (by with_unfolding_all rfl) (p.add (j * 5)) (by with_unfolding_all rfl) [.int .i64 kind, .int .i64 i, .int .i64 at_, .string tx, .slice pa q pc] _ hc hun (by with_unfolding_all rfl) (by with_unfolding_all exact Try.sizeO) ?_) | (with_reducible refine wpList_alloc (o := ⟨some 15, .alloc 34, _, _, _, _⟩) (by with_unfolding_all rfl) 34 (by with_unfolding_all rfl) (.agg #[.int .i64 0, .int .i64 0, .int .i64 0, .string ⟨#[]⟩, .slice none 0 0]) [.int .i64 0, .int .i64 0, .int .i64 0, .string ⟨#[]⟩, .slice none 0 0] (by exact Try.zeroO) (by with_unfolding_all rfl) ?_))
                intro g4 w2 hg4 hs2 hb2 hB2
                have hle4 : wr.heap.size ≤ g4 := Nat.le_of_eq hg4.out.symm
                go_wp2_with (with_reducible refine wpList_put (o := ⟨none, .store 34 (.tmp 15) (.tmp 87), _, _, _, _⟩) (by with_unfolding_all rfl) 34 (.tmp 15) (.tmp 87) (by with_unfolding_all rfl) g4 0 (by with_unfolding_all rfl) (.agg #[.int .i64 kind, .int .i64 i, .int .i64 at_, .string tx, .slice pa q pc]) (by with_unfolding_all rfl) hB2 [.int .i64 kind, .int .i64 i, .int .i64 at_, .string tx, .slice pa q pc] (by with_unfolding_all rfl) (by with_unfolding_all exact Try.sizeO) (by with_unfolding_all exact Nat.le_refl _) (by with_unfolding_all exact one_cell5 rfl rfl rfl rfl rfl) ?_)
                intro w3 hu3 hB3
                have hB3' : Blk w3 g4 34 [.int .i64 kind, .int .i64 i, .int .i64 at_, .string tx, .slice pa q pc] := hB3
                have hb3 : Below wr.heap.size wr w3 := (hb2.mono hle4).trans (hu3.below (B := wr.heap.size) hle4)
                have hbel3 : Below n0 w w3 := hbel.trans (hb3.mono hsz)
                have hsz3 : n0 ≤ w3.heap.size := Nat.le_trans hsz hb3.size
                have hU3 := hU.next hb3
                have hV3 := hV.next hb3
                have hg4d : g4 ∉ [cd, cgp, cgm] := by
                  have h1 := hU.p.d.lt
                  have h2 := hU.p.p.lt
                  have h3 := hU.p.m.lt
                  simp only [List.mem_cons, List.not_mem_nil, or_false]; omega
                clear hc hb2 hB2 hB3 hu3 hb3 hg4 hs2 hU hV hbel hsz
                go_wp2_with (first | (with_reducible refine wpList_get (o := ⟨some 90, .load 34 (.tmp 15), _, _, _, _⟩) (by with_unfolding_all rfl) 34 (.tmp 15) (by with_unfolding_all rfl) g4 0 (by with_unfolding_all rfl) hB3' [.int .i64 kind, .int .i64 i, .int .i64 at_, .string tx, .slice pa q pc] (cs_all _) _ (by with_unfolding_all exact hun) (by with_unfolding_all rfl) (by with_unfolding_all exact Try.sizeO) ?_) | fail)
                rw [← hq.out]
                (with_reducible refine (do_any cd cgp cgm (N + j) ccp cY M1 kind i at_ tx pa pc pk _ HOK.out HI.out HA.out HTX HPL (by omega) hU3.p (fun w' ho => HPK.out w' (below_only hbel3 ho HC1.out hsz3))).mono ?_)
                rintro e w4 ⟨rfl, hp4, ho4⟩
                rw [hM2.out] at hp4
                rw [hsT.out, heT.out, hq.out]
                have hV4 := hV3.only ho4 DE1.out
                have hr4 := hU3.r.only ho4 hU3.e.1 hU3.e.2
                have hbel4 := below_only hbel3 ho4 HC1.out hsz3
                have hsz4 : n0 ≤ w4.heap.size := Nat.le_trans hsz3 ho4.size
                have hB4 := hB3'.only ho4 hg4d
                clear hV3 hB3' hbel3 hsz3 ho4 hg4d
                go_wp2_with (first | (with_reducible refine wpList_get (o := ⟨some 96, .load 34 (.tmp 15), _, _, _, _⟩) (by with_unfolding_all rfl) 34 (.tmp 15) (by with_unfolding_all rfl) g4 0 (by with_unfolding_all rfl) hB4 [.int .i64 kind, .int .i64 i, .int .i64 at_, .string tx, .slice pa q pc] (cs_all _) _ (by with_unfolding_all exact hun) (by with_unfolding_all rfl) (by with_unfolding_all exact Try.sizeO) ?_) | fail)
                rw [← hq.out]
                (with_reducible refine (rdo_any kr ka kcap KX M1 kind i at_ tx pa pc pk _ HOK.out HI.out HA.out HTX HPL hr4 (fun w' ho => HPK.out w' (below_only hbel4 ho HC2.out hsz4))).mono ?_)
                rintro e w5 ⟨rfl, hr5, ho5⟩
                rw [hM2.out] at hr5
                rw [hsT.out, heT.out]
                have hV5 := hV4.only ho5 DE2.out
                have hp5 := hp4.only ho5 FE1.out FE2.out FE3.out
                have hbel5 := below_only hbel4 ho5 HC2.out hsz4
                have hsz5 : n0 ≤ w5.heap.size := Nat.le_trans hsz4 ho5.size
                have hU5 : Two n0 w5 cd cgp cgm ccp cY (N + j + 1) kr ka kcap KX M2 := ⟨hp5, hr5, hU3.b, hU3.e⟩
                clear hV4 hB4 hU3 hp4 hr4 hbel4 hsz4 hp5 hr5 ho5 HPK HTX HPL
                have hU6 : Two n0 w5 cd cgp cgm ccp cY (N + (j + 1)) kr ka kcap KX (M.run (more.take (j + 1))) := by
                  rw [HNX.out]
                  exact hU5
                clear hU5
                go_wp2
                go_roundw
                case rel => exact ⟨⟨j + 1, by omega, by go_num, hU6, hbel5, hsz5⟩, hV5⟩
                case measure => simp [natOf]; omega
              · obtain rfl : j = K := by omega
                rw [hfin.out, hMF.out] at hU
                clear hj hjn
                go_wp2_with fail
                (with_reducible refine (sanity_any _).mono ?_)
                rintro e w8 ⟨rfl, hb8⟩
                have hU8 := hU.next hb8
                have hV8 := hV.next hb8
                have hbel8 := hbel.trans (hb8.mono hsz)
                have hsz8 : n0 ≤ w8.heap.size := Nat.le_trans hsz hb8.size
                clear hU hV hb8 hbel hsz
                go_wp2_with fail
                (with_reducible refine (same_eq cd cgp cgm (N + j) ccp kr ka kcap cY KX MF _ HMF.out hU8.p hU8.r).mono ?_)
                rintro e w9 ⟨rfl, hb9⟩
                have hV9 := hV8.next hb9
                have hbel9 := hbel8.trans (hb9.mono hsz8)
                have hsz9 : n0 ≤ w9.heap.size := Nat.le_trans hsz8 hb9.size
                clear hU8 hV8 hb9 hbel8 hsz8
                go_wp2_with fail
                (with_reducible refine (same_eq gd gp gm kd cp gr ga cap Y X MF _ HMF.out hV9.p hV9.r).mono ?_)
                rintro e wz ⟨rfl, hbz⟩
                have hbelz := hbel9.trans (hbz.mono hsz9)
                clear hV9 hbz hbel9 hsz9
                go_wp2
                go_ret
                exact ⟨rfl, by rw [hn0.out]; exact hbelz⟩
end Go.Proofs.Ytbmoedgokimhmaa
