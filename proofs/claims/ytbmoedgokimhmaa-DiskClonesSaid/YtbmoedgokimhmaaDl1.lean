/-
  The walk over the statement DiskMatchesSpec. Conditions: the script lies in memory that the law leaves alone, its integers are such.
-/
import Derived.Test.YtbmoedgokimhmaaDo8
namespace Go.Proofs.Ytbmoedgokimhmaa
open Go.RowKit

/-- A script whose integers are such. -/
def IntsOk (xs : List OpM) : Prop := ∀ x ∈ xs, inI x.i ∧ inI x.at_
theorem fine_of {xs : List OpM} (hi : IntsOk xs) (hf : ∀ x ∈ xs, x.text.size ≤ 300 ∧ x.picks.length ≤ 70) : ∀ x ∈ xs, x.fine := fun x hx => ⟨(hi x hx).1, (hi x hx).2, (hf x hx).1, (hf x hx).2⟩
def LpRel (n0 : Nat) (M : DM) (xs : List OpM) (gd gp gm cp : Nat) (Y : List Value) (k0 gr ga cap : Nat) (X : List Value) (n : Nat) (w : World) (i : Value) (wr : World) : Prop :=
  ∃ j : Nat, j ≤ n ∧ i = .int .i64 j ∧ Two n0 wr gd gp gm cp Y (k0 + j) gr ga cap X (M.run (xs.take j)) ∧ Below n0 w wr ∧ n0 ≤ wr.heap.size
/-- Two disks made one after the other. -/
theorem two_new {n0 : Nat} {w1 w2 : World} {gd gp gm n k gr ga cap : Nat} {X : List Value} {M : DM} (hp1 : PRep w1 gd gp gm n [] M k) (hr2 : RRep w2 gr ga cap X M) (hb2 : Below w1.heap.size w1 w2) (h1 : n0 ≤ gd) (h2 : n0 ≤ gp) (h3 : n0 ≤ gm) (h4 : w1.heap.size ≤ gr) (h5 : w1.heap.size ≤ ga) : Two n0 w2 gd gp gm n [] k gr ga cap X M := by
  have hlt1 := hp1.d.lt
  have hlt2 := hp1.p.lt
  have hlt3 := hp1.m.lt
  refine ⟨hp1.next hb2, hr2, ⟨h1, h2, h3, by omega, by omega⟩, ?_, ?_⟩
  · simp only [List.mem_cons, List.not_mem_nil, or_false]; omega
  · simp only [List.mem_cons, List.not_mem_nil, or_false]; omega
set_option maxRecDepth 100000 in
set_option maxHeartbeats 1600000 in
theorem matchLaw_any (p : Int) (A : Option Addr) (c : Nat) (xs : List OpM) (w : World) (hl : xs.length ≤ 140737488355328) (hi : IntsOk xs) (hS : ScriptAt w.heap.size w A xs) :
    Calls Try.prog 3 #[.int .i64 p, .slice A xs.length c] w fun e w' => e = .returned (.bool true) ∧ Below w.heap.size w w' := by
  have HS := Lib.hid hS
  have HL := Lib.hid hl
  have HII := Lib.hid hi
  obtain ⟨N, hN⟩ : ∃ N, Hid (xs.length = N) := ⟨_, rfl⟩
  rw [hN.out]
  clear hS hl hi
  by_cases hp : 40 < p ∧ p ≤ 4096
  · obtain ⟨hp1, hp2⟩ := hp
    go_enter Try.func3, Try.ntmps3
    go_wp2_with fail
    (with_reducible refine (sanity_any _).mono ?_)
    rintro e w1 ⟨rfl, hb1⟩
    go_wp2
    go_ret
    exact ⟨rfl, hb1⟩
  · have hcase : (40 < p ∧ 4096 < p) ∨ p ≤ 40 := by omega
    have hpn : p < 1 ∨ 4096 < p ∨ (1 ≤ p ∧ p ≤ 40) := by omega
    clear hp
    go_enter Try.func3, Try.ntmps3
    rcases hcase with ⟨hp1, hp2⟩ | hp1
    · go_wp2_with fail
      rw [← hN.out]
      (with_reducible refine (few_any A c xs _ HL.out HS.out).mono ?_)
      rintro e w1 ⟨⟨b, rfl, _⟩, hb1⟩
      rw [hN.out]
      cases b with
      | false =>
        go_wp2_with fail
        (with_reducible refine (sanity_any _).mono ?_)
        rintro e w2 ⟨rfl, hb2⟩
        have hbz := below_join hb1 hb2
        go_wp2
        go_ret
        exact ⟨rfl, hbz⟩
      | true =>
        go_wp2_with fail
        (with_reducible refine (new_bad p _ (Or.inr hp2)).mono ?_)
        rintro e w2 ⟨rfl, rfl⟩
        go_wp2_with fail
        (with_reducible refine (rnew_bad p _ (Or.inr hp2)).mono ?_)
        rintro e w2 ⟨rfl, rfl⟩
        go_wp2_with fail
        (with_reducible refine (sanity_any _).mono ?_)
        rintro e w2 ⟨rfl, hb2⟩
        have hbz := below_join hb1 hb2
        go_wp2
        go_ret
        exact ⟨rfl, hbz⟩
    · go_wp2_with fail
      rw [← hN.out]
      (with_reducible refine (few_any A c xs _ HL.out HS.out).mono ?_)
      rintro e w1 ⟨⟨b, rfl, hfb⟩, hb1⟩
      rw [hN.out]
      have HFB := Lib.hid hfb
      clear hfb
      cases b with
      | false =>
        go_wp2_with fail
        (with_reducible refine (sanity_any _).mono ?_)
        rintro e w2 ⟨rfl, hb2⟩
        have hbz := below_join hb1 hb2
        go_wp2
        go_ret
        exact ⟨rfl, hbz⟩
      | true =>
        by_cases hp0 : p < 1
        · go_wp2_with fail
          (with_reducible refine (new_bad p _ (Or.inl hp0)).mono ?_)
          rintro e w2 ⟨rfl, rfl⟩
          go_wp2_with fail
          (with_reducible refine (rnew_bad p _ (Or.inl hp0)).mono ?_)
          rintro e w2 ⟨rfl, rfl⟩
          go_wp2_with fail
          (with_reducible refine (sanity_any _).mono ?_)
          rintro e w2 ⟨rfl, hb2⟩
          have hbz := below_join hb1 hb2
          go_wp2
          go_ret
          exact ⟨rfl, hbz⟩
        · obtain ⟨n, rfl⟩ : ∃ n : Nat, p = (n : Int) := ⟨p.toNat, by omega⟩
          have hn1 : 1 ≤ n := by omega
          have hn2 : n ≤ 40 := by omega
          have HF := Lib.hid (fine_of HII.out (HFB.out rfl).2)
          have hN40 : N ≤ 40 := by have := (HFB.out rfl).1; rw [hN.out] at this; exact this
          clear hpn hp0
          go_wp2_with fail
          (with_reducible refine (new_any n _ hn1 (by omega)).mono ?_)
          rintro e w2 ⟨gd, gp, gm, rfl, hp2, hb2, hg1, hg2, hg3⟩
          go_wp2_with fail
          (with_reducible refine (rnew_any n _ hn1 (by omega)).mono ?_)
          rintro e w3 ⟨v, rfl, gr, ga, cap, X, rfl, hr3, hb3, hg4, hg5⟩
          obtain ⟨n0, hn0⟩ : ∃ n0, Hid (w.heap.size = n0) := ⟨_, rfl⟩
          have hsz1 := hb1.size
          have hb2s := hb2.size
          have hb3s := hb3.size
          have h0 : Two n0 w3 gd gp gm n [] 0 gr ga cap X (DM.make n) := by
            rw [← hn0.out]
            exact two_new hp2 hr3 hb3 (by omega) (by omega) (by omega) hg4 hg5
          have hB3 : Below n0 w w3 := by rw [← hn0.out]; exact below_join (below_join hb1 hb2) hb3
          have hs3 : n0 ≤ w3.heap.size := by rw [← hn0.out]; omega
          obtain ⟨M0, hM0⟩ : ∃ M0, Hid (DM.make n = M0) := ⟨_, rfl⟩
          have hMk : Hid (M0.ok) := by rw [← hM0.out]; exact DM.make_ok (by omega)
          rw [hM0.out] at h0
          rw [hn0.out] at HS
          obtain ⟨big1, big2⟩ := h0.big
          have HB1 := Lib.hid big1
          have HB2 := Lib.hid big2
          obtain ⟨ee1, ee2, ee3⟩ := h0.e2
          have EE1 := Lib.hid ee1
          have EE2 := Lib.hid ee2
          have EE3 := Lib.hid ee3
          clear hp2 hr3 hb1 hb2 hb3 hg1 hg2 hg3 hg4 hg5 big1 big2 ee1 ee2 ee3 hsz1 hb2s hb3s
          obtain ⟨cp, hcp⟩ : ∃ cp, Hid (n = cp) := ⟨_, rfl⟩
          obtain ⟨Y, hY⟩ : ∃ Y : List Value, Hid ([] = Y) := ⟨_, rfl⟩
          obtain ⟨k0, hk0⟩ : ∃ k0 : Nat, Hid (0 = k0) := ⟨_, rfl⟩
          have hk0' : k0 ≤ 40 := by rw [← hk0.out]; omega
          have h0' : Two n0 w3 gd gp gm cp Y (k0 + 0) gr ga cap X (M0.run (xs.take 0)) := by rw [← hcp.out, ← hY.out, ← hk0.out]; exact h0
          clear h0
          go_wp2
          go_loopw [56] (LpRel n0 M0 xs gd gp gm cp Y k0 gr ga cap X N w) (fun i _ => N - natOf i)
          case atStart => exact ⟨0, Nat.zero_le _, rfl, h0', hB3, hs3⟩
          case round =>
            clear h0' hB3 hs3
            obtain ⟨j, hj, rfl, hT, hbel, hsz⟩ := hrel
            by_cases hjn : j < N
            · have hjz : 0 ≤ j := Nat.zero_le _
              have hji : (j : Int) < (N : Int) := by omega
              obtain ⟨x, hx⟩ : ∃ x, xs[j]? = some x := ⟨_, List.getElem?_eq_getElem (by rw [hN.out]; exact hjn)⟩
              obtain ⟨p, pa, pc, rfl, hcw⟩ := HS.out j x hx
              have hfx := HF.out x (List.mem_of_getElem? hx)
              have HNX := Lib.hid (DM.run_next M0 xs j x hx)
              have HOK : Hid ((M0.run (xs.take j)).ok) := by
                have : (M0.run (xs.take j)).ok := DM.run_ok _ hMk.out (fun y hy => HF.out y (List.mem_of_mem_take hy))
                exact this
              obtain ⟨hc, _⟩ := hcw wr hbel
              have HPK : Hid (∀ w', Below n0 w w' → PkAt w' pa x.picks) := by
                have : ∀ w', Below n0 w w' → PkAt w' pa x.picks := fun w' hb' => (hcw w' hb').2
                exact this
              obtain ⟨M1, hM1⟩ : ∃ M1, Hid (M0.run (xs.take j) = M1) := ⟨_, rfl⟩
              rw [hM1.out] at HNX HOK hT
              obtain ⟨M2, hM2⟩ : ∃ M2, Hid (M1.doM x = M2) := ⟨_, rfl⟩
              have HOK2 : Hid M2.ok := by
                have : M2.ok := by rw [← hM2.out]; exact DM.doM_ok HOK.out x hfx.i
                exact this
              rw [hM2.out] at HNX
              obtain ⟨sT, hsT⟩ : ∃ sT : ByteArray, Hid (S8 (M1.doS x) = .string sT) := ⟨_, rfl⟩
              obtain ⟨eT, heT⟩ : ∃ eT, Hid (M1.doE x = eT) := ⟨_, rfl⟩
              obtain ⟨kind, i, at_, tx, pk⟩ := x
              have HI := Lib.hid hfx.i
              have HA := Lib.hid hfx.a
              have HTX : tx.size ≤ 1000000 := by have h := hfx.t; have : tx.size ≤ 300 := h; omega
              have HPL : pk.length ≤ 1000000 := by have h := hfx.p; have : pk.length ≤ 70 := h; omega
              obtain ⟨q, hq⟩ : ∃ q, Hid (pk.length = q) := ⟨_, rfl⟩
              unfold opRow at hc
              simp only [hq.out] at hc
              have hun := Try.underlying34
              clear hx hj hcw hfx
              go_wp2_with (first | (with_reducible refine wpList_load_add (op := ⟨some 59, .load 34 (.tmp 58), _, _, _, _⟩) (by with_unfolding_all rfl) 34 (.tmp 58) (by with_unfolding_all rfl) (p.add (j * 5)) (by with_unfolding_all rfl) [.int .i64 kind, .int .i64 i, .int .i64 at_, .string tx, .slice pa q pc] _ hc hun (by with_unfolding_all rfl) (by with_unfolding_all exact Try.sizeO) ?_) | (with_reducible refine wpList_alloc (o := ⟨some 10, .alloc 34, _, _, _, _⟩) (by with_unfolding_all rfl) 34 (by with_unfolding_all rfl) (.agg #[.int .i64 0, .int .i64 0, .int .i64 0, .string ⟨#[]⟩, .slice none 0 0]) [.int .i64 0, .int .i64 0, .int .i64 0, .string ⟨#[]⟩, .slice none 0 0] (by exact Try.zeroO) (by with_unfolding_all rfl) ?_))
              intro g4 w2 hg4 hs2 hb2 hB2
              have hle4 : wr.heap.size ≤ g4 := Nat.le_of_eq hg4.out.symm
              go_wp2_with (with_reducible refine wpList_put (o := ⟨none, .store 34 (.tmp 10) (.tmp 59), _, _, _, _⟩) (by with_unfolding_all rfl) 34 (.tmp 10) (.tmp 59) (by with_unfolding_all rfl) g4 0 (by with_unfolding_all rfl) (.agg #[.int .i64 kind, .int .i64 i, .int .i64 at_, .string tx, .slice pa q pc]) (by with_unfolding_all rfl) hB2 [.int .i64 kind, .int .i64 i, .int .i64 at_, .string tx, .slice pa q pc] (by with_unfolding_all rfl) (by with_unfolding_all exact Try.sizeO) (by with_unfolding_all exact Nat.le_refl _) (by with_unfolding_all exact one_cell5 rfl rfl rfl rfl rfl) ?_)
              intro w3 hu3 hB3
              have hB3' : Blk w3 g4 34 [.int .i64 kind, .int .i64 i, .int .i64 at_, .string tx, .slice pa q pc] := hB3
              have hb3 : Below wr.heap.size wr w3 := (hb2.mono hle4).trans (hu3.below (B := wr.heap.size) hle4)
              have hbel3 : Below n0 w w3 := hbel.trans (hb3.mono hsz)
              have hsz3 : n0 ≤ w3.heap.size := Nat.le_trans hsz hb3.size
              have hT3 := hT.next hb3
              have hg4d : g4 ∉ [gd, gp, gm] := by
                have h1 := hT.p.d.lt
                have h2 := hT.p.p.lt
                have h3 := hT.p.m.lt
                simp only [List.mem_cons, List.not_mem_nil, or_false]; omega
              clear hc hb2 hB2 hB3 hu3 hb3 hg4 hs2 hT hbel hsz
              go_wp2_with (first | (with_reducible refine wpList_get (o := ⟨some 62, .load 34 (.tmp 10), _, _, _, _⟩) (by with_unfolding_all rfl) 34 (.tmp 10) (by with_unfolding_all rfl) g4 0 (by with_unfolding_all rfl) hB3' [.int .i64 kind, .int .i64 i, .int .i64 at_, .string tx, .slice pa q pc] (cs_all _) _ (by with_unfolding_all exact hun) (by with_unfolding_all rfl) (by with_unfolding_all exact Try.sizeO) ?_) | fail)
              rw [← hq.out]
              (with_reducible refine (do_any gd gp gm (k0 + j) cp Y M1 kind i at_ tx pa pc pk _ HOK.out HI.out HA.out HTX HPL (by omega) hT3.p (fun w' ho => HPK.out w' (below_only hbel3 ho HB1.out hsz3))).mono ?_)
              rintro e w4 ⟨rfl, hp4, ho4⟩
              rw [hM2.out] at hp4
              rw [hsT.out, heT.out, hq.out]
              have hr4 := hT3.r.only ho4 hT3.e.1 hT3.e.2
              have hbel4 := below_only hbel3 ho4 HB1.out hsz3
              have hsz4 : n0 ≤ w4.heap.size := Nat.le_trans hsz3 ho4.size
              have hB4 := hB3'.only ho4 hg4d
              clear hB3' hbel3 hsz3 ho4 hg4d
              go_wp2_with (first | (with_reducible refine wpList_get (o := ⟨some 68, .load 34 (.tmp 10), _, _, _, _⟩) (by with_unfolding_all rfl) 34 (.tmp 10) (by with_unfolding_all rfl) g4 0 (by with_unfolding_all rfl) hB4 [.int .i64 kind, .int .i64 i, .int .i64 at_, .string tx, .slice pa q pc] (cs_all _) _ (by with_unfolding_all exact hun) (by with_unfolding_all rfl) (by with_unfolding_all exact Try.sizeO) ?_) | fail)
              rw [← hq.out]
              (with_reducible refine (rdo_any gr ga cap X M1 kind i at_ tx pa pc pk _ HOK.out HI.out HA.out HTX HPL hr4 (fun w' ho => HPK.out w' (below_only hbel4 ho HB2.out hsz4))).mono ?_)
              rintro e w5 ⟨rfl, hr5, ho5⟩
              rw [hM2.out] at hr5
              rw [hsT.out, heT.out]
              have hp5 := hp4.only ho5 EE1.out EE2.out EE3.out
              have hbel5 := below_only hbel4 ho5 HB2.out hsz4
              have hsz5 : n0 ≤ w5.heap.size := Nat.le_trans hsz4 ho5.size
              have hT5 : Two n0 w5 gd gp gm cp Y (k0 + j + 1) gr ga cap X M2 := ⟨hp5, hr5, hT3.b, hT3.e⟩
              clear hB4 hT3 hp4 hr4 hbel4 hsz4 hp5 hr5 ho5 HPK HTX HPL
              go_wp2_with fail
              (with_reducible refine (same_eq gd gp gm (k0 + j + 1) cp gr ga cap Y X M2 _ HOK2.out hT5.p hT5.r).mono ?_)
              rintro e w6 ⟨rfl, hb6⟩
              have hT6 : Two n0 w6 gd gp gm cp Y (k0 + (j + 1)) gr ga cap X (M0.run (xs.take (j + 1))) := by
                rw [HNX.out]
                exact hT5.next hb6
              have hbel6 := hbel5.trans (hb6.mono hsz5)
              have hsz6 : n0 ≤ w6.heap.size := Nat.le_trans hsz5 hb6.size
              clear hT5 hb6 hbel5 hsz5
              go_wp2
              go_roundw
              case rel => exact ⟨j + 1, by omega, by go_num, hT6, hbel6, hsz6⟩
              case measure => simp [natOf]; omega
            · obtain rfl : j = N := by omega
              clear hj hjn hT
              go_wp2_with fail
              (with_reducible refine (sanity_any _).mono ?_)
              rintro e w4 ⟨rfl, hb4⟩
              have hbz := hbel.trans (hb4.mono hsz)
              go_wp2
              go_ret
              exact ⟨rfl, by rw [hn0.out]; exact hbz⟩
end Go.Proofs.Ytbmoedgokimhmaa
