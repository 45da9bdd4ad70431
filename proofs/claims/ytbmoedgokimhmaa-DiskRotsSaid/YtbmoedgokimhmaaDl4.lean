/-
  The walk over the statement DiskRots. Conditions: the arguments lie in memory that the law leaves alone, their integers are such.
-/
import Derived.Test.YtbmoedgokimhmaaDl9
namespace Go.Proofs.Ytbmoedgokimhmaa
open Go.RowKit

set_option maxRecDepth 100000 in
set_option maxHeartbeats 3200000 in
theorem rotLaw_any (p : Int) (A : Option Addr) (c : Nat) (xs : List OpM) (i b : Int) (w : World) (hl : xs.length ≤ 140737488355328) (hi : IntsOk xs) (hS : ScriptAt w.heap.size w A xs) :
    Calls Try.prog 6 #[.int .i64 p, .slice A xs.length c, .int .i64 i, .int .i64 b] w fun e w' => e = .returned (.bool true) ∧ Below w.heap.size w w' := by
  have HS := Lib.hid hS
  have HL := Lib.hid hl
  have HII := Lib.hid hi
  obtain ⟨N, hN⟩ : ∃ N, Hid (xs.length = N) := ⟨_, rfl⟩
  rw [hN.out]
  clear hS hl hi
  by_cases hp : 40 < p
  · go_enter Try.func6, Try.ntmps6
    go_wp2_with fail
    (with_reducible refine (sanity_any _).mono ?_)
    rintro e wS ⟨rfl, hbS⟩
    have hbz := hbS
    go_wp2
    go_ret
    exact ⟨rfl, hbz⟩
  · have hp1 : p ≤ 40 := by omega
    clear hp
    go_enter Try.func6, Try.ntmps6
    go_wp2_with fail
    rw [← hN.out]
    (with_reducible refine (few_any A c xs _ HL.out HS.out).mono ?_)
    rintro e w1 ⟨⟨b, rfl, hfb⟩, hb1⟩
    rw [hN.out]
    have HFB := Lib.hid hfb
    clear hfb
    cases b with
    | false =>
      go_wp2_with fail
      (with_reducible refine (sanity_any _).mono ?_)
      rintro e wS ⟨rfl, hbS⟩
      have hbz := below_join hb1 hbS
      go_wp2
      go_ret
      exact ⟨rfl, hbz⟩
    | true =>
      replace HFB := Lib.hid (HFB.out rfl)
      by_cases hp0 : p < 1
      · go_wp2_with fail
        (with_reducible refine (played_bad p A N c _ (Or.inl hp0)).mono ?_)
        rintro e w2 ⟨rfl, rfl⟩
        go_wp2_with fail
        (with_reducible refine (sanity_any _).mono ?_)
        rintro e wS ⟨rfl, hbS⟩
        have hbz := below_join hb1 hbS
        go_wp2
        go_ret
        exact ⟨rfl, hbz⟩
      obtain ⟨n, rfl⟩ : ∃ n : Nat, p = (n : Int) := ⟨p.toNat, by omega⟩
      have hn1 : 1 ≤ n := by omega
      have hn2 : n ≤ 40 := by omega
      have HF := Lib.hid (fine_of HII.out HFB.out.2)
      have hN40 : xs.length ≤ 40 := HFB.out.1
      clear hp0
      go_wp2_with fail
      rw [← hN.out]
      (with_reducible refine (played_any n A c xs _ hn1 hn2 hN40 HF.out ((HS.out.next hb1).up hb1.size)).mono ?_)
      rintro e w2 ⟨gd, gp, gm, gr, ga, cap, X, rfl, hT, hb2⟩
      rw [hN.out] at hN40 hT
      rw [hN.out]
      have hM : ((DM.make n).run xs).ok := DM.run_ok _ (DM.make_ok (by omega)) HF.out
      have hML : ((DM.make n).run xs).ps.length = n := by rw [DM.run_len, DM.make_len]
      obtain ⟨M, hMM⟩ : ∃ M, Hid ((DM.make n).run xs = M) := ⟨_, rfl⟩
      rw [hMM.out] at hM hML hT
      have HM := Lib.hid hM
      have HML := Lib.hid hML
      obtain ⟨n0, hn0⟩ : ∃ n0, Hid (w.heap.size = n0) := ⟨_, rfl⟩
      replace hT : Two n0 w2 gd gp gm n [] N gr ga cap X M := hT.low (by rw [← hn0.out]; exact hb1.size)
      have hbel : Below n0 w w2 := by rw [← hn0.out]; exact below_join hb1 hb2
      have hsz : n0 ≤ w2.heap.size := by rw [← hn0.out]; exact Nat.le_trans hb1.size hb2.size
      obtain ⟨big1, big2⟩ := hT.big
      have HB1 := Lib.hid big1
      have HB2 := Lib.hid big2
      obtain ⟨ee1, ee2, ee3⟩ := hT.e2
      have EE1 := Lib.hid ee1
      have EE2 := Lib.hid ee2
      have EE3 := Lib.hid ee3
      have EE4 := Lib.hid hT.e
      obtain ⟨cp, hcp⟩ : ∃ cp, Hid (n = cp) := ⟨_, rfl⟩
      obtain ⟨Y, hY⟩ : ∃ Y : List Value, Hid ([] = Y) := ⟨_, rfl⟩
      replace hT : Two n0 w2 gd gp gm cp Y N gr ga cap X M := by rw [← hcp.out, ← hY.out]; exact hT
      clear hb1 hb2 big1 big2 ee1 ee2 ee3 hM hML hp1 HFB
      go_wp2_with fail
      (with_reducible refine (image_any gd gp gm N cp Y M _ HM.out hT.p).mono ?_)
      rintro e w3 ⟨gi, rfl, hI, hb3, hgi⟩
      rw [HML.out]
      have hT3 := hT.next hb3
      have hbel3 := hbel.trans (hb3.mono hsz)
      have hsz3 : n0 ≤ w3.heap.size := Nat.le_trans hsz hb3.size
      have NI : Hid (gi ∉ [gd, gp, gm]) := by
        have : gi ∉ [gd, gp, gm] := by
          have h1 := hT.p.d.lt
          have h2 := hT.p.p.lt
          have h3 := hT.p.m.lt
          simp only [List.mem_cons, List.not_mem_nil, or_false]; omega
        exact this
      clear hT hbel hsz hb3 hgi
      go_wp2_with fail
      (with_reducible refine (pending_any gd gp gm N cp Y M _ HM.out hT3.p).mono ?_)
      rintro e w4 ⟨v, rfl, row4, _, hb4⟩
      have row4' : w4.ownsRow w3.heap.size 3 1 v M.pending.length ((pendZ M).map (Value.int .i64)) := row4
      obtain ⟨A4, c4, rfl⟩ := own_shape row4'
      obtain ⟨PL, hPL⟩ : ∃ PL, Hid (M.pending.length = PL) := ⟨_, rfl⟩
      rw [hPL.out] at row4'
      rw [hPL.out]
      have hT4 := hT3.next hb4
      have hI4 := hI.next hb4 hI.lt
      have hbel4 := hbel3.trans (hb4.mono hsz3)
      have hsz4 : n0 ≤ w4.heap.size := Nat.le_trans hsz3 hb4.size
      have KE : Hid (∀ w', Only [gd, gp, gm] w4 w' → Blk w' gi 9 (M.image.map S8) ∧ RowAt w' A4 ((pendZ M).map (Value.int .i64)) ∧ RRep w' gr ga cap X M) := by
        have : ∀ w', Only [gd, gp, gm] w4 w' → Blk w' gi 9 (M.image.map S8) ∧ RowAt w' A4 ((pendZ M).map (Value.int .i64)) ∧ RRep w' gr ga cap X M := fun w' ho => ⟨hI4.only ho NI.out, RowAt.of_own (own_only row4' ho (by
          have h1 := hT3.p.d.lt
          have h2 := hT3.p.p.lt
          have h3 := hT3.p.m.lt
          intro q hq
          simp only [List.mem_cons, List.not_mem_nil, or_false] at hq
          rcases hq with rfl | rfl | rfl <;> assumption)), hT4.r.only ho EE4.out.1 EE4.out.2⟩
        exact this
      have hp4 := hT4.p
      clear hT3 hT4 hI hI4 hbel3 hsz3 row4 row4' hb4
      by_cases hfit : (M.okP i && decide (0 ≤ b ∧ b < 1024)) = true
      · obtain ⟨hf1, hf2⟩ := Bool.and_eq_true_iff.1 hfit
        obtain ⟨ii, rfl, hii⟩ := DM.okP_nat hf1
        obtain ⟨bb, rfl⟩ : ∃ bb : Nat, b = (bb : Int) := ⟨b.toNat, by have := of_decide_eq_true hf2; omega⟩
        have hbb : bb < 1024 := by have := of_decide_eq_true hf2; omega
        have hin : ii < n := by rw [← HML.out]; exact hii
        have HE1 := Lib.hid (rot_good hfit).1
        obtain ⟨M2, hM2⟩ : ∃ M2, Hid (M.rot (ii : Int) (bb : Int) = M2) := ⟨_, rfl⟩
        have HM2 : Hid M2.ok := by
          have : M2.ok := by rw [← hM2.out]; exact DM.rot_ok HM.out _ _
          exact this
        have HML2 : Hid (M2.ps.length = n) := by
          have : M2.ps.length = n := by rw [← hM2.out, DM.rot_len]; exact HML.out
          exact this
        have HTW : Hid (M2.rot (ii : Int) (bb : Int) = M) := by
          have : M2.rot (ii : Int) (bb : Int) = M := by rw [← hM2.out]; exact rot_twice HM.out hii hbb
          exact this
        have HE2 : Hid (M2.rotE (ii : Int) (bb : Int) = 0) := by
          have : M2.rotE (ii : Int) (bb : Int) = 0 := by
            refine (rot_good ?_).1
            unfold DM.okP
            rw [HML2.out, Bool.and_eq_true, decide_eq_true_eq, decide_eq_true_eq]; omega
          exact this
        have hiin : (ii : Int) < (n : Int) := by omega
        have hii0 : (0 : Int) ≤ (ii : Int) := by omega
        have hbb0 : (0 : Int) ≤ (bb : Int) := by omega
        have hbb1 : (bb : Int) ≤ 1023 := by omega
        clear hfit hf1 hf2
        go_wp2_with fail
        (with_reducible refine (rot_any gd gp gm N cp Y M _ _ _ HM.out hp4).mono ?_)
        rintro e w5 ⟨rfl, hp5, ho5⟩
        rw [hM2.out] at hp5
        rw [HE1.out]
        have O5 : Only [gd, gp, gm] w4 w5 := ho5.mono (by simp)
        clear hp4 ho5
        go_wp2_with fail
        (with_reducible refine (image_any gd gp gm N cp Y M2 _ HM2.out hp5).mono ?_)
        rintro e w6 ⟨g2, rfl, hI6, hb6, _⟩
        rw [HML2.out]
        have hp6 := hp5.next hb6
        have O6 := O5.trans (Only.of_below (L := [gd, gp, gm]) hb6)
        have hJ6 := (KE.out _ O6).1
        clear hp5 O5 hb6
        go_wp2
        go_loopw [109] (fun i wr => ∃ k : Nat, k ≤ n ∧ i = .int .i64 k ∧ Below w6.heap.size w6 wr) (fun i _ => n - natOf i)
        case atStart => exact ⟨0, Nat.zero_le _, rfl, Below.refl _ _⟩
        case round =>
          obtain ⟨k, hk, rfl, hbr⟩ := hrel
          by_cases hkn : k < n
          · have hki : (k : Int) < (n : Int) := by omega
            have hkM : k < M.ps.length := by rw [HML.out]; exact hkn
            have hkM2 : k < M2.ps.length := by rw [HML2.out]; exact hkn
            obtain ⟨l1, hl1⟩ : ∃ l1, (M.page k).old = l1 := ⟨_, rfl⟩
            obtain ⟨l2, hl2⟩ : ∃ l2, (M2.page k).old = l2 := ⟨_, rfl⟩
            have hll1 : l1.length = 128 := by rw [← hl1]; exact (DM.page_ok HM.out hkM).1
            have hll2 : l2.length = 128 := by rw [← hl2]; exact (DM.page_ok HM2.out hkM2).1
            have hrp : l2 = if k = ii then DM.flip l1 bb else l1 := by
              rw [← hl2, ← hl1, ← hM2.out]
              exact rot_page hii hbb k hkM
            obtain ⟨s1, hs1⟩ : ∃ s1 : ByteArray, (⟨l1.toArray⟩ : ByteArray) = s1 := ⟨_, rfl⟩
            obtain ⟨s2, hs2⟩ : ∃ s2 : ByteArray, (⟨l2.toArray⟩ : ByteArray) = s2 := ⟨_, rfl⟩
            have cl1 : ∀ w', Below w6.heap.size w6 w' → w'.cell? ⟨gi, k, none⟩ = some (.string s1) := fun w' hb' => by
              have := image_blk (hJ6.next hb' hJ6.lt) hkM
              rw [hl1, hs1] at this
              exact this
            have cl2 : ∀ w', Below w6.heap.size w6 w' → w'.cell? ⟨g2, k, none⟩ = some (.string s2) := fun w' hb' => by
              have := image_blk (hI6.next hb' hI6.lt) hkM2
              rw [hl2, hs2] at this
              exact this
            have z1 : s1.size = 128 := by rw [← hs1, str_size, hll1]
            have z2 : s2.size = 128 := by rw [← hs2, str_size, hll2]
            have CL1 := Lib.hid cl1
            have CL2 := Lib.hid cl2
            have HRP := Lib.hid hrp
            have HL1 := Lib.hid hll1
            have HL2' := Lib.hid hll2
            have HS1 := Lib.hid hs1
            have HS2 := Lib.hid hs2
            clear cl1 cl2 hrp hll1 hll2 hs1 hs2 hl1 hl2 hkM hkM2 hk
            go_wp2
            go_loopw [112] (fun i wr => InRel w6 i wr) (fun i _ => 128 - natOf i)
            case atStart => exact ⟨0, Nat.zero_le _, rfl, hbr⟩
            case round =>
              clear hbr
              obtain ⟨m, hm, rfl, hbr⟩ := hrel
              by_cases hmn : m < 128
              · have hmi : (m : Int) < 128 := by omega
                obtain ⟨y, y2, hy, hy2, hx1, hx2⟩ := rot_byte HL1.out bb m hmn
                have c1 := CL1.out wr hbr
                have c2 := CL2.out wr hbr
                obtain ⟨q, hq⟩ : ∃ q, bb / 8 = q := ⟨_, rfl⟩
                obtain ⟨r, hr⟩ : ∃ r, bb % 8 = r := ⟨_, rfl⟩
                have hr8 : r < 8 := by omega
                have hqd : (bb : Int).tdiv 8 = (q : Int) := by rw [Int.tdiv_eq_ediv_of_nonneg (by omega)]; omega
                have hrd : (bb : Int).tmod 8 = (r : Int) := by rw [Int.tmod_eq_emod_of_nonneg (by omega)]; omega
                have hwp := wrap_pow r hr8
                have hwq : IntKind.i64.wrap (q : Int) = (q : Int) := by simp only [IntKind.wrap_i64]; omega
                have hwr : IntKind.i64.wrap (r : Int) = (r : Int) := by simp only [IntKind.wrap_i64]; omega
                have hq0 : (0 : Int) ≤ (q : Int) := by omega
                have hr0 : (0 : Int) ≤ (r : Int) := by omega
                have hr8i : (r : Int) < 8 := by omega
                have E1 : ∀ h : m < s1.size, s1[m]'h = y := by rw [← HS1.out]; exact str_at l1 m y hy
                rw [hq, hr] at hx1
                rw [hq] at hx2
                have hrp := HRP.out
                have hmlt : m < s1.size := by omega
                have hmlt2 : m < s2.size := by omega
                by_cases hki2 : k = ii
                · rw [if_pos hki2] at hrp
                  have hkeq : ((k : Int) == (ii : Int)) = true := beq_iff_eq.2 (by omega)
                  have E2 : ∀ h : m < s2.size, s2[m]'h = y2 := by rw [← HS2.out]; exact str_at l2 m y2 (by rw [hrp]; exact hy2)
                  by_cases hmq : m = q
                  · subst hmq
                    have hx := hx1 rfl
                    clear hx1 hx2 hrp hy hy2 hq hr hki2
                    go_wp2
                    go_quiet (fail)
                    have hbr2 := below_drewN hbr nq
                    generalize wr.drewN nq = wq at hbr2 ⊢
                    clear hbr c1 c2
                    go_wp2
                    go_roundw
                    case rel =>
                      have hR : InRel w6 (.int .i64 ((m : Int) + 1)) wq := ⟨m + 1, by omega, by go_num, hbr2⟩
                      exact hR
                    case measure => simp [natOf]; omega
                  · have hx : bits .xor .u8 (y.toNat : Int) 0 = (y2.toNat : Int) := by rw [hx2 hmq]; exact xor_none y
                    have hne : ((m : Int) == (q : Int)) = false := beq_eq_false_iff_ne.2 (by omega)
                    clear hx1 hx2 hrp hy hy2 hq hr hki2
                    go_wp2
                    go_quiet (fail)
                    have hbr2 := below_drewN hbr nq
                    generalize wr.drewN nq = wq at hbr2 ⊢
                    clear hbr c1 c2
                    go_wp2
                    go_roundw
                    case rel =>
                      have hR : InRel w6 (.int .i64 ((m : Int) + 1)) wq := ⟨m + 1, by omega, by go_num, hbr2⟩
                      exact hR
                    case measure => simp [natOf]; omega
                · rw [if_neg hki2] at hrp
                  have E2 : ∀ h : m < s2.size, s2[m]'h = y := by rw [← HS2.out]; exact str_at l2 m y (by rw [hrp]; exact hy)
                  have hx := xor_none y
                  have hne : ((k : Int) == (ii : Int)) = false := beq_eq_false_iff_ne.2 (by omega)
                  clear hx1 hx2 hrp hy hy2 hq hr
                  go_wp2
                  go_quiet (fail)
                  have hbr2 := below_drewN hbr nq
                  generalize wr.drewN nq = wq at hbr2 ⊢
                  clear hbr c1 c2
                  go_wp2
                  go_roundw
                  case rel =>
                    have hR : InRel w6 (.int .i64 ((m : Int) + 1)) wq := ⟨m + 1, by omega, by go_num, hbr2⟩
                    exact hR
                  case measure => simp [natOf]; omega
              · obtain rfl : m = 128 := by omega
                go_wp2
                go_roundw
                case rel => exact ⟨k + 1, by omega, by go_num, hbr⟩
                case measure => simp [natOf]; omega
          · obtain rfl : k = n := by omega
            have O7 := O6.trans (Only.of_below (L := [gd, gp, gm]) hbr)
            have hp7 := hp6.next hbr
            clear hk hkn hp6 O6 hJ6 hI6
            go_wp2_with fail
            (with_reducible refine (rot_any gd gp gm N cp Y M2 _ _ _ HM2.out hp7).mono ?_)
            rintro e w8 ⟨rfl, hp8, ho8⟩
            rw [HTW.out] at hp8
            rw [HE2.out]
            have O8 := O7.trans (ho8.mono (by simp))
            clear hp7 ho8 O7
            go_wp2_with fail
            (with_reducible refine (sanity_any _).mono ?_)
            rintro e w9 ⟨rfl, hb9⟩
            have hp9 := hp8.next hb9
            have O9 := O8.trans (Only.of_below (L := [gd, gp, gm]) hb9)
            have hr9 := (KE.out _ O9).2.2
            clear hp8 O8 hb9
            go_wp2_with fail
            (with_reducible refine (same_eq gd gp gm N cp gr ga cap Y X M _ HM.out hp9 hr9).mono ?_)
            rintro e wA ⟨rfl, hbA⟩
            have hpA := hp9.next hbA
            have OA := O9.trans (Only.of_below (L := [gd, gp, gm]) hbA)
            clear hp9 O9 hbA hr9
            go_wp2_with fail
            (with_reducible refine (pending_any gd gp gm N cp Y M _ HM.out hpA).mono ?_)
            rintro e wB ⟨v, rfl, rowB, _, hbB⟩
            have rowB' : wB.ownsRow wA.heap.size 3 1 v M.pending.length ((pendZ M).map (Value.int .i64)) := rowB
            obtain ⟨AB, cB, rfl⟩ := own_shape rowB'
            rw [hPL.out]
            have OB := OA.trans (Only.of_below (L := [gd, gp, gm]) hbB)
            have RA := (KE.out _ OB).2.1
            have RB := RowAt.of_own rowB'
            have hPZ : Hid ((pendZ M).length = PL) := by
              have : (pendZ M).length = PL := by rw [pendZ_length]; exact hPL.out
              exact this
            have hPZ2 : Hid ((pendZ M).length ≤ 1000000) := by
              have : (pendZ M).length ≤ 1000000 := by rw [pendZ_length]; have := pending_le M; have := HM.out.2.2.2; omega
              exact this
            rw [← hPZ.out]
            clear hpA OA hbB rowB rowB'
            go_wp2_with fail
            (with_reducible refine (sameInts_eq AB A4 cB c4 (pendZ M) _ hPZ2.out RB RA).mono ?_)
            rintro e wz ⟨rfl, hbz⟩
            have Oz := OB.trans (Only.of_below (L := [gd, gp, gm]) hbz)
            have hbelz := below_only hbel4 Oz HB1.out hsz4
            clear RA RB hbz OB Oz
            go_wp2
            go_ret
            exact ⟨rfl, by rw [hn0.out]; exact hbelz⟩
      · have hff : (M.okP i && decide (0 ≤ b ∧ b < 1024)) = false := by simpa using hfit
        have HE := Lib.hid (rot_bad hff)
        have hcase : i < 0 ∨ (0 ≤ i ∧ (n : Int) ≤ i) ∨ (0 ≤ i ∧ i < (n : Int) ∧ b < 0) ∨ (0 ≤ i ∧ i < (n : Int) ∧ 0 ≤ b ∧ 1023 < b) := by
          unfold DM.okP at hff
          rw [HML.out, Bool.and_eq_false_iff, decide_eq_false_iff_not, decide_eq_false_iff_not] at hff
          omega
        clear hff hfit
        go_wp2_with fail
        (with_reducible refine (rot_any gd gp gm N cp Y M _ _ _ HM.out hp4).mono ?_)
        rintro e w5 ⟨rfl, hp5, ho5⟩
        rw [HE.out.2] at hp5
        rw [HE.out.1]
        have O5 : Only [gd, gp, gm] w4 w5 := ho5.mono (by simp)
        clear hp4 ho5
        go_wp2_with fail
        (with_reducible refine (sanity_any _).mono ?_)
        rintro e w6 ⟨rfl, hb6⟩
        have hp6 := hp5.next hb6
        have O6 := O5.trans (Only.of_below (L := [gd, gp, gm]) hb6)
        have hr6 := (KE.out _ O6).2.2
        clear hp5 O5 hb6
        rcases hcase with hc | ⟨hc1, hc2⟩ | ⟨hc1, hc2, hc3⟩ | ⟨hc1, hc2, hc3, hc4⟩
        · go_wp2_with fail
          (with_reducible refine (same_eq gd gp gm N cp gr ga cap Y X M _ HM.out hp6 hr6).mono ?_)
          rintro e wz ⟨rfl, hbz⟩
          have Oz := O6.trans (Only.of_below (L := [gd, gp, gm]) hbz)
          have hbelz := below_only hbel4 Oz HB1.out hsz4
          clear hp6 hr6 hbz O6 Oz
          go_wp2
          go_ret
          exact ⟨rfl, by rw [hn0.out]; exact hbelz⟩
        · go_wp2_with fail
          (with_reducible refine (same_eq gd gp gm N cp gr ga cap Y X M _ HM.out hp6 hr6).mono ?_)
          rintro e wz ⟨rfl, hbz⟩
          have Oz := O6.trans (Only.of_below (L := [gd, gp, gm]) hbz)
          have hbelz := below_only hbel4 Oz HB1.out hsz4
          clear hp6 hr6 hbz O6 Oz
          go_wp2
          go_ret
          exact ⟨rfl, by rw [hn0.out]; exact hbelz⟩
        · go_wp2_with fail
          (with_reducible refine (same_eq gd gp gm N cp gr ga cap Y X M _ HM.out hp6 hr6).mono ?_)
          rintro e wz ⟨rfl, hbz⟩
          have Oz := O6.trans (Only.of_below (L := [gd, gp, gm]) hbz)
          have hbelz := below_only hbel4 Oz HB1.out hsz4
          clear hp6 hr6 hbz O6 Oz
          go_wp2
          go_ret
          exact ⟨rfl, by rw [hn0.out]; exact hbelz⟩
        · go_wp2_with fail
          (with_reducible refine (same_eq gd gp gm N cp gr ga cap Y X M _ HM.out hp6 hr6).mono ?_)
          rintro e wz ⟨rfl, hbz⟩
          have Oz := O6.trans (Only.of_below (L := [gd, gp, gm]) hbz)
          have hbelz := below_only hbel4 Oz HB1.out hsz4
          clear hp6 hr6 hbz O6 Oz
          go_wp2
          go_ret
          exact ⟨rfl, by rw [hn0.out]; exact hbelz⟩
end Go.Proofs.Ytbmoedgokimhmaa
