/-
  Contracts of the functions that the statement calls, part 12 of 37 (merged texts: Rq6, Rq7, Rq8, Rq9). Conditions: as the head of each part says.
-/
import Derived.Test.YthgmlopkcgkjlaaGK

/-
  Contract of the walk over the reference's Write. Conditions: the record holds the disk; a text of at most 10^6 bytes.
-/
namespace Go.Proofs.Ythgmlopkcgkjlaa
open Go.RowKit

theorem rnow_str (gr ga cap : Nat) (X : List Value) (M : DM) (i : Nat) (R : List UInt8) (sR : ByteArray) (w : World) (hi : i < M.ps.length) (hR : (M.page i).now = R) (hs : (⟨R.toArray⟩ : ByteArray) = sR) (h : RRep w gr ga cap X M) :
    Calls Try.prog 85 #[.pointer (some ⟨gr, 0, none⟩), .int .i64 (i : Int)] w fun e w' => e = .returned (.string sR) ∧ w = w' := by
  rw [← hs]
  exact rnow_any gr ga cap X M i R w hi hR h
theorem put_bytes (R : List UInt8) (s : ByteArray) (b : Nat) (hR : R.length = 128) (hb : b + s.size ≤ 128) : (⟨R.toArray⟩ : ByteArray).extract 0 b ++ s ++ (⟨R.toArray⟩ : ByteArray).extract (b + s.size) 128 = ⟨(DM.put R b s.data.toList).toArray⟩ := by
  apply ByteArray.ext
  apply Array.ext'
  simp [ByteArray.data_extract, ByteArray.data_append, DM.put]
  rw [List.take_of_length_le (by rw [List.length_drop]; omega)]
set_option maxRecDepth 100000 in
set_option maxHeartbeats 3200000 in
theorem rwrite_any (gr ga cap : Nat) (X : List Value) (M : DM) (i a : Int) (s : ByteArray) (w : World) (hM : M.ok) (hs : s.size ≤ 1000000) (ha1 : -9223372036854775808 ≤ a) (ha2 : a ≤ 9223372036854775807) (h : RRep w gr ga cap X M) :
    Calls Try.prog 58 #[.pointer (some ⟨gr, 0, none⟩), .int .i64 i, .int .i64 a, .string s] w fun x w' => x = .returned (.int .i64 (M.writeE i a s.data.toList)) ∧ RRep w' gr ga cap X (M.write i a s.data.toList) ∧ Only [gr, ga] w w' := by
  have c1 := h.d.cell (k := 1) rfl
  obtain ⟨u, hu⟩ : ∃ u, M.up = u := ⟨_, rfl⟩
  obtain ⟨b0, hp⟩ : ∃ b0, M.okP i = b0 := ⟨_, rfl⟩
  have HP := Lib.hid hp
  rw [hu] at c1
  have hsl : s.data.toList.length = s.size := bytes_size s
  have HH := Lib.hid h
  cases u with
  | false =>
    obtain ⟨e1, e2⟩ := write_down (i := i) (a := a) (s := s.data.toList) hu
    rw [e1, e2]
    clear e1 e2 hu hsl hp h
    go_enter Try.func58, Try.ntmps58
    go_wp2_with fail
    (with_reducible refine (ris_any gr ga cap X M _ _ _ HP.out HH.out).mono ?_)
    rintro e w' ⟨rfl, rfl⟩
    go_wp2
    go_ret
    exact ⟨rfl, HH.out, Only.refl _ _⟩
  | true =>
    have HUP := Lib.hid hu
    by_cases hf : (M.okP i && DM.fits a s.data.toList.length) = true
    · have hft : b0 = true ∧ 0 ≤ a ∧ a + (s.size : Int) ≤ 128 := by
        rw [hp, Bool.and_eq_true, hsl] at hf
        exact ⟨hf.1, of_decide_eq_true hf.2⟩
      obtain ⟨rfl, h0, h1⟩ := hft
      obtain ⟨j, rfl, hj⟩ := DM.okP_nat hp
      obtain ⟨b, rfl⟩ : ∃ b : Nat, a = (b : Int) := ⟨a.toNat, by omega⟩
      have hb128 : (b : Int) ≤ 128 := by omega
      obtain ⟨e, he⟩ : ∃ e : Nat, b + s.size = e := ⟨_, rfl⟩
      have hwr : IntKind.i64.wrap ((b : Int) + (s.size : Int)) = (e : Int) := by simp only [IntKind.wrap_i64]; omega
      have hee : (e : Int) ≤ 128 := by omega
      have hsub : (s.size : Int) ≤ 128 - (b : Int) := by omega
      by_cases hst : M.step.up = true
      · obtain ⟨e1, e2⟩ := write_good hu hf hst
        rw [Int.toNat_natCast, Int.toNat_natCast] at e2
        rw [e1, e2]
        have hMs := DM.step_ok hM
        obtain ⟨N, hN⟩ : ∃ N, M.step = N := ⟨_, rfl⟩
        have hjs : j < N.ps.length := by rw [← hN, DM.step_ps]; exact hj
        have hpg : M.page j = N.page j := by rw [← hN, DM.page_step]
        rw [hpg]
        rw [hN] at hMs ⊢
        obtain ⟨R, hR⟩ : ∃ R, (N.page j).now = R := ⟨_, rfl⟩
        have hRl : R.length = 128 := by rw [← hR]; exact Pg.now_length (DM.page_ok hMs hjs)
        obtain ⟨sR, hsR⟩ : ∃ sR : ByteArray, (⟨R.toArray⟩ : ByteArray) = sR := ⟨_, rfl⟩
        have hzR : sR.size = 128 := by rw [← hsR]; exact hRl
        obtain ⟨P, hP⟩ : ∃ P, DM.put R b s.data.toList = P := ⟨_, rfl⟩
        have hpb := put_bytes R s b hRl (by omega)
        rw [hsR, hP, he] at hpb
        have hsp1 : Hid (splice (pgRow N.ps ++ X) (j * 3 + 1) [.string (sR.extract 0 b ++ s ++ sR.extract e 128), .bool true] = pgRow (N.ps.set j ⟨(N.page j).old, some P⟩) ++ X) := by
          have : splice (pgRow N.ps ++ X) (j * 3 + 1) [.string (sR.extract 0 b ++ s ++ sR.extract e 128), .bool true] = pgRow (N.ps.set j ⟨(N.page j).old, some P⟩) ++ X := by
            refine pgRow_splice (DM.page_at hjs) X 1 _ _ ?_ (by simp)
            rw [hpb]; rfl
          exact this
        rw [hR, hP]
        have HR := Lib.hid hR
        have HSR := Lib.hid hsR
        have HJ := Lib.hid hjs
        have HN := Lib.hid hN
        have HM := Lib.hid hM
        have HST := Lib.hid hst
        obtain ⟨n, hn⟩ : ∃ n, Hid (N.ps.length = n) := ⟨_, rfl⟩
        have hjn : (j : Int) < (n : Int) := by have := hn.out; omega
        have hlen : Hid ((pgRow N.ps ++ X).length = n * 3 + X.length) := by
          have : (pgRow N.ps ++ X).length = n * 3 + X.length := by rw [List.length_append, pgRow_length, hn.out]
          exact this
        have hjn2 : j < n := by omega
        have hcat2 : ¬ (9223372036854775807 < min b 128 + s.size + (128 - e)) := by omega
        have hcat1 : ¬ (9223372036854775807 < min b 128 + s.size) := by omega
        clear e1 e2 hu hsl hp h hf hst he hMs hjs hpg hR hRl hsR hP hpb hj hM hN
        go_enter Try.func58, Try.ntmps58
        go_wp2_with fail
        (with_reducible refine (ris_any gr ga cap X M _ _ _ HP.out HH.out).mono ?_)
        rintro e w' ⟨rfl, rfl⟩
        go_wp2_with fail
        (with_reducible refine (rstep_any gr ga cap X M _ HUP.out HM.out HH.out).mono ?_)
        rintro e w1 ⟨rfl, h1, ho1⟩
        rw [HST.out, if_pos rfl]
        rw [HN.out] at h1
        clear c1 HH
        go_wp2_with fail
        (with_reducible refine (rnow_str gr ga cap X N j _ sR _ HJ.out HR.out HSR.out h1).mono ?_)
        rintro e w' ⟨rfl, rfl⟩
        have hdd := below_drew w1
        have hd := h1.next hdd
        have hS := hd.d.cell (k := 0) rfl
        rw [hn.out] at hS
        have ho1' : Only [gr, ga] w w1.drew := (ho1.mono (by simp)).trans (Only.of_below hdd)
        clear h1 ho1
        go_wp2
        refine wp_region_held_drew (S := fun w' => w'.cell? ⟨gr, 0, none⟩ = some (.slice (some ⟨ga, 0, none⟩) n cap)) (by kernel_rfl) hS (fun hHeld => ?_)
        generalize w1.drew = wd at hdd hHeld hS hd ho1' ⊢
        refine wpAnyH_take (i := 0) (v := ?vv0) rfl (by kernel_rfl) (by kernel_rfl) (by kernel_rfl) (fun _ _ _ h => h) (Or.inl ⟨by rfl, ?yv0⟩) (by assumption) ?rv0
        case yv0 => intro w hSw; (try dsimp only at hSw); go_simp <;> (try with_reducible rfl)
        (try simp only [List.getElem_toArray, List.getElem_cons_zero, Act.put, List.setIfInBounds_toArray, List.set_cons_zero, List.set_cons_succ])
        refine wpAnyH_take (i := 1) (v := ?vv1) rfl (by kernel_rfl) (by kernel_rfl) (by kernel_rfl) (fun _ _ _ h => h) (Or.inl ⟨by rfl, ?yv1⟩) (by assumption) ?rv1
        case yv1 => intro w hSw; (try dsimp only at hSw); go_simp <;> (try with_reducible rfl)
        (try simp only [List.getElem_toArray, List.getElem_cons_succ, List.getElem_cons_zero, Act.put, List.setIfInBounds_toArray, List.set_cons_zero, List.set_cons_succ])
        refine wpAnyH_take (i := 2) (v := ?vv2) rfl (by kernel_rfl) (by kernel_rfl) (by kernel_rfl) (fun _ _ _ h => h) (Or.inl ⟨by rfl, ?yv2⟩) (by assumption) ?rv2
        case yv2 => intro w hSw; (try dsimp only at hSw); go_simp <;> (try with_reducible rfl)
        (try simp only [List.getElem_toArray, List.getElem_cons_succ, List.getElem_cons_zero, Act.put, List.setIfInBounds_toArray, List.set_cons_zero, List.set_cons_succ])
        refine wpAnyH_take (i := 3) (v := ?vv3) rfl (by kernel_rfl) (by kernel_rfl) (by kernel_rfl) (fun _ _ _ h => h) (Or.inl ⟨by rfl, ?yv3⟩) (by assumption) ?rv3
        case yv3 => intro w hSw; (try dsimp only at hSw); go_simp <;> (try with_reducible rfl)
        (try simp only [List.getElem_toArray, List.getElem_cons_succ, List.getElem_cons_zero, Act.put, List.setIfInBounds_toArray, List.set_cons_zero, List.set_cons_succ])
        refine wpAnyH_take (i := 4) (v := ?vv4) rfl (by kernel_rfl) (by kernel_rfl) (by kernel_rfl) (fun _ _ _ h => h) (Or.inl ⟨by rfl, ?yv4⟩) (by assumption) ?rv4
        case yv4 => intro w hSw; (try dsimp only at hSw); go_simp <;> (try with_reducible rfl)
        (try simp only [List.getElem_toArray, List.getElem_cons_succ, List.getElem_cons_zero, Act.put, List.setIfInBounds_toArray, List.set_cons_zero, List.set_cons_succ])
        refine wpAnyH_take (i := 5) (v := ?vv5) rfl (by kernel_rfl) (by kernel_rfl) (by kernel_rfl) (fun _ _ _ h => h) (Or.inl ⟨by rfl, ?yv5⟩) (by assumption) ?rv5
        case yv5 => intro w hSw; (try dsimp only at hSw); go_simp <;> (try with_reducible rfl)
        (try simp only [List.getElem_toArray, List.getElem_cons_succ, List.getElem_cons_zero, Act.put, List.setIfInBounds_toArray, List.set_cons_zero, List.set_cons_succ])
        refine wpAnyH_take (i := 6) (v := ?vv6) rfl (by kernel_rfl) (by kernel_rfl) (by kernel_rfl) (fun _ _ _ h => h) (Or.inl ⟨by rfl, ?yv6⟩) (by assumption) ?rv6
        case yv6 => intro w hSw; (try dsimp only at hSw); go_simp <;> (try with_reducible rfl)
        (try simp only [List.getElem_toArray, List.getElem_cons_succ, List.getElem_cons_zero, Act.put, List.setIfInBounds_toArray, List.set_cons_zero, List.set_cons_succ])
        refine wpAnyH_take (i := 7) (v := ?vv7) rfl (by kernel_rfl) (by kernel_rfl) (by kernel_rfl) (fun _ _ _ h => h) (Or.inl ⟨by rfl, ?yv7⟩) (by assumption) ?rv7
        case yv7 => intro w hSw; (try dsimp only at hSw); go_simp <;> (try with_reducible rfl)
        (try simp only [List.getElem_toArray, List.getElem_cons_succ, List.getElem_cons_zero, Act.put, List.setIfInBounds_toArray, List.set_cons_zero, List.set_cons_succ])
        refine wpAnyH_take (i := 8) (v := ?vv8) rfl (by kernel_rfl) (by kernel_rfl) (by kernel_rfl) (fun _ _ _ h => h) (Or.inl ⟨by rfl, ?yv8⟩) (by assumption) ?rv8
        case yv8 => intro w hSw; (try dsimp only at hSw); go_simp <;> (try with_reducible rfl)
        (try simp only [List.getElem_toArray, List.getElem_cons_succ, List.getElem_cons_zero, Act.put, List.setIfInBounds_toArray, List.set_cons_zero, List.set_cons_succ])
        refine wpAnyH_take (i := 9) (v := ?vv9) rfl (by kernel_rfl) (by kernel_rfl) (by kernel_rfl) (fun _ _ _ h => h) (Or.inl ⟨by rfl, ?yv9⟩) (by assumption) ?rv9
        case yv9 => intro w hSw; (try dsimp only at hSw); go_simp <;> (try with_reducible rfl)
        (try simp only [List.getElem_toArray, List.getElem_cons_succ, List.getElem_cons_zero, Act.put, List.setIfInBounds_toArray, List.set_cons_zero, List.set_cons_succ])
        refine wpAnyH_take (i := 10) (v := ?vv10) rfl (by kernel_rfl) (by kernel_rfl) (by kernel_rfl) (fun _ _ _ h => h) (Or.inl ⟨by rfl, ?yv10⟩) (by assumption) ?rv10
        case yv10 => intro w hSw; (try dsimp only at hSw); go_simp <;> (try with_reducible rfl)
        (try simp only [List.getElem_toArray, List.getElem_cons_succ, List.getElem_cons_zero, Act.put, List.setIfInBounds_toArray, List.set_cons_zero, List.set_cons_succ])
        refine wpAnyH_take (i := 11) (v := ?vv11) rfl (by kernel_rfl) (by kernel_rfl) (by kernel_rfl) (fun _ _ _ h => h) (Or.inl ⟨by rfl, ?yv11⟩) (by assumption) ?rv11
        case yv11 => intro w hSw; (try dsimp only at hSw); go_simp <;> (try with_reducible rfl)
        (try simp only [List.getElem_toArray, List.getElem_cons_succ, List.getElem_cons_zero, Act.put, List.setIfInBounds_toArray, List.set_cons_zero, List.set_cons_succ])
        refine wpAnyH_take (i := 12) (v := ?vv12) rfl (by kernel_rfl) (by kernel_rfl) (by kernel_rfl) (fun _ _ _ h => h) (Or.inl ⟨by rfl, ?yv12⟩) (by assumption) ?rv12
        case yv12 => intro w hSw; (try dsimp only at hSw); go_simp <;> (try with_reducible rfl)
        (try simp only [List.getElem_toArray, List.getElem_cons_succ, List.getElem_cons_zero, Act.put, List.setIfInBounds_toArray, List.set_cons_zero, List.set_cons_succ])
        refine wpAnyH_take (i := 13) (v := ?vv13) rfl (by kernel_rfl) (by kernel_rfl) (by kernel_rfl) (fun _ _ _ h => h) (Or.inl ⟨by rfl, ?yv13⟩) (by assumption) ?rv13
        case yv13 => intro w hSw; (try dsimp only at hSw); go_simp <;> (try with_reducible rfl)
        (try simp only [List.getElem_toArray, List.getElem_cons_succ, List.getElem_cons_zero, Act.put, List.setIfInBounds_toArray, List.set_cons_zero, List.set_cons_succ])
        refine wpAnyH_take (i := 14) (v := ?vv14) rfl (by kernel_rfl) (by kernel_rfl) (by kernel_rfl) (fun _ _ _ h => h) (Or.inl ⟨by rfl, ?yv14⟩) (by assumption) ?rv14
        case yv14 => intro w hSw; (try dsimp only at hSw); go_simp <;> (try with_reducible rfl)
        (try simp only [List.getElem_toArray, List.getElem_cons_succ, List.getElem_cons_zero, Act.put, List.setIfInBounds_toArray, List.set_cons_zero, List.set_cons_succ])
        refine wpAnyH_take (i := 15) (v := ?vv15) rfl (by kernel_rfl) (by kernel_rfl) (by kernel_rfl) (fun _ _ _ h => h) (Or.inl ⟨by rfl, ?yv15⟩) (by assumption) ?rv15
        case yv15 => intro w hSw; (try dsimp only at hSw); go_simp <;> (try with_reducible rfl)
        (try simp only [List.getElem_toArray, List.getElem_cons_succ, List.getElem_cons_zero, Act.put, List.setIfInBounds_toArray, List.set_cons_zero, List.set_cons_succ])
        refine wpAnyH_take (i := 16) (v := ?vv16) rfl (by kernel_rfl) (by kernel_rfl) (by kernel_rfl) (fun _ _ _ h => h) (Or.inl ⟨by rfl, ?yv16⟩) (by assumption) ?rv16
        case yv16 => intro w hSw; (try dsimp only at hSw); go_simp <;> (try with_reducible rfl)
        (try simp only [List.getElem_toArray, List.getElem_cons_succ, List.getElem_cons_zero, Act.put, List.setIfInBounds_toArray, List.set_cons_zero, List.set_cons_succ])
        refine wpAnyH_take (i := 17) (v := ?vv17) rfl (by kernel_rfl) (by kernel_rfl) (by kernel_rfl) (fun _ _ _ h => h) (Or.inl ⟨by rfl, ?yv17⟩) (by assumption) ?rv17
        case yv17 => intro w hSw; (try dsimp only at hSw); go_simp <;> (try with_reducible rfl)
        (try simp only [List.getElem_toArray, List.getElem_cons_succ, List.getElem_cons_zero, Act.put, List.setIfInBounds_toArray, List.set_cons_zero, List.set_cons_succ])
        refine wpAnyH_take (i := 18) (v := ?vv18) rfl (by kernel_rfl) (by kernel_rfl) (by kernel_rfl) (fun _ _ _ h => h) (Or.inl ⟨by rfl, ?yv18⟩) (by assumption) ?rv18
        case yv18 => intro w hSw; (try dsimp only at hSw); go_simp <;> (try with_reducible rfl)
        (try simp only [List.getElem_toArray, List.getElem_cons_succ, List.getElem_cons_zero, Act.put, List.setIfInBounds_toArray, List.set_cons_zero, List.set_cons_succ])
        refine wpAnyH_ready (rs := [19]) (by kernel_rfl) (by simp) ?_
        refine AllReadyH.cons rfl (fun K hK => ?_) AllReadyH.nil
        rw [if_pos (by rfl)]
        refine wp_put 9 (.tmp 64) (.tmp 62) rfl ga (j * 3 + 1) rfl (.string (sR.extract 0 b ++ s ++ sR.extract e 128)) rfl hd.p [.string (sR.extract 0 b ++ s ++ sR.extract e 128)] rfl (by exact Try.szS) (by rw [hlen.out]; simp; omega) (one_cell1 rfl) ?_
        intro w7 hu7 hB7
        have hD7 := hd.d.upd hu7 hd.n1
        have hS7 := hD7.cell (k := 0) rfl
        rw [hn.out] at hS7
        have hn1 := hd.n1
        have hl7 : Hid (j * 3 + 2 + 1 ≤ (splice (pgRow N.ps ++ X) (j * 3 + 1) [.string (sR.extract 0 b ++ s ++ sR.extract e 128)]).length) := by
          have : j * 3 + 2 + 1 ≤ (splice (pgRow N.ps ++ X) (j * 3 + 1) [.string (sR.extract 0 b ++ s ++ sR.extract e 128)]).length := by
            rw [splice_len, hlen.out, List.length_singleton]; omega
          exact this
        refine hK.out _ _ hS7 (fun hHeld => ?_)
        clear hK K hHeld hd hS hdd
        refine wpAnyH_done (by kernel_rfl) ?_ _
        go_wp2_with (with_reducible refine wpList_put (o := ⟨none, .store 4 (.tmp 71) (.const (.bool true)), _, _, _, _⟩) (by with_unfolding_all rfl) 4 (.tmp 71) (.const (.bool true)) (by with_unfolding_all rfl) ga (j * 3 + 2) (by with_unfolding_all rfl) (.bool true) (by with_unfolding_all rfl) hB7 [.bool true] (by with_unfolding_all rfl) (by with_unfolding_all exact Try.sz4) (by with_unfolding_all exact hl7.out) (by with_unfolding_all exact one_cell1 rfl) ?_)
        intro w8 hu8 hB8
        rw [splice_splice _ _ _ _ (by rw [hlen.out, List.length_singleton, List.length_singleton]; omega) _ (by rw [List.length_singleton])] at hB8
        have hB8' : Blk w8 ga 53 (pgRow (N.ps.set j ⟨(N.page j).old, some P⟩) ++ X) := hsp1.out ▸ hB8
        have hou := hu7.trans hu8
        have h8 : RRep w8 gr ga cap X (N.set j ⟨(N.page j).old, some P⟩) := ⟨by rw [DM.set_len]; exact hD7.upd hu8 hn1, hB8', hn1⟩
        have ho8 := ho1'.trans (Only.of_upd (L := [gr, ga]) hou (by simp))
        clear hB7 hB8 hB8' hS7 hD7 hu7 hu8 hou ho1'
        go_wp2
        go_ret
        exact ⟨rfl, h8, ho8⟩
      · have hsf : M.step.up = false := by simpa using hst
        obtain ⟨e1, e2⟩ := write_trip hu hf hsf
        rw [e1, e2]
        have HM := Lib.hid hM
        have HSF := Lib.hid hsf
        clear e1 e2 hu hsl hp h hf hst he hsf hM
        go_enter Try.func58, Try.ntmps58
        go_wp2_with fail
        (with_reducible refine (ris_any gr ga cap X M _ _ _ HP.out HH.out).mono ?_)
        rintro e w' ⟨rfl, rfl⟩
        go_wp2_with fail
        (with_reducible refine (rstep_any gr ga cap X M _ HUP.out HM.out HH.out).mono ?_)
        rintro e w1 ⟨rfl, h1, ho1⟩
        rw [HSF.out]
        have ho1' : Only [gr, ga] w w1 := ho1.mono (by simp)
        clear c1 HH ho1
        go_wp2
        go_ret
        exact ⟨rfl, h1, ho1'⟩
    · have hff : (M.okP i && DM.fits a s.data.toList.length) = false := by simpa using hf
      obtain ⟨e1, e2⟩ := write_bad hu hff
      rw [e1, e2]
      have hcase : b0 = false ∨ (b0 = true ∧ a < 0) ∨ (b0 = true ∧ 0 ≤ a ∧ 128 < a) ∨ (b0 = true ∧ 0 ≤ a ∧ a ≤ 128 ∧ 128 - a < (s.size : Int)) := by
        rw [hp, hsl] at hff
        unfold DM.fits at hff
        cases b0 with
        | false => exact Or.inl rfl
        | true =>
          rw [Bool.true_and] at hff
          have := of_decide_eq_false hff
          by_cases h0 : a < 0
          · exact Or.inr (Or.inl ⟨rfl, h0⟩)
          · by_cases h1 : 128 < a
            · exact Or.inr (Or.inr (Or.inl ⟨rfl, by omega, h1⟩))
            · exact Or.inr (Or.inr (Or.inr ⟨rfl, by omega, by omega, by omega⟩))
      clear e1 e2 hu hsl hp h hf hff hM
      rcases hcase with rfl | ⟨rfl, h0⟩ | ⟨rfl, h0, h1⟩ | ⟨rfl, h0, h1, h2⟩
      · go_enter Try.func58, Try.ntmps58
        go_wp2_with fail
        (with_reducible refine (ris_any gr ga cap X M _ _ _ HP.out HH.out).mono ?_)
        rintro e w' ⟨rfl, rfl⟩
        go_wp2
        go_ret
        exact ⟨rfl, HH.out, Only.refl _ _⟩
      · go_enter Try.func58, Try.ntmps58
        go_wp2_with fail
        (with_reducible refine (ris_any gr ga cap X M _ _ _ HP.out HH.out).mono ?_)
        rintro e w' ⟨rfl, rfl⟩
        go_wp2
        go_ret
        exact ⟨rfl, HH.out, Only.refl _ _⟩
      · go_enter Try.func58, Try.ntmps58
        go_wp2_with fail
        (with_reducible refine (ris_any gr ga cap X M _ _ _ HP.out HH.out).mono ?_)
        rintro e w' ⟨rfl, rfl⟩
        go_wp2
        go_ret
        exact ⟨rfl, HH.out, Only.refl _ _⟩
      · go_enter Try.func58, Try.ntmps58
        go_wp2_with fail
        (with_reducible refine (ris_any gr ga cap X M _ _ _ HP.out HH.out).mono ?_)
        rintro e w' ⟨rfl, rfl⟩
        go_wp2
        go_ret
        exact ⟨rfl, HH.out, Only.refl _ _⟩
end Go.Proofs.Ythgmlopkcgkjlaa

/-
  Contract of the walk over the reference's zeros. Conditions: at most 10^6 of them.
-/
namespace Go.Proofs.Ythgmlopkcgkjlaa
open Go.RowKit

theorem Try.infoB : (Try.prog.info? 5).map (fun i => (i.zero, i.size, i.bytes)) = some (some (.int .u8 0), 1, 1) := by kernel_rfl
theorem zeroB (n : Nat) : List.replicate n (Value.int .u8 0) = (List.replicate n (0 : UInt8)).map B8 := by rw [List.map_replicate]; rfl
set_option maxRecDepth 100000 in
theorem rzeros_any (n : Nat) (w : World) (hn : n ≤ 1000000) :
    Calls Try.prog 56 #[.int .i64 (n : Int)] w fun e w' => e = .returned (S8 (List.replicate n 0)) ∧ Below w.heap.size w w' := by
  obtain ⟨i0, hi, hz0, hz1, hz2⟩ := info_parts Try.infoB
  go_enter Try.func56, Try.ntmps56
  go_wp2_with (at_make; refine wpList_make_full _ rfl _ _ 110 rfl w.heap.size 5 i0 _ 1 Try.underlying110 hi hz0 hz1 _ _ _ _ n rfl rfl rfl rfl ?b2 ?b3 ?b4 ?_)
  case b2 => rw [hz2]; omega
  case b3 => unfold maxLen; omega
  case b4 => omega
  intro w1 hown1 hg1
  have hbel1 := (Below.refl w.heap.size w).grown hg1 (Nat.le_refl _) (fun k hk => by cases hk)
  have hB1 : Blk w1 w.heap.size 5 ((List.replicate n (0 : UInt8)).map B8) := by
    have hown2 := hown1
    rw [show (madeCells #[Value.int .u8 0] n).toList = List.replicate n (Value.int .u8 0) from made_rep 1 n _ (by decide), zeroB] at hown2
    exact own_blk hown2
  have hcv := run_conv_at w1 (some ⟨w.heap.size, 0, none⟩) n n (List.replicate n (0 : UInt8)) (by rw [List.length_replicate]) (fun q u hu => ⟨_, rfl, by rw [addr_mid, Nat.zero_add]; exact hB1.cell hu⟩)
  clear hown1 hg1 hB1
  go_wp2
  go_ret
  exact ⟨rfl, hbel1⟩
end Go.Proofs.Ythgmlopkcgkjlaa

/-
  Contract of the walk over the reference's Clone. Conditions: the record holds the disk; it has a page.
-/
namespace Go.Proofs.Ythgmlopkcgkjlaa
open Go.RowKit

theorem Try.infoRP : (Try.prog.info? 53).map (fun i => (i.zero, i.size, i.bytes)) = some (some (.agg #[.string ⟨#[]⟩, .string ⟨#[]⟩, .bool false]), 3, 40) := by kernel_rfl
theorem pg3_one (p : Pg) : ∀ u ∈ pg3 p, u.oneCell' = true := one_cell3 rfl rfl rfl
theorem pgRow_one (ps : List Pg) : ∀ u ∈ pgRow ps, u.oneCell' = true := by
  intro u hu
  obtain ⟨p, _, hp⟩ := List.mem_flatMap.1 hu
  exact pg3_one p u hp
theorem own_tail {w : World} {base size n : Nat} {E : TypeId} {v : Value} {xs : List Value} (h : w.ownsRow base E size v n xs) (hn : 0 < n) : ∃ g cap Y, v = .slice (some ⟨g, 0, none⟩) n cap ∧ base ≤ g ∧ Blk w g E (xs ++ Y) := by
  rcases h.2 with ⟨_, h0⟩ | ⟨g, cap, cur, rfl, hb, hgg, _, _, _, ht⟩
  · omega
  · refine ⟨g, cap, cur.toList.drop (n * size), rfl, hb, ?_⟩
    unfold Blk
    rw [hgg, ← ht, List.take_append_drop]
/-- A disk that is like M lies behind the address, in new blocks. -/
def NewR (w : World) (M : DM) (v : Value) (w' : World) : Prop := ∃ g g2 cap2 Y, v = .pointer (some ⟨g, 0, none⟩) ∧ RRep w' g g2 cap2 Y M ∧ Below w.heap.size w w' ∧ w.heap.size ≤ g ∧ w.heap.size ≤ g2
set_option maxRecDepth 100000 in
set_option maxHeartbeats 1600000 in
theorem rclone_any (gr ga cap : Nat) (X : List Value) (M : DM) (w : World) (hM : M.ok) (h0 : 0 < M.ps.length) (h : RRep w gr ga cap X M) :
    Calls Try.prog 34 #[.pointer (some ⟨gr, 0, none⟩)] w fun e w' => ∃ v, e = .returned v ∧ NewR w M v w' := by
  obtain ⟨i0, hi, hz0, hz1, hz2⟩ := info_parts Try.infoRP
  have hn4 : M.ps.length ≤ 4096 := hM.2.2.2
  obtain ⟨n, hn⟩ : ∃ n, Hid (M.ps.length = n) := ⟨_, rfl⟩
  obtain ⟨u, hu⟩ : ∃ u, Hid ((!M.up) = u) := ⟨_, rfl⟩
  obtain ⟨t, ht⟩ : ∃ t, Hid (M.trip = t) := ⟨_, rfl⟩
  have hdd := below_drew w
  have hd := h.next hdd
  have hD := hd.d
  have hP := hd.p
  rw [hn.out, hu.out, ht.out] at hD
  rw [hn.out] at h0 hn4
  have hS0 := hD.cell (k := 0) rfl
  have hS1 := hD.cell (k := 1) rfl
  have hS2 := hD.cell (k := 2) rfl
  have hgs := h.d.lt
  have hlen : (pgRow M.ps).length = n * 3 := by rw [pgRow_length, hn.out]
  have HL := Lib.hid hlen
  have hone := pgRow_one M.ps
  obtain ⟨L, hL⟩ : ∃ L, Hid (pgRow M.ps = L) := ⟨_, rfl⟩
  rw [hL.out] at hP HL hone
  have hcells : ∀ j u, L[j]? = some u → w.drew.cell? ((⟨ga, 0, none⟩ : Addr).add j) = some u := fun j u hu => by
    rw [addr_mid, Nat.zero_add]
    exact hP.cell (by rw [List.getElem?_append_left (List.getElem?_eq_some_iff.1 hu).1]; exact hu)
  clear h hd hD hP hlen hM
  go_enter Try.func34, Try.ntmps34
  go_wp2
  refine wp_region_held_drew (S := fun w' => w'.cell? ⟨gr, 0, none⟩ = some (.slice (some ⟨ga, 0, none⟩) n cap) ∧ w'.cell? ⟨gr, 1, none⟩ = some (.bool u) ∧ w'.cell? ⟨gr, 2, none⟩ = some (.int .i64 t)) (by kernel_rfl) ⟨hS0, hS1, hS2⟩ (fun hHeld => ?_)
  generalize w.drew = wd at hdd hHeld hS0 hS1 hS2 hcells ⊢
  refine wpAnyH_take (i := 0) (v := ?vv0) rfl (by kernel_rfl) (by kernel_rfl) (by kernel_rfl) (fun _ _ _ h => h) (Or.inl ⟨by rfl, ?yv0⟩) (by assumption) ?rv0
  case yv0 => intro w hSw; (try dsimp only at hSw); go_simp <;> (try with_reducible rfl)
  (try simp only [List.getElem_toArray, List.getElem_cons_zero, Act.put, List.setIfInBounds_toArray, List.set_cons_zero, List.set_cons_succ])
  refine wpAnyH_take (i := 1) (v := ?vv1) rfl (by kernel_rfl) (by kernel_rfl) (by kernel_rfl) (fun _ _ _ h => h) (Or.inl ⟨by rfl, ?yv1⟩) (by assumption) ?rv1
  case yv1 => intro w hSw; (try dsimp only at hSw); go_simp <;> (try with_reducible rfl)
  (try simp only [List.getElem_toArray, List.getElem_cons_succ, List.getElem_cons_zero, Act.put, List.setIfInBounds_toArray, List.set_cons_zero, List.set_cons_succ])
  refine wpAnyH_take (i := 2) (v := ?vv2) rfl (by kernel_rfl) (by kernel_rfl) (by kernel_rfl) (fun _ _ _ h => h) (Or.inl ⟨by rfl, ?yv2⟩) (by assumption) ?rv2
  case yv2 => intro w hSw; (try dsimp only at hSw); go_simp <;> (try with_reducible rfl)
  (try simp only [List.getElem_toArray, List.getElem_cons_succ, List.getElem_cons_zero, Act.put, List.setIfInBounds_toArray, List.set_cons_zero, List.set_cons_succ])
  refine wpAnyH_take (i := 3) (v := ?vv3) rfl (by kernel_rfl) (by kernel_rfl) (by kernel_rfl) (fun _ _ _ h => h) (Or.inl ⟨by rfl, ?yv3⟩) (by assumption) ?rv3
  case yv3 => intro w hSw; (try dsimp only at hSw); go_simp <;> (try with_reducible rfl)
  (try simp only [List.getElem_toArray, List.getElem_cons_succ, List.getElem_cons_zero, Act.put, List.setIfInBounds_toArray, List.set_cons_zero, List.set_cons_succ])
  refine wpAnyH_take (i := 4) (v := ?vv4) rfl (by kernel_rfl) (by kernel_rfl) (by kernel_rfl) (fun _ _ _ h => h) (Or.inl ⟨by rfl, ?yv4⟩) (by assumption) ?rv4
  case yv4 => intro w hSw; (try dsimp only at hSw); go_simp <;> (try with_reducible rfl)
  (try simp only [List.getElem_toArray, List.getElem_cons_succ, List.getElem_cons_zero, Act.put, List.setIfInBounds_toArray, List.set_cons_zero, List.set_cons_succ])
  refine wpAnyH_take (i := 6) (v := ?vv6) rfl (by kernel_rfl) (by kernel_rfl) (by kernel_rfl) (fun _ _ _ h => h) (Or.inl ⟨by rfl, ?yv6⟩) (by assumption) ?rv6
  case yv6 => intro w hSw; (try dsimp only at hSw); go_simp <;> (try with_reducible rfl)
  (try simp only [List.getElem_toArray, List.getElem_cons_succ, List.getElem_cons_zero, Act.put, List.setIfInBounds_toArray, List.set_cons_zero, List.set_cons_succ])
  refine wpAnyH_take (i := 7) (v := ?vv7) rfl (by kernel_rfl) (by kernel_rfl) (by kernel_rfl) (fun _ _ _ h => h) (Or.inl ⟨by rfl, ?yv7⟩) (by assumption) ?rv7
  case yv7 => intro w hSw; (try dsimp only at hSw); go_simp <;> (try with_reducible rfl)
  (try simp only [List.getElem_toArray, List.getElem_cons_succ, List.getElem_cons_zero, Act.put, List.setIfInBounds_toArray, List.set_cons_zero, List.set_cons_succ])
  refine wpAnyH_take (i := 8) (v := ?vv8) rfl (by kernel_rfl) (by kernel_rfl) (by kernel_rfl) (fun _ _ _ h => h) (Or.inl ⟨by rfl, ?yv8⟩) (by assumption) ?rv8
  case yv8 => intro w hSw; (try dsimp only at hSw); go_simp <;> (try with_reducible rfl)
  (try simp only [List.getElem_toArray, List.getElem_cons_succ, List.getElem_cons_zero, Act.put, List.setIfInBounds_toArray, List.set_cons_zero, List.set_cons_succ])
  refine wpAnyH_take (i := 9) (v := ?vv9) rfl (by kernel_rfl) (by kernel_rfl) (by kernel_rfl) (fun _ _ _ h => h) (Or.inl ⟨by rfl, ?yv9⟩) (by assumption) ?rv9
  case yv9 => intro w hSw; (try dsimp only at hSw); go_simp <;> (try with_reducible rfl)
  (try simp only [List.getElem_toArray, List.getElem_cons_succ, List.getElem_cons_zero, Act.put, List.setIfInBounds_toArray, List.set_cons_zero, List.set_cons_succ])
  refine wpAnyH_take (i := 10) (v := ?vv10) rfl (by kernel_rfl) (by kernel_rfl) (by kernel_rfl) (fun _ _ _ h => h) (Or.inl ⟨by rfl, ?yv10⟩) (by assumption) ?rv10
  case yv10 => intro w hSw; (try dsimp only at hSw); go_simp <;> (try with_reducible rfl)
  (try simp only [List.getElem_toArray, List.getElem_cons_succ, List.getElem_cons_zero, Act.put, List.setIfInBounds_toArray, List.set_cons_zero, List.set_cons_succ])
  refine wpAnyH_take (i := 11) (v := ?vv11) rfl (by kernel_rfl) (by kernel_rfl) (by kernel_rfl) (fun _ _ _ h => h) (Or.inl ⟨by rfl, ?yv11⟩) (by assumption) ?rv11
  case yv11 => intro w hSw; (try dsimp only at hSw); go_simp <;> (try with_reducible rfl)
  (try simp only [List.getElem_toArray, List.getElem_cons_succ, List.getElem_cons_zero, Act.put, List.setIfInBounds_toArray, List.set_cons_zero, List.set_cons_succ])
  refine wpAnyH_take (i := 12) (v := ?vv12) rfl (by kernel_rfl) (by kernel_rfl) (by kernel_rfl) (fun _ _ _ h => h) (Or.inl ⟨by rfl, ?yv12⟩) (by assumption) ?rv12
  case yv12 => intro w hSw; (try dsimp only at hSw); go_simp <;> (try with_reducible rfl)
  (try simp only [List.getElem_toArray, List.getElem_cons_succ, List.getElem_cons_zero, Act.put, List.setIfInBounds_toArray, List.set_cons_zero, List.set_cons_succ])
  refine wpAnyH_take (i := 13) (v := ?vv13) rfl (by kernel_rfl) (by kernel_rfl) (by kernel_rfl) (fun _ _ _ h => h) (Or.inl ⟨by rfl, ?yv13⟩) (by assumption) ?rv13
  case yv13 => intro w hSw; (try dsimp only at hSw); go_simp <;> (try with_reducible rfl)
  (try simp only [List.getElem_toArray, List.getElem_cons_succ, List.getElem_cons_zero, Act.put, List.setIfInBounds_toArray, List.set_cons_zero, List.set_cons_succ])
  refine wpAnyH_ready (rs := [5]) (by kernel_rfl) (by simp) ?_
  refine AllReadyH.cons rfl (fun K hK => ?_) AllReadyH.nil
  rw [if_pos (by rfl)]
  refine wp_append_own (P := Try.prog) _ (.tmp 4) (.tmp 8) 54 rfl wd.heap.size 53 i0 _ 3 40 Try.underlying54 hi hz0 hz1 hz2 rfl (by decide) (.slice none 0 0) 0 [] rfl (World.ownsRow_nil _ _ _ _) ⟨ga, 0, none⟩ n cap L rfl (by rw [HL.out]) hcells hone (by unfold maxLen; omega) (by omega) (Nat.le_refl _) ?_
  intro v1 w1 hown1 hg1 _
  rw [Nat.zero_add, List.nil_append] at hown1
  have hb1 : Below wd.heap.size wd w1 := (Below.refl _ _).grown hg1 (Nat.le_refl _) (fun k hk => by cases hk)
  obtain ⟨g2, cap2, Y, rfl, hle2, hB1⟩ := own_tail hown1 h0
  have hgd : gr < wd.heap.size := Nat.lt_of_lt_of_le hgs hdd.size
  have hT0 := (hb1.cell (p := ⟨gr, 0, none⟩) hgd).trans hS0
  have hT1 := (hb1.cell (p := ⟨gr, 1, none⟩) hgd).trans hS1
  have hT2 := (hb1.cell (p := ⟨gr, 2, none⟩) hgd).trans hS2
  refine hK.out _ _ ⟨hT0, hT1, hT2⟩ (fun hHeld => ?_)
  clear hK K hS0 hS1 hS2 hown1 hg1
  refine wpAnyH_take (i := 14) (v := ?vv14) rfl (by kernel_rfl) (by kernel_rfl) (by kernel_rfl) (fun _ _ _ h => h) (Or.inl ⟨by rfl, ?yv14⟩) (by assumption) ?rv14
  case yv14 => intro w hSw; (try dsimp only at hSw); go_simp <;> (try with_reducible rfl)
  (try simp only [List.getElem_toArray, List.getElem_cons_succ, List.getElem_cons_zero, Act.put, List.setIfInBounds_toArray, List.set_cons_zero, List.set_cons_succ])
  refine wpAnyH_ready (rs := [15]) (by kernel_rfl) (by simp) ?_
  refine AllReadyH.cons rfl (fun K hK => ?_) AllReadyH.nil
  go_simp
  obtain ⟨cs, hcs⟩ : ∃ cs : Obj, Hid (Obj.cells #[.slice (some ⟨g2, 0, none⟩) n cap2, .bool u, .int .i64 t] 56 = cs) := ⟨_, rfl⟩
  have hb2 : Below w1.heap.size w1 (w1.alloc cs) := (Below.refl _ _).alloc (Nat.le_refl _) _
  have hgd1 : gr < w1.heap.size := Nat.lt_of_lt_of_le hgd hb1.size
  have hD2 : Blk (w1.alloc cs) w1.heap.size 56 [.slice (some ⟨g2, 0, none⟩) n cap2, .bool u, .int .i64 t] := by
    unfold Blk
    rw [heap_alloc_new, ← hcs.out]
  have hB2 := hB1.next hb2 hB1.lt
  have hne : w1.heap.size ≠ g2 := fun e => by have := hB1.lt; omega
  have hR : RRep (w1.alloc cs) w1.heap.size g2 cap2 Y M := ⟨by rw [hn.out, hu.out, ht.out]; exact hD2, by rw [hL.out]; exact hB2, hne⟩
  have hbA : Below w.heap.size w (w1.alloc cs) := below_join hdd (below_join hb1 hb2)
  have hl1 : w.heap.size ≤ w1.heap.size := Nat.le_trans hdd.size hb1.size
  have hl2 : w.heap.size ≤ g2 := Nat.le_trans hdd.size hle2
  rw [hcs.out]
  refine hK.out _ _ ⟨(hb2.cell (p := ⟨gr, 0, none⟩) hgd1).trans hT0, (hb2.cell (p := ⟨gr, 1, none⟩) hgd1).trans hT1, (hb2.cell (p := ⟨gr, 2, none⟩) hgd1).trans hT2⟩ (fun hHeld => ?_)
  clear hK K hT0 hT1 hT2 hD2 hB1 hB2 hb1 hb2
  refine wpAnyH_ready (rs := [16]) (by kernel_rfl) (by simp) ?_
  refine AllReadyH.cons rfl (fun K hK => ?_) AllReadyH.nil
  go_simp
  refine hK.out _ _ hHeld (fun _ => ?_)
  clear hK K
  refine wpAnyH_done (by kernel_rfl) ?_ _
  go_wp2
  go_ret
  exact ⟨_, rfl, _, _, _, _, rfl, hR, hbA, hl1, hl2⟩
end Go.Proofs.Ythgmlopkcgkjlaa

/-
  Contract of the walk over the reference's New. Conditions: none.
-/
namespace Go.Proofs.Ythgmlopkcgkjlaa
open Go.RowKit

theorem rnew_bad (p : Int) (w : World) (h : p < 1 ∨ 4096 < p) :
    Calls Try.prog 17 #[.int .i64 p] w fun e w' => e = .returned (.tuple #[.pointer none, .int .i64 1]) ∧ w = w' := by
  by_cases h0 : p < 1
  · clear h
    go_enter Try.func17, Try.ntmps17
    go_wp2
    go_ret2
    exact ⟨rfl, rfl⟩
  · have h1 : 4096 < p := by omega
    clear h
    go_enter Try.func17, Try.ntmps17
    go_wp2
    go_ret2
    exact ⟨rfl, rfl⟩
theorem rzeros_128 (zz : ByteArray) (w : World) (hz : (⟨Z128.toArray⟩ : ByteArray) = zz) :
    Calls Try.prog 56 #[.int .i64 128] w fun e w' => e = .returned (.string zz) ∧ Below w.heap.size w w' := by
  rw [← hz]
  exact rzeros_any 128 w (by omega)
theorem grown_blk {w w' : World} {row : Option Nat} {g : Nat} {t : TypeId} {l : List Value} (hg : w.grownBy w' row) (h : Blk w g t l) (hne : some g ≠ row) : Blk w' g t l := by
  have hl := h.lt
  unfold Blk at h ⊢
  rw [hg.block g hl hne]; exact h
theorem alloc_cells {w : World} {t : TypeId} {l : List Value} {q : Nat} {u : Value} (hu : l[q]? = some u) : (w.alloc (.cells l.toArray t)).cell? ((⟨w.heap.size, 0, none⟩ : Addr).add q) = some u := by
  rw [addr_mid, Nat.zero_add, cell_of_row _ _ q l.toArray t (0, 0) (heap_alloc_new w _)]
  simpa using hu
theorem rep_succ (j : Nat) (p : Pg) : pgRow (List.replicate j p) ++ pg3 p = pgRow (List.replicate (j + 1) p) := by
  rw [List.replicate_succ']
  unfold pgRow
  rw [List.flatMap_append]
  simp
theorem Try.szRS : (Try.prog.info? 54).map (·.size) = some 1 := by kernel_rfl
def NwRel (gr : Nat) (n : Nat) (w : World) (i : Value) (wr : World) : Prop :=
  ∃ j : Nat, j ≤ n ∧ i = .int .i64 j ∧ ∃ v, Blk wr gr 56 [v, .bool false, .int .i64 (-1)] ∧ wr.ownsRow (gr + 1) 53 3 v j (pgRow (List.replicate j ⟨Z128, none⟩)) ∧ Below w.heap.size w wr
set_option maxRecDepth 100000 in
set_option maxHeartbeats 1600000 in
theorem rnew_any (n : Nat) (w : World) (h1 : 1 ≤ n) (h2 : n ≤ 4096) :
    Calls Try.prog 17 #[.int .i64 (n : Int)] w fun e w' => ∃ v, e = .returned (.tuple #[v, .int .i64 0]) ∧ NewR w (DM.make n) v w' := by
  obtain ⟨i0, hi, hz0, hz1, hz2⟩ := info_parts Try.infoRP
  go_enter Try.func17, Try.ntmps17
  go_wp2_with (with_reducible refine wpList_box (o := ⟨some 13, .box 56 (.tmp 12), _, _, _, _⟩) ?g2 56 (.tmp 12) ?o2 (.agg #[.slice none 0 0, .bool false, .int .i64 (-1)]) [.slice none 0 0, .bool false, .int .i64 (-1)] ?x2 ?c2 ?_)
  try (case g2 => rfl)
  try (case o2 => rfl)
  try (case x2 => rfl)
  try (case c2 => rfl)
  intro gr w1 hgr hs1 hb1 hB1
  have hgrl : w.heap.size ≤ gr := Nat.le_of_eq hgr.out.symm
  have hbel1 : Below w.heap.size w w1 := hb1.mono hgrl
  obtain ⟨zz, hzz⟩ : ∃ zz : ByteArray, Hid ((⟨Z128.toArray⟩ : ByteArray) = zz) := ⟨_, rfl⟩
  clear hb1 hs1
  go_wp2
  go_loopw [5] (NwRel gr n w) (fun i _ => n - natOf i)
  case atStart => exact ⟨0, Nat.zero_le _, rfl, _, hB1, World.ownsRow_nil _ _ _ _, hbel1⟩
  case round =>
    clear hB1 hbel1
    obtain ⟨j, hj, rfl, v, hB, hown, hbel⟩ := hrel
    obtain ⟨A, c, rfl⟩ := own_shape hown
    by_cases hjn : j < n
    · have hji : (j : Int) < (n : Int) := by omega
      have hrep : Hid (pgRow (List.replicate j ⟨Z128, none⟩) ++ [.string zz, .string ⟨#[]⟩, .bool false] = pgRow (List.replicate (j + 1) ⟨Z128, none⟩)) := by
        have : pgRow (List.replicate j ⟨Z128, none⟩) ++ [.string zz, .string ⟨#[]⟩, .bool false] = pgRow (List.replicate (j + 1) ⟨Z128, none⟩) := by
          rw [← rep_succ, ← hzz.out]; rfl
        exact this
      have hdd := below_drew wr
      have hBd := hB.next hdd hB.lt
      have hownd := own_only hown (Only.of_below (L := []) hdd) (by simp)
      have hbeld := below_join hbel hdd
      have c0 := hBd.cell (k := 0) rfl
      clear hB hown hbel
      obtain ⟨PR, hPR⟩ : ∃ PR, Hid (pgRow (List.replicate j ⟨Z128, none⟩) = PR) := ⟨_, rfl⟩
      rw [hPR.out] at hownd hrep
      go_wp2
      refine wp_region_held_drew (S := fun _ => True) (by kernel_rfl) trivial (fun hHeld => ?_)
      generalize wr.drew = wd at hdd hBd hownd hbeld c0 ⊢
      refine wpAnyH_take (i := 0) (v := ?vv0) rfl (by kernel_rfl) (by kernel_rfl) (by kernel_rfl) (fun _ _ _ h => h) (Or.inl ⟨by rfl, ?yv0⟩) (by assumption) ?rv0
      case yv0 => intro w hSw; (try dsimp only at hSw); go_simp <;> (try with_reducible rfl)
      (try simp only [List.getElem_toArray, List.getElem_cons_zero, Act.put, List.setIfInBounds_toArray, List.set_cons_zero, List.set_cons_succ])
      refine wpAnyH_take (i := 1) (v := ?vv1) rfl (by kernel_rfl) (by kernel_rfl) (by kernel_rfl) (fun _ _ _ h => h) (Or.inl ⟨by rfl, ?yv1⟩) (by assumption) ?rv1
      case yv1 => intro w hSw; (try dsimp only at hSw); go_simp <;> (try with_reducible rfl)
      (try simp only [List.getElem_toArray, List.getElem_cons_succ, List.getElem_cons_zero, Act.put, List.setIfInBounds_toArray, List.set_cons_zero, List.set_cons_succ])
      refine wpAnyH_take (i := 2) (v := ?vv2) rfl (by kernel_rfl) (by kernel_rfl) (by kernel_rfl) (fun _ _ _ h => h) (Or.inl ⟨by rfl, ?yv2⟩) (by assumption) ?rv2
      case yv2 => intro w hSw; (try dsimp only at hSw); go_simp <;> (try with_reducible rfl)
      (try simp only [List.getElem_toArray, List.getElem_cons_succ, List.getElem_cons_zero, Act.put, List.setIfInBounds_toArray, List.set_cons_zero, List.set_cons_succ])
      refine wpAnyH_take (i := 3) (v := ?vv3) rfl (by kernel_rfl) (by kernel_rfl) (by kernel_rfl) (fun _ _ _ h => h) (Or.inl ⟨by rfl, ?yv3⟩) (by assumption) ?rv3
      case yv3 => intro w hSw; (try dsimp only at hSw); go_simp <;> (try with_reducible rfl)
      (try simp only [List.getElem_toArray, List.getElem_cons_succ, List.getElem_cons_zero, Act.put, List.setIfInBounds_toArray, List.set_cons_zero, List.set_cons_succ])
      refine wpAnyH_ready (rs := [4, 5]) (by kernel_rfl) (by simp) ?_
      refine AllReadyH.cons rfl (fun K hK => ?_) (AllReadyH.cons rfl (fun K hK => ?_) AllReadyH.nil)
      · go_simp
        refine hK.out _ _ trivial (fun hHeld => ?_)
        clear hK K
        refine wpAnyH_ready (rs := [5]) (by kernel_rfl) (by simp) ?_
        refine AllReadyH.cons rfl (fun K hK => ?_) AllReadyH.nil
        go_simp
        go_wp2_with fail
        (with_reducible refine (rzeros_128 zz _ hzz.out).mono ?_)
        rintro e wA ⟨rfl, hbA⟩
        refine hK.out _ _ trivial (fun hHeld => ?_)
        clear hK K
        refine wpAnyH_take (i := 6) (v := ?vv6) rfl (by kernel_rfl) (by kernel_rfl) (by kernel_rfl) (fun _ _ _ h => h) (Or.inl ⟨by rfl, ?yv6⟩) (by assumption) ?rv6
        case yv6 => intro w hSw; (try dsimp only at hSw); go_simp <;> (try with_reducible rfl)
        (try simp only [List.getElem_toArray, List.getElem_cons_succ, List.getElem_cons_zero, Act.put, List.setIfInBounds_toArray, List.set_cons_zero, List.set_cons_succ])
        refine wpAnyH_ready (rs := [7]) (by kernel_rfl) (by simp) ?_
        refine AllReadyH.cons rfl (fun K hK => ?_) AllReadyH.nil
        go_simp
        have hbZ : Below wd.heap.size wd (wA.alloc (.cells #[.string zz, .string ⟨#[]⟩, .bool false] 53)) := below_join hbA (below_new wA _)
        have hcellZ : ∀ q u, [Value.string zz, .string ⟨#[]⟩, .bool false][q]? = some u → (wA.alloc (.cells #[.string zz, .string ⟨#[]⟩, .bool false] 53)).cell? ((⟨wA.heap.size, 0, none⟩ : Addr).add q) = some u := fun q u hu => alloc_cells hu
        refine hK.out _ _ trivial (fun hHeld => ?_)
        clear hK K hbA c0
        generalize wA.heap.size = g7 at hcellZ ⊢
        generalize wA.alloc _ = wZ at hbZ hcellZ ⊢
        have hBZ := hBd.next hbZ hBd.lt
        have hownZ := own_only hownd (Only.of_below (L := []) hbZ) (by simp)
        have hbelZ := below_join hbeld hbZ
        have hszZ := hbelZ.size
        have hltZ := hownZ.lt
        have hbaseZ : gr + 1 ≤ wZ.heap.size := hBZ.lt
        refine wpAnyH_ready (rs := [8]) (by kernel_rfl) (by simp) ?_
        refine AllReadyH.cons rfl (fun K hK => ?_) AllReadyH.nil
        rw [if_pos (by rfl)]
        refine wp_append_own (P := Try.prog) _ (.tmp 23) (.tmp 26) 54 rfl (gr + 1) 53 i0 _ 3 40 Try.underlying54 hi hz0 hz1 hz2 rfl (by decide) (.slice A j c) j _ rfl hownZ ⟨g7, 0, none⟩ 1 1 [.string zz, .string ⟨#[]⟩, .bool false] rfl (by rfl) hcellZ (one_cell3 rfl rfl rfl) (by unfold maxLen; omega) (by omega) hbaseZ ?_
        intro v8 w8 hown8 hg8 _
        have hB8 := grown_blk hg8 hBZ (fun e => by have := (hltZ gr e.symm).1; omega)
        have hbel8 := hbelZ.grown hg8 hszZ (fun k hk => by have := (hltZ k hk).1; omega)
        rw [hrep.out] at hown8
        refine hK.out _ _ trivial (fun hHeld => ?_)
        clear hK K hHeld hownZ hcellZ hg8 hBZ hbelZ hltZ hbZ hBd hownd hbeld
        obtain ⟨A8, c8, rfl⟩ := own_shape hown8
        refine wpAnyH_take (i := 9) (v := ?vv9) rfl (by kernel_rfl) (by kernel_rfl) (by kernel_rfl) (fun _ _ _ h => h) (Or.inl ⟨by rfl, ?yv9⟩) (by assumption) ?rv9
        case yv9 => intro w hSw; (try dsimp only at hSw); go_simp <;> (try with_reducible rfl)
        (try simp only [List.getElem_toArray, List.getElem_cons_succ, List.getElem_cons_zero, Act.put, List.setIfInBounds_toArray, List.set_cons_zero, List.set_cons_succ])
        refine wpAnyH_take (i := 10) (v := ?vv10) rfl (by kernel_rfl) (by kernel_rfl) (by kernel_rfl) (fun _ _ _ h => h) (Or.inl ⟨by rfl, ?yv10⟩) (by assumption) ?rv10
        case yv10 => intro w hSw; (try dsimp only at hSw); go_simp <;> (try with_reducible rfl)
        (try simp only [List.getElem_toArray, List.getElem_cons_succ, List.getElem_cons_zero, Act.put, List.setIfInBounds_toArray, List.set_cons_zero, List.set_cons_succ])
        refine wpAnyH_ready (rs := [11]) (by kernel_rfl) (by simp) ?_
        refine AllReadyH.cons rfl (fun K hK => ?_) AllReadyH.nil
        rw [if_pos (by rfl)]
        refine wp_put 54 (.tmp 29) (.tmp 27) rfl gr 0 rfl (.slice A8 (j + 1) c8) rfl hB8 [.slice A8 (j + 1) c8] rfl (by exact Try.szRS) (by simp) (one_cell1 rfl) ?_
        intro w9 hu9 hB9
        have hB9' : Blk w9 gr 56 [.slice A8 (j + 1) c8, .bool false, .int .i64 (-1)] := hB9
        have hown9 := own_only hown8 (Only.of_upd (L := [gr]) hu9 (by simp)) (by simp)
        have hbel9 := hbel8.trans (hu9.below (B := w.heap.size) hgrl)
        clear hB8 hown8 hbel8 hB9 hu9
        refine hK.out _ _ trivial (fun hHeld => ?_)
        clear hK K hHeld
        refine wpAnyH_done (by kernel_rfl) ?_ _
        go_wp2
        go_roundw
        case rel => exact ⟨j + 1, by omega, by go_num, _, hB9', hown9, hbel9⟩
        case measure => simp [natOf]; omega
      · go_simp
        go_wp2_with fail
        (with_reducible refine (rzeros_128 zz _ hzz.out).mono ?_)
        rintro e wA ⟨rfl, hbA⟩
        refine hK.out _ _ trivial (fun hHeld => ?_)
        clear hK K
        have c0A := (hBd.next hbA hBd.lt).cell (k := 0) rfl
        refine wpAnyH_take (i := 6) (v := ?vu6) rfl (by kernel_rfl) (by kernel_rfl) (by kernel_rfl) (fun _ _ _ h => h) (Or.inl ⟨by rfl, ?yu6⟩) (by assumption) ?ru6
        case yu6 => intro w hSw; (try dsimp only at hSw); go_simp <;> (try with_reducible rfl)
        (try simp only [List.getElem_toArray, List.getElem_cons_succ, List.getElem_cons_zero, Act.put, List.setIfInBounds_toArray, List.set_cons_zero, List.set_cons_succ])
        refine wpAnyH_ready (rs := [4, 7]) (by kernel_rfl) (by simp) ?_
        refine AllReadyH.cons rfl (fun K hK => ?_) (AllReadyH.cons rfl (fun K hK => ?_) AllReadyH.nil)
        · go_simp
          refine hK.out _ _ trivial (fun hHeld => ?_)
          clear hK K
          refine wpAnyH_ready (rs := [7]) (by kernel_rfl) (by simp) ?_
          refine AllReadyH.cons rfl (fun K hK => ?_) AllReadyH.nil
          go_simp
          have hbZ : Below wd.heap.size wd (wA.alloc (.cells #[.string zz, .string ⟨#[]⟩, .bool false] 53)) := below_join hbA (below_new wA _)
          have hcellZ : ∀ q u, [Value.string zz, .string ⟨#[]⟩, .bool false][q]? = some u → (wA.alloc (.cells #[.string zz, .string ⟨#[]⟩, .bool false] 53)).cell? ((⟨wA.heap.size, 0, none⟩ : Addr).add q) = some u := fun q u hu => alloc_cells hu
          refine hK.out _ _ trivial (fun hHeld => ?_)
          clear hK K hbA c0 c0A
          generalize wA.heap.size = g7 at hcellZ ⊢
          generalize wA.alloc _ = wZ at hbZ hcellZ ⊢
          have hBZ := hBd.next hbZ hBd.lt
          have hownZ := own_only hownd (Only.of_below (L := []) hbZ) (by simp)
          have hbelZ := below_join hbeld hbZ
          have hszZ := hbelZ.size
          have hltZ := hownZ.lt
          have hbaseZ : gr + 1 ≤ wZ.heap.size := hBZ.lt
          refine wpAnyH_ready (rs := [8]) (by kernel_rfl) (by simp) ?_
          refine AllReadyH.cons rfl (fun K hK => ?_) AllReadyH.nil
          rw [if_pos (by rfl)]
          refine wp_append_own (P := Try.prog) _ (.tmp 23) (.tmp 26) 54 rfl (gr + 1) 53 i0 _ 3 40 Try.underlying54 hi hz0 hz1 hz2 rfl (by decide) (.slice A j c) j _ rfl hownZ ⟨g7, 0, none⟩ 1 1 [.string zz, .string ⟨#[]⟩, .bool false] rfl (by rfl) hcellZ (one_cell3 rfl rfl rfl) (by unfold maxLen; omega) (by omega) hbaseZ ?_
          intro v8 w8 hown8 hg8 _
          have hB8 := grown_blk hg8 hBZ (fun e => by have := (hltZ gr e.symm).1; omega)
          have hbel8 := hbelZ.grown hg8 hszZ (fun k hk => by have := (hltZ k hk).1; omega)
          rw [hrep.out] at hown8
          refine hK.out _ _ trivial (fun hHeld => ?_)
          clear hK K hHeld hownZ hcellZ hg8 hBZ hbelZ hltZ hbZ hBd hownd hbeld
          obtain ⟨A8, c8, rfl⟩ := own_shape hown8
          refine wpAnyH_take (i := 9) (v := ?vu9) rfl (by kernel_rfl) (by kernel_rfl) (by kernel_rfl) (fun _ _ _ h => h) (Or.inl ⟨by rfl, ?yu9⟩) (by assumption) ?ru9
          case yu9 => intro w hSw; (try dsimp only at hSw); go_simp <;> (try with_reducible rfl)
          (try simp only [List.getElem_toArray, List.getElem_cons_succ, List.getElem_cons_zero, Act.put, List.setIfInBounds_toArray, List.set_cons_zero, List.set_cons_succ])
          refine wpAnyH_take (i := 10) (v := ?vu10) rfl (by kernel_rfl) (by kernel_rfl) (by kernel_rfl) (fun _ _ _ h => h) (Or.inl ⟨by rfl, ?yu10⟩) (by assumption) ?ru10
          case yu10 => intro w hSw; (try dsimp only at hSw); go_simp <;> (try with_reducible rfl)
          (try simp only [List.getElem_toArray, List.getElem_cons_succ, List.getElem_cons_zero, Act.put, List.setIfInBounds_toArray, List.set_cons_zero, List.set_cons_succ])
          refine wpAnyH_ready (rs := [11]) (by kernel_rfl) (by simp) ?_
          refine AllReadyH.cons rfl (fun K hK => ?_) AllReadyH.nil
          rw [if_pos (by rfl)]
          refine wp_put 54 (.tmp 29) (.tmp 27) rfl gr 0 rfl (.slice A8 (j + 1) c8) rfl hB8 [.slice A8 (j + 1) c8] rfl (by exact Try.szRS) (by simp) (one_cell1 rfl) ?_
          intro w9 hu9 hB9
          have hB9' : Blk w9 gr 56 [.slice A8 (j + 1) c8, .bool false, .int .i64 (-1)] := hB9
          have hown9 := own_only hown8 (Only.of_upd (L := [gr]) hu9 (by simp)) (by simp)
          have hbel9 := hbel8.trans (hu9.below (B := w.heap.size) hgrl)
          clear hB8 hown8 hbel8 hB9 hu9
          refine hK.out _ _ trivial (fun hHeld => ?_)
          clear hK K hHeld
          refine wpAnyH_done (by kernel_rfl) ?_ _
          go_wp2
          go_roundw
          case rel => exact ⟨j + 1, by omega, by go_num, _, hB9', hown9, hbel9⟩
          case measure => simp [natOf]; omega
        · go_simp
          have hbZ : Below wd.heap.size wd (wA.alloc (.cells #[.string zz, .string ⟨#[]⟩, .bool false] 53)) := below_join hbA (below_new wA _)
          have hcellZ : ∀ q u, [Value.string zz, .string ⟨#[]⟩, .bool false][q]? = some u → (wA.alloc (.cells #[.string zz, .string ⟨#[]⟩, .bool false] 53)).cell? ((⟨wA.heap.size, 0, none⟩ : Addr).add q) = some u := fun q u hu => alloc_cells hu
          refine hK.out _ _ trivial (fun hHeld => ?_)
          clear hK K hbA c0 c0A
          generalize wA.heap.size = g7 at hcellZ ⊢
          generalize wA.alloc _ = wZ at hbZ hcellZ ⊢
          have c0Z := (hBd.next hbZ hBd.lt).cell (k := 0) rfl
          refine wpAnyH_ready (rs := [4]) (by kernel_rfl) (by simp) ?_
          refine AllReadyH.cons rfl (fun K hK => ?_) AllReadyH.nil
          go_simp
          refine hK.out _ _ trivial (fun hHeld => ?_)
          clear hK K c0Z
          have hBZ := hBd.next hbZ hBd.lt
          have hownZ := own_only hownd (Only.of_below (L := []) hbZ) (by simp)
          have hbelZ := below_join hbeld hbZ
          have hszZ := hbelZ.size
          have hltZ := hownZ.lt
          have hbaseZ : gr + 1 ≤ wZ.heap.size := hBZ.lt
          refine wpAnyH_ready (rs := [8]) (by kernel_rfl) (by simp) ?_
          refine AllReadyH.cons rfl (fun K hK => ?_) AllReadyH.nil
          rw [if_pos (by rfl)]
          refine wp_append_own (P := Try.prog) _ (.tmp 23) (.tmp 26) 54 rfl (gr + 1) 53 i0 _ 3 40 Try.underlying54 hi hz0 hz1 hz2 rfl (by decide) (.slice A j c) j _ rfl hownZ ⟨g7, 0, none⟩ 1 1 [.string zz, .string ⟨#[]⟩, .bool false] rfl (by rfl) hcellZ (one_cell3 rfl rfl rfl) (by unfold maxLen; omega) (by omega) hbaseZ ?_
          intro v8 w8 hown8 hg8 _
          have hB8 := grown_blk hg8 hBZ (fun e => by have := (hltZ gr e.symm).1; omega)
          have hbel8 := hbelZ.grown hg8 hszZ (fun k hk => by have := (hltZ k hk).1; omega)
          rw [hrep.out] at hown8
          refine hK.out _ _ trivial (fun hHeld => ?_)
          clear hK K hHeld hownZ hcellZ hg8 hBZ hbelZ hltZ hbZ hBd hownd hbeld
          obtain ⟨A8, c8, rfl⟩ := own_shape hown8
          refine wpAnyH_take (i := 9) (v := ?vt9) rfl (by kernel_rfl) (by kernel_rfl) (by kernel_rfl) (fun _ _ _ h => h) (Or.inl ⟨by rfl, ?yt9⟩) (by assumption) ?rt9
          case yt9 => intro w hSw; (try dsimp only at hSw); go_simp <;> (try with_reducible rfl)
          (try simp only [List.getElem_toArray, List.getElem_cons_succ, List.getElem_cons_zero, Act.put, List.setIfInBounds_toArray, List.set_cons_zero, List.set_cons_succ])
          refine wpAnyH_take (i := 10) (v := ?vt10) rfl (by kernel_rfl) (by kernel_rfl) (by kernel_rfl) (fun _ _ _ h => h) (Or.inl ⟨by rfl, ?yt10⟩) (by assumption) ?rt10
          case yt10 => intro w hSw; (try dsimp only at hSw); go_simp <;> (try with_reducible rfl)
          (try simp only [List.getElem_toArray, List.getElem_cons_succ, List.getElem_cons_zero, Act.put, List.setIfInBounds_toArray, List.set_cons_zero, List.set_cons_succ])
          refine wpAnyH_ready (rs := [11]) (by kernel_rfl) (by simp) ?_
          refine AllReadyH.cons rfl (fun K hK => ?_) AllReadyH.nil
          rw [if_pos (by rfl)]
          refine wp_put 54 (.tmp 29) (.tmp 27) rfl gr 0 rfl (.slice A8 (j + 1) c8) rfl hB8 [.slice A8 (j + 1) c8] rfl (by exact Try.szRS) (by simp) (one_cell1 rfl) ?_
          intro w9 hu9 hB9
          have hB9' : Blk w9 gr 56 [.slice A8 (j + 1) c8, .bool false, .int .i64 (-1)] := hB9
          have hown9 := own_only hown8 (Only.of_upd (L := [gr]) hu9 (by simp)) (by simp)
          have hbel9 := hbel8.trans (hu9.below (B := w.heap.size) hgrl)
          clear hB8 hown8 hbel8 hB9 hu9
          refine hK.out _ _ trivial (fun hHeld => ?_)
          clear hK K hHeld
          refine wpAnyH_done (by kernel_rfl) ?_ _
          go_wp2
          go_roundw
          case rel => exact ⟨j + 1, by omega, by go_num, _, hB9', hown9, hbel9⟩
          case measure => simp [natOf]; omega
    · obtain rfl : j = n := by omega
      obtain ⟨g2, cap2, Y, hv2, hle2, hB2⟩ := own_tail hown h1
      injection hv2 with e1 e2 e3
      subst e1 e3
      clear hjn hj
      have hR : RRep wr gr g2 c Y (DM.make j) := ⟨by rw [show (DM.make j).ps.length = j from List.length_replicate]; exact hB, hB2, by omega⟩
      clear hB hB2 hown
      go_wp2
      go_ret2
      exact ⟨_, rfl, _, _, _, _, rfl, hR, hbel, hgrl, by omega⟩
end Go.Proofs.Ythgmlopkcgkjlaa
