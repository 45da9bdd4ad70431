/-
  Contract of the walk over the reference's Write. Conditions: the record holds the disk; a text of at most 10^6 bytes.
-/
import Derived.Test.YtbmoedgokimhmaaRq5
namespace Go.Proofs.Ytbmoedgokimhmaa
open Go.RowKit

theorem rnow_str (gr ga cap : Nat) (X : List Value) (M : DM) (i : Nat) (R : List UInt8) (sR : ByteArray) (w : World) (hi : i < M.ps.length) (hR : (M.page i).now = R) (hs : (⟨R.toArray⟩ : ByteArray) = sR) (h : RRep w gr ga cap X M) :
    Calls Try.prog 85 #[.pointer (some ⟨gr, 0, none⟩), .int .i64 (i : Int)] w fun e w' => e = .returned (.string sR) ∧ w = w' := by
  rw [← hs]
  exact rnow_any gr ga cap X M i R w hi hR h
theorem put_bytes (R : List UInt8) (s : ByteArray) (b : Nat) (hR : R.length = 128) (hb : b + s.size ≤ 128) : (⟨R.toArray⟩ : ByteArray).extract 0 b ++ s ++ (⟨R.toArray⟩ : ByteArray).extract (b + s.size) 128 = ⟨(DM.put R b s.data.toList).toArray⟩ := by
  apply ByteArray.ext
  apply Array.ext'
  simp [ByteArray.data_extract, ByteArray.data_append, DM.put]
  rw [List.take_of_length_le (by rw [List.length_drop]; omega)]
set_option maxRecDepth 100000 in
set_option maxHeartbeats 3200000 in
theorem rwrite_any (gr ga cap : Nat) (X : List Value) (M : DM) (i a : Int) (s : ByteArray) (w : World) (hM : M.ok) (hs : s.size ≤ 1000000) (ha1 : -9223372036854775808 ≤ a) (ha2 : a ≤ 9223372036854775807) (h : RRep w gr ga cap X M) :
    Calls Try.prog 58 #[.pointer (some ⟨gr, 0, none⟩), .int .i64 i, .int .i64 a, .string s] w fun x w' => x = .returned (.int .i64 (M.writeE i a s.data.toList)) ∧ RRep w' gr ga cap X (M.write i a s.data.toList) ∧ Only [gr, ga] w w' := by
  have c1 := h.d.cell (k := 1) rfl
  obtain ⟨u, hu⟩ : ∃ u, M.up = u := ⟨_, rfl⟩
  obtain ⟨b0, hp⟩ : ∃ b0, M.okP i = b0 := ⟨_, rfl⟩
  have HP := Lib.hid hp
  rw [hu] at c1
  have hsl : s.data.toList.length = s.size := bytes_size s
  have HH := Lib.hid h
  cases u with
  | false =>
    obtain ⟨e1, e2⟩ := write_down (i := i) (a := a) (s := s.data.toList) hu
    rw [e1, e2]
    clear e1 e2 hu hsl hp h
    go_enter Try.func58, Try.ntmps58
    go_wp2_with fail
    (with_reducible refine (ris_any gr ga cap X M _ _ _ HP.out HH.out).mono ?_)
    rintro e w' ⟨rfl, rfl⟩
    go_wp2
    go_ret
    exact ⟨rfl, HH.out, Only.refl _ _⟩
  | true =>
    have HUP := Lib.hid hu
    by_cases hf : (M.okP i && DM.fits a s.data.toList.length) = true
    · have hft : b0 = true ∧ 0 ≤ a ∧ a + (s.size : Int) ≤ 128 := by
        rw [hp, Bool.and_eq_true, hsl] at hf
        exact ⟨hf.1, of_decide_eq_true hf.2⟩
      obtain ⟨rfl, h0, h1⟩ := hft
      obtain ⟨j, rfl, hj⟩ := DM.okP_nat hp
      obtain ⟨b, rfl⟩ : ∃ b : Nat, a = (b : Int) := ⟨a.toNat, by omega⟩
      have hb128 : (b : Int) ≤ 128 := by omega
      obtain ⟨e, he⟩ : ∃ e : Nat, b + s.size = e := ⟨_, rfl⟩
      have hwr : IntKind.i64.wrap ((b : Int) + (s.size : Int)) = (e : Int) := by simp only [IntKind.wrap_i64]; omega
      have hee : (e : Int) ≤ 128 := by omega
      have hsub : (s.size : Int) ≤ 128 - (b : Int) := by omega
      by_cases hst : M.step.up = true
      · obtain ⟨e1, e2⟩ := write_good hu hf hst
        rw [Int.toNat_natCast, Int.toNat_natCast] at e2
        rw [e1, e2]
        have hMs := DM.step_ok hM
        obtain ⟨N, hN⟩ : ∃ N, M.step = N := ⟨_, rfl⟩
        have hjs : j < N.ps.length := by rw [← hN, DM.step_ps]; exact hj
        have hpg : M.page j = N.page j := by rw [← hN, DM.page_step]
        rw [hpg]
        rw [hN] at hMs ⊢
        obtain ⟨R, hR⟩ : ∃ R, (N.page j).now = R := ⟨_, rfl⟩
        have hRl : R.length = 128 := by rw [← hR]; exact Pg.now_length (DM.page_ok hMs hjs)
        obtain ⟨sR, hsR⟩ : ∃ sR : ByteArray, (⟨R.toArray⟩ : ByteArray) = sR := ⟨_, rfl⟩
        have hzR : sR.size = 128 := by rw [← hsR]; exact hRl
        obtain ⟨P, hP⟩ : ∃ P, DM.put R b s.data.toList = P := ⟨_, rfl⟩
        have hpb := put_bytes R s b hRl (by omega)
        rw [hsR, hP, he] at hpb
        have hsp1 : Hid (splice (pgRow N.ps ++ X) (j * 3 + 1) [.string (sR.extract 0 b ++ s ++ sR.extract e 128), .bool true] = pgRow (N.ps.set j ⟨(N.page j).old, some P⟩) ++ X) := by
          have : splice (pgRow N.ps ++ X) (j * 3 + 1) [.string (sR.extract 0 b ++ s ++ sR.extract e 128), .bool true] = pgRow (N.ps.set j ⟨(N.page j).old, some P⟩) ++ X := by
            refine pgRow_splice (DM.page_at hjs) X 1 _ _ ?_ (by simp)
            rw [hpb]; rfl
          exact this
        rw [hR, hP]
        have HR := Lib.hid hR
        have HSR := Lib.hid hsR
        have HJ := Lib.hid hjs
        have HN := Lib.hid hN
        have HM := Lib.hid hM
        have HST := Lib.hid hst
        obtain ⟨n, hn⟩ : ∃ n, Hid (N.ps.length = n) := ⟨_, rfl⟩
        have hjn : (j : Int) < (n : Int) := by have := hn.out; omega
        have hlen : Hid ((pgRow N.ps ++ X).length = n * 3 + X.length) := by
          have : (pgRow N.ps ++ X).length = n * 3 + X.length := by rw [List.length_append, pgRow_length, hn.out]
          exact this
        have hjn2 : j < n := by omega
        have hcat2 : ¬ (9223372036854775807 < min b 128 + s.size + (128 - e)) := by omega
        have hcat1 : ¬ (9223372036854775807 < min b 128 + s.size) := by omega
        clear e1 e2 hu hsl hp h hf hst he hMs hjs hpg hR hRl hsR hP hpb hj hM hN
        go_enter Try.func58, Try.ntmps58
        go_wp2_with fail
        (with_reducible refine (ris_any gr ga cap X M _ _ _ HP.out HH.out).mono ?_)
        rintro e w' ⟨rfl, rfl⟩
        go_wp2_with fail
        (with_reducible refine (rstep_any gr ga cap X M _ HUP.out HM.out HH.out).mono ?_)
        rintro e w1 ⟨rfl, h1, ho1⟩
        rw [HST.out, if_pos rfl]
        rw [HN.out] at h1
        clear c1 HH
        go_wp2_with fail
        (with_reducible refine (rnow_str gr ga cap X N j _ sR _ HJ.out HR.out HSR.out h1).mono ?_)
        rintro e w' ⟨rfl, rfl⟩
        have hdd := below_drew w1
        have hd := h1.next hdd
        have hS := hd.d.cell (k := 0) rfl
        rw [hn.out] at hS
        have ho1' : Only [gr, ga] w w1.drew := (ho1.mono (by simp)).trans (Only.of_below hdd)
        clear h1 ho1
        go_wp2
        refine wp_region_held_drew (S := fun w' => w'.cell? ⟨gr, 0, none⟩ = some (.slice (some ⟨ga, 0, none⟩) n cap)) (by kernel_rfl) hS (fun hHeld => ?_)
        generalize w1.drew = wd at hdd hHeld hS hd ho1' ⊢
        refine wpAnyH_take (i := 0) (v := ?vv0) rfl (by kernel_rfl) (by kernel_rfl) (by kernel_rfl) (fun _ _ _ h => h) (Or.inl ⟨by rfl, ?yv0⟩) (by assumption) ?rv0
        case yv0 => intro w hSw; (try dsimp only at hSw); go_simp <;> (try with_reducible rfl)
        (try simp only [List.getElem_toArray, List.getElem_cons_zero, Act.put, List.setIfInBounds_toArray, List.set_cons_zero, List.set_cons_succ])
        refine wpAnyH_take (i := 1) (v := ?vv1) rfl (by kernel_rfl) (by kernel_rfl) (by kernel_rfl) (fun _ _ _ h => h) (Or.inl ⟨by rfl, ?yv1⟩) (by assumption) ?rv1
        case yv1 => intro w hSw; (try dsimp only at hSw); go_simp <;> (try with_reducible rfl)
        (try simp only [List.getElem_toArray, List.getElem_cons_succ, List.getElem_cons_zero, Act.put, List.setIfInBounds_toArray, List.set_cons_zero, List.set_cons_succ])
        refine wpAnyH_take (i := 2) (v := ?vv2) rfl (by kernel_rfl) (by kernel_rfl) (by kernel_rfl) (fun _ _ _ h => h) (Or.inl ⟨by rfl, ?yv2⟩) (by assumption) ?rv2
        case yv2 => intro w hSw; (try dsimp only at hSw); go_simp <;> (try with_reducible rfl)
        (try simp only [List.getElem_toArray, List.getElem_cons_succ, List.getElem_cons_zero, Act.put, List.setIfInBounds_toArray, List.set_cons_zero, List.set_cons_succ])
        refine wpAnyH_take (i := 3) (v := ?vv3) rfl (by kernel_rfl) (by kernel_rfl) (by kernel_rfl) (fun _ _ _ h => h) (Or.inl ⟨by rfl, ?yv3⟩) (by assumption) ?rv3
        case yv3 => intro w hSw; (try dsimp only at hSw); go_simp <;> (try with_reducible rfl)
        (try simp only [List.getElem_toArray, List.getElem_cons_succ, List.getElem_cons_zero, Act.put, List.setIfInBounds_toArray, List.set_cons_zero, List.set_cons_succ])
        refine wpAnyH_take (i := 4) (v := ?vv4) rfl (by kernel_rfl) (by kernel_rfl) (by kernel_rfl) (fun _ _ _ h => h) (Or.inl ⟨by rfl, ?yv4⟩) (by assumption) ?rv4
        case yv4 => intro w hSw; (try dsimp only at hSw); go_simp <;> (try with_reducible rfl)
        (try simp only [List.getElem_toArray, List.getElem_cons_succ, List.getElem_cons_zero, Act.put, List.setIfInBounds_toArray, List.set_cons_zero, List.set_cons_succ])
        refine wpAnyH_take (i := 5) (v := ?vv5) rfl (by kernel_rfl) (by kernel_rfl) (by kernel_rfl) (fun _ _ _ h => h) (Or.inl ⟨by rfl, ?yv5⟩) (by assumption) ?rv5
        case yv5 => intro w hSw; (try dsimp only at hSw); go_simp <;> (try with_reducible rfl)
        (try simp only [List.getElem_toArray, List.getElem_cons_succ, List.getElem_cons_zero, Act.put, List.setIfInBounds_toArray, List.set_cons_zero, List.set_cons_succ])
        refine wpAnyH_take (i := 6) (v := ?vv6) rfl (by kernel_rfl) (by kernel_rfl) (by kernel_rfl) (fun _ _ _ h => h) (Or.inl ⟨by rfl, ?yv6⟩) (by assumption) ?rv6
        case yv6 => intro w hSw; (try dsimp only at hSw); go_simp <;> (try with_reducible rfl)
        (try simp only [List.getElem_toArray, List.getElem_cons_succ, List.getElem_cons_zero, Act.put, List.setIfInBounds_toArray, List.set_cons_zero, List.set_cons_succ])
        refine wpAnyH_take (i := 7) (v := ?vv7) rfl (by kernel_rfl) (by kernel_rfl) (by kernel_rfl) (fun _ _ _ h => h) (Or.inl ⟨by rfl, ?yv7⟩) (by assumption) ?rv7
        case yv7 => intro w hSw; (try dsimp only at hSw); go_simp <;> (try with_reducible rfl)
        (try simp only [List.getElem_toArray, List.getElem_cons_succ, List.getElem_cons_zero, Act.put, List.setIfInBounds_toArray, List.set_cons_zero, List.set_cons_succ])
        refine wpAnyH_take (i := 8) (v := ?vv8) rfl (by kernel_rfl) (by kernel_rfl) (by kernel_rfl) (fun _ _ _ h => h) (Or.inl ⟨by rfl, ?yv8⟩) (by assumption) ?rv8
        case yv8 => intro w hSw; (try dsimp only at hSw); go_simp <;> (try with_reducible rfl)
        (try simp only [List.getElem_toArray, List.getElem_cons_succ, List.getElem_cons_zero, Act.put, List.setIfInBounds_toArray, List.set_cons_zero, List.set_cons_succ])
        refine wpAnyH_take (i := 9) (v := ?vv9) rfl (by kernel_rfl) (by kernel_rfl) (by kernel_rfl) (fun _ _ _ h => h) (Or.inl ⟨by rfl, ?yv9⟩) (by assumption) ?rv9
        case yv9 => intro w hSw; (try dsimp only at hSw); go_simp <;> (try with_reducible rfl)
        (try simp only [List.getElem_toArray, List.getElem_cons_succ, List.getElem_cons_zero, Act.put, List.setIfInBounds_toArray, List.set_cons_zero, List.set_cons_succ])
        refine wpAnyH_take (i := 10) (v := ?vv10) rfl (by kernel_rfl) (by kernel_rfl) (by kernel_rfl) (fun _ _ _ h => h) (Or.inl ⟨by rfl, ?yv10⟩) (by assumption) ?rv10
        case yv10 => intro w hSw; (try dsimp only at hSw); go_simp <;> (try with_reducible rfl)
        (try simp only [List.getElem_toArray, List.getElem_cons_succ, List.getElem_cons_zero, Act.put, List.setIfInBounds_toArray, List.set_cons_zero, List.set_cons_succ])
        refine wpAnyH_take (i := 11) (v := ?vv11) rfl (by kernel_rfl) (by kernel_rfl) (by kernel_rfl) (fun _ _ _ h => h) (Or.inl ⟨by rfl, ?yv11⟩) (by assumption) ?rv11
        case yv11 => intro w hSw; (try dsimp only at hSw); go_simp <;> (try with_reducible rfl)
        (try simp only [List.getElem_toArray, List.getElem_cons_succ, List.getElem_cons_zero, Act.put, List.setIfInBounds_toArray, List.set_cons_zero, List.set_cons_succ])
        refine wpAnyH_take (i := 12) (v := ?vv12) rfl (by kernel_rfl) (by kernel_rfl) (by kernel_rfl) (fun _ _ _ h => h) (Or.inl ⟨by rfl, ?yv12⟩) (by assumption) ?rv12
        case yv12 => intro w hSw; (try dsimp only at hSw); go_simp <;> (try with_reducible rfl)
        (try simp only [List.getElem_toArray, List.getElem_cons_succ, List.getElem_cons_zero, Act.put, List.setIfInBounds_toArray, List.set_cons_zero, List.set_cons_succ])
        refine wpAnyH_take (i := 13) (v := ?vv13) rfl (by kernel_rfl) (by kernel_rfl) (by kernel_rfl) (fun _ _ _ h => h) (Or.inl ⟨by rfl, ?yv13⟩) (by assumption) ?rv13
        case yv13 => intro w hSw; (try dsimp only at hSw); go_simp <;> (try with_reducible rfl)
        (try simp only [List.getElem_toArray, List.getElem_cons_succ, List.getElem_cons_zero, Act.put, List.setIfInBounds_toArray, List.set_cons_zero, List.set_cons_succ])
        refine wpAnyH_take (i := 14) (v := ?vv14) rfl (by kernel_rfl) (by kernel_rfl) (by kernel_rfl) (fun _ _ _ h => h) (Or.inl ⟨by rfl, ?yv14⟩) (by assumption) ?rv14
        case yv14 => intro w hSw; (try dsimp only at hSw); go_simp <;> (try with_reducible rfl)
        (try simp only [List.getElem_toArray, List.getElem_cons_succ, List.getElem_cons_zero, Act.put, List.setIfInBounds_toArray, List.set_cons_zero, List.set_cons_succ])
        refine wpAnyH_take (i := 15) (v := ?vv15) rfl (by kernel_rfl) (by kernel_rfl) (by kernel_rfl) (fun _ _ _ h => h) (Or.inl ⟨by rfl, ?yv15⟩) (by assumption) ?rv15
        case yv15 => intro w hSw; (try dsimp only at hSw); go_simp <;> (try with_reducible rfl)
        (try simp only [List.getElem_toArray, List.getElem_cons_succ, List.getElem_cons_zero, Act.put, List.setIfInBounds_toArray, List.set_cons_zero, List.set_cons_succ])
        refine wpAnyH_take (i := 16) (v := ?vv16) rfl (by kernel_rfl) (by kernel_rfl) (by kernel_rfl) (fun _ _ _ h => h) (Or.inl ⟨by rfl, ?yv16⟩) (by assumption) ?rv16
        case yv16 => intro w hSw; (try dsimp only at hSw); go_simp <;> (try with_reducible rfl)
        (try simp only [List.getElem_toArray, List.getElem_cons_succ, List.getElem_cons_zero, Act.put, List.setIfInBounds_toArray, List.set_cons_zero, List.set_cons_succ])
        refine wpAnyH_take (i := 17) (v := ?vv17) rfl (by kernel_rfl) (by kernel_rfl) (by kernel_rfl) (fun _ _ _ h => h) (Or.inl ⟨by rfl, ?yv17⟩) (by assumption) ?rv17
        case yv17 => intro w hSw; (try dsimp only at hSw); go_simp <;> (try with_reducible rfl)
        (try simp only [List.getElem_toArray, List.getElem_cons_succ, List.getElem_cons_zero, Act.put, List.setIfInBounds_toArray, List.set_cons_zero, List.set_cons_succ])
        refine wpAnyH_take (i := 18) (v := ?vv18) rfl (by kernel_rfl) (by kernel_rfl) (by kernel_rfl) (fun _ _ _ h => h) (Or.inl ⟨by rfl, ?yv18⟩) (by assumption) ?rv18
        case yv18 => intro w hSw; (try dsimp only at hSw); go_simp <;> (try with_reducible rfl)
        (try simp only [List.getElem_toArray, List.getElem_cons_succ, List.getElem_cons_zero, Act.put, List.setIfInBounds_toArray, List.set_cons_zero, List.set_cons_succ])
        refine wpAnyH_ready (rs := [19]) (by kernel_rfl) (by simp) ?_
        refine AllReadyH.cons rfl (fun K hK => ?_) AllReadyH.nil
        rw [if_pos (by rfl)]
        refine wp_put 9 (.tmp 64) (.tmp 62) rfl ga (j * 3 + 1) rfl (.string (sR.extract 0 b ++ s ++ sR.extract e 128)) rfl hd.p [.string (sR.extract 0 b ++ s ++ sR.extract e 128)] rfl (by exact Try.szS) (by rw [hlen.out]; simp; omega) (one_cell1 rfl) ?_
        intro w7 hu7 hB7
        have hD7 := hd.d.upd hu7 hd.n1
        have hS7 := hD7.cell (k := 0) rfl
        rw [hn.out] at hS7
        have hn1 := hd.n1
        have hl7 : Hid (j * 3 + 2 + 1 ≤ (splice (pgRow N.ps ++ X) (j * 3 + 1) [.string (sR.extract 0 b ++ s ++ sR.extract e 128)]).length) := by
          have : j * 3 + 2 + 1 ≤ (splice (pgRow N.ps ++ X) (j * 3 + 1) [.string (sR.extract 0 b ++ s ++ sR.extract e 128)]).length := by
            rw [splice_len, hlen.out, List.length_singleton]; omega
          exact this
        refine hK.out _ _ hS7 (fun hHeld => ?_)
        clear hK K hHeld hd hS hdd
        refine wpAnyH_done (by kernel_rfl) ?_ _
        go_wp2_with (with_reducible refine wpList_put (o := ⟨none, .store 4 (.tmp 71) (.const (.bool true)), _, _, _, _⟩) (by with_unfolding_all rfl) 4 (.tmp 71) (.const (.bool true)) (by with_unfolding_all rfl) ga (j * 3 + 2) (by with_unfolding_all rfl) (.bool true) (by with_unfolding_all rfl) hB7 [.bool true] (by with_unfolding_all rfl) (by with_unfolding_all exact Try.sz4) (by with_unfolding_all exact hl7.out) (by with_unfolding_all exact one_cell1 rfl) ?_)
        intro w8 hu8 hB8
        rw [splice_splice _ _ _ _ (by rw [hlen.out, List.length_singleton, List.length_singleton]; omega) _ (by rw [List.length_singleton])] at hB8
        have hB8' : Blk w8 ga 53 (pgRow (N.ps.set j ⟨(N.page j).old, some P⟩) ++ X) := hsp1.out ▸ hB8
        have hou := hu7.trans hu8
        have h8 : RRep w8 gr ga cap X (N.set j ⟨(N.page j).old, some P⟩) := ⟨by rw [DM.set_len]; exact hD7.upd hu8 hn1, hB8', hn1⟩
        have ho8 := ho1'.trans (Only.of_upd (L := [gr, ga]) hou (by simp))
        clear hB7 hB8 hB8' hS7 hD7 hu7 hu8 hou ho1'
        go_wp2
        go_ret
        exact ⟨rfl, h8, ho8⟩
      · have hsf : M.step.up = false := by simpa using hst
        obtain ⟨e1, e2⟩ := write_trip hu hf hsf
        rw [e1, e2]
        have HM := Lib.hid hM
        have HSF := Lib.hid hsf
        clear e1 e2 hu hsl hp h hf hst he hsf hM
        go_enter Try.func58, Try.ntmps58
        go_wp2_with fail
        (with_reducible refine (ris_any gr ga cap X M _ _ _ HP.out HH.out).mono ?_)
        rintro e w' ⟨rfl, rfl⟩
        go_wp2_with fail
        (with_reducible refine (rstep_any gr ga cap X M _ HUP.out HM.out HH.out).mono ?_)
        rintro e w1 ⟨rfl, h1, ho1⟩
        rw [HSF.out]
        have ho1' : Only [gr, ga] w w1 := ho1.mono (by simp)
        clear c1 HH ho1
        go_wp2
        go_ret
        exact ⟨rfl, h1, ho1'⟩
    · have hff : (M.okP i && DM.fits a s.data.toList.length) = false := by simpa using hf
      obtain ⟨e1, e2⟩ := write_bad hu hff
      rw [e1, e2]
      have hcase : b0 = false ∨ (b0 = true ∧ a < 0) ∨ (b0 = true ∧ 0 ≤ a ∧ 128 < a) ∨ (b0 = true ∧ 0 ≤ a ∧ a ≤ 128 ∧ 128 - a < (s.size : Int)) := by
        rw [hp, hsl] at hff
        unfold DM.fits at hff
        cases b0 with
        | false => exact Or.inl rfl
        | true =>
          rw [Bool.true_and] at hff
          have := of_decide_eq_false hff
          by_cases h0 : a < 0
          · exact Or.inr (Or.inl ⟨rfl, h0⟩)
          · by_cases h1 : 128 < a
            · exact Or.inr (Or.inr (Or.inl ⟨rfl, by omega, h1⟩))
            · exact Or.inr (Or.inr (Or.inr ⟨rfl, by omega, by omega, by omega⟩))
      clear e1 e2 hu hsl hp h hf hff hM
      rcases hcase with rfl | ⟨rfl, h0⟩ | ⟨rfl, h0, h1⟩ | ⟨rfl, h0, h1, h2⟩
      · go_enter Try.func58, Try.ntmps58
        go_wp2_with fail
        (with_reducible refine (ris_any gr ga cap X M _ _ _ HP.out HH.out).mono ?_)
        rintro e w' ⟨rfl, rfl⟩
        go_wp2
        go_ret
        exact ⟨rfl, HH.out, Only.refl _ _⟩
      · go_enter Try.func58, Try.ntmps58
        go_wp2_with fail
        (with_reducible refine (ris_any gr ga cap X M _ _ _ HP.out HH.out).mono ?_)
        rintro e w' ⟨rfl, rfl⟩
        go_wp2
        go_ret
        exact ⟨rfl, HH.out, Only.refl _ _⟩
      · go_enter Try.func58, Try.ntmps58
        go_wp2_with fail
        (with_reducible refine (ris_any gr ga cap X M _ _ _ HP.out HH.out).mono ?_)
        rintro e w' ⟨rfl, rfl⟩
        go_wp2
        go_ret
        exact ⟨rfl, HH.out, Only.refl _ _⟩
      · go_enter Try.func58, Try.ntmps58
        go_wp2_with fail
        (with_reducible refine (ris_any gr ga cap X M _ _ _ HP.out HH.out).mono ?_)
        rintro e w' ⟨rfl, rfl⟩
        go_wp2
        go_ret
        exact ⟨rfl, HH.out, Only.refl _ _⟩
end Go.Proofs.Ytbmoedgokimhmaa
