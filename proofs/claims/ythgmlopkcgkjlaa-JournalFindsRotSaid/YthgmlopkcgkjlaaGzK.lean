/-
  Contracts of the functions that the statement calls, part 37 of 37 (merged texts: Jlc). Conditions: as the head of each part says.
-/
import Derived.Test.YthgmlopkcgkjlaaGzJ

/-
  The walk of the law JournalFindsRot. Conditions: its arguments lie there.
-/
namespace Go.Proofs.Ythgmlopkcgkjlaa
open Go.RowKit Go.Shelf

set_option maxRecDepth 100000 in
set_option maxHeartbeats 6400000 in
theorem findLaw_any (p : Int) (A : Option Addr) (c : Nat) (xs : List OpJ) (pg bt : Int) (w : World) (hl : xs.length ≤ 140737488355328) (hS : ScriptJ w.heap.size w A xs) :
    Calls Try.prog 13 #[.int .i64 p, .slice A xs.length c, .int .i64 pg, .int .i64 bt] w fun e w' => e = .returned (.bool true) ∧ Below w.heap.size w w' := by
  have HS := Lib.hid hS
  clear hS
  obtain ⟨N, hN⟩ : ∃ N, Hid (xs.length = N) := ⟨_, rfl⟩
  rw [hN.out]
  rw [hN.out] at hl
  have hf1 : Calls Try.prog 35 #[.slice A N c] w fun e w' => FewRes xs e ∧ w' = w := by
    have h := jfew_any A c xs w (by rw [hN.out]; exact hl) HS.out
    rw [hN.out] at h
    exact h
  go_enter Try.func13, Try.ntmps13
  go_wp2_with fail
  (with_reducible refine hf1.mono ?_)
  rintro e w ⟨⟨q1, rfl, hq1⟩, rfl⟩
  clear hf1
  by_cases hlo : p < 4
  · skip
    go_wp2_with fail
    (with_reducible refine (jsanity_any _).mono ?_)
    rintro e w5 ⟨rfl, hb⟩
    go_wp2
    go_ret
    exact ⟨rfl, hb⟩
  by_cases hhi : 24 < p
  · have hlo' : 4 ≤ p := by omega
    go_wp2_with fail
    (with_reducible refine (jsanity_any _).mono ?_)
    rintro e w5 ⟨rfl, hb⟩
    go_wp2
    go_ret
    exact ⟨rfl, hb⟩
  have hlo' : 4 ≤ p := by omega
  have hhi' : p ≤ 24 := by omega
  rcases q1 with _ | _
  · skip
    go_wp2_with fail
    (with_reducible refine (jsanity_any _).mono ?_)
    rintro e w5 ⟨rfl, hb⟩
    go_wp2
    go_ret
    exact ⟨rfl, hb⟩
  by_cases hp0 : pg < 0
  · skip
    go_wp2_with fail
    (with_reducible refine (jsanity_any _).mono ?_)
    rintro e w5 ⟨rfl, hb⟩
    go_wp2
    go_ret
    exact ⟨rfl, hb⟩
  have hp0' : 0 ≤ pg := by omega
  by_cases hp1 : p ≤ pg
  · skip
    go_wp2_with fail
    (with_reducible refine (jsanity_any _).mono ?_)
    rintro e w5 ⟨rfl, hb⟩
    go_wp2
    go_ret
    exact ⟨rfl, hb⟩
  have hp1' : pg < p := by omega
  by_cases hb0 : bt < 0
  · skip
    go_wp2_with fail
    (with_reducible refine (jsanity_any _).mono ?_)
    rintro e w5 ⟨rfl, hb⟩
    go_wp2
    go_ret
    exact ⟨rfl, hb⟩
  have hb0' : 0 ≤ bt := by omega
  by_cases hb1 : 1024 ≤ bt
  · skip
    go_wp2_with fail
    (with_reducible refine (jsanity_any _).mono ?_)
    rintro e w5 ⟨rfl, hb⟩
    go_wp2
    go_ret
    exact ⟨rfl, hb⟩
  have hb1' : bt < 1024 := by omega
  obtain ⟨n, rfl⟩ : ∃ n : Nat, p = (n : Int) := ⟨p.toNat, by omega⟩
  obtain ⟨i, rfl⟩ : ∃ i : Nat, pg = (i : Int) := ⟨pg.toNat, by omega⟩
  obtain ⟨b, rfl⟩ : ∃ b : Nat, bt = (b : Int) := ⟨bt.toNat, by omega⟩
  have h4 : 4 ≤ n := by omega
  have h24 : n ≤ 24 := by omega
  have hin : i < n := by omega
  have hb1024 : b < 1024 := by omega
  clear hlo hhi hp0 hp1 hb0 hb1
  obtain ⟨hq10, hqf⟩ := hq1 rfl
  obtain ⟨nb, hnb⟩ : ∃ nb, w.heap.size = nb := ⟨_, rfl⟩
  have HW := Lib.hid (fun (w' : World) (h : Below nb w w') => show Below w.heap.size w w' by rw [hnb]; exact h)
  have haf := after_any nb n w w A c xs h4 (by omega) hq10 hqf (by rw [← hnb]; exact HS.out) (Below.refl _ _) (Nat.le_of_eq hnb.symm)
  rw [hN.out] at haf
  clear hq1 hqf hnb HS
  go_wp2_with fail
  (with_reducible refine haf.mono ?_)
  rintro e v5 ⟨gj, gd, gp, gm, gr, k, l, B, R, cr, rfl, hk, h5⟩
  clear haf
  have hr5 := h5.r
  have ha5 := h5.a
  have hc5 := h5.c
  obtain ⟨x, cj, M, p5, s5, _, b5, g5, z5⟩ := h5.p
  have zr := h5.z
  clear h5
  have p5' := p5.p
  clear p5
  have hok := Lib.hid s5.ok
  have hlen := Lib.hid s5.len
  have hinM : i < M.ps.length := by rw [hlen.out]; exact hin
  have hok2 := DM.rot_ok hok.out (i : Int) (b : Int)
  have htw := Lib.hid (rot_twice hok.out hinM hb1024)
  have hE1 := Lib.hid (rotE_zero hinM hb1024)
  have hE2 := Lib.hid (rotE_zero (M := M.rot (i : Int) (b : Int)) (i := i) (b := b) (by rw [DM.rot_len]; exact hinM) hb1024)
  have hrot := Lib.hid (jst_rot s5 h4 (by omega) hin hb1024)
  have hcb : capOf n ≤ 2432 := by unfold capOf; omega
  have hl6 : l.length ≤ 1000000 := by have := JM.useR_count l; have := s5.use; omega
  simp only [List.mem_cons, List.not_mem_nil, or_false, not_or] at ha5
  have gdl := p5'.d.lt
  have gpl := p5'.p.lt
  have gml := p5'.m.lt
  have grl := hr5.d.lt
  go_wp2_with fail
  (with_reducible refine (clone_any gd gp gm k n [] M _ hok.out (by rw [hlen.out]; omega) p5').mono ?_)
  rintro e v6 ⟨gc, gp2, gm2, cap2, Y2, rfl, pc6, hb6, hgc, hgp2, hgm2⟩
  have pd6 := p5'.next hb6
  have r6 := hr5.next hb6
  have b6 := b5.trans (hb6.mono z5)
  have z6 := Nat.le_trans z5 hb6.size
  clear p5' hr5 b5 hb6
  go_wp2_with fail
  (with_reducible refine (rot_any gd gp gm k n [] M (i : Int) (b : Int) _ hok.out pd6).mono ?_)
  rintro e v7 ⟨rfl, pd7, ho7⟩
  rw [hE1.out]
  have pc7 := pc6.only ho7 (by simp; omega) (by simp; omega) (by simp; omega)
  have r7 := r6.only ho7 (by simp; omega) (fun q hq => by have := (hc5 q hq).1; simp at this ⊢; omega)
  have b7 := below_only b6 ho7 (by simp; omega) z6
  have z7 := Nat.le_trans z6 ho7.size
  clear pd6 pc6 r6 b6 ho7
  go_wp2_with fail
  (with_reducible refine (rot_any gc gp2 gm2 k cap2 Y2 M (i : Int) (b : Int) _ hok.out pc7).mono ?_)
  rintro e v8 ⟨rfl, pc8, ho8⟩
  rw [hE1.out]
  have pd8 := pd7.only ho8 (by simp; omega) (by simp; omega) (by simp; omega)
  have r8 := r7.only ho8 (by simp; omega) (fun q hq => by have := (hc5 q hq).2; simp; omega)
  have b8 := below_only b7 ho8 (by simp; omega) z7
  have z8 := Nat.le_trans z7 ho8.size
  clear pd7 pc7 r7 b7 ho8
  have hlen2 : (M.rot (i : Int) (b : Int)).ps.length = n := by rw [DM.rot_len]; exact hlen.out
  have hup2 : (M.rot (i : Int) (b : Int)).up = true := by rw [rot_up hinM hb1024]; exact s5.up
  have HL2 := Lib.hid hlen2
  have HU2 := Lib.hid hup2
  clear hlen2 hup2
  go_wp2_with fail
  rcases hrot.out with ⟨mk, hm1, hm2⟩ | ⟨mk, hm1, hm2, hst⟩ | s10
  · (with_reducible refine (open_mark mk gd gp gm k n [] (M.rot (i : Int) (b : Int)) n _ hm1 hm2 hok2 HL2.out h4 (by omega) HU2.out pd8).mono ?_)
    clear hrot
    rintro e v10 ⟨rfl, hb10⟩
    clear hm1 hm2
    have p9 := pc8.next hb10
    have r9 := r8.next hb10
    have b9 := b8.trans (hb10.mono z8)
    have z9 := Nat.le_trans z8 hb10.size
    clear pd8 pc8 r8 b8 hb10
    go_wp2
    go_quiet (fail)
    have hdn : Below v10.heap.size v10 (v10.drewN nq) := ⟨rfl, rfl, rfl, Nat.le_refl _, fun _ _ => rfl⟩
    have p10 := p9.next hdn
    have r10 := r9.next hdn
    have b10 := b9.trans (hdn.mono z9)
    have z10 := Nat.le_trans z9 hdn.size
    clear p9 r9 b9 hdn
    generalize v10.drewN nq = v10 at p10 r10 b10 z10 ⊢
    go_wp2_with fail
    (with_reducible refine (rot_any gc gp2 gm2 k cap2 Y2 (M.rot (i : Int) (b : Int)) (i : Int) (b : Int) _ hok2 p10).mono ?_)
    rintro e v11 ⟨rfl, p11, ho11⟩
    rw [htw.out] at p11
    have r11 := r10.only ho11 (by simp; omega) (fun q hq => by have := (hc5 q hq).2; simp; omega)
    have b11 := below_only b10 ho11 (by simp; omega) z10
    have z11 := Nat.le_trans z10 ho11.size
    clear p10 r10 b10 ho11
    go_wp2_with fail
    (with_reducible refine (openlaw_any nb x l gc gp2 gm2 k cap2 Y2 M n _ s5 h4 (by omega) z11 p11).mono ?_)
    rintro e v12 ⟨gk, Ak, ck, rfl, p12, hle12, hlo12, hb12⟩
    have r12 := r11.next hb12
    have b12 := b11.trans (hb12.mono z11)
    have z12 := Nat.le_trans z11 hb12.size
    clear p11 r11 b11 hb12
    have hdd := below_drew v12
    have pA := p12.next hdd
    have rA := r12.next hdd
    have bA := b12.trans (hdd.mono z12)
    have zA := Nat.le_trans z12 hdd.size
    have hSd := rA.d.cell (k := 1) rfl
    clear p12 r12 b12
    go_wp2
    refine wp_region_held_drew (S := fun w' => w'.cell? ⟨gr, 1, none⟩ = some (.slice R l.length cr)) (by kernel_rfl) hSd (fun hHeld => ?_)
    generalize v12.drew = vA at pA rA bA zA hSd hHeld ⊢
    clear hSd hdd
    refine wpAnyH_ready (rs := [0]) (by kernel_rfl) (by simp) ?_
    refine AllReadyH.cons rfl (fun K hK => ?_) AllReadyH.nil
    go_simp
    go_wp2_with fail
    (with_reducible refine (jsanity_any _).mono ?_)
    rintro e vB ⟨rfl, hb⟩
    have pB := pA.next hb
    have rB := rA.next hb
    have bB := bA.trans (hb.mono zA)
    have zB := Nat.le_trans zA hb.size
    refine hK.out _ _ (rB.d.cell (k := 1) rfl) (fun hHeld => ?_)
    clear hK K pA rA hb bA
    refine wpAnyH_take (i := 1) (v := ?vu1x1) rfl (by kernel_rfl) (by kernel_rfl) (by kernel_rfl) (fun _ _ _ h => h) (Or.inl ⟨by rfl, ?yu1x1⟩) (by assumption) ?ru1x1
    case yu1x1 => intro w hSw; (try dsimp only at hSw); go_simp <;> (try with_reducible rfl)
    (try simp only [List.getElem_toArray, List.getElem_cons_succ, List.getElem_cons_zero, Act.put, List.setIfInBounds_toArray, List.set_cons_zero, List.set_cons_succ])
    refine wpAnyH_take (i := 2) (v := ?vu1x2) rfl (by kernel_rfl) (by kernel_rfl) (by kernel_rfl) (fun _ _ _ h => h) (Or.inl ⟨by rfl, ?yu1x2⟩) (by assumption) ?ru1x2
    case yu1x2 => intro w hSw; (try dsimp only at hSw); go_simp <;> (try with_reducible rfl)
    (try simp only [List.getElem_toArray, List.getElem_cons_succ, List.getElem_cons_zero, Act.put, List.setIfInBounds_toArray, List.set_cons_zero, List.set_cons_succ])
    refine wpAnyH_take (i := 4) (v := ?vu1x4) rfl (by kernel_rfl) (by kernel_rfl) (by kernel_rfl) (fun _ _ _ h => h) (Or.inl ⟨by rfl, ?yu1x4⟩) (by assumption) ?ru1x4
    case yu1x4 => intro w hSw; (try dsimp only at hSw); go_simp <;> (try with_reducible rfl)
    (try simp only [List.getElem_toArray, List.getElem_cons_succ, List.getElem_cons_zero, Act.put, List.setIfInBounds_toArray, List.set_cons_zero, List.set_cons_succ])
    refine wpAnyH_take (i := 5) (v := ?vu1x5) rfl (by kernel_rfl) (by kernel_rfl) (by kernel_rfl) (fun _ _ _ h => h) (Or.inl ⟨by rfl, ?yu1x5⟩) (by assumption) ?ru1x5
    case yu1x5 => intro w hSw; (try dsimp only at hSw); go_simp <;> (try with_reducible rfl)
    (try simp only [List.getElem_toArray, List.getElem_cons_succ, List.getElem_cons_zero, Act.put, List.setIfInBounds_toArray, List.set_cons_zero, List.set_cons_succ])
    refine wpAnyH_take (i := 6) (v := ?vu1x6) rfl (by kernel_rfl) (by kernel_rfl) (by kernel_rfl) (fun _ _ _ h => h) (Or.inl ⟨by rfl, ?yu1x6⟩) (by assumption) ?ru1x6
    case yu1x6 => intro w hSw; (try dsimp only at hSw); go_simp <;> (try with_reducible rfl)
    (try simp only [List.getElem_toArray, List.getElem_cons_succ, List.getElem_cons_zero, Act.put, List.setIfInBounds_toArray, List.set_cons_zero, List.set_cons_succ])
    refine wpAnyH_take (i := 7) (v := ?vu1x7) rfl (by kernel_rfl) (by kernel_rfl) (by kernel_rfl) (fun _ _ _ h => h) (Or.inl ⟨by rfl, ?yu1x7⟩) (by assumption) ?ru1x7
    case yu1x7 => intro w hSw; (try dsimp only at hSw); go_simp <;> (try with_reducible rfl)
    (try simp only [List.getElem_toArray, List.getElem_cons_succ, List.getElem_cons_zero, Act.put, List.setIfInBounds_toArray, List.set_cons_zero, List.set_cons_succ])
    refine wpAnyH_ready (rs := [3]) (by kernel_rfl) (by simp) ?_
    refine AllReadyH.cons rfl (fun K hK => ?_) AllReadyH.nil
    go_simp
    go_wp2_with fail
    (with_reducible refine (pj_records pB s5.use (by omega)).mono ?_)
    rintro e vC ⟨AC, cC, rfl, hRC, _, hb⟩
    have rC := rB.next hb
    have bC := bB.trans (hb.mono zB)
    have zC := Nat.le_trans zB hb.size
    refine hK.out _ _ (rC.d.cell (k := 1) rfl) (fun hHeld => ?_)
    clear hK K pB rB hb bB
    refine wpAnyH_ready (rs := [8]) (by kernel_rfl) (by simp) ?_
    refine AllReadyH.cons rfl (fun K hK => ?_) AllReadyH.nil
    go_simp
    go_wp2_with fail
    (with_reducible refine (same2_any AC R cC cr l l vC hl6 hRC rC.r).mono ?_)
    rintro e vD ⟨rfl, hb⟩
    rw [decide_eq_true rfl]
    have rD := rC.next hb
    have bD := bC.trans (hb.mono zC)
    refine hK.out _ _ (rD.d.cell (k := 1) rfl) (fun hHeld => ?_)
    clear hK K rC hb bC hRC
    refine wpAnyH_take (i := 9) (v := ?vu1x9) rfl (by kernel_rfl) (by kernel_rfl) (by kernel_rfl) (fun _ _ _ h => h) (Or.inl ⟨by rfl, ?yu1x9⟩) (by assumption) ?ru1x9
    case yu1x9 => intro w hSw; (try dsimp only at hSw); go_simp <;> (try with_reducible rfl)
    (try simp only [List.getElem_toArray, List.getElem_cons_succ, List.getElem_cons_zero, Act.put, List.setIfInBounds_toArray, List.set_cons_zero, List.set_cons_succ])
    refine wpAnyH_take (i := 10) (v := ?vu1x10) rfl (by kernel_rfl) (by kernel_rfl) (by kernel_rfl) (fun _ _ _ h => h) (Or.inl ⟨by rfl, ?yu1x10⟩) (by assumption) ?ru1x10
    case yu1x10 => intro w hSw; (try dsimp only at hSw); go_simp <;> (try with_reducible rfl)
    (try simp only [List.getElem_toArray, List.getElem_cons_succ, List.getElem_cons_zero, Act.put, List.setIfInBounds_toArray, List.set_cons_zero, List.set_cons_succ])
    refine wpAnyH_take (i := 11) (v := ?vu1x11) rfl (by kernel_rfl) (by kernel_rfl) (by kernel_rfl) (fun _ _ _ h => h) (Or.inl ⟨by rfl, ?yu1x11⟩) (by assumption) ?ru1x11
    case yu1x11 => intro w hSw; (try dsimp only at hSw); go_simp <;> (try with_reducible rfl)
    (try simp only [List.getElem_toArray, List.getElem_cons_succ, List.getElem_cons_zero, Act.put, List.setIfInBounds_toArray, List.set_cons_zero, List.set_cons_succ])
    refine wpAnyH_take (i := 12) (v := ?vu1x12) rfl (by kernel_rfl) (by kernel_rfl) (by kernel_rfl) (fun _ _ _ h => h) (Or.inl ⟨by rfl, ?yu1x12⟩) (by assumption) ?ru1x12
    case yu1x12 => intro w hSw; (try dsimp only at hSw); go_simp <;> (try with_reducible rfl)
    (try simp only [List.getElem_toArray, List.getElem_cons_succ, List.getElem_cons_zero, Act.put, List.setIfInBounds_toArray, List.set_cons_zero, List.set_cons_succ])
    refine wpAnyH_take (i := 13) (v := ?vu1x13) rfl (by kernel_rfl) (by kernel_rfl) (by kernel_rfl) (fun _ _ _ h => h) (Or.inl ⟨by rfl, ?yu1x13⟩) (by assumption) ?ru1x13
    case yu1x13 => intro w hSw; (try dsimp only at hSw); go_simp <;> (try with_reducible rfl)
    (try simp only [List.getElem_toArray, List.getElem_cons_succ, List.getElem_cons_zero, Act.put, List.setIfInBounds_toArray, List.set_cons_zero, List.set_cons_succ])
    refine wpAnyH_take (i := 14) (v := ?vu1x14) rfl (by kernel_rfl) (by kernel_rfl) (by kernel_rfl) (fun _ _ _ h => h) (Or.inl ⟨by rfl, ?yu1x14⟩) (by assumption) ?ru1x14
    case yu1x14 => intro w hSw; (try dsimp only at hSw); go_simp <;> (try with_reducible rfl)
    (try simp only [List.getElem_toArray, List.getElem_cons_succ, List.getElem_cons_zero, Act.put, List.setIfInBounds_toArray, List.set_cons_zero, List.set_cons_succ])
    refine wpAnyH_take (i := 15) (v := ?vu1x15) rfl (by kernel_rfl) (by kernel_rfl) (by kernel_rfl) (fun _ _ _ h => h) (Or.inl ⟨by rfl, ?yu1x15⟩) (by assumption) ?ru1x15
    case yu1x15 => intro w hSw; (try dsimp only at hSw); go_simp <;> (try with_reducible rfl)
    (try simp only [List.getElem_toArray, List.getElem_cons_succ, List.getElem_cons_zero, Act.put, List.setIfInBounds_toArray, List.set_cons_zero, List.set_cons_succ])
    refine wpAnyH_take (i := 16) (v := ?vu1x16) rfl (by kernel_rfl) (by kernel_rfl) (by kernel_rfl) (fun _ _ _ h => h) (Or.inl ⟨by rfl, ?yu1x16⟩) (by assumption) ?ru1x16
    case yu1x16 => intro w hSw; (try dsimp only at hSw); go_simp <;> (try with_reducible rfl)
    (try simp only [List.getElem_toArray, List.getElem_cons_succ, List.getElem_cons_zero, Act.put, List.setIfInBounds_toArray, List.set_cons_zero, List.set_cons_succ])
    refine wpAnyH_take (i := 17) (v := ?vu1x17) rfl (by kernel_rfl) (by kernel_rfl) (by kernel_rfl) (fun _ _ _ h => h) (Or.inl ⟨by rfl, ?yu1x17⟩) (by assumption) ?ru1x17
    case yu1x17 => intro w hSw; (try dsimp only at hSw); go_simp <;> (try with_reducible rfl)
    (try simp only [List.getElem_toArray, List.getElem_cons_succ, List.getElem_cons_zero, Act.put, List.setIfInBounds_toArray, List.set_cons_zero, List.set_cons_succ])
    have hfin := HW.out _ bD
    clear hHeld rD
    refine wpAnyH_done (by kernel_rfl) ?_ _
    go_wp2
    go_ret
    exact ⟨rfl, hfin⟩
  · (with_reducible refine (open_stream x mk gd gp gm k n [] (M.rot (i : Int) (b : Int)) n _ s5.h1 hm1 hm2 hst hok2 HL2.out h4 (by omega) HU2.out pd8).mono ?_)
    clear hrot hst
    rintro e v10 ⟨rfl, hb10⟩
    clear hm1 hm2
    have p9 := pc8.next hb10
    have r9 := r8.next hb10
    have b9 := b8.trans (hb10.mono z8)
    have z9 := Nat.le_trans z8 hb10.size
    clear pd8 pc8 r8 b8 hb10
    go_wp2
    go_quiet (fail)
    have hdn : Below v10.heap.size v10 (v10.drewN nq) := ⟨rfl, rfl, rfl, Nat.le_refl _, fun _ _ => rfl⟩
    have p10 := p9.next hdn
    have r10 := r9.next hdn
    have b10 := b9.trans (hdn.mono z9)
    have z10 := Nat.le_trans z9 hdn.size
    clear p9 r9 b9 hdn
    generalize v10.drewN nq = v10 at p10 r10 b10 z10 ⊢
    go_wp2_with fail
    (with_reducible refine (rot_any gc gp2 gm2 k cap2 Y2 (M.rot (i : Int) (b : Int)) (i : Int) (b : Int) _ hok2 p10).mono ?_)
    rintro e v11 ⟨rfl, p11, ho11⟩
    rw [htw.out] at p11
    have r11 := r10.only ho11 (by simp; omega) (fun q hq => by have := (hc5 q hq).2; simp; omega)
    have b11 := below_only b10 ho11 (by simp; omega) z10
    have z11 := Nat.le_trans z10 ho11.size
    clear p10 r10 b10 ho11
    go_wp2_with fail
    (with_reducible refine (openlaw_any nb x l gc gp2 gm2 k cap2 Y2 M n _ s5 h4 (by omega) z11 p11).mono ?_)
    rintro e v12 ⟨gk, Ak, ck, rfl, p12, hle12, hlo12, hb12⟩
    have r12 := r11.next hb12
    have b12 := b11.trans (hb12.mono z11)
    have z12 := Nat.le_trans z11 hb12.size
    clear p11 r11 b11 hb12
    have hdd := below_drew v12
    have pA := p12.next hdd
    have rA := r12.next hdd
    have bA := b12.trans (hdd.mono z12)
    have zA := Nat.le_trans z12 hdd.size
    have hSd := rA.d.cell (k := 1) rfl
    clear p12 r12 b12
    go_wp2
    refine wp_region_held_drew (S := fun w' => w'.cell? ⟨gr, 1, none⟩ = some (.slice R l.length cr)) (by kernel_rfl) hSd (fun hHeld => ?_)
    generalize v12.drew = vA at pA rA bA zA hSd hHeld ⊢
    clear hSd hdd
    refine wpAnyH_ready (rs := [0]) (by kernel_rfl) (by simp) ?_
    refine AllReadyH.cons rfl (fun K hK => ?_) AllReadyH.nil
    go_simp
    go_wp2_with fail
    (with_reducible refine (jsanity_any _).mono ?_)
    rintro e vB ⟨rfl, hb⟩
    have pB := pA.next hb
    have rB := rA.next hb
    have bB := bA.trans (hb.mono zA)
    have zB := Nat.le_trans zA hb.size
    refine hK.out _ _ (rB.d.cell (k := 1) rfl) (fun hHeld => ?_)
    clear hK K pA rA hb bA
    refine wpAnyH_take (i := 1) (v := ?vu2x1) rfl (by kernel_rfl) (by kernel_rfl) (by kernel_rfl) (fun _ _ _ h => h) (Or.inl ⟨by rfl, ?yu2x1⟩) (by assumption) ?ru2x1
    case yu2x1 => intro w hSw; (try dsimp only at hSw); go_simp <;> (try with_reducible rfl)
    (try simp only [List.getElem_toArray, List.getElem_cons_succ, List.getElem_cons_zero, Act.put, List.setIfInBounds_toArray, List.set_cons_zero, List.set_cons_succ])
    refine wpAnyH_take (i := 2) (v := ?vu2x2) rfl (by kernel_rfl) (by kernel_rfl) (by kernel_rfl) (fun _ _ _ h => h) (Or.inl ⟨by rfl, ?yu2x2⟩) (by assumption) ?ru2x2
    case yu2x2 => intro w hSw; (try dsimp only at hSw); go_simp <;> (try with_reducible rfl)
    (try simp only [List.getElem_toArray, List.getElem_cons_succ, List.getElem_cons_zero, Act.put, List.setIfInBounds_toArray, List.set_cons_zero, List.set_cons_succ])
    refine wpAnyH_take (i := 4) (v := ?vu2x4) rfl (by kernel_rfl) (by kernel_rfl) (by kernel_rfl) (fun _ _ _ h => h) (Or.inl ⟨by rfl, ?yu2x4⟩) (by assumption) ?ru2x4
    case yu2x4 => intro w hSw; (try dsimp only at hSw); go_simp <;> (try with_reducible rfl)
    (try simp only [List.getElem_toArray, List.getElem_cons_succ, List.getElem_cons_zero, Act.put, List.setIfInBounds_toArray, List.set_cons_zero, List.set_cons_succ])
    refine wpAnyH_take (i := 5) (v := ?vu2x5) rfl (by kernel_rfl) (by kernel_rfl) (by kernel_rfl) (fun _ _ _ h => h) (Or.inl ⟨by rfl, ?yu2x5⟩) (by assumption) ?ru2x5
    case yu2x5 => intro w hSw; (try dsimp only at hSw); go_simp <;> (try with_reducible rfl)
    (try simp only [List.getElem_toArray, List.getElem_cons_succ, List.getElem_cons_zero, Act.put, List.setIfInBounds_toArray, List.set_cons_zero, List.set_cons_succ])
    refine wpAnyH_take (i := 6) (v := ?vu2x6) rfl (by kernel_rfl) (by kernel_rfl) (by kernel_rfl) (fun _ _ _ h => h) (Or.inl ⟨by rfl, ?yu2x6⟩) (by assumption) ?ru2x6
    case yu2x6 => intro w hSw; (try dsimp only at hSw); go_simp <;> (try with_reducible rfl)
    (try simp only [List.getElem_toArray, List.getElem_cons_succ, List.getElem_cons_zero, Act.put, List.setIfInBounds_toArray, List.set_cons_zero, List.set_cons_succ])
    refine wpAnyH_take (i := 7) (v := ?vu2x7) rfl (by kernel_rfl) (by kernel_rfl) (by kernel_rfl) (fun _ _ _ h => h) (Or.inl ⟨by rfl, ?yu2x7⟩) (by assumption) ?ru2x7
    case yu2x7 => intro w hSw; (try dsimp only at hSw); go_simp <;> (try with_reducible rfl)
    (try simp only [List.getElem_toArray, List.getElem_cons_succ, List.getElem_cons_zero, Act.put, List.setIfInBounds_toArray, List.set_cons_zero, List.set_cons_succ])
    refine wpAnyH_ready (rs := [3]) (by kernel_rfl) (by simp) ?_
    refine AllReadyH.cons rfl (fun K hK => ?_) AllReadyH.nil
    go_simp
    go_wp2_with fail
    (with_reducible refine (pj_records pB s5.use (by omega)).mono ?_)
    rintro e vC ⟨AC, cC, rfl, hRC, _, hb⟩
    have rC := rB.next hb
    have bC := bB.trans (hb.mono zB)
    have zC := Nat.le_trans zB hb.size
    refine hK.out _ _ (rC.d.cell (k := 1) rfl) (fun hHeld => ?_)
    clear hK K pB rB hb bB
    refine wpAnyH_ready (rs := [8]) (by kernel_rfl) (by simp) ?_
    refine AllReadyH.cons rfl (fun K hK => ?_) AllReadyH.nil
    go_simp
    go_wp2_with fail
    (with_reducible refine (same2_any AC R cC cr l l vC hl6 hRC rC.r).mono ?_)
    rintro e vD ⟨rfl, hb⟩
    rw [decide_eq_true rfl]
    have rD := rC.next hb
    have bD := bC.trans (hb.mono zC)
    refine hK.out _ _ (rD.d.cell (k := 1) rfl) (fun hHeld => ?_)
    clear hK K rC hb bC hRC
    refine wpAnyH_take (i := 9) (v := ?vu2x9) rfl (by kernel_rfl) (by kernel_rfl) (by kernel_rfl) (fun _ _ _ h => h) (Or.inl ⟨by rfl, ?yu2x9⟩) (by assumption) ?ru2x9
    case yu2x9 => intro w hSw; (try dsimp only at hSw); go_simp <;> (try with_reducible rfl)
    (try simp only [List.getElem_toArray, List.getElem_cons_succ, List.getElem_cons_zero, Act.put, List.setIfInBounds_toArray, List.set_cons_zero, List.set_cons_succ])
    refine wpAnyH_take (i := 10) (v := ?vu2x10) rfl (by kernel_rfl) (by kernel_rfl) (by kernel_rfl) (fun _ _ _ h => h) (Or.inl ⟨by rfl, ?yu2x10⟩) (by assumption) ?ru2x10
    case yu2x10 => intro w hSw; (try dsimp only at hSw); go_simp <;> (try with_reducible rfl)
    (try simp only [List.getElem_toArray, List.getElem_cons_succ, List.getElem_cons_zero, Act.put, List.setIfInBounds_toArray, List.set_cons_zero, List.set_cons_succ])
    refine wpAnyH_take (i := 11) (v := ?vu2x11) rfl (by kernel_rfl) (by kernel_rfl) (by kernel_rfl) (fun _ _ _ h => h) (Or.inl ⟨by rfl, ?yu2x11⟩) (by assumption) ?ru2x11
    case yu2x11 => intro w hSw; (try dsimp only at hSw); go_simp <;> (try with_reducible rfl)
    (try simp only [List.getElem_toArray, List.getElem_cons_succ, List.getElem_cons_zero, Act.put, List.setIfInBounds_toArray, List.set_cons_zero, List.set_cons_succ])
    refine wpAnyH_take (i := 12) (v := ?vu2x12) rfl (by kernel_rfl) (by kernel_rfl) (by kernel_rfl) (fun _ _ _ h => h) (Or.inl ⟨by rfl, ?yu2x12⟩) (by assumption) ?ru2x12
    case yu2x12 => intro w hSw; (try dsimp only at hSw); go_simp <;> (try with_reducible rfl)
    (try simp only [List.getElem_toArray, List.getElem_cons_succ, List.getElem_cons_zero, Act.put, List.setIfInBounds_toArray, List.set_cons_zero, List.set_cons_succ])
    refine wpAnyH_take (i := 13) (v := ?vu2x13) rfl (by kernel_rfl) (by kernel_rfl) (by kernel_rfl) (fun _ _ _ h => h) (Or.inl ⟨by rfl, ?yu2x13⟩) (by assumption) ?ru2x13
    case yu2x13 => intro w hSw; (try dsimp only at hSw); go_simp <;> (try with_reducible rfl)
    (try simp only [List.getElem_toArray, List.getElem_cons_succ, List.getElem_cons_zero, Act.put, List.setIfInBounds_toArray, List.set_cons_zero, List.set_cons_succ])
    refine wpAnyH_take (i := 14) (v := ?vu2x14) rfl (by kernel_rfl) (by kernel_rfl) (by kernel_rfl) (fun _ _ _ h => h) (Or.inl ⟨by rfl, ?yu2x14⟩) (by assumption) ?ru2x14
    case yu2x14 => intro w hSw; (try dsimp only at hSw); go_simp <;> (try with_reducible rfl)
    (try simp only [List.getElem_toArray, List.getElem_cons_succ, List.getElem_cons_zero, Act.put, List.setIfInBounds_toArray, List.set_cons_zero, List.set_cons_succ])
    refine wpAnyH_take (i := 15) (v := ?vu2x15) rfl (by kernel_rfl) (by kernel_rfl) (by kernel_rfl) (fun _ _ _ h => h) (Or.inl ⟨by rfl, ?yu2x15⟩) (by assumption) ?ru2x15
    case yu2x15 => intro w hSw; (try dsimp only at hSw); go_simp <;> (try with_reducible rfl)
    (try simp only [List.getElem_toArray, List.getElem_cons_succ, List.getElem_cons_zero, Act.put, List.setIfInBounds_toArray, List.set_cons_zero, List.set_cons_succ])
    refine wpAnyH_take (i := 16) (v := ?vu2x16) rfl (by kernel_rfl) (by kernel_rfl) (by kernel_rfl) (fun _ _ _ h => h) (Or.inl ⟨by rfl, ?yu2x16⟩) (by assumption) ?ru2x16
    case yu2x16 => intro w hSw; (try dsimp only at hSw); go_simp <;> (try with_reducible rfl)
    (try simp only [List.getElem_toArray, List.getElem_cons_succ, List.getElem_cons_zero, Act.put, List.setIfInBounds_toArray, List.set_cons_zero, List.set_cons_succ])
    refine wpAnyH_take (i := 17) (v := ?vu2x17) rfl (by kernel_rfl) (by kernel_rfl) (by kernel_rfl) (fun _ _ _ h => h) (Or.inl ⟨by rfl, ?yu2x17⟩) (by assumption) ?ru2x17
    case yu2x17 => intro w hSw; (try dsimp only at hSw); go_simp <;> (try with_reducible rfl)
    (try simp only [List.getElem_toArray, List.getElem_cons_succ, List.getElem_cons_zero, Act.put, List.setIfInBounds_toArray, List.set_cons_zero, List.set_cons_succ])
    have hfin := HW.out _ bD
    clear hHeld rD
    refine wpAnyH_done (by kernel_rfl) ?_ _
    go_wp2
    go_ret
    exact ⟨rfl, hfin⟩
  · (with_reducible refine (open_jst nb x l gd gp gm k n [] (M.rot (i : Int) (b : Int)) n _ s10 h4 (by omega) z8 pd8).mono ?_)
    rintro e v9 ⟨gz, Az, cz, rfl, pz9, hlez, hloz, hb9⟩
    clear hrot
    have p9 := pc8.next hb9
    have r9 := r8.next hb9
    have b9 := b8.trans (hb9.mono z8)
    have z9 := Nat.le_trans z8 hb9.size
    clear pd8 pc8 r8 b8 hb9
    have hdd := below_drew v9
    have pA := p9.next hdd
    have rA := r9.next hdd
    have qA := pz9.next hdd
    have bA := b9.trans (hdd.mono z9)
    have zA := Nat.le_trans z9 hdd.size
    have hSd := rA.d.cell (k := 1) rfl
    clear p9 r9 b9 pz9
    go_wp2
    refine wp_region_held_drew (S := fun w' => w'.cell? ⟨gr, 1, none⟩ = some (.slice R l.length cr)) (by kernel_rfl) hSd (fun hHeld => ?_)
    generalize v9.drew = vA at pA rA qA bA zA hSd hHeld ⊢
    clear hSd hdd
    refine wpAnyH_take (i := 0) (v := ?vg0) rfl (by kernel_rfl) (by kernel_rfl) (by kernel_rfl) (fun _ _ _ h => h) (Or.inl ⟨by rfl, ?yg0⟩) (by assumption) ?rg0
    case yg0 => intro w hSw; (try dsimp only at hSw); go_simp <;> (try with_reducible rfl)
    (try simp only [List.getElem_toArray, List.getElem_cons_zero, Act.put, List.setIfInBounds_toArray, List.set_cons_zero, List.set_cons_succ])
    refine wpAnyH_take (i := 1) (v := ?vg1) rfl (by kernel_rfl) (by kernel_rfl) (by kernel_rfl) (fun _ _ _ h => h) (Or.inl ⟨by rfl, ?yg1⟩) (by assumption) ?rg1
    case yg1 => intro w hSw; (try dsimp only at hSw); go_simp <;> (try with_reducible rfl)
    (try simp only [List.getElem_toArray, List.getElem_cons_succ, List.getElem_cons_zero, Act.put, List.setIfInBounds_toArray, List.set_cons_zero, List.set_cons_succ])
    refine wpAnyH_take (i := 2) (v := ?vg2) rfl (by kernel_rfl) (by kernel_rfl) (by kernel_rfl) (fun _ _ _ h => h) (Or.inl ⟨by rfl, ?yg2⟩) (by assumption) ?rg2
    case yg2 => intro w hSw; (try dsimp only at hSw); go_simp <;> (try with_reducible rfl)
    (try simp only [List.getElem_toArray, List.getElem_cons_succ, List.getElem_cons_zero, Act.put, List.setIfInBounds_toArray, List.set_cons_zero, List.set_cons_succ])
    refine wpAnyH_take (i := 3) (v := ?vg3) rfl (by kernel_rfl) (by kernel_rfl) (by kernel_rfl) (fun _ _ _ h => h) (Or.inl ⟨by rfl, ?yg3⟩) (by assumption) ?rg3
    case yg3 => intro w hSw; (try dsimp only at hSw); go_simp <;> (try with_reducible rfl)
    (try simp only [List.getElem_toArray, List.getElem_cons_succ, List.getElem_cons_zero, Act.put, List.setIfInBounds_toArray, List.set_cons_zero, List.set_cons_succ])
    refine wpAnyH_take (i := 4) (v := ?vg4) rfl (by kernel_rfl) (by kernel_rfl) (by kernel_rfl) (fun _ _ _ h => h) (Or.inl ⟨by rfl, ?yg4⟩) (by assumption) ?rg4
    case yg4 => intro w hSw; (try dsimp only at hSw); go_simp <;> (try with_reducible rfl)
    (try simp only [List.getElem_toArray, List.getElem_cons_succ, List.getElem_cons_zero, Act.put, List.setIfInBounds_toArray, List.set_cons_zero, List.set_cons_succ])
    refine wpAnyH_take (i := 5) (v := ?vg5) rfl (by kernel_rfl) (by kernel_rfl) (by kernel_rfl) (fun _ _ _ h => h) (Or.inl ⟨by rfl, ?yg5⟩) (by assumption) ?rg5
    case yg5 => intro w hSw; (try dsimp only at hSw); go_simp <;> (try with_reducible rfl)
    (try simp only [List.getElem_toArray, List.getElem_cons_succ, List.getElem_cons_zero, Act.put, List.setIfInBounds_toArray, List.set_cons_zero, List.set_cons_succ])
    refine wpAnyH_take (i := 6) (v := ?vg6) rfl (by kernel_rfl) (by kernel_rfl) (by kernel_rfl) (fun _ _ _ h => h) (Or.inl ⟨by rfl, ?yg6⟩) (by assumption) ?rg6
    case yg6 => intro w hSw; (try dsimp only at hSw); go_simp <;> (try with_reducible rfl)
    (try simp only [List.getElem_toArray, List.getElem_cons_succ, List.getElem_cons_zero, Act.put, List.setIfInBounds_toArray, List.set_cons_zero, List.set_cons_succ])
    refine wpAnyH_take (i := 7) (v := ?vg7) rfl (by kernel_rfl) (by kernel_rfl) (by kernel_rfl) (fun _ _ _ h => h) (Or.inl ⟨by rfl, ?yg7⟩) (by assumption) ?rg7
    case yg7 => intro w hSw; (try dsimp only at hSw); go_simp <;> (try with_reducible rfl)
    (try simp only [List.getElem_toArray, List.getElem_cons_succ, List.getElem_cons_zero, Act.put, List.setIfInBounds_toArray, List.set_cons_zero, List.set_cons_succ])
    refine wpAnyH_take (i := 8) (v := ?vg8) rfl (by kernel_rfl) (by kernel_rfl) (by kernel_rfl) (fun _ _ _ h => h) (Or.inl ⟨by rfl, ?yg8⟩) (by assumption) ?rg8
    case yg8 => intro w hSw; (try dsimp only at hSw); go_simp <;> (try with_reducible rfl)
    (try simp only [List.getElem_toArray, List.getElem_cons_succ, List.getElem_cons_zero, Act.put, List.setIfInBounds_toArray, List.set_cons_zero, List.set_cons_succ])
    refine wpAnyH_take (i := 9) (v := ?vg9) rfl (by kernel_rfl) (by kernel_rfl) (by kernel_rfl) (fun _ _ _ h => h) (Or.inl ⟨by rfl, ?yg9⟩) (by assumption) ?rg9
    case yg9 => intro w hSw; (try dsimp only at hSw); go_simp <;> (try with_reducible rfl)
    (try simp only [List.getElem_toArray, List.getElem_cons_succ, List.getElem_cons_zero, Act.put, List.setIfInBounds_toArray, List.set_cons_zero, List.set_cons_succ])
    refine wpAnyH_take (i := 10) (v := ?vg10) rfl (by kernel_rfl) (by kernel_rfl) (by kernel_rfl) (fun _ _ _ h => h) (Or.inl ⟨by rfl, ?yg10⟩) (by assumption) ?rg10
    case yg10 => intro w hSw; (try dsimp only at hSw); go_simp <;> (try with_reducible rfl)
    (try simp only [List.getElem_toArray, List.getElem_cons_succ, List.getElem_cons_zero, Act.put, List.setIfInBounds_toArray, List.set_cons_zero, List.set_cons_succ])
    refine wpAnyH_take (i := 12) (v := ?vg12) rfl (by kernel_rfl) (by kernel_rfl) (by kernel_rfl) (fun _ _ _ h => h) (Or.inl ⟨by rfl, ?yg12⟩) (by assumption) ?rg12
    case yg12 => intro w hSw; (try dsimp only at hSw); go_simp <;> (try with_reducible rfl)
    (try simp only [List.getElem_toArray, List.getElem_cons_succ, List.getElem_cons_zero, Act.put, List.setIfInBounds_toArray, List.set_cons_zero, List.set_cons_succ])
    refine wpAnyH_take (i := 13) (v := ?vg13) rfl (by kernel_rfl) (by kernel_rfl) (by kernel_rfl) (fun _ _ _ h => h) (Or.inl ⟨by rfl, ?yg13⟩) (by assumption) ?rg13
    case yg13 => intro w hSw; (try dsimp only at hSw); go_simp <;> (try with_reducible rfl)
    (try simp only [List.getElem_toArray, List.getElem_cons_succ, List.getElem_cons_zero, Act.put, List.setIfInBounds_toArray, List.set_cons_zero, List.set_cons_succ])
    refine wpAnyH_take (i := 14) (v := ?vg14) rfl (by kernel_rfl) (by kernel_rfl) (by kernel_rfl) (fun _ _ _ h => h) (Or.inl ⟨by rfl, ?yg14⟩) (by assumption) ?rg14
    case yg14 => intro w hSw; (try dsimp only at hSw); go_simp <;> (try with_reducible rfl)
    (try simp only [List.getElem_toArray, List.getElem_cons_succ, List.getElem_cons_zero, Act.put, List.setIfInBounds_toArray, List.set_cons_zero, List.set_cons_succ])
    refine wpAnyH_take (i := 15) (v := ?vg15) rfl (by kernel_rfl) (by kernel_rfl) (by kernel_rfl) (fun _ _ _ h => h) (Or.inl ⟨by rfl, ?yg15⟩) (by assumption) ?rg15
    case yg15 => intro w hSw; (try dsimp only at hSw); go_simp <;> (try with_reducible rfl)
    (try simp only [List.getElem_toArray, List.getElem_cons_succ, List.getElem_cons_zero, Act.put, List.setIfInBounds_toArray, List.set_cons_zero, List.set_cons_succ])
    refine wpAnyH_ready (rs := [11]) (by kernel_rfl) (by simp) ?_
    refine AllReadyH.cons rfl (fun K hK => ?_) AllReadyH.nil
    go_simp
    go_wp2_with fail
    (with_reducible refine (pj_records qA s10.use (by omega)).mono ?_)
    rintro e vB ⟨AC, cC, rfl, hRC, _, hb⟩
    have pB := pA.next hb
    have rB := rA.next hb
    have bB := bA.trans (hb.mono zA)
    have zB := Nat.le_trans zA hb.size
    refine hK.out _ _ (rB.d.cell (k := 1) rfl) (fun hHeld => ?_)
    clear hK K pA rA qA hb bA
    refine wpAnyH_ready (rs := [16]) (by kernel_rfl) (by simp) ?_
    refine AllReadyH.cons rfl (fun K hK => ?_) AllReadyH.nil
    go_simp
    go_wp2_with fail
    (with_reducible refine (same2_any AC R cC cr l l vB hl6 hRC rB.r).mono ?_)
    rintro e v10 ⟨rfl, hb⟩
    rw [decide_eq_true rfl]
    have p10 := pB.next hb
    have r10 := rB.next hb
    have b10 := bB.trans (hb.mono zB)
    have z10 := Nat.le_trans zB hb.size
    refine hK.out _ _ (r10.d.cell (k := 1) rfl) (fun hHeld => ?_)
    clear hK K pB rB hb bB hRC
    refine wpAnyH_take (i := 17) (v := ?vg17) rfl (by kernel_rfl) (by kernel_rfl) (by kernel_rfl) (fun _ _ _ h => h) (Or.inl ⟨by rfl, ?yg17⟩) (by assumption) ?rg17
    case yg17 => intro w hSw; (try dsimp only at hSw); go_simp <;> (try with_reducible rfl)
    (try simp only [List.getElem_toArray, List.getElem_cons_succ, List.getElem_cons_zero, Act.put, List.setIfInBounds_toArray, List.set_cons_zero, List.set_cons_succ])
    refine wpAnyH_take (i := 18) (v := ?vg18) rfl (by kernel_rfl) (by kernel_rfl) (by kernel_rfl) (fun _ _ _ h => h) (Or.inl ⟨by rfl, ?yg18⟩) (by assumption) ?rg18
    case yg18 => intro w hSw; (try dsimp only at hSw); go_simp <;> (try with_reducible rfl)
    (try simp only [List.getElem_toArray, List.getElem_cons_succ, List.getElem_cons_zero, Act.put, List.setIfInBounds_toArray, List.set_cons_zero, List.set_cons_succ])
    refine wpAnyH_take (i := 19) (v := ?vg19) rfl (by kernel_rfl) (by kernel_rfl) (by kernel_rfl) (fun _ _ _ h => h) (Or.inl ⟨by rfl, ?yg19⟩) (by assumption) ?rg19
    case yg19 => intro w hSw; (try dsimp only at hSw); go_simp <;> (try with_reducible rfl)
    (try simp only [List.getElem_toArray, List.getElem_cons_succ, List.getElem_cons_zero, Act.put, List.setIfInBounds_toArray, List.set_cons_zero, List.set_cons_succ])
    clear hHeld
    refine wpAnyH_done (by kernel_rfl) ?_ _
    go_wp2_with fail
    (with_reducible refine (rot_any gc gp2 gm2 k cap2 Y2 (M.rot (i : Int) (b : Int)) (i : Int) (b : Int) _ hok2 p10).mono ?_)
    rintro e v11 ⟨rfl, p11, ho11⟩
    rw [htw.out] at p11
    have r11 := r10.only ho11 (by simp; omega) (fun q hq => by have := (hc5 q hq).2; simp; omega)
    have b11 := below_only b10 ho11 (by simp; omega) z10
    have z11 := Nat.le_trans z10 ho11.size
    clear p10 r10 b10 ho11
    go_wp2_with fail
    (with_reducible refine (openlaw_any nb x l gc gp2 gm2 k cap2 Y2 M n _ s5 h4 (by omega) z11 p11).mono ?_)
    rintro e v12 ⟨gk, Ak, ck, rfl, p12, hle12, hlo12, hb12⟩
    have r12 := r11.next hb12
    have b12 := b11.trans (hb12.mono z11)
    have z12 := Nat.le_trans z11 hb12.size
    clear p11 r11 b11 hb12
    have hdd := below_drew v12
    have pA := p12.next hdd
    have rA := r12.next hdd
    have bA := b12.trans (hdd.mono z12)
    have zA := Nat.le_trans z12 hdd.size
    have hSd := rA.d.cell (k := 1) rfl
    clear p12 r12 b12
    go_wp2
    refine wp_region_held_drew (S := fun w' => w'.cell? ⟨gr, 1, none⟩ = some (.slice R l.length cr)) (by kernel_rfl) hSd (fun hHeld => ?_)
    generalize v12.drew = vA at pA rA bA zA hSd hHeld ⊢
    clear hSd hdd
    refine wpAnyH_ready (rs := [0]) (by kernel_rfl) (by simp) ?_
    refine AllReadyH.cons rfl (fun K hK => ?_) AllReadyH.nil
    go_simp
    go_wp2_with fail
    (with_reducible refine (jsanity_any _).mono ?_)
    rintro e vB ⟨rfl, hb⟩
    have pB := pA.next hb
    have rB := rA.next hb
    have bB := bA.trans (hb.mono zA)
    have zB := Nat.le_trans zA hb.size
    refine hK.out _ _ (rB.d.cell (k := 1) rfl) (fun hHeld => ?_)
    clear hK K pA rA hb bA
    refine wpAnyH_take (i := 1) (v := ?vu3x1) rfl (by kernel_rfl) (by kernel_rfl) (by kernel_rfl) (fun _ _ _ h => h) (Or.inl ⟨by rfl, ?yu3x1⟩) (by assumption) ?ru3x1
    case yu3x1 => intro w hSw; (try dsimp only at hSw); go_simp <;> (try with_reducible rfl)
    (try simp only [List.getElem_toArray, List.getElem_cons_succ, List.getElem_cons_zero, Act.put, List.setIfInBounds_toArray, List.set_cons_zero, List.set_cons_succ])
    refine wpAnyH_take (i := 2) (v := ?vu3x2) rfl (by kernel_rfl) (by kernel_rfl) (by kernel_rfl) (fun _ _ _ h => h) (Or.inl ⟨by rfl, ?yu3x2⟩) (by assumption) ?ru3x2
    case yu3x2 => intro w hSw; (try dsimp only at hSw); go_simp <;> (try with_reducible rfl)
    (try simp only [List.getElem_toArray, List.getElem_cons_succ, List.getElem_cons_zero, Act.put, List.setIfInBounds_toArray, List.set_cons_zero, List.set_cons_succ])
    refine wpAnyH_take (i := 4) (v := ?vu3x4) rfl (by kernel_rfl) (by kernel_rfl) (by kernel_rfl) (fun _ _ _ h => h) (Or.inl ⟨by rfl, ?yu3x4⟩) (by assumption) ?ru3x4
    case yu3x4 => intro w hSw; (try dsimp only at hSw); go_simp <;> (try with_reducible rfl)
    (try simp only [List.getElem_toArray, List.getElem_cons_succ, List.getElem_cons_zero, Act.put, List.setIfInBounds_toArray, List.set_cons_zero, List.set_cons_succ])
    refine wpAnyH_take (i := 5) (v := ?vu3x5) rfl (by kernel_rfl) (by kernel_rfl) (by kernel_rfl) (fun _ _ _ h => h) (Or.inl ⟨by rfl, ?yu3x5⟩) (by assumption) ?ru3x5
    case yu3x5 => intro w hSw; (try dsimp only at hSw); go_simp <;> (try with_reducible rfl)
    (try simp only [List.getElem_toArray, List.getElem_cons_succ, List.getElem_cons_zero, Act.put, List.setIfInBounds_toArray, List.set_cons_zero, List.set_cons_succ])
    refine wpAnyH_take (i := 6) (v := ?vu3x6) rfl (by kernel_rfl) (by kernel_rfl) (by kernel_rfl) (fun _ _ _ h => h) (Or.inl ⟨by rfl, ?yu3x6⟩) (by assumption) ?ru3x6
    case yu3x6 => intro w hSw; (try dsimp only at hSw); go_simp <;> (try with_reducible rfl)
    (try simp only [List.getElem_toArray, List.getElem_cons_succ, List.getElem_cons_zero, Act.put, List.setIfInBounds_toArray, List.set_cons_zero, List.set_cons_succ])
    refine wpAnyH_take (i := 7) (v := ?vu3x7) rfl (by kernel_rfl) (by kernel_rfl) (by kernel_rfl) (fun _ _ _ h => h) (Or.inl ⟨by rfl, ?yu3x7⟩) (by assumption) ?ru3x7
    case yu3x7 => intro w hSw; (try dsimp only at hSw); go_simp <;> (try with_reducible rfl)
    (try simp only [List.getElem_toArray, List.getElem_cons_succ, List.getElem_cons_zero, Act.put, List.setIfInBounds_toArray, List.set_cons_zero, List.set_cons_succ])
    refine wpAnyH_ready (rs := [3]) (by kernel_rfl) (by simp) ?_
    refine AllReadyH.cons rfl (fun K hK => ?_) AllReadyH.nil
    go_simp
    go_wp2_with fail
    (with_reducible refine (pj_records pB s5.use (by omega)).mono ?_)
    rintro e vC ⟨AC, cC, rfl, hRC, _, hb⟩
    have rC := rB.next hb
    have bC := bB.trans (hb.mono zB)
    have zC := Nat.le_trans zB hb.size
    refine hK.out _ _ (rC.d.cell (k := 1) rfl) (fun hHeld => ?_)
    clear hK K pB rB hb bB
    refine wpAnyH_ready (rs := [8]) (by kernel_rfl) (by simp) ?_
    refine AllReadyH.cons rfl (fun K hK => ?_) AllReadyH.nil
    go_simp
    go_wp2_with fail
    (with_reducible refine (same2_any AC R cC cr l l vC hl6 hRC rC.r).mono ?_)
    rintro e vD ⟨rfl, hb⟩
    rw [decide_eq_true rfl]
    have rD := rC.next hb
    have bD := bC.trans (hb.mono zC)
    refine hK.out _ _ (rD.d.cell (k := 1) rfl) (fun hHeld => ?_)
    clear hK K rC hb bC hRC
    refine wpAnyH_take (i := 9) (v := ?vu3x9) rfl (by kernel_rfl) (by kernel_rfl) (by kernel_rfl) (fun _ _ _ h => h) (Or.inl ⟨by rfl, ?yu3x9⟩) (by assumption) ?ru3x9
    case yu3x9 => intro w hSw; (try dsimp only at hSw); go_simp <;> (try with_reducible rfl)
    (try simp only [List.getElem_toArray, List.getElem_cons_succ, List.getElem_cons_zero, Act.put, List.setIfInBounds_toArray, List.set_cons_zero, List.set_cons_succ])
    refine wpAnyH_take (i := 10) (v := ?vu3x10) rfl (by kernel_rfl) (by kernel_rfl) (by kernel_rfl) (fun _ _ _ h => h) (Or.inl ⟨by rfl, ?yu3x10⟩) (by assumption) ?ru3x10
    case yu3x10 => intro w hSw; (try dsimp only at hSw); go_simp <;> (try with_reducible rfl)
    (try simp only [List.getElem_toArray, List.getElem_cons_succ, List.getElem_cons_zero, Act.put, List.setIfInBounds_toArray, List.set_cons_zero, List.set_cons_succ])
    refine wpAnyH_take (i := 11) (v := ?vu3x11) rfl (by kernel_rfl) (by kernel_rfl) (by kernel_rfl) (fun _ _ _ h => h) (Or.inl ⟨by rfl, ?yu3x11⟩) (by assumption) ?ru3x11
    case yu3x11 => intro w hSw; (try dsimp only at hSw); go_simp <;> (try with_reducible rfl)
    (try simp only [List.getElem_toArray, List.getElem_cons_succ, List.getElem_cons_zero, Act.put, List.setIfInBounds_toArray, List.set_cons_zero, List.set_cons_succ])
    refine wpAnyH_take (i := 12) (v := ?vu3x12) rfl (by kernel_rfl) (by kernel_rfl) (by kernel_rfl) (fun _ _ _ h => h) (Or.inl ⟨by rfl, ?yu3x12⟩) (by assumption) ?ru3x12
    case yu3x12 => intro w hSw; (try dsimp only at hSw); go_simp <;> (try with_reducible rfl)
    (try simp only [List.getElem_toArray, List.getElem_cons_succ, List.getElem_cons_zero, Act.put, List.setIfInBounds_toArray, List.set_cons_zero, List.set_cons_succ])
    refine wpAnyH_take (i := 13) (v := ?vu3x13) rfl (by kernel_rfl) (by kernel_rfl) (by kernel_rfl) (fun _ _ _ h => h) (Or.inl ⟨by rfl, ?yu3x13⟩) (by assumption) ?ru3x13
    case yu3x13 => intro w hSw; (try dsimp only at hSw); go_simp <;> (try with_reducible rfl)
    (try simp only [List.getElem_toArray, List.getElem_cons_succ, List.getElem_cons_zero, Act.put, List.setIfInBounds_toArray, List.set_cons_zero, List.set_cons_succ])
    refine wpAnyH_take (i := 14) (v := ?vu3x14) rfl (by kernel_rfl) (by kernel_rfl) (by kernel_rfl) (fun _ _ _ h => h) (Or.inl ⟨by rfl, ?yu3x14⟩) (by assumption) ?ru3x14
    case yu3x14 => intro w hSw; (try dsimp only at hSw); go_simp <;> (try with_reducible rfl)
    (try simp only [List.getElem_toArray, List.getElem_cons_succ, List.getElem_cons_zero, Act.put, List.setIfInBounds_toArray, List.set_cons_zero, List.set_cons_succ])
    refine wpAnyH_take (i := 15) (v := ?vu3x15) rfl (by kernel_rfl) (by kernel_rfl) (by kernel_rfl) (fun _ _ _ h => h) (Or.inl ⟨by rfl, ?yu3x15⟩) (by assumption) ?ru3x15
    case yu3x15 => intro w hSw; (try dsimp only at hSw); go_simp <;> (try with_reducible rfl)
    (try simp only [List.getElem_toArray, List.getElem_cons_succ, List.getElem_cons_zero, Act.put, List.setIfInBounds_toArray, List.set_cons_zero, List.set_cons_succ])
    refine wpAnyH_take (i := 16) (v := ?vu3x16) rfl (by kernel_rfl) (by kernel_rfl) (by kernel_rfl) (fun _ _ _ h => h) (Or.inl ⟨by rfl, ?yu3x16⟩) (by assumption) ?ru3x16
    case yu3x16 => intro w hSw; (try dsimp only at hSw); go_simp <;> (try with_reducible rfl)
    (try simp only [List.getElem_toArray, List.getElem_cons_succ, List.getElem_cons_zero, Act.put, List.setIfInBounds_toArray, List.set_cons_zero, List.set_cons_succ])
    refine wpAnyH_take (i := 17) (v := ?vu3x17) rfl (by kernel_rfl) (by kernel_rfl) (by kernel_rfl) (fun _ _ _ h => h) (Or.inl ⟨by rfl, ?yu3x17⟩) (by assumption) ?ru3x17
    case yu3x17 => intro w hSw; (try dsimp only at hSw); go_simp <;> (try with_reducible rfl)
    (try simp only [List.getElem_toArray, List.getElem_cons_succ, List.getElem_cons_zero, Act.put, List.setIfInBounds_toArray, List.set_cons_zero, List.set_cons_succ])
    have hfin := HW.out _ bD
    clear hHeld rD
    refine wpAnyH_done (by kernel_rfl) ?_ _
    go_wp2
    go_ret
    exact ⟨rfl, hfin⟩
end Go.Proofs.Ythgmlopkcgkjlaa
