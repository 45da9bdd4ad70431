/-
  Contracts of the functions that the statement calls, part 36 of 37 (merged texts: Jla, Jlb). Conditions: as the head of each part says.
-/
import Derived.Test.YthgmlopkcgkjlaaGzI

/-
  The walk of the law JournalMatchesSpec. Conditions: its arguments lie there.
-/
namespace Go.Proofs.Ythgmlopkcgkjlaa
open Go.RowKit Go.Shelf

set_option maxRecDepth 100000 in
set_option maxHeartbeats 6400000 in
theorem specLaw_any (p : Int) (A : Option Addr) (c : Nat) (xs : List OpJ) (w : World) (hl : xs.length ≤ 140737488355328) (hS : ScriptJ w.heap.size w A xs) :
    Calls Try.prog 9 #[.int .i64 p, .slice A xs.length c] w fun e w' => e = .returned (.bool true) ∧ Below w.heap.size w w' := by
  have HS := Lib.hid hS
  clear hS
  obtain ⟨N, hN⟩ : ∃ N, Hid (xs.length = N) := ⟨_, rfl⟩
  rw [hN.out]
  rw [hN.out] at hl
  have hf1 : Calls Try.prog 35 #[.slice A N c] w fun e w' => FewRes xs e ∧ w' = w := by
    have h := jfew_any A c xs w (by rw [hN.out]; exact hl) HS.out
    rw [hN.out] at h
    exact h
  go_enter Try.func9, Try.ntmps9
  go_wp2_with fail
  (with_reducible refine hf1.mono ?_)
  rintro e w ⟨⟨q1, rfl, hq1⟩, rfl⟩
  clear hf1
  by_cases hlo : p < 1
  · go_wp2_with fail
    (with_reducible refine (jsanity_any _).mono ?_)
    rintro e w5 ⟨rfl, hb⟩
    go_wp2
    go_ret
    exact ⟨rfl, hb⟩
  by_cases hhi : 40 < p
  · have hlo' : 1 ≤ p := by omega
    go_wp2_with fail
    (with_reducible refine (jsanity_any _).mono ?_)
    rintro e w5 ⟨rfl, hb⟩
    go_wp2
    go_ret
    exact ⟨rfl, hb⟩
  have hlo' : 1 ≤ p := by omega
  have hhi' : p ≤ 40 := by omega
  rcases q1 with _ | _
  · go_wp2_with fail
    (with_reducible refine (jsanity_any _).mono ?_)
    rintro e w5 ⟨rfl, hb⟩
    go_wp2
    go_ret
    exact ⟨rfl, hb⟩
  obtain ⟨n, rfl⟩ : ∃ n : Nat, p = (n : Int) := ⟨p.toNat, by omega⟩
  have h1n : 1 ≤ n := by omega
  have h40 : n ≤ 40 := by omega
  clear hlo hhi
  obtain ⟨hq10, hqf⟩ := hq1 rfl
  have HF := Lib.hid hqf
  clear hq1 hqf
  rw [hN.out] at hq10
  obtain ⟨nb, hnb⟩ : ∃ nb, Hid (w.heap.size = nb) := ⟨_, rfl⟩
  have HFIN : Hid (∀ w', Below nb w w' → Below w.heap.size w w') := by
    have : ∀ w', Below nb w w' → Below w.heap.size w w' := fun w' h => by rw [hnb.out]; exact h
    exact this
  have HS2 : Hid (ScriptJ nb w A xs) := by
    have := HS.out
    rw [hnb.out] at this
    exact this
  clear HS
  go_wp2_with fail
  (with_reducible refine (new_any n _ (by omega) (by omega)).mono ?_)
  rintro e w1 ⟨gd, gp, gm, rfl, p1, hb1, l1, l2, l3⟩
  have z1 := hb1.size
  by_cases h4n : n < 4
  · have h4i : (n : Int) < 4 := by omega
    go_wp2_with fail
    (with_reducible refine (open_few gd gp gm 0 n [] (DM.make n) n _ (by simp [DM.make]) h4n p1).mono ?_)
    rintro e w1 ⟨rfl, rfl⟩
    go_wp2_with fail
    (with_reducible refine (jnew_bad n _ h4i).mono ?_)
    rintro e w1 ⟨rfl, rfl⟩
    go_wp2_with fail
    (with_reducible refine (jsanity_any _).mono ?_)
    rintro e w5 ⟨rfl, hb⟩
    have hb' := below_join hb1 hb
    go_wp2
    go_ret
    exact ⟨rfl, hb'⟩
  have h4 : 4 ≤ n := by omega
  have z1b : nb ≤ w1.heap.size := by rw [← hnb.out]; exact z1
  rw [hnb.out] at l1 l2 l3 hb1
  go_wp2_with fail
  (with_reducible refine (open_jst nb 0 [] gd gp gm 0 n [] (DM.make n) n _ (jst_make h4 h40) h4 h40 z1b p1).mono ?_)
  rintro e w2 ⟨gj, B, cj, rfl, p2, hle, _, hb2⟩
  have z2 := Nat.le_trans z1b hb2.size
  have b2 := hb1.trans (hb2.mono z1b)
  have j2 : JW nb n w w2 gj gd gp gm n [] 0 [] B := ⟨0, cj, DM.make n, p2, jst_make h4 h40, rfl, b2, ⟨by omega, l1, l2, l3⟩, z2⟩
  clear p1 hb1 p2 hb2 b2
  go_wp2_with fail
  (with_reducible refine (jnew_any n _ h4 h40).mono ?_)
  rintro e w3 ⟨gr, rfl, hr, hb3, hgr⟩
  have hlt := j2.lt
  have hBl := j2.addr
  have h3 : JWR nb n w w3 gj gd gp gm n [] 0 [] B gr none 0 := ⟨j2.next hb3, hr, by simp; omega, fun e => by have := hBl gr e; omega, fun q hq => (by cases hq), by omega⟩
  clear j2 hr hb3 hgr hlt hBl
  go_wp2
  go_loopw [8, 12] (AfRel nb n w gd gp gm gr N) (fun _ i _ => N - natOf i)
  case atStart => exact ⟨0, gj, 0, [], B, none, 0, Nat.zero_le _, rfl, rfl, Nat.le_refl _, h3⟩
  case round =>
    clear h3
    obtain ⟨j, gj', k, l, B', R, cr, hj, rfl, rfl, hk, h⟩ := hrel
    by_cases hjn : j < N
    · have hji : (j : Int) < (N : Int) := by omega
      obtain ⟨x, hx⟩ : ∃ x, xs[j]? = some x := ⟨_, List.getElem?_eq_getElem (by rw [hN.out]; exact hjn)⟩
      obtain ⟨p, rfl, hcw⟩ := HS2.out j x hx
      have hfx := HF.out x (List.mem_of_getElem? hx)
      obtain ⟨kind, nn, kk, fill⟩ := x
      have hn82 : nn ≤ 8200 := hfx.n
      have hk20 : kk ≤ 20 := hfx.k
      have hBw : Below nb w wr := by obtain ⟨_, _, _, _, _, _, b, _, _⟩ := h.p; exact b
      have hc := hcw wr hBw
      have HCW := Lib.hid hcw
      have hun := Try.underlying75
      have huse := h.p.use
      have hcb : capOf n ≤ 2432 := by unfold capOf; omega
      have hc' : ∀ (q : Nat) (u : Value), [Value.int .i64 kind, .int .i64 nn, .int .i64 kk, .int .u8 (fill.toNat : Int)][q]? = some u → wr.cell? ((p.add (j * 4)).add q) = some u := hc
      clear hx hj hcw hfx hc
      go_wp2_with (with_reducible refine wpList_load_add (op := ⟨some 85, .load 75 (.tmp 84), _, _, _, _⟩) (by with_unfolding_all rfl) 75 (.tmp 84) (by with_unfolding_all rfl) (p.add (j * 4)) (by with_unfolding_all rfl) [.int .i64 kind, .int .i64 nn, .int .i64 kk, .int .u8 (fill.toNat : Int)] _ hc' hun (by with_unfolding_all rfl) (by with_unfolding_all exact Try.sizeJ) ?_)
      go_wp2_with fail
      (with_reducible refine (jw_do kind nn kk fill hn82 hk20 h4 h40 (by omega) h.p).mono ?_)
      rintro e v3 ⟨g3, B3, rfl, h3, hF3, hg3, ho3⟩
      obtain ⟨r3, a3, b3, c3⟩ := h.prog h3 hF3 hg3 ho3
      have z3 := h.z
      have hBw3 : Below nb w v3 := by obtain ⟨_, _, _, _, _, _, b, _, _⟩ := h3; exact b
      have hc3 : ∀ (q : Nat) (u : Value), [Value.int .i64 kind, .int .i64 nn, .int .i64 kk, .int .u8 (fill.toNat : Int)][q]? = some u → v3.cell? ((p.add (j * 4)).add q) = some u := HCW.out v3 hBw3
      clear h hF3 hg3 ho3 hc'
      go_wp2_with (with_reducible refine wpList_load_add (op := ⟨some 95, .load 75 (.tmp 94), _, _, _, _⟩) (by with_unfolding_all rfl) 75 (.tmp 94) (by with_unfolding_all rfl) (p.add (j * 4)) (by with_unfolding_all rfl) [.int .i64 kind, .int .i64 nn, .int .i64 kk, .int .u8 (fill.toNat : Int)] _ hc3 hun (by with_unfolding_all rfl) (by with_unfolding_all exact Try.sizeJ) ?_)
      go_wp2_with fail
      (with_reducible refine (jdo_any2 gr R cr (capOf n) l kind nn kk fill _ hn82 hk20 (by omega) (by omega) r3).mono ?_)
      rintro e v4 ⟨rfl, R4, cr4, r4, ho4, hn4⟩
      have hsz3 : ∀ q, q ∈ [g3, gd, gp, gm] → q < v3.heap.size := by
        have := h3.lt
        intro q hq
        simp only [List.mem_cons, List.not_mem_nil, or_false] at hq
        rcases hq with rfl | rfl | rfl | rfl <;> omega
      have h4' : JWR nb n w v4 g3 gd gp gm n [] (k + 41) (JM.doL (capOf n) l ⟨kind, nn, kk, fill⟩) B3 gr R4 cr4 := by
        refine ⟨h3.only ho4 (by intro q hq; simp only [List.mem_singleton] at hq; subst hq; exact ⟨z3, a3, b3⟩), r4, a3, b3, fun q hq => ?_, z3⟩
        rcases hn4 q hq with e1 | ⟨e1, e2⟩
        · exact ⟨(c3 q (e1 ▸ hq)).1, Nat.lt_of_lt_of_le (c3 q (e1 ▸ hq)).2 ho4.size⟩
        · exact ⟨fun hm => by have := hsz3 q hm; omega, e2⟩
      clear h3 r3 r4 ho4 hn4 hc3 c3 hun huse hBw hBw3
      generalize JM.doE (capOf n) l ⟨kind, nn, kk, fill⟩ = E at *
      generalize JM.doN (capOf n) l ⟨kind, nn, kk, fill⟩ = N4 at *
      generalize JM.doL (capOf n) l ⟨kind, nn, kk, fill⟩ = L4 at *
      obtain ⟨m, hm⟩ : ∃ m, Hid (L4.length = m) := ⟨_, rfl⟩
      obtain ⟨U, hU⟩ : ∃ U, Hid (JM.useR L4 = U) := ⟨_, rfl⟩
      obtain ⟨C, hC⟩ : ∃ C, Hid (capOf n = C) := ⟨_, rfl⟩
      have huse := h4'.p.use
      have hcnt := JM.useR_count L4
      rw [hU.out, hC.out] at huse
      rw [hU.out, hm.out] at hcnt
      rw [hC.out] at hcb
      have hdd := below_drew v4
      have h5 := h4'.next hdd
      clear h4' hdd
      have hS0 := h5.r.d.cell (k := 0) rfl
      have hS1 := h5.r.d.cell (k := 1) rfl
      rw [hC.out] at hS0
      rw [hm.out] at hS1
      go_wp2
      refine wp_region_held_drew (S := fun w' => w'.cell? ⟨gr, 0, none⟩ = some (.int .i64 (C : Int)) ∧ w'.cell? ⟨gr, 1, none⟩ = some (.slice R4 m cr4)) (by kernel_rfl) ⟨hS0, hS1⟩ (fun hHeld => ?_)
      generalize v4.drew = v5 at h5 hHeld ⊢
      clear hS0 hS1
      refine wpAnyH_take (i := 0) (v := ?vt0) rfl (by kernel_rfl) (by kernel_rfl) (by kernel_rfl) (fun _ _ _ h => h) (Or.inl ⟨by rfl, ?yt0⟩) (by assumption) ?rt0
      case yt0 => intro w hSw; (try dsimp only at hSw); go_simp <;> (try with_reducible rfl)
      (try simp only [List.getElem_toArray, List.getElem_cons_zero, Act.put, List.setIfInBounds_toArray, List.set_cons_zero, List.set_cons_succ])
      refine wpAnyH_take (i := 1) (v := ?vt1) rfl (by kernel_rfl) (by kernel_rfl) (by kernel_rfl) (fun _ _ _ h => h) (Or.inl ⟨by rfl, ?yt1⟩) (by assumption) ?rt1
      case yt1 => intro w hSw; (try dsimp only at hSw); go_simp <;> (try with_reducible rfl)
      (try simp only [List.getElem_toArray, List.getElem_cons_succ, List.getElem_cons_zero, Act.put, List.setIfInBounds_toArray, List.set_cons_zero, List.set_cons_succ])
      refine wpAnyH_take (i := 2) (v := ?vt2) rfl (by kernel_rfl) (by kernel_rfl) (by kernel_rfl) (fun _ _ _ h => h) (Or.inl ⟨by rfl, ?yt2⟩) (by assumption) ?rt2
      case yt2 => intro w hSw; (try dsimp only at hSw); go_simp <;> (try with_reducible rfl)
      (try simp only [List.getElem_toArray, List.getElem_cons_succ, List.getElem_cons_zero, Act.put, List.setIfInBounds_toArray, List.set_cons_zero, List.set_cons_succ])
      refine wpAnyH_take (i := 3) (v := ?vt3) rfl (by kernel_rfl) (by kernel_rfl) (by kernel_rfl) (fun _ _ _ h => h) (Or.inl ⟨by rfl, ?yt3⟩) (by assumption) ?rt3
      case yt3 => intro w hSw; (try dsimp only at hSw); go_simp <;> (try with_reducible rfl)
      (try simp only [List.getElem_toArray, List.getElem_cons_succ, List.getElem_cons_zero, Act.put, List.setIfInBounds_toArray, List.set_cons_zero, List.set_cons_succ])
      refine wpAnyH_take (i := 4) (v := ?vt4) rfl (by kernel_rfl) (by kernel_rfl) (by kernel_rfl) (fun _ _ _ h => h) (Or.inl ⟨by rfl, ?yt4⟩) (by assumption) ?rt4
      case yt4 => intro w hSw; (try dsimp only at hSw); go_simp <;> (try with_reducible rfl)
      (try simp only [List.getElem_toArray, List.getElem_cons_succ, List.getElem_cons_zero, Act.put, List.setIfInBounds_toArray, List.set_cons_zero, List.set_cons_succ])
      refine wpAnyH_take (i := 5) (v := ?vt5) rfl (by kernel_rfl) (by kernel_rfl) (by kernel_rfl) (fun _ _ _ h => h) (Or.inl ⟨by rfl, ?yt5⟩) (by assumption) ?rt5
      case yt5 => intro w hSw; (try dsimp only at hSw); go_simp <;> (try with_reducible rfl)
      (try simp only [List.getElem_toArray, List.getElem_cons_succ, List.getElem_cons_zero, Act.put, List.setIfInBounds_toArray, List.set_cons_zero, List.set_cons_succ])
      refine wpAnyH_take (i := 6) (v := ?vt6) rfl (by kernel_rfl) (by kernel_rfl) (by kernel_rfl) (fun _ _ _ h => h) (Or.inl ⟨by rfl, ?yt6⟩) (by assumption) ?rt6
      case yt6 => intro w hSw; (try dsimp only at hSw); go_simp <;> (try with_reducible rfl)
      (try simp only [List.getElem_toArray, List.getElem_cons_succ, List.getElem_cons_zero, Act.put, List.setIfInBounds_toArray, List.set_cons_zero, List.set_cons_succ])
      refine wpAnyH_take (i := 7) (v := ?vt7) rfl (by kernel_rfl) (by kernel_rfl) (by kernel_rfl) (fun _ _ _ h => h) (Or.inl ⟨by rfl, ?yt7⟩) (by assumption) ?rt7
      case yt7 => intro w hSw; (try dsimp only at hSw); go_simp <;> (try with_reducible rfl)
      (try simp only [List.getElem_toArray, List.getElem_cons_succ, List.getElem_cons_zero, Act.put, List.setIfInBounds_toArray, List.set_cons_zero, List.set_cons_succ])
      refine wpAnyH_take (i := 8) (v := ?vt8) rfl (by kernel_rfl) (by kernel_rfl) (by kernel_rfl) (fun _ _ _ h => h) (Or.inl ⟨by rfl, ?yt8⟩) (by assumption) ?rt8
      case yt8 => intro w hSw; (try dsimp only at hSw); go_simp <;> (try with_reducible rfl)
      (try simp only [List.getElem_toArray, List.getElem_cons_succ, List.getElem_cons_zero, Act.put, List.setIfInBounds_toArray, List.set_cons_zero, List.set_cons_succ])
      refine wpAnyH_take (i := 9) (v := ?vt9) rfl (by kernel_rfl) (by kernel_rfl) (by kernel_rfl) (fun _ _ _ h => h) (Or.inl ⟨by rfl, ?yt9⟩) (by assumption) ?rt9
      case yt9 => intro w hSw; (try dsimp only at hSw); go_simp <;> (try with_reducible rfl)
      (try simp only [List.getElem_toArray, List.getElem_cons_succ, List.getElem_cons_zero, Act.put, List.setIfInBounds_toArray, List.set_cons_zero, List.set_cons_succ])
      refine wpAnyH_take (i := 11) (v := ?vt11) rfl (by kernel_rfl) (by kernel_rfl) (by kernel_rfl) (fun _ _ _ h => h) (Or.inl ⟨by rfl, ?yt11⟩) (by assumption) ?rt11
      case yt11 => intro w hSw; (try dsimp only at hSw); go_simp <;> (try with_reducible rfl)
      (try simp only [List.getElem_toArray, List.getElem_cons_succ, List.getElem_cons_zero, Act.put, List.setIfInBounds_toArray, List.set_cons_zero, List.set_cons_succ])
      refine wpAnyH_take (i := 12) (v := ?vt12) rfl (by kernel_rfl) (by kernel_rfl) (by kernel_rfl) (fun _ _ _ h => h) (Or.inl ⟨by rfl, ?yt12⟩) (by assumption) ?rt12
      case yt12 => intro w hSw; (try dsimp only at hSw); go_simp <;> (try with_reducible rfl)
      (try simp only [List.getElem_toArray, List.getElem_cons_succ, List.getElem_cons_zero, Act.put, List.setIfInBounds_toArray, List.set_cons_zero, List.set_cons_succ])
      refine wpAnyH_take (i := 13) (v := ?vt13) rfl (by kernel_rfl) (by kernel_rfl) (by kernel_rfl) (fun _ _ _ h => h) (Or.inl ⟨by rfl, ?yt13⟩) (by assumption) ?rt13
      case yt13 => intro w hSw; (try dsimp only at hSw); go_simp <;> (try with_reducible rfl)
      (try simp only [List.getElem_toArray, List.getElem_cons_succ, List.getElem_cons_zero, Act.put, List.setIfInBounds_toArray, List.set_cons_zero, List.set_cons_succ])
      refine wpAnyH_take (i := 14) (v := ?vt14) rfl (by kernel_rfl) (by kernel_rfl) (by kernel_rfl) (fun _ _ _ h => h) (Or.inl ⟨by rfl, ?yt14⟩) (by assumption) ?rt14
      case yt14 => intro w hSw; (try dsimp only at hSw); go_simp <;> (try with_reducible rfl)
      (try simp only [List.getElem_toArray, List.getElem_cons_succ, List.getElem_cons_zero, Act.put, List.setIfInBounds_toArray, List.set_cons_zero, List.set_cons_succ])
      refine wpAnyH_ready (rs := [10]) (by kernel_rfl) (by simp) ?_
      refine AllReadyH.cons rfl (fun K hK => ?_) AllReadyH.nil
      go_simp
      go_wp2_with fail
      (with_reducible refine (jw_records h5.p h40).mono ?_)
      rintro e v6 ⟨A6, c6, rfl, hR6, _, _, _, hb⟩
      have h6 := h5.next hb
      have S6 : v6.cell? ⟨gr, 0, none⟩ = some (.int .i64 (C : Int)) ∧ v6.cell? ⟨gr, 1, none⟩ = some (.slice R4 m cr4) := ⟨by have := h6.r.d.cell (k := 0) rfl; rw [hC.out] at this; exact this, by have := h6.r.d.cell (k := 1) rfl; rw [hm.out] at this; exact this⟩
      rw [hm.out]
      refine hK.out _ _ S6 (fun hHeld => ?_)
      clear hK K h5 hb S6
      refine wpAnyH_ready (rs := [15]) (by kernel_rfl) (by simp) ?_
      refine AllReadyH.cons rfl (fun K hK => ?_) AllReadyH.nil
      go_simp
      have hsm := same2_any A6 R4 c6 cr4 L4 L4 v6 (by rw [hm.out]; omega) hR6 h6.r.r
      rw [hm.out, decide_eq_true rfl] at hsm
      go_wp2_with fail
      (with_reducible refine hsm.mono ?_)
      rintro e v7 ⟨rfl, hb⟩
      have h7 := h6.next hb
      have S7 : v7.cell? ⟨gr, 0, none⟩ = some (.int .i64 (C : Int)) ∧ v7.cell? ⟨gr, 1, none⟩ = some (.slice R4 m cr4) := ⟨by have := h7.r.d.cell (k := 0) rfl; rw [hC.out] at this; exact this, by have := h7.r.d.cell (k := 1) rfl; rw [hm.out] at this; exact this⟩
      refine hK.out _ _ S7 (fun hHeld => ?_)
      clear hK K h6 hb hsm hR6
      refine wpAnyH_take (i := 16) (v := ?vt16) rfl (by kernel_rfl) (by kernel_rfl) (by kernel_rfl) (fun _ _ _ h => h) (Or.inl ⟨by rfl, ?yt16⟩) (by assumption) ?rt16
      case yt16 => intro w hSw; (try dsimp only at hSw); go_simp <;> (try with_reducible rfl)
      (try simp only [List.getElem_toArray, List.getElem_cons_succ, List.getElem_cons_zero, Act.put, List.setIfInBounds_toArray, List.set_cons_zero, List.set_cons_succ])
      refine wpAnyH_take (i := 17) (v := ?vt17) rfl (by kernel_rfl) (by kernel_rfl) (by kernel_rfl) (fun _ _ _ h => h) (Or.inl ⟨by rfl, ?yt17⟩) (by assumption) ?rt17
      case yt17 => intro w hSw; (try dsimp only at hSw); go_simp <;> (try with_reducible rfl)
      (try simp only [List.getElem_toArray, List.getElem_cons_succ, List.getElem_cons_zero, Act.put, List.setIfInBounds_toArray, List.set_cons_zero, List.set_cons_succ])
      refine wpAnyH_take (i := 18) (v := ?vt18) rfl (by kernel_rfl) (by kernel_rfl) (by kernel_rfl) (fun _ _ _ h => h) (Or.inl ⟨by rfl, ?yt18⟩) (by assumption) ?rt18
      case yt18 => intro w hSw; (try dsimp only at hSw); go_simp <;> (try with_reducible rfl)
      (try simp only [List.getElem_toArray, List.getElem_cons_succ, List.getElem_cons_zero, Act.put, List.setIfInBounds_toArray, List.set_cons_zero, List.set_cons_succ])
      refine wpAnyH_take (i := 19) (v := ?vt19) rfl (by kernel_rfl) (by kernel_rfl) (by kernel_rfl) (fun _ _ _ h => h) (Or.inl ⟨by rfl, ?yt19⟩) (by assumption) ?rt19
      case yt19 => intro w hSw; (try dsimp only at hSw); go_simp <;> (try with_reducible rfl)
      (try simp only [List.getElem_toArray, List.getElem_cons_succ, List.getElem_cons_zero, Act.put, List.setIfInBounds_toArray, List.set_cons_zero, List.set_cons_succ])
      refine wpAnyH_take (i := 21) (v := ?vt21) rfl (by kernel_rfl) (by kernel_rfl) (by kernel_rfl) (fun _ _ _ h => h) (Or.inl ⟨by rfl, ?yt21⟩) (by assumption) ?rt21
      case yt21 => intro w hSw; (try dsimp only at hSw); go_simp <;> (try with_reducible rfl)
      (try simp only [List.getElem_toArray, List.getElem_cons_succ, List.getElem_cons_zero, Act.put, List.setIfInBounds_toArray, List.set_cons_zero, List.set_cons_succ])
      refine wpAnyH_take (i := 22) (v := ?vt22) rfl (by kernel_rfl) (by kernel_rfl) (by kernel_rfl) (fun _ _ _ h => h) (Or.inl ⟨by rfl, ?yt22⟩) (by assumption) ?rt22
      case yt22 => intro w hSw; (try dsimp only at hSw); go_simp <;> (try with_reducible rfl)
      (try simp only [List.getElem_toArray, List.getElem_cons_succ, List.getElem_cons_zero, Act.put, List.setIfInBounds_toArray, List.set_cons_zero, List.set_cons_succ])
      refine wpAnyH_take (i := 23) (v := ?vt23) rfl (by kernel_rfl) (by kernel_rfl) (by kernel_rfl) (fun _ _ _ h => h) (Or.inl ⟨by rfl, ?yt23⟩) (by assumption) ?rt23
      case yt23 => intro w hSw; (try dsimp only at hSw); go_simp <;> (try with_reducible rfl)
      (try simp only [List.getElem_toArray, List.getElem_cons_succ, List.getElem_cons_zero, Act.put, List.setIfInBounds_toArray, List.set_cons_zero, List.set_cons_succ])
      refine wpAnyH_take (i := 24) (v := ?vt24) rfl (by kernel_rfl) (by kernel_rfl) (by kernel_rfl) (fun _ _ _ h => h) (Or.inl ⟨by rfl, ?yt24⟩) (by assumption) ?rt24
      case yt24 => intro w hSw; (try dsimp only at hSw); go_simp <;> (try with_reducible rfl)
      (try simp only [List.getElem_toArray, List.getElem_cons_succ, List.getElem_cons_zero, Act.put, List.setIfInBounds_toArray, List.set_cons_zero, List.set_cons_succ])
      refine wpAnyH_take (i := 25) (v := ?vt25) rfl (by kernel_rfl) (by kernel_rfl) (by kernel_rfl) (fun _ _ _ h => h) (Or.inl ⟨by rfl, ?yt25⟩) (by assumption) ?rt25
      case yt25 => intro w hSw; (try dsimp only at hSw); go_simp <;> (try with_reducible rfl)
      (try simp only [List.getElem_toArray, List.getElem_cons_succ, List.getElem_cons_zero, Act.put, List.setIfInBounds_toArray, List.set_cons_zero, List.set_cons_succ])
      refine wpAnyH_ready (rs := [20]) (by kernel_rfl) (by simp) ?_
      refine AllReadyH.cons rfl (fun K hK => ?_) AllReadyH.nil
      go_simp
      go_wp2_with fail
      (with_reducible refine (jw_len h7.p).mono ?_)
      rintro e v7 ⟨rfl, rfl⟩
      rw [hm.out]
      refine hK.out _ _ S7 (fun hHeld => ?_)
      clear hK K
      refine wpAnyH_take (i := 26) (v := ?vt26) rfl (by kernel_rfl) (by kernel_rfl) (by kernel_rfl) (fun _ _ _ h => h) (Or.inl ⟨by rfl, ?yt26⟩) (by assumption) ?rt26
      case yt26 => intro w hSw; (try dsimp only at hSw); go_simp <;> (try with_reducible rfl)
      (try simp only [List.getElem_toArray, List.getElem_cons_succ, List.getElem_cons_zero, Act.put, List.setIfInBounds_toArray, List.set_cons_zero, List.set_cons_succ])
      refine wpAnyH_take (i := 27) (v := ?vt27) rfl (by kernel_rfl) (by kernel_rfl) (by kernel_rfl) (fun _ _ _ h => h) (Or.inl ⟨by rfl, ?yt27⟩) (by assumption) ?rt27
      case yt27 => intro w hSw; (try dsimp only at hSw); go_simp <;> (try with_reducible rfl)
      (try simp only [List.getElem_toArray, List.getElem_cons_succ, List.getElem_cons_zero, Act.put, List.setIfInBounds_toArray, List.set_cons_zero, List.set_cons_succ])
      refine wpAnyH_take (i := 28) (v := ?vt28) rfl (by kernel_rfl) (by kernel_rfl) (by kernel_rfl) (fun _ _ _ h => h) (Or.inl ⟨by rfl, ?yt28⟩) (by assumption) ?rt28
      case yt28 => intro w hSw; (try dsimp only at hSw); go_simp <;> (try with_reducible rfl)
      (try simp only [List.getElem_toArray, List.getElem_cons_succ, List.getElem_cons_zero, Act.put, List.setIfInBounds_toArray, List.set_cons_zero, List.set_cons_succ])
      refine wpAnyH_take (i := 29) (v := ?vt29) rfl (by kernel_rfl) (by kernel_rfl) (by kernel_rfl) (fun _ _ _ h => h) (Or.inl ⟨by rfl, ?yt29⟩) (by assumption) ?rt29
      case yt29 => intro w hSw; (try dsimp only at hSw); go_simp <;> (try with_reducible rfl)
      (try simp only [List.getElem_toArray, List.getElem_cons_succ, List.getElem_cons_zero, Act.put, List.setIfInBounds_toArray, List.set_cons_zero, List.set_cons_succ])
      refine wpAnyH_take (i := 31) (v := ?vt31) rfl (by kernel_rfl) (by kernel_rfl) (by kernel_rfl) (fun _ _ _ h => h) (Or.inl ⟨by rfl, ?yt31⟩) (by assumption) ?rt31
      case yt31 => intro w hSw; (try dsimp only at hSw); go_simp <;> (try with_reducible rfl)
      (try simp only [List.getElem_toArray, List.getElem_cons_succ, List.getElem_cons_zero, Act.put, List.setIfInBounds_toArray, List.set_cons_zero, List.set_cons_succ])
      refine wpAnyH_take (i := 32) (v := ?vt32) rfl (by kernel_rfl) (by kernel_rfl) (by kernel_rfl) (fun _ _ _ h => h) (Or.inl ⟨by rfl, ?yt32⟩) (by assumption) ?rt32
      case yt32 => intro w hSw; (try dsimp only at hSw); go_simp <;> (try with_reducible rfl)
      (try simp only [List.getElem_toArray, List.getElem_cons_succ, List.getElem_cons_zero, Act.put, List.setIfInBounds_toArray, List.set_cons_zero, List.set_cons_succ])
      refine wpAnyH_take (i := 33) (v := ?vt33) rfl (by kernel_rfl) (by kernel_rfl) (by kernel_rfl) (fun _ _ _ h => h) (Or.inl ⟨by rfl, ?yt33⟩) (by assumption) ?rt33
      case yt33 => intro w hSw; (try dsimp only at hSw); go_simp <;> (try with_reducible rfl)
      (try simp only [List.getElem_toArray, List.getElem_cons_succ, List.getElem_cons_zero, Act.put, List.setIfInBounds_toArray, List.set_cons_zero, List.set_cons_succ])
      refine wpAnyH_take (i := 34) (v := ?vt34) rfl (by kernel_rfl) (by kernel_rfl) (by kernel_rfl) (fun _ _ _ h => h) (Or.inl ⟨by rfl, ?yt34⟩) (by assumption) ?rt34
      case yt34 => intro w hSw; (try dsimp only at hSw); go_simp <;> (try with_reducible rfl)
      (try simp only [List.getElem_toArray, List.getElem_cons_succ, List.getElem_cons_zero, Act.put, List.setIfInBounds_toArray, List.set_cons_zero, List.set_cons_succ])
      have hru : ∀ v, v = v7 → Calls Try.prog 45 #[.slice R4 m cr4] v7 fun e w' => e = .returned (.int .i64 (U : Int)) ∧ v7 = w' := fun v _ => by
        have hx := rused_any R4 cr4 L4 v7 (by rw [hU.out]; omega) h7.r.r
        rw [hm.out, hU.out] at hx
        exact hx
      refine wpAnyH_ready (rs := [30]) (by kernel_rfl) (by simp) ?_
      refine AllReadyH.cons rfl (fun K hK => ?_) AllReadyH.nil
      go_simp
      go_wp2_with fail
      (with_reducible refine (jw_used h7.p).mono ?_)
      rintro e v7 ⟨rfl, rfl⟩
      rw [hU.out]
      refine hK.out _ _ S7 (fun hHeld => ?_)
      clear hK K
      refine wpAnyH_ready (rs := [35]) (by kernel_rfl) (by simp) ?_
      refine AllReadyH.cons rfl (fun K hK => ?_) AllReadyH.nil
      go_simp
      go_wp2_with fail
      (with_reducible refine (hru _ rfl).mono ?_)
      rintro e v7 ⟨rfl, rfl⟩
      refine hK.out _ _ S7 (fun hHeld => ?_)
      clear hK K
      refine wpAnyH_take (i := 36) (v := ?vt36) rfl (by kernel_rfl) (by kernel_rfl) (by kernel_rfl) (fun _ _ _ h => h) (Or.inl ⟨by rfl, ?yt36⟩) (by assumption) ?rt36
      case yt36 => intro w hSw; (try dsimp only at hSw); go_simp <;> (try with_reducible rfl)
      (try simp only [List.getElem_toArray, List.getElem_cons_succ, List.getElem_cons_zero, Act.put, List.setIfInBounds_toArray, List.set_cons_zero, List.set_cons_succ])
      refine wpAnyH_take (i := 37) (v := ?vt37) rfl (by kernel_rfl) (by kernel_rfl) (by kernel_rfl) (fun _ _ _ h => h) (Or.inl ⟨by rfl, ?yt37⟩) (by assumption) ?rt37
      case yt37 => intro w hSw; (try dsimp only at hSw); go_simp <;> (try with_reducible rfl)
      (try simp only [List.getElem_toArray, List.getElem_cons_succ, List.getElem_cons_zero, Act.put, List.setIfInBounds_toArray, List.set_cons_zero, List.set_cons_succ])
      refine wpAnyH_take (i := 38) (v := ?vt38) rfl (by kernel_rfl) (by kernel_rfl) (by kernel_rfl) (fun _ _ _ h => h) (Or.inl ⟨by rfl, ?yt38⟩) (by assumption) ?rt38
      case yt38 => intro w hSw; (try dsimp only at hSw); go_simp <;> (try with_reducible rfl)
      (try simp only [List.getElem_toArray, List.getElem_cons_succ, List.getElem_cons_zero, Act.put, List.setIfInBounds_toArray, List.set_cons_zero, List.set_cons_succ])
      refine wpAnyH_take (i := 39) (v := ?vt39) rfl (by kernel_rfl) (by kernel_rfl) (by kernel_rfl) (fun _ _ _ h => h) (Or.inl ⟨by rfl, ?yt39⟩) (by assumption) ?rt39
      case yt39 => intro w hSw; (try dsimp only at hSw); go_simp <;> (try with_reducible rfl)
      (try simp only [List.getElem_toArray, List.getElem_cons_succ, List.getElem_cons_zero, Act.put, List.setIfInBounds_toArray, List.set_cons_zero, List.set_cons_succ])
      refine wpAnyH_take (i := 41) (v := ?vt41) rfl (by kernel_rfl) (by kernel_rfl) (by kernel_rfl) (fun _ _ _ h => h) (Or.inl ⟨by rfl, ?yt41⟩) (by assumption) ?rt41
      case yt41 => intro w hSw; (try dsimp only at hSw); go_simp <;> (try with_reducible rfl)
      (try simp only [List.getElem_toArray, List.getElem_cons_succ, List.getElem_cons_zero, Act.put, List.setIfInBounds_toArray, List.set_cons_zero, List.set_cons_succ])
      refine wpAnyH_take (i := 42) (v := ?vt42) rfl (by kernel_rfl) (by kernel_rfl) (by kernel_rfl) (fun _ _ _ h => h) (Or.inl ⟨by rfl, ?yt42⟩) (by assumption) ?rt42
      case yt42 => intro w hSw; (try dsimp only at hSw); go_simp <;> (try with_reducible rfl)
      (try simp only [List.getElem_toArray, List.getElem_cons_succ, List.getElem_cons_zero, Act.put, List.setIfInBounds_toArray, List.set_cons_zero, List.set_cons_succ])
      refine wpAnyH_take (i := 43) (v := ?vt43) rfl (by kernel_rfl) (by kernel_rfl) (by kernel_rfl) (fun _ _ _ h => h) (Or.inl ⟨by rfl, ?yt43⟩) (by assumption) ?rt43
      case yt43 => intro w hSw; (try dsimp only at hSw); go_simp <;> (try with_reducible rfl)
      (try simp only [List.getElem_toArray, List.getElem_cons_succ, List.getElem_cons_zero, Act.put, List.setIfInBounds_toArray, List.set_cons_zero, List.set_cons_succ])
      refine wpAnyH_take (i := 44) (v := ?vt44) rfl (by kernel_rfl) (by kernel_rfl) (by kernel_rfl) (fun _ _ _ h => h) (Or.inl ⟨by rfl, ?yt44⟩) (by assumption) ?rt44
      case yt44 => intro w hSw; (try dsimp only at hSw); go_simp <;> (try with_reducible rfl)
      (try simp only [List.getElem_toArray, List.getElem_cons_succ, List.getElem_cons_zero, Act.put, List.setIfInBounds_toArray, List.set_cons_zero, List.set_cons_succ])
      refine wpAnyH_take (i := 45) (v := ?vt45) rfl (by kernel_rfl) (by kernel_rfl) (by kernel_rfl) (fun _ _ _ h => h) (Or.inl ⟨by rfl, ?yt45⟩) (by assumption) ?rt45
      case yt45 => intro w hSw; (try dsimp only at hSw); go_simp <;> (try with_reducible rfl)
      (try simp only [List.getElem_toArray, List.getElem_cons_succ, List.getElem_cons_zero, Act.put, List.setIfInBounds_toArray, List.set_cons_zero, List.set_cons_succ])
      refine wpAnyH_take (i := 46) (v := ?vt46) rfl (by kernel_rfl) (by kernel_rfl) (by kernel_rfl) (fun _ _ _ h => h) (Or.inl ⟨by rfl, ?yt46⟩) (by assumption) ?rt46
      case yt46 => intro w hSw; (try dsimp only at hSw); go_simp <;> (try with_reducible rfl)
      (try simp only [List.getElem_toArray, List.getElem_cons_succ, List.getElem_cons_zero, Act.put, List.setIfInBounds_toArray, List.set_cons_zero, List.set_cons_succ])
      refine wpAnyH_take (i := 47) (v := ?vt47) rfl (by kernel_rfl) (by kernel_rfl) (by kernel_rfl) (fun _ _ _ h => h) (Or.inl ⟨by rfl, ?yt47⟩) (by assumption) ?rt47
      case yt47 => intro w hSw; (try dsimp only at hSw); go_simp <;> (try with_reducible rfl)
      (try simp only [List.getElem_toArray, List.getElem_cons_succ, List.getElem_cons_zero, Act.put, List.setIfInBounds_toArray, List.set_cons_zero, List.set_cons_succ])
      refine wpAnyH_take (i := 48) (v := ?vt48) rfl (by kernel_rfl) (by kernel_rfl) (by kernel_rfl) (fun _ _ _ h => h) (Or.inl ⟨by rfl, ?yt48⟩) (by assumption) ?rt48
      case yt48 => intro w hSw; (try dsimp only at hSw); go_simp <;> (try with_reducible rfl)
      (try simp only [List.getElem_toArray, List.getElem_cons_succ, List.getElem_cons_zero, Act.put, List.setIfInBounds_toArray, List.set_cons_zero, List.set_cons_succ])
      refine wpAnyH_ready (rs := [40]) (by kernel_rfl) (by simp) ?_
      refine AllReadyH.cons rfl (fun K hK => ?_) AllReadyH.nil
      go_simp
      go_wp2_with fail
      (with_reducible refine (jw_room h7.p h4 h40).mono ?_)
      rintro e v7 ⟨rfl, rfl⟩
      rw [hC.out, hU.out]
      refine hK.out _ _ S7 (fun hHeld => ?_)
      clear hK K
      refine wpAnyH_ready (rs := [49]) (by kernel_rfl) (by simp) ?_
      refine AllReadyH.cons rfl (fun K hK => ?_) AllReadyH.nil
      go_simp
      go_wp2_with fail
      (with_reducible refine (hru _ rfl).mono ?_)
      rintro e v7 ⟨rfl, rfl⟩
      refine hK.out _ _ S7 (fun hHeld => ?_)
      clear hK K
      have hsub : IntKind.i64.wrap ((C : Int) - (U : Int)) = (C : Int) - (U : Int) := IntWalk.i64_in _ ⟨by omega, by omega⟩
      refine wpAnyH_take (i := 50) (v := ?vt50) rfl (by kernel_rfl) (by kernel_rfl) (by kernel_rfl) (fun _ _ _ h => h) (Or.inl ⟨by rfl, ?yt50⟩) (by assumption) ?rt50
      case yt50 => intro w hSw; (try dsimp only at hSw); go_simp <;> (try with_reducible rfl)
      (try simp only [List.getElem_toArray, List.getElem_cons_succ, List.getElem_cons_zero, Act.put, List.setIfInBounds_toArray, List.set_cons_zero, List.set_cons_succ])
      refine wpAnyH_take (i := 51) (v := ?vt51) rfl (by kernel_rfl) (by kernel_rfl) (by kernel_rfl) (fun _ _ _ h => h) (Or.inl ⟨by rfl, ?yt51⟩) (by assumption) ?rt51
      case yt51 => intro w hSw; (try dsimp only at hSw); go_simp <;> (try with_reducible rfl)
      (try simp only [List.getElem_toArray, List.getElem_cons_succ, List.getElem_cons_zero, Act.put, List.setIfInBounds_toArray, List.set_cons_zero, List.set_cons_succ])
      refine wpAnyH_take (i := 52) (v := ?vt52) rfl (by kernel_rfl) (by kernel_rfl) (by kernel_rfl) (fun _ _ _ h => h) (Or.inl ⟨by rfl, ?yt52⟩) (by assumption) ?rt52
      case yt52 => intro w hSw; (try dsimp only at hSw); go_simp <;> (try with_reducible rfl)
      (try simp only [List.getElem_toArray, List.getElem_cons_succ, List.getElem_cons_zero, Act.put, List.setIfInBounds_toArray, List.set_cons_zero, List.set_cons_succ])
      refine wpAnyH_done (by kernel_rfl) ?_ _
      have c71 := S7.2
      clear hru
      by_cases hm0 : m = 0
      · have hm0i : (m : Int) ≤ 0 := by omega
        have hjn1 := jw_none (-1) h7.p (.inl (by omega))
        have hjn2 := jw_none 0 h7.p (.inr (by rw [hm.out, hm0]; decide))
        go_wp2_with fail
        (with_reducible refine hjn1.mono ?_)
        rintro e v7 ⟨rfl, rfl⟩
        go_wp2_with fail
        (with_reducible refine hjn2.mono ?_)
        rintro e v7 ⟨rfl, rfl⟩
        clear hjn1 hjn2
        go_wp2
        go_quiet (fail)
        have h8 := h7.next (below_drewN (Below.refl _ _) nq)
        generalize v7.drewN nq = v8 at h8 ⊢
        clear h7 S7 c71
        go_wp2
        go_roundw
        case rel => exact ⟨j + 1, g3, k + 41, _, B3, R4, cr4, by omega, by go_num, rfl, by omega, h8⟩
        case measure => simp [natOf]; omega
      · obtain ⟨q, hq⟩ : ∃ q, m = q + 1 := ⟨m - 1, by omega⟩
        have hmq : (m : Int) - 1 = (q : Int) := by omega
        have hm0i : (0 : Int) < (m : Int) := by omega
        have hqm : (q : Int) < (m : Int) := by omega
        have hq0 : (0 : Int) ≤ (q : Int) := by omega
        have HQ := Lib.hid hq
        have hm0n : 0 < m := by omega
        have hqmn : q < m := by omega
        have hm0x : m ≠ 0 := by omega
        obtain ⟨r, hr⟩ : ∃ r, L4[q]? = some r := ⟨_, List.getElem?_eq_getElem (by rw [hm.out]; omega)⟩
        have hjn1 := jw_record q r h7.p hr h40
        have hjn2 := jw_none (m : Int) h7.p (.inr (by rw [hm.out]; omega))
        clear hq hm0
        go_wp2_with fail
        (with_reducible refine hjn1.mono ?_)
        rintro e v7 ⟨rfl, rfl⟩
        go_wp2_with fail
        (with_reducible refine hjn2.mono ?_)
        rintro e v7 ⟨rfl, rfl⟩
        clear hjn1 hjn2
        obtain ⟨gR, rfl, hcR⟩ := h7.r.r.map q r hr
        clear hr
        go_wp2
        go_quiet (fail)
        have h8 := h7.next (below_drewN (Below.refl _ _) nq)
        generalize v7.drewN nq = v8 at h8 ⊢
        clear h7 S7 c71 hcR
        go_wp2
        go_roundw
        case rel => exact ⟨j + 1, g3, k + 41, _, B3, some ⟨gR, 0, none⟩, cr4, by omega, by go_num, rfl, by omega, h8⟩
        case measure => simp [natOf]; omega
    · obtain rfl : j = N := by omega
      have hfin := HFIN.out _ (by obtain ⟨_, _, _, _, _, _, b, _, _⟩ := h.p; exact b)
      go_wp2_with fail
      (with_reducible refine (jsanity_any _).mono ?_)
      rintro e w5 ⟨rfl, hb⟩
      have hb' := below_join hfin hb
      go_wp2
      go_ret
      exact ⟨rfl, hb'⟩
end Go.Proofs.Ythgmlopkcgkjlaa

/-
  What a rotted bit makes of a disk that holds a journal, in plain words. Conditions: none.
-/
namespace Go.Proofs.Ythgmlopkcgkjlaa
open Go.RowKit Go.Shelf

theorem flip_get (l : List UInt8) (b k : Nat) (hb : b / 8 < l.length) : (DM.flip l b)[k]? = if k = b / 8 then some (l.getD (b / 8) 0 ^^^ UInt8.ofNat (2 ^ (b % 8))) else l[k]? := by
  unfold DM.flip
  by_cases h : k = b / 8
  · subst h
    rw [if_pos rfl, List.getElem?_set_self hb]
  · rw [if_neg h, List.getElem?_set_ne (fun e => h e.symm)]
theorem xor_bit_ne (x : UInt8) : ∀ r, r < 8 → x ^^^ UInt8.ofNat (2 ^ r) ≠ x := by
  intro r hr e
  have h1 : x ^^^ (x ^^^ UInt8.ofNat (2 ^ r)) = x ^^^ x := by rw [e]
  rw [← UInt8.xor_assoc, UInt8.xor_self, UInt8.zero_xor] at h1
  have h2 := congrArg UInt8.toNat h1
  rw [pow_byte r hr] at h2
  have : 0 < 2 ^ r := Nat.two_pow_pos r
  have h0 : (0 : UInt8).toNat = 0 := rfl
  omega
theorem mark_rot : ∀ r, r < 8 → halfOf ((0 : UInt8) ^^^ UInt8.ofNat (2 ^ r)) = -1 ∧ halfOf ((255 : UInt8) ^^^ UInt8.ofNat (2 ^ r)) = -1 := by decide
theorem rot_old {M : DM} {i b : Nat} (hi : i < M.ps.length) (hb : b < 1024) (k : Nat) : ((M.rot (i : Int) (b : Int)).page k).old = if k = i then DM.flip (M.page k).old b else (M.page k).old := by
  have hfit : (M.okP (i : Int) && decide (0 ≤ (b : Int) ∧ (b : Int) < 1024)) = true := by
    unfold DM.okP
    rw [Bool.and_eq_true, decide_eq_true_eq, decide_eq_true_eq]; omega
  rw [(rot_good hfit).2, Int.toNat_natCast, Int.toNat_natCast]
  by_cases h : k = i
  · subst h
    rw [page_set_self hi, if_pos rfl]
  · rw [page_set_ne (fun e => h e.symm), if_neg h]
theorem rot_clean {M : DM} {i b : Nat} (hi : i < M.ps.length) (hb : b < 1024) (hc : Clean M) : Clean (M.rot (i : Int) (b : Int)) := by
  intro k
  have hfit : (M.okP (i : Int) && decide (0 ≤ (b : Int) ∧ (b : Int) < 1024)) = true := by
    unfold DM.okP
    rw [Bool.and_eq_true, decide_eq_true_eq, decide_eq_true_eq]; omega
  rw [(rot_good hfit).2, Int.toNat_natCast, Int.toNat_natCast]
  by_cases h : k = i
  · subst h
    rw [page_set_self hi]; exact hc _
  · rw [page_set_ne (fun e => h e.symm)]; exact hc _
theorem rot_up {M : DM} {i b : Nat} (hi : i < M.ps.length) (hb : b < 1024) : (M.rot (i : Int) (b : Int)).up = M.up := by
  have hfit : (M.okP (i : Int) && decide (0 ≤ (b : Int) ∧ (b : Int) < 1024)) = true := by
    unfold DM.okP
    rw [Bool.and_eq_true, decide_eq_true_eq, decide_eq_true_eq]; omega
  rw [(rot_good hfit).2]; rfl
theorem rotE_zero {M : DM} {i b : Nat} (hi : i < M.ps.length) (hb : b < 1024) : M.rotE (i : Int) (b : Int) = 0 := by
  have hfit : (M.okP (i : Int) && decide (0 ≤ (b : Int) ∧ (b : Int) < 1024)) = true := by
    unfold DM.okP
    rw [Bool.and_eq_true, decide_eq_true_eq, decide_eq_true_eq]; omega
  exact (rot_good hfit).1
theorem headAt_of {M : DM} {h : Nat} {H : List UInt8} (hH : H.length = 16) (hc : Clean M) (hd : ∀ i, i < 16 → ((M.page 1).old)[h * 16 + i]? = H[i]?) : headAt M h = H := by
  unfold headAt
  rw [now_clean (hc 1)]
  apply List.ext_getElem?
  intro i
  rw [List.getElem?_take]
  by_cases hi : i < 16
  · rw [if_pos hi, List.getElem?_drop]
    exact hd i hi
  · rw [if_neg hi, List.getElem?_eq_none (by omega)]
/-- What a rotted bit makes of a disk that holds a journal: another mark, a stream that is not read, or the same records. -/
theorem jst_rot {M : DM} {n h : Nat} {l : List ByteArray} (s : JSt M n h l) (_h4 : 4 ≤ n) (h40 : n ≤ 40) {i b : Nat} (hi : i < n) (hb : b < 1024) :
    (∃ mk, ((M.rot (i : Int) (b : Int)).page 0).now[0]? = some mk ∧ halfOf mk = -1) ∨ (∃ mk, ((M.rot (i : Int) (b : Int)).page 0).now[0]? = some mk ∧ halfOf mk = (h : Int) ∧ (streamR (M.rot (i : Int) (b : Int)) n h).2 = 7) ∨ JSt (M.rot (i : Int) (b : Int)) n h l := by
  have hlen : i < M.ps.length := by rw [s.len]; exact hi
  have hC := rot_clean hlen hb s.clean
  have hO := rot_old hlen hb
  have hU : (M.rot (i : Int) (b : Int)).up = true := by rw [rot_up hlen hb]; exact s.up
  have hK := DM.rot_ok s.ok (i : Int) (b : Int)
  have hL : (M.rot (i : Int) (b : Int)).ps.length = n := by rw [DM.rot_len]; exact s.len
  have h1 := s.h1
  have hS : (JM.stream l).length ≤ capOf n := by rw [JM.stream_length]; exact s.use
  have hp : ∀ k, k < n → (M.page k).old.length = 128 := fun k hk => (DM.page_ok s.ok (by rw [s.len]; exact hk)).1
  have hr8 : b % 8 < 8 := by omega
  generalize M.rot (i : Int) (b : Int) = M' at hC hO hU hK hL ⊢
  obtain ⟨S, hSe⟩ : ∃ S, JM.stream l = S := ⟨_, rfl⟩
  have hmark := s.d.mark
  have hhead := s.d.head
  have hbody := s.d.body
  rw [hSe] at hhead hbody hS
  have hcap : capOf n = hpOf n * 128 := rfl
  have hhp : hpOf n * 2 ≤ n - 2 := by unfold hpOf; omega
  have hHl : (JM.headB S.length (JM.sumF 0 S)).length = 16 := JM.headB_length _ _
  -- the mark
  by_cases hA : i = 0 ∧ b / 8 = 0
  · obtain ⟨rfl, hb0⟩ := hA
    refine .inl ⟨(M.page 0).old.getD (b / 8) 0 ^^^ UInt8.ofNat (2 ^ (b % 8)), ?_, ?_⟩
    · rw [now_clean (hC 0), hO, if_pos rfl, flip_get _ _ _ (by rw [hp 0 hi]; omega), if_pos hb0.symm]
    · have hg : (M.page 0).old.getD (b / 8) 0 = if h = 0 then 0 else 255 := by
        rw [hb0, List.getD_eq_getElem?_getD]
        exact congrArg (Option.getD · 0) hmark
      rw [hg]
      split
      · exact (mark_rot _ hr8).1
      · exact (mark_rot _ hr8).2
  have hmk : ((M'.page 0).old)[0]? = some (if h = 0 then 0 else 255) := by
    rw [hO]
    split
    · rename_i h0
      subst h0
      rw [flip_get _ _ _ (by rw [hp 0 hi]; omega), if_neg (fun e => hA ⟨rfl, e.symm⟩)]
      exact hmark
    · exact hmark
  have hmh : halfOf (if h = 0 then 0 else 255) = (h : Int) := by
    rcases (by omega : h = 0 ∨ h = 1) with rfl | rfl <;> decide
  have hmk' : ((M'.page 0).now)[0]? = some (if h = 0 then 0 else 255) := by rw [now_clean (hC 0)]; exact hmk
  -- the head
  by_cases hB : i = 1 ∧ h * 16 ≤ b / 8 ∧ b / 8 < h * 16 + 16
  · obtain ⟨rfl, hB1, hB2⟩ := hB
    refine .inr (.inl ⟨_, hmk', hmh, ?_⟩)
    obtain ⟨q, hq⟩ : ∃ q, b / 8 = h * 16 + q := ⟨b / 8 - h * 16, by omega⟩
    have hq16 : q < 16 := by omega
    obtain ⟨y, hy⟩ : ∃ y, (JM.headB S.length (JM.sumF 0 S))[q]? = some y := ⟨_, List.getElem?_eq_getElem (by omega)⟩
    have hg : (M.page 1).old.getD (b / 8) 0 = y := by
      rw [List.getD_eq_getElem?_getD, hq, hhead q hq16, hy]; rfl
    refine streamR_head (S := S) (i := q) (b := y ^^^ UInt8.ofNat (2 ^ (b % 8))) hS h40 hq16 ?_ ?_ ?_
    · rw [hy]
      intro e
      injection e with e
      exact xor_bit_ne y _ hr8 e.symm
    · refine headAt_of (by rw [List.length_set]; exact hHl) hC fun k hk => ?_
      rw [hO, if_pos rfl, flip_get _ _ _ (by rw [hp 1 hi]; omega), hg]
      by_cases hkq : k = q
      · subst hkq
        rw [if_pos hq.symm, List.getElem?_set_self (by omega)]
      · rw [if_neg (by omega), List.getElem?_set_ne (fun e => hkq e.symm)]
        exact hhead k hk
    · intro j hj
      rw [now_clean (hC _), hO, if_neg (by omega)]
      exact hbody j hj
  have hhead' : ∀ k, k < 16 → ((M'.page 1).old)[h * 16 + k]? = (JM.headB S.length (JM.sumF 0 S))[k]? := fun k hk => by
    rw [hO]
    split
    · rename_i h1
      subst h1
      rw [flip_get _ _ _ (by rw [hp 1 hi]; omega), if_neg (fun e => hB ⟨rfl, by omega, by omega⟩)]
      exact hhead k hk
    · exact hhead k hk
  have hHA : headAt M' h = JM.headB S.length (JM.sumF 0 S) := headAt_of hHl hC hhead'
  -- the stream
  by_cases hD : ∃ j, i = 2 + h * hpOf n + j ∧ 128 * j + b / 8 < S.length
  · obtain ⟨j0, rfl, hj0⟩ := hD
    refine .inr (.inl ⟨_, hmk', hmh, ?_⟩)
    obtain ⟨y, hy⟩ : ∃ y, S[128 * j0 + b / 8]? = some y := ⟨_, List.getElem?_eq_getElem hj0⟩
    have hb128 : b / 8 < 128 := by omega
    have hbd := hbody j0 (by omega)
    have hold : ((M.page (2 + h * hpOf n + j0)).old)[b / 8]? = some y := by
      have e := congrArg (fun t : List UInt8 => t[b / 8]?) hbd
      simp only [JM.piece] at e
      rw [List.getElem?_take, if_pos (by omega), List.getElem?_take, if_pos hb128, List.getElem?_drop] at e
      rw [e, hy]
    have hg : (M.page (2 + h * hpOf n + j0)).old.getD (b / 8) 0 = y := by
      rw [List.getD_eq_getElem?_getD, hold]; rfl
    refine streamR_body (S := S) (i := 128 * j0 + b / 8) (b := y ^^^ UInt8.ofNat (2 ^ (b % 8))) hS h40 hj0 ?_ hHA ?_
    · rw [hy]
      intro e
      injection e with e
      exact xor_bit_ne y _ hr8 e.symm
    · intro j hj
      rw [List.length_set] at hj ⊢
      rw [now_clean (hC _), hO]
      have hbj := hbody j hj
      simp only [JM.piece] at hbj
      apply List.ext_getElem?
      intro k
      have e : (List.take (min 128 (S.length - 128 * j)) ((M.page (2 + h * hpOf n + j)).old))[k]? = ((S.drop (128 * j)).take 128)[k]? := by rw [hbj]
      rw [List.getElem?_take, List.getElem?_take, List.getElem?_drop] at e
      rw [List.getElem?_take, List.getElem?_take, List.getElem?_drop]
      by_cases hk : k < 128
      · rw [if_pos hk] at e ⊢
        by_cases hkm : k < min 128 (S.length - 128 * j)
        · rw [if_pos hkm] at e ⊢
          by_cases hjj : 2 + h * hpOf n + j = 2 + h * hpOf n + j0
          · have hjj' : j = j0 := by omega
            subst hjj'
            rw [if_pos rfl, flip_get _ _ _ (by rw [hp _ hi]; omega), hg]
            by_cases hkb : k = b / 8
            · subst hkb
              rw [if_pos rfl, List.getElem?_set_self hj0]
            · rw [if_neg hkb, List.getElem?_set_ne (by omega)]
              exact e
          · rw [if_neg hjj, List.getElem?_set_ne (by omega)]
            exact e
        · rw [if_neg hkm, List.getElem?_eq_none (by rw [List.length_set]; omega)]
      · rw [if_neg hk, if_neg (by omega)]
  -- elsewhere
  refine .inr (.inr ⟨hK, hL, hC, hU, ⟨hmk, ?_, ?_⟩, h1, s.use, s.big⟩)
  · rw [hSe]; exact hhead'
  · rw [hSe]
    intro j hj
    show ((M'.page (2 + h * hpOf n + j)).old).take _ = _
    rw [hO]
    split
    · rename_i hij
      rw [← hbody j hj]
      apply List.ext_getElem?
      intro k
      rw [List.getElem?_take, List.getElem?_take]
      by_cases hkm : k < min 128 (S.length - 128 * j)
      · rw [if_pos hkm, if_pos hkm, flip_get _ _ _ (by rw [hij, hp _ hi]; omega), if_neg (fun e => hD ⟨j, hij.symm, by omega⟩)]
      · rw [if_neg hkm, if_neg hkm]
    · exact hbody j hj
end Go.Proofs.Ythgmlopkcgkjlaa
