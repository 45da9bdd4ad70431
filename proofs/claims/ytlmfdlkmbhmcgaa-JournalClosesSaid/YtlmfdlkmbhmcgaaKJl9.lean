/-
  The walk of the law JournalCloses. Conditions: its arguments lie there.
-/
import Derived.Test.YtlmfdlkmbhmcgaaKJl8
namespace Go.Proofs.Ytlmfdlkmbhmcgaa
open Go.RowKit Go.Shelf

theorem doE_ne (sz : Nat) (l : List ByteArray) (x : OpJ) : JM.doE sz l x ≠ 13 := by
  unfold JM.doE JM.appE JM.repE
  repeat' split
  all_goals decide
theorem do_trip12 {n0 n : Nat} {v : World} {gj gd gp gm cp : Nat} {Y : List Value} {half k : Nat} {l : List ByteArray} {A : Option Addr} {c : Nat} {M : DM} (kind nn kk : Int) (fill : UInt8) (hkd : kind = 1 ∨ kind = 2) (hn82 : nn ≤ 8200) (hk20 : kk ≤ 20) (h4 : 4 ≤ n) (h40 : n ≤ 40) (hk : k ≤ 800000) (hn0 : n0 ≤ v.heap.size) (p : PJ n0 v gj gd gp gm cp Y half k A c M l false) (s : JSt M n half l) :
    Calls Try.prog 39 #[.pointer (some ⟨gd, 0, none⟩), .pointer (some ⟨gj, 0, none⟩), .agg #[.int .i64 kind, .int .i64 nn, .int .i64 kk, .int .u8 (fill.toNat : Int)]] v fun e v' => ∃ N E k', e = .returned (.tuple #[.pointer (some ⟨gj, 0, none⟩), .int .i64 N, .int .i64 E]) ∧ k' ≤ k + 41 ∧ TripPost n0 n v v' gj gj gd gp gm cp Y half k k' l ⟨kind, nn, kk, fill⟩ E A ∧ Only [gj, gd, gp, gm] v v' := by
  have hcb : capOf n ≤ 2432 := by unfold capOf; omega
  have hu := s.use
  by_cases h1 : kind = 1
  · subst h1
    obtain ⟨f1, f2⟩ := free_append (n := n) (l := l) (r := (⟨1, nn, kk, fill⟩ : OpJ).text) s.big
    have eL : JM.doL (capOf n) l ⟨1, nn, kk, fill⟩ = JM.appL (capOf n) l (⟨1, nn, kk, fill⟩ : OpJ).text := rfl
    have eE : JM.doE (capOf n) l ⟨1, nn, kk, fill⟩ = JM.appE (capOf n) l (⟨1, nn, kk, fill⟩ : OpJ).text := rfl
    refine (do_append n0 gj half A c l false gd gp gm k cp Y M n nn kk fill _ v hn82 rfl s.h1 s.ok s.len h4 h40 hk (by omega) hn0 p).mono ?_
    rintro e v' ⟨rfl, ⟨A', c', hp, hF⟩, ho⟩
    refine ⟨_, _, k + 41, rfl, Nat.le_refl _, ⟨jM M n half (l ++ [(⟨1, nn, kk, fill⟩ : OpJ).text]) false, A', c', hF, ?_⟩, ho⟩
    rw [eL, eE]
    rcases jst_trip (rs := l ++ [(⟨1, nn, kk, fill⟩ : OpJ).text]) s h4 with ⟨s', e1, e2, e3⟩ | ⟨e1, e2, e3, ok, len, up, eh, el, ec, hE⟩
    · rw [f1] at e2
      rw [f2] at e3
      rw [e1, e3] at hp
      rw [e3] at s'
      exact .inl ⟨e2, _, hp, s'⟩
    · rw [f1] at e2
      rw [f2] at e3
      rw [eh, el, ec] at hp
      rw [e3]
      exact .inr ⟨e1, e2, rfl, hp, ok, len, up, hE⟩
  · by_cases h2 : kind = 2
    · subst h2
      obtain ⟨f1, f2⟩ := free_replace (n := n) (l := l) (rs := (⟨2, nn, kk, fill⟩ : OpJ).texts)
      have eL : JM.doL (capOf n) l ⟨2, nn, kk, fill⟩ = JM.repL (capOf n) l (⟨2, nn, kk, fill⟩ : OpJ).texts := rfl
      have eE : JM.doE (capOf n) l ⟨2, nn, kk, fill⟩ = JM.repE (capOf n) (⟨2, nn, kk, fill⟩ : OpJ).texts := rfl
      refine (do_replace n0 gj half A c l false gd gp gm k cp Y M n nn kk fill v hn82 hk20 s.h1 s.ok s.len h4 h40 hk hn0 p).mono ?_
      rintro e v' ⟨rfl, ⟨A', c', hp, hF⟩, ho⟩
      refine ⟨_, _, k + 41, rfl, Nat.le_refl _, ⟨jM M n half (⟨2, nn, kk, fill⟩ : OpJ).texts false, A', c', hF, ?_⟩, ho⟩
      rw [eL, eE]
      rcases jst_trip (rs := (⟨2, nn, kk, fill⟩ : OpJ).texts) s h4 with ⟨s', e1, e2, e3⟩ | ⟨e1, e2, e3, ok, len, up, eh, el, ec, hE⟩
      · rw [f1] at e2
        rw [f2] at e3
        rw [e1, e3] at hp
        rw [e3] at s'
        exact .inl ⟨e2, _, hp, s'⟩
      · rw [f1] at e2
        rw [f2] at e3
        rw [eh, el, ec] at hp
        rw [e3]
        exact .inr ⟨e1, e2, rfl, hp, ok, len, up, hE⟩
    · exact absurd hkd (by omega)
set_option maxRecDepth 100000 in
set_option maxHeartbeats 6400000 in
theorem closeLaw_any (p : Int) (A : Option Addr) (c : Nat) (xs : List OpJ) (kind nn kk : Int) (fill t0 : UInt8) (w : World) (hl : xs.length ≤ 140737488355328) (hS : ScriptJ w.heap.size w A xs) :
    Calls Try.prog 12 #[.int .i64 p, .slice A xs.length c, .agg #[.int .i64 kind, .int .i64 nn, .int .i64 kk, .int .u8 (fill.toNat : Int)], .int .u8 (t0.toNat : Int)] w fun e w' => e = .returned (.bool true) ∧ Below w.heap.size w w' := by
  have HS := Lib.hid hS
  have hun := Try.underlying75
  clear hS
  obtain ⟨N, hN⟩ : ∃ N, Hid (xs.length = N) := ⟨_, rfl⟩
  rw [hN.out]
  rw [hN.out] at hl
  go_enter Try.func12, Try.ntmps12
  go_wp2_with (with_reducible refine wpList_box (o := ⟨some 6, .box 75 (.tmp 2), _, _, _, _⟩) ?g1 75 (.tmp 2) ?o1 (.agg #[.int .i64 kind, .int .i64 nn, .int .i64 kk, .int .u8 (fill.toNat : Int)]) [.int .i64 kind, .int .i64 nn, .int .i64 kk, .int .u8 (fill.toNat : Int)] ?x1 ?c1 ?_)
  try (case g1 => rfl)
  try (case o1 => rfl)
  try (case x1 => rfl)
  try (case c1 => rfl)
  intro ga w3 hga hs1 hb1 hA3
  have b3 : Below w.heap.size w w3 := hb1.mono (Nat.le_of_eq hga.out.symm)
  clear hb1 hga hs1
  go_wp2_with fail
  have hf1 : Calls Try.prog 35 #[.slice A N c] w3 fun e w' => FewRes xs e ∧ w' = w3 := by
    have h := jfew_any A c xs w3 (by rw [hN.out]; exact hl) ((HS.out.next b3).up b3.size)
    rw [hN.out] at h
    exact h
  (with_reducible refine hf1.mono ?_)
  rintro e w3 ⟨⟨q1, rfl, hq1⟩, rfl⟩
  clear hf1
  go_wp2_with (with_reducible refine wpList_get (o := ⟨some 27, .load 75 (.tmp 6), _, _, _, _⟩) (by with_unfolding_all rfl) 75 (.tmp 6) (by with_unfolding_all rfl) ga 0 (by with_unfolding_all rfl) hA3 [.int .i64 kind, .int .i64 nn, .int .i64 kk, .int .u8 (fill.toNat : Int)] (cs_all _) _ (by with_unfolding_all exact hun) (by with_unfolding_all rfl) (by with_unfolding_all exact Try.sizeJ) ?_)
  have hbn := below_new w3 (.cells #[.int .i64 kind, .int .i64 nn, .int .i64 kk, .int .u8 (fill.toNat : Int)] 75)
  have hA4 := hA3.next hbn hA3.lt
  have b4 := below_join b3 hbn
  have hf2 : Calls Try.prog 35 #[.slice (some ⟨w3.heap.size, 0, none⟩) 1 1] (w3.alloc (.cells #[.int .i64 kind, .int .i64 nn, .int .i64 kk, .int .u8 (fill.toNat : Int)] 75)) _ := few_one ⟨kind, nn, kk, fill⟩ w3
  (with_reducible refine hf2.mono ?_)
  rintro e w4 ⟨⟨q2, rfl, hq2⟩, rfl⟩
  clear hf2 hA3 hbn b3
  generalize w3.alloc (.cells #[.int .i64 kind, .int .i64 nn, .int .i64 kk, .int .u8 (fill.toNat : Int)] 75) = w4 at hA4 b4 ⊢
  have d0 := hA4.cell (k := 0) rfl
  by_cases hlo : p < 4
  · go_wp2_with fail
    (with_reducible refine (jsanity_any _).mono ?_)
    rintro e w5 ⟨rfl, hb⟩
    have hb' := below_join b4 hb
    go_wp2
    go_ret
    exact ⟨rfl, hb'⟩
  by_cases hhi : 24 < p
  · have hlo' : 4 ≤ p := by omega
    go_wp2_with fail
    (with_reducible refine (jsanity_any _).mono ?_)
    rintro e w5 ⟨rfl, hb⟩
    have hb' := below_join b4 hb
    go_wp2
    go_ret
    exact ⟨rfl, hb'⟩
  have hlo' : 4 ≤ p := by omega
  have hhi' : p ≤ 24 := by omega
  rcases q1 with _ | _
  · go_wp2_with fail
    (with_reducible refine (jsanity_any _).mono ?_)
    rintro e w5 ⟨rfl, hb⟩
    have hb' := below_join b4 hb
    go_wp2
    go_ret
    exact ⟨rfl, hb'⟩
  rcases q2 with _ | _
  · go_wp2_with fail
    (with_reducible refine (jsanity_any _).mono ?_)
    rintro e w5 ⟨rfl, hb⟩
    have hb' := below_join b4 hb
    go_wp2
    go_ret
    exact ⟨rfl, hb'⟩
  by_cases hkd : kind ≠ 1 ∧ kind ≠ 2
  · have e1 : (kind != 1) = true := bne_iff_ne.2 hkd.1
    have e2 : (kind != 2) = true := bne_iff_ne.2 hkd.2
    go_wp2_with fail
    (with_reducible refine (jsanity_any _).mono ?_)
    rintro e w5 ⟨rfl, hb⟩
    have hb' := below_join b4 hb
    go_wp2
    go_ret
    exact ⟨rfl, hb'⟩
  obtain ⟨n, rfl⟩ : ∃ n : Nat, p = (n : Int) := ⟨p.toNat, by omega⟩
  have h4 : 4 ≤ n := by omega
  have h24 : n ≤ 24 := by omega
  clear hlo hhi hlo' hhi'
  obtain ⟨hq10, hqf⟩ := hq1 rfl
  have hLF := (hq2 rfl).2 _ (List.mem_singleton.2 rfl)
  have hn82 : nn ≤ 8200 := hLF.n
  have hk20 : kk ≤ 20 := hLF.k
  have h4i : (4 : Int) ≤ (n : Int) := by omega
  have h24i : (n : Int) ≤ 24 := by omega
  obtain ⟨nb, hnb⟩ : ∃ nb, w4.heap.size = nb := ⟨_, rfl⟩
  have gA := hA4.lt
  rw [hnb] at gA
  have HW := Lib.hid (fun (w' : World) (h : Below nb w4 w') => below_join b4 (by rw [hnb]; exact h))
  have HA := Lib.hid (fun (w' : World) (h : Below nb w4 w') => hA4.next h gA)
  have haf := after_any nb n w4 w4 A c xs h4 (by omega) hq10 hqf (by rw [← hnb]; exact (HS.out.next b4).up b4.size) (Below.refl _ _) (Nat.le_of_eq hnb.symm)
  rw [hN.out] at haf
  clear hA4 b4 hq1 hq2 hqf
  have HK := Lib.hid hkd
  have hkb : kind = 1 ∨ kind = 2 := by
    by_cases h1 : kind = 1
    · exact .inl h1
    · by_cases h2 : kind = 2
      · exact .inr h2
      · exact absurd ⟨h1, h2⟩ hkd
  clear hkd
  rcases hkb with hk1 | hk2
  · subst hk1
    go_wp2_with fail
    (with_reducible refine haf.mono ?_)
    rintro e v5 ⟨gj, gd, gp, gm, gr, k, l, B, R, cr, rfl, hk, h5⟩
    clear haf d0
    have hr5 := h5.r
    have ha5 := h5.a
    have hc5 := h5.c
    obtain ⟨x, cj, M, p5, s5, _, b5, g5, z5⟩ := h5.p
    have zr := h5.z
    have hb5 := h5.b
    clear h5
    have huse := s5.use
    have hcb : capOf n ≤ 2432 := by unfold capOf; omega
    have c15 := hr5.d.cell (k := 1) rfl
    have wt0 : IntKind.i64.wrap (t0.toNat : Int) = (t0.toNat : Int) := IntWalk.i64_in _ ⟨by omega, by have := t0.toNat_lt; omega⟩
    have bt0 := t0.toNat_lt
    go_wp2_with fail
    (with_reducible refine (jroom_any gj x B cj l false gd gp gm k n [] M n v5 s5.len h4 (by omega) (by omega) p5.p p5.j).mono ?_)
    rintro e v5 ⟨rfl, rfl⟩
    go_wp2_with fail
    (with_reducible refine (pj_trip (t0.toNat : Int) p5 (by omega) (by omega)).mono ?_)
    rintro e v6 ⟨rfl, p6, ho6⟩
    have s6 := s5.trip (t := (t0.toNat : Int)) (by omega) (by omega)
    simp only [List.mem_cons, List.not_mem_nil, or_false, not_or] at ha5
    have b6 := below_only b5 ho6 (by simp; omega) z5
    have z6 := Nat.le_trans z5 ho6.size
    have hr6 := hr5.only ho6 (by simp; omega) (fun q hq => by have := (hc5 q hq).1; simp at this ⊢; omega)
    have hA6 := HA.out v6 b6
    have hsz6 := ho6.size
    have hgr6 := hr6.d.lt
    have h1x := s5.h1
    clear p5 s5 ho6 hr5 c15 b5
    go_wp2_with (with_reducible refine wpList_get (o := ⟨some 78, .load 75 (.tmp 6), _, _, _, _⟩) (by with_unfolding_all rfl) 75 (.tmp 6) (by with_unfolding_all rfl) ga 0 (by with_unfolding_all rfl) hA6 [.int .i64 1, .int .i64 nn, .int .i64 kk, .int .u8 (fill.toNat : Int)] (cs_all _) _ (by with_unfolding_all exact hun) (by with_unfolding_all rfl) (by with_unfolding_all exact Try.sizeJ) ?_)
    (with_reducible refine (do_trip12 1 nn kk fill (by omega) hn82 hk20 h4 (by omega) (by omega) z6 p6 s6).mono ?_)
    rintro e v7 ⟨N7, E7, k7, rfl, hk7, ⟨M7, B7, c7, hF7, T7⟩, ho7⟩
    have b7 := below_only b6 ho7 (by simp; omega) z6
    have z7 := Nat.le_trans z6 ho7.size
    have hr7 := hr6.only ho7 (by simp; omega) (fun q hq => (hc5 q hq).1)
    have hA7 := HA.out v7 b7
    clear p6 s6 hr6 hA6 b6
    rcases T7 with ⟨hE7, h7, p7, s7⟩ | ⟨rfl, hE0, _, p7, ok7, len7, up7, _⟩
    · obtain ⟨E2, hE2⟩ : ∃ E2, Hid (JM.doE (capOf n) l ⟨1, nn, kk, fill⟩ = E2) := ⟨_, rfl⟩
      obtain ⟨L2, hL2⟩ : ∃ L2, Hid (JM.doL (capOf n) l ⟨1, nn, kk, fill⟩ = L2) := ⟨_, rfl⟩
      rw [hE2.out] at hE7
      rw [hL2.out] at p7 s7
      subst hE7
      have hne : (E7 == 13) = false := beq_eq_false_iff_ne.2 (by rw [← hE2.out]; exact doE_ne _ _ _)
      have hRg := hc5
      go_wp2_with fail
      (with_reducible refine (pj_trip (-1) p7 (by omega) (by omega)).mono ?_)
      rintro e v8 ⟨rfl, p8, ho8⟩
      have s8 := s7.trip (t := -1) (by omega) (by omega)
      have b8 := below_only b7 ho8 (by simp; omega) z7
      have z8 := Nat.le_trans z7 ho8.size
      have hr8 := hr7.only ho8 (by simp; omega) (fun q hq => by have := (hc5 q hq).1; simp at this ⊢; omega)
      have hA8 := HA.out v8 b8
      have hM8 : (M7.tripTo (-1)).trip = -1 := rfl
      generalize M7.tripTo (-1) = M8 at p8 s8 hM8
      have hsz8 := ho8.size
      have hsz7 := ho7.size
      clear p7 s7 hr7 hA7 b7 ho8
      go_wp2_with (with_reducible refine wpList_get (o := ⟨some 122, .load 75 (.tmp 6), _, _, _, _⟩) (by with_unfolding_all rfl) 75 (.tmp 6) (by with_unfolding_all rfl) ga 0 (by with_unfolding_all rfl) hA8 [.int .i64 1, .int .i64 nn, .int .i64 kk, .int .u8 (fill.toNat : Int)] (cs_all _) _ (by with_unfolding_all exact hun) (by with_unfolding_all rfl) (by with_unfolding_all exact Try.sizeJ) ?_)
      (with_reducible refine (jdo_any2 gr R cr (capOf n) l 1 nn kk fill _ hn82 hk20 (by omega) (by omega) hr8).mono ?_)
      rintro e v9 ⟨rfl, R9, cr9, r9, ho9, hn9⟩
      rw [hE2.out]
      rw [hL2.out] at r9
      have b9 := below_only b8 ho9 (by simp; omega) z8
      have z9 := Nat.le_trans z8 ho9.size
      have hg9 : ∀ q, R9 = some ⟨q, 0, none⟩ → q ∉ [gj, gd, gp, gm] := fun q hq => by
        have h1 := p8.j.d.lt
        have h2 := p8.p.d.lt
        have h3 := p8.p.p.lt
        have h4 := p8.p.m.lt
        rcases hn9 q hq with e1 | ⟨e1, _⟩
        · exact (hRg q (e1 ▸ hq)).1
        · simp; omega
      have p9 := p8.only ho9 (by simp; omega) (by simp; omega) (by simp; omega) (by simp; omega) (fun q hq hm => by
        simp only [List.mem_singleton] at hm
        subst hm
        rcases hF7 _ hq with e1 | e1
        · exact hb5 e1
        · omega)
      clear p8 hr8 hA8 b8 ho9 hn9
      have hdd := below_drew v9
      have pA := p9.next hdd
      have rA := r9.next hdd
      have bA := b9.trans (hdd.mono z9)
      have zA := Nat.le_trans z9 hdd.size
      have hSd := rA.d.cell (k := 1) rfl
      clear p9 r9 b9
      go_wp2
      refine wp_region_held_drew (S := fun w' => w'.cell? ⟨gr, 1, none⟩ = some (.slice R9 L2.length cr9)) (by kernel_rfl) hSd (fun hHeld => ?_)
      generalize v9.drew = vA at pA rA bA zA hSd hHeld ⊢
      clear hSd hdd
      refine wpAnyH_ready (rs := [0]) (by kernel_rfl) (by simp) ?_
      refine AllReadyH.cons rfl (fun K hK => ?_) AllReadyH.nil
      go_simp
      go_wp2_with fail
      (with_reducible refine (jsanity_any _).mono ?_)
      rintro e vB ⟨rfl, hb⟩
      have pB := pA.next hb
      have rB := rA.next hb
      have bB := bA.trans (hb.mono zA)
      have zB := Nat.le_trans zA hb.size
      refine hK.out _ _ (rB.d.cell (k := 1) rfl) (fun hHeld => ?_)
      clear hK K pA rA hb bA
      refine wpAnyH_take (i := 1) (v := ?vt1x1) rfl (by kernel_rfl) (by kernel_rfl) (by kernel_rfl) (fun _ _ _ h => h) (Or.inl ⟨by rfl, ?yt1x1⟩) (by assumption) ?rt1x1
      case yt1x1 => intro w hSw; (try dsimp only at hSw); go_simp <;> (try with_reducible rfl)
      (try simp only [List.getElem_toArray, List.getElem_cons_succ, List.getElem_cons_zero, Act.put, List.setIfInBounds_toArray, List.set_cons_zero, List.set_cons_succ])
      refine wpAnyH_take (i := 2) (v := ?vt1x2) rfl (by kernel_rfl) (by kernel_rfl) (by kernel_rfl) (fun _ _ _ h => h) (Or.inl ⟨by rfl, ?yt1x2⟩) (by assumption) ?rt1x2
      case yt1x2 => intro w hSw; (try dsimp only at hSw); go_simp <;> (try with_reducible rfl)
      (try simp only [List.getElem_toArray, List.getElem_cons_succ, List.getElem_cons_zero, Act.put, List.setIfInBounds_toArray, List.set_cons_zero, List.set_cons_succ])
      refine wpAnyH_take (i := 3) (v := ?vt1x3) rfl (by kernel_rfl) (by kernel_rfl) (by kernel_rfl) (fun _ _ _ h => h) (Or.inl ⟨by rfl, ?yt1x3⟩) (by assumption) ?rt1x3
      case yt1x3 => intro w hSw; (try dsimp only at hSw); go_simp <;> (try with_reducible rfl)
      (try simp only [List.getElem_toArray, List.getElem_cons_succ, List.getElem_cons_zero, Act.put, List.setIfInBounds_toArray, List.set_cons_zero, List.set_cons_succ])
      refine wpAnyH_take (i := 4) (v := ?vt1x4) rfl (by kernel_rfl) (by kernel_rfl) (by kernel_rfl) (fun _ _ _ h => h) (Or.inl ⟨by rfl, ?yt1x4⟩) (by assumption) ?rt1x4
      case yt1x4 => intro w hSw; (try dsimp only at hSw); go_simp <;> (try with_reducible rfl)
      (try simp only [List.getElem_toArray, List.getElem_cons_succ, List.getElem_cons_zero, Act.put, List.setIfInBounds_toArray, List.set_cons_zero, List.set_cons_succ])
      refine wpAnyH_take (i := 5) (v := ?vt1x5) rfl (by kernel_rfl) (by kernel_rfl) (by kernel_rfl) (fun _ _ _ h => h) (Or.inl ⟨by rfl, ?yt1x5⟩) (by assumption) ?rt1x5
      case yt1x5 => intro w hSw; (try dsimp only at hSw); go_simp <;> (try with_reducible rfl)
      (try simp only [List.getElem_toArray, List.getElem_cons_succ, List.getElem_cons_zero, Act.put, List.setIfInBounds_toArray, List.set_cons_zero, List.set_cons_succ])
      refine wpAnyH_take (i := 6) (v := ?vt1x6) rfl (by kernel_rfl) (by kernel_rfl) (by kernel_rfl) (fun _ _ _ h => h) (Or.inl ⟨by rfl, ?yt1x6⟩) (by assumption) ?rt1x6
      case yt1x6 => intro w hSw; (try dsimp only at hSw); go_simp <;> (try with_reducible rfl)
      (try simp only [List.getElem_toArray, List.getElem_cons_succ, List.getElem_cons_zero, Act.put, List.setIfInBounds_toArray, List.set_cons_zero, List.set_cons_succ])
      refine wpAnyH_take (i := 7) (v := ?vt1x7) rfl (by kernel_rfl) (by kernel_rfl) (by kernel_rfl) (fun _ _ _ h => h) (Or.inl ⟨by rfl, ?yt1x7⟩) (by assumption) ?rt1x7
      case yt1x7 => intro w hSw; (try dsimp only at hSw); go_simp <;> (try with_reducible rfl)
      (try simp only [List.getElem_toArray, List.getElem_cons_succ, List.getElem_cons_zero, Act.put, List.setIfInBounds_toArray, List.set_cons_zero, List.set_cons_succ])
      refine wpAnyH_take (i := 9) (v := ?vt1x9) rfl (by kernel_rfl) (by kernel_rfl) (by kernel_rfl) (fun _ _ _ h => h) (Or.inl ⟨by rfl, ?yt1x9⟩) (by assumption) ?rt1x9
      case yt1x9 => intro w hSw; (try dsimp only at hSw); go_simp <;> (try with_reducible rfl)
      (try simp only [List.getElem_toArray, List.getElem_cons_succ, List.getElem_cons_zero, Act.put, List.setIfInBounds_toArray, List.set_cons_zero, List.set_cons_succ])
      refine wpAnyH_take (i := 10) (v := ?vt1x10) rfl (by kernel_rfl) (by kernel_rfl) (by kernel_rfl) (fun _ _ _ h => h) (Or.inl ⟨by rfl, ?yt1x10⟩) (by assumption) ?rt1x10
      case yt1x10 => intro w hSw; (try dsimp only at hSw); go_simp <;> (try with_reducible rfl)
      (try simp only [List.getElem_toArray, List.getElem_cons_succ, List.getElem_cons_zero, Act.put, List.setIfInBounds_toArray, List.set_cons_zero, List.set_cons_succ])
      refine wpAnyH_take (i := 11) (v := ?vt1x11) rfl (by kernel_rfl) (by kernel_rfl) (by kernel_rfl) (fun _ _ _ h => h) (Or.inl ⟨by rfl, ?yt1x11⟩) (by assumption) ?rt1x11
      case yt1x11 => intro w hSw; (try dsimp only at hSw); go_simp <;> (try with_reducible rfl)
      (try simp only [List.getElem_toArray, List.getElem_cons_succ, List.getElem_cons_zero, Act.put, List.setIfInBounds_toArray, List.set_cons_zero, List.set_cons_succ])
      refine wpAnyH_take (i := 12) (v := ?vt1x12) rfl (by kernel_rfl) (by kernel_rfl) (by kernel_rfl) (fun _ _ _ h => h) (Or.inl ⟨by rfl, ?yt1x12⟩) (by assumption) ?rt1x12
      case yt1x12 => intro w hSw; (try dsimp only at hSw); go_simp <;> (try with_reducible rfl)
      (try simp only [List.getElem_toArray, List.getElem_cons_succ, List.getElem_cons_zero, Act.put, List.setIfInBounds_toArray, List.set_cons_zero, List.set_cons_succ])
      refine wpAnyH_ready (rs := [8]) (by kernel_rfl) (by simp) ?_
      refine AllReadyH.cons rfl (fun K hK => ?_) AllReadyH.nil
      go_simp
      go_wp2_with fail
      (with_reducible refine (pj_records pB s8.use (by omega)).mono ?_)
      rintro e vC ⟨AC, cC, rfl, hRC, _, hb⟩
      have pC := pB.next hb
      have rC := rB.next hb
      have bC := bB.trans (hb.mono zB)
      have zC := Nat.le_trans zB hb.size
      have hl6 : L2.length ≤ 1000000 := by have := JM.useR_count L2; have := s8.use; omega
      refine hK.out _ _ (rC.d.cell (k := 1) rfl) (fun hHeld => ?_)
      clear hK K pB rB hb bB
      refine wpAnyH_ready (rs := [13]) (by kernel_rfl) (by simp) ?_
      refine AllReadyH.cons rfl (fun K hK => ?_) AllReadyH.nil
      go_simp
      go_wp2_with fail
      (with_reducible refine (same2_any AC R9 cC cr9 L2 L2 vC hl6 hRC rC.r).mono ?_)
      rintro e vD ⟨rfl, hb⟩
      rw [decide_eq_true rfl]
      have pD := pC.next hb
      have rD := rC.next hb
      have bD := bC.trans (hb.mono zC)
      have zD := Nat.le_trans zC hb.size
      refine hK.out _ _ (rD.d.cell (k := 1) rfl) (fun hHeld => ?_)
      clear hK K pC rC hb bC hRC
      refine wpAnyH_take (i := 14) (v := ?vt1x14) rfl (by kernel_rfl) (by kernel_rfl) (by kernel_rfl) (fun _ _ _ h => h) (Or.inl ⟨by rfl, ?yt1x14⟩) (by assumption) ?rt1x14
      case yt1x14 => intro w hSw; (try dsimp only at hSw); go_simp <;> (try with_reducible rfl)
      (try simp only [List.getElem_toArray, List.getElem_cons_succ, List.getElem_cons_zero, Act.put, List.setIfInBounds_toArray, List.set_cons_zero, List.set_cons_succ])
      refine wpAnyH_take (i := 15) (v := ?vt1x15) rfl (by kernel_rfl) (by kernel_rfl) (by kernel_rfl) (fun _ _ _ h => h) (Or.inl ⟨by rfl, ?yt1x15⟩) (by assumption) ?rt1x15
      case yt1x15 => intro w hSw; (try dsimp only at hSw); go_simp <;> (try with_reducible rfl)
      (try simp only [List.getElem_toArray, List.getElem_cons_succ, List.getElem_cons_zero, Act.put, List.setIfInBounds_toArray, List.set_cons_zero, List.set_cons_succ])
      refine wpAnyH_take (i := 16) (v := ?vt1x16) rfl (by kernel_rfl) (by kernel_rfl) (by kernel_rfl) (fun _ _ _ h => h) (Or.inl ⟨by rfl, ?yt1x16⟩) (by assumption) ?rt1x16
      case yt1x16 => intro w hSw; (try dsimp only at hSw); go_simp <;> (try with_reducible rfl)
      (try simp only [List.getElem_toArray, List.getElem_cons_succ, List.getElem_cons_zero, Act.put, List.setIfInBounds_toArray, List.set_cons_zero, List.set_cons_succ])
      refine wpAnyH_ready (rs := [17]) (by kernel_rfl) (by simp) ?_
      refine AllReadyH.cons rfl (fun K hK => ?_) AllReadyH.nil
      go_simp
      have hrp : Calls Try.prog 53 #[.pointer (some ⟨gj, 0, none⟩), .slice none 0 0] vD _ := replace_ok nb gj h7 B7 none c7 0 L2 [] gd gp gm k7 n [] M8 n vD s8 hM8 h4 (by omega) (by omega) rfl (Nat.zero_le _) zD (fun q u hu => by cases hu) (.inl rfl) pD
      go_wp2_with fail
      (with_reducible refine hrp.mono ?_)
      rintro e vE ⟨rfl, ⟨hE, BE, cE, ME, pE, sE, _, _⟩, hoE⟩
      have rE := rD.only hoE (by simp; omega) hg9
      have bE := below_only bD hoE (by simp; omega) zD
      have zE := Nat.le_trans zD hoE.size
      refine hK.out _ _ (rE.d.cell (k := 1) rfl) (fun hHeld => ?_)
      clear hK K pD rD hoE bD hrp
      refine wpAnyH_take (i := 18) (v := ?vt1x18) rfl (by kernel_rfl) (by kernel_rfl) (by kernel_rfl) (fun _ _ _ h => h) (Or.inl ⟨by rfl, ?yt1x18⟩) (by assumption) ?rt1x18
      case yt1x18 => intro w hSw; (try dsimp only at hSw); go_simp <;> (try with_reducible rfl)
      (try simp only [List.getElem_toArray, List.getElem_cons_succ, List.getElem_cons_zero, Act.put, List.setIfInBounds_toArray, List.set_cons_zero, List.set_cons_succ])
      refine wpAnyH_take (i := 19) (v := ?vt1x19) rfl (by kernel_rfl) (by kernel_rfl) (by kernel_rfl) (fun _ _ _ h => h) (Or.inl ⟨by rfl, ?yt1x19⟩) (by assumption) ?rt1x19
      case yt1x19 => intro w hSw; (try dsimp only at hSw); go_simp <;> (try with_reducible rfl)
      (try simp only [List.getElem_toArray, List.getElem_cons_succ, List.getElem_cons_zero, Act.put, List.setIfInBounds_toArray, List.set_cons_zero, List.set_cons_succ])
      refine wpAnyH_take (i := 20) (v := ?vt1x20) rfl (by kernel_rfl) (by kernel_rfl) (by kernel_rfl) (fun _ _ _ h => h) (Or.inl ⟨by rfl, ?yt1x20⟩) (by assumption) ?rt1x20
      case yt1x20 => intro w hSw; (try dsimp only at hSw); go_simp <;> (try with_reducible rfl)
      (try simp only [List.getElem_toArray, List.getElem_cons_succ, List.getElem_cons_zero, Act.put, List.setIfInBounds_toArray, List.set_cons_zero, List.set_cons_succ])
      refine wpAnyH_take (i := 21) (v := ?vt1x21) rfl (by kernel_rfl) (by kernel_rfl) (by kernel_rfl) (fun _ _ _ h => h) (Or.inl ⟨by rfl, ?yt1x21⟩) (by assumption) ?rt1x21
      case yt1x21 => intro w hSw; (try dsimp only at hSw); go_simp <;> (try with_reducible rfl)
      (try simp only [List.getElem_toArray, List.getElem_cons_succ, List.getElem_cons_zero, Act.put, List.setIfInBounds_toArray, List.set_cons_zero, List.set_cons_succ])
      refine wpAnyH_ready (rs := [22]) (by kernel_rfl) (by simp) ?_
      refine AllReadyH.cons rfl (fun K hK => ?_) AllReadyH.nil
      go_simp
      go_wp2_with fail
      (with_reducible refine (jlen_any gj gd hE BE cE [] false vE pE.j).mono ?_)
      rintro e vE ⟨rfl, rfl⟩
      rw [show ((([] : List ByteArray).length : Nat) : Int) = 0 from rfl]
      refine hK.out _ _ (rE.d.cell (k := 1) rfl) (fun hHeld => ?_)
      clear hK K
      refine wpAnyH_take (i := 23) (v := ?vt1x23) rfl (by kernel_rfl) (by kernel_rfl) (by kernel_rfl) (fun _ _ _ h => h) (Or.inl ⟨by rfl, ?yt1x23⟩) (by assumption) ?rt1x23
      case yt1x23 => intro w hSw; (try dsimp only at hSw); go_simp <;> (try with_reducible rfl)
      (try simp only [List.getElem_toArray, List.getElem_cons_succ, List.getElem_cons_zero, Act.put, List.setIfInBounds_toArray, List.set_cons_zero, List.set_cons_succ])
      refine wpAnyH_take (i := 24) (v := ?vt1x24) rfl (by kernel_rfl) (by kernel_rfl) (by kernel_rfl) (fun _ _ _ h => h) (Or.inl ⟨by rfl, ?yt1x24⟩) (by assumption) ?rt1x24
      case yt1x24 => intro w hSw; (try dsimp only at hSw); go_simp <;> (try with_reducible rfl)
      (try simp only [List.getElem_toArray, List.getElem_cons_succ, List.getElem_cons_zero, Act.put, List.setIfInBounds_toArray, List.set_cons_zero, List.set_cons_succ])
      refine wpAnyH_take (i := 25) (v := ?vt1x25) rfl (by kernel_rfl) (by kernel_rfl) (by kernel_rfl) (fun _ _ _ h => h) (Or.inl ⟨by rfl, ?yt1x25⟩) (by assumption) ?rt1x25
      case yt1x25 => intro w hSw; (try dsimp only at hSw); go_simp <;> (try with_reducible rfl)
      (try simp only [List.getElem_toArray, List.getElem_cons_succ, List.getElem_cons_zero, Act.put, List.setIfInBounds_toArray, List.set_cons_zero, List.set_cons_succ])
      have hfin := HW.out _ bE
      clear hHeld rE pE
      refine wpAnyH_done (by kernel_rfl) ?_ _
      go_wp2
      go_ret
      exact ⟨rfl, hfin⟩
    · have o7 : RowAt v7 R (l.map Value.string) := hr7.r
      have hRg := hc5
      clear hr7 hA7
      go_wp2_with fail
      (with_reducible refine (append_closed nb gj x B7 c7 l ⟨#[]⟩ gd gp gm k7 n [] M7 n v7 ok7 len7 h1x huse h4 (by omega) (by omega) (by decide) z7 p7).mono ?_)
      rintro e v8 ⟨rfl, ⟨B8, c8, p8, hF8⟩, ho8⟩
      have b8 := below_only b7 ho8 (by simp; omega) z7
      have z8 := Nat.le_trans z7 ho8.size
      have o8 := o7.only ho8 (fun q hq => (hRg q hq).1)
      clear p7 o7 ho8 b7
      have hrp : Calls Try.prog 53 #[.pointer (some ⟨gj, 0, none⟩), .slice none 0 0] v8 _ := replace_closed nb gj x B8 none c8 0 l [] gd gp gm (k7 + 41) n [] M7 n v8 ok7 len7 h1x h4 (by omega) (by omega) (by decide) z8 (fun q u hu => by cases hu) (.inl rfl) p8
      go_wp2_with fail
      (with_reducible refine hrp.mono ?_)
      rintro e v9 ⟨rfl, ⟨B9, c9, p9, hF9⟩, ho9⟩
      have b9 := below_only b8 ho9 (by simp; omega) z8
      have z9 := Nat.le_trans z8 ho9.size
      have o9 := o8.only ho9 (fun q hq => (hRg q hq).1)
      clear p8 o8 ho9 b8 hrp
      go_wp2_with fail
      (with_reducible refine (jsanity_any _).mono ?_)
      rintro e va ⟨rfl, hba⟩
      have pa := p9.next hba
      have oa := o9.next hba
      have ba := b9.trans (hba.mono z9)
      have za := Nat.le_trans z9 hba.size
      clear p9 o9 hba b9
      go_wp2_with fail
      (with_reducible refine (pj_records pa huse (by omega)).mono ?_)
      rintro e vb ⟨Ab, cb, rfl, hRb, _, hbb⟩
      have pb := pa.next hbb
      have ob := oa.next hbb
      have bb := ba.trans (hbb.mono za)
      have zb := Nat.le_trans za hbb.size
      have hl6 : l.length ≤ 1000000 := by have := JM.useR_count l; omega
      clear pa oa hbb ba
      go_wp2_with fail
      (with_reducible refine (same2_any Ab R cb cr l l vb hl6 hRb ob).mono ?_)
      rintro e vc ⟨rfl, hbc⟩
      rw [decide_eq_true rfl]
      have pc := pb.next hbc
      have bc := bb.trans (hbc.mono zb)
      clear pb ob hbc bb hRb
      go_wp2_with fail
      (with_reducible refine (jroom_any gj x B9 c9 l true gd gp gm _ n [] M7 n vc len7 h4 (by omega) (by omega) pc.p pc.j).mono ?_)
      rintro e vc ⟨rfl, rfl⟩
      go_wp2_with fail
      (with_reducible refine (up_any gd gp gm _ n [] M7 vc pc.p).mono ?_)
      rintro e vc ⟨rfl, rfl⟩
      rw [up7]
      have hfin := HW.out _ bc
      go_wp2
      go_ret
      exact ⟨rfl, hfin⟩
  · subst hk2
    go_wp2_with fail
    (with_reducible refine haf.mono ?_)
    rintro e v5 ⟨gj, gd, gp, gm, gr, k, l, B, R, cr, rfl, hk, h5⟩
    clear haf d0
    have hr5 := h5.r
    have ha5 := h5.a
    have hc5 := h5.c
    obtain ⟨x, cj, M, p5, s5, _, b5, g5, z5⟩ := h5.p
    have zr := h5.z
    have hb5 := h5.b
    clear h5
    have huse := s5.use
    have hcb : capOf n ≤ 2432 := by unfold capOf; omega
    have c15 := hr5.d.cell (k := 1) rfl
    have wt0 : IntKind.i64.wrap (t0.toNat : Int) = (t0.toNat : Int) := IntWalk.i64_in _ ⟨by omega, by have := t0.toNat_lt; omega⟩
    have bt0 := t0.toNat_lt
    go_wp2_with fail
    (with_reducible refine (jroom_any gj x B cj l false gd gp gm k n [] M n v5 s5.len h4 (by omega) (by omega) p5.p p5.j).mono ?_)
    rintro e v5 ⟨rfl, rfl⟩
    go_wp2_with fail
    (with_reducible refine (pj_trip (t0.toNat : Int) p5 (by omega) (by omega)).mono ?_)
    rintro e v6 ⟨rfl, p6, ho6⟩
    have s6 := s5.trip (t := (t0.toNat : Int)) (by omega) (by omega)
    simp only [List.mem_cons, List.not_mem_nil, or_false, not_or] at ha5
    have b6 := below_only b5 ho6 (by simp; omega) z5
    have z6 := Nat.le_trans z5 ho6.size
    have hr6 := hr5.only ho6 (by simp; omega) (fun q hq => by have := (hc5 q hq).1; simp at this ⊢; omega)
    have hA6 := HA.out v6 b6
    have hsz6 := ho6.size
    have hgr6 := hr6.d.lt
    have h1x := s5.h1
    clear p5 s5 ho6 hr5 c15 b5
    go_wp2_with (with_reducible refine wpList_get (o := ⟨some 78, .load 75 (.tmp 6), _, _, _, _⟩) (by with_unfolding_all rfl) 75 (.tmp 6) (by with_unfolding_all rfl) ga 0 (by with_unfolding_all rfl) hA6 [.int .i64 2, .int .i64 nn, .int .i64 kk, .int .u8 (fill.toNat : Int)] (cs_all _) _ (by with_unfolding_all exact hun) (by with_unfolding_all rfl) (by with_unfolding_all exact Try.sizeJ) ?_)
    (with_reducible refine (do_trip12 2 nn kk fill (by omega) hn82 hk20 h4 (by omega) (by omega) z6 p6 s6).mono ?_)
    rintro e v7 ⟨N7, E7, k7, rfl, hk7, ⟨M7, B7, c7, hF7, T7⟩, ho7⟩
    have b7 := below_only b6 ho7 (by simp; omega) z6
    have z7 := Nat.le_trans z6 ho7.size
    have hr7 := hr6.only ho7 (by simp; omega) (fun q hq => (hc5 q hq).1)
    have hA7 := HA.out v7 b7
    clear p6 s6 hr6 hA6 b6
    rcases T7 with ⟨hE7, h7, p7, s7⟩ | ⟨rfl, hE0, _, p7, ok7, len7, up7, _⟩
    · obtain ⟨E2, hE2⟩ : ∃ E2, Hid (JM.doE (capOf n) l ⟨2, nn, kk, fill⟩ = E2) := ⟨_, rfl⟩
      obtain ⟨L2, hL2⟩ : ∃ L2, Hid (JM.doL (capOf n) l ⟨2, nn, kk, fill⟩ = L2) := ⟨_, rfl⟩
      rw [hE2.out] at hE7
      rw [hL2.out] at p7 s7
      subst hE7
      have hne : (E7 == 13) = false := beq_eq_false_iff_ne.2 (by rw [← hE2.out]; exact doE_ne _ _ _)
      have hRg := hc5
      go_wp2_with fail
      (with_reducible refine (pj_trip (-1) p7 (by omega) (by omega)).mono ?_)
      rintro e v8 ⟨rfl, p8, ho8⟩
      have s8 := s7.trip (t := -1) (by omega) (by omega)
      have b8 := below_only b7 ho8 (by simp; omega) z7
      have z8 := Nat.le_trans z7 ho8.size
      have hr8 := hr7.only ho8 (by simp; omega) (fun q hq => by have := (hc5 q hq).1; simp at this ⊢; omega)
      have hA8 := HA.out v8 b8
      have hM8 : (M7.tripTo (-1)).trip = -1 := rfl
      generalize M7.tripTo (-1) = M8 at p8 s8 hM8
      have hsz8 := ho8.size
      have hsz7 := ho7.size
      clear p7 s7 hr7 hA7 b7 ho8
      go_wp2_with (with_reducible refine wpList_get (o := ⟨some 122, .load 75 (.tmp 6), _, _, _, _⟩) (by with_unfolding_all rfl) 75 (.tmp 6) (by with_unfolding_all rfl) ga 0 (by with_unfolding_all rfl) hA8 [.int .i64 2, .int .i64 nn, .int .i64 kk, .int .u8 (fill.toNat : Int)] (cs_all _) _ (by with_unfolding_all exact hun) (by with_unfolding_all rfl) (by with_unfolding_all exact Try.sizeJ) ?_)
      (with_reducible refine (jdo_any2 gr R cr (capOf n) l 2 nn kk fill _ hn82 hk20 (by omega) (by omega) hr8).mono ?_)
      rintro e v9 ⟨rfl, R9, cr9, r9, ho9, hn9⟩
      rw [hE2.out]
      rw [hL2.out] at r9
      have b9 := below_only b8 ho9 (by simp; omega) z8
      have z9 := Nat.le_trans z8 ho9.size
      have hg9 : ∀ q, R9 = some ⟨q, 0, none⟩ → q ∉ [gj, gd, gp, gm] := fun q hq => by
        have h1 := p8.j.d.lt
        have h2 := p8.p.d.lt
        have h3 := p8.p.p.lt
        have h4 := p8.p.m.lt
        rcases hn9 q hq with e1 | ⟨e1, _⟩
        · exact (hRg q (e1 ▸ hq)).1
        · simp; omega
      have p9 := p8.only ho9 (by simp; omega) (by simp; omega) (by simp; omega) (by simp; omega) (fun q hq hm => by
        simp only [List.mem_singleton] at hm
        subst hm
        rcases hF7 _ hq with e1 | e1
        · exact hb5 e1
        · omega)
      clear p8 hr8 hA8 b8 ho9 hn9
      have hdd := below_drew v9
      have pA := p9.next hdd
      have rA := r9.next hdd
      have bA := b9.trans (hdd.mono z9)
      have zA := Nat.le_trans z9 hdd.size
      have hSd := rA.d.cell (k := 1) rfl
      clear p9 r9 b9
      go_wp2
      refine wp_region_held_drew (S := fun w' => w'.cell? ⟨gr, 1, none⟩ = some (.slice R9 L2.length cr9)) (by kernel_rfl) hSd (fun hHeld => ?_)
      generalize v9.drew = vA at pA rA bA zA hSd hHeld ⊢
      clear hSd hdd
      refine wpAnyH_ready (rs := [0]) (by kernel_rfl) (by simp) ?_
      refine AllReadyH.cons rfl (fun K hK => ?_) AllReadyH.nil
      go_simp
      go_wp2_with fail
      (with_reducible refine (jsanity_any _).mono ?_)
      rintro e vB ⟨rfl, hb⟩
      have pB := pA.next hb
      have rB := rA.next hb
      have bB := bA.trans (hb.mono zA)
      have zB := Nat.le_trans zA hb.size
      refine hK.out _ _ (rB.d.cell (k := 1) rfl) (fun hHeld => ?_)
      clear hK K pA rA hb bA
      refine wpAnyH_take (i := 1) (v := ?vt2x1) rfl (by kernel_rfl) (by kernel_rfl) (by kernel_rfl) (fun _ _ _ h => h) (Or.inl ⟨by rfl, ?yt2x1⟩) (by assumption) ?rt2x1
      case yt2x1 => intro w hSw; (try dsimp only at hSw); go_simp <;> (try with_reducible rfl)
      (try simp only [List.getElem_toArray, List.getElem_cons_succ, List.getElem_cons_zero, Act.put, List.setIfInBounds_toArray, List.set_cons_zero, List.set_cons_succ])
      refine wpAnyH_take (i := 2) (v := ?vt2x2) rfl (by kernel_rfl) (by kernel_rfl) (by kernel_rfl) (fun _ _ _ h => h) (Or.inl ⟨by rfl, ?yt2x2⟩) (by assumption) ?rt2x2
      case yt2x2 => intro w hSw; (try dsimp only at hSw); go_simp <;> (try with_reducible rfl)
      (try simp only [List.getElem_toArray, List.getElem_cons_succ, List.getElem_cons_zero, Act.put, List.setIfInBounds_toArray, List.set_cons_zero, List.set_cons_succ])
      refine wpAnyH_take (i := 3) (v := ?vt2x3) rfl (by kernel_rfl) (by kernel_rfl) (by kernel_rfl) (fun _ _ _ h => h) (Or.inl ⟨by rfl, ?yt2x3⟩) (by assumption) ?rt2x3
      case yt2x3 => intro w hSw; (try dsimp only at hSw); go_simp <;> (try with_reducible rfl)
      (try simp only [List.getElem_toArray, List.getElem_cons_succ, List.getElem_cons_zero, Act.put, List.setIfInBounds_toArray, List.set_cons_zero, List.set_cons_succ])
      refine wpAnyH_take (i := 4) (v := ?vt2x4) rfl (by kernel_rfl) (by kernel_rfl) (by kernel_rfl) (fun _ _ _ h => h) (Or.inl ⟨by rfl, ?yt2x4⟩) (by assumption) ?rt2x4
      case yt2x4 => intro w hSw; (try dsimp only at hSw); go_simp <;> (try with_reducible rfl)
      (try simp only [List.getElem_toArray, List.getElem_cons_succ, List.getElem_cons_zero, Act.put, List.setIfInBounds_toArray, List.set_cons_zero, List.set_cons_succ])
      refine wpAnyH_take (i := 5) (v := ?vt2x5) rfl (by kernel_rfl) (by kernel_rfl) (by kernel_rfl) (fun _ _ _ h => h) (Or.inl ⟨by rfl, ?yt2x5⟩) (by assumption) ?rt2x5
      case yt2x5 => intro w hSw; (try dsimp only at hSw); go_simp <;> (try with_reducible rfl)
      (try simp only [List.getElem_toArray, List.getElem_cons_succ, List.getElem_cons_zero, Act.put, List.setIfInBounds_toArray, List.set_cons_zero, List.set_cons_succ])
      refine wpAnyH_take (i := 6) (v := ?vt2x6) rfl (by kernel_rfl) (by kernel_rfl) (by kernel_rfl) (fun _ _ _ h => h) (Or.inl ⟨by rfl, ?yt2x6⟩) (by assumption) ?rt2x6
      case yt2x6 => intro w hSw; (try dsimp only at hSw); go_simp <;> (try with_reducible rfl)
      (try simp only [List.getElem_toArray, List.getElem_cons_succ, List.getElem_cons_zero, Act.put, List.setIfInBounds_toArray, List.set_cons_zero, List.set_cons_succ])
      refine wpAnyH_take (i := 7) (v := ?vt2x7) rfl (by kernel_rfl) (by kernel_rfl) (by kernel_rfl) (fun _ _ _ h => h) (Or.inl ⟨by rfl, ?yt2x7⟩) (by assumption) ?rt2x7
      case yt2x7 => intro w hSw; (try dsimp only at hSw); go_simp <;> (try with_reducible rfl)
      (try simp only [List.getElem_toArray, List.getElem_cons_succ, List.getElem_cons_zero, Act.put, List.setIfInBounds_toArray, List.set_cons_zero, List.set_cons_succ])
      refine wpAnyH_take (i := 9) (v := ?vt2x9) rfl (by kernel_rfl) (by kernel_rfl) (by kernel_rfl) (fun _ _ _ h => h) (Or.inl ⟨by rfl, ?yt2x9⟩) (by assumption) ?rt2x9
      case yt2x9 => intro w hSw; (try dsimp only at hSw); go_simp <;> (try with_reducible rfl)
      (try simp only [List.getElem_toArray, List.getElem_cons_succ, List.getElem_cons_zero, Act.put, List.setIfInBounds_toArray, List.set_cons_zero, List.set_cons_succ])
      refine wpAnyH_take (i := 10) (v := ?vt2x10) rfl (by kernel_rfl) (by kernel_rfl) (by kernel_rfl) (fun _ _ _ h => h) (Or.inl ⟨by rfl, ?yt2x10⟩) (by assumption) ?rt2x10
      case yt2x10 => intro w hSw; (try dsimp only at hSw); go_simp <;> (try with_reducible rfl)
      (try simp only [List.getElem_toArray, List.getElem_cons_succ, List.getElem_cons_zero, Act.put, List.setIfInBounds_toArray, List.set_cons_zero, List.set_cons_succ])
      refine wpAnyH_take (i := 11) (v := ?vt2x11) rfl (by kernel_rfl) (by kernel_rfl) (by kernel_rfl) (fun _ _ _ h => h) (Or.inl ⟨by rfl, ?yt2x11⟩) (by assumption) ?rt2x11
      case yt2x11 => intro w hSw; (try dsimp only at hSw); go_simp <;> (try with_reducible rfl)
      (try simp only [List.getElem_toArray, List.getElem_cons_succ, List.getElem_cons_zero, Act.put, List.setIfInBounds_toArray, List.set_cons_zero, List.set_cons_succ])
      refine wpAnyH_take (i := 12) (v := ?vt2x12) rfl (by kernel_rfl) (by kernel_rfl) (by kernel_rfl) (fun _ _ _ h => h) (Or.inl ⟨by rfl, ?yt2x12⟩) (by assumption) ?rt2x12
      case yt2x12 => intro w hSw; (try dsimp only at hSw); go_simp <;> (try with_reducible rfl)
      (try simp only [List.getElem_toArray, List.getElem_cons_succ, List.getElem_cons_zero, Act.put, List.setIfInBounds_toArray, List.set_cons_zero, List.set_cons_succ])
      refine wpAnyH_ready (rs := [8]) (by kernel_rfl) (by simp) ?_
      refine AllReadyH.cons rfl (fun K hK => ?_) AllReadyH.nil
      go_simp
      go_wp2_with fail
      (with_reducible refine (pj_records pB s8.use (by omega)).mono ?_)
      rintro e vC ⟨AC, cC, rfl, hRC, _, hb⟩
      have pC := pB.next hb
      have rC := rB.next hb
      have bC := bB.trans (hb.mono zB)
      have zC := Nat.le_trans zB hb.size
      have hl6 : L2.length ≤ 1000000 := by have := JM.useR_count L2; have := s8.use; omega
      refine hK.out _ _ (rC.d.cell (k := 1) rfl) (fun hHeld => ?_)
      clear hK K pB rB hb bB
      refine wpAnyH_ready (rs := [13]) (by kernel_rfl) (by simp) ?_
      refine AllReadyH.cons rfl (fun K hK => ?_) AllReadyH.nil
      go_simp
      go_wp2_with fail
      (with_reducible refine (same2_any AC R9 cC cr9 L2 L2 vC hl6 hRC rC.r).mono ?_)
      rintro e vD ⟨rfl, hb⟩
      rw [decide_eq_true rfl]
      have pD := pC.next hb
      have rD := rC.next hb
      have bD := bC.trans (hb.mono zC)
      have zD := Nat.le_trans zC hb.size
      refine hK.out _ _ (rD.d.cell (k := 1) rfl) (fun hHeld => ?_)
      clear hK K pC rC hb bC hRC
      refine wpAnyH_take (i := 14) (v := ?vt2x14) rfl (by kernel_rfl) (by kernel_rfl) (by kernel_rfl) (fun _ _ _ h => h) (Or.inl ⟨by rfl, ?yt2x14⟩) (by assumption) ?rt2x14
      case yt2x14 => intro w hSw; (try dsimp only at hSw); go_simp <;> (try with_reducible rfl)
      (try simp only [List.getElem_toArray, List.getElem_cons_succ, List.getElem_cons_zero, Act.put, List.setIfInBounds_toArray, List.set_cons_zero, List.set_cons_succ])
      refine wpAnyH_take (i := 15) (v := ?vt2x15) rfl (by kernel_rfl) (by kernel_rfl) (by kernel_rfl) (fun _ _ _ h => h) (Or.inl ⟨by rfl, ?yt2x15⟩) (by assumption) ?rt2x15
      case yt2x15 => intro w hSw; (try dsimp only at hSw); go_simp <;> (try with_reducible rfl)
      (try simp only [List.getElem_toArray, List.getElem_cons_succ, List.getElem_cons_zero, Act.put, List.setIfInBounds_toArray, List.set_cons_zero, List.set_cons_succ])
      refine wpAnyH_take (i := 16) (v := ?vt2x16) rfl (by kernel_rfl) (by kernel_rfl) (by kernel_rfl) (fun _ _ _ h => h) (Or.inl ⟨by rfl, ?yt2x16⟩) (by assumption) ?rt2x16
      case yt2x16 => intro w hSw; (try dsimp only at hSw); go_simp <;> (try with_reducible rfl)
      (try simp only [List.getElem_toArray, List.getElem_cons_succ, List.getElem_cons_zero, Act.put, List.setIfInBounds_toArray, List.set_cons_zero, List.set_cons_succ])
      refine wpAnyH_ready (rs := [17]) (by kernel_rfl) (by simp) ?_
      refine AllReadyH.cons rfl (fun K hK => ?_) AllReadyH.nil
      go_simp
      have hrp : Calls Try.prog 53 #[.pointer (some ⟨gj, 0, none⟩), .slice none 0 0] vD _ := replace_ok nb gj h7 B7 none c7 0 L2 [] gd gp gm k7 n [] M8 n vD s8 hM8 h4 (by omega) (by omega) rfl (Nat.zero_le _) zD (fun q u hu => by cases hu) (.inl rfl) pD
      go_wp2_with fail
      (with_reducible refine hrp.mono ?_)
      rintro e vE ⟨rfl, ⟨hE, BE, cE, ME, pE, sE, _, _⟩, hoE⟩
      have rE := rD.only hoE (by simp; omega) hg9
      have bE := below_only bD hoE (by simp; omega) zD
      have zE := Nat.le_trans zD hoE.size
      refine hK.out _ _ (rE.d.cell (k := 1) rfl) (fun hHeld => ?_)
      clear hK K pD rD hoE bD hrp
      refine wpAnyH_take (i := 18) (v := ?vt2x18) rfl (by kernel_rfl) (by kernel_rfl) (by kernel_rfl) (fun _ _ _ h => h) (Or.inl ⟨by rfl, ?yt2x18⟩) (by assumption) ?rt2x18
      case yt2x18 => intro w hSw; (try dsimp only at hSw); go_simp <;> (try with_reducible rfl)
      (try simp only [List.getElem_toArray, List.getElem_cons_succ, List.getElem_cons_zero, Act.put, List.setIfInBounds_toArray, List.set_cons_zero, List.set_cons_succ])
      refine wpAnyH_take (i := 19) (v := ?vt2x19) rfl (by kernel_rfl) (by kernel_rfl) (by kernel_rfl) (fun _ _ _ h => h) (Or.inl ⟨by rfl, ?yt2x19⟩) (by assumption) ?rt2x19
      case yt2x19 => intro w hSw; (try dsimp only at hSw); go_simp <;> (try with_reducible rfl)
      (try simp only [List.getElem_toArray, List.getElem_cons_succ, List.getElem_cons_zero, Act.put, List.setIfInBounds_toArray, List.set_cons_zero, List.set_cons_succ])
      refine wpAnyH_take (i := 20) (v := ?vt2x20) rfl (by kernel_rfl) (by kernel_rfl) (by kernel_rfl) (fun _ _ _ h => h) (Or.inl ⟨by rfl, ?yt2x20⟩) (by assumption) ?rt2x20
      case yt2x20 => intro w hSw; (try dsimp only at hSw); go_simp <;> (try with_reducible rfl)
      (try simp only [List.getElem_toArray, List.getElem_cons_succ, List.getElem_cons_zero, Act.put, List.setIfInBounds_toArray, List.set_cons_zero, List.set_cons_succ])
      refine wpAnyH_take (i := 21) (v := ?vt2x21) rfl (by kernel_rfl) (by kernel_rfl) (by kernel_rfl) (fun _ _ _ h => h) (Or.inl ⟨by rfl, ?yt2x21⟩) (by assumption) ?rt2x21
      case yt2x21 => intro w hSw; (try dsimp only at hSw); go_simp <;> (try with_reducible rfl)
      (try simp only [List.getElem_toArray, List.getElem_cons_succ, List.getElem_cons_zero, Act.put, List.setIfInBounds_toArray, List.set_cons_zero, List.set_cons_succ])
      refine wpAnyH_ready (rs := [22]) (by kernel_rfl) (by simp) ?_
      refine AllReadyH.cons rfl (fun K hK => ?_) AllReadyH.nil
      go_simp
      go_wp2_with fail
      (with_reducible refine (jlen_any gj gd hE BE cE [] false vE pE.j).mono ?_)
      rintro e vE ⟨rfl, rfl⟩
      rw [show ((([] : List ByteArray).length : Nat) : Int) = 0 from rfl]
      refine hK.out _ _ (rE.d.cell (k := 1) rfl) (fun hHeld => ?_)
      clear hK K
      refine wpAnyH_take (i := 23) (v := ?vt2x23) rfl (by kernel_rfl) (by kernel_rfl) (by kernel_rfl) (fun _ _ _ h => h) (Or.inl ⟨by rfl, ?yt2x23⟩) (by assumption) ?rt2x23
      case yt2x23 => intro w hSw; (try dsimp only at hSw); go_simp <;> (try with_reducible rfl)
      (try simp only [List.getElem_toArray, List.getElem_cons_succ, List.getElem_cons_zero, Act.put, List.setIfInBounds_toArray, List.set_cons_zero, List.set_cons_succ])
      refine wpAnyH_take (i := 24) (v := ?vt2x24) rfl (by kernel_rfl) (by kernel_rfl) (by kernel_rfl) (fun _ _ _ h => h) (Or.inl ⟨by rfl, ?yt2x24⟩) (by assumption) ?rt2x24
      case yt2x24 => intro w hSw; (try dsimp only at hSw); go_simp <;> (try with_reducible rfl)
      (try simp only [List.getElem_toArray, List.getElem_cons_succ, List.getElem_cons_zero, Act.put, List.setIfInBounds_toArray, List.set_cons_zero, List.set_cons_succ])
      refine wpAnyH_take (i := 25) (v := ?vt2x25) rfl (by kernel_rfl) (by kernel_rfl) (by kernel_rfl) (fun _ _ _ h => h) (Or.inl ⟨by rfl, ?yt2x25⟩) (by assumption) ?rt2x25
      case yt2x25 => intro w hSw; (try dsimp only at hSw); go_simp <;> (try with_reducible rfl)
      (try simp only [List.getElem_toArray, List.getElem_cons_succ, List.getElem_cons_zero, Act.put, List.setIfInBounds_toArray, List.set_cons_zero, List.set_cons_succ])
      have hfin := HW.out _ bE
      clear hHeld rE pE
      refine wpAnyH_done (by kernel_rfl) ?_ _
      go_wp2
      go_ret
      exact ⟨rfl, hfin⟩
    · have o7 : RowAt v7 R (l.map Value.string) := hr7.r
      have hRg := hc5
      clear hr7 hA7
      go_wp2_with fail
      (with_reducible refine (append_closed nb gj x B7 c7 l ⟨#[]⟩ gd gp gm k7 n [] M7 n v7 ok7 len7 h1x huse h4 (by omega) (by omega) (by decide) z7 p7).mono ?_)
      rintro e v8 ⟨rfl, ⟨B8, c8, p8, hF8⟩, ho8⟩
      have b8 := below_only b7 ho8 (by simp; omega) z7
      have z8 := Nat.le_trans z7 ho8.size
      have o8 := o7.only ho8 (fun q hq => (hRg q hq).1)
      clear p7 o7 ho8 b7
      have hrp : Calls Try.prog 53 #[.pointer (some ⟨gj, 0, none⟩), .slice none 0 0] v8 _ := replace_closed nb gj x B8 none c8 0 l [] gd gp gm (k7 + 41) n [] M7 n v8 ok7 len7 h1x h4 (by omega) (by omega) (by decide) z8 (fun q u hu => by cases hu) (.inl rfl) p8
      go_wp2_with fail
      (with_reducible refine hrp.mono ?_)
      rintro e v9 ⟨rfl, ⟨B9, c9, p9, hF9⟩, ho9⟩
      have b9 := below_only b8 ho9 (by simp; omega) z8
      have z9 := Nat.le_trans z8 ho9.size
      have o9 := o8.only ho9 (fun q hq => (hRg q hq).1)
      clear p8 o8 ho9 b8 hrp
      go_wp2_with fail
      (with_reducible refine (jsanity_any _).mono ?_)
      rintro e va ⟨rfl, hba⟩
      have pa := p9.next hba
      have oa := o9.next hba
      have ba := b9.trans (hba.mono z9)
      have za := Nat.le_trans z9 hba.size
      clear p9 o9 hba b9
      go_wp2_with fail
      (with_reducible refine (pj_records pa huse (by omega)).mono ?_)
      rintro e vb ⟨Ab, cb, rfl, hRb, _, hbb⟩
      have pb := pa.next hbb
      have ob := oa.next hbb
      have bb := ba.trans (hbb.mono za)
      have zb := Nat.le_trans za hbb.size
      have hl6 : l.length ≤ 1000000 := by have := JM.useR_count l; omega
      clear pa oa hbb ba
      go_wp2_with fail
      (with_reducible refine (same2_any Ab R cb cr l l vb hl6 hRb ob).mono ?_)
      rintro e vc ⟨rfl, hbc⟩
      rw [decide_eq_true rfl]
      have pc := pb.next hbc
      have bc := bb.trans (hbc.mono zb)
      clear pb ob hbc bb hRb
      go_wp2_with fail
      (with_reducible refine (jroom_any gj x B9 c9 l true gd gp gm _ n [] M7 n vc len7 h4 (by omega) (by omega) pc.p pc.j).mono ?_)
      rintro e vc ⟨rfl, rfl⟩
      go_wp2_with fail
      (with_reducible refine (up_any gd gp gm _ n [] M7 vc pc.p).mono ?_)
      rintro e vc ⟨rfl, rfl⟩
      rw [up7]
      have hfin := HW.out _ bc
      go_wp2
      go_ret
      exact ⟨rfl, hfin⟩
end Go.Proofs.Ytlmfdlkmbhmcgaa
