/-
  The walk of the law JournalSurvives. Conditions: its arguments lie there.
-/
import Derived.Test.YtlmfdlkmbhmcgaaKJl7
namespace Go.Proofs.Ytlmfdlkmbhmcgaa
open Go.RowKit Go.Shelf

def TB (a b c : UInt8) : List Value := [.int .u8 (a.toNat : Int), .int .u8 (b.toNat : Int), .int .u8 (c.toNat : Int)]
theorem few_one (x : OpJ) (w : World) : Calls Try.prog 35 #[.slice (some ⟨w.heap.size, 0, none⟩) 1 1] (w.alloc (.cells #[.int .i64 x.kind, .int .i64 x.n, .int .i64 x.k, .int .u8 (x.fill.toNat : Int)] 75)) fun e w' => FewRes [x] e ∧ w' = w.alloc (.cells #[.int .i64 x.kind, .int .i64 x.n, .int .i64 x.k, .int .u8 (x.fill.toNat : Int)] 75) := by
  have hBn := blk_new w 75 (opJ x)
  refine jfew_any _ 1 [x] _ (by show (1 : Nat) ≤ _; decide) ?_
  intro j y hy
  have hj : j = 0 := by
    have := (List.getElem?_eq_some_iff.1 hy).1
    simp at this; exact this
  subst hj
  cases hy
  refine ⟨_, rfl, fun w' hw q u hu => ?_⟩
  have hlt : w.heap.size < (w.alloc (.cells #[.int .i64 x.kind, .int .i64 x.n, .int .i64 x.k, .int .u8 (x.fill.toNat : Int)] 75)).heap.size := hBn.lt
  have hcell := hBn.cell hu
  rw [addr_mid, addr_mid]
  rw [show 0 + 0 * 4 + q = q by omega]
  rw [hw.cell hlt]
  exact hcell
/-- What a call and its failure leave behind a Mount. -/
def OutM (n : Nat) (l : List ByteArray) (x : OpJ) (E : Int) (l' : List ByteArray) : Prop :=
  (E = JM.doE (capOf n) l x ∧ l' = JM.doL (capOf n) l x) ∨ (E = 13 ∧ JM.doE (capOf n) l x = 0 ∧ (l' = JM.doL (capOf n) l x ∨ l' = l))
theorem pj_trip {n0 : Nat} {v : World} {gj gd gp gm cp : Nat} {Y : List Value} {half k : Nat} {A : Option Addr} {c : Nat} {M : DM} {l : List ByteArray} {cl : Bool} (t : Int) (p : PJ n0 v gj gd gp gm cp Y half k A c M l cl) (h1 : -1 ≤ t) (h2 : t ≤ 255) :
    Calls Try.prog 22 #[.pointer (some ⟨gd, 0, none⟩), .int .i64 t] v fun e v' => e = .returned (.tuple #[]) ∧ PJ n0 v' gj gd gp gm cp Y half k A c (M.tripTo t) l cl ∧ Only [gd] v v' := by
  refine (trip_any gd gp gm k cp Y M t v (by omega) (by omega) p.p).mono ?_
  rintro e v' ⟨rfl, hp, ho⟩
  refine ⟨rfl, ⟨hp, p.j.only ho ?_ ?_, p.o, fun q hq => Nat.lt_of_lt_of_le (p.al q hq) ho.size, p.dj, p.ad⟩, ho⟩
  · have := p.dj; simp at this ⊢; omega
  · intro q hq; have := p.ad q hq; simp at this ⊢; omega
theorem trip_mount {n0 n : Nat} {w v v1 v2 : World} {gj gj' gd gp gm cp : Nat} {Y : List Value} {half k k' : Nat} {l : List ByteArray} {x : OpJ} {E : Int} {A : Option Addr} {gr : Nat} (T : TripPost n0 n v v1 gj gj' gd gp gm cp Y half k k' l x E A) (ho : Only [gr] v1 v2) (hg : gr ∉ [gd, gp, gm]) (b : Below n0 w v2) (g : n0 ≤ gd ∧ n0 ≤ gp ∧ n0 ≤ gm) (z : n0 ≤ v2.heap.size) (P : Option Addr) (pc : Nat) (picks : List Int) (hl : picks.length ≤ 1000000) (hP : ∀ w', Below n0 w w' → PkAt w' P picks) :
    Calls Try.prog 27 #[.pointer (some ⟨gd, 0, none⟩), .slice P picks.length pc] v2 fun e v' => e = .returned (.tuple #[]) ∧ (∃ l', DW n0 n w v' gd gp gm cp Y k' l' ∧ OutM n l x E l') ∧ Only [gd, gp, gm] v2 v' := by
  simp only [List.mem_cons, List.not_mem_nil, or_false, not_or] at hg
  obtain ⟨M', A', c', _, T⟩ := T
  rcases T with ⟨e, h', p, s⟩ | ⟨e1, e2, _, p, ok, len, up, hE⟩
  · have p2 := p.p.only ho (by simp; omega) (by simp; omega) (by simp; omega)
    refine (mount_any gd gp gm k' cp Y M' P pc picks v2 s.ok p2 hl (fun w' ho => hP w' (below_only b ho (by simp; omega) z))).mono ?_
    rintro y v' ⟨rfl, hp, ho⟩
    exact ⟨rfl, ⟨_, ⟨h', _, hp, survive_done s picks, below_only b ho (by simp; omega) z, g, Nat.le_trans z ho.size⟩, .inl ⟨e, rfl⟩⟩, ho⟩
  · have p2 := p.p.only ho (by simp; omega) (by simp; omega) (by simp; omega)
    refine (mount_any gd gp gm k' cp Y M' P pc picks v2 ok p2 hl (fun w' ho => hP w' (below_only b ho (by simp; omega) z))).mono ?_
    rintro y v' ⟨rfl, hp, ho⟩
    rcases hE picks with ⟨h', s⟩ | ⟨h', s⟩
    · exact ⟨rfl, ⟨_, ⟨h', _, hp, s, below_only b ho (by simp; omega) z, g, Nat.le_trans z ho.size⟩, .inr ⟨e1, e2, .inl rfl⟩⟩, ho⟩
    · exact ⟨rfl, ⟨_, ⟨h', _, hp, s, below_only b ho (by simp; omega) z, g, Nat.le_trans z ho.size⟩, .inr ⟨e1, e2, .inr rfl⟩⟩, ho⟩
def SvRel (n0 n : Nat) (w : World) (gd gp gm gr k : Nat) (l l2 l' : List ByteArray) (R R2 : Option Addr) (c2 : Nat) (iv : Value) (wr : World) : Prop :=
  ∃ j : Int, (j = 1 ∨ j = 2 ∨ j = 3) ∧ iv = .int .i64 j ∧ DW n0 n w wr gd gp gm n [] k l' ∧ JRef wr gr R2 c2 (capOf n) l2 ∧ RowAt wr R (l.map Value.string)
set_option maxRecDepth 100000 in
set_option maxHeartbeats 6400000 in
theorem survLaw_any (p : Int) (A : Option Addr) (c : Nat) (xs : List OpJ) (kind nn kk : Int) (fill t0 t1 t2 : UInt8) (P0 P1 P2 : Option Addr) (c0 c1 c2 : Nat) (k0 k1 k2 : List Int) (w : World) (hl : xs.length ≤ 140737488355328) (hS : ScriptJ w.heap.size w A xs)
    (hP0 : ∀ w', Below w.heap.size w w' → PkAt w' P0 k0) (hP1 : ∀ w', Below w.heap.size w w' → PkAt w' P1 k1) (hP2 : ∀ w', Below w.heap.size w w' → PkAt w' P2 k2) :
    Calls Try.prog 11 #[.int .i64 p, .slice A xs.length c, .agg #[.int .i64 kind, .int .i64 nn, .int .i64 kk, .int .u8 (fill.toNat : Int)], .agg #[.int .u8 (t0.toNat : Int), .int .u8 (t1.toNat : Int), .int .u8 (t2.toNat : Int)], .agg #[.slice P0 k0.length c0, .slice P1 k1.length c1, .slice P2 k2.length c2]] w fun e w' => e = .returned (.bool true) ∧ Below w.heap.size w w' := by
  have HS := Lib.hid hS
  have hun := Try.underlying75
  have H0 := Lib.hid hP0
  have H1 := Lib.hid hP1
  have H2 := Lib.hid hP2
  clear hS hP0 hP1 hP2
  obtain ⟨N, hN⟩ : ∃ N, Hid (xs.length = N) := ⟨_, rfl⟩
  obtain ⟨n0, hn0⟩ : ∃ n0, Hid (k0.length = n0) := ⟨_, rfl⟩
  obtain ⟨n1, hn1⟩ : ∃ n1, Hid (k1.length = n1) := ⟨_, rfl⟩
  obtain ⟨n2, hn2⟩ : ∃ n2, Hid (k2.length = n2) := ⟨_, rfl⟩
  rw [hN.out, hn0.out, hn1.out, hn2.out]
  rw [hN.out] at hl
  obtain ⟨F, hF⟩ : ∃ F : Int, Hid ((fill.toNat : Int) = F) := ⟨_, rfl⟩
  go_enter Try.func11, Try.ntmps11
  go_wp2_with (with_reducible refine wpList_box (o := ⟨some 7, .box 75 (.tmp 2), _, _, _, _⟩) ?g1 75 (.tmp 2) ?o1 (.agg #[.int .i64 kind, .int .i64 nn, .int .i64 kk, .int .u8 (fill.toNat : Int)]) [.int .i64 kind, .int .i64 nn, .int .i64 kk, .int .u8 (fill.toNat : Int)] ?x1 ?c1 ?_)
  try (case g1 => rfl)
  try (case o1 => rfl)
  try (case x1 => rfl)
  try (case c1 => rfl)
  intro ga w1 hga hs1 hb1 hA1
  have b1 : Below w.heap.size w w1 := hb1.mono (Nat.le_of_eq hga.out.symm)
  clear hb1 hga hs1
  go_wp2_with (with_reducible refine wpList_box (o := ⟨some 8, .box 93 (.tmp 3), _, _, _, _⟩) ?g2 93 (.tmp 3) ?o2 (.agg #[.int .u8 (t0.toNat : Int), .int .u8 (t1.toNat : Int), .int .u8 (t2.toNat : Int)]) [.int .u8 (t0.toNat : Int), .int .u8 (t1.toNat : Int), .int .u8 (t2.toNat : Int)] ?x2 ?c2 ?_)
  try (case g2 => rfl)
  try (case o2 => rfl)
  try (case x2 => rfl)
  try (case c2 => rfl)
  intro gb w2 hgb hs2 hb2 hB2
  have hb2' : Below w1.heap.size w1 w2 := hb2.mono (Nat.le_of_eq hgb.out.symm)
  have hA2 := hA1.next hb2' hA1.lt
  have b2 := below_join b1 hb2'
  clear hb2 hgb hs2 hA1 hb2' b1
  go_wp2_with (with_reducible refine wpList_box (o := ⟨some 9, .box 94 (.tmp 4), _, _, _, _⟩) ?g3 94 (.tmp 4) ?o3 (.agg #[.slice P0 n0 c0, .slice P1 n1 c1, .slice P2 n2 c2]) [.slice P0 n0 c0, .slice P1 n1 c1, .slice P2 n2 c2] ?x3 ?c3 ?_)
  try (case g3 => rfl)
  try (case o3 => rfl)
  try (case x3 => rfl)
  try (case c3 => rfl)
  intro gc w3 hgc hs3 hb3 hC3
  have hb3' : Below w2.heap.size w2 w3 := hb3.mono (Nat.le_of_eq hgc.out.symm)
  have hA3 := hA2.next hb3' hA2.lt
  have hB3 := hB2.next hb3' hB2.lt
  have b3 := below_join b2 hb3'
  clear hb3 hgc hs3 hA2 hB2 hb3' b2
  go_wp2_with fail
  have hf1 : Calls Try.prog 35 #[.slice A N c] w3 fun e w' => FewRes xs e ∧ w' = w3 := by
    have h := jfew_any A c xs w3 (by rw [hN.out]; exact hl) ((HS.out.next b3).up b3.size)
    rw [hN.out] at h
    exact h
  (with_reducible refine hf1.mono ?_)
  rintro e w3 ⟨⟨q1, rfl, hq1⟩, rfl⟩
  clear hf1
  go_wp2_with (with_reducible refine wpList_get (o := ⟨some 31, .load 75 (.tmp 7), _, _, _, _⟩) (by with_unfolding_all rfl) 75 (.tmp 7) (by with_unfolding_all rfl) ga 0 (by with_unfolding_all rfl) hA3 [.int .i64 kind, .int .i64 nn, .int .i64 kk, .int .u8 (fill.toNat : Int)] (cs_all _) _ (by with_unfolding_all exact hun) (by with_unfolding_all rfl) (by with_unfolding_all exact Try.sizeJ) ?_)
  have hbn := below_new w3 (.cells #[.int .i64 kind, .int .i64 nn, .int .i64 kk, .int .u8 (fill.toNat : Int)] 75)
  have hA4 := hA3.next hbn hA3.lt
  have hB4 := hB3.next hbn hB3.lt
  have hC4 := hC3.next hbn hC3.lt
  have b4 := below_join b3 hbn
  have hf2 : Calls Try.prog 35 #[.slice (some ⟨w3.heap.size, 0, none⟩) 1 1] (w3.alloc (.cells #[.int .i64 kind, .int .i64 nn, .int .i64 kk, .int .u8 (fill.toNat : Int)] 75)) _ := few_one ⟨kind, nn, kk, fill⟩ w3
  (with_reducible refine hf2.mono ?_)
  rintro e w4 ⟨⟨q2, rfl, hq2⟩, rfl⟩
  clear hf2 hA3 hB3 hC3 hbn b3
  generalize w3.alloc (.cells #[.int .i64 kind, .int .i64 nn, .int .i64 kk, .int .u8 (fill.toNat : Int)] 75) = w4 at hA4 hB4 hC4 b4 ⊢
  have d0 := hC4.cell (k := 0) rfl
  have d1 := hC4.cell (k := 1) rfl
  have d2 := hC4.cell (k := 2) rfl
  by_cases hlo : p < 4
  · go_wp2_with fail
    (with_reducible refine (jsanity_any _).mono ?_)
    rintro e w5 ⟨rfl, hb⟩
    have hb' := below_join b4 hb
    go_wp2
    go_ret
    exact ⟨rfl, hb'⟩
  by_cases hhi : 24 < p
  · have hlo' : 4 ≤ p := by omega
    go_wp2_with fail
    (with_reducible refine (jsanity_any _).mono ?_)
    rintro e w5 ⟨rfl, hb⟩
    have hb' := below_join b4 hb
    go_wp2
    go_ret
    exact ⟨rfl, hb'⟩
  have hlo' : 4 ≤ p := by omega
  have hhi' : p ≤ 24 := by omega
  rcases q1 with _ | _
  · go_wp2_with fail
    (with_reducible refine (jsanity_any _).mono ?_)
    rintro e w5 ⟨rfl, hb⟩
    have hb' := below_join b4 hb
    go_wp2
    go_ret
    exact ⟨rfl, hb'⟩
  rcases q2 with _ | _
  · go_wp2_with fail
    (with_reducible refine (jsanity_any _).mono ?_)
    rintro e w5 ⟨rfl, hb⟩
    have hb' := below_join b4 hb
    go_wp2
    go_ret
    exact ⟨rfl, hb'⟩
  by_cases hm0 : 64 < n0
  · have hm0i : (64 : Int) < (n0 : Int) := by omega
    go_wp2_with fail
    (with_reducible refine (jsanity_any _).mono ?_)
    rintro e w5 ⟨rfl, hb⟩
    have hb' := below_join b4 hb
    go_wp2
    go_ret
    exact ⟨rfl, hb'⟩
  have hm0i : (n0 : Int) ≤ 64 := by omega
  by_cases hm1 : 64 < n1
  · have hm1i : (64 : Int) < (n1 : Int) := by omega
    go_wp2_with fail
    (with_reducible refine (jsanity_any _).mono ?_)
    rintro e w5 ⟨rfl, hb⟩
    have hb' := below_join b4 hb
    go_wp2
    go_ret
    exact ⟨rfl, hb'⟩
  have hm1i : (n1 : Int) ≤ 64 := by omega
  by_cases hm2 : 64 < n2
  · have hm2i : (64 : Int) < (n2 : Int) := by omega
    go_wp2_with fail
    (with_reducible refine (jsanity_any _).mono ?_)
    rintro e w5 ⟨rfl, hb⟩
    have hb' := below_join b4 hb
    go_wp2
    go_ret
    exact ⟨rfl, hb'⟩
  have hm2i : (n2 : Int) ≤ 64 := by omega
  obtain ⟨n, rfl⟩ : ∃ n : Nat, p = (n : Int) := ⟨p.toNat, by omega⟩
  have h4 : 4 ≤ n := by omega
  have h24 : n ≤ 24 := by omega
  clear hlo hhi hlo' hhi' hm0 hm1 hm2
  obtain ⟨hq10, hqf⟩ := hq1 rfl
  have hLF := (hq2 rfl).2 _ (List.mem_singleton.2 rfl)
  have hn82 : nn ≤ 8200 := hLF.n
  have hk20 : kk ≤ 20 := hLF.k
  have h4i : (4 : Int) ≤ (n : Int) := by omega
  have h24i : (n : Int) ≤ 24 := by omega
  obtain ⟨nb, hnb⟩ : ∃ nb, w4.heap.size = nb := ⟨_, rfl⟩
  have gA := hA4.lt
  have gB := hB4.lt
  have gC := hC4.lt
  rw [hnb] at gA gB gC
  have HW := Lib.hid (fun (w' : World) (h : Below nb w4 w') => below_join b4 (by rw [hnb]; exact h))
  have HA := Lib.hid (fun (w' : World) (h : Below nb w4 w') => hA4.next h gA)
  have HB := Lib.hid (fun (w' : World) (h : Below nb w4 w') => hB4.next h gB)
  have HC := Lib.hid (fun (w' : World) (h : Below nb w4 w') => hC4.next h gC)
  have haf := after_any nb n w4 w4 A c xs h4 (by omega) hq10 hqf (by rw [← hnb]; exact (HS.out.next b4).up b4.size) (Below.refl _ _) (Nat.le_of_eq hnb.symm)
  rw [hN.out] at haf
  clear hA4 hB4 hC4 b4 hq1 hq2 hqf
  go_wp2_with fail
  (with_reducible refine haf.mono ?_)
  rintro e v5 ⟨gj, gd, gp, gm, gr, k, l, B, R, cr, rfl, hk, h5⟩
  clear haf d0 d1 d2
  have hr5 := h5.r
  have ha5 := h5.a
  have hc5 := h5.c
  obtain ⟨x, cj, M, p5, s5, _, b5, g5, z5⟩ := h5.p
  have zr := h5.z
  clear h5
  have c15 := hr5.d.cell (k := 1) rfl
  have hB5 := HB.out v5 b5
  have cB0 := hB5.cell (k := 0) rfl
  have wt0 : IntKind.i64.wrap (t0.toNat : Int) = (t0.toNat : Int) := IntWalk.i64_in _ ⟨by omega, by have := t0.toNat_lt; omega⟩
  have bt0 := t0.toNat_lt
  go_wp2_with fail
  (with_reducible refine (pj_trip (t0.toNat : Int) p5 (by omega) (by omega)).mono ?_)
  rintro e v6 ⟨rfl, p6, ho6⟩
  have s6 := s5.trip (t := (t0.toNat : Int)) (by omega) (by omega)
  simp only [List.mem_cons, List.not_mem_nil, or_false, not_or] at ha5
  have b6 := below_only b5 ho6 (by simp; omega) z5
  have z6 := Nat.le_trans z5 ho6.size
  have hr6 := hr5.only ho6 (by simp; omega) (fun q hq => by have := (hc5 q hq).1; simp at this ⊢; omega)
  have hA6 := HA.out v6 b6
  have hsz6 := ho6.size
  clear p5 s5 ho6 hr5 c15 cB0 hB5 b5
  go_wp2_with (with_reducible refine wpList_get (o := ⟨some 89, .load 75 (.tmp 7), _, _, _, _⟩) (by with_unfolding_all rfl) 75 (.tmp 7) (by with_unfolding_all rfl) ga 0 (by with_unfolding_all rfl) hA6 [.int .i64 kind, .int .i64 nn, .int .i64 kk, .int .u8 (fill.toNat : Int)] (cs_all _) _ (by with_unfolding_all exact hun) (by with_unfolding_all rfl) (by with_unfolding_all exact Try.sizeJ) ?_)
  (with_reducible refine (do_trip kind nn kk fill hn82 hk20 h4 (by omega) (by omega) z6 p6 s6).mono ?_)
  rintro e v7 ⟨gj7, N7, E7, k7, rfl, hk7, T7, ho7⟩
  have huse := s6.use
  have b7 := below_only b6 ho7 (by simp; omega) z6
  have z7 := Nat.le_trans z6 ho7.size
  have hr7 := hr6.only ho7 (by simp; omega) (fun q hq => (hc5 q hq).1)
  have hA7 := HA.out v7 b7
  have hgl7 := p6.p.d.lt
  have hgp7 := p6.p.p.lt
  have hgm7 := p6.p.m.lt
  have hsz7 := ho7.size
  clear p6 s6 hr6 hA6 b6
  go_wp2_with (with_reducible refine wpList_get (o := ⟨some 96, .load 75 (.tmp 7), _, _, _, _⟩) (by with_unfolding_all rfl) 75 (.tmp 7) (by with_unfolding_all rfl) ga 0 (by with_unfolding_all rfl) hA7 [.int .i64 kind, .int .i64 nn, .int .i64 kk, .int .u8 (fill.toNat : Int)] (cs_all _) _ (by with_unfolding_all exact hun) (by with_unfolding_all rfl) (by with_unfolding_all exact Try.sizeJ) ?_)
  (with_reducible refine (jdo_any2 gr R cr (capOf n) l kind nn kk fill _ hn82 hk20 (by unfold capOf at huse; omega) (by unfold capOf; omega) hr7).mono ?_)
  rintro e v8 ⟨rfl, R8, cr8, r8, ho8, hn8⟩
  have hRne : ∀ q, R = some ⟨q, 0, none⟩ → q ∉ [gr] := fun q hq => by have := hr7.n q hq; simpa using this
  have o8 : RowAt v8 R (l.map Value.string) := hr7.r.only ho8 hRne
  have hR8 : ∀ q, R8 = some ⟨q, 0, none⟩ → q ∉ [gd, gp, gm] := fun q hq => by
    rcases hn8 q hq with e1 | ⟨e1, _⟩
    · have := (hc5 q (e1 ▸ hq)).1
      simp at this ⊢; omega
    · simp; omega
  have hRg : ∀ q, R = some ⟨q, 0, none⟩ → q ∉ [gd, gp, gm] := fun q hq => by
    have := (hc5 q hq).1
    simp at this ⊢; omega
  have hgg : gr ∉ [gd, gp, gm] := by simp; omega
  have b8 : Below nb w4 v8 := below_only b7 ho8 (by simp; omega) z7
  have z8 := Nat.le_trans z7 ho8.size
  have hC8 := HC.out v8 b8
  have c80 := hC8.cell (k := 0) rfl
  have hmt := trip_mount T7 ho8 hgg b8 g5.2 z8 P0 c0 k0 (by rw [hn0.out]; omega) (fun w' h => H0.out w' (HW.out w' h))
  rw [hn0.out] at hmt
  clear hr7 hA7 T7 ho7 hn8 hc5
  go_wp2_with fail
  (with_reducible refine hmt.mono ?_)
  rintro e v9 ⟨rfl, ⟨L, d9, hO⟩, ho9⟩
  have r9 := r8.only ho9 hgg hR8
  have o9 := o8.only ho9 hRg
  clear hmt r8 o8 ho8 hC8 c80
  go_wp2
  obtain ⟨m1, hm1, ha1, hb1⟩ : ∃ m1 : Int, (t1.toNat : Int).tmod 4 = m1 ∧ 0 ≤ m1 ∧ m1 ≤ 255 := ⟨_, rfl, by rw [Int.tmod_eq_emod_of_nonneg (by omega)]; omega, by rw [Int.tmod_eq_emod_of_nonneg (by omega)]; omega⟩
  obtain ⟨m2, hm2, ha2, hb2⟩ : ∃ m2 : Int, (t2.toNat : Int).tmod 4 = m2 ∧ 0 ≤ m2 ∧ m2 ≤ 255 := ⟨_, rfl, by rw [Int.tmod_eq_emod_of_nonneg (by omega)]; omega, by rw [Int.tmod_eq_emod_of_nonneg (by omega)]; omega⟩
  have wt1 : IntKind.i64.wrap (t1.toNat : Int) = (t1.toNat : Int) := IntWalk.i64_in _ ⟨by omega, by have := t1.toNat_lt; omega⟩
  have wt2 : IntKind.i64.wrap (t2.toNat : Int) = (t2.toNat : Int) := IntWalk.i64_in _ ⟨by omega, by have := t2.toNat_lt; omega⟩
  go_loopw [23] (SvRel nb n w4 gd gp gm gr k7 l (JM.doL (capOf n) l ⟨kind, nn, kk, fill⟩) L R R8 cr8) (fun v _ => 3 - natOf v)
  case atStart => exact ⟨1, .inl rfl, rfl, d9, r9, o9⟩
  case round =>
    clear d9 r9 o9 ho9
    obtain ⟨j, hj, rfl, d, r, o⟩ := hrel
    have hcB := HB.out _ d.below
    have hcC := HC.out _ d.below
    have cB1 := hcB.cell (k := 1) rfl
    have cB2 := hcB.cell (k := 2) rfl
    rcases hj with rfl | rfl | rfl
    · go_wp2_with fail
      (with_reducible refine (dw_trip m1 d ha1 hb1).mono ?_)
      rintro e va ⟨rfl, da, hoa⟩
      have ra := r.only hoa hgg hR8
      have oa := o.only hoa hRg
      clear d r o hcB hcC cB1 cB2
      go_wp2_with fail
      (with_reducible refine (dw_open da h4 (by omega)).mono ?_)
      rintro e vb ⟨gq, rfl, db, hbb⟩
      have rb := ra.next hbb
      have ob := oa.next hbb
      clear da ra oa
      have hcC := HC.out _ db.below
      have cC1 := hcC.cell (k := 1) rfl
      have hmt := dw_mount P1 c1 k1 db (by rw [hn1.out]; omega) (fun w' h => H1.out w' (HW.out w' h))
      rw [hn1.out] at hmt
      go_wp2_with fail
      (with_reducible refine hmt.mono ?_)
      rintro e vc ⟨rfl, dc, hoc⟩
      have rc := rb.only hoc hgg hR8
      have oc := ob.only hoc hRg
      clear hmt db rb ob hcC cC1 hoc hbb
      go_wp2
      go_roundw
      case rel => exact ⟨2, .inr (.inl rfl), rfl, dc, rc, oc⟩
      case measure => decide
    · go_wp2_with fail
      (with_reducible refine (dw_trip m2 d ha2 hb2).mono ?_)
      rintro e va ⟨rfl, da, hoa⟩
      have ra := r.only hoa hgg hR8
      have oa := o.only hoa hRg
      clear d r o hcB hcC cB1 cB2
      go_wp2_with fail
      (with_reducible refine (dw_open da h4 (by omega)).mono ?_)
      rintro e vb ⟨gq, rfl, db, hbb⟩
      have rb := ra.next hbb
      have ob := oa.next hbb
      clear da ra oa
      have hcC := HC.out _ db.below
      have cC2 := hcC.cell (k := 2) rfl
      have hmt := dw_mount P2 c2 k2 db (by rw [hn2.out]; omega) (fun w' h => H2.out w' (HW.out w' h))
      rw [hn2.out] at hmt
      go_wp2_with fail
      (with_reducible refine hmt.mono ?_)
      rintro e vc ⟨rfl, dc, hoc⟩
      have rc := rb.only hoc hgg hR8
      have oc := ob.only hoc hRg
      clear hmt db rb ob hcC cC2 hoc hbb
      go_wp2
      go_roundw
      case rel => exact ⟨3, .inr (.inr rfl), rfl, dc, rc, oc⟩
      case measure => decide
    · clear hcB hcC cB1 cB2
      go_wp2_with fail
      (with_reducible refine (dw_openlaw d h4 (by omega)).mono ?_)
      rintro e va ⟨ga', A', ca', xa, Ma, rfl, pa, hua, ba, hba⟩
      have ra := r.next hba
      have oa := o.next hba
      clear d r o hba
      go_wp2_with fail
      (with_reducible refine (pj_records pa hua (by omega)).mono ?_)
      rintro e vb ⟨Ab, cb, rfl, hRb, _, hbb⟩
      have rb := ra.next hbb
      have ob := oa.next hbb
      have hwb := HW.out _ (ba.trans (hbb.mono (by have := ba.size; omega)))
      clear ra oa pa ba hbb
      have hl6 : L.length ≤ 1000000 := by have := JM.useR_count L; unfold capOf at hua; omega
      unfold OutM at hO
      generalize JM.doL (capOf n) l ⟨kind, nn, kk, fill⟩ = L2 at hO rb
      generalize JM.doE (capOf n) l ⟨kind, nn, kk, fill⟩ = E2 at hO ⊢
      by_cases h26 : E7 = 0 ∨ E2 ≠ 0
      · obtain rfl : L = L2 := by
          rcases hO with ⟨_, e2⟩ | ⟨e1, e2, _⟩
          · exact e2
          · omega
        by_cases hE0 : E7 = 0
        · subst hE0
          go_wp2_with fail
          (with_reducible refine (jsanity_any _).mono ?_)
          rintro e vc ⟨rfl, hbc⟩
          have rc := rb.next hbc
          have hRc := hRb.next hbc
          have hwc := below_join hwb hbc
          have cc := rc.d.cell (k := 1) rfl
          clear rb hRb hwb hbc ob
          go_wp2_with fail
          (with_reducible refine (same2_any Ab R8 cb cr8 L L vc hl6 hRc rc.r).mono ?_)
          rintro e vd ⟨rfl, hbd⟩
          rw [decide_eq_true rfl]
          have hwd := below_join hwc hbd
          clear hwc hbd rc hRc cc
          go_wp2
          go_ret
          exact ⟨rfl, hwd⟩
        · have hE2 : E2 ≠ 0 := by omega
          have hE0' : (E7 == 0) = false := beq_eq_false_iff_ne.2 hE0
          have hE2' : (E2 == 0) = false := beq_eq_false_iff_ne.2 hE2
          go_wp2_with fail
          (with_reducible refine (jsanity_any _).mono ?_)
          rintro e vc ⟨rfl, hbc⟩
          have rc := rb.next hbc
          have hRc := hRb.next hbc
          have hwc := below_join hwb hbc
          have cc := rc.d.cell (k := 1) rfl
          clear rb hRb hwb hbc ob
          go_wp2_with fail
          (with_reducible refine (same2_any Ab R8 cb cr8 L L vc hl6 hRc rc.r).mono ?_)
          rintro e vd ⟨rfl, hbd⟩
          rw [decide_eq_true rfl]
          have hwd := below_join hwc hbd
          clear hwc hbd rc hRc cc
          go_wp2
          go_ret
          exact ⟨rfl, hwd⟩
      · obtain ⟨rfl, rfl, hL⟩ : E7 = 13 ∧ E2 = 0 ∧ (L = L2 ∨ L = l) := by
          rcases hO with ⟨e1, _⟩ | h
          · omega
          · exact h
        clear h26 hO
        go_wp2_with fail
        (with_reducible refine (jsanity_any _).mono ?_)
        rintro e vc ⟨rfl, hbc⟩
        have rc := rb.next hbc
        have hRc := hRb.next hbc
        have oc := ob.next hbc
        have hwc := below_join hwb hbc
        have cc := rc.d.cell (k := 1) rfl
        clear rb hRb hwb hbc ob
        go_wp2_with fail
        (with_reducible refine (same2_any Ab R8 cb cr8 L L2 vc hl6 hRc rc.r).mono ?_)
        rintro e vd ⟨rfl, hbd⟩
        have hRd := hRc.next hbd
        have od := oc.next hbd
        have hwd := below_join hwc hbd
        clear hwc hbd rc hRc cc oc
        by_cases hLL : L = L2
        · rw [decide_eq_true hLL]
          go_wp2
          go_ret
          exact ⟨rfl, hwd⟩
        · rw [decide_eq_false hLL]
          obtain rfl : L = l := hL.resolve_left hLL
          go_wp2_with fail
          (with_reducible refine (same2_any Ab R cb cr L L vd hl6 hRd od).mono ?_)
          rintro e ve ⟨rfl, hbe⟩
          rw [decide_eq_true rfl]
          have hwe := below_join hwd hbe
          clear hwd hbe hRd od
          go_wp2
          go_ret
          exact ⟨rfl, hwe⟩
end Go.Proofs.Ytlmfdlkmbhmcgaa
