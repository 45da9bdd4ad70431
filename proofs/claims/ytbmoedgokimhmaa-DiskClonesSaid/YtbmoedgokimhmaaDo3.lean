/-
  Contract of the walk over the law package's played: both disks after a script, in new blocks. Conditions: the script is short and lies in memory that the law leaves alone.
-/
import Derived.Test.YtbmoedgokimhmaaDo2
namespace Go.Proofs.Ytbmoedgokimhmaa
open Go.RowKit

/-- The program's disk and the reference's, both M, in blocks from n0 on that are not the same. -/
structure Two (n0 : Nat) (w : World) (gd gp gm cp : Nat) (Y : List Value) (k gr ga cap : Nat) (X : List Value) (M : DM) : Prop where
  p : PRep w gd gp gm cp Y M k
  r : RRep w gr ga cap X M
  b : n0 ≤ gd ∧ n0 ≤ gp ∧ n0 ≤ gm ∧ n0 ≤ gr ∧ n0 ≤ ga
  e : gr ∉ [gd, gp, gm] ∧ ga ∉ [gd, gp, gm]
theorem Two.e2 {n0 : Nat} {w : World} {gd gp gm cp : Nat} {Y : List Value} {k gr ga cap : Nat} {X : List Value} {M : DM} (h : Two n0 w gd gp gm cp Y k gr ga cap X M) : gd ∉ [gr, ga] ∧ gp ∉ [gr, ga] ∧ gm ∉ [gr, ga] := by
  obtain ⟨h1, h2⟩ := h.e
  simp only [List.mem_cons, List.not_mem_nil, or_false, not_or] at h1 h2 ⊢
  refine ⟨⟨fun e => h1.1 e.symm, fun e => h2.1 e.symm⟩, ⟨fun e => h1.2.1 e.symm, fun e => h2.2.1 e.symm⟩, ⟨fun e => h1.2.2 e.symm, fun e => h2.2.2 e.symm⟩⟩
theorem Two.big {n0 : Nat} {w : World} {gd gp gm cp : Nat} {Y : List Value} {k gr ga cap : Nat} {X : List Value} {M : DM} (h : Two n0 w gd gp gm cp Y k gr ga cap X M) : (∀ q ∈ [gd, gp, gm], n0 ≤ q) ∧ (∀ q ∈ [gr, ga], n0 ≤ q) := by
  obtain ⟨h1, h2, h3, h4, h5⟩ := h.b
  constructor
  · intro q hq
    simp only [List.mem_cons, List.not_mem_nil, or_false] at hq
    rcases hq with rfl | rfl | rfl <;> assumption
  · intro q hq
    simp only [List.mem_cons, List.not_mem_nil, or_false] at hq
    rcases hq with rfl | rfl <;> assumption
theorem Two.next {n0 : Nat} {w w' : World} {gd gp gm cp : Nat} {Y : List Value} {k gr ga cap : Nat} {X : List Value} {M : DM} (h : Two n0 w gd gp gm cp Y k gr ga cap X M) (hb : Below w.heap.size w w') : Two n0 w' gd gp gm cp Y k gr ga cap X M := ⟨h.p.next hb, h.r.next hb, h.b, h.e⟩
def PlRel (n0 : Nat) (M : DM) (xs : List OpM) (gd gp gm cp : Nat) (Y : List Value) (gr ga cap : Nat) (X : List Value) (n : Nat) (w : World) (i : Value) (wr : World) : Prop :=
  ∃ j : Nat, j ≤ n ∧ i = .int .i64 j ∧ Two n0 wr gd gp gm cp Y j gr ga cap X (M.run (xs.take j)) ∧ Below n0 w wr ∧ n0 ≤ wr.heap.size
theorem played_bad (p : Int) (A : Option Addr) (n c : Nat) (w : World) (h : p < 1 ∨ 4096 < p) :
    Calls Try.prog 21 #[.int .i64 p, .slice A n c] w fun e w' => e = .returned (.tuple #[.pointer none, .pointer none, .bool false]) ∧ w = w' := by
  go_enter Try.func21, Try.ntmps21
  go_wp2_with fail
  (with_reducible refine (new_bad p _ h).mono ?_)
  rintro e w1 ⟨rfl, rfl⟩
  go_wp2_with fail
  (with_reducible refine (rnew_bad p _ h).mono ?_)
  rintro e w1 ⟨rfl, rfl⟩
  go_wp2
  go_ret3
  exact ⟨rfl, rfl⟩
set_option maxRecDepth 100000 in
set_option maxHeartbeats 1600000 in
theorem played_any (n : Nat) (A : Option Addr) (c : Nat) (xs : List OpM) (w : World) (h1 : 1 ≤ n) (h2 : n ≤ 40) (hl : xs.length ≤ 40) (hf : ∀ x ∈ xs, x.fine) (hS : ScriptAt w.heap.size w A xs) :
    Calls Try.prog 21 #[.int .i64 (n : Int), .slice A xs.length c] w fun e w' => ∃ gd gp gm gr ga cap X, e = .returned (.tuple #[.pointer (some ⟨gd, 0, none⟩), .pointer (some ⟨gr, 0, none⟩), .bool true]) ∧ Two w.heap.size w' gd gp gm n [] xs.length gr ga cap X ((DM.make n).run xs) ∧ Below w.heap.size w w' := by
  have HS := Lib.hid hS
  have HF := Lib.hid hf
  obtain ⟨N, hN⟩ : ∃ N, Hid (xs.length = N) := ⟨_, rfl⟩
  rw [hN.out] at hl ⊢
  have hfin : Hid ((DM.make n).run (xs.take N) = (DM.make n).run xs) := by
    have : (DM.make n).run (xs.take N) = (DM.make n).run xs := by rw [← hN.out, DM.run_all]
    exact this
  clear hS hf
  go_enter Try.func21, Try.ntmps21
  go_wp2_with fail
  (with_reducible refine (new_any n _ h1 (by omega)).mono ?_)
  rintro e w1 ⟨gd, gp, gm, rfl, hp1, hb1, hg1, hg2, hg3⟩
  go_wp2_with fail
  (with_reducible refine (rnew_any n _ h1 (by omega)).mono ?_)
  rintro e w2 ⟨v, rfl, gr, ga, cap, X, rfl, hr2, hb2, hg4, hg5⟩
  have hlt1 := hp1.d.lt
  have hlt2 := hp1.p.lt
  have hlt3 := hp1.m.lt
  have hsz1 := hb1.size
  have hsz2 := hb2.size
  obtain ⟨n0, hn0⟩ : ∃ n0, Hid (w.heap.size = n0) := ⟨_, rfl⟩
  have h0 : Two n0 w2 gd gp gm n [] 0 gr ga cap X (DM.make n) := by
    rw [← hn0.out]
    refine ⟨hp1.next hb2, hr2, ⟨hg1, hg2, hg3, by omega, by omega⟩, ?_, ?_⟩
    · simp only [List.mem_cons, List.not_mem_nil, or_false]; omega
    · simp only [List.mem_cons, List.not_mem_nil, or_false]; omega
  have hB2 : Below n0 w w2 := by rw [← hn0.out]; exact below_join hb1 hb2
  have hs2 : n0 ≤ w2.heap.size := by rw [← hn0.out]; omega
  obtain ⟨M0, hM0⟩ : ∃ M0, Hid (DM.make n = M0) := ⟨_, rfl⟩
  have hMk : Hid (M0.ok) := by rw [← hM0.out]; exact DM.make_ok (by omega)
  rw [hM0.out] at h0
  rw [hn0.out] at HS
  obtain ⟨big1, big2⟩ := h0.big
  have HB1 := Lib.hid big1
  have HB2 := Lib.hid big2
  obtain ⟨ee1, ee2, ee3⟩ := h0.e2
  have EE1 := Lib.hid ee1
  have EE2 := Lib.hid ee2
  have EE3 := Lib.hid ee3
  clear hp1 hr2 hb1 hb2 hg1 hg2 hg3 hg4 hg5 hlt1 hlt2 hlt3 hsz1 hsz2 big1 big2 ee1 ee2 ee3
  go_wp2
  go_loopw [35] (PlRel n0 M0 xs gd gp gm n [] gr ga cap X N w) (fun i _ => N - natOf i)
  case atStart => exact ⟨0, Nat.zero_le _, rfl, h0, hB2, hs2⟩
  case round =>
    clear h0 hB2 hs2
    obtain ⟨j, hj, rfl, hT, hbel, hsz⟩ := hrel
    by_cases hjn : j < N
    · have hji : (j : Int) < (N : Int) := by omega
      obtain ⟨x, hx⟩ : ∃ x, xs[j]? = some x := ⟨_, List.getElem?_eq_getElem (by rw [hN.out]; exact hjn)⟩
      obtain ⟨p, pa, pc, rfl, hcw⟩ := HS.out j x hx
      have hfx := HF.out x (List.mem_of_getElem? hx)
      have HNX := Lib.hid (DM.run_next M0 xs j x hx)
      have HOK : Hid ((M0.run (xs.take j)).ok) := by
        have : (M0.run (xs.take j)).ok := DM.run_ok _ hMk.out (fun y hy => HF.out y (List.mem_of_mem_take hy))
        exact this
      have HOK2 : Hid (((M0.run (xs.take j)).doM x).ok) := by
        have : ((M0.run (xs.take j)).doM x).ok := DM.doM_ok HOK.out x hfx.i
        exact this
      obtain ⟨hc, _⟩ := hcw wr hbel
      have HPK : Hid (∀ w', Below n0 w w' → PkAt w' pa x.picks) := by
        have : ∀ w', Below n0 w w' → PkAt w' pa x.picks := fun w' hb' => (hcw w' hb').2
        exact this
      obtain ⟨M1, hM1⟩ : ∃ M1, Hid (M0.run (xs.take j) = M1) := ⟨_, rfl⟩
      rw [hM1.out] at HNX HOK HOK2 hT
      obtain ⟨kind, i, at_, tx, pk⟩ := x
      have HI := Lib.hid hfx.i
      have HA := Lib.hid hfx.a
      have HTX : tx.size ≤ 1000000 := by have h := hfx.t; have : tx.size ≤ 300 := h; omega
      have HPL : pk.length ≤ 1000000 := by have h := hfx.p; have : pk.length ≤ 70 := h; omega
      obtain ⟨q, hq⟩ : ∃ q, Hid (pk.length = q) := ⟨_, rfl⟩
      unfold opRow at hc
      simp only [hq.out] at hc
      have hun := Try.underlying34
      have HB := Lib.hid hbel
      clear hx hj hcw hfx
      go_wp2_with (first | (with_reducible refine wpList_load_add (op := ⟨some 38, .load 34 (.tmp 37), _, _, _, _⟩) (by with_unfolding_all rfl) 34 (.tmp 37) (by with_unfolding_all rfl) (p.add (j * 5)) (by with_unfolding_all rfl) [.int .i64 kind, .int .i64 i, .int .i64 at_, .string tx, .slice pa q pc] _ hc hun (by with_unfolding_all rfl) (by with_unfolding_all exact Try.sizeO) ?_) | (with_reducible refine wpList_alloc (o := ⟨some 12, .alloc 34, _, _, _, _⟩) (by with_unfolding_all rfl) 34 (by with_unfolding_all rfl) (.agg #[.int .i64 0, .int .i64 0, .int .i64 0, .string ⟨#[]⟩, .slice none 0 0]) [.int .i64 0, .int .i64 0, .int .i64 0, .string ⟨#[]⟩, .slice none 0 0] (by exact Try.zeroO) (by with_unfolding_all rfl) ?_))
      intro g4 w2 hg4 hs2 hb2 hB2
      have hle4 : wr.heap.size ≤ g4 := Nat.le_of_eq hg4.out.symm
      go_wp2_with (with_reducible refine wpList_put (o := ⟨none, .store 34 (.tmp 12) (.tmp 38), _, _, _, _⟩) (by with_unfolding_all rfl) 34 (.tmp 12) (.tmp 38) (by with_unfolding_all rfl) g4 0 (by with_unfolding_all rfl) (.agg #[.int .i64 kind, .int .i64 i, .int .i64 at_, .string tx, .slice pa q pc]) (by with_unfolding_all rfl) hB2 [.int .i64 kind, .int .i64 i, .int .i64 at_, .string tx, .slice pa q pc] (by with_unfolding_all rfl) (by with_unfolding_all exact Try.sizeO) (by with_unfolding_all exact Nat.le_refl _) (by with_unfolding_all exact one_cell5 rfl rfl rfl rfl rfl) ?_)
      intro w3 hu3 hB3
      have hB3' : Blk w3 g4 34 [.int .i64 kind, .int .i64 i, .int .i64 at_, .string tx, .slice pa q pc] := hB3
      have hb3 : Below wr.heap.size wr w3 := (hb2.mono hle4).trans (hu3.below (B := wr.heap.size) hle4)
      have hT3 := hT.next hb3
      have hbel3 : Below n0 w w3 := hbel.trans (hb3.mono hsz)
      have hsz3 : n0 ≤ w3.heap.size := Nat.le_trans hsz hb3.size
      have hg4d : g4 ∉ [gd, gp, gm] := by
        have h1 := hT.p.d.lt
        have h2 := hT.p.p.lt
        have h3 := hT.p.m.lt
        simp only [List.mem_cons, List.not_mem_nil, or_false]; omega
      clear hc hb2 hB2 hB3 hu3 hb3 hg4 hs2 hT hbel hsz HB
      go_wp2_with (first | (with_reducible refine wpList_get (o := ⟨some 40, .load 34 (.tmp 12), _, _, _, _⟩) (by with_unfolding_all rfl) 34 (.tmp 12) (by with_unfolding_all rfl) g4 0 (by with_unfolding_all rfl) hB3' [.int .i64 kind, .int .i64 i, .int .i64 at_, .string tx, .slice pa q pc] (cs_all _) _ (by with_unfolding_all exact hun) (by with_unfolding_all rfl) (by with_unfolding_all exact Try.sizeO) ?_) | fail)
      rw [← hq.out]
      (with_reducible refine (do_any gd gp gm j n [] M1 kind i at_ tx pa pc pk _ HOK.out HI.out HA.out HTX HPL (by omega) hT3.p (fun w' ho => HPK.out w' (below_only hbel3 ho HB1.out hsz3))).mono ?_)
      rintro e w4 ⟨rfl, hp4, ho4⟩
      have hr4 := hT3.r.only ho4 hT3.e.1 hT3.e.2
      have hbel4 := below_only hbel3 ho4 HB1.out hsz3
      have hsz4 : n0 ≤ w4.heap.size := Nat.le_trans hsz3 ho4.size
      have hB4 := hB3'.only ho4 hg4d
      rw [hq.out]
      clear hB3' hbel3 hsz3 ho4 hg4d
      go_wp2_with (first | (with_reducible refine wpList_get (o := ⟨some 43, .load 34 (.tmp 12), _, _, _, _⟩) (by with_unfolding_all rfl) 34 (.tmp 12) (by with_unfolding_all rfl) g4 0 (by with_unfolding_all rfl) hB4 [.int .i64 kind, .int .i64 i, .int .i64 at_, .string tx, .slice pa q pc] (cs_all _) _ (by with_unfolding_all exact hun) (by with_unfolding_all rfl) (by with_unfolding_all exact Try.sizeO) ?_) | fail)
      rw [← hq.out]
      (with_reducible refine (rdo_any gr ga cap X M1 kind i at_ tx pa pc pk _ HOK.out HI.out HA.out HTX HPL hr4 (fun w' ho => HPK.out w' (below_only hbel4 ho HB2.out hsz4))).mono ?_)
      rintro e w5 ⟨rfl, hr5, ho5⟩
      have hp5 := hp4.only ho5 EE1.out EE2.out EE3.out
      have hbel5 := below_only hbel4 ho5 HB2.out hsz4
      have hsz5 : n0 ≤ w5.heap.size := Nat.le_trans hsz4 ho5.size
      have hT5 : Two n0 w5 gd gp gm n [] (j + 1) gr ga cap X (M0.run (xs.take (j + 1))) := by
        rw [HNX.out]
        exact ⟨hp5, hr5, hT3.b, hT3.e⟩
      clear hB4 hT3 hp4 hr4 hbel4 hsz4 hp5 hr5 ho5
      go_wp2
      go_roundw
      case rel => exact ⟨j + 1, by omega, by go_num, hT5, hbel5, hsz5⟩
      case measure => simp [natOf]; omega
    · obtain rfl : j = N := by omega
      rw [← hM0.out, hfin.out, ← hn0.out] at hT
      rw [← hn0.out] at hbel
      clear hj hjn hsz
      go_wp2
      go_ret3
      exact ⟨gd, gp, gm, gr, ga, cap, X, rfl, hT, hbel⟩
end Go.Proofs.Ytbmoedgokimhmaa
