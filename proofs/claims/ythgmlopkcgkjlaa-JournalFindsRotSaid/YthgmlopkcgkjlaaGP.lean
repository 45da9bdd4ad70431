/-
  Contracts of the functions that the statement calls, part 16 of 37 (merged texts: Do2, Do3). Conditions: as the head of each part says.
-/
import Derived.Test.YthgmlopkcgkjlaaGO

/-
  Contract of the walk over the law package's few: what it accepts is short. Conditions: the script lies in memory that the law leaves alone.
-/
namespace Go.Proofs.Ythgmlopkcgkjlaa
open Go.RowKit

/-- A row of cells, read as a struct, from an address on. -/
theorem run_loadVar_add (w : World) (p : Addr) (ty : TypeId) (cs : List Value) (d : TypeDesc) (hc : ∀ (q : Nat) (u : Value), cs[q]? = some u → w.cell? (p.add q) = some u)
    (hu : Try.prog.underlying ty = some d) (hd : d.isRow = true) (hi : (Try.prog.info? ty).map (·.size) = some cs.length) : (loadVar ty p).run Try.prog w = .ok (.agg cs.toArray) w := by
  have hl : (loadCells p cs.length).run Try.prog w = .ok cs.toArray w := run_loadCells_list (P := Try.prog) w p cs hc
  cases hq : Try.prog.info? ty with
  | none => simp [hq] at hi
  | some i =>
    have hs : i.size = cs.length := by simpa [hq] using hi
    have hagg : (isAgg ty).run Try.prog w = .ok true w := by
      unfold isAgg
      rw [Sem.run_bind, run_underlying hu w]
      cases d <;> simp_all
    simp [loadVar, Sem.run_bind, hagg, sizeOf, typeInfo, hq, hs, hl]
theorem wpList_load_add {ops : Array Oper} {rest : List Oper} {op : Oper} {a : Act} {w : World} {Q : Exit → Act → World → Prop} (hgd : op.guard = none) (ty : TypeId) (x : Operand) (ho : op.op = .load ty x)
    (p : Addr) (hx : a.eval x = .pointer (some p)) (cs : List Value) (d : TypeDesc) (hc : ∀ (q : Nat) (u : Value), cs[q]? = some u → w.cell? (p.add q) = some u)
    (hu : Try.prog.underlying ty = some d) (hd : d.isRow = true) (hi : (Try.prog.info? ty).map (·.size) = some cs.length)
    (h : wpList Try.prog ops Q rest (a.put op.dst (.agg cs.toArray)) w) : wpList Try.prog ops Q (op :: rest) a w := by
  refine wpList_plain hgd fun K hK => ?_
  unfold Oper.wp execOp
  simp only [ho, hx, Instr.loadAt, Instr.sureAddr, Sem.run_bind, Sem.run_pure, Result.andThen_ok, run_loadVar_add w p ty cs d hc hu hd hi]
  exact hK _ _ h
theorem Try.zeroO : (Try.prog.info? 34).map (·.zero) = some (some (.agg #[.int .i64 0, .int .i64 0, .int .i64 0, .string ⟨#[]⟩, .slice none 0 0])) := by kernel_rfl
theorem Try.sizeO : (Try.prog.info? 34).map (·.size) = some 5 := by kernel_rfl
theorem Try.structO : ∃ d, Try.prog.underlying 34 = some d ∧ d.isRow = true := ⟨_, Try.underlying34, rfl⟩
theorem one_cell5 {a b c d e : Value} (ha : a.oneCell' = true) (hb : b.oneCell' = true) (hc : c.oneCell' = true) (hd : d.oneCell' = true) (he : e.oneCell' = true) : ∀ u ∈ [a, b, c, d, e], u.oneCell' = true := by
  intro u hu
  simp only [List.mem_cons, List.not_mem_nil, or_false] at hu
  rcases hu with rfl | rfl | rfl | rfl | rfl <;> assumption
def FewRel (xs : List OpM) (n : Nat) (w : World) (i : Value) (wr : World) : Prop :=
  ∃ j : Nat, j ≤ n ∧ i = .int .i64 j ∧ (∀ m x, m < j → xs[m]? = some x → x.text.size ≤ 300 ∧ x.picks.length ≤ 70) ∧ Below w.heap.size w wr
set_option maxRecDepth 100000 in
set_option maxHeartbeats 1600000 in
theorem few_any (A : Option Addr) (c : Nat) (xs : List OpM) (w : World) (hl : xs.length ≤ 140737488355328) (hS : ScriptAt w.heap.size w A xs) :
    Calls Try.prog 14 #[.slice A xs.length c] w fun e w' => (∃ b, e = .returned (.bool b) ∧ (b = true → xs.length ≤ 40 ∧ ∀ x ∈ xs, x.text.size ≤ 300 ∧ x.picks.length ≤ 70)) ∧ Below w.heap.size w w' := by
  have HS := Lib.hid hS
  obtain ⟨n, hn⟩ : ∃ n, Hid (xs.length = n) := ⟨_, rfl⟩
  rw [hn.out] at hl ⊢
  clear hS
  go_enter Try.func14, Try.ntmps14
  go_wp2
  go_loopw [7] (FewRel xs n w) (fun i _ => n - natOf i)
  case atStart => exact ⟨0, Nat.zero_le _, rfl, fun m x hm => absurd hm (Nat.not_lt_zero m), Below.refl _ _⟩
  case round =>
    obtain ⟨j, hj, rfl, hdone, hbel⟩ := hrel
    by_cases hjn : j < n
    · have hji : (j : Int) < (n : Int) := by omega
      obtain ⟨x, hx⟩ : ∃ x, xs[j]? = some x := ⟨_, List.getElem?_eq_getElem (by rw [hn.out]; exact hjn)⟩
      obtain ⟨p, pa, pc, rfl, hcw⟩ := HS.out j x hx
      obtain ⟨hc, _⟩ := hcw wr hbel
      have HX := Lib.hid hx
      have HD := Lib.hid hdone
      obtain ⟨kind, i, at_, tx, pk⟩ := x
      obtain ⟨q, hq⟩ : ∃ q, Hid (pk.length = q) := ⟨_, rfl⟩
      unfold opRow at hc
      simp only [hq.out] at hc
      have hun := Try.underlying34
      clear hx hdone hj hcw
      go_wp2_with (first | (with_reducible refine wpList_load_add (op := ⟨some 10, .load 34 (.tmp 9), _, _, _, _⟩) (by with_unfolding_all rfl) 34 (.tmp 9) (by with_unfolding_all rfl) (p.add (j * 5)) (by with_unfolding_all rfl) [.int .i64 kind, .int .i64 i, .int .i64 at_, .string tx, .slice pa q pc] _ hc hun (by with_unfolding_all rfl) (by with_unfolding_all exact Try.sizeO) ?_) | (with_reducible refine wpList_alloc (o := ⟨some 4, .alloc 34, _, _, _, _⟩) (by with_unfolding_all rfl) 34 (by with_unfolding_all rfl) (.agg #[.int .i64 0, .int .i64 0, .int .i64 0, .string ⟨#[]⟩, .slice none 0 0]) [.int .i64 0, .int .i64 0, .int .i64 0, .string ⟨#[]⟩, .slice none 0 0] (by exact Try.zeroO) (by with_unfolding_all rfl) ?_))
      intro g4 w2 hg4 hs2 hb2 hB2
      have hle4 : wr.heap.size ≤ g4 := Nat.le_of_eq hg4.out.symm
      go_wp2_with (with_reducible refine wpList_put (o := ⟨none, .store 34 (.tmp 4) (.tmp 10), _, _, _, _⟩) (by with_unfolding_all rfl) 34 (.tmp 4) (.tmp 10) (by with_unfolding_all rfl) g4 0 (by with_unfolding_all rfl) (.agg #[.int .i64 kind, .int .i64 i, .int .i64 at_, .string tx, .slice pa q pc]) (by with_unfolding_all rfl) hB2 [.int .i64 kind, .int .i64 i, .int .i64 at_, .string tx, .slice pa q pc] (by with_unfolding_all rfl) (by with_unfolding_all exact Try.sizeO) (by with_unfolding_all exact Nat.le_refl _) (by with_unfolding_all exact one_cell5 rfl rfl rfl rfl rfl) ?_)
      intro w3 hu3 hB3
      have hb3 : Below wr.heap.size wr w3 := (hb2.mono hle4).trans (hu3.below (B := wr.heap.size) hle4)
      have hbel3 := below_join hbel hb3
      have k3 := hB3.cell (k := 3) (v := .string tx) rfl
      have k4 := hB3.cell (k := 4) (v := .slice pa q pc) rfl
      clear hc hbel hb2 hB2 hB3 hu3 hb3 hg4 hs2
      by_cases ht : tx.size ≤ 300
      · have hti : ((tx.size : Nat) : Int) ≤ 300 := by omega
        by_cases hp : q ≤ 70
        · have hpi : ((q : Nat) : Int) ≤ 70 := by omega
          go_wp2
          go_roundw
          case rel =>
            refine ⟨j + 1, by omega, by go_num, fun m y hm hy => ?_, hbel3⟩
            by_cases hmj : m = j
            · subst hmj
              have e := HX.out
              rw [hy] at e
              injection e with e
              rw [e]
              exact ⟨ht, by rw [hq.out]; exact hp⟩
            · exact HD.out m y (by omega) hy
          case measure => simp [natOf]; omega
        · have hpi : 70 < ((q : Nat) : Int) := by omega
          go_wp2
          go_ret
          exact ⟨⟨_, rfl, fun h => by cases h⟩, hbel3⟩
      · have hti : 300 < ((tx.size : Nat) : Int) := by omega
        go_wp2
        go_ret
        exact ⟨⟨_, rfl, fun h => by cases h⟩, hbel3⟩
    · obtain rfl : j = n := by omega
      have HD := Lib.hid hdone
      clear hdone hj hjn
      by_cases h40 : j ≤ 40
      · have h40i : (j : Int) ≤ 40 := by omega
        go_wp2
        go_ret
        refine ⟨⟨_, rfl, fun _ => ⟨h40, fun x hx => ?_⟩⟩, hbel⟩
        obtain ⟨m, hm, e⟩ := List.mem_iff_getElem.1 hx
        exact HD.out m x (by rw [← hn.out]; exact hm) (by rw [← e]; exact List.getElem?_eq_getElem hm)
      · have h40i : 40 < (j : Int) := by omega
        go_wp2
        go_ret
        exact ⟨⟨_, rfl, fun h => by simp at h; omega⟩, hbel⟩
end Go.Proofs.Ythgmlopkcgkjlaa

/-
  Contract of the walk over the law package's played: both disks after a script, in new blocks. Conditions: the script is short and lies in memory that the law leaves alone.
-/
namespace Go.Proofs.Ythgmlopkcgkjlaa
open Go.RowKit

/-- The program's disk and the reference's, both M, in blocks from n0 on that are not the same. -/
structure Two (n0 : Nat) (w : World) (gd gp gm cp : Nat) (Y : List Value) (k gr ga cap : Nat) (X : List Value) (M : DM) : Prop where
  p : PRep w gd gp gm cp Y M k
  r : RRep w gr ga cap X M
  b : n0 ≤ gd ∧ n0 ≤ gp ∧ n0 ≤ gm ∧ n0 ≤ gr ∧ n0 ≤ ga
  e : gr ∉ [gd, gp, gm] ∧ ga ∉ [gd, gp, gm]
theorem Two.e2 {n0 : Nat} {w : World} {gd gp gm cp : Nat} {Y : List Value} {k gr ga cap : Nat} {X : List Value} {M : DM} (h : Two n0 w gd gp gm cp Y k gr ga cap X M) : gd ∉ [gr, ga] ∧ gp ∉ [gr, ga] ∧ gm ∉ [gr, ga] := by
  obtain ⟨h1, h2⟩ := h.e
  simp only [List.mem_cons, List.not_mem_nil, or_false, not_or] at h1 h2 ⊢
  refine ⟨⟨fun e => h1.1 e.symm, fun e => h2.1 e.symm⟩, ⟨fun e => h1.2.1 e.symm, fun e => h2.2.1 e.symm⟩, ⟨fun e => h1.2.2 e.symm, fun e => h2.2.2 e.symm⟩⟩
theorem Two.big {n0 : Nat} {w : World} {gd gp gm cp : Nat} {Y : List Value} {k gr ga cap : Nat} {X : List Value} {M : DM} (h : Two n0 w gd gp gm cp Y k gr ga cap X M) : (∀ q ∈ [gd, gp, gm], n0 ≤ q) ∧ (∀ q ∈ [gr, ga], n0 ≤ q) := by
  obtain ⟨h1, h2, h3, h4, h5⟩ := h.b
  constructor
  · intro q hq
    simp only [List.mem_cons, List.not_mem_nil, or_false] at hq
    rcases hq with rfl | rfl | rfl <;> assumption
  · intro q hq
    simp only [List.mem_cons, List.not_mem_nil, or_false] at hq
    rcases hq with rfl | rfl <;> assumption
theorem Two.next {n0 : Nat} {w w' : World} {gd gp gm cp : Nat} {Y : List Value} {k gr ga cap : Nat} {X : List Value} {M : DM} (h : Two n0 w gd gp gm cp Y k gr ga cap X M) (hb : Below w.heap.size w w') : Two n0 w' gd gp gm cp Y k gr ga cap X M := ⟨h.p.next hb, h.r.next hb, h.b, h.e⟩
def PlRel (n0 : Nat) (M : DM) (xs : List OpM) (gd gp gm cp : Nat) (Y : List Value) (gr ga cap : Nat) (X : List Value) (n : Nat) (w : World) (i : Value) (wr : World) : Prop :=
  ∃ j : Nat, j ≤ n ∧ i = .int .i64 j ∧ Two n0 wr gd gp gm cp Y j gr ga cap X (M.run (xs.take j)) ∧ Below n0 w wr ∧ n0 ≤ wr.heap.size
theorem played_bad (p : Int) (A : Option Addr) (n c : Nat) (w : World) (h : p < 1 ∨ 4096 < p) :
    Calls Try.prog 21 #[.int .i64 p, .slice A n c] w fun e w' => e = .returned (.tuple #[.pointer none, .pointer none, .bool false]) ∧ w = w' := by
  go_enter Try.func21, Try.ntmps21
  go_wp2_with fail
  (with_reducible refine (new_bad p _ h).mono ?_)
  rintro e w1 ⟨rfl, rfl⟩
  go_wp2_with fail
  (with_reducible refine (rnew_bad p _ h).mono ?_)
  rintro e w1 ⟨rfl, rfl⟩
  go_wp2
  go_ret3
  exact ⟨rfl, rfl⟩
set_option maxRecDepth 100000 in
set_option maxHeartbeats 1600000 in
theorem played_any (n : Nat) (A : Option Addr) (c : Nat) (xs : List OpM) (w : World) (h1 : 1 ≤ n) (h2 : n ≤ 40) (hl : xs.length ≤ 40) (hf : ∀ x ∈ xs, x.fine) (hS : ScriptAt w.heap.size w A xs) :
    Calls Try.prog 21 #[.int .i64 (n : Int), .slice A xs.length c] w fun e w' => ∃ gd gp gm gr ga cap X, e = .returned (.tuple #[.pointer (some ⟨gd, 0, none⟩), .pointer (some ⟨gr, 0, none⟩), .bool true]) ∧ Two w.heap.size w' gd gp gm n [] xs.length gr ga cap X ((DM.make n).run xs) ∧ Below w.heap.size w w' := by
  have HS := Lib.hid hS
  have HF := Lib.hid hf
  obtain ⟨N, hN⟩ : ∃ N, Hid (xs.length = N) := ⟨_, rfl⟩
  rw [hN.out] at hl ⊢
  have hfin : Hid ((DM.make n).run (xs.take N) = (DM.make n).run xs) := by
    have : (DM.make n).run (xs.take N) = (DM.make n).run xs := by rw [← hN.out, DM.run_all]
    exact this
  clear hS hf
  go_enter Try.func21, Try.ntmps21
  go_wp2_with fail
  (with_reducible refine (new_any n _ h1 (by omega)).mono ?_)
  rintro e w1 ⟨gd, gp, gm, rfl, hp1, hb1, hg1, hg2, hg3⟩
  go_wp2_with fail
  (with_reducible refine (rnew_any n _ h1 (by omega)).mono ?_)
  rintro e w2 ⟨v, rfl, gr, ga, cap, X, rfl, hr2, hb2, hg4, hg5⟩
  have hlt1 := hp1.d.lt
  have hlt2 := hp1.p.lt
  have hlt3 := hp1.m.lt
  have hsz1 := hb1.size
  have hsz2 := hb2.size
  obtain ⟨n0, hn0⟩ : ∃ n0, Hid (w.heap.size = n0) := ⟨_, rfl⟩
  have h0 : Two n0 w2 gd gp gm n [] 0 gr ga cap X (DM.make n) := by
    rw [← hn0.out]
    refine ⟨hp1.next hb2, hr2, ⟨hg1, hg2, hg3, by omega, by omega⟩, ?_, ?_⟩
    · simp only [List.mem_cons, List.not_mem_nil, or_false]; omega
    · simp only [List.mem_cons, List.not_mem_nil, or_false]; omega
  have hB2 : Below n0 w w2 := by rw [← hn0.out]; exact below_join hb1 hb2
  have hs2 : n0 ≤ w2.heap.size := by rw [← hn0.out]; omega
  obtain ⟨M0, hM0⟩ : ∃ M0, Hid (DM.make n = M0) := ⟨_, rfl⟩
  have hMk : Hid (M0.ok) := by rw [← hM0.out]; exact DM.make_ok (by omega)
  rw [hM0.out] at h0
  rw [hn0.out] at HS
  obtain ⟨big1, big2⟩ := h0.big
  have HB1 := Lib.hid big1
  have HB2 := Lib.hid big2
  obtain ⟨ee1, ee2, ee3⟩ := h0.e2
  have EE1 := Lib.hid ee1
  have EE2 := Lib.hid ee2
  have EE3 := Lib.hid ee3
  clear hp1 hr2 hb1 hb2 hg1 hg2 hg3 hg4 hg5 hlt1 hlt2 hlt3 hsz1 hsz2 big1 big2 ee1 ee2 ee3
  go_wp2
  go_loopw [35] (PlRel n0 M0 xs gd gp gm n [] gr ga cap X N w) (fun i _ => N - natOf i)
  case atStart => exact ⟨0, Nat.zero_le _, rfl, h0, hB2, hs2⟩
  case round =>
    clear h0 hB2 hs2
    obtain ⟨j, hj, rfl, hT, hbel, hsz⟩ := hrel
    by_cases hjn : j < N
    · have hji : (j : Int) < (N : Int) := by omega
      obtain ⟨x, hx⟩ : ∃ x, xs[j]? = some x := ⟨_, List.getElem?_eq_getElem (by rw [hN.out]; exact hjn)⟩
      obtain ⟨p, pa, pc, rfl, hcw⟩ := HS.out j x hx
      have hfx := HF.out x (List.mem_of_getElem? hx)
      have HNX := Lib.hid (DM.run_next M0 xs j x hx)
      have HOK : Hid ((M0.run (xs.take j)).ok) := by
        have : (M0.run (xs.take j)).ok := DM.run_ok _ hMk.out (fun y hy => HF.out y (List.mem_of_mem_take hy))
        exact this
      have HOK2 : Hid (((M0.run (xs.take j)).doM x).ok) := by
        have : ((M0.run (xs.take j)).doM x).ok := DM.doM_ok HOK.out x hfx.i
        exact this
      obtain ⟨hc, _⟩ := hcw wr hbel
      have HPK : Hid (∀ w', Below n0 w w' → PkAt w' pa x.picks) := by
        have : ∀ w', Below n0 w w' → PkAt w' pa x.picks := fun w' hb' => (hcw w' hb').2
        exact this
      obtain ⟨M1, hM1⟩ : ∃ M1, Hid (M0.run (xs.take j) = M1) := ⟨_, rfl⟩
      rw [hM1.out] at HNX HOK HOK2 hT
      obtain ⟨kind, i, at_, tx, pk⟩ := x
      have HI := Lib.hid hfx.i
      have HA := Lib.hid hfx.a
      have HTX : tx.size ≤ 1000000 := by have h := hfx.t; have : tx.size ≤ 300 := h; omega
      have HPL : pk.length ≤ 1000000 := by have h := hfx.p; have : pk.length ≤ 70 := h; omega
      obtain ⟨q, hq⟩ : ∃ q, Hid (pk.length = q) := ⟨_, rfl⟩
      unfold opRow at hc
      simp only [hq.out] at hc
      have hun := Try.underlying34
      have HB := Lib.hid hbel
      clear hx hj hcw hfx
      go_wp2_with (first | (with_reducible refine wpList_load_add (op := ⟨some 38, .load 34 (.tmp 37), _, _, _, _⟩) (by with_unfolding_all rfl) 34 (.tmp 37) (by with_unfolding_all rfl) (p.add (j * 5)) (by with_unfolding_all rfl) [.int .i64 kind, .int .i64 i, .int .i64 at_, .string tx, .slice pa q pc] _ hc hun (by with_unfolding_all rfl) (by with_unfolding_all exact Try.sizeO) ?_) | (with_reducible refine wpList_alloc (o := ⟨some 12, .alloc 34, _, _, _, _⟩) (by with_unfolding_all rfl) 34 (by with_unfolding_all rfl) (.agg #[.int .i64 0, .int .i64 0, .int .i64 0, .string ⟨#[]⟩, .slice none 0 0]) [.int .i64 0, .int .i64 0, .int .i64 0, .string ⟨#[]⟩, .slice none 0 0] (by exact Try.zeroO) (by with_unfolding_all rfl) ?_))
      intro g4 w2 hg4 hs2 hb2 hB2
      have hle4 : wr.heap.size ≤ g4 := Nat.le_of_eq hg4.out.symm
      go_wp2_with (with_reducible refine wpList_put (o := ⟨none, .store 34 (.tmp 12) (.tmp 38), _, _, _, _⟩) (by with_unfolding_all rfl) 34 (.tmp 12) (.tmp 38) (by with_unfolding_all rfl) g4 0 (by with_unfolding_all rfl) (.agg #[.int .i64 kind, .int .i64 i, .int .i64 at_, .string tx, .slice pa q pc]) (by with_unfolding_all rfl) hB2 [.int .i64 kind, .int .i64 i, .int .i64 at_, .string tx, .slice pa q pc] (by with_unfolding_all rfl) (by with_unfolding_all exact Try.sizeO) (by with_unfolding_all exact Nat.le_refl _) (by with_unfolding_all exact one_cell5 rfl rfl rfl rfl rfl) ?_)
      intro w3 hu3 hB3
      have hB3' : Blk w3 g4 34 [.int .i64 kind, .int .i64 i, .int .i64 at_, .string tx, .slice pa q pc] := hB3
      have hb3 : Below wr.heap.size wr w3 := (hb2.mono hle4).trans (hu3.below (B := wr.heap.size) hle4)
      have hT3 := hT.next hb3
      have hbel3 : Below n0 w w3 := hbel.trans (hb3.mono hsz)
      have hsz3 : n0 ≤ w3.heap.size := Nat.le_trans hsz hb3.size
      have hg4d : g4 ∉ [gd, gp, gm] := by
        have h1 := hT.p.d.lt
        have h2 := hT.p.p.lt
        have h3 := hT.p.m.lt
        simp only [List.mem_cons, List.not_mem_nil, or_false]; omega
      clear hc hb2 hB2 hB3 hu3 hb3 hg4 hs2 hT hbel hsz HB
      go_wp2_with (first | (with_reducible refine wpList_get (o := ⟨some 40, .load 34 (.tmp 12), _, _, _, _⟩) (by with_unfolding_all rfl) 34 (.tmp 12) (by with_unfolding_all rfl) g4 0 (by with_unfolding_all rfl) hB3' [.int .i64 kind, .int .i64 i, .int .i64 at_, .string tx, .slice pa q pc] (cs_all _) _ (by with_unfolding_all exact hun) (by with_unfolding_all rfl) (by with_unfolding_all exact Try.sizeO) ?_) | fail)
      rw [← hq.out]
      (with_reducible refine (do_any gd gp gm j n [] M1 kind i at_ tx pa pc pk _ HOK.out HI.out HA.out HTX HPL (by omega) hT3.p (fun w' ho => HPK.out w' (below_only hbel3 ho HB1.out hsz3))).mono ?_)
      rintro e w4 ⟨rfl, hp4, ho4⟩
      have hr4 := hT3.r.only ho4 hT3.e.1 hT3.e.2
      have hbel4 := below_only hbel3 ho4 HB1.out hsz3
      have hsz4 : n0 ≤ w4.heap.size := Nat.le_trans hsz3 ho4.size
      have hB4 := hB3'.only ho4 hg4d
      rw [hq.out]
      clear hB3' hbel3 hsz3 ho4 hg4d
      go_wp2_with (first | (with_reducible refine wpList_get (o := ⟨some 43, .load 34 (.tmp 12), _, _, _, _⟩) (by with_unfolding_all rfl) 34 (.tmp 12) (by with_unfolding_all rfl) g4 0 (by with_unfolding_all rfl) hB4 [.int .i64 kind, .int .i64 i, .int .i64 at_, .string tx, .slice pa q pc] (cs_all _) _ (by with_unfolding_all exact hun) (by with_unfolding_all rfl) (by with_unfolding_all exact Try.sizeO) ?_) | fail)
      rw [← hq.out]
      (with_reducible refine (rdo_any gr ga cap X M1 kind i at_ tx pa pc pk _ HOK.out HI.out HA.out HTX HPL hr4 (fun w' ho => HPK.out w' (below_only hbel4 ho HB2.out hsz4))).mono ?_)
      rintro e w5 ⟨rfl, hr5, ho5⟩
      have hp5 := hp4.only ho5 EE1.out EE2.out EE3.out
      have hbel5 := below_only hbel4 ho5 HB2.out hsz4
      have hsz5 : n0 ≤ w5.heap.size := Nat.le_trans hsz4 ho5.size
      have hT5 : Two n0 w5 gd gp gm n [] (j + 1) gr ga cap X (M0.run (xs.take (j + 1))) := by
        rw [HNX.out]
        exact ⟨hp5, hr5, hT3.b, hT3.e⟩
      clear hB4 hT3 hp4 hr4 hbel4 hsz4 hp5 hr5 ho5
      go_wp2
      go_roundw
      case rel => exact ⟨j + 1, by omega, by go_num, hT5, hbel5, hsz5⟩
      case measure => simp [natOf]; omega
    · obtain rfl : j = N := by omega
      rw [← hM0.out, hfin.out, ← hn0.out] at hT
      rw [← hn0.out] at hbel
      clear hj hjn hsz
      go_wp2
      go_ret3
      exact ⟨gd, gp, gm, gr, ga, cap, X, rfl, hT, hbel⟩
end Go.Proofs.Ythgmlopkcgkjlaa
