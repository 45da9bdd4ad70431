/-
  Contracts of the walks over Sum and Dot of both sides, CheckAll and Same. Conditions: the lists lie there.
-/
import Derived.Test.YthjaelopmfjfeaaDoorYa
namespace Go.Proofs.YthjaelopmfjfeaaDoor
set_option linter.unusedVariables false
set_option linter.unusedSimpArgs false
open Go.RowKit Go.Shelf
set_option linter.unusedVariables false

theorem run_buildQ1 (w : World) : (Instr.build 23 #[(1, .int .i64 1)]).run Tryd.prog w = .ok (.agg [Value.int .i64 0, Value.int .i64 1].toArray) w := by kernel_rfl
/-- A list of ratios, normal or not, lies there. -/
def PsAt (w : World) (A : Option Addr) (l : List (Int × Int)) : Prop := ∀ k p, l[k]? = some p → ∃ g o, A = some ⟨g, o, none⟩ ∧ w.cell? ⟨g, o + k * 2, none⟩ = some (.int .i64 p.1) ∧ w.cell? ⟨g, o + k * 2 + 1, none⟩ = some (.int .i64 p.2)
theorem PsAt.next {w w' : World} {A : Option Addr} {l : List (Int × Int)} (h : PsAt w A l) (hb : Below w.heap.size w w') : PsAt w' A l := fun k p hp => by
  obtain ⟨g, o, e, h1, h2⟩ := h k p hp
  exact ⟨g, o, e, cellq_below hb h1, cellq_below hb h2⟩
theorem range_two {w : World} {g o : Nat} {a b : Value} (h1 : w.cell? ⟨g, o, none⟩ = some a) (h2 : w.cell? ⟨g, o + 1, none⟩ = some b) : w.rangeAt g o [a, b] := fun q u hu => by
  match q with
  | 0 => simp at hu; subst hu; exact h1
  | 1 => simp at hu; subst hu; exact h2
  | q + 2 => simp at hu
theorem okQ_some {q y : Rat} (h : okQ q = some y) : y = q ∧ fits y := ⟨okQ_val h, okQ_fits h⟩
/-- The sum of the first numbers of a list; none if one is too large. -/
def sumM (l : List Rat) : Nat → Option Rat
  | 0 => some 0
  | k + 1 => (sumM l k).bind fun s => okQ (s + nth l k)
def dotM (a b : List Rat) : Nat → Option Rat
  | 0 => some 0
  | k + 1 => (dotM a b k).bind fun s => (okQ (nth a k * nth b k)).bind fun p => okQ (s + p)
theorem sumM_fell {l : List Rat} {k : Nat} (h : sumM l k = none) : ∀ n, k ≤ n → sumM l n = none := by
  intro n hn
  induction n with
  | zero => obtain rfl : k = 0 := by omega
            exact h
  | succ n ih =>
    rcases Nat.lt_or_ge n k with h1 | h1
    · obtain rfl : k = n + 1 := by omega
      exact h
    · show (sumM l n).bind _ = none
      rw [ih h1]; rfl
theorem dotM_fell {a b : List Rat} {k : Nat} (h : dotM a b k = none) : ∀ n, k ≤ n → dotM a b n = none := by
  intro n hn
  induction n with
  | zero => obtain rfl : k = 0 := by omega
            exact h
  | succ n ih =>
    rcases Nat.lt_or_ge n k with h1 | h1
    · obtain rfl : k = n + 1 := by omega
      exact h
    · show (dotM a b n).bind _ = none
      rw [ih h1]; rfl
theorem sumM_fits {l : List Rat} : ∀ {k : Nat} {s : Rat}, sumM l k = some s → fits s
  | 0, s, h => by injection h with h; subst h; exact fits_zero
  | k + 1, s, h => by
    obtain ⟨t, _, h2⟩ := Option.bind_eq_some_iff.1 (show (sumM l k).bind _ = some s from h)
    exact okQ_fits h2
theorem dotM_fits {a b : List Rat} : ∀ {k : Nat} {s : Rat}, dotM a b k = some s → fits s
  | 0, s, h => by injection h with h; subst h; exact fits_zero
  | k + 1, s, h => by
    obtain ⟨t, _, h2⟩ := Option.bind_eq_some_iff.1 (show (dotM a b k).bind _ = some s from h)
    obtain ⟨p, _, h3⟩ := Option.bind_eq_some_iff.1 h2
    exact okQ_fits h3
theorem dotM_val {a b : List Rat} : ∀ {k : Nat} {s : Rat}, dotM a b k = some s → s = sumN k fun i => nth a i * nth b i
  | 0, s, h => by injection h with h; subst h; rfl
  | k + 1, s, h => by
    obtain ⟨t, h1, h2⟩ := Option.bind_eq_some_iff.1 (show (dotM a b k).bind _ = some s from h)
    obtain ⟨p, h3, h4⟩ := Option.bind_eq_some_iff.1 h2
    rw [okQ_val h4, okQ_val h3, dotM_val h1]; rfl
def dotE (a b : List Rat) : Ending := if a.length = b.length then ansO (dotM a b a.length) else zret 1
theorem nth_get {l : List Rat} {k : Nat} {x : Rat} (h : l[k]? = some x) : nth l k = x := by unfold nth; rw [h]; rfl
structure SumI (l : List Rat) (g2 g4 : Nat) (w : World) (k : Nat) (s : Rat) (wr : World) : Prop where
  v : sumM l k = some s
  b2 : Blk wr g2 23 zC
  b4 : Blk wr g4 23 (qC s)
  below : Below w.heap.size w wr
def sumR (l : List Rat) (n g2 g4 : Nat) (w : World) (e i : Value) (wr : World) : Prop := ∃ k s, k ≤ n ∧ i = .int .i64 (k : Int) ∧ e = .int .i64 0 ∧ SumI l g2 g4 w k s wr
set_option maxRecDepth 100000 in
set_option maxHeartbeats 1600000 in
theorem sum_any (A : Option Addr) (c : Nat) (l : List Rat) (w : World) (hl : l.length ≤ 140737488355328) (hf : ∀ x ∈ l, fits x) (hS : PsAt w A (prs l)) :
    Calls Tryd.prog 36 #[.slice A l.length c] w fun e w' => e = ansO (sumM l l.length) ∧ Below w.heap.size w w' := by
  obtain ⟨n, hn⟩ : ∃ n, Hid (l.length = n) := ⟨_, rfl⟩
  rw [hn.out] at hl ⊢
  have HS := Lib.hid hS
  have HF := Lib.hid hf
  have hni : (n : Int) ≤ 140737488355328 := by omega
  clear hS hf
  go_enter Tryd.func36, Tryd.ntmps36
  go_wp2_with (with_reducible refine wpList_alloc (o := ⟨some 2, .alloc 23, _, _, _, _⟩) (by with_unfolding_all rfl) 23 (by with_unfolding_all rfl) (.agg zC.toArray) zC (by exact Tryd.zeroQ) (by with_unfolding_all rfl) ?_)
  intro g2 w1 hg2 hs1 hb1 B2
  have hl2 : w.heap.size ≤ g2 := Nat.le_of_eq hg2.out.symm
  have hb1 := hb1.mono (Nat.le_of_eq hg2.out.symm)
  have hbe : Below w.heap.size w w1 := hb1
  clear hb1 hg2 hs1
  go_wp2_with fail
  (with_reducible refine (whole_any 0 _).mono ?_)
  rintro e w2 ⟨rfl, hb2⟩
  have B2 := B2.next hb2 B2.lt
  have hbe := below_join hbe hb2
  clear hb2
  go_wp2_with (with_reducible refine wpList_alloc (o := ⟨some 4, .alloc 23, _, _, _, _⟩) (by with_unfolding_all rfl) 23 (by with_unfolding_all rfl) (.agg zC.toArray) zC (by exact Tryd.zeroQ) (by with_unfolding_all rfl) ?_)
  intro g4 w3 hg4 hs3 hb3 B4
  have hl4 : w.heap.size ≤ g4 := Nat.le_trans hbe.size (Nat.le_of_eq hg4.out.symm)
  have ne2_4 : g2 ≠ g4 := by have := B2.lt; have := hg4.out; omega
  have hb3 := hb3.mono (Nat.le_of_eq hg4.out.symm)
  have B2 := B2.next hb3 B2.lt
  have hbe := below_join hbe hb3
  clear hb3 hg4 hs3
  go_wp2_with (with_reducible refine wpList_put (o := ⟨none, .store 23 (.tmp 4) (.tmp 8), _, _, _, _⟩) (by with_unfolding_all rfl) 23 (.tmp 4) (.tmp 8) (by with_unfolding_all rfl) g4 0 (by with_unfolding_all rfl) (.agg [Value.int .i64 0, Value.int .i64 1].toArray) (by with_unfolding_all rfl) B4 [Value.int .i64 0, Value.int .i64 1] (by with_unfolding_all rfl) (by with_unfolding_all (exact Tryd.szQ)) (by with_unfolding_all (exact Nat.le_refl 2)) (by with_unfolding_all (exact int_one _ _)) ?_)
  clear B4
  intro w4 hu4 B4
  rw [splice_all _ _ (by rfl)] at B4
  have hbe := hbe.trans (hu4.below (B := w.heap.size) hl4)
  have B2 := B2.upd hu4 (by first | exact ne2_4 | exact ne4_2.symm)
  clear hu4
  have H0 : Hid (SumI l g2 g4 w 0 0 w4) := (⟨rfl, B2, B4, hbe⟩ : SumI l g2 g4 w 0 0 w4)
  clear B2 B4 hbe
  go_wp2
  go_loopw [5, 11] (sumR l n g2 g4 w) (fun _ i _ => n - (intOf i).toNat)
  case atStart => exact ⟨0, 0, Nat.zero_le _, rfl, rfl, H0.out⟩
  case round =>
    clear H0
    obtain ⟨k, s, hk, rfl, rfl, hI⟩ := hrel
    have hbe := hI.below
    have B2 := hI.b2
    have B4 := hI.b4
    have HV := Lib.hid hI.v
    clear hI
    by_cases hlt : k < n
    · skip
      have hki : (k : Int) < (n : Int) := by omega
      have hk0 : (0 : Int) ≤ (k : Int) := by omega
      obtain ⟨x, hx⟩ : ∃ x, l[k]? = some x := ⟨_, List.getElem?_eq_getElem (by rw [hn.out]; exact hlt)⟩
      obtain ⟨ga, oa, hA, c0, c1⟩ := (HS.out.next hbe) k _ (prs_get hx)
      subst hA
      obtain ⟨N, D, q, hE, hcs⟩ := ansQ_two (s + x)
      have hAD := fun w => add_any s x w (sumM_fits HV.out) (HF.out x (List.mem_of_getElem? hx))
      rw [hE] at hAD
      have HAD := Lib.hid hAD
      have HST : Hid (sumM l (k + 1) = okQ (s + x)) := by
        have : sumM l (k + 1) = okQ (s + x) := by
          show (sumM l k).bind _ = _
          rw [HV.out, Option.bind_some, nth_get hx]
        exact this
      have HCS := Lib.hid hcs
      have hx2 : qC x = [Value.int .i64 x.num, Value.int .i64 (x.den : Int)] := rfl
      have hs2 : qC s = [Value.int .i64 s.num, Value.int .i64 (s.den : Int)] := rfl
      have B4 : Blk wr g4 23 [Value.int .i64 s.num, Value.int .i64 (s.den : Int)] := B4
      clear hE hAD hcs hx
      rw [hx2, hs2] at HAD
      clear hx2 hs2
      go_wp2_with (with_reducible refine wpList_alloc (o := ⟨some 7, .alloc 23, _, _, _, _⟩) (by with_unfolding_all rfl) 23 (by with_unfolding_all rfl) (.agg zC.toArray) zC (by exact Tryd.zeroQ) (by with_unfolding_all rfl) ?_)
      intro g7 w5 hg7 hs5 hb5 B7
      have hl7 : w.heap.size ≤ g7 := Nat.le_trans hbe.size (Nat.le_of_eq hg7.out.symm)
      have ne2_7 : g2 ≠ g7 := by have := B2.lt; have := hg7.out; omega
      have ne4_7 : g4 ≠ g7 := by have := B4.lt; have := hg7.out; omega
      have hb5 := hb5.mono (Nat.le_of_eq hg7.out.symm)
      have B2 := B2.next hb5 B2.lt
      have B4 := B4.next hb5 B4.lt
      have hbe := below_join hbe hb5
      clear hb5 hg7 hs5
      go_wp2_with (with_reducible refine wpList_put (o := ⟨none, .store 23 (.tmp 7) (.tmp 14), _, _, _, _⟩) (by with_unfolding_all rfl) 23 (.tmp 7) (.tmp 14) (by with_unfolding_all rfl) g7 0 (by with_unfolding_all rfl) (.agg [Value.int .i64 x.num, Value.int .i64 (x.den : Int)].toArray) (by with_unfolding_all rfl) B7 [Value.int .i64 x.num, Value.int .i64 (x.den : Int)] (by with_unfolding_all rfl) (by with_unfolding_all (exact Tryd.szQ)) (by with_unfolding_all (exact Nat.le_refl 2)) (by with_unfolding_all (exact int_one _ _)) ?_)
      clear B7
      intro w6 hu6 B7
      rw [splice_all _ _ (by rfl)] at B7
      have hbe := hbe.trans (hu6.below (B := w.heap.size) hl7)
      have B2 := B2.upd hu6 (by first | exact ne2_7 | exact ne7_2.symm)
      have B4 := B4.upd hu6 (by first | exact ne4_7 | exact ne7_4.symm)
      clear hu6
      have z40 := B4.cell (k := 0) rfl
      have z41 := B4.cell (k := 1) rfl
      have z70 := B7.cell (k := 0) rfl
      have z71 := B7.cell (k := 1) rfl
      go_wp2_with fail
      (with_reducible refine (HAD.out _).mono ?_)
      rintro e w7 ⟨rfl, hb7⟩
      have B2 := B2.next hb7 B2.lt
      have B4 := B4.next hb7 B4.lt
      have B7 := B7.next hb7 B7.lt
      have hbe := below_join hbe hb7
      clear hb7
      clear HAD B7 z40 z41 z70 z71
      go_wp2_with (with_reducible refine wpList_put (o := ⟨none, .store 23 (.tmp 4) (.tmp 19), _, _, _, _⟩) (by with_unfolding_all rfl) 23 (.tmp 4) (.tmp 19) (by with_unfolding_all rfl) g4 0 (by with_unfolding_all rfl) (.agg [Value.int .i64 N, Value.int .i64 D].toArray) (by with_unfolding_all rfl) B4 [Value.int .i64 N, Value.int .i64 D] (by with_unfolding_all rfl) (by with_unfolding_all (exact Tryd.szQ)) (by with_unfolding_all (exact Nat.le_refl 2)) (by with_unfolding_all (exact int_one _ _)) ?_)
      clear B4
      intro w8 hu8 B4
      rw [splice_all _ _ (by rfl)] at B4
      have hbe := hbe.trans (hu8.below (B := w.heap.size) hl4)
      have B2 := B2.upd hu8 (by first | exact ne2_4 | exact ne4_2.symm)
      clear hu8
      rcases HCS.out with ⟨hf1, rfl, rfl, rfl⟩ | ⟨hf1, rfl⟩
      · skip
        have HI2 : Hid (SumI l g2 g4 w (k + 1) (s + x) w8) := by
          have : SumI l g2 g4 w (k + 1) (s + x) w8 := ⟨by rw [HST.out]; unfold okQ; rw [if_pos hf1], B2, B4, hbe⟩
          exact this
        clear B2 B4 hbe
        go_wp2
        go_roundw
        case rel => exact ⟨k + 1, s + x, by omega, by go_num, rfl, HI2.out⟩
        case measure => simp [intOf]; omega
      · skip
        have he : ansO (sumM l n) = zret 17 := by
          have h1 : sumM l (k + 1) = none := by rw [HST.out]; unfold okQ; rw [if_neg hf1]
          rw [sumM_fell h1 n (by omega)]; rfl
        have HE := Lib.hid he
        clear he
        go_wp2_with (first | (with_reducible refine wpList_build (o := ⟨some 23, .build 23 #[], _, _, _, _⟩) (by with_unfolding_all rfl) 23 #[] (by with_unfolding_all rfl) #[] (by with_unfolding_all rfl) (.agg zC.toArray) (by with_unfolding_all exact fun w => run_buildQ0 w) ?_) | (with_reducible refine wpList_put (o := ⟨none, .store 23 (.tmp 2) (.tmp 23), _, _, _, _⟩) (by with_unfolding_all rfl) 23 (.tmp 2) (.tmp 23) (by with_unfolding_all rfl) g2 0 (by with_unfolding_all rfl) (.agg zC.toArray) (by with_unfolding_all rfl) B2 zC (by with_unfolding_all rfl) (by with_unfolding_all (exact Tryd.szQ)) (by with_unfolding_all (exact Nat.le_refl 2)) (by with_unfolding_all (exact int_one _ _)) ?_))
        clear B2
        intro w9 hu9 B2
        rw [splice_all _ _ (by rfl)] at B2
        have hbe := hbe.trans (hu9.below (B := w.heap.size) hl2)
        clear hu9
        go_wp2
        exact bodyPost_ret (results_cell_two rfl _ _ g2 _ _ _ _ _ rfl rfl B2 Tryd.underlying23 rfl Tryd.szQ) rfl ⟨by rw [HE.out]; rfl, hbe⟩
    · obtain rfl : k = n := by omega
      have he : ansO (sumM l k) = .returned (.tuple #[.agg (qC s).toArray, .int .i64 0]) := by rw [HV.out]; rfl
      have HE := Lib.hid he
      clear he
      have z40 := B4.cell (k := 0) rfl
      have z41 := B4.cell (k := 1) rfl
      go_wp2_with (with_reducible refine wpList_put (o := ⟨none, .store 23 (.tmp 2) (.tmp 26), _, _, _, _⟩) (by with_unfolding_all rfl) 23 (.tmp 2) (.tmp 26) (by with_unfolding_all rfl) g2 0 (by with_unfolding_all rfl) (.agg [Value.int .i64 s.num, Value.int .i64 (s.den : Int)].toArray) (by with_unfolding_all rfl) B2 [Value.int .i64 s.num, Value.int .i64 (s.den : Int)] (by with_unfolding_all rfl) (by with_unfolding_all (exact Tryd.szQ)) (by with_unfolding_all (exact Nat.le_refl 2)) (by with_unfolding_all (exact int_one _ _)) ?_)
      clear B2
      intro w10 hu10 B2
      rw [splice_all _ _ (by rfl)] at B2
      have hbe := hbe.trans (hu10.below (B := w.heap.size) hl2)
      clear hu10
      go_wp2
      exact bodyPost_ret (results_cell_two rfl _ _ g2 _ _ _ _ _ rfl rfl B2 Tryd.underlying23 rfl Tryd.szQ) rfl ⟨by rw [HE.out]; rfl, hbe⟩
def rsumR (l : List Rat) (n g2 g4 : Nat) (w : World) (i : Value) (wr : World) : Prop := ∃ k s, k ≤ n ∧ i = .int .i64 (k : Int) ∧ SumI l g2 g4 w k s wr
set_option maxRecDepth 100000 in
set_option maxHeartbeats 1600000 in
theorem rsum_any (A : Option Addr) (c : Nat) (l : List Rat) (w : World) (hl : l.length ≤ 140737488355328) (hf : ∀ x ∈ l, fits x) (hS : PsAt w A (prs l)) :
    Calls Tryd.prog 37 #[.slice A l.length c] w fun e w' => e = ansO (sumM l l.length) ∧ Below w.heap.size w w' := by
  obtain ⟨n, hn⟩ : ∃ n, Hid (l.length = n) := ⟨_, rfl⟩
  rw [hn.out] at hl ⊢
  have HS := Lib.hid hS
  have HF := Lib.hid hf
  have hni : (n : Int) ≤ 140737488355328 := by omega
  clear hS hf
  go_enter Tryd.func37, Tryd.ntmps37
  go_wp2_with (with_reducible refine wpList_alloc (o := ⟨some 2, .alloc 23, _, _, _, _⟩) (by with_unfolding_all rfl) 23 (by with_unfolding_all rfl) (.agg zC.toArray) zC (by exact Tryd.zeroQ) (by with_unfolding_all rfl) ?_)
  intro g2 w1 hg2 hs1 hb1 B2
  have hl2 : w.heap.size ≤ g2 := Nat.le_of_eq hg2.out.symm
  have hb1 := hb1.mono (Nat.le_of_eq hg2.out.symm)
  have hbe : Below w.heap.size w w1 := hb1
  clear hb1 hg2 hs1
  go_wp2_with (first | (with_reducible refine wpList_build (o := ⟨some 8, .build 23 #[(1, .const (.int .i64 1))], _, _, _, _⟩) (by with_unfolding_all rfl) 23 #[(1, .const (.int .i64 1))] (by with_unfolding_all rfl) #[(1, .int .i64 1)] (by with_unfolding_all rfl) (.agg [Value.int .i64 0, Value.int .i64 1].toArray) (by with_unfolding_all exact fun w => run_buildQ1 w) ?_) | (with_reducible refine wpList_alloc (o := ⟨some 4, .alloc 23, _, _, _, _⟩) (by with_unfolding_all rfl) 23 (by with_unfolding_all rfl) (.agg zC.toArray) zC (by exact Tryd.zeroQ) (by with_unfolding_all rfl) ?_))
  intro g4 w2 hg4 hs2 hb2 B4
  have hl4 : w.heap.size ≤ g4 := Nat.le_trans hbe.size (Nat.le_of_eq hg4.out.symm)
  have ne2_4 : g2 ≠ g4 := by have := B2.lt; have := hg4.out; omega
  have hb2 := hb2.mono (Nat.le_of_eq hg4.out.symm)
  have B2 := B2.next hb2 B2.lt
  have hbe := below_join hbe hb2
  clear hb2 hg4 hs2
  go_wp2_with (with_reducible refine wpList_put (o := ⟨none, .store 23 (.tmp 4) (.tmp 8), _, _, _, _⟩) (by with_unfolding_all rfl) 23 (.tmp 4) (.tmp 8) (by with_unfolding_all rfl) g4 0 (by with_unfolding_all rfl) (.agg [Value.int .i64 0, Value.int .i64 1].toArray) (by with_unfolding_all rfl) B4 [Value.int .i64 0, Value.int .i64 1] (by with_unfolding_all rfl) (by with_unfolding_all (exact Tryd.szQ)) (by with_unfolding_all (exact Nat.le_refl 2)) (by with_unfolding_all (exact int_one _ _)) ?_)
  clear B4
  intro w3 hu3 B4
  rw [splice_all _ _ (by rfl)] at B4
  have hbe := hbe.trans (hu3.below (B := w.heap.size) hl4)
  have B2 := B2.upd hu3 (by first | exact ne2_4 | exact ne4_2.symm)
  clear hu3
  have H0 : Hid (SumI l g2 g4 w 0 0 w3) := (⟨rfl, B2, B4, hbe⟩ : SumI l g2 g4 w 0 0 w3)
  clear B2 B4 hbe
  go_wp2
  go_loopw [5] (rsumR l n g2 g4 w) (fun i _ => n - (intOf i).toNat)
  case atStart => exact ⟨0, 0, Nat.zero_le _, rfl, H0.out⟩
  case round =>
    clear H0
    obtain ⟨k, s, hk, rfl, hI⟩ := hrel
    have hbe := hI.below
    have B2 := hI.b2
    have B4 := hI.b4
    have HV := Lib.hid hI.v
    clear hI
    by_cases hlt : k < n
    · skip
      have hki : (k : Int) < (n : Int) := by omega
      have hk0 : (0 : Int) ≤ (k : Int) := by omega
      obtain ⟨x, hx⟩ : ∃ x, l[k]? = some x := ⟨_, List.getElem?_eq_getElem (by rw [hn.out]; exact hlt)⟩
      obtain ⟨ga, oa, hA, c0, c1⟩ := (HS.out.next hbe) k _ (prs_get hx)
      subst hA
      obtain ⟨N, D, q, hE, hcs⟩ := ansQ_two (s + x)
      have hAD := fun w => radd_any s x w (sumM_fits HV.out) (HF.out x (List.mem_of_getElem? hx))
      rw [hE] at hAD
      have HAD := Lib.hid hAD
      have HST : Hid (sumM l (k + 1) = okQ (s + x)) := by
        have : sumM l (k + 1) = okQ (s + x) := by
          show (sumM l k).bind _ = _
          rw [HV.out, Option.bind_some, nth_get hx]
        exact this
      have HCS := Lib.hid hcs
      have hx2 : qC x = [Value.int .i64 x.num, Value.int .i64 (x.den : Int)] := rfl
      have hs2 : qC s = [Value.int .i64 s.num, Value.int .i64 (s.den : Int)] := rfl
      have KX : Hid (∀ w', Below wr.heap.size wr w' → w'.rangeAt ga (oa + k * 2) (qC x)) := (fun w' h => range_two (cellq_below h c0) (cellq_below h c1) : ∀ w', Below wr.heap.size wr w' → w'.rangeAt ga (oa + k * 2) (qC x))
      clear hE hAD hcs hx c0 c1 hx2 hs2
      have h4w : g4 < wr.heap.size := B4.lt
      go_wp2
      have hdd := below_drew wr
      have K4_0 : Hid (∀ w', Below wr.heap.size wr w' → w'.rangeAt g4 0 (qC s)) := (fun w' h => blk_range (B4.next h B4.lt) : ∀ w', Below wr.heap.size wr w' → w'.rangeAt g4 0 (qC s))
      have Z4_0 : (Tryd.prog.info? 23).map (·.size) = some (qC s).length := by (exact Tryd.szQ)
      refine wp_region_held_drew (S := fun w' => Below wr.heap.size wr w') (by kernel_rfl) hdd (fun hHeld => ?_)
      generalize wr.drew = wd at hdd hHeld ⊢
      refine' wpAnyH_take (i := 0) (v := _) rfl (by kernel_rfl) (by kernel_rfl) (by kernel_rfl) (fun _ _ _ h => h) (yieldsIf_load_mid (by rfl) _ _ (by rfl) _ _ (by rfl) _ _ ?Saa_0 ?uaa_0 ?daa_0 ?iaa_0) (by assumption) ?raa_0
      case Saa_0 => exact (by intro w h; exact K4_0.out _ h)
      case uaa_0 => exact Tryd.underlying23
      case daa_0 => rfl
      case iaa_0 => exact Z4_0
      (try simp only [List.getElem_toArray, List.getElem_cons_zero, Act.put, List.setIfInBounds_toArray, List.set_cons_zero, List.set_cons_succ])
      refine wpAnyH_take (i := 1) (v := ?vaa_1) rfl (by kernel_rfl) (by kernel_rfl) (by kernel_rfl) (fun _ _ _ h => h) (Or.inl ⟨by rfl, ?yaa_1⟩) (by assumption) ?raa_1
      case yaa_1 => intro w hSw; (try dsimp only at hSw); go_simp <;> (try with_reducible rfl)
      (try simp only [List.getElem_toArray, List.getElem_cons_succ, List.getElem_cons_zero, Act.put, List.setIfInBounds_toArray, List.set_cons_zero, List.set_cons_succ])
      refine wpAnyH_take (i := 2) (v := ?vaa_2) rfl (by kernel_rfl) (by kernel_rfl) (by kernel_rfl) (fun _ _ _ h => h) (Or.inl ⟨by rfl, ?yaa_2⟩) (by assumption) ?raa_2
      case yaa_2 => intro w hSw; (try dsimp only at hSw); go_simp <;> (try with_reducible rfl)
      (try simp only [List.getElem_toArray, List.getElem_cons_succ, List.getElem_cons_zero, Act.put, List.setIfInBounds_toArray, List.set_cons_zero, List.set_cons_succ])
      refine wpAnyH_take (i := 3) (v := ?vaa_3) rfl (by kernel_rfl) (by kernel_rfl) (by kernel_rfl) (fun _ _ _ h => h) (Or.inl ⟨by rfl, ?yaa_3⟩) (by assumption) ?raa_3
      case yaa_3 => intro w hSw; (try dsimp only at hSw); go_simp <;> (try with_reducible rfl)
      (try simp only [List.getElem_toArray, List.getElem_cons_succ, List.getElem_cons_zero, Act.put, List.setIfInBounds_toArray, List.set_cons_zero, List.set_cons_succ])
      refine' wpAnyH_take (i := 4) (v := _) rfl (by kernel_rfl) (by kernel_rfl) (by kernel_rfl) (fun _ _ _ h => h) (yieldsIf_load_mid (by rfl) _ _ (by rfl) _ _ (by rfl) _ _ ?Saa_4 ?uaa_4 ?daa_4 ?iaa_4) (by assumption) ?raa_4
      case Saa_4 => exact (by intro w h; exact KX.out _ h)
      case uaa_4 => exact Tryd.underlying23
      case daa_4 => rfl
      case iaa_4 => exact Tryd.szQ
      (try simp only [List.getElem_toArray, List.getElem_cons_succ, List.getElem_cons_zero, Act.put, List.setIfInBounds_toArray, List.set_cons_zero, List.set_cons_succ])
      refine wpAnyH_ready (rs := [5, 9]) (by kernel_rfl) (by simp) ?_
      refine AllReadyH.cons rfl (fun K hK => ?_) (AllReadyH.cons rfl (fun K hK => ?_) AllReadyH.nil)
      · skip
        go_simp
        go_wp2_with fail
        (with_reducible refine (HAD.out _).mono ?_)
        rintro e w4 ⟨rfl, hb4⟩
        have hk4 := below_join hdd hb4
        refine hK.out _ _ hk4 (fun hHeld => ?_)
        clear hK K hb4 hdd
        refine wpAnyH_take (i := 6) (v := ?vab_6) rfl (by kernel_rfl) (by kernel_rfl) (by kernel_rfl) (fun _ _ _ h => h) (Or.inl ⟨by rfl, ?yab_6⟩) (by assumption) ?rab_6
        case yab_6 => intro w hSw; (try dsimp only at hSw); go_simp <;> (try with_reducible rfl)
        (try simp only [List.getElem_toArray, List.getElem_cons_succ, List.getElem_cons_zero, Act.put, List.setIfInBounds_toArray, List.set_cons_zero, List.set_cons_succ])
        refine wpAnyH_take (i := 7) (v := ?vab_7) rfl (by kernel_rfl) (by kernel_rfl) (by kernel_rfl) (fun _ _ _ h => h) (Or.inl ⟨by rfl, ?yab_7⟩) (by assumption) ?rab_7
        case yab_7 => intro w hSw; (try dsimp only at hSw); go_simp <;> (try with_reducible rfl)
        (try simp only [List.getElem_toArray, List.getElem_cons_succ, List.getElem_cons_zero, Act.put, List.setIfInBounds_toArray, List.set_cons_zero, List.set_cons_succ])
        refine wpAnyH_take (i := 8) (v := ?vab_8) rfl (by kernel_rfl) (by kernel_rfl) (by kernel_rfl) (fun _ _ _ h => h) (Or.inl ⟨by rfl, ?yab_8⟩) (by assumption) ?rab_8
        case yab_8 => intro w hSw; (try dsimp only at hSw); go_simp <;> (try with_reducible rfl)
        (try simp only [List.getElem_toArray, List.getElem_cons_succ, List.getElem_cons_zero, Act.put, List.setIfInBounds_toArray, List.set_cons_zero, List.set_cons_succ])
        refine wpAnyH_ready (rs := [9]) (by kernel_rfl) (by simp) ?_
        refine AllReadyH.cons rfl (fun K hK => ?_) AllReadyH.nil
        rw [if_pos (by rfl)]
        refine wp_allocz 23 rfl (.agg zC.toArray) zC Tryd.zeroQ rfl ?_
        intro g6 w5 hg6 hs5 hb5 B6
        have hb5 := hb5.mono (Nat.le_of_eq hg6.out.symm)
        have hk5 := below_join hk4 hb5
        have hle6 : wr.heap.size ≤ g6 := by have := hk4.size; have := hg6.out; omega
        refine hK.out _ _ hk5 (fun hHeld => ?_)
        clear hK K hb5 hg6 hs5 hk4
        refine wpAnyH_ready (rs := [10]) (by kernel_rfl) (by simp) ?_
        refine AllReadyH.cons rfl (fun K hK => ?_) AllReadyH.nil
        rw [if_pos (by rfl)]
        refine wp_put 23 (.tmp 6) (.tmp 22) rfl g6 0 rfl (.agg [Value.int .i64 N, Value.int .i64 D].toArray) rfl B6 [Value.int .i64 N, Value.int .i64 D] rfl (by exact Tryd.szQ) (by exact Nat.le_refl 2) (int_one _ _) ?_
        intro w6 hu6 hB6
        rw [splice_all _ _ (by rfl)] at hB6
        clear B6
        have B6 := hB6
        have hk6 := hk5.trans (hu6.below (B := wr.heap.size) hle6)
        refine hK.out _ _ hk6 (fun hHeld => ?_)
        clear hK K hu6 hB6 hk5
        refine wpAnyH_take (i := 11) (v := ?vab_11) rfl (by kernel_rfl) (by kernel_rfl) (by kernel_rfl) (fun _ _ _ h => h) (Or.inl ⟨by rfl, ?yab_11⟩) (by assumption) ?rab_11
        case yab_11 => intro w hSw; (try dsimp only at hSw); go_simp <;> (try with_reducible rfl)
        (try simp only [List.getElem_toArray, List.getElem_cons_succ, List.getElem_cons_zero, Act.put, List.setIfInBounds_toArray, List.set_cons_zero, List.set_cons_succ])
        refine wpAnyH_done (by kernel_rfl) ?_ _
        clear hHeld K4_0 Z4_0 KX
        have B2 := B2.next hk6 B2.lt
        have B4 := B4.next hk6 B4.lt
        have hbe := below_join hbe hk6
        clear hk6
        rcases HCS.out with ⟨hf1, rfl, rfl, rfl⟩ | ⟨hf1, rfl⟩
        · skip
          have B6 : Blk _ g6 23 (qC (s + x)) := B6
          have B6 : Blk _ g6 23 [Value.int .i64 (s + x).num, Value.int .i64 ((s + x).den : Int)] := B6
          have z60 := B6.cell (k := 0) rfl
          have z61 := B6.cell (k := 1) rfl
          have ne6_4 : g6 ≠ g4 := by omega
          go_wp2_with (with_reducible refine wpList_put (o := ⟨none, .store 23 (.tmp 4) (.tmp 28), _, _, _, _⟩) (by with_unfolding_all rfl) 23 (.tmp 4) (.tmp 28) (by with_unfolding_all rfl) g4 0 (by with_unfolding_all rfl) (.agg [Value.int .i64 (s + x).num, Value.int .i64 ((s + x).den : Int)].toArray) (by with_unfolding_all rfl) B4 [Value.int .i64 (s + x).num, Value.int .i64 ((s + x).den : Int)] (by with_unfolding_all rfl) (by with_unfolding_all (exact Tryd.szQ)) (by with_unfolding_all (exact Nat.le_refl 2)) (by with_unfolding_all (exact int_one _ _)) ?_)
          clear B4
          intro w7 hu7 B4
          rw [splice_all _ _ (by rfl)] at B4
          have hbe := hbe.trans (hu7.below (B := w.heap.size) hl4)
          have B2 := B2.upd hu7 (by first | exact ne2_4 | exact ne4_2.symm)
          have B6 := B6.upd hu7 (by first | exact ne6_4 | exact ne4_6.symm)
          clear hu7
          clear z60 z61
          have HI2 : Hid (SumI l g2 g4 w (k + 1) (s + x) w7) := by
            have : SumI l g2 g4 w (k + 1) (s + x) w7 := ⟨by rw [HST.out]; unfold okQ; rw [if_pos hf1], B2, B4, hbe⟩
            exact this
          clear B2 B4 hbe HAD
          go_wp2
          go_roundw
          case rel => exact ⟨k + 1, s + x, by omega, by go_num, HI2.out⟩
          case measure => simp [intOf]; omega
        · skip
          have he : ansO (sumM l n) = zret 17 := by
            have h1 : sumM l (k + 1) = none := by rw [HST.out]; unfold okQ; rw [if_neg hf1]
            rw [sumM_fell h1 n (by omega)]; rfl
          have HE := Lib.hid he
          clear he
          go_wp2_with (first | (with_reducible refine wpList_build (o := ⟨some 26, .build 23 #[], _, _, _, _⟩) (by with_unfolding_all rfl) 23 #[] (by with_unfolding_all rfl) #[] (by with_unfolding_all rfl) (.agg zC.toArray) (by with_unfolding_all exact fun w => run_buildQ0 w) ?_) | (with_reducible refine wpList_put (o := ⟨none, .store 23 (.tmp 2) (.tmp 26), _, _, _, _⟩) (by with_unfolding_all rfl) 23 (.tmp 2) (.tmp 26) (by with_unfolding_all rfl) g2 0 (by with_unfolding_all rfl) (.agg zC.toArray) (by with_unfolding_all rfl) B2 zC (by with_unfolding_all rfl) (by with_unfolding_all (exact Tryd.szQ)) (by with_unfolding_all (exact Nat.le_refl 2)) (by with_unfolding_all (exact int_one _ _)) ?_))
          clear B2
          intro w8 hu8 B2
          rw [splice_all _ _ (by rfl)] at B2
          have hbe := hbe.trans (hu8.below (B := w.heap.size) hl2)
          clear hu8
          go_wp2
          exact bodyPost_ret (results_cell_two rfl _ _ g2 _ _ _ _ _ rfl rfl B2 Tryd.underlying23 rfl Tryd.szQ) rfl ⟨by rw [HE.out]; rfl, hbe⟩
      · skip
        rw [if_pos (by rfl)]
        refine wp_allocz 23 rfl (.agg zC.toArray) zC Tryd.zeroQ rfl ?_
        intro g6 w4 hg6 hs4 hb4 B6
        have hb4 := hb4.mono (Nat.le_of_eq hg6.out.symm)
        have hk4 := below_join hdd hb4
        have hle6 : wr.heap.size ≤ g6 := by have := hdd.size; have := hg6.out; omega
        refine hK.out _ _ hk4 (fun hHeld => ?_)
        clear hK K hb4 hg6 hs4 hdd
        refine wpAnyH_ready (rs := [5]) (by kernel_rfl) (by simp) ?_
        refine AllReadyH.cons rfl (fun K hK => ?_) AllReadyH.nil
        go_simp
        go_wp2_with fail
        (with_reducible refine (HAD.out _).mono ?_)
        rintro e w5 ⟨rfl, hb5⟩
        have B6 := B6.next hb5 B6.lt
        have hk5 := below_join hk4 hb5
        refine hK.out _ _ hk5 (fun hHeld => ?_)
        clear hK K hb5 hk4
        refine wpAnyH_take (i := 6) (v := ?vac_6) rfl (by kernel_rfl) (by kernel_rfl) (by kernel_rfl) (fun _ _ _ h => h) (Or.inl ⟨by rfl, ?yac_6⟩) (by assumption) ?rac_6
        case yac_6 => intro w hSw; (try dsimp only at hSw); go_simp <;> (try with_reducible rfl)
        (try simp only [List.getElem_toArray, List.getElem_cons_succ, List.getElem_cons_zero, Act.put, List.setIfInBounds_toArray, List.set_cons_zero, List.set_cons_succ])
        refine wpAnyH_take (i := 7) (v := ?vac_7) rfl (by kernel_rfl) (by kernel_rfl) (by kernel_rfl) (fun _ _ _ h => h) (Or.inl ⟨by rfl, ?yac_7⟩) (by assumption) ?rac_7
        case yac_7 => intro w hSw; (try dsimp only at hSw); go_simp <;> (try with_reducible rfl)
        (try simp only [List.getElem_toArray, List.getElem_cons_succ, List.getElem_cons_zero, Act.put, List.setIfInBounds_toArray, List.set_cons_zero, List.set_cons_succ])
        refine wpAnyH_take (i := 8) (v := ?vac_8) rfl (by kernel_rfl) (by kernel_rfl) (by kernel_rfl) (fun _ _ _ h => h) (Or.inl ⟨by rfl, ?yac_8⟩) (by assumption) ?rac_8
        case yac_8 => intro w hSw; (try dsimp only at hSw); go_simp <;> (try with_reducible rfl)
        (try simp only [List.getElem_toArray, List.getElem_cons_succ, List.getElem_cons_zero, Act.put, List.setIfInBounds_toArray, List.set_cons_zero, List.set_cons_succ])
        refine wpAnyH_ready (rs := [10]) (by kernel_rfl) (by simp) ?_
        refine AllReadyH.cons rfl (fun K hK => ?_) AllReadyH.nil
        rw [if_pos (by rfl)]
        refine wp_put 23 (.tmp 6) (.tmp 22) rfl g6 0 rfl (.agg [Value.int .i64 N, Value.int .i64 D].toArray) rfl B6 [Value.int .i64 N, Value.int .i64 D] rfl (by exact Tryd.szQ) (by exact Nat.le_refl 2) (int_one _ _) ?_
        intro w6 hu6 hB6
        rw [splice_all _ _ (by rfl)] at hB6
        clear B6
        have B6 := hB6
        have hk6 := hk5.trans (hu6.below (B := wr.heap.size) hle6)
        refine hK.out _ _ hk6 (fun hHeld => ?_)
        clear hK K hu6 hB6 hk5
        refine wpAnyH_take (i := 11) (v := ?vac_11) rfl (by kernel_rfl) (by kernel_rfl) (by kernel_rfl) (fun _ _ _ h => h) (Or.inl ⟨by rfl, ?yac_11⟩) (by assumption) ?rac_11
        case yac_11 => intro w hSw; (try dsimp only at hSw); go_simp <;> (try with_reducible rfl)
        (try simp only [List.getElem_toArray, List.getElem_cons_succ, List.getElem_cons_zero, Act.put, List.setIfInBounds_toArray, List.set_cons_zero, List.set_cons_succ])
        refine wpAnyH_done (by kernel_rfl) ?_ _
        clear hHeld K4_0 Z4_0 KX
        have B2 := B2.next hk6 B2.lt
        have B4 := B4.next hk6 B4.lt
        have hbe := below_join hbe hk6
        clear hk6
        rcases HCS.out with ⟨hf1, rfl, rfl, rfl⟩ | ⟨hf1, rfl⟩
        · skip
          have B6 : Blk _ g6 23 (qC (s + x)) := B6
          have B6 : Blk _ g6 23 [Value.int .i64 (s + x).num, Value.int .i64 ((s + x).den : Int)] := B6
          have z60 := B6.cell (k := 0) rfl
          have z61 := B6.cell (k := 1) rfl
          have ne6_4 : g6 ≠ g4 := by omega
          go_wp2_with (with_reducible refine wpList_put (o := ⟨none, .store 23 (.tmp 4) (.tmp 28), _, _, _, _⟩) (by with_unfolding_all rfl) 23 (.tmp 4) (.tmp 28) (by with_unfolding_all rfl) g4 0 (by with_unfolding_all rfl) (.agg [Value.int .i64 (s + x).num, Value.int .i64 ((s + x).den : Int)].toArray) (by with_unfolding_all rfl) B4 [Value.int .i64 (s + x).num, Value.int .i64 ((s + x).den : Int)] (by with_unfolding_all rfl) (by with_unfolding_all (exact Tryd.szQ)) (by with_unfolding_all (exact Nat.le_refl 2)) (by with_unfolding_all (exact int_one _ _)) ?_)
          clear B4
          intro w7 hu7 B4
          rw [splice_all _ _ (by rfl)] at B4
          have hbe := hbe.trans (hu7.below (B := w.heap.size) hl4)
          have B2 := B2.upd hu7 (by first | exact ne2_4 | exact ne4_2.symm)
          have B6 := B6.upd hu7 (by first | exact ne6_4 | exact ne4_6.symm)
          clear hu7
          clear z60 z61
          have HI2 : Hid (SumI l g2 g4 w (k + 1) (s + x) w7) := by
            have : SumI l g2 g4 w (k + 1) (s + x) w7 := ⟨by rw [HST.out]; unfold okQ; rw [if_pos hf1], B2, B4, hbe⟩
            exact this
          clear B2 B4 hbe HAD
          go_wp2
          go_roundw
          case rel => exact ⟨k + 1, s + x, by omega, by go_num, HI2.out⟩
          case measure => simp [intOf]; omega
        · skip
          have he : ansO (sumM l n) = zret 17 := by
            have h1 : sumM l (k + 1) = none := by rw [HST.out]; unfold okQ; rw [if_neg hf1]
            rw [sumM_fell h1 n (by omega)]; rfl
          have HE := Lib.hid he
          clear he
          go_wp2_with (first | (with_reducible refine wpList_build (o := ⟨some 26, .build 23 #[], _, _, _, _⟩) (by with_unfolding_all rfl) 23 #[] (by with_unfolding_all rfl) #[] (by with_unfolding_all rfl) (.agg zC.toArray) (by with_unfolding_all exact fun w => run_buildQ0 w) ?_) | (with_reducible refine wpList_put (o := ⟨none, .store 23 (.tmp 2) (.tmp 26), _, _, _, _⟩) (by with_unfolding_all rfl) 23 (.tmp 2) (.tmp 26) (by with_unfolding_all rfl) g2 0 (by with_unfolding_all rfl) (.agg zC.toArray) (by with_unfolding_all rfl) B2 zC (by with_unfolding_all rfl) (by with_unfolding_all (exact Tryd.szQ)) (by with_unfolding_all (exact Nat.le_refl 2)) (by with_unfolding_all (exact int_one _ _)) ?_))
          clear B2
          intro w8 hu8 B2
          rw [splice_all _ _ (by rfl)] at B2
          have hbe := hbe.trans (hu8.below (B := w.heap.size) hl2)
          clear hu8
          go_wp2
          exact bodyPost_ret (results_cell_two rfl _ _ g2 _ _ _ _ _ rfl rfl B2 Tryd.underlying23 rfl Tryd.szQ) rfl ⟨by rw [HE.out]; rfl, hbe⟩
    · obtain rfl : k = n := by omega
      have he : ansO (sumM l k) = .returned (.tuple #[.agg (qC s).toArray, .int .i64 0]) := by rw [HV.out]; rfl
      have HE := Lib.hid he
      clear he
      have z40 := B4.cell (k := 0) rfl
      have z41 := B4.cell (k := 1) rfl
      go_wp2_with (with_reducible refine wpList_put (o := ⟨none, .store 23 (.tmp 2) (.tmp 29), _, _, _, _⟩) (by with_unfolding_all rfl) 23 (.tmp 2) (.tmp 29) (by with_unfolding_all rfl) g2 0 (by with_unfolding_all rfl) (.agg [Value.int .i64 s.num, Value.int .i64 (s.den : Int)].toArray) (by with_unfolding_all rfl) B2 [Value.int .i64 s.num, Value.int .i64 (s.den : Int)] (by with_unfolding_all rfl) (by with_unfolding_all (exact Tryd.szQ)) (by with_unfolding_all (exact Nat.le_refl 2)) (by with_unfolding_all (exact int_one _ _)) ?_)
      clear B2
      intro w4 hu4 B2
      rw [splice_all _ _ (by rfl)] at B2
      have hbe := hbe.trans (hu4.below (B := w.heap.size) hl2)
      clear hu4
      go_wp2
      exact bodyPost_ret (results_cell_two rfl _ _ g2 _ _ _ _ _ rfl rfl B2 Tryd.underlying23 rfl Tryd.szQ) rfl ⟨by rw [HE.out]; rfl, hbe⟩
end Go.Proofs.YthjaelopmfjfeaaDoor
