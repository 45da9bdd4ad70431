/-
  The walk of RatioSumsMatchSpec. Conditions: the lists and the library's variables lie there.
-/
import Derived.Test.YthjaelopmfjfeaaDoorYc
import Derived.Test.YthjaelopmfjfeaaDoorYe
namespace Go.Proofs.YthjaelopmfjfeaaDoor
set_option linter.unusedVariables false
set_option linter.unusedSimpArgs false
open Go.RowKit Go.Shelf
set_option linter.unusedVariables false

theorem ansO_form (o : Option Rat) : ∃ N D k : Int, ansO o = .returned (.tuple #[.agg #[.int .i64 N, .int .i64 D], .int .i64 k]) := by
  cases o with
  | none => exact ⟨_, _, _, rfl⟩
  | some q => exact ⟨_, _, _, rfl⟩
theorem dotE_form (a b : List Rat) : ∃ N D k : Int, dotE a b = .returned (.tuple #[.agg #[.int .i64 N, .int .i64 D], .int .i64 k]) := by
  unfold dotE
  split
  · exact ansO_form _
  · exact ⟨_, _, _, rfl⟩
theorem prs_of : ∀ {l : List (Int × Int)}, (l.all fun p => chk p.1 p.2) = true → ∃ rs : List Rat, prs rs = l ∧ ∀ x ∈ rs, fits x
  | [], _ => ⟨[], rfl, fun x hx => by cases hx⟩
  | p :: l, h => by
    rw [List.all_cons, Bool.and_eq_true] at h
    obtain ⟨rs, h1, h2⟩ := prs_of h.2
    obtain ⟨q, hq, e1, e2⟩ := chk_is h.1
    refine ⟨q :: rs, ?_, fun x hx => ?_⟩
    · show (q.num, (q.den : Int)) :: prs rs = _
      rw [h1, e1, e2]
    · rcases List.mem_cons.1 hx with rfl | hx
      · exact hq
      · exact h2 x hx
set_option maxRecDepth 100000 in
set_option maxHeartbeats 6400000 in
theorem sumsLaw_any (A B : Option Addr) (c d : Nat) (l r : List (Int × Int)) (w : World) (hl : l.length ≤ 140737488355328) (hr : r.length ≤ 140737488355328) (hA : PsAt w A l) (hB : PsAt w B r) (hq : QW w) :
    Calls Tryd.prog 7 #[.slice A l.length c, .slice B r.length d] w fun e w' => e = .returned (.bool true) ∧ Below w.heap.size w w' := by
  have HQ := Lib.hid hq
  have HA := Lib.hid hA
  have HB := Lib.hid hB
  have X1 := Lib.hid (fun w h => rcheckAll_any A c l w (by omega) h)
  have X2 := Lib.hid (fun w h => rcheckAll_any B d r w (by omega) h)
  obtain ⟨P, hP⟩ : ∃ A, Hid ((l.all fun p => chk p.1 p.2) = A) := ⟨_, rfl⟩
  obtain ⟨Q, hQ⟩ : ∃ A, Hid ((r.all fun p => chk p.1 p.2) = A) := ⟨_, rfl⟩
  rw [hP.out] at X1
  rw [hQ.out] at X2
  obtain ⟨n, hn⟩ : ∃ n, Hid (l.length = n) := ⟨_, rfl⟩
  obtain ⟨m, hm⟩ : ∃ n, Hid (r.length = n) := ⟨_, rfl⟩
  rw [hn.out] at X1 hl ⊢
  rw [hm.out] at X2 hr ⊢
  have hunQ := Tryd.underlying23
  have hguQ := Tryd.guardQ
  have eL : ∀ (a b : Int) (w : World), (binOp .eql 23 (.agg [Value.int .i64 a, Value.int .i64 b].toArray) (.agg [Value.int .i64 a, Value.int .i64 b].toArray)).run Tryd.prog w = .ok (.bool true) w := fun a b w => by rw [eqlQ]; simp
  have hkk : ∀ k : Int, (k == k) = true := fun k => by simp
  clear hq hA hB
  go_enter Tryd.func7, Tryd.ntmps7
  have hbe := Below.refl w.heap.size w
  by_cases hn1 : n ≤ 200
  · skip
    have hn1b : decide (200 < (n : Int)) = false := decide_eq_false (by omega)
    have hn1c : ¬ (200 : Int) < (n : Int) := by omega
    by_cases hm1 : m ≤ 200
    · skip
      have hm1b : decide (200 < (m : Int)) = false := decide_eq_false (by omega)
      have hm1c : ¬ (200 : Int) < (m : Int) := by omega
      go_wp2_with fail
      (with_reducible refine (X1.out _ (HA.out.next hbe)).mono ?_)
      rintro e w1 ⟨rfl, hb1⟩
      have hbe := below_join hbe hb1
      clear hb1
      rcases P with _ | _
      · skip
        go_wp2_with fail
        (with_reducible refine (sanity_any _ (HQ.out.next hbe)).mono ?_)
        rintro e w2 ⟨rfl, hb2⟩
        have hbe := below_join hbe hb2
        clear hb2
        go_wp2
        go_ret
        exact ⟨rfl, hbe⟩
      · skip
        go_wp2_with fail
        (with_reducible refine (X2.out _ (HB.out.next hbe)).mono ?_)
        rintro e w2 ⟨rfl, hb2⟩
        have hbe := below_join hbe hb2
        clear hb2
        rcases Q with _ | _
        · skip
          go_wp2_with fail
          (with_reducible refine (sanity_any _ (HQ.out.next hbe)).mono ?_)
          rintro e w3 ⟨rfl, hb3⟩
          have hbe := below_join hbe hb3
          clear hb3
          go_wp2
          go_ret
          exact ⟨rfl, hbe⟩
        · skip
          obtain ⟨a, ha, fa⟩ := prs_of hP.out
          obtain ⟨b, hb, fb⟩ := prs_of hQ.out
          subst ha hb
          have hla : a.length = n := by rw [← hn.out, prs_length]
          have hlb : b.length = m := by rw [← hm.out, prs_length]
          obtain ⟨N1, D1, k1, h1⟩ := ansO_form (sumM a a.length)
          obtain ⟨N2, D2, k2, h2⟩ := dotE_form a b
          have xS := fun w hA => sum_any A c a w (by omega) fa hA
          rw [h1, hla] at xS
          have YS := Lib.hid xS
          clear xS
          have xT := fun w hA => rsum_any A c a w (by omega) fa hA
          rw [h1, hla] at xT
          have YT := Lib.hid xT
          clear xT
          have xU := fun w hA hB => dot_any A B c d a b w (by omega) (by omega) fa fb hA hB
          rw [h2, hla, hlb] at xU
          have YU := Lib.hid xU
          clear xU
          have xV := fun w hA hB => rdot_any A B c d a b w (by omega) (by omega) fa fb hA hB
          rw [h2, hla, hlb] at xV
          have YV := Lib.hid xV
          clear xV
          clear fa fb h1 h2 hla hlb X1 X2
          go_wp2_with fail
          (with_reducible refine (YS.out _ (HA.out.next hbe)).mono ?_)
          rintro e w3 ⟨rfl, hb3⟩
          have hbe := below_join hbe hb3
          clear hb3
          go_wp2_with (with_reducible refine wpList_alloc (o := ⟨some 5, .alloc 23, _, _, _, _⟩) (by with_unfolding_all rfl) 23 (by with_unfolding_all rfl) (.agg zC.toArray) zC (by exact Tryd.zeroQ) (by with_unfolding_all rfl) ?_)
          intro g5 w4 hg5 hs4 hb4 B5
          have hl5 : w.heap.size ≤ g5 := Nat.le_trans hbe.size (Nat.le_of_eq hg5.out.symm)
          have hb4 := hb4.mono (Nat.le_of_eq hg5.out.symm)
          have hbe := below_join hbe hb4
          clear hb4 hg5 hs4
          go_wp2_with (with_reducible refine wpList_put (o := ⟨none, .store 23 (.tmp 5) (.tmp 35), _, _, _, _⟩) (by with_unfolding_all rfl) 23 (.tmp 5) (.tmp 35) (by with_unfolding_all rfl) g5 0 (by with_unfolding_all rfl) (.agg [Value.int .i64 N1, Value.int .i64 D1].toArray) (by with_unfolding_all rfl) B5 [Value.int .i64 N1, Value.int .i64 D1] (by with_unfolding_all rfl) (by with_unfolding_all (exact Tryd.szQ)) (by with_unfolding_all (exact Nat.le_refl 2)) (by with_unfolding_all (exact int_one _ _)) ?_)
          clear B5
          intro w5 hu5 B5
          rw [splice_all _ _ (by rfl)] at B5
          have hbe := hbe.trans (hu5.below (B := w.heap.size) hl5)
          clear hu5
          go_wp2_with fail
          (with_reducible refine (YT.out _ (HA.out.next hbe)).mono ?_)
          rintro e w6 ⟨rfl, hb6⟩
          have B5 := B5.next hb6 B5.lt
          have hbe := below_join hbe hb6
          clear hb6
          go_wp2_with (with_reducible refine wpList_alloc (o := ⟨some 7, .alloc 23, _, _, _, _⟩) (by with_unfolding_all rfl) 23 (by with_unfolding_all rfl) (.agg zC.toArray) zC (by exact Tryd.zeroQ) (by with_unfolding_all rfl) ?_)
          intro g7 w7 hg7 hs7 hb7 B7
          have hl7 : w.heap.size ≤ g7 := Nat.le_trans hbe.size (Nat.le_of_eq hg7.out.symm)
          have ne5_7 : g5 ≠ g7 := by have := B5.lt; have := hg7.out; omega
          have hb7 := hb7.mono (Nat.le_of_eq hg7.out.symm)
          have B5 := B5.next hb7 B5.lt
          have hbe := below_join hbe hb7
          clear hb7 hg7 hs7
          go_wp2_with (with_reducible refine wpList_put (o := ⟨none, .store 23 (.tmp 7) (.tmp 40), _, _, _, _⟩) (by with_unfolding_all rfl) 23 (.tmp 7) (.tmp 40) (by with_unfolding_all rfl) g7 0 (by with_unfolding_all rfl) (.agg [Value.int .i64 N1, Value.int .i64 D1].toArray) (by with_unfolding_all rfl) B7 [Value.int .i64 N1, Value.int .i64 D1] (by with_unfolding_all rfl) (by with_unfolding_all (exact Tryd.szQ)) (by with_unfolding_all (exact Nat.le_refl 2)) (by with_unfolding_all (exact int_one _ _)) ?_)
          clear B7
          intro w8 hu8 B7
          rw [splice_all _ _ (by rfl)] at B7
          have hbe := hbe.trans (hu8.below (B := w.heap.size) hl7)
          have B5 := B5.upd hu8 (by first | exact ne5_7 | exact ne7_5.symm)
          clear hu8
          go_wp2_with fail
          (with_reducible refine (YU.out _ (HA.out.next hbe) (HB.out.next hbe)).mono ?_)
          rintro e w9 ⟨rfl, hb9⟩
          have B5 := B5.next hb9 B5.lt
          have B7 := B7.next hb9 B7.lt
          have hbe := below_join hbe hb9
          clear hb9
          go_wp2_with (with_reducible refine wpList_alloc (o := ⟨some 9, .alloc 23, _, _, _, _⟩) (by with_unfolding_all rfl) 23 (by with_unfolding_all rfl) (.agg zC.toArray) zC (by exact Tryd.zeroQ) (by with_unfolding_all rfl) ?_)
          intro g9 w10 hg9 hs10 hb10 B9
          have hl9 : w.heap.size ≤ g9 := Nat.le_trans hbe.size (Nat.le_of_eq hg9.out.symm)
          have ne5_9 : g5 ≠ g9 := by have := B5.lt; have := hg9.out; omega
          have ne7_9 : g7 ≠ g9 := by have := B7.lt; have := hg9.out; omega
          have hb10 := hb10.mono (Nat.le_of_eq hg9.out.symm)
          have B5 := B5.next hb10 B5.lt
          have B7 := B7.next hb10 B7.lt
          have hbe := below_join hbe hb10
          clear hb10 hg9 hs10
          go_wp2_with (with_reducible refine wpList_put (o := ⟨none, .store 23 (.tmp 9) (.tmp 46), _, _, _, _⟩) (by with_unfolding_all rfl) 23 (.tmp 9) (.tmp 46) (by with_unfolding_all rfl) g9 0 (by with_unfolding_all rfl) (.agg [Value.int .i64 N2, Value.int .i64 D2].toArray) (by with_unfolding_all rfl) B9 [Value.int .i64 N2, Value.int .i64 D2] (by with_unfolding_all rfl) (by with_unfolding_all (exact Tryd.szQ)) (by with_unfolding_all (exact Nat.le_refl 2)) (by with_unfolding_all (exact int_one _ _)) ?_)
          clear B9
          intro w11 hu11 B9
          rw [splice_all _ _ (by rfl)] at B9
          have hbe := hbe.trans (hu11.below (B := w.heap.size) hl9)
          have B5 := B5.upd hu11 (by first | exact ne5_9 | exact ne9_5.symm)
          have B7 := B7.upd hu11 (by first | exact ne7_9 | exact ne9_7.symm)
          clear hu11
          go_wp2_with fail
          (with_reducible refine (YV.out _ (HA.out.next hbe) (HB.out.next hbe)).mono ?_)
          rintro e w12 ⟨rfl, hb12⟩
          have B5 := B5.next hb12 B5.lt
          have B7 := B7.next hb12 B7.lt
          have B9 := B9.next hb12 B9.lt
          have hbe := below_join hbe hb12
          clear hb12
          go_wp2_with (with_reducible refine wpList_alloc (o := ⟨some 11, .alloc 23, _, _, _, _⟩) (by with_unfolding_all rfl) 23 (by with_unfolding_all rfl) (.agg zC.toArray) zC (by exact Tryd.zeroQ) (by with_unfolding_all rfl) ?_)
          intro g11 w13 hg11 hs13 hb13 B11
          have hl11 : w.heap.size ≤ g11 := Nat.le_trans hbe.size (Nat.le_of_eq hg11.out.symm)
          have ne5_11 : g5 ≠ g11 := by have := B5.lt; have := hg11.out; omega
          have ne7_11 : g7 ≠ g11 := by have := B7.lt; have := hg11.out; omega
          have ne9_11 : g9 ≠ g11 := by have := B9.lt; have := hg11.out; omega
          have hb13 := hb13.mono (Nat.le_of_eq hg11.out.symm)
          have B5 := B5.next hb13 B5.lt
          have B7 := B7.next hb13 B7.lt
          have B9 := B9.next hb13 B9.lt
          have hbe := below_join hbe hb13
          clear hb13 hg11 hs13
          go_wp2_with (with_reducible refine wpList_put (o := ⟨none, .store 23 (.tmp 11) (.tmp 52), _, _, _, _⟩) (by with_unfolding_all rfl) 23 (.tmp 11) (.tmp 52) (by with_unfolding_all rfl) g11 0 (by with_unfolding_all rfl) (.agg [Value.int .i64 N2, Value.int .i64 D2].toArray) (by with_unfolding_all rfl) B11 [Value.int .i64 N2, Value.int .i64 D2] (by with_unfolding_all rfl) (by with_unfolding_all (exact Tryd.szQ)) (by with_unfolding_all (exact Nat.le_refl 2)) (by with_unfolding_all (exact int_one _ _)) ?_)
          clear B11
          intro w14 hu14 B11
          rw [splice_all _ _ (by rfl)] at B11
          have hbe := hbe.trans (hu14.below (B := w.heap.size) hl11)
          have B5 := B5.upd hu14 (by first | exact ne5_11 | exact ne11_5.symm)
          have B7 := B7.upd hu14 (by first | exact ne7_11 | exact ne11_7.symm)
          have B9 := B9.upd hu14 (by first | exact ne9_11 | exact ne11_9.symm)
          clear hu14
          go_wp2_with fail
          (with_reducible refine (sanity_any _ (HQ.out.next hbe)).mono ?_)
          rintro e w15 ⟨rfl, hb15⟩
          have B5 := B5.next hb15 B5.lt
          have B7 := B7.next hb15 B7.lt
          have B9 := B9.next hb15 B9.lt
          have B11 := B11.next hb15 B11.lt
          have hbe := below_join hbe hb15
          clear hb15
          have z50 := B5.cell (k := 0) rfl
          have z51 := B5.cell (k := 1) rfl
          have z70 := B7.cell (k := 0) rfl
          have z71 := B7.cell (k := 1) rfl
          have z90 := B9.cell (k := 0) rfl
          have z91 := B9.cell (k := 1) rfl
          have z110 := B11.cell (k := 0) rfl
          have z111 := B11.cell (k := 1) rfl
          go_wp2
          go_ret
          exact ⟨rfl, hbe⟩
    · skip
      have hm1b : decide (200 < (m : Int)) = true := decide_eq_true (by omega)
      have hm1c : (200 : Int) < (m : Int) := by omega
      go_wp2_with fail
      (with_reducible refine (sanity_any _ (HQ.out.next hbe)).mono ?_)
      rintro e w1 ⟨rfl, hb1⟩
      have hbe := below_join hbe hb1
      clear hb1
      go_wp2
      go_ret
      exact ⟨rfl, hbe⟩
  · skip
    have hn1b : decide (200 < (n : Int)) = true := decide_eq_true (by omega)
    have hn1c : (200 : Int) < (n : Int) := by omega
    go_wp2_with fail
    (with_reducible refine (sanity_any _ (HQ.out.next hbe)).mono ?_)
    rintro e w1 ⟨rfl, hb1⟩
    have hbe := below_join hbe hb1
    clear hb1
    go_wp2
    go_ret
    exact ⟨rfl, hbe⟩
end Go.Proofs.YthjaelopmfjfeaaDoor
