/-
  Contract of the walk over the reference's SameSet. Conditions: right patterns, of which at most 5000 are ever left.
-/
import Derived.Test.YtbldnhpbmfmepaaDoorKTg
import Derived.Test.YtbldnhpbmfmepaaDoorKMb2
namespace Go.Proofs.YtbldnhpbmfmepaaDoor
set_option linter.unusedVariables false
set_option linter.unusedSimpArgs false
open Go.RowKit

/-- What outsideAll answers: a head and whether there is one. -/
def AllOk (a b : List Pat) (y : Nat → Bool) (FF : Bool) : Prop := ∃ R, foundIn a b none R ∧ R.getD no = y ∧ R.isSome = FF
theorem allOk_no {a b : List Pat} {y : Nat → Bool} (h : AllOk a b y false) {g : Nat → Bool} (h1 : Pat.inSome a g) (h2 : ¬ Pat.inSome b g) : False := by
  obtain ⟨R, hf, _, hs⟩ := h
  cases R with
  | none =>
    rcases hf with ⟨m, _, _, e⟩ | ⟨n, _⟩
    · cases e
    · exact n g h1 h2 trivial
  | some r => cases hs
theorem allOk_yes {a b : List Pat} {y : Nat → Bool} (h : AllOk a b y true) : (Pat.inSome a y ∧ ¬ Pat.inSome b y) ∧ ∀ g, Pat.inSome a g → ¬ Pat.inSome b g → num y ≤ num g := by
  obtain ⟨R, hf, hy, hs⟩ := h
  cases R with
  | none => cases hs
  | some r =>
    have hy : r = y := hy
    subst hy
    rcases hf with ⟨m, ⟨a1, a2, a3⟩, _, e⟩ | ⟨_, e⟩
    · injection e with e
      subst e
      exact ⟨⟨a1, a2⟩, a3⟩
    · cases e
theorem same_no {a b : List Pat} {y z : Nat → Bool} (h1 : AllOk a b y false) (h2 : AllOk b a z false) : sameR a b none := .inl ⟨rfl, fun g hg => by
  rcases hg with ⟨u, v⟩ | ⟨u, v⟩
  · exact allOk_no h1 u v
  · exact allOk_no h2 u v⟩
theorem same_left {a b : List Pat} {y z : Nat → Bool} (h1 : AllOk a b y true) (h2 : AllOk b a z false) : sameR a b (some y) := .inr ⟨y, rfl, .inl (allOk_yes h1).1, fun g hg => by
  rcases hg with ⟨u, v⟩ | ⟨u, v⟩
  · exact (allOk_yes h1).2 g u v
  · exact (allOk_no h2 u v).elim⟩
theorem same_right {a b : List Pat} {y z : Nat → Bool} (h1 : AllOk a b y false) (h2 : AllOk b a z true) : sameR a b (some z) := .inr ⟨z, rfl, .inr (allOk_yes h2).1, fun g hg => by
  rcases hg with ⟨u, v⟩ | ⟨u, v⟩
  · exact (allOk_no h1 u v).elim
  · exact (allOk_yes h2).2 g u v⟩
theorem same_less {a b : List Pat} {y z : Nat → Bool} (h1 : AllOk a b y true) (h2 : AllOk b a z true) (h : num y < num z) : sameR a b (some y) := .inr ⟨y, rfl, .inl (allOk_yes h1).1, fun g hg => by
  rcases hg with ⟨u, v⟩ | ⟨u, v⟩
  · exact (allOk_yes h1).2 g u v
  · exact Nat.le_trans (Nat.le_of_lt h) ((allOk_yes h2).2 g u v)⟩
theorem same_more {a b : List Pat} {y z : Nat → Bool} (h1 : AllOk a b y true) (h2 : AllOk b a z true) (h : ¬ num y < num z) : sameR a b (some z) := .inr ⟨z, rfl, .inr (allOk_yes h2).1, fun g hg => by
  rcases hg with ⟨u, v⟩ | ⟨u, v⟩
  · exact Nat.le_trans (Nat.le_of_not_lt h) ((allOk_yes h1).2 g u v)
  · exact (allOk_yes h2).2 g u v⟩
theorem allOk_of {a b : List Pat} {R : Bnd} (h : foundIn a b none R) : ∃ y FF, outV R = .tuple #[.agg (H y).toArray, .bool FF] ∧ AllOk a b y FF := by
  refine ⟨R.getD no, R.isSome, ?_, R, h, rfl, rfl⟩
  cases R <;> rfl
set_option maxRecDepth 100000 in
set_option maxHeartbeats 6400000 in
theorem rsameSet_any (ca cb : Nat) (Aa Ab : Option Addr) (la lb : List Pat) (w : World) (hoa : ∀ q, q ∈ la → q.ok) (hob : ∀ q, q ∈ lb → q.ok) (hla : la.length ≤ 1000000) (hlb : lb.length ≤ 1000000) (hf1 : ∀ x, x ∈ la → ∀ k, (leftTo x lb k).length ≤ 5000) (hf2 : ∀ x, x ∈ lb → ∀ k, (leftTo x la k).length ≤ 5000) (ha : PatsAt w Aa la) (hb : PatsAt w Ab lb) :
    Calls Tryd.prog 63 #[.slice Aa la.length ca, .slice Ab lb.length cb] w fun e w' => ∃ R, e = .returned (sameV R) ∧ sameR la lb R ∧ Below w.heap.size w w' := by
  obtain ⟨n, hn⟩ : ∃ n, la.length = n := ⟨_, rfl⟩
  obtain ⟨m, hm⟩ : ∃ m, lb.length = m := ⟨_, rfl⟩
  have c1 : ∀ W, Below w.heap.size w W → Calls Tryd.prog 95 #[.slice Aa n ca, .slice Ab m cb] W fun e w' => (∃ y FF, e = .returned (.tuple #[.agg (H y).toArray, .bool FF]) ∧ AllOk la lb y FF) ∧ Below W.heap.size W w' := fun W hbw => by
    rw [← hn, ← hm]
    refine (routsideAll_any ca cb Aa Ab la lb W hoa hob hla hlb hf1 (ha.next hbw) (hb.next hbw)).mono fun e w' h => ?_
    obtain ⟨R, rfl, hf, hb⟩ := h
    obtain ⟨y, FF, e, ho⟩ := allOk_of hf
    exact ⟨⟨y, FF, by rw [e], ho⟩, hb⟩
  have c2 : ∀ W, Below w.heap.size w W → Calls Tryd.prog 95 #[.slice Ab m cb, .slice Aa n ca] W fun e w' => (∃ y FF, e = .returned (.tuple #[.agg (H y).toArray, .bool FF]) ∧ AllOk lb la y FF) ∧ Below W.heap.size W w' := fun W hbw => by
    rw [← hn, ← hm]
    refine (routsideAll_any cb ca Ab Aa lb la W hob hoa hlb hla hf2 (hb.next hbw) (ha.next hbw)).mono fun e w' h => ?_
    obtain ⟨R, rfl, hf, hb⟩ := h
    obtain ⟨y, FF, e, ho⟩ := allOk_of hf
    exact ⟨⟨y, FF, by rw [e], ho⟩, hb⟩
  have C1 := Lib.hid c1
  have C2 := Lib.hid c2
  rw [hn, hm]
  clear c1 c2 hn hm hoa hob hla hlb hf1 hf2 ha hb
  have hunH := Tryd.underlying23
  go_enter Tryd.func63, Tryd.ntmps63
  go_wp2_with (with_reducible refine wpList_alloc (o := ⟨some 4, .alloc 23, _, _, _, _⟩) (by with_unfolding_all rfl) 23 (by with_unfolding_all rfl) (.agg (H no).toArray) (H no) (by exact Tryd.zeroH) (by with_unfolding_all rfl) ?_)
  intro g4 w1 hg4 hs1 hb1 B4
  have hl4 : w.heap.size ≤ g4 := Nat.le_of_eq hg4.out.symm
  have hbe : Below w.heap.size w w1 := hb1.mono hl4
  clear hb1 hs1 hg4
  go_wp2_with fail
  (with_reducible refine (C1.out _ hbe).mono ?_)
  rintro e w2 ⟨⟨y1, F1, rfl, ho1⟩, hb2⟩
  have HO1 := Lib.hid ho1
  have B4 := B4.next hb2 B4.lt
  have hbe := below_join hbe hb2
  clear hb2 ho1
  go_wp2_with (with_reducible refine wpList_alloc (o := ⟨some 6, .alloc 23, _, _, _, _⟩) (by with_unfolding_all rfl) 23 (by with_unfolding_all rfl) (.agg (H no).toArray) (H no) (by exact Tryd.zeroH) (by with_unfolding_all rfl) ?_)
  intro g6 wa6 hg6 hs6 hb6 hB6
  have hl6 := Nat.le_of_eq hg6.out.symm
  have hbl6 := hb6.mono hl6
  have hn46 : g4 < g6 := by have := B4.lt; have := hg6.out; omega
  go_wp2_with (with_reducible refine wpList_put (o := ⟨none, .store 23 (.tmp 6) (.tmp 14), _, _, _, _⟩) (by with_unfolding_all rfl) 23 (.tmp 6) (.tmp 14) (by with_unfolding_all rfl) g6 0 (by with_unfolding_all rfl) (.agg (H y1).toArray) (by with_unfolding_all rfl) hB6 (H y1) (by with_unfolding_all rfl) (by with_unfolding_all (rw [H_length]; exact Tryd.szH)) (by with_unfolding_all (simp only [H_length] <;> omega)) (by with_unfolding_all (exact H_one _)) ?_)
  intro wb6 hu6 B6
  rw [splice_all _ _ (by simp only [H_length])] at B6
  have hbu6 := hbl6.trans (hu6.below hl6)
  have B4 := B4.next hbu6 B4.lt
  have hbe := below_join hbe hbu6
  clear hg6 hs6 hb6 hB6 hl6 hbl6 hu6 hbu6
  go_wp2_with fail
  (with_reducible refine (C2.out _ hbe).mono ?_)
  rintro e w3 ⟨⟨y2, F2, rfl, ho2⟩, hb3⟩
  have HO2 := Lib.hid ho2
  have B4 := B4.next hb3 B4.lt
  have B6 := B6.next hb3 B6.lt
  have hbe := below_join hbe hb3
  clear hb3 ho2
  go_wp2_with (with_reducible refine wpList_alloc (o := ⟨some 8, .alloc 23, _, _, _, _⟩) (by with_unfolding_all rfl) 23 (by with_unfolding_all rfl) (.agg (H no).toArray) (H no) (by exact Tryd.zeroH) (by with_unfolding_all rfl) ?_)
  intro g8 wa8 hg8 hs8 hb8 hB8
  have hl8 := Nat.le_of_eq hg8.out.symm
  have hbl8 := hb8.mono hl8
  have hn48 : g4 < g8 := by have := B4.lt; have := hg8.out; omega
  have hn68 : g6 < g8 := by have := B6.lt; have := hg8.out; omega
  go_wp2_with (with_reducible refine wpList_put (o := ⟨none, .store 23 (.tmp 8) (.tmp 20), _, _, _, _⟩) (by with_unfolding_all rfl) 23 (.tmp 8) (.tmp 20) (by with_unfolding_all rfl) g8 0 (by with_unfolding_all rfl) (.agg (H y2).toArray) (by with_unfolding_all rfl) hB8 (H y2) (by with_unfolding_all rfl) (by with_unfolding_all (rw [H_length]; exact Tryd.szH)) (by with_unfolding_all (simp only [H_length] <;> omega)) (by with_unfolding_all (exact H_one _)) ?_)
  intro wb8 hu8 B8
  rw [splice_all _ _ (by simp only [H_length])] at B8
  have hbu8 := hbl8.trans (hu8.below hl8)
  have B4 := B4.next hbu8 B4.lt
  have B6 := B6.next hbu8 B6.lt
  have hbe := below_join hbe hbu8
  clear hg8 hs8 hb8 hB8 hl8 hbl8 hu8 hbu8
  rcases F1 with _ | _
  · rcases F2 with _ | _
    · have HS : Hid (sameR la lb none) := same_no HO1.out HO2.out
      clear HO1 HO2
      go_wp2_with (first | (with_reducible refine wpList_build (o := ⟨some 28, .build 23 #[], _, _, _, _⟩) (by with_unfolding_all rfl) 23 #[] (by with_unfolding_all rfl) #[] (by with_unfolding_all rfl) (.agg (H no).toArray) (by with_unfolding_all exact fun w => run_buildH0 w) ?_) | (with_reducible refine wpList_put (o := ⟨none, .store 23 (.tmp 4) (.tmp 28), _, _, _, _⟩) (by with_unfolding_all rfl) 23 (.tmp 4) (.tmp 28) (by with_unfolding_all rfl) g4 0 (by with_unfolding_all rfl) (.agg (H no).toArray) (by with_unfolding_all rfl) B4 (H no) (by with_unfolding_all rfl) (by with_unfolding_all (rw [H_length]; exact Tryd.szH)) (by with_unfolding_all (simp only [H_length] <;> omega)) (by with_unfolding_all (exact H_one _)) ?_))
      intro w11 hu11 hB11
      rw [splice_all _ _ rfl] at hB11
      have hfin := hbe.trans (hu11.below (B := w.heap.size) (by omega))
      go_wp2
      exact bodyPost_ret (results_cell_two rfl _ _ g4 _ _ _ _ _ rfl rfl hB11 Tryd.underlying23 rfl (by rw [List.size_toArray, H_length]; exact Tryd.szH)) rfl ⟨none, rfl, HS.out, hfin⟩
    · skip
      have HS : Hid (sameR la lb (some y2)) := same_right HO1.out HO2.out
      clear HO1 HO2
      go_wp2_with (first | (with_reducible refine wpList_get (o := ⟨some 41, .load 23 (.tmp 8), _, _, _, _⟩) (by with_unfolding_all rfl) 23 (.tmp 8) (by with_unfolding_all rfl) g8 0 (by with_unfolding_all rfl) B8 (H y2) (cs_all _) _ (by exact hunH) (by with_unfolding_all rfl) (by rw [H_length]; exact Tryd.szH) ?_) | (with_reducible refine wpList_put (o := ⟨none, .store 23 (.tmp 4) (.tmp 41), _, _, _, _⟩) (by with_unfolding_all rfl) 23 (.tmp 4) (.tmp 41) (by with_unfolding_all rfl) g4 0 (by with_unfolding_all rfl) (.agg (H y2).toArray) (by with_unfolding_all rfl) B4 (H y2) (by with_unfolding_all rfl) (by with_unfolding_all (rw [H_length]; exact Tryd.szH)) (by with_unfolding_all (simp only [H_length] <;> omega)) (by with_unfolding_all (exact H_one _)) ?_))
      intro w11 hu11 hB11
      rw [splice_all _ _ (by simp only [H_length])] at hB11
      have hfin := hbe.trans (hu11.below (B := w.heap.size) (by omega))
      go_wp2
      exact bodyPost_ret (results_cell_two rfl _ _ g4 _ _ _ _ _ rfl rfl hB11 Tryd.underlying23 rfl (by rw [List.size_toArray, H_length]; exact Tryd.szH)) rfl ⟨some y2, rfl, HS.out, hfin⟩
  · rcases F2 with _ | _
    · skip
      have HS : Hid (sameR la lb (some y1)) := same_left HO1.out HO2.out
      clear HO1 HO2
      go_wp2_with (first | (with_reducible refine wpList_get (o := ⟨some 40, .load 23 (.tmp 6), _, _, _, _⟩) (by with_unfolding_all rfl) 23 (.tmp 6) (by with_unfolding_all rfl) g6 0 (by with_unfolding_all rfl) B6 (H y1) (cs_all _) _ (by exact hunH) (by with_unfolding_all rfl) (by rw [H_length]; exact Tryd.szH) ?_) | (with_reducible refine wpList_put (o := ⟨none, .store 23 (.tmp 4) (.tmp 40), _, _, _, _⟩) (by with_unfolding_all rfl) 23 (.tmp 4) (.tmp 40) (by with_unfolding_all rfl) g4 0 (by with_unfolding_all rfl) (.agg (H y1).toArray) (by with_unfolding_all rfl) B4 (H y1) (by with_unfolding_all rfl) (by with_unfolding_all (rw [H_length]; exact Tryd.szH)) (by with_unfolding_all (simp only [H_length] <;> omega)) (by with_unfolding_all (exact H_one _)) ?_))
      intro w11 hu11 hB11
      rw [splice_all _ _ (by simp only [H_length])] at hB11
      have hfin := hbe.trans (hu11.below (B := w.heap.size) (by omega))
      go_wp2
      exact bodyPost_ret (results_cell_two rfl _ _ g4 _ _ _ _ _ rfl rfl hB11 Tryd.underlying23 rfl (by rw [List.size_toArray, H_length]; exact Tryd.szH)) rfl ⟨some y1, rfl, HS.out, hfin⟩
    · have hcmp := fun w => rcompareHeads_any y1 y2 w
      obtain ⟨I, hI⟩ : ∃ I, Hid (cmpH y1 y2 = I) := ⟨_, rfl⟩
      obtain ⟨C, hC⟩ : ∃ C, decide (I < 0) = C := ⟨_, rfl⟩
      rw [hI.out] at hcmp
      have HCMP := Lib.hid hcmp
      have HC : Hid (decide (cmpH y1 y2 < 0) = C) := by
        have : decide (cmpH y1 y2 < 0) = C := by rw [hI.out]; exact hC
        exact this
      clear hcmp
      go_wp2_with (first | (with_reducible refine wpList_getg (o := ⟨some 34, .load 23 (.tmp 6), _, _, _, _⟩) (by with_unfolding_all rfl) 23 (.tmp 6) (by with_unfolding_all rfl) g6 0 (by with_unfolding_all rfl) B6 (H y1) (cs_all _) _ (by exact hunH) (by with_unfolding_all rfl) (by rw [H_length]; exact Tryd.szH) ?_) | (with_reducible refine wpList_getg (o := ⟨some 35, .load 23 (.tmp 8), _, _, _, _⟩) (by with_unfolding_all rfl) 23 (.tmp 8) (by with_unfolding_all rfl) g8 0 (by with_unfolding_all rfl) B8 (H y2) (cs_all _) _ (by exact hunH) (by with_unfolding_all rfl) (by rw [H_length]; exact Tryd.szH) ?_))
      (with_reducible refine (HCMP.out _).mono ?_)
      rintro e w5 ⟨rfl, hb5⟩
      have B4 := B4.next hb5 B4.lt
      have B6 := B6.next hb5 B6.lt
      have B8 := B8.next hb5 B8.lt
      have hbe := below_join hbe hb5
      clear hb5
      cases C with
      | true =>
        have HS : Hid (sameR la lb (some y1)) := same_less HO1.out HO2.out (cmp_neg.1 (of_decide_eq_true HC.out))
        clear HO1 HO2
        go_wp2_with (first | (with_reducible refine wpList_get (o := ⟨some 40, .load 23 (.tmp 6), _, _, _, _⟩) (by with_unfolding_all rfl) 23 (.tmp 6) (by with_unfolding_all rfl) g6 0 (by with_unfolding_all rfl) B6 (H y1) (cs_all _) _ (by exact hunH) (by with_unfolding_all rfl) (by rw [H_length]; exact Tryd.szH) ?_) | (with_reducible refine wpList_put (o := ⟨none, .store 23 (.tmp 4) (.tmp 40), _, _, _, _⟩) (by with_unfolding_all rfl) 23 (.tmp 4) (.tmp 40) (by with_unfolding_all rfl) g4 0 (by with_unfolding_all rfl) (.agg (H y1).toArray) (by with_unfolding_all rfl) B4 (H y1) (by with_unfolding_all rfl) (by with_unfolding_all (rw [H_length]; exact Tryd.szH)) (by with_unfolding_all (simp only [H_length] <;> omega)) (by with_unfolding_all (exact H_one _)) ?_))
        intro w11 hu11 hB11
        rw [splice_all _ _ (by simp only [H_length])] at hB11
        have hfin := hbe.trans (hu11.below (B := w.heap.size) (by omega))
        go_wp2
        exact bodyPost_ret (results_cell_two rfl _ _ g4 _ _ _ _ _ rfl rfl hB11 Tryd.underlying23 rfl (by rw [List.size_toArray, H_length]; exact Tryd.szH)) rfl ⟨some y1, rfl, HS.out, hfin⟩
      | false =>
        have HS : Hid (sameR la lb (some y2)) := same_more HO1.out HO2.out (fun hc => of_decide_eq_false HC.out (cmp_neg.2 hc))
        clear HO1 HO2
        go_wp2_with (first | (with_reducible refine wpList_get (o := ⟨some 41, .load 23 (.tmp 8), _, _, _, _⟩) (by with_unfolding_all rfl) 23 (.tmp 8) (by with_unfolding_all rfl) g8 0 (by with_unfolding_all rfl) B8 (H y2) (cs_all _) _ (by exact hunH) (by with_unfolding_all rfl) (by rw [H_length]; exact Tryd.szH) ?_) | (with_reducible refine wpList_put (o := ⟨none, .store 23 (.tmp 4) (.tmp 41), _, _, _, _⟩) (by with_unfolding_all rfl) 23 (.tmp 4) (.tmp 41) (by with_unfolding_all rfl) g4 0 (by with_unfolding_all rfl) (.agg (H y2).toArray) (by with_unfolding_all rfl) B4 (H y2) (by with_unfolding_all rfl) (by with_unfolding_all (rw [H_length]; exact Tryd.szH)) (by with_unfolding_all (simp only [H_length] <;> omega)) (by with_unfolding_all (exact H_one _)) ?_))
        intro w11 hu11 hB11
        rw [splice_all _ _ (by simp only [H_length])] at hB11
        have hfin := hbe.trans (hu11.below (B := w.heap.size) (by omega))
        go_wp2
        exact bodyPost_ret (results_cell_two rfl _ _ g4 _ _ _ _ _ rfl rfl hB11 Tryd.underlying23 rfl (by rw [List.size_toArray, H_length]; exact Tryd.szH)) rfl ⟨some y2, rfl, HS.out, hfin⟩
end Go.Proofs.YtbldnhpbmfmepaaDoor
