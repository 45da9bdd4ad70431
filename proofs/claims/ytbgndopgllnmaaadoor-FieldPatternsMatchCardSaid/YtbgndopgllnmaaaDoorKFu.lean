/-
  The walk over FieldPatternsMatch: it returns true. Conditions: a name that is not too long; the library's variables lie there.
-/
import Derived.Test.YtbgndopgllnmaaaDoorGX
import Derived.Test.YtbgndopgllnmaaaDoorGI
import Derived.Test.YtbgndopgllnmaaaDoorGS
namespace Go.Proofs.YtbgndopgllnmaaaDoor
set_option linter.unusedVariables false
set_option linter.unusedSimpArgs false
open Go.RowKit Go.Shelf
set_option linter.unusedVariables false

theorem pre_fitsF (a wd n k : Nat) (f : Nat → Bool) : (Pat.pre a wd n k).fits f ↔ (Pat.pre a wd n k).hit f := by
  constructor
  · intro hf i hi hm
    have := hf i hi
    rw [hm, Bool.and_true] at this
    exact this.symm
  · intro hh i hi
    cases hm : (Pat.pre a wd n k).m i
    · cases hb : (Pat.pre a wd n k).b i
      · rw [Bool.and_false]
      · have hb' : ((decide (a ≤ i) && decide (i < a + k)) && n.testBit (wd - 1 - (i - a))) = true := hb
        rw [Bool.and_eq_true] at hb'
        have hm' : (decide (a ≤ i) && decide (i < a + k)) = false := hm
        rw [hb'.1] at hm'; cases hm'
    · rw [Bool.and_true]; exact (hh i hi hm).symm
theorem fits_pre {a n x m : Nat} (f : Nat → Bool) (h : Lies a n) (hm : m ≤ n) (hx : x < 2 ^ n) : decide ((Pat.pre a n x m).fits f) = decide (fieldN f a n / 2 ^ (n - m) = x / 2 ^ (n - m)) :=
  decide_eq_decide.2 ((pre_fitsF a n x m f).trans (pre_match f h hm hx))
theorem range_preF {a wd hi : Nat} : ∀ f x p, p ∈ rangeGo a wd hi f x → ∃ j k, p = Pat.pre a wd j k
  | 0, x, p, h => by cases h
  | f + 1, x, p, h => by
    unfold rangeGo at h
    by_cases hx : x ≤ hi
    · rw [if_pos hx] at h
      rcases List.mem_cons.1 h with rfl | h
      · exact ⟨x, _, rfl⟩
      · exact range_preF f _ p h
    · rw [if_neg hx] at h; cases h
/-- How many patterns of a list match. -/
def cntP (l : List Pat) (h : Nat → Bool) : Nat := l.countP fun p => decide (p.fits h)
theorem rangeF_count {a n lo hi : Nat} (f : Nat → Bool) (h : Lies a n) (hhi : hi < 2 ^ n) : cntP (rangeF a n lo hi) f = if lo ≤ fieldN f a n ∧ fieldN f a n ≤ hi then 1 else 0 := by
  have hp := h.pow
  unfold cntP rangeF
  by_cases hl : lo ≤ hi
  · rw [if_pos hl, ← range_count (a := a) (wd := n) (hi := hi) f h.head (by omega) hhi 65537 lo (by omega)]
    refine List.countP_congr fun p hp => ?_
    obtain ⟨j, k, rfl⟩ := range_preF _ _ _ hp
    rw [decide_eq_true_eq, decide_eq_true_eq]
    exact pre_fitsF a n j k f
  · rw [if_neg hl, if_neg (by omega)]; rfl
theorem rangeF_few {a n lo hi : Nat} (h : Lies a n) (hhi : hi < 2 ^ n) : (rangeF a n lo hi).length ≤ max 1 (2 * n - 2) := by
  have hp := h.pow
  unfold rangeF
  by_cases hl : lo ≤ hi
  · rw [if_pos hl]; exact range_few (by omega) h.one hl hhi
  · rw [if_neg hl]; exact Nat.zero_le _
theorem samePs_selfF : ∀ l : List Pat, samePs l l = true
  | [] => rfl
  | p :: l => by
    show ((decide (HI p.m = HI p.m) && decide (HI p.b = HI p.b)) && samePs l l) = true
    rw [samePs_selfF l, decide_eq_true rfl, decide_eq_true rfl]; rfl
theorem sameP_self (l : List Pat) (n : Nat) (hn : l.length = n) (hl : n ≤ 140737488355328) (A B : Option Addr) (c d : Nat) (w : World) (h1 : PatsAt w A l) (h2 : PatsAt w B l) :
    Calls Tryd.prog 34 #[.slice A n c, .slice B n d] w fun e w' => e = .returned (.bool true) ∧ Below w.heap.size w w' := by
  subst hn
  have h := sameP_any A B c d l l w hl hl h1 h2
  rw [samePs_selfF] at h
  exact h
/-- How many of the first k patterns match a head. -/
def inToF (l : List Pat) (h : Nat → Bool) (k : Nat) : Nat := cntP (l.take k) h
theorem inToF_next {l : List Pat} {h : Nat → Bool} {k : Nat} {p : Pat} (hp : l[k]? = some p) : inToF l h (k + 1) = inToF l h k + (decide (p.fits h)).toNat := by
  obtain ⟨hk, e⟩ := List.getElem?_eq_some_iff.1 hp
  unfold inToF cntP
  rw [List.take_succ_eq_append_getElem hk, List.countP_append, e]
  cases hd : decide (p.fits h)
  · rw [List.countP_cons_of_neg (by rw [hd]; decide)]; rfl
  · rw [List.countP_cons_of_pos (by exact hd)]; rfl
theorem inToF_le (l : List Pat) (h : Nat → Bool) (k : Nat) : inToF l h k ≤ k := Nat.le_trans List.countP_le_length (by rw [List.length_take]; omega)
def PartRel (m n : Nat) (w0 : World) (pv iv : Value) (wr : World) : Prop := ∃ k N : Nat, m ≤ k ∧ k ≤ n ∧ 2 ^ (k - m) = N ∧ pv = .int .i64 (N : Int) ∧ iv = .int .i64 (k : Int) ∧ Below w0.heap.size w0 wr
def CntRel (l : List Pat) (h : Nat → Bool) (n : Nat) (w0 : World) (v iv : Value) (wr : World) : Prop := ∃ (k : Nat) (N : Int), k ≤ n ∧ ((inToF l h k : Nat) : Int) = N ∧ v = .int .i64 N ∧ iv = .int .i64 (k : Int) ∧ Below w0.heap.size w0 wr
theorem range_self (s : ByteArray) (a n lo hi N : Nat) (w : World) (h : Lies a n) (hhi : hi < 2 ^ n) (hN : (rangeF a n lo hi).length = N) :
    Calls Tryd.prog 30 #[.agg #[.string s, .int .i64 (a : Int), .int .i64 (n : Int)], .int .i64 (lo : Int), .int .i64 (hi : Int)] w fun e w' => ∃ A c, (e = .returned (.slice A N c) ∧ PatsAt w' A (rangeF a n lo hi)) ∧ Below w.heap.size w w' := by
  subst hN; exact frange_any s a n lo hi w h hhi
theorem rrange_self (s : ByteArray) (a n lo hi N : Nat) (w : World) (h : Lies a n) (hhi : hi < 2 ^ n) (hN : (rangeF a n lo hi).length = N) :
    Calls Tryd.prog 35 #[.agg #[.string s, .int .i64 (a : Int), .int .i64 (n : Int)], .int .i64 (lo : Int), .int .i64 (hi : Int)] w fun e w' => ∃ A c, (e = .returned (.slice A N c) ∧ PatsAt w' A (rangeF a n lo hi)) ∧ Below w.heap.size w w' := by
  subst hN; exact rfrange_any s a n lo hi w h hhi
set_option maxRecDepth 100000 in
set_option maxHeartbeats 12800000 in
theorem matchBad_any (s : ByteArray) (a n x m lo hi : Int) (hl : List Int) (w : World) (hl10 : hl.length = 10) (hs : s.size ≤ 9223372036854775807) (hQ : QF w) (hb : ¬ (rightF ⟨s, a, n⟩ ∧ rightI hl)) :
    Calls Tryd.prog 6 #[.agg #[.string s, .int .i64 a, .int .i64 n], .agg (hl.map iV).toArray, .int .i64 x, .int .i64 m, .int .i64 lo, .int .i64 hi] w fun e w' => e = .returned (.bool true) ∧ Below w.heap.size w w' := by
  have HSA := Lib.hid (fun w h => sanity_any w h)
  have HQ := Lib.hid hQ
  have HR1 := Lib.hid (fun w => rright8_any s a n w hs)
  have HR3 := Lib.hid (fun w => rrightHead_any hl w hl10)
  clear hQ
  by_cases h1 : rightF ⟨s, a, n⟩
  · have h2 : ¬ rightI hl := fun k => hb ⟨h1, k⟩
    rw [decide_eq_true h1] at HR1
    rw [decide_eq_false h2] at HR3
    clear h1 h2 hb
    go_enter Tryd.func6, Tryd.ntmps6
    go_wp2_with (with_reducible refine wpList_box (o := ⟨some 6, .box 33 (.tmp 0), _, _, _, _⟩) ?g6qaa 33 (.tmp 0) ?o6qaa (.agg #[.string s, .int .i64 a, .int .i64 n]) [Value.string s, .int .i64 a, .int .i64 n] ?x6qaa ?c6qaa ?_)
    try (case g6qaa => rfl)
    try (case o6qaa => rfl)
    try (case x6qaa => rfl)
    try (case c6qaa => rfl)
    intro g6 w1 hg6 hs1 hb1 B6
    have hl6 : w.heap.size ≤ g6 := Nat.le_of_eq hg6.out.symm
    have hb1 := hb1.mono (Nat.le_of_eq hg6.out.symm)
    have hbe : Below w.heap.size w w1 := hb1
    clear hb1 hg6 hs1
    go_wp2_with (with_reducible refine wpList_box (o := ⟨some 7, .box 30 (.tmp 1), _, _, _, _⟩) ?g7qab 30 (.tmp 1) ?o7qab (.agg (hl.map iV).toArray) (hl.map iV) ?x7qab ?c7qab ?_)
    try (case g7qab => rfl)
    try (case o7qab => rfl)
    try (case x7qab => rfl)
    try (case c7qab => rfl)
    intro g7 w2 hg7 hs2 hb2 B7
    have hl7 : w.heap.size ≤ g7 := Nat.le_trans hbe.size (Nat.le_of_eq hg7.out.symm)
    have ne6_7 : g6 ≠ g7 := by have := B6.lt; have := hg7.out; omega
    have ne7_6 := ne6_7.symm
    have hb2 := hb2.mono (Nat.le_of_eq hg7.out.symm)
    have B6 := B6.next hb2 B6.lt
    have hbe := below_join hbe hb2
    clear hb2 hg7 hs2
    have z6_0 := B6.cell (k := 0) rfl
    have z6_1 := B6.cell (k := 1) rfl
    have z6_2 := B6.cell (k := 2) rfl
    go_wp2_with fail
    (with_reducible refine (HR1.out _).mono ?_)
    rintro e w3 ⟨rfl, hb3⟩
    clear z6_0 z6_1 z6_2
    have B6 := B6.next hb3 B6.lt
    have B7 := B7.next hb3 B7.lt
    have hbe := below_join hbe hb3
    clear hb3
    go_wp2_with (first | (with_reducible refine wpList_getg (o := ⟨some 28, .load 30 (.tmp 7), _, _, _, _⟩) (by with_unfolding_all rfl) 30 (.tmp 7) (by with_unfolding_all rfl) g7 0 (by with_unfolding_all rfl) B7 (hl.map iV) (cs_all _) _ (by exact Tryd.underlying30) (by with_unfolding_all rfl) (by first | (rw [H_length]; exact Tryd.szH) | (rw [List.length_map, hl10]; exact Tryd.szH)) ?_))
    (with_reducible refine (HR3.out _).mono ?_)
    rintro e w4 ⟨rfl, hb4⟩
    have B6 := B6.next hb4 B6.lt
    have B7 := B7.next hb4 B7.lt
    have hbe := below_join hbe hb4
    clear hb4
    go_wp2_with fail
    (with_reducible refine (HSA.out _ (HQ.out.next hbe)).mono ?_)
    rintro e w5 ⟨rfl, hb5⟩
    have B6 := B6.next hb5 B6.lt
    have B7 := B7.next hb5 B7.lt
    have hbe := below_join hbe hb5
    clear hb5
    go_wp2
    go_ret
    exact ⟨rfl, hbe⟩
  · rw [decide_eq_false h1] at HR1
    obtain ⟨C3, hC3⟩ : ∃ C, decide (rightI hl) = C := ⟨_, rfl⟩
    rw [hC3] at HR3
    clear h1 hC3 hb
    go_enter Tryd.func6, Tryd.ntmps6
    go_wp2_with (with_reducible refine wpList_box (o := ⟨some 6, .box 33 (.tmp 0), _, _, _, _⟩) ?g6qac 33 (.tmp 0) ?o6qac (.agg #[.string s, .int .i64 a, .int .i64 n]) [Value.string s, .int .i64 a, .int .i64 n] ?x6qac ?c6qac ?_)
    try (case g6qac => rfl)
    try (case o6qac => rfl)
    try (case x6qac => rfl)
    try (case c6qac => rfl)
    intro g6 w1 hg6 hs1 hb1 B6
    have hl6 : w.heap.size ≤ g6 := Nat.le_of_eq hg6.out.symm
    have hb1 := hb1.mono (Nat.le_of_eq hg6.out.symm)
    have hbe : Below w.heap.size w w1 := hb1
    clear hb1 hg6 hs1
    go_wp2_with (with_reducible refine wpList_box (o := ⟨some 7, .box 30 (.tmp 1), _, _, _, _⟩) ?g7qad 30 (.tmp 1) ?o7qad (.agg (hl.map iV).toArray) (hl.map iV) ?x7qad ?c7qad ?_)
    try (case g7qad => rfl)
    try (case o7qad => rfl)
    try (case x7qad => rfl)
    try (case c7qad => rfl)
    intro g7 w2 hg7 hs2 hb2 B7
    have hl7 : w.heap.size ≤ g7 := Nat.le_trans hbe.size (Nat.le_of_eq hg7.out.symm)
    have ne6_7 : g6 ≠ g7 := by have := B6.lt; have := hg7.out; omega
    have ne7_6 := ne6_7.symm
    have hb2 := hb2.mono (Nat.le_of_eq hg7.out.symm)
    have B6 := B6.next hb2 B6.lt
    have hbe := below_join hbe hb2
    clear hb2 hg7 hs2
    have z6_0 := B6.cell (k := 0) rfl
    have z6_1 := B6.cell (k := 1) rfl
    have z6_2 := B6.cell (k := 2) rfl
    go_wp2_with fail
    (with_reducible refine (HR1.out _).mono ?_)
    rintro e w3 ⟨rfl, hb3⟩
    clear z6_0 z6_1 z6_2
    have B6 := B6.next hb3 B6.lt
    have B7 := B7.next hb3 B7.lt
    have hbe := below_join hbe hb3
    clear hb3
    go_wp2_with (first | (with_reducible refine wpList_getg (o := ⟨some 28, .load 30 (.tmp 7), _, _, _, _⟩) (by with_unfolding_all rfl) 30 (.tmp 7) (by with_unfolding_all rfl) g7 0 (by with_unfolding_all rfl) B7 (hl.map iV) (cs_all _) _ (by exact Tryd.underlying30) (by with_unfolding_all rfl) (by first | (rw [H_length]; exact Tryd.szH) | (rw [List.length_map, hl10]; exact Tryd.szH)) ?_))
    (with_reducible refine (HR3.out _).mono ?_)
    rintro e w4 ⟨rfl, hb4⟩
    have B6 := B6.next hb4 B6.lt
    have B7 := B7.next hb4 B7.lt
    have hbe := below_join hbe hb4
    clear hb4
    go_wp2_with fail
    (with_reducible refine (HSA.out _ (HQ.out.next hbe)).mono ?_)
    rintro e w5 ⟨rfl, hb5⟩
    have B6 := B6.next hb5 B6.lt
    have B7 := B7.next hb5 B7.lt
    have hbe := below_join hbe hb5
    clear hb5
    go_wp2
    go_ret
    exact ⟨rfl, hbe⟩
set_option maxRecDepth 100000 in
set_option maxHeartbeats 25600000 in
theorem matchGood_any (s : ByteArray) (a n : Nat) (x m lo hi : Int) (h : Nat → Bool) (w : World) (hs : s.size ≤ 9223372036854775807) (hQ : QF w) (hLf : Lies a n) (hr1 : rightF ⟨s, (a : Int), (n : Int)⟩) :
    Calls Tryd.prog 6 #[.agg #[.string s, .int .i64 (a : Int), .int .i64 (n : Int)], .agg (H h).toArray, .int .i64 x, .int .i64 m, .int .i64 lo, .int .i64 hi] w fun e w' => e = .returned (.bool true) ∧ Below w.heap.size w w' := by
  have HSA := Lib.hid (fun w h => sanity_any w h)
  have HQ := Lib.hid hQ
  have HR1 := Lib.hid (fun w => rright8_any s a n w hs)
  rw [decide_eq_true hr1] at HR1
  have HR3 := Lib.hid (fun w => rrightHead_any (HI h) w (HI_length h))
  rw [decide_eq_true (rightI_HI h), show (HI h).map iV = H h from (H_iV h).symm] at HR3
  have HMX := Lib.hid (fun w => rmax_any s a n w hLf)
  have hp := hLf.pow
  have hp0 := Nat.two_pow_pos n
  have hn16 := hLf.le
  have hn1 := hLf.one
  clear hQ hr1
  obtain ⟨M, hM⟩ : ∃ M, 2 ^ n - 1 = M := ⟨_, rfl⟩
  rw [hM] at HMX
  go_enter Tryd.func6, Tryd.ntmps6
  go_wp2_with (with_reducible refine wpList_box (o := ⟨some 6, .box 33 (.tmp 0), _, _, _, _⟩) ?g6qae 33 (.tmp 0) ?o6qae (.agg #[.string s, .int .i64 (a : Int), .int .i64 (n : Int)]) [Value.string s, .int .i64 (a : Int), .int .i64 (n : Int)] ?x6qae ?c6qae ?_)
  try (case g6qae => rfl)
  try (case o6qae => rfl)
  try (case x6qae => rfl)
  try (case c6qae => rfl)
  intro g6 w1 hg6 hs1 hb1 B6
  have hl6 : w.heap.size ≤ g6 := Nat.le_of_eq hg6.out.symm
  have hb1 := hb1.mono (Nat.le_of_eq hg6.out.symm)
  have hbe : Below w.heap.size w w1 := hb1
  clear hb1 hg6 hs1
  go_wp2_with (with_reducible refine wpList_box (o := ⟨some 7, .box 30 (.tmp 1), _, _, _, _⟩) ?g7qaf 30 (.tmp 1) ?o7qaf (.agg (H h).toArray) (H h) ?x7qaf ?c7qaf ?_)
  try (case g7qaf => rfl)
  try (case o7qaf => rfl)
  try (case x7qaf => rfl)
  try (case c7qaf => rfl)
  intro g7 w2 hg7 hs2 hb2 B7
  have hl7 : w.heap.size ≤ g7 := Nat.le_trans hbe.size (Nat.le_of_eq hg7.out.symm)
  have ne6_7 : g6 ≠ g7 := by have := B6.lt; have := hg7.out; omega
  have ne7_6 := ne6_7.symm
  have hb2 := hb2.mono (Nat.le_of_eq hg7.out.symm)
  have B6 := B6.next hb2 B6.lt
  have hbe := below_join hbe hb2
  clear hb2 hg7 hs2
  have z6_0 := B6.cell (k := 0) rfl
  have z6_1 := B6.cell (k := 1) rfl
  have z6_2 := B6.cell (k := 2) rfl
  go_wp2_with fail
  (with_reducible refine (HR1.out _).mono ?_)
  rintro e w3 ⟨rfl, hb3⟩
  clear z6_0 z6_1 z6_2
  have B6 := B6.next hb3 B6.lt
  have B7 := B7.next hb3 B7.lt
  have hbe := below_join hbe hb3
  clear hb3
  go_wp2_with (first | (with_reducible refine wpList_getg (o := ⟨some 28, .load 30 (.tmp 7), _, _, _, _⟩) (by with_unfolding_all rfl) 30 (.tmp 7) (by with_unfolding_all rfl) g7 0 (by with_unfolding_all rfl) B7 (H h) (cs_all _) _ (by exact Tryd.underlying30) (by with_unfolding_all rfl) (by first | (rw [H_length]; exact Tryd.szH) | (rw [List.length_map, hl10]; exact Tryd.szH)) ?_))
  (with_reducible refine (HR3.out _).mono ?_)
  rintro e w4 ⟨rfl, hb4⟩
  have B6 := B6.next hb4 B6.lt
  have B7 := B7.next hb4 B7.lt
  have hbe := below_join hbe hb4
  clear hb4
  have z6_0 := B6.cell (k := 0) rfl
  have z6_1 := B6.cell (k := 1) rfl
  have z6_2 := B6.cell (k := 2) rfl
  go_wp2_with fail
  (with_reducible refine (HMX.out _).mono ?_)
  rintro e w5 ⟨rfl, hb5⟩
  clear z6_0 z6_1 z6_2
  have B6 := B6.next hb5 B6.lt
  have B7 := B7.next hb5 B7.lt
  have hbe := below_join hbe hb5
  clear hb5
  clear HR1 HR3 HMX
  by_cases l_x : x < 0
  · skip
    have l_xd : decide (x < 0) = true := decide_eq_true l_x
    have z6_2 := B6.cell (k := 2) rfl
    go_wp2_with fail
    (with_reducible refine (HSA.out _ (HQ.out.next hbe)).mono ?_)
    rintro e w6 ⟨rfl, hb6⟩
    clear z6_2
    have B6 := B6.next hb6 B6.lt
    have B7 := B7.next hb6 B7.lt
    have hbe := below_join hbe hb6
    clear hb6
    go_wp2
    go_ret
    exact ⟨rfl, hbe⟩
  · skip
    obtain ⟨X, hX⟩ : ∃ X : Nat, x = (X : Int) := ⟨x.toNat, by omega⟩
    subst hX
    have l_xd : decide (((X : Nat) : Int) < 0) = false := decide_eq_false (by omega)
    clear l_x
    by_cases u_X : M < X
    · skip
      have u_Xd : decide ((X : Int) > (M : Int)) = true := decide_eq_true (by omega)
      have u_Xe : decide ((M : Int) < (X : Int)) = true := decide_eq_true (by omega)
      have u_Xf : decide (M < X) = true := decide_eq_true (by omega)
      have z6_2 := B6.cell (k := 2) rfl
      go_wp2_with fail
      (with_reducible refine (HSA.out _ (HQ.out.next hbe)).mono ?_)
      rintro e w6 ⟨rfl, hb6⟩
      clear z6_2
      have B6 := B6.next hb6 B6.lt
      have B7 := B7.next hb6 B7.lt
      have hbe := below_join hbe hb6
      clear hb6
      go_wp2
      go_ret
      exact ⟨rfl, hbe⟩
    · skip
      have u_Xd : decide ((X : Int) > (M : Int)) = false := decide_eq_false (by omega)
      have u_Xe : decide ((M : Int) < (X : Int)) = false := decide_eq_false (by omega)
      have u_Xf : decide (M < X) = false := decide_eq_false (by omega)
      by_cases l_lo : lo < 0
      · skip
        have l_lod : decide (lo < 0) = true := decide_eq_true l_lo
        have z6_2 := B6.cell (k := 2) rfl
        go_wp2_with fail
        (with_reducible refine (HSA.out _ (HQ.out.next hbe)).mono ?_)
        rintro e w6 ⟨rfl, hb6⟩
        clear z6_2
        have B6 := B6.next hb6 B6.lt
        have B7 := B7.next hb6 B7.lt
        have hbe := below_join hbe hb6
        clear hb6
        go_wp2
        go_ret
        exact ⟨rfl, hbe⟩
      · skip
        obtain ⟨LO, hLO⟩ : ∃ LO : Nat, lo = (LO : Int) := ⟨lo.toNat, by omega⟩
        subst hLO
        have l_lod : decide (((LO : Nat) : Int) < 0) = false := decide_eq_false (by omega)
        clear l_lo
        by_cases u_LO : M < LO
        · skip
          have u_LOd : decide ((LO : Int) > (M : Int)) = true := decide_eq_true (by omega)
          have u_LOe : decide ((M : Int) < (LO : Int)) = true := decide_eq_true (by omega)
          have u_LOf : decide (M < LO) = true := decide_eq_true (by omega)
          have z6_2 := B6.cell (k := 2) rfl
          go_wp2_with fail
          (with_reducible refine (HSA.out _ (HQ.out.next hbe)).mono ?_)
          rintro e w6 ⟨rfl, hb6⟩
          clear z6_2
          have B6 := B6.next hb6 B6.lt
          have B7 := B7.next hb6 B7.lt
          have hbe := below_join hbe hb6
          clear hb6
          go_wp2
          go_ret
          exact ⟨rfl, hbe⟩
        · skip
          have u_LOd : decide ((LO : Int) > (M : Int)) = false := decide_eq_false (by omega)
          have u_LOe : decide ((M : Int) < (LO : Int)) = false := decide_eq_false (by omega)
          have u_LOf : decide (M < LO) = false := decide_eq_false (by omega)
          by_cases l_hi : hi < 0
          · skip
            have l_hid : decide (hi < 0) = true := decide_eq_true l_hi
            have z6_2 := B6.cell (k := 2) rfl
            go_wp2_with fail
            (with_reducible refine (HSA.out _ (HQ.out.next hbe)).mono ?_)
            rintro e w6 ⟨rfl, hb6⟩
            clear z6_2
            have B6 := B6.next hb6 B6.lt
            have B7 := B7.next hb6 B7.lt
            have hbe := below_join hbe hb6
            clear hb6
            go_wp2
            go_ret
            exact ⟨rfl, hbe⟩
          · skip
            obtain ⟨HH, hHH⟩ : ∃ HH : Nat, hi = (HH : Int) := ⟨hi.toNat, by omega⟩
            subst hHH
            have l_hid : decide (((HH : Nat) : Int) < 0) = false := decide_eq_false (by omega)
            clear l_hi
            by_cases u_HH : M < HH
            · skip
              have u_HHd : decide ((HH : Int) > (M : Int)) = true := decide_eq_true (by omega)
              have u_HHe : decide ((M : Int) < (HH : Int)) = true := decide_eq_true (by omega)
              have u_HHf : decide (M < HH) = true := decide_eq_true (by omega)
              have z6_2 := B6.cell (k := 2) rfl
              go_wp2_with fail
              (with_reducible refine (HSA.out _ (HQ.out.next hbe)).mono ?_)
              rintro e w6 ⟨rfl, hb6⟩
              clear z6_2
              have B6 := B6.next hb6 B6.lt
              have B7 := B7.next hb6 B7.lt
              have hbe := below_join hbe hb6
              clear hb6
              go_wp2
              go_ret
              exact ⟨rfl, hbe⟩
            · skip
              have u_HHd : decide ((HH : Int) > (M : Int)) = false := decide_eq_false (by omega)
              have u_HHe : decide ((M : Int) < (HH : Int)) = false := decide_eq_false (by omega)
              have u_HHf : decide (M < HH) = false := decide_eq_false (by omega)
              by_cases l_m : m < 0
              · skip
                have l_md : decide (m < 0) = true := decide_eq_true l_m
                have z6_2 := B6.cell (k := 2) rfl
                go_wp2_with fail
                (with_reducible refine (HSA.out _ (HQ.out.next hbe)).mono ?_)
                rintro e w6 ⟨rfl, hb6⟩
                clear z6_2
                have B6 := B6.next hb6 B6.lt
                have B7 := B7.next hb6 B7.lt
                have hbe := below_join hbe hb6
                clear hb6
                go_wp2
                go_ret
                exact ⟨rfl, hbe⟩
              · skip
                obtain ⟨K, hK⟩ : ∃ K : Nat, m = (K : Int) := ⟨m.toNat, by omega⟩
                subst hK
                have l_md : decide (((K : Nat) : Int) < 0) = false := decide_eq_false (by omega)
                clear l_m
                by_cases u_K : n < K
                · skip
                  have u_Kd : decide ((K : Int) > (n : Int)) = true := decide_eq_true (by omega)
                  have u_Ke : decide ((n : Int) < (K : Int)) = true := decide_eq_true (by omega)
                  have u_Kf : decide (n < K) = true := decide_eq_true (by omega)
                  have z6_2 := B6.cell (k := 2) rfl
                  go_wp2_with fail
                  (with_reducible refine (HSA.out _ (HQ.out.next hbe)).mono ?_)
                  rintro e w6 ⟨rfl, hb6⟩
                  clear z6_2
                  have B6 := B6.next hb6 B6.lt
                  have B7 := B7.next hb6 B7.lt
                  have hbe := below_join hbe hb6
                  clear hb6
                  go_wp2
                  go_ret
                  exact ⟨rfl, hbe⟩
                · skip
                  have u_Kd : decide ((K : Int) > (n : Int)) = false := decide_eq_false (by omega)
                  have u_Ke : decide ((n : Int) < (K : Int)) = false := decide_eq_false (by omega)
                  have u_Kf : decide (n < K) = false := decide_eq_false (by omega)
                  have hXp : X < 2 ^ n := by omega
                  have hHp : HH < 2 ^ n := by omega
                  have hKn : K ≤ n := by omega
                  have HEQ := Lib.hid (fun w => equal_any s a n X w hLf hXp)
                  have HEQ2 := Lib.hid (fun w => requal_any s a n X w hLf hXp)
                  have HPR := Lib.hid (fun w => prefix_any s a n X K w hLf hXp hKn)
                  have HPR2 := Lib.hid (fun w => rprefix2_any s a n X K w hLf hXp hKn)
                  have HMO := Lib.hid (fun w => mod_any s a n X w hLf hXp)
                  have HMO2 := Lib.hid (fun w => rmod_any s a n X w hLf hXp)
                  have hfew := rangeF_few (lo := LO) hLf hHp
                  have hcnt := rangeF_count (lo := LO) h hLf hHp
                  obtain ⟨N, hN⟩ : ∃ N, (rangeF a n LO HH).length = N := ⟨_, rfl⟩
                  have HRG := Lib.hid (fun w => range_self s a n LO HH N w hLf hHp hN)
                  have HRG2 := Lib.hid (fun w => rrange_self s a n LO HH N w hLf hHp hN)
                  obtain ⟨L, hL⟩ : ∃ L, rangeF a n LO HH = L := ⟨_, rfl⟩
                  rw [hL] at HRG HRG2 hcnt hN
                  rw [hL, hN] at hfew
                  have hN31 : N ≤ 31 := by omega
                  have hNi : (N : Int) ≤ 31 := by omega
                  have HSP := Lib.hid (fun A B c d w h1 h2 => sameP_self L N hN (by omega) A B c d w h1 h2)
                  have HGT := Lib.hid (fun w => get_any s a n h w hLf)
                  have HSE := Lib.hid (fun w => set_any s a n X h w hLf hXp)
                  obtain ⟨P, hP⟩ : ∃ P, Pat.pre a n X n = P := ⟨_, rfl⟩
                  obtain ⟨Q, hQd⟩ : ∃ Q, Pat.pre a n X K = Q := ⟨_, rfl⟩
                  have HAP := Lib.hid (fun w => apply_any P h w)
                  have e1 : P.app h = setF a n X h := by rw [← hP]; rfl
                  rw [e1] at HAP
                  obtain ⟨F, hF⟩ : ∃ F, setF a n X h = F := ⟨_, rfl⟩
                  rw [hF] at HAP HSE
                  have f1 := fits_pre (x := X) h hLf (Nat.le_refl n) hXp
                  have f2 := fits_pre (x := X) h hLf hKn hXp
                  rw [Nat.sub_self, Nat.pow_zero, Nat.div_one, Nat.div_one, hP] at f1
                  rw [hQd] at f2
                  rw [hP] at HEQ HEQ2 HMO HMO2
                  rw [hQd] at HPR HPR2
                  have HMP := Lib.hid (fun w => match_any P h w)
                  have HMQ := Lib.hid (fun w => match_any Q h w)
                  have HMA := Lib.hid (fun p w => match_any p h w)
                  rw [f1] at HMP
                  rw [f2] at HMQ
                  have hVl := fieldN_lt h a n
                  obtain ⟨V, hV⟩ : ∃ V, fieldN h a n = V := ⟨_, rfl⟩
                  rw [hV] at HGT hcnt HMP HMQ hVl
                  obtain ⟨PW, hPW⟩ : ∃ PW, 2 ^ (n - K) = PW := ⟨_, rfl⟩
                  rw [hPW] at HMQ
                  have hPW0 : 0 < PW := by rw [← hPW]; exact Nat.two_pow_pos _
                  have hPWl : PW ≤ 65536 := by rw [← hPW]; exact Nat.le_trans (Nat.pow_le_pow_right (by decide) (show n - K ≤ 16 by omega)) (by decide)
                  have hd1 : (V : Int).tdiv (PW : Int) = ((V / PW : Nat) : Int) := by rw [Int.tdiv_eq_ediv_of_nonneg (by omega)]; exact (Int.natCast_ediv V PW).symm
                  have hd2 : (X : Int).tdiv (PW : Int) = ((X / PW : Nat) : Int) := by rw [Int.tdiv_eq_ediv_of_nonneg (by omega)]; exact (Int.natCast_ediv X PW).symm
                  have hq1l : V / PW ≤ V := Nat.div_le_self _ _
                  have hq2l : X / PW ≤ X := Nat.div_le_self _ _
                  obtain ⟨q1, hq1⟩ : ∃ q, V / PW = q := ⟨_, rfl⟩
                  obtain ⟨q2, hq2⟩ : ∃ q, X / PW = q := ⟨_, rfl⟩
                  rw [hq1] at hd1 HMQ hq1l
                  rw [hq2] at hd2 HMQ hq2l
                  have hPWz : ((PW : Int) == 0) = false := beq_eq_false_iff_ne.2 (by omega)
                  have hPWn : ¬ (PW : Int) = 0 := by omega
                  have hPWn' : ¬ PW = 0 := by omega
                  have hwq1 : IntKind.i64.wrap (q1 : Int) = (q1 : Int) := by simp only [IntKind.wrap_i64]; omega
                  have hwq2 : IntKind.i64.wrap (q2 : Int) = (q2 : Int) := by simp only [IntKind.wrap_i64]; omega
                  obtain ⟨E1, hE1⟩ : ∃ E, decide (V = X) = E := ⟨_, rfl⟩
                  obtain ⟨E2, hE2⟩ : ∃ E, decide (q1 = q2) = E := ⟨_, rfl⟩
                  rw [hE1] at HMP
                  rw [hE2] at HMQ
                  have hE1a : (V == X) = E1 := by rw [← hE1]; cases hd : decide (V = X) <;> simp_all
                  have hE1b : ((V : Int) == (X : Int)) = E1 := by rw [← hE1]; cases hd : decide (V = X) <;> simp_all <;> omega
                  have hE1c : decide ((V : Int) = (X : Int)) = E1 := by rw [← hE1]; exact decide_eq_decide.2 (by omega)
                  have hE2a : (q1 == q2) = E2 := by rw [← hE2]; cases hd : decide (q1 = q2) <;> simp_all
                  have hE2b : ((q1 : Int) == (q2 : Int)) = E2 := by rw [← hE2]; cases hd : decide (q1 = q2) <;> simp_all <;> omega
                  have hE2c : decide ((q1 : Int) = (q2 : Int)) = E2 := by rw [← hE2]; exact decide_eq_decide.2 (by omega)
                  have hEE1 : (E1 == E1) = true := by cases E1 <;> rfl
                  have hEE2 : (E2 == E2) = true := by cases E2 <;> rfl
                  obtain ⟨W2, hW2⟩ : ∃ W2 : Int, 2 * (n : Int) = W2 := ⟨_, rfl⟩
                  obtain ⟨T2, hT2⟩ : ∃ T2 : Int, W2 - 2 = T2 := ⟨_, rfl⟩
                  obtain ⟨MX, hMX⟩ : ∃ MX : Int, (if 1 < T2 then T2 else 1) = MX := ⟨_, rfl⟩
                  have hMX3 : (if T2 > 1 then T2 else 1) = MX := hMX
                  have hMX4 : max 1 T2 = MX := by rw [← hMX]; split <;> omega
                  have hNM : (N : Int) ≤ MX := by rw [← hMX]; split <;> omega
                  have hNMd : decide ((N : Int) ≤ MX) = true := decide_eq_true hNM
                  have hwm1 : IntKind.i64.wrap (2 * (n : Int)) = W2 := by simp only [IntKind.wrap_i64]; omega
                  have hwm2 : IntKind.i64.wrap (W2 - 2) = T2 := by simp only [IntKind.wrap_i64]; omega
                  have hnP : ∀ w, (binOp .neq 48 (.agg P.cells.toArray) (.agg P.cells.toArray)).run Tryd.prog w = .ok (.bool false) w := fun w => by rw [neq_pat, decide_eq_true rfl, decide_eq_true rfl]; rfl
                  have hnQ : ∀ w, (binOp .neq 48 (.agg Q.cells.toArray) (.agg Q.cells.toArray)).run Tryd.prog w = .ok (.bool false) w := fun w => by rw [neq_pat, decide_eq_true rfl, decide_eq_true rfl]; rfl
                  have hnM : ∀ w, (binOp .neq 53 (.agg P.cells.toArray) (.agg P.cells.toArray)).run Tryd.prog w = .ok (.bool false) w := fun w => by rw [neq_mod, decide_eq_true rfl, decide_eq_true rfl]; rfl
                  have heF : ∀ w, (binOp .eql 30 (.agg (H F).toArray) (.agg (H F).toArray)).run Tryd.prog w = .ok (.bool true) w := fun w => by rw [eqlH, decide_eq_true rfl]
                  have HC := Lib.hid hcnt
                  have HPWd := Lib.hid hPW
                  have hget : ∀ k, k < N → ∃ p, L[k]? = some p := fun k hk => ⟨_, List.getElem?_eq_getElem (by omega)⟩
                  have HGE := Lib.hid hget
                  have htk : inToF L h N = cntP L h := by unfold inToF; rw [List.take_of_length_le (by omega)]
                  have HTK := Lib.hid htk
                  have HKn := Lib.hid hKn
                  clear e1 f1 f2 hF hP hQd hL hN hV hE1 hE2 hq1 hq2 hcnt hfew hget hPW htk hM hXp hHp hLf hW2 hT2
                  clear hNM
                  have z6_0 := B6.cell (k := 0) rfl
                  have z6_1 := B6.cell (k := 1) rfl
                  have z6_2 := B6.cell (k := 2) rfl
                  go_wp2_with fail
                  (with_reducible refine (HEQ.out _).mono ?_)
                  rintro e w6 ⟨rfl, hb6⟩
                  clear z6_0 z6_1 z6_2
                  have B6 := B6.next hb6 B6.lt
                  have B7 := B7.next hb6 B7.lt
                  have hbe := below_join hbe hb6
                  clear hb6
                  go_wp2_with (with_reducible refine wpList_alloc (o := ⟨some 16, .alloc 48, _, _, _, _⟩) (by with_unfolding_all rfl) 48 (by with_unfolding_all rfl) (.agg (H no ++ H no).toArray) (H no ++ H no) (by exact Tryd.zeroPt) (by with_unfolding_all rfl) ?_)
                  intro g16 w7 hg16 hs7 hb7 B16
                  have hl16 : w.heap.size ≤ g16 := Nat.le_trans hbe.size (Nat.le_of_eq hg16.out.symm)
                  have ne6_16 : g6 ≠ g16 := by have := B6.lt; have := hg16.out; omega
                  have ne16_6 := ne6_16.symm
                  have ne7_16 : g7 ≠ g16 := by have := B7.lt; have := hg16.out; omega
                  have ne16_7 := ne7_16.symm
                  have hb7 := hb7.mono (Nat.le_of_eq hg16.out.symm)
                  have B6 := B6.next hb7 B6.lt
                  have B7 := B7.next hb7 B7.lt
                  have hbe := below_join hbe hb7
                  clear hb7 hg16 hs7
                  go_wp2_with (with_reducible refine wpList_put (o := ⟨none, .store 48 (.tmp 16) (.tmp 77), _, _, _, _⟩) (by with_unfolding_all rfl) 48 (.tmp 16) (.tmp 77) (by with_unfolding_all rfl) g16 0 (by with_unfolding_all rfl) (.agg P.cells.toArray) (by with_unfolding_all rfl) B16 P.cells (by with_unfolding_all rfl) (by with_unfolding_all (first | exact Tryd.szP | (simp only [H_length, Pat.cells_length, List.length_append]; exact Tryd.szP))) (by with_unfolding_all (first | exact Nat.le_refl 3 | (simp only [H_length, Pat.cells_length, List.length_append]; omega))) (by with_unfolding_all (exact cells_one _)) ?_)
                  intro w8 hu8 C16
                  rw [splice_all _ _ (by simp only [Pat.cells_length, List.length_append, H_length])] at C16
                  have B6 := B6.upd hu8 ne6_16
                  have B7 := B7.upd hu8 ne7_16
                  have hbe := hbe.trans (hu8.below (B := w.heap.size) hl16)
                  clear B16 hu8
                  have B16 := C16
                  clear C16
                  have z6_0 := B6.cell (k := 0) rfl
                  have z6_1 := B6.cell (k := 1) rfl
                  have z6_2 := B6.cell (k := 2) rfl
                  go_wp2_with fail
                  (with_reducible refine (HPR.out _).mono ?_)
                  rintro e w9 ⟨rfl, hb9⟩
                  clear z6_0 z6_1 z6_2
                  have B6 := B6.next hb9 B6.lt
                  have B7 := B7.next hb9 B7.lt
                  have B16 := B16.next hb9 B16.lt
                  have hbe := below_join hbe hb9
                  clear hb9
                  go_wp2_with (with_reducible refine wpList_alloc (o := ⟨some 17, .alloc 48, _, _, _, _⟩) (by with_unfolding_all rfl) 48 (by with_unfolding_all rfl) (.agg (H no ++ H no).toArray) (H no ++ H no) (by exact Tryd.zeroPt) (by with_unfolding_all rfl) ?_)
                  intro g17 w10 hg17 hs10 hb10 B17
                  have hl17 : w.heap.size ≤ g17 := Nat.le_trans hbe.size (Nat.le_of_eq hg17.out.symm)
                  have ne6_17 : g6 ≠ g17 := by have := B6.lt; have := hg17.out; omega
                  have ne17_6 := ne6_17.symm
                  have ne7_17 : g7 ≠ g17 := by have := B7.lt; have := hg17.out; omega
                  have ne17_7 := ne7_17.symm
                  have ne16_17 : g16 ≠ g17 := by have := B16.lt; have := hg17.out; omega
                  have ne17_16 := ne16_17.symm
                  have hb10 := hb10.mono (Nat.le_of_eq hg17.out.symm)
                  have B6 := B6.next hb10 B6.lt
                  have B7 := B7.next hb10 B7.lt
                  have B16 := B16.next hb10 B16.lt
                  have hbe := below_join hbe hb10
                  clear hb10 hg17 hs10
                  go_wp2_with (with_reducible refine wpList_put (o := ⟨none, .store 48 (.tmp 17) (.tmp 81), _, _, _, _⟩) (by with_unfolding_all rfl) 48 (.tmp 17) (.tmp 81) (by with_unfolding_all rfl) g17 0 (by with_unfolding_all rfl) (.agg Q.cells.toArray) (by with_unfolding_all rfl) B17 Q.cells (by with_unfolding_all rfl) (by with_unfolding_all (first | exact Tryd.szP | (simp only [H_length, Pat.cells_length, List.length_append]; exact Tryd.szP))) (by with_unfolding_all (first | exact Nat.le_refl 3 | (simp only [H_length, Pat.cells_length, List.length_append]; omega))) (by with_unfolding_all (exact cells_one _)) ?_)
                  intro w11 hu11 C17
                  rw [splice_all _ _ (by simp only [Pat.cells_length, List.length_append, H_length])] at C17
                  have B6 := B6.upd hu11 ne6_17
                  have B7 := B7.upd hu11 ne7_17
                  have B16 := B16.upd hu11 ne16_17
                  have hbe := hbe.trans (hu11.below (B := w.heap.size) hl17)
                  clear B17 hu11
                  have B17 := C17
                  clear C17
                  have z6_0 := B6.cell (k := 0) rfl
                  have z6_1 := B6.cell (k := 1) rfl
                  have z6_2 := B6.cell (k := 2) rfl
                  go_wp2_with fail
                  (with_reducible refine (HRG.out _).mono ?_)
                  rintro e w12 ⟨A1, c1, ⟨rfl, M1⟩, hb12⟩
                  clear z6_0 z6_1 z6_2
                  have B6 := B6.next hb12 B6.lt
                  have B7 := B7.next hb12 B7.lt
                  have B16 := B16.next hb12 B16.lt
                  have B17 := B17.next hb12 B17.lt
                  have hbe := below_join hbe hb12
                  clear hb12
                  have M1 := Lib.hid M1
                  have hch : Below w12.heap.size w12 w12 := Below.refl _ _
                  have z6_0 := B6.cell (k := 0) rfl
                  have z6_1 := B6.cell (k := 1) rfl
                  have z6_2 := B6.cell (k := 2) rfl
                  go_wp2_with fail
                  (with_reducible refine (HMO.out _).mono ?_)
                  rintro e w13 ⟨rfl, hb13⟩
                  clear z6_0 z6_1 z6_2
                  have B6 := B6.next hb13 B6.lt
                  have B7 := B7.next hb13 B7.lt
                  have B16 := B16.next hb13 B16.lt
                  have B17 := B17.next hb13 B17.lt
                  have hch := below_join hch hb13
                  have hbe := below_join hbe hb13
                  clear hb13
                  go_wp2_with (with_reducible refine wpList_alloc (o := ⟨some 19, .alloc 53, _, _, _, _⟩) (by with_unfolding_all rfl) 53 (by with_unfolding_all rfl) (.agg (H no ++ H no).toArray) (H no ++ H no) (by exact Tryd.zeroMd) (by with_unfolding_all rfl) ?_)
                  intro g19 w14 hg19 hs14 hb14 B19
                  have hm19 : w12.heap.size ≤ g19 := Nat.le_trans hch.size (Nat.le_of_eq hg19.out.symm)
                  have hl19 : w.heap.size ≤ g19 := Nat.le_trans hbe.size (Nat.le_of_eq hg19.out.symm)
                  have ne6_19 : g6 ≠ g19 := by have := B6.lt; have := hg19.out; omega
                  have ne19_6 := ne6_19.symm
                  have ne7_19 : g7 ≠ g19 := by have := B7.lt; have := hg19.out; omega
                  have ne19_7 := ne7_19.symm
                  have ne16_19 : g16 ≠ g19 := by have := B16.lt; have := hg19.out; omega
                  have ne19_16 := ne16_19.symm
                  have ne17_19 : g17 ≠ g19 := by have := B17.lt; have := hg19.out; omega
                  have ne19_17 := ne17_19.symm
                  have hb14 := hb14.mono (Nat.le_of_eq hg19.out.symm)
                  have B6 := B6.next hb14 B6.lt
                  have B7 := B7.next hb14 B7.lt
                  have B16 := B16.next hb14 B16.lt
                  have B17 := B17.next hb14 B17.lt
                  have hch := below_join hch hb14
                  have hbe := below_join hbe hb14
                  clear hb14 hg19 hs14
                  go_wp2_with (with_reducible refine wpList_put (o := ⟨none, .store 53 (.tmp 19) (.tmp 88), _, _, _, _⟩) (by with_unfolding_all rfl) 53 (.tmp 19) (.tmp 88) (by with_unfolding_all rfl) g19 0 (by with_unfolding_all rfl) (.agg P.cells.toArray) (by with_unfolding_all rfl) B19 P.cells (by with_unfolding_all rfl) (by with_unfolding_all (first | exact Tryd.szM | (simp only [H_length, Pat.cells_length, List.length_append]; exact Tryd.szM))) (by with_unfolding_all (first | exact Nat.le_refl 3 | (simp only [H_length, Pat.cells_length, List.length_append]; omega))) (by with_unfolding_all (exact cells_one _)) ?_)
                  intro w15 hu15 C19
                  rw [splice_all _ _ (by simp only [Pat.cells_length, List.length_append, H_length])] at C19
                  have hch := hch.trans (hu15.below (B := w12.heap.size) hm19)
                  have B6 := B6.upd hu15 ne6_19
                  have B7 := B7.upd hu15 ne7_19
                  have B16 := B16.upd hu15 ne16_19
                  have B17 := B17.upd hu15 ne17_19
                  have hbe := hbe.trans (hu15.below (B := w.heap.size) hl19)
                  clear B19 hu15
                  have B19 := C19
                  clear C19
                  have M1 := Lib.hid (M1.out.next hch)
                  clear hch hm19 HEQ HPR HRG HMO
                  go_wp2
                  have hdd := below_drew w15
                  have B6 := B6.next hdd B6.lt
                  have B7 := B7.next hdd B7.lt
                  have B16 := B16.next hdd B16.lt
                  have B17 := B17.next hdd B17.lt
                  have B19 := B19.next hdd B19.lt
                  have M1 := Lib.hid (M1.out.next hdd)
                  have hbe := below_join hbe hdd
                  have zz16_1 : (Tryd.prog.info? 48).map (·.size) = some P.cells.length := (by first | exact Tryd.szP | (simp only [H_length, Pat.cells_length, List.length_append]; exact Tryd.szP))
                  have zz6_2 : (Tryd.prog.info? 33).map (·.size) = some [Value.string s, .int .i64 (a : Int), .int .i64 (n : Int)].length := (by first | exact Tryd.szF | (simp only [H_length, Pat.cells_length, List.length_append]; exact Tryd.szF))
                  have zz17_3 : (Tryd.prog.info? 48).map (·.size) = some Q.cells.length := (by first | exact Tryd.szP | (simp only [H_length, Pat.cells_length, List.length_append]; exact Tryd.szP))
                  have zz19_4 : (Tryd.prog.info? 53).map (·.size) = some P.cells.length := (by first | exact Tryd.szM | (simp only [H_length, Pat.cells_length, List.length_append]; exact Tryd.szM))
                  refine wp_region_held_drew (S := fun w' => w'.rangeAt g16 0 P.cells ∧ w'.rangeAt g6 0 [Value.string s, .int .i64 (a : Int), .int .i64 (n : Int)] ∧ w'.rangeAt g17 0 Q.cells ∧ w'.rangeAt g19 0 P.cells) (by kernel_rfl) ⟨blk_range B16, blk_range B6, blk_range B17, blk_range B19⟩ (fun hHeld => ?_)
                  clear hdd
                  generalize w15.drew = w16 at B6 B7 B16 B17 B19 hbe hHeld M1 ⊢
                  refine' wpAnyH_take (i := 0) (v := _) rfl (by kernel_rfl) (by kernel_rfl) (by kernel_rfl) (fun _ _ _ h => h) (yieldsIf_load_mid (by rfl) _ _ (by rfl) _ _ (by rfl) _ _ ?Sqag0 ?uqag0 ?dqag0 ?iqag0) (by assumption) ?rqag0
                  case Sqag0 => exact (by intro w h; exact h.1)
                  case uqag0 => exact Tryd.underlying48
                  case dqag0 => rfl
                  case iqag0 => exact zz16_1
                  (try simp only [List.getElem_toArray, List.getElem_cons_zero, Act.put, List.setIfInBounds_toArray, List.set_cons_zero, List.set_cons_succ])
                  refine' wpAnyH_take (i := 1) (v := _) rfl (by kernel_rfl) (by kernel_rfl) (by kernel_rfl) (fun _ _ _ h => h) (yieldsIf_load_mid (by rfl) _ _ (by rfl) _ _ (by rfl) _ _ ?Sqag1 ?uqag1 ?dqag1 ?iqag1) (by assumption) ?rqag1
                  case Sqag1 => exact (by intro w h; exact h.2.1)
                  case uqag1 => exact Tryd.underlying33
                  case dqag1 => rfl
                  case iqag1 => exact zz6_2
                  (try simp only [List.getElem_toArray, List.getElem_cons_succ, List.getElem_cons_zero, Act.put, List.setIfInBounds_toArray, List.set_cons_zero, List.set_cons_succ])
                  refine wpAnyH_take (i := 2) (v := ?vqag2) rfl (by kernel_rfl) (by kernel_rfl) (by kernel_rfl) (fun _ _ _ h => h) (Or.inl ⟨by rfl, ?yqag2⟩) (by assumption) ?rqag2
                  case yqag2 => intro w hSw; (try dsimp only at hSw); go_simp <;> (try with_reducible rfl)
                  (try simp only [List.getElem_toArray, List.getElem_cons_succ, List.getElem_cons_zero, Act.put, List.setIfInBounds_toArray, List.set_cons_zero, List.set_cons_succ])
                  refine wpAnyH_ready (rs := [3]) (by kernel_rfl) (by simp) ?_
                  refine AllReadyH.cons rfl (fun K hK => ?_) AllReadyH.nil
                  go_simp
                  go_wp2_with fail
                  (with_reducible refine (HEQ2.out _).mono ?_)
                  rintro e w17 ⟨rfl, hb17⟩
                  have B6 := B6.next hb17 B6.lt
                  have B7 := B7.next hb17 B7.lt
                  have B16 := B16.next hb17 B16.lt
                  have B17 := B17.next hb17 B17.lt
                  have B19 := B19.next hb17 B19.lt
                  have M1 := Lib.hid (M1.out.next hb17)
                  have hbe := below_join hbe hb17
                  refine hK.out _ _ ⟨blk_range B16, blk_range B6, blk_range B17, blk_range B19⟩ (fun hHeld => ?_)
                  clear hK K hb17
                  refine wpAnyH_take (i := 4) (v := ?vqag4) rfl (by kernel_rfl) (by kernel_rfl) (by kernel_rfl) (fun _ _ _ h => h) (Or.inl ⟨by rfl, ?yqag4⟩) (by assumption) ?rqag4
                  case yqag4 => intro w hSw; (try dsimp only at hSw); go_simp <;> (try with_reducible rfl)
                  (try simp only [List.getElem_toArray, List.getElem_cons_succ, List.getElem_cons_zero, Act.put, List.setIfInBounds_toArray, List.set_cons_zero, List.set_cons_succ])
                  refine wpAnyH_take (i := 5) (v := ?vqag5) rfl (by kernel_rfl) (by kernel_rfl) (by kernel_rfl) (fun _ _ _ h => h) (Or.inl ⟨by rfl, ?yqag5⟩) (by assumption) ?rqag5
                  case yqag5 => intro w hSw; (try dsimp only at hSw); go_simp <;> (try with_reducible rfl)
                  (try simp only [List.getElem_toArray, List.getElem_cons_succ, List.getElem_cons_zero, Act.put, List.setIfInBounds_toArray, List.set_cons_zero, List.set_cons_succ])
                  refine' wpAnyH_take (i := 6) (v := _) rfl (by kernel_rfl) (by kernel_rfl) (by kernel_rfl) (fun _ _ _ h => h) (yieldsIf_load_mid (by rfl) _ _ (by rfl) _ _ (by rfl) _ _ ?Sqag6 ?uqag6 ?dqag6 ?iqag6) (by assumption) ?rqag6
                  case Sqag6 => exact (by intro w h; exact h.2.2.1)
                  case uqag6 => exact Tryd.underlying48
                  case dqag6 => rfl
                  case iqag6 => exact zz17_3
                  (try simp only [List.getElem_toArray, List.getElem_cons_succ, List.getElem_cons_zero, Act.put, List.setIfInBounds_toArray, List.set_cons_zero, List.set_cons_succ])
                  refine' wpAnyH_take (i := 7) (v := _) rfl (by kernel_rfl) (by kernel_rfl) (by kernel_rfl) (fun _ _ _ h => h) (yieldsIf_load_mid (by rfl) _ _ (by rfl) _ _ (by rfl) _ _ ?Sqag7 ?uqag7 ?dqag7 ?iqag7) (by assumption) ?rqag7
                  case Sqag7 => exact (by intro w h; exact h.2.1)
                  case uqag7 => exact Tryd.underlying33
                  case dqag7 => rfl
                  case iqag7 => exact zz6_2
                  (try simp only [List.getElem_toArray, List.getElem_cons_succ, List.getElem_cons_zero, Act.put, List.setIfInBounds_toArray, List.set_cons_zero, List.set_cons_succ])
                  refine wpAnyH_take (i := 8) (v := ?vqag8) rfl (by kernel_rfl) (by kernel_rfl) (by kernel_rfl) (fun _ _ _ h => h) (Or.inl ⟨by rfl, ?yqag8⟩) (by assumption) ?rqag8
                  case yqag8 => intro w hSw; (try dsimp only at hSw); go_simp <;> (try with_reducible rfl)
                  (try simp only [List.getElem_toArray, List.getElem_cons_succ, List.getElem_cons_zero, Act.put, List.setIfInBounds_toArray, List.set_cons_zero, List.set_cons_succ])
                  refine wpAnyH_take (i := 9) (v := ?vqag9) rfl (by kernel_rfl) (by kernel_rfl) (by kernel_rfl) (fun _ _ _ h => h) (Or.inl ⟨by rfl, ?yqag9⟩) (by assumption) ?rqag9
                  case yqag9 => intro w hSw; (try dsimp only at hSw); go_simp <;> (try with_reducible rfl)
                  (try simp only [List.getElem_toArray, List.getElem_cons_succ, List.getElem_cons_zero, Act.put, List.setIfInBounds_toArray, List.set_cons_zero, List.set_cons_succ])
                  refine wpAnyH_ready (rs := [10]) (by kernel_rfl) (by simp) ?_
                  refine AllReadyH.cons rfl (fun K hK => ?_) AllReadyH.nil
                  go_simp
                  go_wp2_with fail
                  (with_reducible refine (HPR2.out _).mono ?_)
                  rintro e w18 ⟨rfl, hb18⟩
                  have B6 := B6.next hb18 B6.lt
                  have B7 := B7.next hb18 B7.lt
                  have B16 := B16.next hb18 B16.lt
                  have B17 := B17.next hb18 B17.lt
                  have B19 := B19.next hb18 B19.lt
                  have M1 := Lib.hid (M1.out.next hb18)
                  have hbe := below_join hbe hb18
                  refine hK.out _ _ ⟨blk_range B16, blk_range B6, blk_range B17, blk_range B19⟩ (fun hHeld => ?_)
                  clear hK K hb18
                  refine wpAnyH_take (i := 11) (v := ?vqag11) rfl (by kernel_rfl) (by kernel_rfl) (by kernel_rfl) (fun _ _ _ h => h) (Or.inl ⟨by rfl, ?yqag11⟩) (by assumption) ?rqag11
                  case yqag11 => intro w hSw; (try dsimp only at hSw); go_simp <;> (try with_reducible rfl)
                  (try simp only [List.getElem_toArray, List.getElem_cons_succ, List.getElem_cons_zero, Act.put, List.setIfInBounds_toArray, List.set_cons_zero, List.set_cons_succ])
                  refine wpAnyH_take (i := 12) (v := ?vqag12) rfl (by kernel_rfl) (by kernel_rfl) (by kernel_rfl) (fun _ _ _ h => h) (Or.inl ⟨by rfl, ?yqag12⟩) (by assumption) ?rqag12
                  case yqag12 => intro w hSw; (try dsimp only at hSw); go_simp <;> (try with_reducible rfl)
                  (try simp only [List.getElem_toArray, List.getElem_cons_succ, List.getElem_cons_zero, Act.put, List.setIfInBounds_toArray, List.set_cons_zero, List.set_cons_succ])
                  refine wpAnyH_take (i := 13) (v := ?vqag13) rfl (by kernel_rfl) (by kernel_rfl) (by kernel_rfl) (fun _ _ _ h => h) (Or.inl ⟨by rfl, ?yqag13⟩) (by assumption) ?rqag13
                  case yqag13 => intro w hSw; (try dsimp only at hSw); go_simp <;> (try with_reducible rfl)
                  (try simp only [List.getElem_toArray, List.getElem_cons_succ, List.getElem_cons_zero, Act.put, List.setIfInBounds_toArray, List.set_cons_zero, List.set_cons_succ])
                  refine wpAnyH_take (i := 14) (v := ?vqag14) rfl (by kernel_rfl) (by kernel_rfl) (by kernel_rfl) (fun _ _ _ h => h) (Or.inl ⟨by rfl, ?yqag14⟩) (by assumption) ?rqag14
                  case yqag14 => intro w hSw; (try dsimp only at hSw); go_simp <;> (try with_reducible rfl)
                  (try simp only [List.getElem_toArray, List.getElem_cons_succ, List.getElem_cons_zero, Act.put, List.setIfInBounds_toArray, List.set_cons_zero, List.set_cons_succ])
                  refine' wpAnyH_take (i := 15) (v := _) rfl (by kernel_rfl) (by kernel_rfl) (by kernel_rfl) (fun _ _ _ h => h) (yieldsIf_load_mid (by rfl) _ _ (by rfl) _ _ (by rfl) _ _ ?Sqag15 ?uqag15 ?dqag15 ?iqag15) (by assumption) ?rqag15
                  case Sqag15 => exact (by intro w h; exact h.2.1)
                  case uqag15 => exact Tryd.underlying33
                  case dqag15 => rfl
                  case iqag15 => exact zz6_2
                  (try simp only [List.getElem_toArray, List.getElem_cons_succ, List.getElem_cons_zero, Act.put, List.setIfInBounds_toArray, List.set_cons_zero, List.set_cons_succ])
                  refine wpAnyH_take (i := 16) (v := ?vqag16) rfl (by kernel_rfl) (by kernel_rfl) (by kernel_rfl) (fun _ _ _ h => h) (Or.inl ⟨by rfl, ?yqag16⟩) (by assumption) ?rqag16
                  case yqag16 => intro w hSw; (try dsimp only at hSw); go_simp <;> (try with_reducible rfl)
                  (try simp only [List.getElem_toArray, List.getElem_cons_succ, List.getElem_cons_zero, Act.put, List.setIfInBounds_toArray, List.set_cons_zero, List.set_cons_succ])
                  refine wpAnyH_take (i := 17) (v := ?vqag17) rfl (by kernel_rfl) (by kernel_rfl) (by kernel_rfl) (fun _ _ _ h => h) (Or.inl ⟨by rfl, ?yqag17⟩) (by assumption) ?rqag17
                  case yqag17 => intro w hSw; (try dsimp only at hSw); go_simp <;> (try with_reducible rfl)
                  (try simp only [List.getElem_toArray, List.getElem_cons_succ, List.getElem_cons_zero, Act.put, List.setIfInBounds_toArray, List.set_cons_zero, List.set_cons_succ])
                  refine wpAnyH_ready (rs := [18]) (by kernel_rfl) (by simp) ?_
                  refine AllReadyH.cons rfl (fun K hK => ?_) AllReadyH.nil
                  go_simp
                  go_wp2_with fail
                  (with_reducible refine (HRG2.out _).mono ?_)
                  rintro e w19 ⟨A2, c2, ⟨rfl, M2⟩, hb19⟩
                  have B6 := B6.next hb19 B6.lt
                  have B7 := B7.next hb19 B7.lt
                  have B16 := B16.next hb19 B16.lt
                  have B17 := B17.next hb19 B17.lt
                  have B19 := B19.next hb19 B19.lt
                  have M1 := Lib.hid (M1.out.next hb19)
                  have hbe := below_join hbe hb19
                  have M2 := Lib.hid M2
                  refine hK.out _ _ ⟨blk_range B16, blk_range B6, blk_range B17, blk_range B19⟩ (fun hHeld => ?_)
                  clear hK K hb19
                  refine wpAnyH_ready (rs := [19]) (by kernel_rfl) (by simp) ?_
                  refine AllReadyH.cons rfl (fun K hK => ?_) AllReadyH.nil
                  go_simp
                  go_wp2_with fail
                  (with_reducible refine (HSP.out _ _ _ _ _ M1.out M2.out).mono ?_)
                  rintro e w20 ⟨rfl, hb20⟩
                  have B6 := B6.next hb20 B6.lt
                  have B7 := B7.next hb20 B7.lt
                  have B16 := B16.next hb20 B16.lt
                  have B17 := B17.next hb20 B17.lt
                  have B19 := B19.next hb20 B19.lt
                  have M1 := Lib.hid (M1.out.next hb20)
                  have M2 := Lib.hid (M2.out.next hb20)
                  have hbe := below_join hbe hb20
                  refine hK.out _ _ ⟨blk_range B16, blk_range B6, blk_range B17, blk_range B19⟩ (fun hHeld => ?_)
                  clear hK K hb20
                  refine wpAnyH_take (i := 20) (v := ?vqag20) rfl (by kernel_rfl) (by kernel_rfl) (by kernel_rfl) (fun _ _ _ h => h) (Or.inl ⟨by rfl, ?yqag20⟩) (by assumption) ?rqag20
                  case yqag20 => intro w hSw; (try dsimp only at hSw); go_simp <;> (try with_reducible rfl)
                  (try simp only [List.getElem_toArray, List.getElem_cons_succ, List.getElem_cons_zero, Act.put, List.setIfInBounds_toArray, List.set_cons_zero, List.set_cons_succ])
                  refine wpAnyH_take (i := 21) (v := ?vqag21) rfl (by kernel_rfl) (by kernel_rfl) (by kernel_rfl) (fun _ _ _ h => h) (Or.inl ⟨by rfl, ?yqag21⟩) (by assumption) ?rqag21
                  case yqag21 => intro w hSw; (try dsimp only at hSw); go_simp <;> (try with_reducible rfl)
                  (try simp only [List.getElem_toArray, List.getElem_cons_succ, List.getElem_cons_zero, Act.put, List.setIfInBounds_toArray, List.set_cons_zero, List.set_cons_succ])
                  refine wpAnyH_take (i := 22) (v := ?vqag22) rfl (by kernel_rfl) (by kernel_rfl) (by kernel_rfl) (fun _ _ _ h => h) (Or.inl ⟨by rfl, ?yqag22⟩) (by assumption) ?rqag22
                  case yqag22 => intro w hSw; (try dsimp only at hSw); go_simp <;> (try with_reducible rfl)
                  (try simp only [List.getElem_toArray, List.getElem_cons_succ, List.getElem_cons_zero, Act.put, List.setIfInBounds_toArray, List.set_cons_zero, List.set_cons_succ])
                  refine' wpAnyH_take (i := 23) (v := _) rfl (by kernel_rfl) (by kernel_rfl) (by kernel_rfl) (fun _ _ _ h => h) (yieldsIf_load_mid (by rfl) _ _ (by rfl) _ _ (by rfl) _ _ ?Sqag23 ?uqag23 ?dqag23 ?iqag23) (by assumption) ?rqag23
                  case Sqag23 => exact (by intro w h; exact h.2.2.2)
                  case uqag23 => exact Tryd.underlying53
                  case dqag23 => rfl
                  case iqag23 => exact zz19_4
                  (try simp only [List.getElem_toArray, List.getElem_cons_succ, List.getElem_cons_zero, Act.put, List.setIfInBounds_toArray, List.set_cons_zero, List.set_cons_succ])
                  refine' wpAnyH_take (i := 24) (v := _) rfl (by kernel_rfl) (by kernel_rfl) (by kernel_rfl) (fun _ _ _ h => h) (yieldsIf_load_mid (by rfl) _ _ (by rfl) _ _ (by rfl) _ _ ?Sqag24 ?uqag24 ?dqag24 ?iqag24) (by assumption) ?rqag24
                  case Sqag24 => exact (by intro w h; exact h.2.1)
                  case uqag24 => exact Tryd.underlying33
                  case dqag24 => rfl
                  case iqag24 => exact zz6_2
                  (try simp only [List.getElem_toArray, List.getElem_cons_succ, List.getElem_cons_zero, Act.put, List.setIfInBounds_toArray, List.set_cons_zero, List.set_cons_succ])
                  refine wpAnyH_take (i := 25) (v := ?vqag25) rfl (by kernel_rfl) (by kernel_rfl) (by kernel_rfl) (fun _ _ _ h => h) (Or.inl ⟨by rfl, ?yqag25⟩) (by assumption) ?rqag25
                  case yqag25 => intro w hSw; (try dsimp only at hSw); go_simp <;> (try with_reducible rfl)
                  (try simp only [List.getElem_toArray, List.getElem_cons_succ, List.getElem_cons_zero, Act.put, List.setIfInBounds_toArray, List.set_cons_zero, List.set_cons_succ])
                  refine wpAnyH_ready (rs := [26]) (by kernel_rfl) (by simp) ?_
                  refine AllReadyH.cons rfl (fun K hK => ?_) AllReadyH.nil
                  go_simp
                  go_wp2_with fail
                  (with_reducible refine (HMO2.out _).mono ?_)
                  rintro e w21 ⟨rfl, hb21⟩
                  have B6 := B6.next hb21 B6.lt
                  have B7 := B7.next hb21 B7.lt
                  have B16 := B16.next hb21 B16.lt
                  have B17 := B17.next hb21 B17.lt
                  have B19 := B19.next hb21 B19.lt
                  have M1 := Lib.hid (M1.out.next hb21)
                  have M2 := Lib.hid (M2.out.next hb21)
                  have hbe := below_join hbe hb21
                  refine hK.out _ _ ⟨blk_range B16, blk_range B6, blk_range B17, blk_range B19⟩ (fun hHeld => ?_)
                  clear hK K hb21
                  refine wpAnyH_take (i := 27) (v := ?vqag27) rfl (by kernel_rfl) (by kernel_rfl) (by kernel_rfl) (fun _ _ _ h => h) (Or.inl ⟨by rfl, ?yqag27⟩) (by assumption) ?rqag27
                  case yqag27 => intro w hSw; (try dsimp only at hSw); go_simp <;> (try with_reducible rfl)
                  (try simp only [List.getElem_toArray, List.getElem_cons_succ, List.getElem_cons_zero, Act.put, List.setIfInBounds_toArray, List.set_cons_zero, List.set_cons_succ])
                  refine wpAnyH_take (i := 28) (v := ?vqag28) rfl (by kernel_rfl) (by kernel_rfl) (by kernel_rfl) (fun _ _ _ h => h) (Or.inl ⟨by rfl, ?yqag28⟩) (by assumption) ?rqag28
                  case yqag28 => intro w hSw; (try dsimp only at hSw); go_simp <;> (try with_reducible rfl)
                  (try simp only [List.getElem_toArray, List.getElem_cons_succ, List.getElem_cons_zero, Act.put, List.setIfInBounds_toArray, List.set_cons_zero, List.set_cons_succ])
                  refine wpAnyH_done (by kernel_rfl) ?_ _
                  clear hHeld zz16_1 zz6_2 zz17_3 zz19_4
                  clear HEQ2 HPR2 HRG2 HSP HMO2 hnP hnQ hnM
                  have z6_0 := B6.cell (k := 0) rfl
                  have z6_1 := B6.cell (k := 1) rfl
                  have z6_2 := B6.cell (k := 2) rfl
                  go_wp2_with (first | (with_reducible refine wpList_getg (o := ⟨some 119, .load 30 (.tmp 7), _, _, _, _⟩) (by with_unfolding_all rfl) 30 (.tmp 7) (by with_unfolding_all rfl) g7 0 (by with_unfolding_all rfl) B7 (H h) (cs_all _) _ (by exact Tryd.underlying30) (by with_unfolding_all rfl) (by first | exact Tryd.szH | (simp only [H_length, Pat.cells_length, List.length_append]; exact Tryd.szH)) ?_))
                  (with_reducible refine (HGT.out _).mono ?_)
                  rintro e w22 ⟨rfl, hb22⟩
                  clear z6_0 z6_1 z6_2
                  have B6 := B6.next hb22 B6.lt
                  have B7 := B7.next hb22 B7.lt
                  have B16 := B16.next hb22 B16.lt
                  have B17 := B17.next hb22 B17.lt
                  have B19 := B19.next hb22 B19.lt
                  have M1 := Lib.hid (M1.out.next hb22)
                  have hbe := below_join hbe hb22
                  clear hb22
                  go_wp2
                  go_loopw [21, 22] (fun pv iv wr => PartRel K n w22 pv iv wr) (fun _ i _ => n - (intOf i).toNat)
                  case atStart => exact ⟨K, 1, Nat.le_refl _, HKn.out, by rw [Nat.sub_self], rfl, rfl, Below.refl _ _⟩
                  case round =>
                    obtain ⟨k, N1, hk1, hk2, hkN, rfl, rfl, hbL⟩ := hrel
                    have C6 := B6.next hbL B6.lt
                    have y6_2 := C6.cell (k := 2) rfl
                    have HN1 := Lib.hid hkN
                    have hN1l : N1 ≤ 65536 := by rw [← hkN]; exact Nat.le_trans (Nat.pow_le_pow_right (by decide) (show k - K ≤ 16 by omega)) (by decide)
                    clear hkN
                    by_cases hlt : k < n
                    · have hki : (k : Int) < (n : Int) := by omega
                      have hkd : decide ((k : Int) < (n : Int)) = true := decide_eq_true hki
                      have e1 : IntKind.i64.wrap ((N1 : Int) * 2) = (N1 : Int) * 2 := by simp only [IntKind.wrap_i64]; omega
                      have e2 : IntKind.i64.wrap ((k : Int) + 1) = (k : Int) + 1 := by simp only [IntKind.wrap_i64]; omega
                      go_wp2
                      go_roundw
                      case rel => exact ⟨k + 1, N1 * 2, by omega, by omega, by rw [← HN1.out, show k + 1 - K = (k - K) + 1 by omega, Nat.pow_succ], by go_num, by go_num, hbL⟩
                      case measure => simp [intOf]; omega
                    · obtain rfl : n = k := by omega
                      obtain rfl : PW = N1 := by rw [← HPWd.out, ← HN1.out]
                      have hkd : decide ((n : Int) < (n : Int)) = false := decide_eq_false (by omega)
                      go_wp2
                      clear y6_2 C6
                      go_loopw [23, 24] (fun v iv wr => CntRel L h N w22 v iv wr) (fun _ i _ => N - (intOf i).toNat)
                      case atStart => exact ⟨0, 0, Nat.zero_le _, rfl, rfl, rfl, hbL⟩
                      case round =>
                        clear hbL
                        obtain ⟨j, N2, hj1, hjN, rfl, rfl, hbL⟩ := hrel
                        by_cases hlt2 : j < N
                        · have hji : (j : Int) < (N : Int) := by omega
                          have hjd : decide ((j : Int) < (N : Int)) = true := decide_eq_true hji
                          obtain ⟨p, hp⟩ := HGE.out j hlt2
                          obtain ⟨ga, oa, hA, hca⟩ := (M1.out.next hbL) j p hp
                          obtain ⟨E, hE⟩ : ∃ E, decide (p.fits h) = E := ⟨_, rfl⟩
                          have hNx := inToF_next (h := h) hp
                          have hNl := inToF_le L h j
                          rw [hE] at hNx
                          have hma := HMA.out p
                          rw [hE] at hma
                          have HMB := Lib.hid hma
                          have HNX := Lib.hid hNx
                          have HJN := Lib.hid hjN
                          have hN2 : 0 ≤ N2 ∧ N2 ≤ (j : Int) := by omega
                          have e1 : IntKind.i64.wrap (N2 + 1) = N2 + 1 := by simp only [IntKind.wrap_i64]; omega
                          have e2 : IntKind.i64.wrap ((j : Int) + 1) = (j : Int) + 1 := by simp only [IntKind.wrap_i64]; omega
                          have C7 := B7.next hbL B7.lt
                          have hunP := Tryd.underlying48
                          have hunH := Tryd.underlying30
                          have hz1 : (Tryd.prog.info? 48).map (·.size) = some p.cells.length := by rw [Pat.cells_length]; exact Tryd.szP
                          have hz2 : (Tryd.prog.info? 30).map (·.size) = some (H h).length := by rw [H_length]; exact Tryd.szH
                          clear hp hNx hma hE hjN M1
                          subst hA
                          go_wp2
                          have hdd := below_drew wr
                          have hrg : ∀ w', Below wr.heap.size wr w' → w'.rangeAt ga (oa + j * 20) p.cells ∧ w'.rangeAt g7 0 (H h) := fun w' hw => ⟨fun q u hu => by rw [hw.cell (World.block_lt_of_cell? wr _ (hca q u hu))]; exact hca q u hu, blk_range (C7.next hw C7.lt)⟩
                          have HRGa := Lib.hid hrg
                          clear hrg
                          refine wp_region_held_drew (S := fun w' => w'.rangeAt ga (oa + j * 20) p.cells ∧ w'.rangeAt g7 0 (H h)) (by kernel_rfl) (HRGa.out _ hdd) (fun hHeld => ?_)
                          generalize wr.drew = wd at hdd hHeld ⊢
                          clear hca
                          refine wpAnyH_take (i := 0) (v := ?vv0) rfl (by kernel_rfl) (by kernel_rfl) (by kernel_rfl) (fun _ _ _ h => h) (Or.inl ⟨by rfl, ?yv0⟩) (by assumption) ?rv0
                          case yv0 => intro w hSw; (try dsimp only at hSw); go_simp <;> (try with_reducible rfl)
                          (try simp only [List.getElem_toArray, List.getElem_cons_zero, Act.put, List.setIfInBounds_toArray, List.set_cons_zero, List.set_cons_succ])
                          refine wpAnyH_take (i := 1) (v := ?vv1) rfl (by kernel_rfl) (by kernel_rfl) (by kernel_rfl) (fun _ _ _ h => h) (Or.inl ⟨by rfl, ?yv1⟩) (by assumption) ?rv1
                          case yv1 => intro w hSw; (try dsimp only at hSw); go_simp <;> (try with_reducible rfl)
                          (try simp only [List.getElem_toArray, List.getElem_cons_succ, List.getElem_cons_zero, Act.put, List.setIfInBounds_toArray, List.set_cons_zero, List.set_cons_succ])
                          refine wpAnyH_take (i := 2) (v := ?vv2) rfl (by kernel_rfl) (by kernel_rfl) (by kernel_rfl) (fun _ _ _ h => h) (Or.inl ⟨by rfl, ?yv2⟩) (by assumption) ?rv2
                          case yv2 => intro w hSw; (try dsimp only at hSw); go_simp <;> (try with_reducible rfl)
                          (try simp only [List.getElem_toArray, List.getElem_cons_succ, List.getElem_cons_zero, Act.put, List.setIfInBounds_toArray, List.set_cons_zero, List.set_cons_succ])
                          refine' wpAnyH_take (i := 3) (v := _) rfl (by kernel_rfl) (by kernel_rfl) (by kernel_rfl) (fun _ _ _ h => h) (yieldsIf_load_mid (by rfl) _ _ (by rfl) _ _ (by rfl) _ _ ?Sv3 ?uv3 ?dv3 ?iv3) (by assumption) ?rv3
                          case Sv3 => exact (by intro w h; exact h.1)
                          case uv3 => exact hunP
                          case dv3 => rfl
                          case iv3 => exact hz1
                          (try simp only [List.getElem_toArray, List.getElem_cons_succ, List.getElem_cons_zero, Act.put, List.setIfInBounds_toArray, List.set_cons_zero, List.set_cons_succ])
                          refine' wpAnyH_take (i := 4) (v := _) rfl (by kernel_rfl) (by kernel_rfl) (by kernel_rfl) (fun _ _ _ h => h) (yieldsIf_load_mid (by rfl) _ _ (by rfl) _ _ (by rfl) _ _ ?Sv4 ?uv4 ?dv4 ?iv4) (by assumption) ?rv4
                          case Sv4 => exact (by intro w h; exact h.2)
                          case uv4 => exact hunH
                          case dv4 => rfl
                          case iv4 => exact hz2
                          (try simp only [List.getElem_toArray, List.getElem_cons_succ, List.getElem_cons_zero, Act.put, List.setIfInBounds_toArray, List.set_cons_zero, List.set_cons_succ])
                          refine wpAnyH_ready (rs := [5]) (by kernel_rfl) (by simp) ?_
                          refine AllReadyH.cons rfl (fun K hK => ?_) AllReadyH.nil
                          go_simp
                          go_wp2_with fail
                          (with_reducible refine (HMB.out _).mono ?_)
                          rintro e wA ⟨rfl, hbA⟩
                          have hkA := below_join hdd hbA
                          refine hK.out _ _ (HRGa.out _ hkA) (fun hHeld => ?_)
                          clear hK K hdd hbA
                          refine wpAnyH_done (by kernel_rfl) ?_ _
                          have hbM := hbL.trans (hkA.mono hbL.size)
                          rcases E with _ | _
                          · go_wp2
                            go_roundw
                            case rel => exact ⟨j + 1, N2, by omega, by rw [HNX.out, ← HJN.out]; rfl, rfl, by go_num, hbM⟩
                            case measure => simp [intOf]; omega
                          · go_wp2
                            go_roundw
                            case rel => exact ⟨j + 1, N2 + 1, by omega, by rw [HNX.out, ← HJN.out]; rfl, rfl, by go_num, hbM⟩
                            case measure => simp [intOf]; omega
                        · obtain rfl : N = j := by omega
                          have hjd : decide ((N : Int) < (N : Int)) = false := decide_eq_false (by omega)
                          rw [HTK.out, HC.out] at hjN
                          have hbe0 := hbe
                          have B6 := B6.next hbL B6.lt
                          have B7 := B7.next hbL B7.lt
                          have B16 := B16.next hbL B16.lt
                          have B17 := B17.next hbL B17.lt
                          have B19 := B19.next hbL B19.lt
                          have hbe := below_join hbe hbL
                          clear M1 hbL hbe0
                          by_cases c1 : LO ≤ V
                          · have c1d : decide ((V : Int) ≥ (LO : Int)) = true := decide_eq_true (by omega)
                            have c1e : decide ((LO : Int) ≤ (V : Int)) = true := decide_eq_true (by omega)
                            have c1f : decide (LO ≤ V) = true := decide_eq_true c1
                            by_cases c2 : V ≤ HH
                            · skip
                              have c2d : decide ((V : Int) ≤ (HH : Int)) = true := decide_eq_true (by omega)
                              have c2f : decide (V ≤ HH) = true := decide_eq_true c2
                              rw [if_pos ⟨c1, c2⟩] at hjN
                              have hN2 : N2 = 1 := by rw [← hjN]; rfl
                              subst hN2
                              clear hjN
                              go_wp2
                              have hdd := below_drew wr
                              have B6 := B6.next hdd B6.lt
                              have B7 := B7.next hdd B7.lt
                              have B16 := B16.next hdd B16.lt
                              have B17 := B17.next hdd B17.lt
                              have B19 := B19.next hdd B19.lt
                              have hbe := below_join hbe hdd
                              have zz16_1 : (Tryd.prog.info? 48).map (·.size) = some P.cells.length := (by first | exact Tryd.szP | (simp only [H_length, Pat.cells_length, List.length_append]; exact Tryd.szP))
                              have zz7_2 : (Tryd.prog.info? 30).map (·.size) = some (H h).length := (by first | exact Tryd.szH | (simp only [H_length, Pat.cells_length, List.length_append]; exact Tryd.szH))
                              have zz17_3 : (Tryd.prog.info? 48).map (·.size) = some Q.cells.length := (by first | exact Tryd.szP | (simp only [H_length, Pat.cells_length, List.length_append]; exact Tryd.szP))
                              have zz19_5 : (Tryd.prog.info? 53).map (·.size) = some P.cells.length := (by first | exact Tryd.szM | (simp only [H_length, Pat.cells_length, List.length_append]; exact Tryd.szM))
                              have zz6_6 : (Tryd.prog.info? 33).map (·.size) = some [Value.string s, .int .i64 (a : Int), .int .i64 (n : Int)].length := (by first | exact Tryd.szF | (simp only [H_length, Pat.cells_length, List.length_append]; exact Tryd.szF))
                              refine wp_region_held_drew (S := fun w' => w'.rangeAt g16 0 P.cells ∧ w'.rangeAt g7 0 (H h) ∧ w'.rangeAt g17 0 Q.cells ∧ w'.cell? ⟨g6, 2, none⟩ = some (.int .i64 (n : Int)) ∧ w'.rangeAt g19 0 P.cells ∧ w'.rangeAt g6 0 [Value.string s, .int .i64 (a : Int), .int .i64 (n : Int)]) (by kernel_rfl) ⟨blk_range B16, blk_range B7, blk_range B17, B6.cell (k := 2) rfl, blk_range B19, blk_range B6⟩ (fun hHeld => ?_)
                              clear hdd
                              generalize wr.drew = w23 at B6 B7 B16 B17 B19 hbe hHeld  ⊢
                              refine wpAnyH_ready (rs := [0]) (by kernel_rfl) (by simp) ?_
                              refine AllReadyH.cons rfl (fun K hK => ?_) AllReadyH.nil
                              go_simp
                              go_wp2_with fail
                              (with_reducible refine (HSA.out _ (HQ.out.next hbe)).mono ?_)
                              rintro e w24 ⟨rfl, hb24⟩
                              have B6 := B6.next hb24 B6.lt
                              have B7 := B7.next hb24 B7.lt
                              have B16 := B16.next hb24 B16.lt
                              have B17 := B17.next hb24 B17.lt
                              have B19 := B19.next hb24 B19.lt
                              have hbe := below_join hbe hb24
                              refine hK.out _ _ ⟨blk_range B16, blk_range B7, blk_range B17, B6.cell (k := 2) rfl, blk_range B19, blk_range B6⟩ (fun hHeld => ?_)
                              clear hK K hb24
                              refine wpAnyH_take (i := 1) (v := ?vqah1) rfl (by kernel_rfl) (by kernel_rfl) (by kernel_rfl) (fun _ _ _ h => h) (Or.inl ⟨by rfl, ?yqah1⟩) (by assumption) ?rqah1
                              case yqah1 => intro w hSw; (try dsimp only at hSw); go_simp <;> (try with_reducible rfl)
                              (try simp only [List.getElem_toArray, List.getElem_cons_succ, List.getElem_cons_zero, Act.put, List.setIfInBounds_toArray, List.set_cons_zero, List.set_cons_succ])
                              refine' wpAnyH_take (i := 2) (v := _) rfl (by kernel_rfl) (by kernel_rfl) (by kernel_rfl) (fun _ _ _ h => h) (yieldsIf_load_mid (by rfl) _ _ (by rfl) _ _ (by rfl) _ _ ?Sqah2 ?uqah2 ?dqah2 ?iqah2) (by assumption) ?rqah2
                              case Sqah2 => exact (by intro w h; exact h.1)
                              case uqah2 => exact Tryd.underlying48
                              case dqah2 => rfl
                              case iqah2 => exact zz16_1
                              (try simp only [List.getElem_toArray, List.getElem_cons_succ, List.getElem_cons_zero, Act.put, List.setIfInBounds_toArray, List.set_cons_zero, List.set_cons_succ])
                              refine' wpAnyH_take (i := 3) (v := _) rfl (by kernel_rfl) (by kernel_rfl) (by kernel_rfl) (fun _ _ _ h => h) (yieldsIf_load_mid (by rfl) _ _ (by rfl) _ _ (by rfl) _ _ ?Sqah3 ?uqah3 ?dqah3 ?iqah3) (by assumption) ?rqah3
                              case Sqah3 => exact (by intro w h; exact h.2.1)
                              case uqah3 => exact Tryd.underlying30
                              case dqah3 => rfl
                              case iqah3 => exact zz7_2
                              (try simp only [List.getElem_toArray, List.getElem_cons_succ, List.getElem_cons_zero, Act.put, List.setIfInBounds_toArray, List.set_cons_zero, List.set_cons_succ])
                              refine wpAnyH_take (i := 5) (v := ?vqah5) rfl (by kernel_rfl) (by kernel_rfl) (by kernel_rfl) (fun _ _ _ h => h) (Or.inl ⟨by rfl, ?yqah5⟩) (by assumption) ?rqah5
                              case yqah5 => intro w hSw; (try dsimp only at hSw); go_simp <;> (try with_reducible rfl)
                              (try simp only [List.getElem_toArray, List.getElem_cons_succ, List.getElem_cons_zero, Act.put, List.setIfInBounds_toArray, List.set_cons_zero, List.set_cons_succ])
                              refine wpAnyH_take (i := 6) (v := ?vqah6) rfl (by kernel_rfl) (by kernel_rfl) (by kernel_rfl) (fun _ _ _ h => h) (Or.inl ⟨by rfl, ?yqah6⟩) (by assumption) ?rqah6
                              case yqah6 => intro w hSw; (try dsimp only at hSw); go_simp <;> (try with_reducible rfl)
                              (try simp only [List.getElem_toArray, List.getElem_cons_succ, List.getElem_cons_zero, Act.put, List.setIfInBounds_toArray, List.set_cons_zero, List.set_cons_succ])
                              refine wpAnyH_take (i := 7) (v := ?vqah7) rfl (by kernel_rfl) (by kernel_rfl) (by kernel_rfl) (fun _ _ _ h => h) (Or.inl ⟨by rfl, ?yqah7⟩) (by assumption) ?rqah7
                              case yqah7 => intro w hSw; (try dsimp only at hSw); go_simp <;> (try with_reducible rfl)
                              (try simp only [List.getElem_toArray, List.getElem_cons_succ, List.getElem_cons_zero, Act.put, List.setIfInBounds_toArray, List.set_cons_zero, List.set_cons_succ])
                              refine wpAnyH_ready (rs := [4]) (by kernel_rfl) (by simp) ?_
                              refine AllReadyH.cons rfl (fun K hK => ?_) AllReadyH.nil
                              go_simp
                              go_wp2_with fail
                              (with_reducible refine (HMP.out _).mono ?_)
                              rintro e w25 ⟨rfl, hb25⟩
                              have B6 := B6.next hb25 B6.lt
                              have B7 := B7.next hb25 B7.lt
                              have B16 := B16.next hb25 B16.lt
                              have B17 := B17.next hb25 B17.lt
                              have B19 := B19.next hb25 B19.lt
                              have hbe := below_join hbe hb25
                              refine hK.out _ _ ⟨blk_range B16, blk_range B7, blk_range B17, B6.cell (k := 2) rfl, blk_range B19, blk_range B6⟩ (fun hHeld => ?_)
                              clear hK K hb25
                              refine wpAnyH_take (i := 8) (v := ?vqah8) rfl (by kernel_rfl) (by kernel_rfl) (by kernel_rfl) (fun _ _ _ h => h) (Or.inl ⟨by rfl, ?yqah8⟩) (by assumption) ?rqah8
                              case yqah8 => intro w hSw; (try dsimp only at hSw); go_simp <;> (try with_reducible rfl)
                              (try simp only [List.getElem_toArray, List.getElem_cons_succ, List.getElem_cons_zero, Act.put, List.setIfInBounds_toArray, List.set_cons_zero, List.set_cons_succ])
                              refine wpAnyH_take (i := 9) (v := ?vqah9) rfl (by kernel_rfl) (by kernel_rfl) (by kernel_rfl) (fun _ _ _ h => h) (Or.inl ⟨by rfl, ?yqah9⟩) (by assumption) ?rqah9
                              case yqah9 => intro w hSw; (try dsimp only at hSw); go_simp <;> (try with_reducible rfl)
                              (try simp only [List.getElem_toArray, List.getElem_cons_succ, List.getElem_cons_zero, Act.put, List.setIfInBounds_toArray, List.set_cons_zero, List.set_cons_succ])
                              refine wpAnyH_take (i := 10) (v := ?vqah10) rfl (by kernel_rfl) (by kernel_rfl) (by kernel_rfl) (fun _ _ _ h => h) (Or.inl ⟨by rfl, ?yqah10⟩) (by assumption) ?rqah10
                              case yqah10 => intro w hSw; (try dsimp only at hSw); go_simp <;> (try with_reducible rfl)
                              (try simp only [List.getElem_toArray, List.getElem_cons_succ, List.getElem_cons_zero, Act.put, List.setIfInBounds_toArray, List.set_cons_zero, List.set_cons_succ])
                              refine' wpAnyH_take (i := 11) (v := _) rfl (by kernel_rfl) (by kernel_rfl) (by kernel_rfl) (fun _ _ _ h => h) (yieldsIf_load_mid (by rfl) _ _ (by rfl) _ _ (by rfl) _ _ ?Sqah11 ?uqah11 ?dqah11 ?iqah11) (by assumption) ?rqah11
                              case Sqah11 => exact (by intro w h; exact h.2.2.1)
                              case uqah11 => exact Tryd.underlying48
                              case dqah11 => rfl
                              case iqah11 => exact zz17_3
                              (try simp only [List.getElem_toArray, List.getElem_cons_succ, List.getElem_cons_zero, Act.put, List.setIfInBounds_toArray, List.set_cons_zero, List.set_cons_succ])
                              refine' wpAnyH_take (i := 12) (v := _) rfl (by kernel_rfl) (by kernel_rfl) (by kernel_rfl) (fun _ _ _ h => h) (yieldsIf_load_mid (by rfl) _ _ (by rfl) _ _ (by rfl) _ _ ?Sqah12 ?uqah12 ?dqah12 ?iqah12) (by assumption) ?rqah12
                              case Sqah12 => exact (by intro w h; exact h.2.1)
                              case uqah12 => exact Tryd.underlying30
                              case dqah12 => rfl
                              case iqah12 => exact zz7_2
                              (try simp only [List.getElem_toArray, List.getElem_cons_succ, List.getElem_cons_zero, Act.put, List.setIfInBounds_toArray, List.set_cons_zero, List.set_cons_succ])
                              refine wpAnyH_take (i := 14) (v := ?vqah14) rfl (by kernel_rfl) (by kernel_rfl) (by kernel_rfl) (fun _ _ _ h => h) (Or.inl ⟨by rfl, ?yqah14⟩) (by assumption) ?rqah14
                              case yqah14 => intro w hSw; (try dsimp only at hSw); go_simp <;> (try with_reducible rfl)
                              (try simp only [List.getElem_toArray, List.getElem_cons_succ, List.getElem_cons_zero, Act.put, List.setIfInBounds_toArray, List.set_cons_zero, List.set_cons_succ])
                              refine wpAnyH_take (i := 15) (v := ?vqah15) rfl (by kernel_rfl) (by kernel_rfl) (by kernel_rfl) (fun _ _ _ h => h) (Or.inl ⟨by rfl, ?yqah15⟩) (by assumption) ?rqah15
                              case yqah15 => intro w hSw; (try dsimp only at hSw); go_simp <;> (try with_reducible rfl)
                              (try simp only [List.getElem_toArray, List.getElem_cons_succ, List.getElem_cons_zero, Act.put, List.setIfInBounds_toArray, List.set_cons_zero, List.set_cons_succ])
                              refine wpAnyH_take (i := 16) (v := ?vqah16) rfl (by kernel_rfl) (by kernel_rfl) (by kernel_rfl) (fun _ _ _ h => h) (Or.inl ⟨by rfl, ?yqah16⟩) (by assumption) ?rqah16
                              case yqah16 => intro w hSw; (try dsimp only at hSw); go_simp <;> (try with_reducible rfl)
                              (try simp only [List.getElem_toArray, List.getElem_cons_succ, List.getElem_cons_zero, Act.put, List.setIfInBounds_toArray, List.set_cons_zero, List.set_cons_succ])
                              refine wpAnyH_take (i := 17) (v := ?vqah17) rfl (by kernel_rfl) (by kernel_rfl) (by kernel_rfl) (fun _ _ _ h => h) (Or.inl ⟨by rfl, ?yqah17⟩) (by assumption) ?rqah17
                              case yqah17 => intro w hSw; (try dsimp only at hSw); go_simp <;> (try with_reducible rfl)
                              (try simp only [List.getElem_toArray, List.getElem_cons_succ, List.getElem_cons_zero, Act.put, List.setIfInBounds_toArray, List.set_cons_zero, List.set_cons_succ])
                              refine wpAnyH_take (i := 18) (v := ?vqah18) rfl (by kernel_rfl) (by kernel_rfl) (by kernel_rfl) (fun _ _ _ h => h) (Or.inl ⟨by rfl, ?yqah18⟩) (by assumption) ?rqah18
                              case yqah18 => intro w hSw; (try dsimp only at hSw); go_simp <;> (try with_reducible rfl)
                              (try simp only [List.getElem_toArray, List.getElem_cons_succ, List.getElem_cons_zero, Act.put, List.setIfInBounds_toArray, List.set_cons_zero, List.set_cons_succ])
                              refine wpAnyH_take (i := 19) (v := ?vqah19) rfl (by kernel_rfl) (by kernel_rfl) (by kernel_rfl) (fun _ _ _ h => h) (Or.inl ⟨by rfl, ?yqah19⟩) (by assumption) ?rqah19
                              case yqah19 => intro w hSw; (try dsimp only at hSw); go_simp <;> (try with_reducible rfl)
                              (try simp only [List.getElem_toArray, List.getElem_cons_succ, List.getElem_cons_zero, Act.put, List.setIfInBounds_toArray, List.set_cons_zero, List.set_cons_succ])
                              refine wpAnyH_take (i := 20) (v := ?vqah20) rfl (by kernel_rfl) (by kernel_rfl) (by kernel_rfl) (fun _ _ _ h => h) (Or.inl ⟨by rfl, ?yqah20⟩) (by assumption) ?rqah20
                              case yqah20 => intro w hSw; (try dsimp only at hSw); go_simp <;> (try with_reducible rfl)
                              (try simp only [List.getElem_toArray, List.getElem_cons_succ, List.getElem_cons_zero, Act.put, List.setIfInBounds_toArray, List.set_cons_zero, List.set_cons_succ])
                              refine wpAnyH_ready (rs := [13]) (by kernel_rfl) (by simp) ?_
                              refine AllReadyH.cons rfl (fun K hK => ?_) AllReadyH.nil
                              go_simp
                              go_wp2_with fail
                              (with_reducible refine (HMQ.out _).mono ?_)
                              rintro e w26 ⟨rfl, hb26⟩
                              have B6 := B6.next hb26 B6.lt
                              have B7 := B7.next hb26 B7.lt
                              have B16 := B16.next hb26 B16.lt
                              have B17 := B17.next hb26 B17.lt
                              have B19 := B19.next hb26 B19.lt
                              have hbe := below_join hbe hb26
                              refine hK.out _ _ ⟨blk_range B16, blk_range B7, blk_range B17, B6.cell (k := 2) rfl, blk_range B19, blk_range B6⟩ (fun hHeld => ?_)
                              clear hK K hb26
                              refine wpAnyH_take (i := 21) (v := ?vqah21) rfl (by kernel_rfl) (by kernel_rfl) (by kernel_rfl) (fun _ _ _ h => h) (Or.inl ⟨by rfl, ?yqah21⟩) (by assumption) ?rqah21
                              case yqah21 => intro w hSw; (try dsimp only at hSw); go_simp <;> (try with_reducible rfl)
                              (try simp only [List.getElem_toArray, List.getElem_cons_succ, List.getElem_cons_zero, Act.put, List.setIfInBounds_toArray, List.set_cons_zero, List.set_cons_succ])
                              refine wpAnyH_take (i := 22) (v := ?vqah22) rfl (by kernel_rfl) (by kernel_rfl) (by kernel_rfl) (fun _ _ _ h => h) (Or.inl ⟨by rfl, ?yqah22⟩) (by assumption) ?rqah22
                              case yqah22 => intro w hSw; (try dsimp only at hSw); go_simp <;> (try with_reducible rfl)
                              (try simp only [List.getElem_toArray, List.getElem_cons_succ, List.getElem_cons_zero, Act.put, List.setIfInBounds_toArray, List.set_cons_zero, List.set_cons_succ])
                              refine wpAnyH_take (i := 23) (v := ?vqah23) rfl (by kernel_rfl) (by kernel_rfl) (by kernel_rfl) (fun _ _ _ h => h) (Or.inl ⟨by rfl, ?yqah23⟩) (by assumption) ?rqah23
                              case yqah23 => intro w hSw; (try dsimp only at hSw); go_simp <;> (try with_reducible rfl)
                              (try simp only [List.getElem_toArray, List.getElem_cons_succ, List.getElem_cons_zero, Act.put, List.setIfInBounds_toArray, List.set_cons_zero, List.set_cons_succ])
                              refine wpAnyH_take (i := 24) (v := ?vqah24) rfl (by kernel_rfl) (by kernel_rfl) (by kernel_rfl) (fun _ _ _ h => h) (Or.inl ⟨by rfl, ?yqah24⟩) (by assumption) ?rqah24
                              case yqah24 => intro w hSw; (try dsimp only at hSw); go_simp <;> (try with_reducible rfl)
                              (try simp only [List.getElem_toArray, List.getElem_cons_succ, List.getElem_cons_zero, Act.put, List.setIfInBounds_toArray, List.set_cons_zero, List.set_cons_succ])
                              refine wpAnyH_take (i := 25) (v := ?vqah25) rfl (by kernel_rfl) (by kernel_rfl) (by kernel_rfl) (fun _ _ _ h => h) (Or.inl ⟨by rfl, ?yqah25⟩) (by assumption) ?rqah25
                              case yqah25 => intro w hSw; (try dsimp only at hSw); go_simp <;> (try with_reducible rfl)
                              (try simp only [List.getElem_toArray, List.getElem_cons_succ, List.getElem_cons_zero, Act.put, List.setIfInBounds_toArray, List.set_cons_zero, List.set_cons_succ])
                              refine wpAnyH_take (i := 26) (v := ?vqah26) rfl (by kernel_rfl) (by kernel_rfl) (by kernel_rfl) (fun _ _ _ h => h) (Or.inl ⟨by rfl, ?yqah26⟩) (by assumption) ?rqah26
                              case yqah26 => intro w hSw; (try dsimp only at hSw); go_simp <;> (try with_reducible rfl)
                              (try simp only [List.getElem_toArray, List.getElem_cons_succ, List.getElem_cons_zero, Act.put, List.setIfInBounds_toArray, List.set_cons_zero, List.set_cons_succ])
                              refine wpAnyH_take (i := 27) (v := ?vqah27) rfl (by kernel_rfl) (by kernel_rfl) (by kernel_rfl) (fun _ _ _ h => h) (Or.inl ⟨by rfl, ?yqah27⟩) (by assumption) ?rqah27
                              case yqah27 => intro w hSw; (try dsimp only at hSw); go_simp <;> (try with_reducible rfl)
                              (try simp only [List.getElem_toArray, List.getElem_cons_succ, List.getElem_cons_zero, Act.put, List.setIfInBounds_toArray, List.set_cons_zero, List.set_cons_succ])
                              refine wpAnyH_take (i := 28) (v := ?vqah28) rfl (by kernel_rfl) (by kernel_rfl) (by kernel_rfl) (fun _ _ _ h => h) (Or.inl ⟨by rfl, ?yqah28⟩) (by assumption) ?rqah28
                              case yqah28 => intro w hSw; (try dsimp only at hSw); go_simp <;> (try with_reducible rfl)
                              (try simp only [List.getElem_toArray, List.getElem_cons_succ, List.getElem_cons_zero, Act.put, List.setIfInBounds_toArray, List.set_cons_zero, List.set_cons_succ])
                              refine wpAnyH_take (i := 29) (v := ?vqah29) rfl (by kernel_rfl) (by kernel_rfl) (by kernel_rfl) (fun _ _ _ h => h) (Or.inl ⟨by rfl, ?yqah29⟩) (by assumption) ?rqah29
                              case yqah29 => intro w hSw; (try dsimp only at hSw); go_simp <;> (try with_reducible rfl)
                              (try simp only [List.getElem_toArray, List.getElem_cons_succ, List.getElem_cons_zero, Act.put, List.setIfInBounds_toArray, List.set_cons_zero, List.set_cons_succ])
                              refine wpAnyH_take (i := 30) (v := ?vqah30) rfl (by kernel_rfl) (by kernel_rfl) (by kernel_rfl) (fun _ _ _ h => h) (Or.inl ⟨by rfl, ?yqah30⟩) (by assumption) ?rqah30
                              case yqah30 => intro w hSw; (try dsimp only at hSw); go_simp <;> (try with_reducible rfl)
                              (try simp only [List.getElem_toArray, List.getElem_cons_succ, List.getElem_cons_zero, Act.put, List.setIfInBounds_toArray, List.set_cons_zero, List.set_cons_succ])
                              refine wpAnyH_take (i := 31) (v := ?vqah31) rfl (by kernel_rfl) (by kernel_rfl) (by kernel_rfl) (fun _ _ _ h => h) (Or.inl ⟨by rfl, ?yqah31⟩) (by assumption) ?rqah31
                              case yqah31 => intro w hSw; (try dsimp only at hSw); go_simp <;> (try with_reducible rfl)
                              (try simp only [List.getElem_toArray, List.getElem_cons_succ, List.getElem_cons_zero, Act.put, List.setIfInBounds_toArray, List.set_cons_zero, List.set_cons_succ])
                              refine wpAnyH_take (i := 32) (v := ?vqah32) rfl (by kernel_rfl) (by kernel_rfl) (by kernel_rfl) (fun _ _ _ h => h) (Or.inl ⟨by rfl, ?yqah32⟩) (by assumption) ?rqah32
                              case yqah32 => intro w hSw; (try dsimp only at hSw); go_simp <;> (try with_reducible rfl)
                              (try simp only [List.getElem_toArray, List.getElem_cons_succ, List.getElem_cons_zero, Act.put, List.setIfInBounds_toArray, List.set_cons_zero, List.set_cons_succ])
                              refine wpAnyH_take (i := 33) (v := ?vqah33) rfl (by kernel_rfl) (by kernel_rfl) (by kernel_rfl) (fun _ _ _ h => h) (Or.inl ⟨by rfl, ?yqah33⟩) (by assumption) ?rqah33
                              case yqah33 => intro w hSw; (try dsimp only at hSw); go_simp <;> (try with_reducible rfl)
                              (try simp only [List.getElem_toArray, List.getElem_cons_succ, List.getElem_cons_zero, Act.put, List.setIfInBounds_toArray, List.set_cons_zero, List.set_cons_succ])
                              refine wpAnyH_take (i := 34) (v := ?vqah34) rfl (by kernel_rfl) (by kernel_rfl) (by kernel_rfl) (fun _ _ _ h => h) (Or.inl ⟨by rfl, ?yqah34⟩) (by assumption) ?rqah34
                              case yqah34 => intro w hSw; (try dsimp only at hSw); go_simp <;> (try with_reducible rfl)
                              (try simp only [List.getElem_toArray, List.getElem_cons_succ, List.getElem_cons_zero, Act.put, List.setIfInBounds_toArray, List.set_cons_zero, List.set_cons_succ])
                              refine wpAnyH_take (i := 35) (v := ?vqah35) rfl (by kernel_rfl) (by kernel_rfl) (by kernel_rfl) (fun _ _ _ h => h) (Or.inl ⟨by rfl, ?yqah35⟩) (by assumption) ?rqah35
                              case yqah35 => intro w hSw; (try dsimp only at hSw); go_simp <;> (try with_reducible rfl)
                              (try simp only [List.getElem_toArray, List.getElem_cons_succ, List.getElem_cons_zero, Act.put, List.setIfInBounds_toArray, List.set_cons_zero, List.set_cons_succ])
                              refine wpAnyH_take (i := 36) (v := ?vqah36) rfl (by kernel_rfl) (by kernel_rfl) (by kernel_rfl) (fun _ _ _ h => h) (Or.inl ⟨by rfl, ?yqah36⟩) (by assumption) ?rqah36
                              case yqah36 => intro w hSw; (try dsimp only at hSw); go_simp <;> (try with_reducible rfl)
                              (try simp only [List.getElem_toArray, List.getElem_cons_succ, List.getElem_cons_zero, Act.put, List.setIfInBounds_toArray, List.set_cons_zero, List.set_cons_succ])
                              refine wpAnyH_take (i := 37) (v := ?vqah37) rfl (by kernel_rfl) (by kernel_rfl) (by kernel_rfl) (fun _ _ _ h => h) (Or.inl ⟨by rfl, ?yqah37⟩) (by assumption) ?rqah37
                              case yqah37 => intro w hSw; have hSc := hSw.2.2.2.1; go_simp <;> (try with_reducible rfl)
                              (try simp only [List.getElem_toArray, List.getElem_cons_succ, List.getElem_cons_zero, Act.put, List.setIfInBounds_toArray, List.set_cons_zero, List.set_cons_succ])
                              refine wpAnyH_take (i := 38) (v := ?vqah38) rfl (by kernel_rfl) (by kernel_rfl) (by kernel_rfl) (fun _ _ _ h => h) (Or.inl ⟨by rfl, ?yqah38⟩) (by assumption) ?rqah38
                              case yqah38 => intro w hSw; (try dsimp only at hSw); go_simp <;> (try with_reducible rfl)
                              (try simp only [List.getElem_toArray, List.getElem_cons_succ, List.getElem_cons_zero, Act.put, List.setIfInBounds_toArray, List.set_cons_zero, List.set_cons_succ])
                              refine wpAnyH_take (i := 39) (v := ?vqah39) rfl (by kernel_rfl) (by kernel_rfl) (by kernel_rfl) (fun _ _ _ h => h) (Or.inl ⟨by rfl, ?yqah39⟩) (by assumption) ?rqah39
                              case yqah39 => intro w hSw; (try dsimp only at hSw); go_simp <;> (try with_reducible rfl)
                              (try simp only [List.getElem_toArray, List.getElem_cons_succ, List.getElem_cons_zero, Act.put, List.setIfInBounds_toArray, List.set_cons_zero, List.set_cons_succ])
                              refine wpAnyH_take (i := 40) (v := ?vqah40) rfl (by kernel_rfl) (by kernel_rfl) (by kernel_rfl) (fun _ _ _ h => h) (Or.inl ⟨by rfl, ?yqah40⟩) (by assumption) ?rqah40
                              case yqah40 => intro w hSw; (try dsimp only at hSw); go_simp <;> (try with_reducible rfl)
                              (try simp only [List.getElem_toArray, List.getElem_cons_succ, List.getElem_cons_zero, Act.put, List.setIfInBounds_toArray, List.set_cons_zero, List.set_cons_succ])
                              refine wpAnyH_take (i := 41) (v := ?vqah41) rfl (by kernel_rfl) (by kernel_rfl) (by kernel_rfl) (fun _ _ _ h => h) (Or.inl ⟨by rfl, ?yqah41⟩) (by assumption) ?rqah41
                              case yqah41 => intro w hSw; (try dsimp only at hSw); go_simp <;> (try with_reducible rfl)
                              (try simp only [List.getElem_toArray, List.getElem_cons_succ, List.getElem_cons_zero, Act.put, List.setIfInBounds_toArray, List.set_cons_zero, List.set_cons_succ])
                              refine wpAnyH_take (i := 42) (v := ?vqah42) rfl (by kernel_rfl) (by kernel_rfl) (by kernel_rfl) (fun _ _ _ h => h) (Or.inl ⟨by rfl, ?yqah42⟩) (by assumption) ?rqah42
                              case yqah42 => intro w hSw; (try dsimp only at hSw); go_simp <;> (try with_reducible rfl)
                              (try simp only [List.getElem_toArray, List.getElem_cons_succ, List.getElem_cons_zero, Act.put, List.setIfInBounds_toArray, List.set_cons_zero, List.set_cons_succ])
                              refine wpAnyH_take (i := 43) (v := ?vqah43) rfl (by kernel_rfl) (by kernel_rfl) (by kernel_rfl) (fun _ _ _ h => h) (Or.inl ⟨by rfl, ?yqah43⟩) (by assumption) ?rqah43
                              case yqah43 => intro w hSw; (try dsimp only at hSw); go_simp <;> (try with_reducible rfl)
                              (try simp only [List.getElem_toArray, List.getElem_cons_succ, List.getElem_cons_zero, Act.put, List.setIfInBounds_toArray, List.set_cons_zero, List.set_cons_succ])
                              refine' wpAnyH_take (i := 44) (v := _) rfl (by kernel_rfl) (by kernel_rfl) (by kernel_rfl) (fun _ _ _ h => h) (yieldsIf_load_mid (by rfl) _ _ (by rfl) _ _ (by rfl) _ _ ?Sqah44 ?uqah44 ?dqah44 ?iqah44) (by assumption) ?rqah44
                              case Sqah44 => exact (by intro w h; exact h.2.2.2.2.1)
                              case uqah44 => exact Tryd.underlying53
                              case dqah44 => rfl
                              case iqah44 => exact zz19_5
                              (try simp only [List.getElem_toArray, List.getElem_cons_succ, List.getElem_cons_zero, Act.put, List.setIfInBounds_toArray, List.set_cons_zero, List.set_cons_succ])
                              refine' wpAnyH_take (i := 45) (v := _) rfl (by kernel_rfl) (by kernel_rfl) (by kernel_rfl) (fun _ _ _ h => h) (yieldsIf_load_mid (by rfl) _ _ (by rfl) _ _ (by rfl) _ _ ?Sqah45 ?uqah45 ?dqah45 ?iqah45) (by assumption) ?rqah45
                              case Sqah45 => exact (by intro w h; exact h.2.1)
                              case uqah45 => exact Tryd.underlying30
                              case dqah45 => rfl
                              case iqah45 => exact zz7_2
                              (try simp only [List.getElem_toArray, List.getElem_cons_succ, List.getElem_cons_zero, Act.put, List.setIfInBounds_toArray, List.set_cons_zero, List.set_cons_succ])
                              refine' wpAnyH_take (i := 47) (v := _) rfl (by kernel_rfl) (by kernel_rfl) (by kernel_rfl) (fun _ _ _ h => h) (yieldsIf_load_mid (by rfl) _ _ (by rfl) _ _ (by rfl) _ _ ?Sqah47 ?uqah47 ?dqah47 ?iqah47) (by assumption) ?rqah47
                              case Sqah47 => exact (by intro w h; exact h.2.2.2.2.2)
                              case uqah47 => exact Tryd.underlying33
                              case dqah47 => rfl
                              case iqah47 => exact zz6_6
                              (try simp only [List.getElem_toArray, List.getElem_cons_succ, List.getElem_cons_zero, Act.put, List.setIfInBounds_toArray, List.set_cons_zero, List.set_cons_succ])
                              refine' wpAnyH_take (i := 48) (v := _) rfl (by kernel_rfl) (by kernel_rfl) (by kernel_rfl) (fun _ _ _ h => h) (yieldsIf_load_mid (by rfl) _ _ (by rfl) _ _ (by rfl) _ _ ?Sqah48 ?uqah48 ?dqah48 ?iqah48) (by assumption) ?rqah48
                              case Sqah48 => exact (by intro w h; exact h.2.1)
                              case uqah48 => exact Tryd.underlying30
                              case dqah48 => rfl
                              case iqah48 => exact zz7_2
                              (try simp only [List.getElem_toArray, List.getElem_cons_succ, List.getElem_cons_zero, Act.put, List.setIfInBounds_toArray, List.set_cons_zero, List.set_cons_succ])
                              refine wpAnyH_take (i := 49) (v := ?vqah49) rfl (by kernel_rfl) (by kernel_rfl) (by kernel_rfl) (fun _ _ _ h => h) (Or.inl ⟨by rfl, ?yqah49⟩) (by assumption) ?rqah49
                              case yqah49 => intro w hSw; (try dsimp only at hSw); go_simp <;> (try with_reducible rfl)
                              (try simp only [List.getElem_toArray, List.getElem_cons_succ, List.getElem_cons_zero, Act.put, List.setIfInBounds_toArray, List.set_cons_zero, List.set_cons_succ])
                              refine wpAnyH_ready (rs := [46]) (by kernel_rfl) (by simp) ?_
                              refine AllReadyH.cons rfl (fun K hK => ?_) AllReadyH.nil
                              go_simp
                              go_wp2_with fail
                              (with_reducible refine (HAP.out _).mono ?_)
                              rintro e w27 ⟨rfl, hb27⟩
                              have B6 := B6.next hb27 B6.lt
                              have B7 := B7.next hb27 B7.lt
                              have B16 := B16.next hb27 B16.lt
                              have B17 := B17.next hb27 B17.lt
                              have B19 := B19.next hb27 B19.lt
                              have hbe := below_join hbe hb27
                              refine hK.out _ _ ⟨blk_range B16, blk_range B7, blk_range B17, B6.cell (k := 2) rfl, blk_range B19, blk_range B6⟩ (fun hHeld => ?_)
                              clear hK K hb27
                              refine wpAnyH_ready (rs := [50]) (by kernel_rfl) (by simp) ?_
                              refine AllReadyH.cons rfl (fun K hK => ?_) AllReadyH.nil
                              go_simp
                              go_wp2_with fail
                              (with_reducible refine (HSE.out _).mono ?_)
                              rintro e w28 ⟨rfl, hb28⟩
                              have B6 := B6.next hb28 B6.lt
                              have B7 := B7.next hb28 B7.lt
                              have B16 := B16.next hb28 B16.lt
                              have B17 := B17.next hb28 B17.lt
                              have B19 := B19.next hb28 B19.lt
                              have hbe := below_join hbe hb28
                              refine hK.out _ _ ⟨blk_range B16, blk_range B7, blk_range B17, B6.cell (k := 2) rfl, blk_range B19, blk_range B6⟩ (fun hHeld => ?_)
                              clear hK K hb28
                              refine wpAnyH_take (i := 51) (v := ?vqah51) rfl (by kernel_rfl) (by kernel_rfl) (by kernel_rfl) (fun _ _ _ h => h) (Or.inl ⟨by rfl, ?yqah51⟩) (by assumption) ?rqah51
                              case yqah51 => intro w hSw; (try dsimp only at hSw); go_simp <;> (try with_reducible rfl)
                              (try simp only [List.getElem_toArray, List.getElem_cons_succ, List.getElem_cons_zero, Act.put, List.setIfInBounds_toArray, List.set_cons_zero, List.set_cons_succ])
                              refine wpAnyH_take (i := 52) (v := ?vqah52) rfl (by kernel_rfl) (by kernel_rfl) (by kernel_rfl) (fun _ _ _ h => h) (Or.inl ⟨by rfl, ?yqah52⟩) (by assumption) ?rqah52
                              case yqah52 => intro w hSw; (try dsimp only at hSw); go_simp <;> (try with_reducible rfl)
                              (try simp only [List.getElem_toArray, List.getElem_cons_succ, List.getElem_cons_zero, Act.put, List.setIfInBounds_toArray, List.set_cons_zero, List.set_cons_succ])
                              refine wpAnyH_take (i := 53) (v := ?vqah53) rfl (by kernel_rfl) (by kernel_rfl) (by kernel_rfl) (fun _ _ _ h => h) (Or.inl ⟨by rfl, ?yqah53⟩) (by assumption) ?rqah53
                              case yqah53 => intro w hSw; (try dsimp only at hSw); go_simp <;> (try with_reducible rfl)
                              (try simp only [List.getElem_toArray, List.getElem_cons_succ, List.getElem_cons_zero, Act.put, List.setIfInBounds_toArray, List.set_cons_zero, List.set_cons_succ])
                              refine wpAnyH_done (by kernel_rfl) ?_ _
                              clear hHeld zz16_1 zz7_2 zz17_3 zz19_5 zz6_6
                              go_wp2
                              go_ret
                              exact ⟨rfl, hbe⟩
                            · skip
                              have c2d : decide ((V : Int) ≤ (HH : Int)) = false := decide_eq_false (by omega)
                              have c2f : decide (V ≤ HH) = false := decide_eq_false c2
                              rw [if_neg (fun k => c2 k.2)] at hjN
                              have hN2 : N2 = 0 := by rw [← hjN]; rfl
                              subst hN2
                              clear hjN
                              go_wp2
                              have hdd := below_drew wr
                              have B6 := B6.next hdd B6.lt
                              have B7 := B7.next hdd B7.lt
                              have B16 := B16.next hdd B16.lt
                              have B17 := B17.next hdd B17.lt
                              have B19 := B19.next hdd B19.lt
                              have hbe := below_join hbe hdd
                              have zz16_1 : (Tryd.prog.info? 48).map (·.size) = some P.cells.length := (by first | exact Tryd.szP | (simp only [H_length, Pat.cells_length, List.length_append]; exact Tryd.szP))
                              have zz7_2 : (Tryd.prog.info? 30).map (·.size) = some (H h).length := (by first | exact Tryd.szH | (simp only [H_length, Pat.cells_length, List.length_append]; exact Tryd.szH))
                              have zz17_3 : (Tryd.prog.info? 48).map (·.size) = some Q.cells.length := (by first | exact Tryd.szP | (simp only [H_length, Pat.cells_length, List.length_append]; exact Tryd.szP))
                              have zz19_5 : (Tryd.prog.info? 53).map (·.size) = some P.cells.length := (by first | exact Tryd.szM | (simp only [H_length, Pat.cells_length, List.length_append]; exact Tryd.szM))
                              have zz6_6 : (Tryd.prog.info? 33).map (·.size) = some [Value.string s, .int .i64 (a : Int), .int .i64 (n : Int)].length := (by first | exact Tryd.szF | (simp only [H_length, Pat.cells_length, List.length_append]; exact Tryd.szF))
                              refine wp_region_held_drew (S := fun w' => w'.rangeAt g16 0 P.cells ∧ w'.rangeAt g7 0 (H h) ∧ w'.rangeAt g17 0 Q.cells ∧ w'.cell? ⟨g6, 2, none⟩ = some (.int .i64 (n : Int)) ∧ w'.rangeAt g19 0 P.cells ∧ w'.rangeAt g6 0 [Value.string s, .int .i64 (a : Int), .int .i64 (n : Int)]) (by kernel_rfl) ⟨blk_range B16, blk_range B7, blk_range B17, B6.cell (k := 2) rfl, blk_range B19, blk_range B6⟩ (fun hHeld => ?_)
                              clear hdd
                              generalize wr.drew = w23 at B6 B7 B16 B17 B19 hbe hHeld  ⊢
                              refine wpAnyH_ready (rs := [0]) (by kernel_rfl) (by simp) ?_
                              refine AllReadyH.cons rfl (fun K hK => ?_) AllReadyH.nil
                              go_simp
                              go_wp2_with fail
                              (with_reducible refine (HSA.out _ (HQ.out.next hbe)).mono ?_)
                              rintro e w24 ⟨rfl, hb24⟩
                              have B6 := B6.next hb24 B6.lt
                              have B7 := B7.next hb24 B7.lt
                              have B16 := B16.next hb24 B16.lt
                              have B17 := B17.next hb24 B17.lt
                              have B19 := B19.next hb24 B19.lt
                              have hbe := below_join hbe hb24
                              refine hK.out _ _ ⟨blk_range B16, blk_range B7, blk_range B17, B6.cell (k := 2) rfl, blk_range B19, blk_range B6⟩ (fun hHeld => ?_)
                              clear hK K hb24
                              refine wpAnyH_take (i := 1) (v := ?vqai1) rfl (by kernel_rfl) (by kernel_rfl) (by kernel_rfl) (fun _ _ _ h => h) (Or.inl ⟨by rfl, ?yqai1⟩) (by assumption) ?rqai1
                              case yqai1 => intro w hSw; (try dsimp only at hSw); go_simp <;> (try with_reducible rfl)
                              (try simp only [List.getElem_toArray, List.getElem_cons_succ, List.getElem_cons_zero, Act.put, List.setIfInBounds_toArray, List.set_cons_zero, List.set_cons_succ])
                              refine' wpAnyH_take (i := 2) (v := _) rfl (by kernel_rfl) (by kernel_rfl) (by kernel_rfl) (fun _ _ _ h => h) (yieldsIf_load_mid (by rfl) _ _ (by rfl) _ _ (by rfl) _ _ ?Sqai2 ?uqai2 ?dqai2 ?iqai2) (by assumption) ?rqai2
                              case Sqai2 => exact (by intro w h; exact h.1)
                              case uqai2 => exact Tryd.underlying48
                              case dqai2 => rfl
                              case iqai2 => exact zz16_1
                              (try simp only [List.getElem_toArray, List.getElem_cons_succ, List.getElem_cons_zero, Act.put, List.setIfInBounds_toArray, List.set_cons_zero, List.set_cons_succ])
                              refine' wpAnyH_take (i := 3) (v := _) rfl (by kernel_rfl) (by kernel_rfl) (by kernel_rfl) (fun _ _ _ h => h) (yieldsIf_load_mid (by rfl) _ _ (by rfl) _ _ (by rfl) _ _ ?Sqai3 ?uqai3 ?dqai3 ?iqai3) (by assumption) ?rqai3
                              case Sqai3 => exact (by intro w h; exact h.2.1)
                              case uqai3 => exact Tryd.underlying30
                              case dqai3 => rfl
                              case iqai3 => exact zz7_2
                              (try simp only [List.getElem_toArray, List.getElem_cons_succ, List.getElem_cons_zero, Act.put, List.setIfInBounds_toArray, List.set_cons_zero, List.set_cons_succ])
                              refine wpAnyH_take (i := 5) (v := ?vqai5) rfl (by kernel_rfl) (by kernel_rfl) (by kernel_rfl) (fun _ _ _ h => h) (Or.inl ⟨by rfl, ?yqai5⟩) (by assumption) ?rqai5
                              case yqai5 => intro w hSw; (try dsimp only at hSw); go_simp <;> (try with_reducible rfl)
                              (try simp only [List.getElem_toArray, List.getElem_cons_succ, List.getElem_cons_zero, Act.put, List.setIfInBounds_toArray, List.set_cons_zero, List.set_cons_succ])
                              refine wpAnyH_take (i := 6) (v := ?vqai6) rfl (by kernel_rfl) (by kernel_rfl) (by kernel_rfl) (fun _ _ _ h => h) (Or.inl ⟨by rfl, ?yqai6⟩) (by assumption) ?rqai6
                              case yqai6 => intro w hSw; (try dsimp only at hSw); go_simp <;> (try with_reducible rfl)
                              (try simp only [List.getElem_toArray, List.getElem_cons_succ, List.getElem_cons_zero, Act.put, List.setIfInBounds_toArray, List.set_cons_zero, List.set_cons_succ])
                              refine wpAnyH_take (i := 7) (v := ?vqai7) rfl (by kernel_rfl) (by kernel_rfl) (by kernel_rfl) (fun _ _ _ h => h) (Or.inl ⟨by rfl, ?yqai7⟩) (by assumption) ?rqai7
                              case yqai7 => intro w hSw; (try dsimp only at hSw); go_simp <;> (try with_reducible rfl)
                              (try simp only [List.getElem_toArray, List.getElem_cons_succ, List.getElem_cons_zero, Act.put, List.setIfInBounds_toArray, List.set_cons_zero, List.set_cons_succ])
                              refine wpAnyH_ready (rs := [4]) (by kernel_rfl) (by simp) ?_
                              refine AllReadyH.cons rfl (fun K hK => ?_) AllReadyH.nil
                              go_simp
                              go_wp2_with fail
                              (with_reducible refine (HMP.out _).mono ?_)
                              rintro e w25 ⟨rfl, hb25⟩
                              have B6 := B6.next hb25 B6.lt
                              have B7 := B7.next hb25 B7.lt
                              have B16 := B16.next hb25 B16.lt
                              have B17 := B17.next hb25 B17.lt
                              have B19 := B19.next hb25 B19.lt
                              have hbe := below_join hbe hb25
                              refine hK.out _ _ ⟨blk_range B16, blk_range B7, blk_range B17, B6.cell (k := 2) rfl, blk_range B19, blk_range B6⟩ (fun hHeld => ?_)
                              clear hK K hb25
                              refine wpAnyH_take (i := 8) (v := ?vqai8) rfl (by kernel_rfl) (by kernel_rfl) (by kernel_rfl) (fun _ _ _ h => h) (Or.inl ⟨by rfl, ?yqai8⟩) (by assumption) ?rqai8
                              case yqai8 => intro w hSw; (try dsimp only at hSw); go_simp <;> (try with_reducible rfl)
                              (try simp only [List.getElem_toArray, List.getElem_cons_succ, List.getElem_cons_zero, Act.put, List.setIfInBounds_toArray, List.set_cons_zero, List.set_cons_succ])
                              refine wpAnyH_take (i := 9) (v := ?vqai9) rfl (by kernel_rfl) (by kernel_rfl) (by kernel_rfl) (fun _ _ _ h => h) (Or.inl ⟨by rfl, ?yqai9⟩) (by assumption) ?rqai9
                              case yqai9 => intro w hSw; (try dsimp only at hSw); go_simp <;> (try with_reducible rfl)
                              (try simp only [List.getElem_toArray, List.getElem_cons_succ, List.getElem_cons_zero, Act.put, List.setIfInBounds_toArray, List.set_cons_zero, List.set_cons_succ])
                              refine wpAnyH_take (i := 10) (v := ?vqai10) rfl (by kernel_rfl) (by kernel_rfl) (by kernel_rfl) (fun _ _ _ h => h) (Or.inl ⟨by rfl, ?yqai10⟩) (by assumption) ?rqai10
                              case yqai10 => intro w hSw; (try dsimp only at hSw); go_simp <;> (try with_reducible rfl)
                              (try simp only [List.getElem_toArray, List.getElem_cons_succ, List.getElem_cons_zero, Act.put, List.setIfInBounds_toArray, List.set_cons_zero, List.set_cons_succ])
                              refine' wpAnyH_take (i := 11) (v := _) rfl (by kernel_rfl) (by kernel_rfl) (by kernel_rfl) (fun _ _ _ h => h) (yieldsIf_load_mid (by rfl) _ _ (by rfl) _ _ (by rfl) _ _ ?Sqai11 ?uqai11 ?dqai11 ?iqai11) (by assumption) ?rqai11
                              case Sqai11 => exact (by intro w h; exact h.2.2.1)
                              case uqai11 => exact Tryd.underlying48
                              case dqai11 => rfl
                              case iqai11 => exact zz17_3
                              (try simp only [List.getElem_toArray, List.getElem_cons_succ, List.getElem_cons_zero, Act.put, List.setIfInBounds_toArray, List.set_cons_zero, List.set_cons_succ])
                              refine' wpAnyH_take (i := 12) (v := _) rfl (by kernel_rfl) (by kernel_rfl) (by kernel_rfl) (fun _ _ _ h => h) (yieldsIf_load_mid (by rfl) _ _ (by rfl) _ _ (by rfl) _ _ ?Sqai12 ?uqai12 ?dqai12 ?iqai12) (by assumption) ?rqai12
                              case Sqai12 => exact (by intro w h; exact h.2.1)
                              case uqai12 => exact Tryd.underlying30
                              case dqai12 => rfl
                              case iqai12 => exact zz7_2
                              (try simp only [List.getElem_toArray, List.getElem_cons_succ, List.getElem_cons_zero, Act.put, List.setIfInBounds_toArray, List.set_cons_zero, List.set_cons_succ])
                              refine wpAnyH_take (i := 14) (v := ?vqai14) rfl (by kernel_rfl) (by kernel_rfl) (by kernel_rfl) (fun _ _ _ h => h) (Or.inl ⟨by rfl, ?yqai14⟩) (by assumption) ?rqai14
                              case yqai14 => intro w hSw; (try dsimp only at hSw); go_simp <;> (try with_reducible rfl)
                              (try simp only [List.getElem_toArray, List.getElem_cons_succ, List.getElem_cons_zero, Act.put, List.setIfInBounds_toArray, List.set_cons_zero, List.set_cons_succ])
                              refine wpAnyH_take (i := 15) (v := ?vqai15) rfl (by kernel_rfl) (by kernel_rfl) (by kernel_rfl) (fun _ _ _ h => h) (Or.inl ⟨by rfl, ?yqai15⟩) (by assumption) ?rqai15
                              case yqai15 => intro w hSw; (try dsimp only at hSw); go_simp <;> (try with_reducible rfl)
                              (try simp only [List.getElem_toArray, List.getElem_cons_succ, List.getElem_cons_zero, Act.put, List.setIfInBounds_toArray, List.set_cons_zero, List.set_cons_succ])
                              refine wpAnyH_take (i := 16) (v := ?vqai16) rfl (by kernel_rfl) (by kernel_rfl) (by kernel_rfl) (fun _ _ _ h => h) (Or.inl ⟨by rfl, ?yqai16⟩) (by assumption) ?rqai16
                              case yqai16 => intro w hSw; (try dsimp only at hSw); go_simp <;> (try with_reducible rfl)
                              (try simp only [List.getElem_toArray, List.getElem_cons_succ, List.getElem_cons_zero, Act.put, List.setIfInBounds_toArray, List.set_cons_zero, List.set_cons_succ])
                              refine wpAnyH_take (i := 17) (v := ?vqai17) rfl (by kernel_rfl) (by kernel_rfl) (by kernel_rfl) (fun _ _ _ h => h) (Or.inl ⟨by rfl, ?yqai17⟩) (by assumption) ?rqai17
                              case yqai17 => intro w hSw; (try dsimp only at hSw); go_simp <;> (try with_reducible rfl)
                              (try simp only [List.getElem_toArray, List.getElem_cons_succ, List.getElem_cons_zero, Act.put, List.setIfInBounds_toArray, List.set_cons_zero, List.set_cons_succ])
                              refine wpAnyH_take (i := 18) (v := ?vqai18) rfl (by kernel_rfl) (by kernel_rfl) (by kernel_rfl) (fun _ _ _ h => h) (Or.inl ⟨by rfl, ?yqai18⟩) (by assumption) ?rqai18
                              case yqai18 => intro w hSw; (try dsimp only at hSw); go_simp <;> (try with_reducible rfl)
                              (try simp only [List.getElem_toArray, List.getElem_cons_succ, List.getElem_cons_zero, Act.put, List.setIfInBounds_toArray, List.set_cons_zero, List.set_cons_succ])
                              refine wpAnyH_take (i := 19) (v := ?vqai19) rfl (by kernel_rfl) (by kernel_rfl) (by kernel_rfl) (fun _ _ _ h => h) (Or.inl ⟨by rfl, ?yqai19⟩) (by assumption) ?rqai19
                              case yqai19 => intro w hSw; (try dsimp only at hSw); go_simp <;> (try with_reducible rfl)
                              (try simp only [List.getElem_toArray, List.getElem_cons_succ, List.getElem_cons_zero, Act.put, List.setIfInBounds_toArray, List.set_cons_zero, List.set_cons_succ])
                              refine wpAnyH_take (i := 20) (v := ?vqai20) rfl (by kernel_rfl) (by kernel_rfl) (by kernel_rfl) (fun _ _ _ h => h) (Or.inl ⟨by rfl, ?yqai20⟩) (by assumption) ?rqai20
                              case yqai20 => intro w hSw; (try dsimp only at hSw); go_simp <;> (try with_reducible rfl)
                              (try simp only [List.getElem_toArray, List.getElem_cons_succ, List.getElem_cons_zero, Act.put, List.setIfInBounds_toArray, List.set_cons_zero, List.set_cons_succ])
                              refine wpAnyH_ready (rs := [13]) (by kernel_rfl) (by simp) ?_
                              refine AllReadyH.cons rfl (fun K hK => ?_) AllReadyH.nil
                              go_simp
                              go_wp2_with fail
                              (with_reducible refine (HMQ.out _).mono ?_)
                              rintro e w26 ⟨rfl, hb26⟩
                              have B6 := B6.next hb26 B6.lt
                              have B7 := B7.next hb26 B7.lt
                              have B16 := B16.next hb26 B16.lt
                              have B17 := B17.next hb26 B17.lt
                              have B19 := B19.next hb26 B19.lt
                              have hbe := below_join hbe hb26
                              refine hK.out _ _ ⟨blk_range B16, blk_range B7, blk_range B17, B6.cell (k := 2) rfl, blk_range B19, blk_range B6⟩ (fun hHeld => ?_)
                              clear hK K hb26
                              refine wpAnyH_take (i := 21) (v := ?vqai21) rfl (by kernel_rfl) (by kernel_rfl) (by kernel_rfl) (fun _ _ _ h => h) (Or.inl ⟨by rfl, ?yqai21⟩) (by assumption) ?rqai21
                              case yqai21 => intro w hSw; (try dsimp only at hSw); go_simp <;> (try with_reducible rfl)
                              (try simp only [List.getElem_toArray, List.getElem_cons_succ, List.getElem_cons_zero, Act.put, List.setIfInBounds_toArray, List.set_cons_zero, List.set_cons_succ])
                              refine wpAnyH_take (i := 22) (v := ?vqai22) rfl (by kernel_rfl) (by kernel_rfl) (by kernel_rfl) (fun _ _ _ h => h) (Or.inl ⟨by rfl, ?yqai22⟩) (by assumption) ?rqai22
                              case yqai22 => intro w hSw; (try dsimp only at hSw); go_simp <;> (try with_reducible rfl)
                              (try simp only [List.getElem_toArray, List.getElem_cons_succ, List.getElem_cons_zero, Act.put, List.setIfInBounds_toArray, List.set_cons_zero, List.set_cons_succ])
                              refine wpAnyH_take (i := 23) (v := ?vqai23) rfl (by kernel_rfl) (by kernel_rfl) (by kernel_rfl) (fun _ _ _ h => h) (Or.inl ⟨by rfl, ?yqai23⟩) (by assumption) ?rqai23
                              case yqai23 => intro w hSw; (try dsimp only at hSw); go_simp <;> (try with_reducible rfl)
                              (try simp only [List.getElem_toArray, List.getElem_cons_succ, List.getElem_cons_zero, Act.put, List.setIfInBounds_toArray, List.set_cons_zero, List.set_cons_succ])
                              refine wpAnyH_take (i := 24) (v := ?vqai24) rfl (by kernel_rfl) (by kernel_rfl) (by kernel_rfl) (fun _ _ _ h => h) (Or.inl ⟨by rfl, ?yqai24⟩) (by assumption) ?rqai24
                              case yqai24 => intro w hSw; (try dsimp only at hSw); go_simp <;> (try with_reducible rfl)
                              (try simp only [List.getElem_toArray, List.getElem_cons_succ, List.getElem_cons_zero, Act.put, List.setIfInBounds_toArray, List.set_cons_zero, List.set_cons_succ])
                              refine wpAnyH_take (i := 25) (v := ?vqai25) rfl (by kernel_rfl) (by kernel_rfl) (by kernel_rfl) (fun _ _ _ h => h) (Or.inl ⟨by rfl, ?yqai25⟩) (by assumption) ?rqai25
                              case yqai25 => intro w hSw; (try dsimp only at hSw); go_simp <;> (try with_reducible rfl)
                              (try simp only [List.getElem_toArray, List.getElem_cons_succ, List.getElem_cons_zero, Act.put, List.setIfInBounds_toArray, List.set_cons_zero, List.set_cons_succ])
                              refine wpAnyH_take (i := 26) (v := ?vqai26) rfl (by kernel_rfl) (by kernel_rfl) (by kernel_rfl) (fun _ _ _ h => h) (Or.inl ⟨by rfl, ?yqai26⟩) (by assumption) ?rqai26
                              case yqai26 => intro w hSw; (try dsimp only at hSw); go_simp <;> (try with_reducible rfl)
                              (try simp only [List.getElem_toArray, List.getElem_cons_succ, List.getElem_cons_zero, Act.put, List.setIfInBounds_toArray, List.set_cons_zero, List.set_cons_succ])
                              refine wpAnyH_take (i := 27) (v := ?vqai27) rfl (by kernel_rfl) (by kernel_rfl) (by kernel_rfl) (fun _ _ _ h => h) (Or.inl ⟨by rfl, ?yqai27⟩) (by assumption) ?rqai27
                              case yqai27 => intro w hSw; (try dsimp only at hSw); go_simp <;> (try with_reducible rfl)
                              (try simp only [List.getElem_toArray, List.getElem_cons_succ, List.getElem_cons_zero, Act.put, List.setIfInBounds_toArray, List.set_cons_zero, List.set_cons_succ])
                              refine wpAnyH_take (i := 28) (v := ?vqai28) rfl (by kernel_rfl) (by kernel_rfl) (by kernel_rfl) (fun _ _ _ h => h) (Or.inl ⟨by rfl, ?yqai28⟩) (by assumption) ?rqai28
                              case yqai28 => intro w hSw; (try dsimp only at hSw); go_simp <;> (try with_reducible rfl)
                              (try simp only [List.getElem_toArray, List.getElem_cons_succ, List.getElem_cons_zero, Act.put, List.setIfInBounds_toArray, List.set_cons_zero, List.set_cons_succ])
                              refine wpAnyH_take (i := 29) (v := ?vqai29) rfl (by kernel_rfl) (by kernel_rfl) (by kernel_rfl) (fun _ _ _ h => h) (Or.inl ⟨by rfl, ?yqai29⟩) (by assumption) ?rqai29
                              case yqai29 => intro w hSw; (try dsimp only at hSw); go_simp <;> (try with_reducible rfl)
                              (try simp only [List.getElem_toArray, List.getElem_cons_succ, List.getElem_cons_zero, Act.put, List.setIfInBounds_toArray, List.set_cons_zero, List.set_cons_succ])
                              refine wpAnyH_take (i := 30) (v := ?vqai30) rfl (by kernel_rfl) (by kernel_rfl) (by kernel_rfl) (fun _ _ _ h => h) (Or.inl ⟨by rfl, ?yqai30⟩) (by assumption) ?rqai30
                              case yqai30 => intro w hSw; (try dsimp only at hSw); go_simp <;> (try with_reducible rfl)
                              (try simp only [List.getElem_toArray, List.getElem_cons_succ, List.getElem_cons_zero, Act.put, List.setIfInBounds_toArray, List.set_cons_zero, List.set_cons_succ])
                              refine wpAnyH_take (i := 31) (v := ?vqai31) rfl (by kernel_rfl) (by kernel_rfl) (by kernel_rfl) (fun _ _ _ h => h) (Or.inl ⟨by rfl, ?yqai31⟩) (by assumption) ?rqai31
                              case yqai31 => intro w hSw; (try dsimp only at hSw); go_simp <;> (try with_reducible rfl)
                              (try simp only [List.getElem_toArray, List.getElem_cons_succ, List.getElem_cons_zero, Act.put, List.setIfInBounds_toArray, List.set_cons_zero, List.set_cons_succ])
                              refine wpAnyH_take (i := 32) (v := ?vqai32) rfl (by kernel_rfl) (by kernel_rfl) (by kernel_rfl) (fun _ _ _ h => h) (Or.inl ⟨by rfl, ?yqai32⟩) (by assumption) ?rqai32
                              case yqai32 => intro w hSw; (try dsimp only at hSw); go_simp <;> (try with_reducible rfl)
                              (try simp only [List.getElem_toArray, List.getElem_cons_succ, List.getElem_cons_zero, Act.put, List.setIfInBounds_toArray, List.set_cons_zero, List.set_cons_succ])
                              refine wpAnyH_take (i := 33) (v := ?vqai33) rfl (by kernel_rfl) (by kernel_rfl) (by kernel_rfl) (fun _ _ _ h => h) (Or.inl ⟨by rfl, ?yqai33⟩) (by assumption) ?rqai33
                              case yqai33 => intro w hSw; (try dsimp only at hSw); go_simp <;> (try with_reducible rfl)
                              (try simp only [List.getElem_toArray, List.getElem_cons_succ, List.getElem_cons_zero, Act.put, List.setIfInBounds_toArray, List.set_cons_zero, List.set_cons_succ])
                              refine wpAnyH_take (i := 34) (v := ?vqai34) rfl (by kernel_rfl) (by kernel_rfl) (by kernel_rfl) (fun _ _ _ h => h) (Or.inl ⟨by rfl, ?yqai34⟩) (by assumption) ?rqai34
                              case yqai34 => intro w hSw; (try dsimp only at hSw); go_simp <;> (try with_reducible rfl)
                              (try simp only [List.getElem_toArray, List.getElem_cons_succ, List.getElem_cons_zero, Act.put, List.setIfInBounds_toArray, List.set_cons_zero, List.set_cons_succ])
                              refine wpAnyH_take (i := 35) (v := ?vqai35) rfl (by kernel_rfl) (by kernel_rfl) (by kernel_rfl) (fun _ _ _ h => h) (Or.inl ⟨by rfl, ?yqai35⟩) (by assumption) ?rqai35
                              case yqai35 => intro w hSw; (try dsimp only at hSw); go_simp <;> (try with_reducible rfl)
                              (try simp only [List.getElem_toArray, List.getElem_cons_succ, List.getElem_cons_zero, Act.put, List.setIfInBounds_toArray, List.set_cons_zero, List.set_cons_succ])
                              refine wpAnyH_take (i := 36) (v := ?vqai36) rfl (by kernel_rfl) (by kernel_rfl) (by kernel_rfl) (fun _ _ _ h => h) (Or.inl ⟨by rfl, ?yqai36⟩) (by assumption) ?rqai36
                              case yqai36 => intro w hSw; (try dsimp only at hSw); go_simp <;> (try with_reducible rfl)
                              (try simp only [List.getElem_toArray, List.getElem_cons_succ, List.getElem_cons_zero, Act.put, List.setIfInBounds_toArray, List.set_cons_zero, List.set_cons_succ])
                              refine wpAnyH_take (i := 37) (v := ?vqai37) rfl (by kernel_rfl) (by kernel_rfl) (by kernel_rfl) (fun _ _ _ h => h) (Or.inl ⟨by rfl, ?yqai37⟩) (by assumption) ?rqai37
                              case yqai37 => intro w hSw; have hSc := hSw.2.2.2.1; go_simp <;> (try with_reducible rfl)
                              (try simp only [List.getElem_toArray, List.getElem_cons_succ, List.getElem_cons_zero, Act.put, List.setIfInBounds_toArray, List.set_cons_zero, List.set_cons_succ])
                              refine wpAnyH_take (i := 38) (v := ?vqai38) rfl (by kernel_rfl) (by kernel_rfl) (by kernel_rfl) (fun _ _ _ h => h) (Or.inl ⟨by rfl, ?yqai38⟩) (by assumption) ?rqai38
                              case yqai38 => intro w hSw; (try dsimp only at hSw); go_simp <;> (try with_reducible rfl)
                              (try simp only [List.getElem_toArray, List.getElem_cons_succ, List.getElem_cons_zero, Act.put, List.setIfInBounds_toArray, List.set_cons_zero, List.set_cons_succ])
                              refine wpAnyH_take (i := 39) (v := ?vqai39) rfl (by kernel_rfl) (by kernel_rfl) (by kernel_rfl) (fun _ _ _ h => h) (Or.inl ⟨by rfl, ?yqai39⟩) (by assumption) ?rqai39
                              case yqai39 => intro w hSw; (try dsimp only at hSw); go_simp <;> (try with_reducible rfl)
                              (try simp only [List.getElem_toArray, List.getElem_cons_succ, List.getElem_cons_zero, Act.put, List.setIfInBounds_toArray, List.set_cons_zero, List.set_cons_succ])
                              refine wpAnyH_take (i := 40) (v := ?vqai40) rfl (by kernel_rfl) (by kernel_rfl) (by kernel_rfl) (fun _ _ _ h => h) (Or.inl ⟨by rfl, ?yqai40⟩) (by assumption) ?rqai40
                              case yqai40 => intro w hSw; (try dsimp only at hSw); go_simp <;> (try with_reducible rfl)
                              (try simp only [List.getElem_toArray, List.getElem_cons_succ, List.getElem_cons_zero, Act.put, List.setIfInBounds_toArray, List.set_cons_zero, List.set_cons_succ])
                              refine wpAnyH_take (i := 41) (v := ?vqai41) rfl (by kernel_rfl) (by kernel_rfl) (by kernel_rfl) (fun _ _ _ h => h) (Or.inl ⟨by rfl, ?yqai41⟩) (by assumption) ?rqai41
                              case yqai41 => intro w hSw; (try dsimp only at hSw); go_simp <;> (try with_reducible rfl)
                              (try simp only [List.getElem_toArray, List.getElem_cons_succ, List.getElem_cons_zero, Act.put, List.setIfInBounds_toArray, List.set_cons_zero, List.set_cons_succ])
                              refine wpAnyH_take (i := 42) (v := ?vqai42) rfl (by kernel_rfl) (by kernel_rfl) (by kernel_rfl) (fun _ _ _ h => h) (Or.inl ⟨by rfl, ?yqai42⟩) (by assumption) ?rqai42
                              case yqai42 => intro w hSw; (try dsimp only at hSw); go_simp <;> (try with_reducible rfl)
                              (try simp only [List.getElem_toArray, List.getElem_cons_succ, List.getElem_cons_zero, Act.put, List.setIfInBounds_toArray, List.set_cons_zero, List.set_cons_succ])
                              refine wpAnyH_take (i := 43) (v := ?vqai43) rfl (by kernel_rfl) (by kernel_rfl) (by kernel_rfl) (fun _ _ _ h => h) (Or.inl ⟨by rfl, ?yqai43⟩) (by assumption) ?rqai43
                              case yqai43 => intro w hSw; (try dsimp only at hSw); go_simp <;> (try with_reducible rfl)
                              (try simp only [List.getElem_toArray, List.getElem_cons_succ, List.getElem_cons_zero, Act.put, List.setIfInBounds_toArray, List.set_cons_zero, List.set_cons_succ])
                              refine' wpAnyH_take (i := 44) (v := _) rfl (by kernel_rfl) (by kernel_rfl) (by kernel_rfl) (fun _ _ _ h => h) (yieldsIf_load_mid (by rfl) _ _ (by rfl) _ _ (by rfl) _ _ ?Sqai44 ?uqai44 ?dqai44 ?iqai44) (by assumption) ?rqai44
                              case Sqai44 => exact (by intro w h; exact h.2.2.2.2.1)
                              case uqai44 => exact Tryd.underlying53
                              case dqai44 => rfl
                              case iqai44 => exact zz19_5
                              (try simp only [List.getElem_toArray, List.getElem_cons_succ, List.getElem_cons_zero, Act.put, List.setIfInBounds_toArray, List.set_cons_zero, List.set_cons_succ])
                              refine' wpAnyH_take (i := 45) (v := _) rfl (by kernel_rfl) (by kernel_rfl) (by kernel_rfl) (fun _ _ _ h => h) (yieldsIf_load_mid (by rfl) _ _ (by rfl) _ _ (by rfl) _ _ ?Sqai45 ?uqai45 ?dqai45 ?iqai45) (by assumption) ?rqai45
                              case Sqai45 => exact (by intro w h; exact h.2.1)
                              case uqai45 => exact Tryd.underlying30
                              case dqai45 => rfl
                              case iqai45 => exact zz7_2
                              (try simp only [List.getElem_toArray, List.getElem_cons_succ, List.getElem_cons_zero, Act.put, List.setIfInBounds_toArray, List.set_cons_zero, List.set_cons_succ])
                              refine' wpAnyH_take (i := 47) (v := _) rfl (by kernel_rfl) (by kernel_rfl) (by kernel_rfl) (fun _ _ _ h => h) (yieldsIf_load_mid (by rfl) _ _ (by rfl) _ _ (by rfl) _ _ ?Sqai47 ?uqai47 ?dqai47 ?iqai47) (by assumption) ?rqai47
                              case Sqai47 => exact (by intro w h; exact h.2.2.2.2.2)
                              case uqai47 => exact Tryd.underlying33
                              case dqai47 => rfl
                              case iqai47 => exact zz6_6
                              (try simp only [List.getElem_toArray, List.getElem_cons_succ, List.getElem_cons_zero, Act.put, List.setIfInBounds_toArray, List.set_cons_zero, List.set_cons_succ])
                              refine' wpAnyH_take (i := 48) (v := _) rfl (by kernel_rfl) (by kernel_rfl) (by kernel_rfl) (fun _ _ _ h => h) (yieldsIf_load_mid (by rfl) _ _ (by rfl) _ _ (by rfl) _ _ ?Sqai48 ?uqai48 ?dqai48 ?iqai48) (by assumption) ?rqai48
                              case Sqai48 => exact (by intro w h; exact h.2.1)
                              case uqai48 => exact Tryd.underlying30
                              case dqai48 => rfl
                              case iqai48 => exact zz7_2
                              (try simp only [List.getElem_toArray, List.getElem_cons_succ, List.getElem_cons_zero, Act.put, List.setIfInBounds_toArray, List.set_cons_zero, List.set_cons_succ])
                              refine wpAnyH_take (i := 49) (v := ?vqai49) rfl (by kernel_rfl) (by kernel_rfl) (by kernel_rfl) (fun _ _ _ h => h) (Or.inl ⟨by rfl, ?yqai49⟩) (by assumption) ?rqai49
                              case yqai49 => intro w hSw; (try dsimp only at hSw); go_simp <;> (try with_reducible rfl)
                              (try simp only [List.getElem_toArray, List.getElem_cons_succ, List.getElem_cons_zero, Act.put, List.setIfInBounds_toArray, List.set_cons_zero, List.set_cons_succ])
                              refine wpAnyH_ready (rs := [46]) (by kernel_rfl) (by simp) ?_
                              refine AllReadyH.cons rfl (fun K hK => ?_) AllReadyH.nil
                              go_simp
                              go_wp2_with fail
                              (with_reducible refine (HAP.out _).mono ?_)
                              rintro e w27 ⟨rfl, hb27⟩
                              have B6 := B6.next hb27 B6.lt
                              have B7 := B7.next hb27 B7.lt
                              have B16 := B16.next hb27 B16.lt
                              have B17 := B17.next hb27 B17.lt
                              have B19 := B19.next hb27 B19.lt
                              have hbe := below_join hbe hb27
                              refine hK.out _ _ ⟨blk_range B16, blk_range B7, blk_range B17, B6.cell (k := 2) rfl, blk_range B19, blk_range B6⟩ (fun hHeld => ?_)
                              clear hK K hb27
                              refine wpAnyH_ready (rs := [50]) (by kernel_rfl) (by simp) ?_
                              refine AllReadyH.cons rfl (fun K hK => ?_) AllReadyH.nil
                              go_simp
                              go_wp2_with fail
                              (with_reducible refine (HSE.out _).mono ?_)
                              rintro e w28 ⟨rfl, hb28⟩
                              have B6 := B6.next hb28 B6.lt
                              have B7 := B7.next hb28 B7.lt
                              have B16 := B16.next hb28 B16.lt
                              have B17 := B17.next hb28 B17.lt
                              have B19 := B19.next hb28 B19.lt
                              have hbe := below_join hbe hb28
                              refine hK.out _ _ ⟨blk_range B16, blk_range B7, blk_range B17, B6.cell (k := 2) rfl, blk_range B19, blk_range B6⟩ (fun hHeld => ?_)
                              clear hK K hb28
                              refine wpAnyH_take (i := 51) (v := ?vqai51) rfl (by kernel_rfl) (by kernel_rfl) (by kernel_rfl) (fun _ _ _ h => h) (Or.inl ⟨by rfl, ?yqai51⟩) (by assumption) ?rqai51
                              case yqai51 => intro w hSw; (try dsimp only at hSw); go_simp <;> (try with_reducible rfl)
                              (try simp only [List.getElem_toArray, List.getElem_cons_succ, List.getElem_cons_zero, Act.put, List.setIfInBounds_toArray, List.set_cons_zero, List.set_cons_succ])
                              refine wpAnyH_take (i := 52) (v := ?vqai52) rfl (by kernel_rfl) (by kernel_rfl) (by kernel_rfl) (fun _ _ _ h => h) (Or.inl ⟨by rfl, ?yqai52⟩) (by assumption) ?rqai52
                              case yqai52 => intro w hSw; (try dsimp only at hSw); go_simp <;> (try with_reducible rfl)
                              (try simp only [List.getElem_toArray, List.getElem_cons_succ, List.getElem_cons_zero, Act.put, List.setIfInBounds_toArray, List.set_cons_zero, List.set_cons_succ])
                              refine wpAnyH_take (i := 53) (v := ?vqai53) rfl (by kernel_rfl) (by kernel_rfl) (by kernel_rfl) (fun _ _ _ h => h) (Or.inl ⟨by rfl, ?yqai53⟩) (by assumption) ?rqai53
                              case yqai53 => intro w hSw; (try dsimp only at hSw); go_simp <;> (try with_reducible rfl)
                              (try simp only [List.getElem_toArray, List.getElem_cons_succ, List.getElem_cons_zero, Act.put, List.setIfInBounds_toArray, List.set_cons_zero, List.set_cons_succ])
                              refine wpAnyH_done (by kernel_rfl) ?_ _
                              clear hHeld zz16_1 zz7_2 zz17_3 zz19_5 zz6_6
                              go_wp2
                              go_ret
                              exact ⟨rfl, hbe⟩
                          · skip
                            have c1d : decide ((V : Int) ≥ (LO : Int)) = false := decide_eq_false (by omega)
                            have c1e : decide ((LO : Int) ≤ (V : Int)) = false := decide_eq_false (by omega)
                            have c1f : decide (LO ≤ V) = false := decide_eq_false c1
                            rw [if_neg (fun k => c1 k.1)] at hjN
                            have hN2 : N2 = 0 := by rw [← hjN]; rfl
                            subst hN2
                            clear hjN
                            go_wp2
                            have hdd := below_drew wr
                            have B6 := B6.next hdd B6.lt
                            have B7 := B7.next hdd B7.lt
                            have B16 := B16.next hdd B16.lt
                            have B17 := B17.next hdd B17.lt
                            have B19 := B19.next hdd B19.lt
                            have hbe := below_join hbe hdd
                            have zz16_1 : (Tryd.prog.info? 48).map (·.size) = some P.cells.length := (by first | exact Tryd.szP | (simp only [H_length, Pat.cells_length, List.length_append]; exact Tryd.szP))
                            have zz7_2 : (Tryd.prog.info? 30).map (·.size) = some (H h).length := (by first | exact Tryd.szH | (simp only [H_length, Pat.cells_length, List.length_append]; exact Tryd.szH))
                            have zz17_3 : (Tryd.prog.info? 48).map (·.size) = some Q.cells.length := (by first | exact Tryd.szP | (simp only [H_length, Pat.cells_length, List.length_append]; exact Tryd.szP))
                            have zz19_5 : (Tryd.prog.info? 53).map (·.size) = some P.cells.length := (by first | exact Tryd.szM | (simp only [H_length, Pat.cells_length, List.length_append]; exact Tryd.szM))
                            have zz6_6 : (Tryd.prog.info? 33).map (·.size) = some [Value.string s, .int .i64 (a : Int), .int .i64 (n : Int)].length := (by first | exact Tryd.szF | (simp only [H_length, Pat.cells_length, List.length_append]; exact Tryd.szF))
                            refine wp_region_held_drew (S := fun w' => w'.rangeAt g16 0 P.cells ∧ w'.rangeAt g7 0 (H h) ∧ w'.rangeAt g17 0 Q.cells ∧ w'.cell? ⟨g6, 2, none⟩ = some (.int .i64 (n : Int)) ∧ w'.rangeAt g19 0 P.cells ∧ w'.rangeAt g6 0 [Value.string s, .int .i64 (a : Int), .int .i64 (n : Int)]) (by kernel_rfl) ⟨blk_range B16, blk_range B7, blk_range B17, B6.cell (k := 2) rfl, blk_range B19, blk_range B6⟩ (fun hHeld => ?_)
                            clear hdd
                            generalize wr.drew = w23 at B6 B7 B16 B17 B19 hbe hHeld  ⊢
                            refine wpAnyH_ready (rs := [0]) (by kernel_rfl) (by simp) ?_
                            refine AllReadyH.cons rfl (fun K hK => ?_) AllReadyH.nil
                            go_simp
                            go_wp2_with fail
                            (with_reducible refine (HSA.out _ (HQ.out.next hbe)).mono ?_)
                            rintro e w24 ⟨rfl, hb24⟩
                            have B6 := B6.next hb24 B6.lt
                            have B7 := B7.next hb24 B7.lt
                            have B16 := B16.next hb24 B16.lt
                            have B17 := B17.next hb24 B17.lt
                            have B19 := B19.next hb24 B19.lt
                            have hbe := below_join hbe hb24
                            refine hK.out _ _ ⟨blk_range B16, blk_range B7, blk_range B17, B6.cell (k := 2) rfl, blk_range B19, blk_range B6⟩ (fun hHeld => ?_)
                            clear hK K hb24
                            refine wpAnyH_take (i := 1) (v := ?vqaj1) rfl (by kernel_rfl) (by kernel_rfl) (by kernel_rfl) (fun _ _ _ h => h) (Or.inl ⟨by rfl, ?yqaj1⟩) (by assumption) ?rqaj1
                            case yqaj1 => intro w hSw; (try dsimp only at hSw); go_simp <;> (try with_reducible rfl)
                            (try simp only [List.getElem_toArray, List.getElem_cons_succ, List.getElem_cons_zero, Act.put, List.setIfInBounds_toArray, List.set_cons_zero, List.set_cons_succ])
                            refine' wpAnyH_take (i := 2) (v := _) rfl (by kernel_rfl) (by kernel_rfl) (by kernel_rfl) (fun _ _ _ h => h) (yieldsIf_load_mid (by rfl) _ _ (by rfl) _ _ (by rfl) _ _ ?Sqaj2 ?uqaj2 ?dqaj2 ?iqaj2) (by assumption) ?rqaj2
                            case Sqaj2 => exact (by intro w h; exact h.1)
                            case uqaj2 => exact Tryd.underlying48
                            case dqaj2 => rfl
                            case iqaj2 => exact zz16_1
                            (try simp only [List.getElem_toArray, List.getElem_cons_succ, List.getElem_cons_zero, Act.put, List.setIfInBounds_toArray, List.set_cons_zero, List.set_cons_succ])
                            refine' wpAnyH_take (i := 3) (v := _) rfl (by kernel_rfl) (by kernel_rfl) (by kernel_rfl) (fun _ _ _ h => h) (yieldsIf_load_mid (by rfl) _ _ (by rfl) _ _ (by rfl) _ _ ?Sqaj3 ?uqaj3 ?dqaj3 ?iqaj3) (by assumption) ?rqaj3
                            case Sqaj3 => exact (by intro w h; exact h.2.1)
                            case uqaj3 => exact Tryd.underlying30
                            case dqaj3 => rfl
                            case iqaj3 => exact zz7_2
                            (try simp only [List.getElem_toArray, List.getElem_cons_succ, List.getElem_cons_zero, Act.put, List.setIfInBounds_toArray, List.set_cons_zero, List.set_cons_succ])
                            refine wpAnyH_take (i := 5) (v := ?vqaj5) rfl (by kernel_rfl) (by kernel_rfl) (by kernel_rfl) (fun _ _ _ h => h) (Or.inl ⟨by rfl, ?yqaj5⟩) (by assumption) ?rqaj5
                            case yqaj5 => intro w hSw; (try dsimp only at hSw); go_simp <;> (try with_reducible rfl)
                            (try simp only [List.getElem_toArray, List.getElem_cons_succ, List.getElem_cons_zero, Act.put, List.setIfInBounds_toArray, List.set_cons_zero, List.set_cons_succ])
                            refine wpAnyH_take (i := 6) (v := ?vqaj6) rfl (by kernel_rfl) (by kernel_rfl) (by kernel_rfl) (fun _ _ _ h => h) (Or.inl ⟨by rfl, ?yqaj6⟩) (by assumption) ?rqaj6
                            case yqaj6 => intro w hSw; (try dsimp only at hSw); go_simp <;> (try with_reducible rfl)
                            (try simp only [List.getElem_toArray, List.getElem_cons_succ, List.getElem_cons_zero, Act.put, List.setIfInBounds_toArray, List.set_cons_zero, List.set_cons_succ])
                            refine wpAnyH_take (i := 7) (v := ?vqaj7) rfl (by kernel_rfl) (by kernel_rfl) (by kernel_rfl) (fun _ _ _ h => h) (Or.inl ⟨by rfl, ?yqaj7⟩) (by assumption) ?rqaj7
                            case yqaj7 => intro w hSw; (try dsimp only at hSw); go_simp <;> (try with_reducible rfl)
                            (try simp only [List.getElem_toArray, List.getElem_cons_succ, List.getElem_cons_zero, Act.put, List.setIfInBounds_toArray, List.set_cons_zero, List.set_cons_succ])
                            refine wpAnyH_ready (rs := [4]) (by kernel_rfl) (by simp) ?_
                            refine AllReadyH.cons rfl (fun K hK => ?_) AllReadyH.nil
                            go_simp
                            go_wp2_with fail
                            (with_reducible refine (HMP.out _).mono ?_)
                            rintro e w25 ⟨rfl, hb25⟩
                            have B6 := B6.next hb25 B6.lt
                            have B7 := B7.next hb25 B7.lt
                            have B16 := B16.next hb25 B16.lt
                            have B17 := B17.next hb25 B17.lt
                            have B19 := B19.next hb25 B19.lt
                            have hbe := below_join hbe hb25
                            refine hK.out _ _ ⟨blk_range B16, blk_range B7, blk_range B17, B6.cell (k := 2) rfl, blk_range B19, blk_range B6⟩ (fun hHeld => ?_)
                            clear hK K hb25
                            refine wpAnyH_take (i := 8) (v := ?vqaj8) rfl (by kernel_rfl) (by kernel_rfl) (by kernel_rfl) (fun _ _ _ h => h) (Or.inl ⟨by rfl, ?yqaj8⟩) (by assumption) ?rqaj8
                            case yqaj8 => intro w hSw; (try dsimp only at hSw); go_simp <;> (try with_reducible rfl)
                            (try simp only [List.getElem_toArray, List.getElem_cons_succ, List.getElem_cons_zero, Act.put, List.setIfInBounds_toArray, List.set_cons_zero, List.set_cons_succ])
                            refine wpAnyH_take (i := 9) (v := ?vqaj9) rfl (by kernel_rfl) (by kernel_rfl) (by kernel_rfl) (fun _ _ _ h => h) (Or.inl ⟨by rfl, ?yqaj9⟩) (by assumption) ?rqaj9
                            case yqaj9 => intro w hSw; (try dsimp only at hSw); go_simp <;> (try with_reducible rfl)
                            (try simp only [List.getElem_toArray, List.getElem_cons_succ, List.getElem_cons_zero, Act.put, List.setIfInBounds_toArray, List.set_cons_zero, List.set_cons_succ])
                            refine wpAnyH_take (i := 10) (v := ?vqaj10) rfl (by kernel_rfl) (by kernel_rfl) (by kernel_rfl) (fun _ _ _ h => h) (Or.inl ⟨by rfl, ?yqaj10⟩) (by assumption) ?rqaj10
                            case yqaj10 => intro w hSw; (try dsimp only at hSw); go_simp <;> (try with_reducible rfl)
                            (try simp only [List.getElem_toArray, List.getElem_cons_succ, List.getElem_cons_zero, Act.put, List.setIfInBounds_toArray, List.set_cons_zero, List.set_cons_succ])
                            refine' wpAnyH_take (i := 11) (v := _) rfl (by kernel_rfl) (by kernel_rfl) (by kernel_rfl) (fun _ _ _ h => h) (yieldsIf_load_mid (by rfl) _ _ (by rfl) _ _ (by rfl) _ _ ?Sqaj11 ?uqaj11 ?dqaj11 ?iqaj11) (by assumption) ?rqaj11
                            case Sqaj11 => exact (by intro w h; exact h.2.2.1)
                            case uqaj11 => exact Tryd.underlying48
                            case dqaj11 => rfl
                            case iqaj11 => exact zz17_3
                            (try simp only [List.getElem_toArray, List.getElem_cons_succ, List.getElem_cons_zero, Act.put, List.setIfInBounds_toArray, List.set_cons_zero, List.set_cons_succ])
                            refine' wpAnyH_take (i := 12) (v := _) rfl (by kernel_rfl) (by kernel_rfl) (by kernel_rfl) (fun _ _ _ h => h) (yieldsIf_load_mid (by rfl) _ _ (by rfl) _ _ (by rfl) _ _ ?Sqaj12 ?uqaj12 ?dqaj12 ?iqaj12) (by assumption) ?rqaj12
                            case Sqaj12 => exact (by intro w h; exact h.2.1)
                            case uqaj12 => exact Tryd.underlying30
                            case dqaj12 => rfl
                            case iqaj12 => exact zz7_2
                            (try simp only [List.getElem_toArray, List.getElem_cons_succ, List.getElem_cons_zero, Act.put, List.setIfInBounds_toArray, List.set_cons_zero, List.set_cons_succ])
                            refine wpAnyH_take (i := 14) (v := ?vqaj14) rfl (by kernel_rfl) (by kernel_rfl) (by kernel_rfl) (fun _ _ _ h => h) (Or.inl ⟨by rfl, ?yqaj14⟩) (by assumption) ?rqaj14
                            case yqaj14 => intro w hSw; (try dsimp only at hSw); go_simp <;> (try with_reducible rfl)
                            (try simp only [List.getElem_toArray, List.getElem_cons_succ, List.getElem_cons_zero, Act.put, List.setIfInBounds_toArray, List.set_cons_zero, List.set_cons_succ])
                            refine wpAnyH_take (i := 15) (v := ?vqaj15) rfl (by kernel_rfl) (by kernel_rfl) (by kernel_rfl) (fun _ _ _ h => h) (Or.inl ⟨by rfl, ?yqaj15⟩) (by assumption) ?rqaj15
                            case yqaj15 => intro w hSw; (try dsimp only at hSw); go_simp <;> (try with_reducible rfl)
                            (try simp only [List.getElem_toArray, List.getElem_cons_succ, List.getElem_cons_zero, Act.put, List.setIfInBounds_toArray, List.set_cons_zero, List.set_cons_succ])
                            refine wpAnyH_take (i := 16) (v := ?vqaj16) rfl (by kernel_rfl) (by kernel_rfl) (by kernel_rfl) (fun _ _ _ h => h) (Or.inl ⟨by rfl, ?yqaj16⟩) (by assumption) ?rqaj16
                            case yqaj16 => intro w hSw; (try dsimp only at hSw); go_simp <;> (try with_reducible rfl)
                            (try simp only [List.getElem_toArray, List.getElem_cons_succ, List.getElem_cons_zero, Act.put, List.setIfInBounds_toArray, List.set_cons_zero, List.set_cons_succ])
                            refine wpAnyH_take (i := 17) (v := ?vqaj17) rfl (by kernel_rfl) (by kernel_rfl) (by kernel_rfl) (fun _ _ _ h => h) (Or.inl ⟨by rfl, ?yqaj17⟩) (by assumption) ?rqaj17
                            case yqaj17 => intro w hSw; (try dsimp only at hSw); go_simp <;> (try with_reducible rfl)
                            (try simp only [List.getElem_toArray, List.getElem_cons_succ, List.getElem_cons_zero, Act.put, List.setIfInBounds_toArray, List.set_cons_zero, List.set_cons_succ])
                            refine wpAnyH_take (i := 18) (v := ?vqaj18) rfl (by kernel_rfl) (by kernel_rfl) (by kernel_rfl) (fun _ _ _ h => h) (Or.inl ⟨by rfl, ?yqaj18⟩) (by assumption) ?rqaj18
                            case yqaj18 => intro w hSw; (try dsimp only at hSw); go_simp <;> (try with_reducible rfl)
                            (try simp only [List.getElem_toArray, List.getElem_cons_succ, List.getElem_cons_zero, Act.put, List.setIfInBounds_toArray, List.set_cons_zero, List.set_cons_succ])
                            refine wpAnyH_take (i := 19) (v := ?vqaj19) rfl (by kernel_rfl) (by kernel_rfl) (by kernel_rfl) (fun _ _ _ h => h) (Or.inl ⟨by rfl, ?yqaj19⟩) (by assumption) ?rqaj19
                            case yqaj19 => intro w hSw; (try dsimp only at hSw); go_simp <;> (try with_reducible rfl)
                            (try simp only [List.getElem_toArray, List.getElem_cons_succ, List.getElem_cons_zero, Act.put, List.setIfInBounds_toArray, List.set_cons_zero, List.set_cons_succ])
                            refine wpAnyH_take (i := 20) (v := ?vqaj20) rfl (by kernel_rfl) (by kernel_rfl) (by kernel_rfl) (fun _ _ _ h => h) (Or.inl ⟨by rfl, ?yqaj20⟩) (by assumption) ?rqaj20
                            case yqaj20 => intro w hSw; (try dsimp only at hSw); go_simp <;> (try with_reducible rfl)
                            (try simp only [List.getElem_toArray, List.getElem_cons_succ, List.getElem_cons_zero, Act.put, List.setIfInBounds_toArray, List.set_cons_zero, List.set_cons_succ])
                            refine wpAnyH_ready (rs := [13]) (by kernel_rfl) (by simp) ?_
                            refine AllReadyH.cons rfl (fun K hK => ?_) AllReadyH.nil
                            go_simp
                            go_wp2_with fail
                            (with_reducible refine (HMQ.out _).mono ?_)
                            rintro e w26 ⟨rfl, hb26⟩
                            have B6 := B6.next hb26 B6.lt
                            have B7 := B7.next hb26 B7.lt
                            have B16 := B16.next hb26 B16.lt
                            have B17 := B17.next hb26 B17.lt
                            have B19 := B19.next hb26 B19.lt
                            have hbe := below_join hbe hb26
                            refine hK.out _ _ ⟨blk_range B16, blk_range B7, blk_range B17, B6.cell (k := 2) rfl, blk_range B19, blk_range B6⟩ (fun hHeld => ?_)
                            clear hK K hb26
                            refine wpAnyH_take (i := 21) (v := ?vqaj21) rfl (by kernel_rfl) (by kernel_rfl) (by kernel_rfl) (fun _ _ _ h => h) (Or.inl ⟨by rfl, ?yqaj21⟩) (by assumption) ?rqaj21
                            case yqaj21 => intro w hSw; (try dsimp only at hSw); go_simp <;> (try with_reducible rfl)
                            (try simp only [List.getElem_toArray, List.getElem_cons_succ, List.getElem_cons_zero, Act.put, List.setIfInBounds_toArray, List.set_cons_zero, List.set_cons_succ])
                            refine wpAnyH_take (i := 22) (v := ?vqaj22) rfl (by kernel_rfl) (by kernel_rfl) (by kernel_rfl) (fun _ _ _ h => h) (Or.inl ⟨by rfl, ?yqaj22⟩) (by assumption) ?rqaj22
                            case yqaj22 => intro w hSw; (try dsimp only at hSw); go_simp <;> (try with_reducible rfl)
                            (try simp only [List.getElem_toArray, List.getElem_cons_succ, List.getElem_cons_zero, Act.put, List.setIfInBounds_toArray, List.set_cons_zero, List.set_cons_succ])
                            refine wpAnyH_take (i := 23) (v := ?vqaj23) rfl (by kernel_rfl) (by kernel_rfl) (by kernel_rfl) (fun _ _ _ h => h) (Or.inl ⟨by rfl, ?yqaj23⟩) (by assumption) ?rqaj23
                            case yqaj23 => intro w hSw; (try dsimp only at hSw); go_simp <;> (try with_reducible rfl)
                            (try simp only [List.getElem_toArray, List.getElem_cons_succ, List.getElem_cons_zero, Act.put, List.setIfInBounds_toArray, List.set_cons_zero, List.set_cons_succ])
                            refine wpAnyH_take (i := 24) (v := ?vqaj24) rfl (by kernel_rfl) (by kernel_rfl) (by kernel_rfl) (fun _ _ _ h => h) (Or.inl ⟨by rfl, ?yqaj24⟩) (by assumption) ?rqaj24
                            case yqaj24 => intro w hSw; (try dsimp only at hSw); go_simp <;> (try with_reducible rfl)
                            (try simp only [List.getElem_toArray, List.getElem_cons_succ, List.getElem_cons_zero, Act.put, List.setIfInBounds_toArray, List.set_cons_zero, List.set_cons_succ])
                            refine wpAnyH_take (i := 25) (v := ?vqaj25) rfl (by kernel_rfl) (by kernel_rfl) (by kernel_rfl) (fun _ _ _ h => h) (Or.inl ⟨by rfl, ?yqaj25⟩) (by assumption) ?rqaj25
                            case yqaj25 => intro w hSw; (try dsimp only at hSw); go_simp <;> (try with_reducible rfl)
                            (try simp only [List.getElem_toArray, List.getElem_cons_succ, List.getElem_cons_zero, Act.put, List.setIfInBounds_toArray, List.set_cons_zero, List.set_cons_succ])
                            refine wpAnyH_take (i := 26) (v := ?vqaj26) rfl (by kernel_rfl) (by kernel_rfl) (by kernel_rfl) (fun _ _ _ h => h) (Or.inl ⟨by rfl, ?yqaj26⟩) (by assumption) ?rqaj26
                            case yqaj26 => intro w hSw; (try dsimp only at hSw); go_simp <;> (try with_reducible rfl)
                            (try simp only [List.getElem_toArray, List.getElem_cons_succ, List.getElem_cons_zero, Act.put, List.setIfInBounds_toArray, List.set_cons_zero, List.set_cons_succ])
                            refine wpAnyH_take (i := 27) (v := ?vqaj27) rfl (by kernel_rfl) (by kernel_rfl) (by kernel_rfl) (fun _ _ _ h => h) (Or.inl ⟨by rfl, ?yqaj27⟩) (by assumption) ?rqaj27
                            case yqaj27 => intro w hSw; (try dsimp only at hSw); go_simp <;> (try with_reducible rfl)
                            (try simp only [List.getElem_toArray, List.getElem_cons_succ, List.getElem_cons_zero, Act.put, List.setIfInBounds_toArray, List.set_cons_zero, List.set_cons_succ])
                            refine wpAnyH_take (i := 28) (v := ?vqaj28) rfl (by kernel_rfl) (by kernel_rfl) (by kernel_rfl) (fun _ _ _ h => h) (Or.inl ⟨by rfl, ?yqaj28⟩) (by assumption) ?rqaj28
                            case yqaj28 => intro w hSw; (try dsimp only at hSw); go_simp <;> (try with_reducible rfl)
                            (try simp only [List.getElem_toArray, List.getElem_cons_succ, List.getElem_cons_zero, Act.put, List.setIfInBounds_toArray, List.set_cons_zero, List.set_cons_succ])
                            refine wpAnyH_take (i := 29) (v := ?vqaj29) rfl (by kernel_rfl) (by kernel_rfl) (by kernel_rfl) (fun _ _ _ h => h) (Or.inl ⟨by rfl, ?yqaj29⟩) (by assumption) ?rqaj29
                            case yqaj29 => intro w hSw; (try dsimp only at hSw); go_simp <;> (try with_reducible rfl)
                            (try simp only [List.getElem_toArray, List.getElem_cons_succ, List.getElem_cons_zero, Act.put, List.setIfInBounds_toArray, List.set_cons_zero, List.set_cons_succ])
                            refine wpAnyH_take (i := 30) (v := ?vqaj30) rfl (by kernel_rfl) (by kernel_rfl) (by kernel_rfl) (fun _ _ _ h => h) (Or.inl ⟨by rfl, ?yqaj30⟩) (by assumption) ?rqaj30
                            case yqaj30 => intro w hSw; (try dsimp only at hSw); go_simp <;> (try with_reducible rfl)
                            (try simp only [List.getElem_toArray, List.getElem_cons_succ, List.getElem_cons_zero, Act.put, List.setIfInBounds_toArray, List.set_cons_zero, List.set_cons_succ])
                            refine wpAnyH_take (i := 31) (v := ?vqaj31) rfl (by kernel_rfl) (by kernel_rfl) (by kernel_rfl) (fun _ _ _ h => h) (Or.inl ⟨by rfl, ?yqaj31⟩) (by assumption) ?rqaj31
                            case yqaj31 => intro w hSw; (try dsimp only at hSw); go_simp <;> (try with_reducible rfl)
                            (try simp only [List.getElem_toArray, List.getElem_cons_succ, List.getElem_cons_zero, Act.put, List.setIfInBounds_toArray, List.set_cons_zero, List.set_cons_succ])
                            refine wpAnyH_take (i := 32) (v := ?vqaj32) rfl (by kernel_rfl) (by kernel_rfl) (by kernel_rfl) (fun _ _ _ h => h) (Or.inl ⟨by rfl, ?yqaj32⟩) (by assumption) ?rqaj32
                            case yqaj32 => intro w hSw; (try dsimp only at hSw); go_simp <;> (try with_reducible rfl)
                            (try simp only [List.getElem_toArray, List.getElem_cons_succ, List.getElem_cons_zero, Act.put, List.setIfInBounds_toArray, List.set_cons_zero, List.set_cons_succ])
                            refine wpAnyH_take (i := 33) (v := ?vqaj33) rfl (by kernel_rfl) (by kernel_rfl) (by kernel_rfl) (fun _ _ _ h => h) (Or.inl ⟨by rfl, ?yqaj33⟩) (by assumption) ?rqaj33
                            case yqaj33 => intro w hSw; (try dsimp only at hSw); go_simp <;> (try with_reducible rfl)
                            (try simp only [List.getElem_toArray, List.getElem_cons_succ, List.getElem_cons_zero, Act.put, List.setIfInBounds_toArray, List.set_cons_zero, List.set_cons_succ])
                            refine wpAnyH_take (i := 34) (v := ?vqaj34) rfl (by kernel_rfl) (by kernel_rfl) (by kernel_rfl) (fun _ _ _ h => h) (Or.inl ⟨by rfl, ?yqaj34⟩) (by assumption) ?rqaj34
                            case yqaj34 => intro w hSw; (try dsimp only at hSw); go_simp <;> (try with_reducible rfl)
                            (try simp only [List.getElem_toArray, List.getElem_cons_succ, List.getElem_cons_zero, Act.put, List.setIfInBounds_toArray, List.set_cons_zero, List.set_cons_succ])
                            refine wpAnyH_take (i := 35) (v := ?vqaj35) rfl (by kernel_rfl) (by kernel_rfl) (by kernel_rfl) (fun _ _ _ h => h) (Or.inl ⟨by rfl, ?yqaj35⟩) (by assumption) ?rqaj35
                            case yqaj35 => intro w hSw; (try dsimp only at hSw); go_simp <;> (try with_reducible rfl)
                            (try simp only [List.getElem_toArray, List.getElem_cons_succ, List.getElem_cons_zero, Act.put, List.setIfInBounds_toArray, List.set_cons_zero, List.set_cons_succ])
                            refine wpAnyH_take (i := 36) (v := ?vqaj36) rfl (by kernel_rfl) (by kernel_rfl) (by kernel_rfl) (fun _ _ _ h => h) (Or.inl ⟨by rfl, ?yqaj36⟩) (by assumption) ?rqaj36
                            case yqaj36 => intro w hSw; (try dsimp only at hSw); go_simp <;> (try with_reducible rfl)
                            (try simp only [List.getElem_toArray, List.getElem_cons_succ, List.getElem_cons_zero, Act.put, List.setIfInBounds_toArray, List.set_cons_zero, List.set_cons_succ])
                            refine wpAnyH_take (i := 37) (v := ?vqaj37) rfl (by kernel_rfl) (by kernel_rfl) (by kernel_rfl) (fun _ _ _ h => h) (Or.inl ⟨by rfl, ?yqaj37⟩) (by assumption) ?rqaj37
                            case yqaj37 => intro w hSw; have hSc := hSw.2.2.2.1; go_simp <;> (try with_reducible rfl)
                            (try simp only [List.getElem_toArray, List.getElem_cons_succ, List.getElem_cons_zero, Act.put, List.setIfInBounds_toArray, List.set_cons_zero, List.set_cons_succ])
                            refine wpAnyH_take (i := 38) (v := ?vqaj38) rfl (by kernel_rfl) (by kernel_rfl) (by kernel_rfl) (fun _ _ _ h => h) (Or.inl ⟨by rfl, ?yqaj38⟩) (by assumption) ?rqaj38
                            case yqaj38 => intro w hSw; (try dsimp only at hSw); go_simp <;> (try with_reducible rfl)
                            (try simp only [List.getElem_toArray, List.getElem_cons_succ, List.getElem_cons_zero, Act.put, List.setIfInBounds_toArray, List.set_cons_zero, List.set_cons_succ])
                            refine wpAnyH_take (i := 39) (v := ?vqaj39) rfl (by kernel_rfl) (by kernel_rfl) (by kernel_rfl) (fun _ _ _ h => h) (Or.inl ⟨by rfl, ?yqaj39⟩) (by assumption) ?rqaj39
                            case yqaj39 => intro w hSw; (try dsimp only at hSw); go_simp <;> (try with_reducible rfl)
                            (try simp only [List.getElem_toArray, List.getElem_cons_succ, List.getElem_cons_zero, Act.put, List.setIfInBounds_toArray, List.set_cons_zero, List.set_cons_succ])
                            refine wpAnyH_take (i := 40) (v := ?vqaj40) rfl (by kernel_rfl) (by kernel_rfl) (by kernel_rfl) (fun _ _ _ h => h) (Or.inl ⟨by rfl, ?yqaj40⟩) (by assumption) ?rqaj40
                            case yqaj40 => intro w hSw; (try dsimp only at hSw); go_simp <;> (try with_reducible rfl)
                            (try simp only [List.getElem_toArray, List.getElem_cons_succ, List.getElem_cons_zero, Act.put, List.setIfInBounds_toArray, List.set_cons_zero, List.set_cons_succ])
                            refine wpAnyH_take (i := 41) (v := ?vqaj41) rfl (by kernel_rfl) (by kernel_rfl) (by kernel_rfl) (fun _ _ _ h => h) (Or.inl ⟨by rfl, ?yqaj41⟩) (by assumption) ?rqaj41
                            case yqaj41 => intro w hSw; (try dsimp only at hSw); go_simp <;> (try with_reducible rfl)
                            (try simp only [List.getElem_toArray, List.getElem_cons_succ, List.getElem_cons_zero, Act.put, List.setIfInBounds_toArray, List.set_cons_zero, List.set_cons_succ])
                            refine wpAnyH_take (i := 42) (v := ?vqaj42) rfl (by kernel_rfl) (by kernel_rfl) (by kernel_rfl) (fun _ _ _ h => h) (Or.inl ⟨by rfl, ?yqaj42⟩) (by assumption) ?rqaj42
                            case yqaj42 => intro w hSw; (try dsimp only at hSw); go_simp <;> (try with_reducible rfl)
                            (try simp only [List.getElem_toArray, List.getElem_cons_succ, List.getElem_cons_zero, Act.put, List.setIfInBounds_toArray, List.set_cons_zero, List.set_cons_succ])
                            refine wpAnyH_take (i := 43) (v := ?vqaj43) rfl (by kernel_rfl) (by kernel_rfl) (by kernel_rfl) (fun _ _ _ h => h) (Or.inl ⟨by rfl, ?yqaj43⟩) (by assumption) ?rqaj43
                            case yqaj43 => intro w hSw; (try dsimp only at hSw); go_simp <;> (try with_reducible rfl)
                            (try simp only [List.getElem_toArray, List.getElem_cons_succ, List.getElem_cons_zero, Act.put, List.setIfInBounds_toArray, List.set_cons_zero, List.set_cons_succ])
                            refine' wpAnyH_take (i := 44) (v := _) rfl (by kernel_rfl) (by kernel_rfl) (by kernel_rfl) (fun _ _ _ h => h) (yieldsIf_load_mid (by rfl) _ _ (by rfl) _ _ (by rfl) _ _ ?Sqaj44 ?uqaj44 ?dqaj44 ?iqaj44) (by assumption) ?rqaj44
                            case Sqaj44 => exact (by intro w h; exact h.2.2.2.2.1)
                            case uqaj44 => exact Tryd.underlying53
                            case dqaj44 => rfl
                            case iqaj44 => exact zz19_5
                            (try simp only [List.getElem_toArray, List.getElem_cons_succ, List.getElem_cons_zero, Act.put, List.setIfInBounds_toArray, List.set_cons_zero, List.set_cons_succ])
                            refine' wpAnyH_take (i := 45) (v := _) rfl (by kernel_rfl) (by kernel_rfl) (by kernel_rfl) (fun _ _ _ h => h) (yieldsIf_load_mid (by rfl) _ _ (by rfl) _ _ (by rfl) _ _ ?Sqaj45 ?uqaj45 ?dqaj45 ?iqaj45) (by assumption) ?rqaj45
                            case Sqaj45 => exact (by intro w h; exact h.2.1)
                            case uqaj45 => exact Tryd.underlying30
                            case dqaj45 => rfl
                            case iqaj45 => exact zz7_2
                            (try simp only [List.getElem_toArray, List.getElem_cons_succ, List.getElem_cons_zero, Act.put, List.setIfInBounds_toArray, List.set_cons_zero, List.set_cons_succ])
                            refine' wpAnyH_take (i := 47) (v := _) rfl (by kernel_rfl) (by kernel_rfl) (by kernel_rfl) (fun _ _ _ h => h) (yieldsIf_load_mid (by rfl) _ _ (by rfl) _ _ (by rfl) _ _ ?Sqaj47 ?uqaj47 ?dqaj47 ?iqaj47) (by assumption) ?rqaj47
                            case Sqaj47 => exact (by intro w h; exact h.2.2.2.2.2)
                            case uqaj47 => exact Tryd.underlying33
                            case dqaj47 => rfl
                            case iqaj47 => exact zz6_6
                            (try simp only [List.getElem_toArray, List.getElem_cons_succ, List.getElem_cons_zero, Act.put, List.setIfInBounds_toArray, List.set_cons_zero, List.set_cons_succ])
                            refine' wpAnyH_take (i := 48) (v := _) rfl (by kernel_rfl) (by kernel_rfl) (by kernel_rfl) (fun _ _ _ h => h) (yieldsIf_load_mid (by rfl) _ _ (by rfl) _ _ (by rfl) _ _ ?Sqaj48 ?uqaj48 ?dqaj48 ?iqaj48) (by assumption) ?rqaj48
                            case Sqaj48 => exact (by intro w h; exact h.2.1)
                            case uqaj48 => exact Tryd.underlying30
                            case dqaj48 => rfl
                            case iqaj48 => exact zz7_2
                            (try simp only [List.getElem_toArray, List.getElem_cons_succ, List.getElem_cons_zero, Act.put, List.setIfInBounds_toArray, List.set_cons_zero, List.set_cons_succ])
                            refine wpAnyH_take (i := 49) (v := ?vqaj49) rfl (by kernel_rfl) (by kernel_rfl) (by kernel_rfl) (fun _ _ _ h => h) (Or.inl ⟨by rfl, ?yqaj49⟩) (by assumption) ?rqaj49
                            case yqaj49 => intro w hSw; (try dsimp only at hSw); go_simp <;> (try with_reducible rfl)
                            (try simp only [List.getElem_toArray, List.getElem_cons_succ, List.getElem_cons_zero, Act.put, List.setIfInBounds_toArray, List.set_cons_zero, List.set_cons_succ])
                            refine wpAnyH_ready (rs := [46]) (by kernel_rfl) (by simp) ?_
                            refine AllReadyH.cons rfl (fun K hK => ?_) AllReadyH.nil
                            go_simp
                            go_wp2_with fail
                            (with_reducible refine (HAP.out _).mono ?_)
                            rintro e w27 ⟨rfl, hb27⟩
                            have B6 := B6.next hb27 B6.lt
                            have B7 := B7.next hb27 B7.lt
                            have B16 := B16.next hb27 B16.lt
                            have B17 := B17.next hb27 B17.lt
                            have B19 := B19.next hb27 B19.lt
                            have hbe := below_join hbe hb27
                            refine hK.out _ _ ⟨blk_range B16, blk_range B7, blk_range B17, B6.cell (k := 2) rfl, blk_range B19, blk_range B6⟩ (fun hHeld => ?_)
                            clear hK K hb27
                            refine wpAnyH_ready (rs := [50]) (by kernel_rfl) (by simp) ?_
                            refine AllReadyH.cons rfl (fun K hK => ?_) AllReadyH.nil
                            go_simp
                            go_wp2_with fail
                            (with_reducible refine (HSE.out _).mono ?_)
                            rintro e w28 ⟨rfl, hb28⟩
                            have B6 := B6.next hb28 B6.lt
                            have B7 := B7.next hb28 B7.lt
                            have B16 := B16.next hb28 B16.lt
                            have B17 := B17.next hb28 B17.lt
                            have B19 := B19.next hb28 B19.lt
                            have hbe := below_join hbe hb28
                            refine hK.out _ _ ⟨blk_range B16, blk_range B7, blk_range B17, B6.cell (k := 2) rfl, blk_range B19, blk_range B6⟩ (fun hHeld => ?_)
                            clear hK K hb28
                            refine wpAnyH_take (i := 51) (v := ?vqaj51) rfl (by kernel_rfl) (by kernel_rfl) (by kernel_rfl) (fun _ _ _ h => h) (Or.inl ⟨by rfl, ?yqaj51⟩) (by assumption) ?rqaj51
                            case yqaj51 => intro w hSw; (try dsimp only at hSw); go_simp <;> (try with_reducible rfl)
                            (try simp only [List.getElem_toArray, List.getElem_cons_succ, List.getElem_cons_zero, Act.put, List.setIfInBounds_toArray, List.set_cons_zero, List.set_cons_succ])
                            refine wpAnyH_take (i := 52) (v := ?vqaj52) rfl (by kernel_rfl) (by kernel_rfl) (by kernel_rfl) (fun _ _ _ h => h) (Or.inl ⟨by rfl, ?yqaj52⟩) (by assumption) ?rqaj52
                            case yqaj52 => intro w hSw; (try dsimp only at hSw); go_simp <;> (try with_reducible rfl)
                            (try simp only [List.getElem_toArray, List.getElem_cons_succ, List.getElem_cons_zero, Act.put, List.setIfInBounds_toArray, List.set_cons_zero, List.set_cons_succ])
                            refine wpAnyH_take (i := 53) (v := ?vqaj53) rfl (by kernel_rfl) (by kernel_rfl) (by kernel_rfl) (fun _ _ _ h => h) (Or.inl ⟨by rfl, ?yqaj53⟩) (by assumption) ?rqaj53
                            case yqaj53 => intro w hSw; (try dsimp only at hSw); go_simp <;> (try with_reducible rfl)
                            (try simp only [List.getElem_toArray, List.getElem_cons_succ, List.getElem_cons_zero, Act.put, List.setIfInBounds_toArray, List.set_cons_zero, List.set_cons_succ])
                            refine wpAnyH_done (by kernel_rfl) ?_ _
                            clear hHeld zz16_1 zz7_2 zz17_3 zz19_5 zz6_6
                            go_wp2
                            go_ret
                            exact ⟨rfl, hbe⟩
/-- Whatever comes in. -/
theorem matchLaw_any (s : ByteArray) (a n x m lo hi : Int) (hl : List Int) (w : World) (hl10 : hl.length = 10) (hs : s.size ≤ 9223372036854775807) (hQ : QF w) :
    Calls Tryd.prog 6 #[.agg #[.string s, .int .i64 a, .int .i64 n], .agg (hl.map iV).toArray, .int .i64 x, .int .i64 m, .int .i64 lo, .int .i64 hi] w fun e w' => e = .returned (.bool true) ∧ Below w.heap.size w w' := by
  by_cases hb : rightF ⟨s, a, n⟩ ∧ rightI hl
  · obtain ⟨a', n', ha, hn, hLf⟩ := right_lies hb.1
    obtain ⟨h, hh⟩ := right_head hl10 hb.2
    have ha : a = (a' : Int) := ha
    have hn : n = (n' : Int) := hn
    subst ha hn hh
    rw [← H_iV]
    exact matchGood_any s a' n' x m lo hi h w hs hQ hLf hb.1
  · exact matchBad_any s a n x m lo hi hl w hl10 hs hQ hb
end Go.Proofs.YtbgndopgllnmaaaDoor
