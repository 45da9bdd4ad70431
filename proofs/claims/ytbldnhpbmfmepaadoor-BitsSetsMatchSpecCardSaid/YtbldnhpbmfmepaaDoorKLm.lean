/-
  The walk of BitsSetsMatchSpec. Conditions: the library's variable lies there.
-/
import Derived.Test.YtbldnhpbmfmepaaDoorGZ
import Derived.Test.YtbldnhpbmfmepaaDoorGX
import Derived.Test.YtbldnhpbmfmepaaDoorKLo
import Derived.Test.YtbldnhpbmfmepaaDoorKTh
namespace Go.Proofs.YtbldnhpbmfmepaaDoor
set_option linter.unusedVariables false
set_option linter.unusedSimpArgs false
open Go.RowKit

/-- What SameSet answers: a head and whether the sets are the same. -/
def SamOk (a b : List Pat) (y : Nat → Bool) (I : Bool) : Prop := ∃ R, sameR a b R ∧ R.getD no = y ∧ R.isNone = I
theorem samOk_of {a b : List Pat} {R : Bnd} (h : sameR a b R) : ∃ y I, sameV R = .tuple #[.agg (H y).toArray, .bool I] ∧ SamOk a b y I := by
  refine ⟨R.getD no, R.isNone, ?_, R, h, rfl, rfl⟩
  cases R <;> rfl
theorem samOk_uniq {a b : List Pat} {y z : Nat → Bool} {I J : Bool} (h1 : SamOk a b y I) (h2 : SamOk a b z J) : H z = H y ∧ J = I := by
  obtain ⟨R, r1, rfl, rfl⟩ := h1
  obtain ⟨S, s1, rfl, rfl⟩ := h2
  rcases r1 with ⟨rfl, n1⟩ | ⟨m, rfl, a1, a2⟩ <;> rcases s1 with ⟨rfl, n2⟩ | ⟨m', rfl, b1, b2⟩
  · exact ⟨rfl, rfl⟩
  · exact absurd b1 (n1 m')
  · exact absurd a1 (n2 m)
  · have := Nat.le_antisymm (a2 m' b1) (b2 m a1)
    exact ⟨H_congr (fun i hi => (num_inj this hi).symm), rfl⟩

set_option maxRecDepth 100000 in
set_option maxHeartbeats 3200000 in
theorem sms_long (A0 A1 : Option Addr) (c0 c1 n m : Nat) (w : World) (h6 : ¬ n ≤ 6) (hG : GOk w) :
    Calls Tryd.prog 6 #[.slice A0 n c0, .slice A1 m c1] w fun e w' => e = .returned (.bool true) ∧ Below w.heap.size w w' := by
  have HG := Lib.hid hG
  have hg6 : decide ((6 : Int) < (n : Int)) = true := decide_eq_true (by omega)
  clear hG
  go_enter Tryd.func6, Tryd.ntmps6
  go_wp2_with fail
  (with_reducible refine (sanity_any _ HG.out).mono ?_)
  rintro e w1 ⟨rfl, hb1⟩
  have hbe : Below w.heap.size w w1 := hb1
  clear hb1
  go_wp2
  go_ret
  exact ⟨rfl, hbe⟩
set_option maxRecDepth 100000 in
set_option maxHeartbeats 6400000 in
theorem sms_bad (A0 A1 : Option Addr) (c0 c1 : Nat) (la lb : List (List Int × List Int)) (w : World) (h6 : la.length ≤ 6) (hTa : Tens la) (hTb : Tens lb) (hRa : RawAt w A0 la) (hRb : RawAt w A1 lb) (hn0 : A0 = none → la.length = 0 ∧ c0 = 0) (hn1 : A1 = none → lb.length = 0 ∧ c1 = 0) (hlb : lb.length * 160 ≤ 140737488351232) (hG : GOk w)
    (hF : ∀ (A : Option Addr) (c : Nat) (w : World), RawAt w A (la ++ lb) → Calls Tryd.prog 52 #[.slice A (la.length + lb.length) c, .int .i64 12] w fun e w' => e = .returned (.bool false) ∧ Below w.heap.size w w') :
    Calls Tryd.prog 6 #[.slice A0 la.length c0, .slice A1 lb.length c1] w fun e w' => e = .returned (.bool true) ∧ Below w.heap.size w w' := by
  have HG := Lib.hid hG
  have hcA := hRa.cells hTa
  have hcB := hRb.cells hTb
  have hlA : (rawRow la).length = la.length * 20 := rawRow_length hTa
  have hlB : (rawRow lb).length = lb.length * 20 := rawRow_length hTb
  have hT3 : Tens (la ++ lb) := fun x hx => by
    rcases List.mem_append.1 hx with hx | hx
    · exact hTa x hx
    · exact hTb x hx
  have hrow : rawRow (la ++ lb) = rawRow la ++ rawRow lb := List.flatMap_append
  have hlen : (la ++ lb).length = la.length + lb.length := List.length_append
  have hfin : ∀ w (v : Value), w.ownsRow 0 25 20 v (la.length + lb.length) (rawRow la ++ rawRow lb) → ∃ A c, v = .slice A (la.length + lb.length) c ∧ RawAt w A (la ++ lb) := fun w v how => by
    obtain ⟨A, c, rfl, _⟩ := own_shape how
    rw [← hrow] at how
    exact ⟨A, c, rfl, own_raws hT3 hlen how⟩
  have HFIN := Lib.hid hfin
  have HF := Lib.hid hF
  have HCA := Lib.hid hcA
  have HCB := Lib.hid hcB
  have HLA := Lib.hid hlA
  have HLB := Lib.hid hlB
  have HN0 := Lib.hid hn0
  have HN1 := Lib.hid hn1
  obtain ⟨Ya, hYa⟩ : ∃ Y, Hid (rawRow la = Y) := ⟨_, rfl⟩
  obtain ⟨Yb, hYb⟩ : ∃ Y, Hid (rawRow lb = Y) := ⟨_, rfl⟩
  have Y1a := Lib.hid (rawRow_one la)
  have Y1b := Lib.hid (rawRow_one lb)
  rw [hYa.out] at HCA HLA Y1a HFIN
  rw [hYb.out] at HCB HLB Y1b HFIN
  obtain ⟨n, hn⟩ : ∃ n, Hid (la.length = n) := ⟨_, rfl⟩
  obtain ⟨m, hm⟩ : ∃ m, Hid (lb.length = m) := ⟨_, rfl⟩
  rw [hn.out] at HF HLA HN0 HFIN h6
  rw [hm.out] at HF HLB HN1 HFIN hlb
  rw [hn.out, hm.out]
  have hg6 : decide ((6 : Int) < (n : Int)) = false := decide_eq_false (by omega)
  clear hTa hTb hRa hRb hn0 hn1 hG hF hcA hcB hlA hlB hT3 hrow hlen hfin
  go_enter Tryd.func6, Tryd.ntmps6
  go_wp2_with fail
  (with_reducible refine (sanity_any _ HG.out).mono ?_)
  rintro e w1 ⟨rfl, hb1⟩
  have hbe : Below w.heap.size w w1 := hb1
  clear hb1
  have hbe0 := hbe
  go_wp2_with (first | (with_reducible refine wpList_row0 (o := ⟨some 15, .buildSlice 31 0 #[], _, _, _, _⟩) (by with_unfolding_all rfl) (by with_unfolding_all rfl) ?_))
  intro v0 w2 hb2 OW
  have hbe := below_join hbe hb2
  have hbx := hb2
  clear hb2
  have hbs := hbx.size
  go_wp2_with (first | (with_reducible refine wpList_appR _ (o := ⟨some 17, .call ⟨.builtin .append, #[.tmp 15, .tmp 16], #[31, 31]⟩, _, _, _, _⟩) (by with_unfolding_all rfl) (.tmp 15) (.tmp 16) (by with_unfolding_all rfl) w1.heap.size _ 0 [] (by with_unfolding_all rfl) OW A0 n c0 Ya (by with_unfolding_all rfl) HLA.out (HCA.out.next hbe) Y1a.out HN0.out (by omega) hbs ?_))
  intro v1 w3 OW1 GR1
  have hbx := hbx.grown GR1 hbs (fun g hg => (OW.lt g hg).1)
  have hbe := below_join hbe0 hbx
  clear GR1 OW
  have hbs := hbx.size
  have OW1 : w3.ownsRow w1.heap.size 25 20 v1 n Ya := by simpa using OW1
  go_wp2_with (first | (with_reducible refine wpList_appR _ (o := ⟨some 19, .call ⟨.builtin .append, #[.tmp 17, .tmp 18], #[31, 31]⟩, _, _, _, _⟩) (by with_unfolding_all rfl) (.tmp 17) (.tmp 18) (by with_unfolding_all rfl) w1.heap.size _ n Ya (by with_unfolding_all rfl) OW1 A1 m c1 Yb (by with_unfolding_all rfl) HLB.out (HCB.out.next hbe) Y1b.out HN1.out (by omega) hbs ?_))
  intro v2 w4 OW2 GR2
  have hbx := hbx.grown GR2 hbs (fun g hg => (OW1.lt g hg).1)
  have hbe := below_join hbe0 hbx
  clear GR2 OW1 hbs
  clear hbx hbe0
  obtain ⟨AF, cF, rfl, HRW⟩ := HFIN.out _ _ (own_mono OW2 (fun _ _ => Nat.zero_le _))
  clear OW2
  go_wp2_with fail
  (with_reducible refine (HF.out _ _ _ HRW).mono ?_)
  rintro e w5 ⟨rfl, hb5⟩
  have hbe := below_join hbe hb5
  clear hb5
  clear HRW
  go_wp2
  go_ret
  exact ⟨rfl, hbe⟩
set_option maxRecDepth 100000 in
set_option maxHeartbeats 12800000 in
theorem sms_good (A0 A1 : Option Addr) (c0 c1 : Nat) (la lb : List Pat) (w : World) (hoa : ∀ q ∈ la, q.ok) (hob : ∀ q ∈ lb, q.ok) (ha : PatsAt w A0 la) (hb : PatsAt w A1 lb) (hn0 : A0 = none → la.length = 0 ∧ c0 = 0) (hn1 : A1 = none → lb.length = 0 ∧ c1 = 0) (hg0 : ∀ g o, A0 = some ⟨g, o, none⟩ → g < w.heap.size) (hg1 : ∀ g o, A1 = some ⟨g, o, none⟩ → g < w.heap.size) (h6 : la.length ≤ 6) (hll : la.length + lb.length ≤ 12) (hcn : cnt (fixTo (la ++ lb) (la.length + lb.length)) 0 160 ≤ 12) (hG : GOk w) :
    Calls Tryd.prog 6 #[.slice A0 la.length c0, .slice A1 lb.length c1] w fun e w' => e = .returned (.bool true) ∧ Below w.heap.size w w' := by
  have HG := Lib.hid hG
  have hcA := ha.cellsAt
  have hcB := hb.cellsAt
  have hrow : patCells (la ++ lb) = patCells la ++ patCells lb := List.flatMap_append
  have hlen : (la ++ lb).length = la.length + lb.length := List.length_append
  have hfin : ∀ w (v : Value), w.ownsRow 0 25 20 v (la.length + lb.length) (patCells la ++ patCells lb) → ∃ A c, v = .slice A (la.length + lb.length) c ∧ PatsAt w A (la ++ lb) := fun w v how => by
    obtain ⟨A, c, rfl, _⟩ := own_shape how
    rw [← hrow, ← hlen] at how
    exact ⟨A, c, rfl, own_pats how⟩
  have hfew : ∀ A c w, PatsAt w A (la ++ lb) → Calls Tryd.prog 52 #[.slice A (la.length + lb.length) c, .int .i64 12] w fun e w' => e = .returned (.bool true) ∧ Below w.heap.size w w' := fun A c w hw => by
    have := rfew_pats A c (la ++ lb) 12 w (by rw [hlen]; omega) (by decide) (fun x hx => by
      rcases List.mem_append.1 hx with hx | hx
      · exact hoa x hx
      · exact hob x hx) hw
    rw [hlen, decide_eq_true hll, decide_eq_true hcn] at this
    exact this
  have hU : ∀ q, q ∈ la ++ lb → ∀ i, i < 160 → q.m i = true → fixTo (la ++ lb) (la.length + lb.length) i = true := fun q hq i _ hm => by
    unfold fixTo
    rw [List.take_of_length_le (by rw [hlen]; exact Nat.le_refl _)]
    exact List.any_eq_true.2 ⟨q, hq, hm⟩
  have f1 : ∀ x, x ∈ la → ∀ k, (leftTo x lb k).length ≤ 5000 := fun x _ k => Nat.le_trans (left_4096 (fun q hq => hU q (List.mem_append_right _ hq)) hcn k) (by decide)
  have f2 : ∀ x, x ∈ lb → ∀ k, (leftTo x la k).length ≤ 5000 := fun x _ k => Nat.le_trans (left_4096 (fun q hq => hU q (List.mem_append_left _ hq)) hcn k) (by decide)
  have c4 : ∀ W, Below w.heap.size w W → PatsAt W A0 la → PatsAt W A1 lb → Calls Tryd.prog 62 #[.slice A0 la.length c0, .slice A1 lb.length c1] W fun e w' => (∃ y I, e = .returned (.tuple #[.agg (H y).toArray, .bool I]) ∧ SamOk la lb y I) ∧ Below W.heap.size W w' := fun W hbw ha hb => (sameSet_any c0 c1 A0 A1 la lb W hoa hob (by omega) (by omega) ha hb (fun g o e => Nat.lt_of_lt_of_le (hg0 g o e) hbw.size) (fun g o e => Nat.lt_of_lt_of_le (hg1 g o e) hbw.size)).mono fun e w' h => by
    obtain ⟨R, rfl, hf, hb⟩ := h
    obtain ⟨y, I, e, ho⟩ := samOk_of hf
    exact ⟨⟨y, I, by rw [e], ho⟩, hb⟩
  have c5 : ∀ W, PatsAt W A0 la → PatsAt W A1 lb → Calls Tryd.prog 63 #[.slice A0 la.length c0, .slice A1 lb.length c1] W fun e w' => (∃ y I, e = .returned (.tuple #[.agg (H y).toArray, .bool I]) ∧ SamOk la lb y I) ∧ Below W.heap.size W w' := fun W ha hb => (rsameSet_any c0 c1 A0 A1 la lb W hoa hob (by omega) (by omega) f1 f2 ha hb).mono fun e w' h => by
    obtain ⟨R, rfl, hf, hb⟩ := h
    obtain ⟨y, I, e, ho⟩ := samOk_of hf
    exact ⟨⟨y, I, by rw [e], ho⟩, hb⟩
  have eH : ∀ (x : Nat → Bool) w, (binOp .eql 23 (.agg (H x).toArray) (.agg (H x).toArray)).run Tryd.prog w = .ok (.bool true) w := fun x w => by rw [H_iV, eql_head w _ _ (HI_length _) (HI_length _)]; simp
  obtain ⟨n, hn⟩ : ∃ n, la.length = n := ⟨_, rfl⟩
  obtain ⟨m, hm⟩ : ∃ m, lb.length = m := ⟨_, rfl⟩
  have hlA : (patCells la).length = n * 20 := by rw [patCells_length, hn]
  have hlB : (patCells lb).length = m * 20 := by rw [patCells_length, hm]
  have y1a := patCells_one la
  have y1b := patCells_one lb
  obtain ⟨Ya, hYa⟩ : ∃ Y, patCells la = Y := ⟨_, rfl⟩
  obtain ⟨Yb, hYb⟩ : ∃ Y, patCells lb = Y := ⟨_, rfl⟩
  rw [hYa] at hcA hlA y1a hfin
  rw [hYb] at hcB hlB y1b hfin
  rw [hn] at hfin hfew hn0 c4 c5 h6 hll
  rw [hm] at hfin hfew hn1 c4 c5 hll
  rw [hn, hm]
  have hg6 : decide ((6 : Int) < (n : Int)) = false := decide_eq_false (by omega)
  have PA := ha
  have PB := hb
  have HFIN := Lib.hid hfin
  have HF := Lib.hid hfew
  have HCA := Lib.hid hcA
  have HCB := Lib.hid hcB
  have HLA := Lib.hid hlA
  have HLB := Lib.hid hlB
  have Y1a := Lib.hid y1a
  have Y1b := Lib.hid y1b
  have HN0 := Lib.hid hn0
  have HN1 := Lib.hid hn1
  have C4 := Lib.hid c4
  have C5 := Lib.hid c5
  clear hfin hfew hcA hcB hlA hlB y1a y1b hn0 hn1 c4 c5 hoa hob hn hm hYa hYb hrow hlen ha hb hG hcn hU f1 f2 hg0 hg1
  go_enter Tryd.func6, Tryd.ntmps6
  go_wp2_with fail
  (with_reducible refine (sanity_any _ HG.out).mono ?_)
  rintro e w1 ⟨rfl, hb1⟩
  have PA := PA.next hb1
  have PB := PB.next hb1
  have hbe : Below w.heap.size w w1 := hb1
  clear hb1
  have PAo := PA
  have PBo := PB
  have hbe0 := hbe
  go_wp2_with (first | (with_reducible refine wpList_row0 (o := ⟨some 15, .buildSlice 31 0 #[], _, _, _, _⟩) (by with_unfolding_all rfl) (by with_unfolding_all rfl) ?_))
  intro v0 w2 hb2 OW
  have PA := PA.next hb2
  have PB := PB.next hb2
  have hbe := below_join hbe hb2
  have hbx := hb2
  clear hb2
  have hbs := hbx.size
  go_wp2_with (first | (with_reducible refine wpList_appR _ (o := ⟨some 17, .call ⟨.builtin .append, #[.tmp 15, .tmp 16], #[31, 31]⟩, _, _, _, _⟩) (by with_unfolding_all rfl) (.tmp 15) (.tmp 16) (by with_unfolding_all rfl) w1.heap.size _ 0 [] (by with_unfolding_all rfl) OW A0 n c0 Ya (by with_unfolding_all rfl) HLA.out (HCA.out.next hbe) Y1a.out HN0.out (by omega) hbs ?_))
  intro v1 w3 OW1 GR1
  have hbx := hbx.grown GR1 hbs (fun g hg => (OW.lt g hg).1)
  have hbe := below_join hbe0 hbx
  clear GR1 OW
  have hbs := hbx.size
  have OW1 : w3.ownsRow w1.heap.size 25 20 v1 n Ya := by simpa using OW1
  go_wp2_with (first | (with_reducible refine wpList_appR _ (o := ⟨some 19, .call ⟨.builtin .append, #[.tmp 17, .tmp 18], #[31, 31]⟩, _, _, _, _⟩) (by with_unfolding_all rfl) (.tmp 17) (.tmp 18) (by with_unfolding_all rfl) w1.heap.size _ n Ya (by with_unfolding_all rfl) OW1 A1 m c1 Yb (by with_unfolding_all rfl) HLB.out (HCB.out.next hbe) Y1b.out HN1.out (by omega) hbs ?_))
  intro v2 w4 OW2 GR2
  have hbx := hbx.grown GR2 hbs (fun g hg => (OW1.lt g hg).1)
  have hbe := below_join hbe0 hbx
  clear GR2 OW1 hbs
  have PA := PAo.next hbx
  clear PAo
  have PB := PBo.next hbx
  clear PBo
  clear hbx hbe0
  obtain ⟨AF, cF, rfl, HRW⟩ := HFIN.out _ _ (own_mono OW2 (fun _ _ => Nat.zero_le _))
  clear OW2
  go_wp2_with fail
  (with_reducible refine (HF.out _ _ _ HRW).mono ?_)
  rintro e w5 ⟨rfl, hb5⟩
  have PA := PA.next hb5
  have PB := PB.next hb5
  have hbe := below_join hbe hb5
  clear hb5
  clear HRW
  go_wp2_with fail
  (with_reducible refine (C4.out _ hbe PA PB).mono ?_)
  rintro e w6 ⟨⟨y1, I1, rfl, HO1⟩, hb6⟩
  have PA := PA.next hb6
  have PB := PB.next hb6
  have hbe := below_join hbe hb6
  clear hb6
  go_wp2_with (with_reducible refine wpList_alloc (o := ⟨some 6, .alloc 23, _, _, _, _⟩) (by with_unfolding_all rfl) 23 (by with_unfolding_all rfl) (.agg (H no).toArray) (H no) (by exact Tryd.zeroH) (by with_unfolding_all rfl) ?_)
  intro g6 w7 hg6 hs7 hb7 hB7
  have hl7 : w6.heap.size ≤ g6 := Nat.le_of_eq hg6.out.symm
  have hb7 := hb7.mono hl7
  go_wp2_with (with_reducible refine wpList_put (o := ⟨none, .store 23 (.tmp 6) (.tmp 28), _, _, _, _⟩) (by with_unfolding_all rfl) 23 (.tmp 6) (.tmp 28) (by with_unfolding_all rfl) g6 0 (by with_unfolding_all rfl) (.agg (H y1).toArray) (by with_unfolding_all rfl) hB7 (H y1) (by with_unfolding_all rfl) (by with_unfolding_all (rw [H_length]; exact Tryd.szH)) (by with_unfolding_all (simp only [H_length] <;> omega)) (by with_unfolding_all (exact H_one _)) ?_)
  intro w8 hu8 B6
  rw [splice_all _ _ (by simp only [H_length])] at B6
  have hb8 := hb7.trans (hu8.below (B := w6.heap.size) hl7)
  have PA := PA.next hb8
  have PB := PB.next hb8
  have hbe := below_join hbe hb8
  clear hb7 hb8 hu8 hB7 hl7 hg6 hs7
  go_wp2_with fail
  (with_reducible refine (C5.out _ PA PB).mono ?_)
  rintro e w9 ⟨⟨y2, I2, rfl, HO2⟩, hb9⟩
  have PA := PA.next hb9
  have PB := PB.next hb9
  have B6 := B6.next hb9 B6.lt
  have hbe := below_join hbe hb9
  clear hb9
  obtain ⟨ef, rfl⟩ := samOk_uniq HO1 HO2
  rw [ef]
  clear ef HO1 HO2
  go_wp2_with (with_reducible refine wpList_alloc (o := ⟨some 8, .alloc 23, _, _, _, _⟩) (by with_unfolding_all rfl) 23 (by with_unfolding_all rfl) (.agg (H no).toArray) (H no) (by exact Tryd.zeroH) (by with_unfolding_all rfl) ?_)
  intro g8 w10 hg8 hs10 hb10 hB10
  have hl10 : w9.heap.size ≤ g8 := Nat.le_of_eq hg8.out.symm
  have hb10 := hb10.mono hl10
  go_wp2_with (with_reducible refine wpList_put (o := ⟨none, .store 23 (.tmp 8) (.tmp 34), _, _, _, _⟩) (by with_unfolding_all rfl) 23 (.tmp 8) (.tmp 34) (by with_unfolding_all rfl) g8 0 (by with_unfolding_all rfl) (.agg (H y1).toArray) (by with_unfolding_all rfl) hB10 (H y1) (by with_unfolding_all rfl) (by with_unfolding_all (rw [H_length]; exact Tryd.szH)) (by with_unfolding_all (simp only [H_length] <;> omega)) (by with_unfolding_all (exact H_one _)) ?_)
  intro w11 hu11 B8
  rw [splice_all _ _ (by simp only [H_length])] at B8
  have hb11 := hb10.trans (hu11.below (B := w9.heap.size) hl10)
  have PA := PA.next hb11
  have PB := PB.next hb11
  have B6 := B6.next hb11 B6.lt
  have hbe := below_join hbe hb11
  clear hb10 hb11 hu11 hB10 hl10 hg8 hs10
  go_wp2_with (first | (with_reducible refine wpList_getg (o := ⟨some 38, .load 23 (.tmp 6), _, _, _, _⟩) (by with_unfolding_all rfl) 23 (.tmp 6) (by with_unfolding_all rfl) g6 0 (by with_unfolding_all rfl) B6 (H y1) (cs_all _) _ (by exact Tryd.underlying23) (by with_unfolding_all rfl) (by (rw [H_length]; exact Tryd.szH)) ?_) | (with_reducible refine wpList_getg (o := ⟨some 39, .load 23 (.tmp 8), _, _, _, _⟩) (by with_unfolding_all rfl) 23 (.tmp 8) (by with_unfolding_all rfl) g8 0 (by with_unfolding_all rfl) B8 (H y1) (cs_all _) _ (by exact Tryd.underlying23) (by with_unfolding_all rfl) (by (rw [H_length]; exact Tryd.szH)) ?_))
  go_ret
  exact ⟨rfl, hbe⟩
/-- Whatever comes in. -/
theorem smsLaw_any (A0 A1 : Option Addr) (c0 c1 : Nat) (la lb : List (List Int × List Int)) (w : World) (hTa : Tens la) (hTb : Tens lb) (hRa : RawAt w A0 la) (hRb : RawAt w A1 lb) (hn0 : A0 = none → la.length = 0 ∧ c0 = 0) (hn1 : A1 = none → lb.length = 0 ∧ c1 = 0) (hg0 : ∀ g o, A0 = some ⟨g, o, none⟩ → g < w.heap.size) (hg1 : ∀ g o, A1 = some ⟨g, o, none⟩ → g < w.heap.size) (hlb : lb.length * 160 ≤ 140737488351232) (hG : GOk w) :
    Calls Tryd.prog 6 #[.slice A0 la.length c0, .slice A1 lb.length c1] w fun e w' => e = .returned (.bool true) ∧ Below w.heap.size w w' := by
  by_cases h6 : la.length ≤ 6
  · have hT3 : Tens (la ++ lb) := fun x hx => by
      rcases List.mem_append.1 hx with hx | hx
      · exact hTa x hx
      · exact hTb x hx
    obtain ⟨F, hF1, hF2⟩ := few_bool (la ++ lb) 12 (la.length + lb.length) List.length_append hT3 (by omega) (by decide)
    cases F with
    | true =>
      obtain ⟨ps, q1, q2, q3, q4⟩ := hF1.1 rfl
      have e2' : ps.map (fun p => (HI p.m, HI p.b)) = la ++ lb := q2
      obtain ⟨us, vs, rfl, rfl, rfl⟩ := List.map_eq_append_iff.1 e2'
      have la' : (us.map fun p => (HI p.m, HI p.b)).length = us.length := List.length_map _
      have lb' : (vs.map fun p => (HI p.m, HI p.b)).length = vs.length := List.length_map _
      rw [la'] at hn0 h6 ⊢
      rw [lb'] at hn1 ⊢
      have hl3 : (us ++ vs).length = us.length + vs.length := List.length_append
      rw [hl3] at q3 q4
      exact sms_good A0 A1 c0 c1 us vs w (fun q hq => q1 q (List.mem_append_left _ hq)) (fun q hq => q1 q (List.mem_append_right _ hq)) (RawAt.pats hRa) (RawAt.pats hRb) hn0 hn1 hg0 hg1 h6 q3 q4 hG
    | false => exact sms_bad A0 A1 c0 c1 la lb w h6 hTa hTb hRa hRb hn0 hn1 hlb hG hF2
  · exact sms_long A0 A1 c0 c1 la.length lb.length w h6 hG
end Go.Proofs.YtbldnhpbmfmepaaDoor
