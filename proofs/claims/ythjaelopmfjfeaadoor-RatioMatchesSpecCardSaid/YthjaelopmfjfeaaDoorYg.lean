/-
  The walk of RatioMatchesSpec. Conditions: the library's variables lie there.
-/
import Derived.Test.YthjaelopmfjfeaaDoorYf
import Derived.Test.YthjaelopmfjfeaaDoorVf
namespace Go.Proofs.YthjaelopmfjfeaaDoor
set_option linter.unusedVariables false
set_option linter.unusedSimpArgs false
open Go.RowKit Go.Shelf
set_option linter.unusedVariables false

set_option maxRecDepth 100000 in
set_option maxHeartbeats 6400000 in
theorem matchLaw_any (an ad bn bd fn fd n d : Int) (s : ByteArray) (w : World) (hn : IntKind.i64.wrap n = n) (hd : IntKind.i64.wrap d = d) (hs : s.size ≤ 140737488355328) (hq : QW w) :
    Calls Tryd.prog 3 #[.agg [Value.int .i64 an, Value.int .i64 ad].toArray, .agg [Value.int .i64 bn, Value.int .i64 bd].toArray, .agg [Value.int .i64 fn, Value.int .i64 fd].toArray, .int .i64 n, .int .i64 d, .string s] w fun e w' => e = .returned (.bool true) ∧ Below w.heap.size w w' := by
  have HQ := Lib.hid hq
  obtain ⟨A, hA⟩ : ∃ A, Hid (chk an ad = A) := ⟨_, rfl⟩
  obtain ⟨B, hB⟩ : ∃ A, Hid (chk bn bd = A) := ⟨_, rfl⟩
  obtain ⟨C, hC⟩ : ∃ A, Hid (chk fn fd = A) := ⟨_, rfl⟩
  have c1 := fun w => rcheck_any an ad w
  have c2 := fun w => rcheck_any bn bd w
  have c3 := fun w => rcheck_any fn fd w
  have c4 := fun w => check_any fn fd w
  rw [hA.out] at c1
  rw [hB.out] at c2
  rw [hC.out] at c3 c4
  have C1 := Lib.hid c1
  have C2 := Lib.hid c2
  have C3 := Lib.hid c3
  have C4 := Lib.hid c4
  obtain ⟨N1, D1, k1, hO⟩ := ofE_form n d
  have o1 := fun w => of_any n d w hn hd
  have o2 := fun w => rof_any n d w
  rw [hO] at o1 o2
  have O1 := Lib.hid o1
  have O2 := Lib.hid o2
  obtain ⟨N2, D2, b2, hP⟩ := parsed_is s.data.toList
  have P1 := Lib.hid (fun w hq => (parse_any s w hs hq).mono fun e w' ⟨h, hb⟩ => (⟨hP e h, hb⟩ : e = _ ∧ Below w.heap.size w w'))
  have P2 := Lib.hid (fun w hq => (rparse_any s w hs hq).mono fun e w' ⟨h, hb⟩ => (⟨hP e h, hb⟩ : e = _ ∧ Below w.heap.size w w'))
  have hunQ := Tryd.underlying23
  have hguQ := Tryd.guardQ
  have eN : ∀ (a b : Int) (w : World), (binOp .neq 23 (.agg [Value.int .i64 a, Value.int .i64 b].toArray) (.agg [Value.int .i64 a, Value.int .i64 b].toArray)).run Tryd.prog w = .ok (.bool false) w := fun a b w => by rw [neqQ]; simp
  have hkk : ∀ k : Int, (k != k) = false := fun k => by simp
  have hbb : ∀ k : Bool, (k != k) = false := fun k => by simp
  have hee : ∀ k : Int, (k == k) = true := fun k => by simp
  have hst : ∀ k : ByteArray, (k.toList == k.toList) = true := fun k => beq_self_eq_true _
  clear hq hs hn hd c1 c2 c3 c4 o1 o2 hO hP
  go_enter Tryd.func3, Tryd.ntmps3
  go_wp2_with (with_reducible refine wpList_box (o := ⟨some 6, .box 23 (.tmp 0), _, _, _, _⟩) ?g6 23 (.tmp 0) ?o6 (.agg [Value.int .i64 an, Value.int .i64 ad].toArray) [Value.int .i64 an, Value.int .i64 ad] ?x6 ?c6 ?_)
  try (case g6 => rfl)
  try (case o6 => rfl)
  try (case x6 => rfl)
  try (case c6 => rfl)
  intro g6 w1 hg6 hs1 hb1 B6
  have hb1 := hb1.mono (Nat.le_of_eq hg6.out.symm)
  have hbe : Below w.heap.size w w1 := hb1
  clear hb1 hg6 hs1
  have hl6 : True := trivial
  go_wp2_with (with_reducible refine wpList_box (o := ⟨some 7, .box 23 (.tmp 1), _, _, _, _⟩) ?g7 23 (.tmp 1) ?o7 (.agg [Value.int .i64 bn, Value.int .i64 bd].toArray) [Value.int .i64 bn, Value.int .i64 bd] ?x7 ?c7 ?_)
  try (case g7 => rfl)
  try (case o7 => rfl)
  try (case x7 => rfl)
  try (case c7 => rfl)
  intro g7 w2 hg7 hs2 hb2 B7
  have hb2 := hb2.mono (Nat.le_of_eq hg7.out.symm)
  have B6 := B6.next hb2 B6.lt
  have hbe := below_join hbe hb2
  clear hb2 hg7 hs2
  have hl7 : True := trivial
  go_wp2_with (with_reducible refine wpList_box (o := ⟨some 8, .box 23 (.tmp 2), _, _, _, _⟩) ?g8 23 (.tmp 2) ?o8 (.agg [Value.int .i64 fn, Value.int .i64 fd].toArray) [Value.int .i64 fn, Value.int .i64 fd] ?x8 ?c8 ?_)
  try (case g8 => rfl)
  try (case o8 => rfl)
  try (case x8 => rfl)
  try (case c8 => rfl)
  intro g8 w3 hg8 hs3 hb3 B8
  have hb3 := hb3.mono (Nat.le_of_eq hg8.out.symm)
  have B6 := B6.next hb3 B6.lt
  have B7 := B7.next hb3 B7.lt
  have hbe := below_join hbe hb3
  clear hb3 hg8 hs3
  have hl8 : True := trivial
  go_wp2_with fail
  (with_reducible refine (O1.out _).mono ?_)
  rintro e w4 ⟨rfl, hb4⟩
  have B6 := B6.next hb4 B6.lt
  have B7 := B7.next hb4 B7.lt
  have B8 := B8.next hb4 B8.lt
  have hbe := below_join hbe hb4
  clear hb4
  go_wp2_with (with_reducible refine wpList_alloc (o := ⟨some 13, .alloc 23, _, _, _, _⟩) (by with_unfolding_all rfl) 23 (by with_unfolding_all rfl) (.agg zC.toArray) zC (by exact Tryd.zeroQ) (by with_unfolding_all rfl) ?_)
  intro g13 w5 hg13 hs5 hb5 B13
  have hl13 : w.heap.size ≤ g13 := Nat.le_trans hbe.size (Nat.le_of_eq hg13.out.symm)
  have ne6_13 : g6 ≠ g13 := by have := B6.lt; have := hg13.out; omega
  have ne7_13 : g7 ≠ g13 := by have := B7.lt; have := hg13.out; omega
  have ne8_13 : g8 ≠ g13 := by have := B8.lt; have := hg13.out; omega
  have hb5 := hb5.mono (Nat.le_of_eq hg13.out.symm)
  have B6 := B6.next hb5 B6.lt
  have B7 := B7.next hb5 B7.lt
  have B8 := B8.next hb5 B8.lt
  have hbe := below_join hbe hb5
  clear hb5 hg13 hs5
  go_wp2_with (with_reducible refine wpList_put (o := ⟨none, .store 23 (.tmp 13) (.tmp 41), _, _, _, _⟩) (by with_unfolding_all rfl) 23 (.tmp 13) (.tmp 41) (by with_unfolding_all rfl) g13 0 (by with_unfolding_all rfl) (.agg [Value.int .i64 N1, Value.int .i64 D1].toArray) (by with_unfolding_all rfl) B13 [Value.int .i64 N1, Value.int .i64 D1] (by with_unfolding_all rfl) (by with_unfolding_all (exact Tryd.szQ)) (by with_unfolding_all (exact Nat.le_refl 2)) (by with_unfolding_all (exact int_one _ _)) ?_)
  clear B13
  intro w6 hu6 B13
  rw [splice_all _ _ (by rfl)] at B13
  have hbe := hbe.trans (hu6.below (B := w.heap.size) hl13)
  have B6 := B6.upd hu6 (by first | exact ne6_13 | exact ne13_6.symm)
  have B7 := B7.upd hu6 (by first | exact ne7_13 | exact ne13_7.symm)
  have B8 := B8.upd hu6 (by first | exact ne8_13 | exact ne13_8.symm)
  clear hu6
  go_wp2_with fail
  (with_reducible refine (O2.out _).mono ?_)
  rintro e w7 ⟨rfl, hb7⟩
  have B6 := B6.next hb7 B6.lt
  have B7 := B7.next hb7 B7.lt
  have B8 := B8.next hb7 B8.lt
  have B13 := B13.next hb7 B13.lt
  have hbe := below_join hbe hb7
  clear hb7
  go_wp2_with (with_reducible refine wpList_alloc (o := ⟨some 15, .alloc 23, _, _, _, _⟩) (by with_unfolding_all rfl) 23 (by with_unfolding_all rfl) (.agg zC.toArray) zC (by exact Tryd.zeroQ) (by with_unfolding_all rfl) ?_)
  intro g15 w8 hg15 hs8 hb8 B15
  have hl15 : w.heap.size ≤ g15 := Nat.le_trans hbe.size (Nat.le_of_eq hg15.out.symm)
  have ne6_15 : g6 ≠ g15 := by have := B6.lt; have := hg15.out; omega
  have ne7_15 : g7 ≠ g15 := by have := B7.lt; have := hg15.out; omega
  have ne8_15 : g8 ≠ g15 := by have := B8.lt; have := hg15.out; omega
  have ne13_15 : g13 ≠ g15 := by have := B13.lt; have := hg15.out; omega
  have hb8 := hb8.mono (Nat.le_of_eq hg15.out.symm)
  have B6 := B6.next hb8 B6.lt
  have B7 := B7.next hb8 B7.lt
  have B8 := B8.next hb8 B8.lt
  have B13 := B13.next hb8 B13.lt
  have hbe := below_join hbe hb8
  clear hb8 hg15 hs8
  go_wp2_with (with_reducible refine wpList_put (o := ⟨none, .store 23 (.tmp 15) (.tmp 47), _, _, _, _⟩) (by with_unfolding_all rfl) 23 (.tmp 15) (.tmp 47) (by with_unfolding_all rfl) g15 0 (by with_unfolding_all rfl) (.agg [Value.int .i64 N1, Value.int .i64 D1].toArray) (by with_unfolding_all rfl) B15 [Value.int .i64 N1, Value.int .i64 D1] (by with_unfolding_all rfl) (by with_unfolding_all (exact Tryd.szQ)) (by with_unfolding_all (exact Nat.le_refl 2)) (by with_unfolding_all (exact int_one _ _)) ?_)
  clear B15
  intro w9 hu9 B15
  rw [splice_all _ _ (by rfl)] at B15
  have hbe := hbe.trans (hu9.below (B := w.heap.size) hl15)
  have B6 := B6.upd hu9 (by first | exact ne6_15 | exact ne15_6.symm)
  have B7 := B7.upd hu9 (by first | exact ne7_15 | exact ne15_7.symm)
  have B8 := B8.upd hu9 (by first | exact ne8_15 | exact ne15_8.symm)
  have B13 := B13.upd hu9 (by first | exact ne13_15 | exact ne15_13.symm)
  clear hu9
  go_wp2_with fail
  (with_reducible refine (P1.out _ (HQ.out.next hbe)).mono ?_)
  rintro e w10 ⟨rfl, hb10⟩
  have B6 := B6.next hb10 B6.lt
  have B7 := B7.next hb10 B7.lt
  have B8 := B8.next hb10 B8.lt
  have B13 := B13.next hb10 B13.lt
  have B15 := B15.next hb10 B15.lt
  have hbe := below_join hbe hb10
  clear hb10
  go_wp2_with (with_reducible refine wpList_alloc (o := ⟨some 17, .alloc 23, _, _, _, _⟩) (by with_unfolding_all rfl) 23 (by with_unfolding_all rfl) (.agg zC.toArray) zC (by exact Tryd.zeroQ) (by with_unfolding_all rfl) ?_)
  intro g17 w11 hg17 hs11 hb11 B17
  have hl17 : w.heap.size ≤ g17 := Nat.le_trans hbe.size (Nat.le_of_eq hg17.out.symm)
  have ne6_17 : g6 ≠ g17 := by have := B6.lt; have := hg17.out; omega
  have ne7_17 : g7 ≠ g17 := by have := B7.lt; have := hg17.out; omega
  have ne8_17 : g8 ≠ g17 := by have := B8.lt; have := hg17.out; omega
  have ne13_17 : g13 ≠ g17 := by have := B13.lt; have := hg17.out; omega
  have ne15_17 : g15 ≠ g17 := by have := B15.lt; have := hg17.out; omega
  have hb11 := hb11.mono (Nat.le_of_eq hg17.out.symm)
  have B6 := B6.next hb11 B6.lt
  have B7 := B7.next hb11 B7.lt
  have B8 := B8.next hb11 B8.lt
  have B13 := B13.next hb11 B13.lt
  have B15 := B15.next hb11 B15.lt
  have hbe := below_join hbe hb11
  clear hb11 hg17 hs11
  go_wp2_with (with_reducible refine wpList_put (o := ⟨none, .store 23 (.tmp 17) (.tmp 52), _, _, _, _⟩) (by with_unfolding_all rfl) 23 (.tmp 17) (.tmp 52) (by with_unfolding_all rfl) g17 0 (by with_unfolding_all rfl) (.agg [Value.int .i64 N2, Value.int .i64 D2].toArray) (by with_unfolding_all rfl) B17 [Value.int .i64 N2, Value.int .i64 D2] (by with_unfolding_all rfl) (by with_unfolding_all (exact Tryd.szQ)) (by with_unfolding_all (exact Nat.le_refl 2)) (by with_unfolding_all (exact int_one _ _)) ?_)
  clear B17
  intro w12 hu12 B17
  rw [splice_all _ _ (by rfl)] at B17
  have hbe := hbe.trans (hu12.below (B := w.heap.size) hl17)
  have B6 := B6.upd hu12 (by first | exact ne6_17 | exact ne17_6.symm)
  have B7 := B7.upd hu12 (by first | exact ne7_17 | exact ne17_7.symm)
  have B8 := B8.upd hu12 (by first | exact ne8_17 | exact ne17_8.symm)
  have B13 := B13.upd hu12 (by first | exact ne13_17 | exact ne17_13.symm)
  have B15 := B15.upd hu12 (by first | exact ne15_17 | exact ne17_15.symm)
  clear hu12
  go_wp2_with fail
  (with_reducible refine (P2.out _ (HQ.out.next hbe)).mono ?_)
  rintro e w13 ⟨rfl, hb13⟩
  have B6 := B6.next hb13 B6.lt
  have B7 := B7.next hb13 B7.lt
  have B8 := B8.next hb13 B8.lt
  have B13 := B13.next hb13 B13.lt
  have B15 := B15.next hb13 B15.lt
  have B17 := B17.next hb13 B17.lt
  have hbe := below_join hbe hb13
  clear hb13
  go_wp2_with (with_reducible refine wpList_alloc (o := ⟨some 19, .alloc 23, _, _, _, _⟩) (by with_unfolding_all rfl) 23 (by with_unfolding_all rfl) (.agg zC.toArray) zC (by exact Tryd.zeroQ) (by with_unfolding_all rfl) ?_)
  intro g19 w14 hg19 hs14 hb14 B19
  have hl19 : w.heap.size ≤ g19 := Nat.le_trans hbe.size (Nat.le_of_eq hg19.out.symm)
  have ne6_19 : g6 ≠ g19 := by have := B6.lt; have := hg19.out; omega
  have ne7_19 : g7 ≠ g19 := by have := B7.lt; have := hg19.out; omega
  have ne8_19 : g8 ≠ g19 := by have := B8.lt; have := hg19.out; omega
  have ne13_19 : g13 ≠ g19 := by have := B13.lt; have := hg19.out; omega
  have ne15_19 : g15 ≠ g19 := by have := B15.lt; have := hg19.out; omega
  have ne17_19 : g17 ≠ g19 := by have := B17.lt; have := hg19.out; omega
  have hb14 := hb14.mono (Nat.le_of_eq hg19.out.symm)
  have B6 := B6.next hb14 B6.lt
  have B7 := B7.next hb14 B7.lt
  have B8 := B8.next hb14 B8.lt
  have B13 := B13.next hb14 B13.lt
  have B15 := B15.next hb14 B15.lt
  have B17 := B17.next hb14 B17.lt
  have hbe := below_join hbe hb14
  clear hb14 hg19 hs14
  go_wp2_with (with_reducible refine wpList_put (o := ⟨none, .store 23 (.tmp 19) (.tmp 57), _, _, _, _⟩) (by with_unfolding_all rfl) 23 (.tmp 19) (.tmp 57) (by with_unfolding_all rfl) g19 0 (by with_unfolding_all rfl) (.agg [Value.int .i64 N2, Value.int .i64 D2].toArray) (by with_unfolding_all rfl) B19 [Value.int .i64 N2, Value.int .i64 D2] (by with_unfolding_all rfl) (by with_unfolding_all (exact Tryd.szQ)) (by with_unfolding_all (exact Nat.le_refl 2)) (by with_unfolding_all (exact int_one _ _)) ?_)
  clear B19
  intro w15 hu15 B19
  rw [splice_all _ _ (by rfl)] at B19
  have hbe := hbe.trans (hu15.below (B := w.heap.size) hl19)
  have B6 := B6.upd hu15 (by first | exact ne6_19 | exact ne19_6.symm)
  have B7 := B7.upd hu15 (by first | exact ne7_19 | exact ne19_7.symm)
  have B8 := B8.upd hu15 (by first | exact ne8_19 | exact ne19_8.symm)
  have B13 := B13.upd hu15 (by first | exact ne13_19 | exact ne19_13.symm)
  have B15 := B15.upd hu15 (by first | exact ne15_19 | exact ne19_15.symm)
  have B17 := B17.upd hu15 (by first | exact ne17_19 | exact ne19_17.symm)
  clear hu15
  go_wp2
  have hdd := below_drew w15
  have K8_0 : Hid (∀ w', Below w15.heap.size w15 w' → w'.rangeAt g8 0 [Value.int .i64 fn, Value.int .i64 fd]) := (fun w' h => blk_range (B8.next h B8.lt) : ∀ w', Below w15.heap.size w15 w' → w'.rangeAt g8 0 [Value.int .i64 fn, Value.int .i64 fd])
  have Z8_0 : (Tryd.prog.info? 23).map (·.size) = some [Value.int .i64 fn, Value.int .i64 fd].length := by (exact Tryd.szQ)
  have K13_0 : Hid (∀ w', Below w15.heap.size w15 w' → w'.rangeAt g13 0 [Value.int .i64 N1, Value.int .i64 D1]) := (fun w' h => blk_range (B13.next h B13.lt) : ∀ w', Below w15.heap.size w15 w' → w'.rangeAt g13 0 [Value.int .i64 N1, Value.int .i64 D1])
  have Z13_0 : (Tryd.prog.info? 23).map (·.size) = some [Value.int .i64 N1, Value.int .i64 D1].length := by (exact Tryd.szQ)
  have K15_0 : Hid (∀ w', Below w15.heap.size w15 w' → w'.rangeAt g15 0 [Value.int .i64 N1, Value.int .i64 D1]) := (fun w' h => blk_range (B15.next h B15.lt) : ∀ w', Below w15.heap.size w15 w' → w'.rangeAt g15 0 [Value.int .i64 N1, Value.int .i64 D1])
  have Z15_0 : (Tryd.prog.info? 23).map (·.size) = some [Value.int .i64 N1, Value.int .i64 D1].length := by (exact Tryd.szQ)
  have K17_0 : Hid (∀ w', Below w15.heap.size w15 w' → w'.rangeAt g17 0 [Value.int .i64 N2, Value.int .i64 D2]) := (fun w' h => blk_range (B17.next h B17.lt) : ∀ w', Below w15.heap.size w15 w' → w'.rangeAt g17 0 [Value.int .i64 N2, Value.int .i64 D2])
  have Z17_0 : (Tryd.prog.info? 23).map (·.size) = some [Value.int .i64 N2, Value.int .i64 D2].length := by (exact Tryd.szQ)
  have K19_0 : Hid (∀ w', Below w15.heap.size w15 w' → w'.rangeAt g19 0 [Value.int .i64 N2, Value.int .i64 D2]) := (fun w' h => blk_range (B19.next h B19.lt) : ∀ w', Below w15.heap.size w15 w' → w'.rangeAt g19 0 [Value.int .i64 N2, Value.int .i64 D2])
  have Z19_0 : (Tryd.prog.info? 23).map (·.size) = some [Value.int .i64 N2, Value.int .i64 D2].length := by (exact Tryd.szQ)
  refine wp_region_held_drew (S := fun w' => Below w15.heap.size w15 w') (by kernel_rfl) hdd (fun hHeld => ?_)
  generalize w15.drew = wd at hdd hHeld ⊢
  refine' wpAnyH_take (i := 0) (v := _) rfl (by kernel_rfl) (by kernel_rfl) (by kernel_rfl) (fun _ _ _ h => h) (yieldsIf_load_mid (by rfl) _ _ (by rfl) _ _ (by rfl) _ _ ?Saa_0 ?uaa_0 ?daa_0 ?iaa_0) (by assumption) ?raa_0
  case Saa_0 => exact (by intro w h; exact K13_0.out _ h)
  case uaa_0 => exact Tryd.underlying23
  case daa_0 => rfl
  case iaa_0 => exact Z13_0
  (try simp only [List.getElem_toArray, List.getElem_cons_zero, Act.put, List.setIfInBounds_toArray, List.set_cons_zero, List.set_cons_succ])
  refine' wpAnyH_take (i := 1) (v := _) rfl (by kernel_rfl) (by kernel_rfl) (by kernel_rfl) (fun _ _ _ h => h) (yieldsIf_load_mid (by rfl) _ _ (by rfl) _ _ (by rfl) _ _ ?Saa_1 ?uaa_1 ?daa_1 ?iaa_1) (by assumption) ?raa_1
  case Saa_1 => exact (by intro w h; exact K15_0.out _ h)
  case uaa_1 => exact Tryd.underlying23
  case daa_1 => rfl
  case iaa_1 => exact Z15_0
  (try simp only [List.getElem_toArray, List.getElem_cons_succ, List.getElem_cons_zero, Act.put, List.setIfInBounds_toArray, List.set_cons_zero, List.set_cons_succ])
  refine wpAnyH_take (i := 2) (v := ?vaa_2) rfl (by kernel_rfl) (by kernel_rfl) (by kernel_rfl) (fun _ _ _ h => h) (Or.inl ⟨by rfl, ?yaa_2⟩) (by assumption) ?raa_2
  case yaa_2 => intro w hSw; (try dsimp only at hSw); go_simp <;> (try with_reducible rfl)
  (try simp only [List.getElem_toArray, List.getElem_cons_succ, List.getElem_cons_zero, Act.put, List.setIfInBounds_toArray, List.set_cons_zero, List.set_cons_succ])
  refine wpAnyH_take (i := 3) (v := ?vaa_3) rfl (by kernel_rfl) (by kernel_rfl) (by kernel_rfl) (fun _ _ _ h => h) (Or.inl ⟨by rfl, ?yaa_3⟩) (by assumption) ?raa_3
  case yaa_3 => intro w hSw; (try dsimp only at hSw); go_simp <;> (try with_reducible rfl)
  (try simp only [List.getElem_toArray, List.getElem_cons_succ, List.getElem_cons_zero, Act.put, List.setIfInBounds_toArray, List.set_cons_zero, List.set_cons_succ])
  refine wpAnyH_take (i := 4) (v := ?vaa_4) rfl (by kernel_rfl) (by kernel_rfl) (by kernel_rfl) (fun _ _ _ h => h) (Or.inl ⟨by rfl, ?yaa_4⟩) (by assumption) ?raa_4
  case yaa_4 => intro w hSw; (try dsimp only at hSw); go_simp <;> (try with_reducible rfl)
  (try simp only [List.getElem_toArray, List.getElem_cons_succ, List.getElem_cons_zero, Act.put, List.setIfInBounds_toArray, List.set_cons_zero, List.set_cons_succ])
  refine wpAnyH_take (i := 5) (v := ?vaa_5) rfl (by kernel_rfl) (by kernel_rfl) (by kernel_rfl) (fun _ _ _ h => h) (Or.inl ⟨by rfl, ?yaa_5⟩) (by assumption) ?raa_5
  case yaa_5 => intro w hSw; (try dsimp only at hSw); go_simp <;> (try with_reducible rfl)
  (try simp only [List.getElem_toArray, List.getElem_cons_succ, List.getElem_cons_zero, Act.put, List.setIfInBounds_toArray, List.set_cons_zero, List.set_cons_succ])
  refine wpAnyH_take (i := 6) (v := ?vaa_6) rfl (by kernel_rfl) (by kernel_rfl) (by kernel_rfl) (fun _ _ _ h => h) (Or.inl ⟨by rfl, ?yaa_6⟩) (by assumption) ?raa_6
  case yaa_6 => intro w hSw; (try dsimp only at hSw); go_simp <;> (try with_reducible rfl)
  (try simp only [List.getElem_toArray, List.getElem_cons_succ, List.getElem_cons_zero, Act.put, List.setIfInBounds_toArray, List.set_cons_zero, List.set_cons_succ])
  refine wpAnyH_take (i := 7) (v := ?vaa_7) rfl (by kernel_rfl) (by kernel_rfl) (by kernel_rfl) (fun _ _ _ h => h) (Or.inl ⟨by rfl, ?yaa_7⟩) (by assumption) ?raa_7
  case yaa_7 => intro w hSw; (try dsimp only at hSw); go_simp <;> (try with_reducible rfl)
  (try simp only [List.getElem_toArray, List.getElem_cons_succ, List.getElem_cons_zero, Act.put, List.setIfInBounds_toArray, List.set_cons_zero, List.set_cons_succ])
  refine wpAnyH_take (i := 8) (v := ?vaa_8) rfl (by kernel_rfl) (by kernel_rfl) (by kernel_rfl) (fun _ _ _ h => h) (Or.inl ⟨by rfl, ?yaa_8⟩) (by assumption) ?raa_8
  case yaa_8 => intro w hSw; (try dsimp only at hSw); go_simp <;> (try with_reducible rfl)
  (try simp only [List.getElem_toArray, List.getElem_cons_succ, List.getElem_cons_zero, Act.put, List.setIfInBounds_toArray, List.set_cons_zero, List.set_cons_succ])
  refine' wpAnyH_take (i := 9) (v := _) rfl (by kernel_rfl) (by kernel_rfl) (by kernel_rfl) (fun _ _ _ h => h) (yieldsIf_load_mid (by rfl) _ _ (by rfl) _ _ (by rfl) _ _ ?Saa_9 ?uaa_9 ?daa_9 ?iaa_9) (by assumption) ?raa_9
  case Saa_9 => exact (by intro w h; exact K17_0.out _ h)
  case uaa_9 => exact Tryd.underlying23
  case daa_9 => rfl
  case iaa_9 => exact Z17_0
  (try simp only [List.getElem_toArray, List.getElem_cons_succ, List.getElem_cons_zero, Act.put, List.setIfInBounds_toArray, List.set_cons_zero, List.set_cons_succ])
  refine' wpAnyH_take (i := 10) (v := _) rfl (by kernel_rfl) (by kernel_rfl) (by kernel_rfl) (fun _ _ _ h => h) (yieldsIf_load_mid (by rfl) _ _ (by rfl) _ _ (by rfl) _ _ ?Saa_10 ?uaa_10 ?daa_10 ?iaa_10) (by assumption) ?raa_10
  case Saa_10 => exact (by intro w h; exact K19_0.out _ h)
  case uaa_10 => exact Tryd.underlying23
  case daa_10 => rfl
  case iaa_10 => exact Z19_0
  (try simp only [List.getElem_toArray, List.getElem_cons_succ, List.getElem_cons_zero, Act.put, List.setIfInBounds_toArray, List.set_cons_zero, List.set_cons_succ])
  refine wpAnyH_take (i := 11) (v := ?vaa_11) rfl (by kernel_rfl) (by kernel_rfl) (by kernel_rfl) (fun _ _ _ h => h) (Or.inl ⟨by rfl, ?yaa_11⟩) (by assumption) ?raa_11
  case yaa_11 => intro w hSw; (try dsimp only at hSw); go_simp <;> (try with_reducible rfl)
  (try simp only [List.getElem_toArray, List.getElem_cons_succ, List.getElem_cons_zero, Act.put, List.setIfInBounds_toArray, List.set_cons_zero, List.set_cons_succ])
  refine wpAnyH_take (i := 12) (v := ?vaa_12) rfl (by kernel_rfl) (by kernel_rfl) (by kernel_rfl) (fun _ _ _ h => h) (Or.inl ⟨by rfl, ?yaa_12⟩) (by assumption) ?raa_12
  case yaa_12 => intro w hSw; (try dsimp only at hSw); go_simp <;> (try with_reducible rfl)
  (try simp only [List.getElem_toArray, List.getElem_cons_succ, List.getElem_cons_zero, Act.put, List.setIfInBounds_toArray, List.set_cons_zero, List.set_cons_succ])
  refine wpAnyH_take (i := 13) (v := ?vaa_13) rfl (by kernel_rfl) (by kernel_rfl) (by kernel_rfl) (fun _ _ _ h => h) (Or.inl ⟨by rfl, ?yaa_13⟩) (by assumption) ?raa_13
  case yaa_13 => intro w hSw; (try dsimp only at hSw); go_simp <;> (try with_reducible rfl)
  (try simp only [List.getElem_toArray, List.getElem_cons_succ, List.getElem_cons_zero, Act.put, List.setIfInBounds_toArray, List.set_cons_zero, List.set_cons_succ])
  refine wpAnyH_take (i := 14) (v := ?vaa_14) rfl (by kernel_rfl) (by kernel_rfl) (by kernel_rfl) (fun _ _ _ h => h) (Or.inl ⟨by rfl, ?yaa_14⟩) (by assumption) ?raa_14
  case yaa_14 => intro w hSw; (try dsimp only at hSw); go_simp <;> (try with_reducible rfl)
  (try simp only [List.getElem_toArray, List.getElem_cons_succ, List.getElem_cons_zero, Act.put, List.setIfInBounds_toArray, List.set_cons_zero, List.set_cons_succ])
  refine wpAnyH_take (i := 15) (v := ?vaa_15) rfl (by kernel_rfl) (by kernel_rfl) (by kernel_rfl) (fun _ _ _ h => h) (Or.inl ⟨by rfl, ?yaa_15⟩) (by assumption) ?raa_15
  case yaa_15 => intro w hSw; (try dsimp only at hSw); go_simp <;> (try with_reducible rfl)
  (try simp only [List.getElem_toArray, List.getElem_cons_succ, List.getElem_cons_zero, Act.put, List.setIfInBounds_toArray, List.set_cons_zero, List.set_cons_succ])
  refine wpAnyH_take (i := 16) (v := ?vaa_16) rfl (by kernel_rfl) (by kernel_rfl) (by kernel_rfl) (fun _ _ _ h => h) (Or.inl ⟨by rfl, ?yaa_16⟩) (by assumption) ?raa_16
  case yaa_16 => intro w hSw; (try dsimp only at hSw); go_simp <;> (try with_reducible rfl)
  (try simp only [List.getElem_toArray, List.getElem_cons_succ, List.getElem_cons_zero, Act.put, List.setIfInBounds_toArray, List.set_cons_zero, List.set_cons_succ])
  refine wpAnyH_take (i := 17) (v := ?vaa_17) rfl (by kernel_rfl) (by kernel_rfl) (by kernel_rfl) (fun _ _ _ h => h) (Or.inl ⟨by rfl, ?yaa_17⟩) (by assumption) ?raa_17
  case yaa_17 => intro w hSw; (try dsimp only at hSw); go_simp <;> (try with_reducible rfl)
  (try simp only [List.getElem_toArray, List.getElem_cons_succ, List.getElem_cons_zero, Act.put, List.setIfInBounds_toArray, List.set_cons_zero, List.set_cons_succ])
  refine wpAnyH_take (i := 18) (v := ?vaa_18) rfl (by kernel_rfl) (by kernel_rfl) (by kernel_rfl) (fun _ _ _ h => h) (Or.inl ⟨by rfl, ?yaa_18⟩) (by assumption) ?raa_18
  case yaa_18 => intro w hSw; (try dsimp only at hSw); go_simp <;> (try with_reducible rfl)
  (try simp only [List.getElem_toArray, List.getElem_cons_succ, List.getElem_cons_zero, Act.put, List.setIfInBounds_toArray, List.set_cons_zero, List.set_cons_succ])
  refine' wpAnyH_take (i := 19) (v := _) rfl (by kernel_rfl) (by kernel_rfl) (by kernel_rfl) (fun _ _ _ h => h) (yieldsIf_load_mid (by rfl) _ _ (by rfl) _ _ (by rfl) _ _ ?Saa_19 ?uaa_19 ?daa_19 ?iaa_19) (by assumption) ?raa_19
  case Saa_19 => exact (by intro w h; exact K8_0.out _ h)
  case uaa_19 => exact Tryd.underlying23
  case daa_19 => rfl
  case iaa_19 => exact Z8_0
  (try simp only [List.getElem_toArray, List.getElem_cons_succ, List.getElem_cons_zero, Act.put, List.setIfInBounds_toArray, List.set_cons_zero, List.set_cons_succ])
  refine' wpAnyH_take (i := 21) (v := _) rfl (by kernel_rfl) (by kernel_rfl) (by kernel_rfl) (fun _ _ _ h => h) (yieldsIf_load_mid (by rfl) _ _ (by rfl) _ _ (by rfl) _ _ ?Saa_21 ?uaa_21 ?daa_21 ?iaa_21) (by assumption) ?raa_21
  case Saa_21 => exact (by intro w h; exact K8_0.out _ h)
  case uaa_21 => exact Tryd.underlying23
  case daa_21 => rfl
  case iaa_21 => exact Z8_0
  (try simp only [List.getElem_toArray, List.getElem_cons_succ, List.getElem_cons_zero, Act.put, List.setIfInBounds_toArray, List.set_cons_zero, List.set_cons_succ])
  refine wpAnyH_ready (rs := [20]) (by kernel_rfl) (by simp) ?_
  refine AllReadyH.cons rfl (fun K hK => ?_) AllReadyH.nil
  go_simp
  go_wp2_with fail
  (with_reducible refine (C4.out _).mono ?_)
  rintro e w16 ⟨rfl, hb16⟩
  have hk16 := below_join hdd hb16
  refine hK.out _ _ hk16 (fun hHeld => ?_)
  clear hK K hb16 hdd
  refine wpAnyH_ready (rs := [22]) (by kernel_rfl) (by simp) ?_
  refine AllReadyH.cons rfl (fun K hK => ?_) AllReadyH.nil
  go_simp
  go_wp2_with fail
  (with_reducible refine (C3.out _).mono ?_)
  rintro e w17 ⟨rfl, hb17⟩
  have hk17 := below_join hk16 hb17
  refine hK.out _ _ hk17 (fun hHeld => ?_)
  clear hK K hb17 hk16
  refine wpAnyH_take (i := 23) (v := ?vaa_23) rfl (by kernel_rfl) (by kernel_rfl) (by kernel_rfl) (fun _ _ _ h => h) (Or.inl ⟨by rfl, ?yaa_23⟩) (by assumption) ?raa_23
  case yaa_23 => intro w hSw; (try dsimp only at hSw); go_simp <;> (try with_reducible rfl)
  (try simp only [List.getElem_toArray, List.getElem_cons_succ, List.getElem_cons_zero, Act.put, List.setIfInBounds_toArray, List.set_cons_zero, List.set_cons_succ])
  refine wpAnyH_take (i := 24) (v := ?vaa_24) rfl (by kernel_rfl) (by kernel_rfl) (by kernel_rfl) (fun _ _ _ h => h) (Or.inl ⟨by rfl, ?yaa_24⟩) (by assumption) ?raa_24
  case yaa_24 => intro w hSw; (try dsimp only at hSw); go_simp <;> (try with_reducible rfl)
  (try simp only [List.getElem_toArray, List.getElem_cons_succ, List.getElem_cons_zero, Act.put, List.setIfInBounds_toArray, List.set_cons_zero, List.set_cons_succ])
  refine wpAnyH_done (by kernel_rfl) ?_ _
  clear hHeld K8_0 Z8_0 K13_0 Z13_0 K15_0 Z15_0 K17_0 Z17_0 K19_0 Z19_0
  have B6 := B6.next hk17 B6.lt
  have B7 := B7.next hk17 B7.lt
  have B8 := B8.next hk17 B8.lt
  have B13 := B13.next hk17 B13.lt
  have B15 := B15.next hk17 B15.lt
  have B17 := B17.next hk17 B17.lt
  have B19 := B19.next hk17 B19.lt
  have hbe := below_join hbe hk17
  clear hk17
  clear B13
  clear B15
  clear B17
  clear B19
  clear B8
  have z60 := B6.cell (k := 0) rfl
  have z61 := B6.cell (k := 1) rfl
  go_wp2_with fail
  (with_reducible refine (C1.out _).mono ?_)
  rintro e w18 ⟨rfl, hb18⟩
  have B6 := B6.next hb18 B6.lt
  have B7 := B7.next hb18 B7.lt
  have hbe := below_join hbe hb18
  clear hb18
  clear z60 z61
  rcases A with _ | _
  · skip
    go_wp2_with fail
    (with_reducible refine (sanity_any _ (HQ.out.next hbe)).mono ?_)
    rintro e w19 ⟨rfl, hb19⟩
    have B6 := B6.next hb19 B6.lt
    have B7 := B7.next hb19 B7.lt
    have hbe := below_join hbe hb19
    clear hb19
    go_wp2
    go_ret
    exact ⟨rfl, hbe⟩
  · skip
    have z70 := B7.cell (k := 0) rfl
    have z71 := B7.cell (k := 1) rfl
    go_wp2_with fail
    (with_reducible refine (C2.out _).mono ?_)
    rintro e w19 ⟨rfl, hb19⟩
    have B6 := B6.next hb19 B6.lt
    have B7 := B7.next hb19 B7.lt
    have hbe := below_join hbe hb19
    clear hb19
    clear z70 z71
    rcases B with _ | _
    · skip
      go_wp2_with fail
      (with_reducible refine (sanity_any _ (HQ.out.next hbe)).mono ?_)
      rintro e w20 ⟨rfl, hb20⟩
      have B6 := B6.next hb20 B6.lt
      have B7 := B7.next hb20 B7.lt
      have hbe := below_join hbe hb20
      clear hb20
      go_wp2
      go_ret
      exact ⟨rfl, hbe⟩
    · skip
      obtain ⟨p, hp, rfl, rfl⟩ := chk_is hA.out
      obtain ⟨q, hq, rfl, rfl⟩ := chk_is hB.out
      have hp2 : qC p = [Value.int .i64 p.num, Value.int .i64 (p.den : Int)] := rfl
      have hq2 : qC q = [Value.int .i64 q.num, Value.int .i64 (q.den : Int)] := rfl
      obtain ⟨NA, DA, kA, hA⟩ := ansQ_form (p + q)
      have xA := fun w => add_any p q w hp hq
      have yA := fun w => radd_any p q w hp hq
      rw [hA, hp2, hq2] at xA yA
      have XA := Lib.hid xA
      have YA := Lib.hid yA
      clear hA xA yA
      obtain ⟨NS, DS, kS, hS⟩ := ansQ_form (p - q)
      have xS := fun w => sub_any p q w hp hq
      have yS := fun w => rsub_any p q w hp hq
      rw [hS, hp2, hq2] at xS yS
      have XS := Lib.hid xS
      have YS := Lib.hid yS
      clear hS xS yS
      obtain ⟨NM, DM, kM, hM⟩ := ansQ_form (p * q)
      have xM := fun w => mul_any p q w hp hq
      have yM := fun w => rmul_any p q w hp hq
      rw [hM, hp2, hq2] at xM yM
      have XM := Lib.hid xM
      have YM := Lib.hid yM
      clear hM xM yM
      obtain ⟨NV, DV, kV, hV⟩ := divE_form p q
      have xV := fun w => div_any p q w hp hq
      have yV := fun w => rdiv_any p q w hp hq
      rw [hV, hp2, hq2] at xV yV
      have XV := Lib.hid xV
      have YV := Lib.hid yV
      clear hV xV yV
      obtain ⟨cv, hcv⟩ : ∃ c, cmpQ p q = c := ⟨_, rfl⟩
      obtain ⟨fv, hfv⟩ : ∃ c, p.floor = c := ⟨_, rfl⟩
      obtain ⟨gv, hgv⟩ : ∃ c, p.ceil = c := ⟨_, rfl⟩
      obtain ⟨tv, htv⟩ : ∃ c : ByteArray, ⟨(textQ p).toArray⟩ = c := ⟨_, rfl⟩
      have xC := fun w => cmp_any p q w hp hq
      have yC := fun w => rcmp_any p q w hp hq
      rw [hcv, hp2, hq2] at xC yC
      have XC := Lib.hid xC
      have YC := Lib.hid yC
      clear xC yC
      have xF := fun w => floor_any p w hp
      have yF := fun w => rfloor_any p w hp
      rw [hfv, hp2] at xF yF
      have XF := Lib.hid xF
      have YF := Lib.hid yF
      clear xF yF
      have xG := fun w => ceil_any p w hp
      have yG := fun w => rceil_any p w hp
      rw [hgv, hp2] at xG yG
      have XG := Lib.hid xG
      have YG := Lib.hid yG
      clear xG yG
      have xT := fun w hw => text_any p w hp hw
      have yT := fun w hw => rtext_any p w hp hw
      rw [htv, hp2] at xT yT
      have XT := Lib.hid xT
      have YT := Lib.hid yT
      clear xT yT hcv hfv hgv htv hp2 hq2 hp hq
      have z60 := B6.cell (k := 0) rfl
      have z61 := B6.cell (k := 1) rfl
      have z70 := B7.cell (k := 0) rfl
      have z71 := B7.cell (k := 1) rfl
      go_wp2_with fail
      (with_reducible refine (XA.out _).mono ?_)
      rintro e w20 ⟨rfl, hb20⟩
      have B6 := B6.next hb20 B6.lt
      have B7 := B7.next hb20 B7.lt
      have hbe := below_join hbe hb20
      clear hb20
      clear z60 z61 z70 z71
      go_wp2_with (with_reducible refine wpList_alloc (o := ⟨some 21, .alloc 23, _, _, _, _⟩) (by with_unfolding_all rfl) 23 (by with_unfolding_all rfl) (.agg zC.toArray) zC (by exact Tryd.zeroQ) (by with_unfolding_all rfl) ?_)
      intro g21 w21 hg21 hs21 hb21 B21
      have hl21 : w.heap.size ≤ g21 := Nat.le_trans hbe.size (Nat.le_of_eq hg21.out.symm)
      have ne6_21 : g6 ≠ g21 := by have := B6.lt; have := hg21.out; omega
      have ne7_21 : g7 ≠ g21 := by have := B7.lt; have := hg21.out; omega
      have hb21 := hb21.mono (Nat.le_of_eq hg21.out.symm)
      have B6 := B6.next hb21 B6.lt
      have B7 := B7.next hb21 B7.lt
      have hbe := below_join hbe hb21
      clear hb21 hg21 hs21
      go_wp2_with (with_reducible refine wpList_put (o := ⟨none, .store 23 (.tmp 21) (.tmp 97), _, _, _, _⟩) (by with_unfolding_all rfl) 23 (.tmp 21) (.tmp 97) (by with_unfolding_all rfl) g21 0 (by with_unfolding_all rfl) (.agg [Value.int .i64 NA, Value.int .i64 DA].toArray) (by with_unfolding_all rfl) B21 [Value.int .i64 NA, Value.int .i64 DA] (by with_unfolding_all rfl) (by with_unfolding_all (exact Tryd.szQ)) (by with_unfolding_all (exact Nat.le_refl 2)) (by with_unfolding_all (exact int_one _ _)) ?_)
      clear B21
      intro w22 hu22 B21
      rw [splice_all _ _ (by rfl)] at B21
      have hbe := hbe.trans (hu22.below (B := w.heap.size) hl21)
      have B6 := B6.upd hu22 (by first | exact ne6_21 | exact ne21_6.symm)
      have B7 := B7.upd hu22 (by first | exact ne7_21 | exact ne21_7.symm)
      clear hu22
      have z60 := B6.cell (k := 0) rfl
      have z61 := B6.cell (k := 1) rfl
      have z70 := B7.cell (k := 0) rfl
      have z71 := B7.cell (k := 1) rfl
      go_wp2_with fail
      (with_reducible refine (YA.out _).mono ?_)
      rintro e w23 ⟨rfl, hb23⟩
      have B6 := B6.next hb23 B6.lt
      have B7 := B7.next hb23 B7.lt
      have B21 := B21.next hb23 B21.lt
      have hbe := below_join hbe hb23
      clear hb23
      clear z60 z61 z70 z71
      go_wp2_with (with_reducible refine wpList_alloc (o := ⟨some 23, .alloc 23, _, _, _, _⟩) (by with_unfolding_all rfl) 23 (by with_unfolding_all rfl) (.agg zC.toArray) zC (by exact Tryd.zeroQ) (by with_unfolding_all rfl) ?_)
      intro g23 w24 hg23 hs24 hb24 B23
      have hl23 : w.heap.size ≤ g23 := Nat.le_trans hbe.size (Nat.le_of_eq hg23.out.symm)
      have ne6_23 : g6 ≠ g23 := by have := B6.lt; have := hg23.out; omega
      have ne7_23 : g7 ≠ g23 := by have := B7.lt; have := hg23.out; omega
      have ne21_23 : g21 ≠ g23 := by have := B21.lt; have := hg23.out; omega
      have hb24 := hb24.mono (Nat.le_of_eq hg23.out.symm)
      have B6 := B6.next hb24 B6.lt
      have B7 := B7.next hb24 B7.lt
      have B21 := B21.next hb24 B21.lt
      have hbe := below_join hbe hb24
      clear hb24 hg23 hs24
      go_wp2_with (with_reducible refine wpList_put (o := ⟨none, .store 23 (.tmp 23) (.tmp 103), _, _, _, _⟩) (by with_unfolding_all rfl) 23 (.tmp 23) (.tmp 103) (by with_unfolding_all rfl) g23 0 (by with_unfolding_all rfl) (.agg [Value.int .i64 NA, Value.int .i64 DA].toArray) (by with_unfolding_all rfl) B23 [Value.int .i64 NA, Value.int .i64 DA] (by with_unfolding_all rfl) (by with_unfolding_all (exact Tryd.szQ)) (by with_unfolding_all (exact Nat.le_refl 2)) (by with_unfolding_all (exact int_one _ _)) ?_)
      clear B23
      intro w25 hu25 B23
      rw [splice_all _ _ (by rfl)] at B23
      have hbe := hbe.trans (hu25.below (B := w.heap.size) hl23)
      have B6 := B6.upd hu25 (by first | exact ne6_23 | exact ne23_6.symm)
      have B7 := B7.upd hu25 (by first | exact ne7_23 | exact ne23_7.symm)
      have B21 := B21.upd hu25 (by first | exact ne21_23 | exact ne23_21.symm)
      clear hu25
      have z60 := B6.cell (k := 0) rfl
      have z61 := B6.cell (k := 1) rfl
      have z70 := B7.cell (k := 0) rfl
      have z71 := B7.cell (k := 1) rfl
      go_wp2_with fail
      (with_reducible refine (XS.out _).mono ?_)
      rintro e w26 ⟨rfl, hb26⟩
      have B6 := B6.next hb26 B6.lt
      have B7 := B7.next hb26 B7.lt
      have B21 := B21.next hb26 B21.lt
      have B23 := B23.next hb26 B23.lt
      have hbe := below_join hbe hb26
      clear hb26
      clear z60 z61 z70 z71
      go_wp2_with (with_reducible refine wpList_alloc (o := ⟨some 25, .alloc 23, _, _, _, _⟩) (by with_unfolding_all rfl) 23 (by with_unfolding_all rfl) (.agg zC.toArray) zC (by exact Tryd.zeroQ) (by with_unfolding_all rfl) ?_)
      intro g25 w27 hg25 hs27 hb27 B25
      have hl25 : w.heap.size ≤ g25 := Nat.le_trans hbe.size (Nat.le_of_eq hg25.out.symm)
      have ne6_25 : g6 ≠ g25 := by have := B6.lt; have := hg25.out; omega
      have ne7_25 : g7 ≠ g25 := by have := B7.lt; have := hg25.out; omega
      have ne21_25 : g21 ≠ g25 := by have := B21.lt; have := hg25.out; omega
      have ne23_25 : g23 ≠ g25 := by have := B23.lt; have := hg25.out; omega
      have hb27 := hb27.mono (Nat.le_of_eq hg25.out.symm)
      have B6 := B6.next hb27 B6.lt
      have B7 := B7.next hb27 B7.lt
      have B21 := B21.next hb27 B21.lt
      have B23 := B23.next hb27 B23.lt
      have hbe := below_join hbe hb27
      clear hb27 hg25 hs27
      go_wp2_with (with_reducible refine wpList_put (o := ⟨none, .store 23 (.tmp 25) (.tmp 109), _, _, _, _⟩) (by with_unfolding_all rfl) 23 (.tmp 25) (.tmp 109) (by with_unfolding_all rfl) g25 0 (by with_unfolding_all rfl) (.agg [Value.int .i64 NS, Value.int .i64 DS].toArray) (by with_unfolding_all rfl) B25 [Value.int .i64 NS, Value.int .i64 DS] (by with_unfolding_all rfl) (by with_unfolding_all (exact Tryd.szQ)) (by with_unfolding_all (exact Nat.le_refl 2)) (by with_unfolding_all (exact int_one _ _)) ?_)
      clear B25
      intro w28 hu28 B25
      rw [splice_all _ _ (by rfl)] at B25
      have hbe := hbe.trans (hu28.below (B := w.heap.size) hl25)
      have B6 := B6.upd hu28 (by first | exact ne6_25 | exact ne25_6.symm)
      have B7 := B7.upd hu28 (by first | exact ne7_25 | exact ne25_7.symm)
      have B21 := B21.upd hu28 (by first | exact ne21_25 | exact ne25_21.symm)
      have B23 := B23.upd hu28 (by first | exact ne23_25 | exact ne25_23.symm)
      clear hu28
      have z60 := B6.cell (k := 0) rfl
      have z61 := B6.cell (k := 1) rfl
      have z70 := B7.cell (k := 0) rfl
      have z71 := B7.cell (k := 1) rfl
      go_wp2_with fail
      (with_reducible refine (YS.out _).mono ?_)
      rintro e w29 ⟨rfl, hb29⟩
      have B6 := B6.next hb29 B6.lt
      have B7 := B7.next hb29 B7.lt
      have B21 := B21.next hb29 B21.lt
      have B23 := B23.next hb29 B23.lt
      have B25 := B25.next hb29 B25.lt
      have hbe := below_join hbe hb29
      clear hb29
      clear z60 z61 z70 z71
      go_wp2_with (with_reducible refine wpList_alloc (o := ⟨some 27, .alloc 23, _, _, _, _⟩) (by with_unfolding_all rfl) 23 (by with_unfolding_all rfl) (.agg zC.toArray) zC (by exact Tryd.zeroQ) (by with_unfolding_all rfl) ?_)
      intro g27 w30 hg27 hs30 hb30 B27
      have hl27 : w.heap.size ≤ g27 := Nat.le_trans hbe.size (Nat.le_of_eq hg27.out.symm)
      have ne6_27 : g6 ≠ g27 := by have := B6.lt; have := hg27.out; omega
      have ne7_27 : g7 ≠ g27 := by have := B7.lt; have := hg27.out; omega
      have ne21_27 : g21 ≠ g27 := by have := B21.lt; have := hg27.out; omega
      have ne23_27 : g23 ≠ g27 := by have := B23.lt; have := hg27.out; omega
      have ne25_27 : g25 ≠ g27 := by have := B25.lt; have := hg27.out; omega
      have hb30 := hb30.mono (Nat.le_of_eq hg27.out.symm)
      have B6 := B6.next hb30 B6.lt
      have B7 := B7.next hb30 B7.lt
      have B21 := B21.next hb30 B21.lt
      have B23 := B23.next hb30 B23.lt
      have B25 := B25.next hb30 B25.lt
      have hbe := below_join hbe hb30
      clear hb30 hg27 hs30
      go_wp2_with (with_reducible refine wpList_put (o := ⟨none, .store 23 (.tmp 27) (.tmp 115), _, _, _, _⟩) (by with_unfolding_all rfl) 23 (.tmp 27) (.tmp 115) (by with_unfolding_all rfl) g27 0 (by with_unfolding_all rfl) (.agg [Value.int .i64 NS, Value.int .i64 DS].toArray) (by with_unfolding_all rfl) B27 [Value.int .i64 NS, Value.int .i64 DS] (by with_unfolding_all rfl) (by with_unfolding_all (exact Tryd.szQ)) (by with_unfolding_all (exact Nat.le_refl 2)) (by with_unfolding_all (exact int_one _ _)) ?_)
      clear B27
      intro w31 hu31 B27
      rw [splice_all _ _ (by rfl)] at B27
      have hbe := hbe.trans (hu31.below (B := w.heap.size) hl27)
      have B6 := B6.upd hu31 (by first | exact ne6_27 | exact ne27_6.symm)
      have B7 := B7.upd hu31 (by first | exact ne7_27 | exact ne27_7.symm)
      have B21 := B21.upd hu31 (by first | exact ne21_27 | exact ne27_21.symm)
      have B23 := B23.upd hu31 (by first | exact ne23_27 | exact ne27_23.symm)
      have B25 := B25.upd hu31 (by first | exact ne25_27 | exact ne27_25.symm)
      clear hu31
      have z60 := B6.cell (k := 0) rfl
      have z61 := B6.cell (k := 1) rfl
      have z70 := B7.cell (k := 0) rfl
      have z71 := B7.cell (k := 1) rfl
      go_wp2_with fail
      (with_reducible refine (XM.out _).mono ?_)
      rintro e w32 ⟨rfl, hb32⟩
      have B6 := B6.next hb32 B6.lt
      have B7 := B7.next hb32 B7.lt
      have B21 := B21.next hb32 B21.lt
      have B23 := B23.next hb32 B23.lt
      have B25 := B25.next hb32 B25.lt
      have B27 := B27.next hb32 B27.lt
      have hbe := below_join hbe hb32
      clear hb32
      clear z60 z61 z70 z71
      go_wp2_with (with_reducible refine wpList_alloc (o := ⟨some 29, .alloc 23, _, _, _, _⟩) (by with_unfolding_all rfl) 23 (by with_unfolding_all rfl) (.agg zC.toArray) zC (by exact Tryd.zeroQ) (by with_unfolding_all rfl) ?_)
      intro g29 w33 hg29 hs33 hb33 B29
      have hl29 : w.heap.size ≤ g29 := Nat.le_trans hbe.size (Nat.le_of_eq hg29.out.symm)
      have ne6_29 : g6 ≠ g29 := by have := B6.lt; have := hg29.out; omega
      have ne7_29 : g7 ≠ g29 := by have := B7.lt; have := hg29.out; omega
      have ne21_29 : g21 ≠ g29 := by have := B21.lt; have := hg29.out; omega
      have ne23_29 : g23 ≠ g29 := by have := B23.lt; have := hg29.out; omega
      have ne25_29 : g25 ≠ g29 := by have := B25.lt; have := hg29.out; omega
      have ne27_29 : g27 ≠ g29 := by have := B27.lt; have := hg29.out; omega
      have hb33 := hb33.mono (Nat.le_of_eq hg29.out.symm)
      have B6 := B6.next hb33 B6.lt
      have B7 := B7.next hb33 B7.lt
      have B21 := B21.next hb33 B21.lt
      have B23 := B23.next hb33 B23.lt
      have B25 := B25.next hb33 B25.lt
      have B27 := B27.next hb33 B27.lt
      have hbe := below_join hbe hb33
      clear hb33 hg29 hs33
      go_wp2_with (with_reducible refine wpList_put (o := ⟨none, .store 23 (.tmp 29) (.tmp 121), _, _, _, _⟩) (by with_unfolding_all rfl) 23 (.tmp 29) (.tmp 121) (by with_unfolding_all rfl) g29 0 (by with_unfolding_all rfl) (.agg [Value.int .i64 NM, Value.int .i64 DM].toArray) (by with_unfolding_all rfl) B29 [Value.int .i64 NM, Value.int .i64 DM] (by with_unfolding_all rfl) (by with_unfolding_all (exact Tryd.szQ)) (by with_unfolding_all (exact Nat.le_refl 2)) (by with_unfolding_all (exact int_one _ _)) ?_)
      clear B29
      intro w34 hu34 B29
      rw [splice_all _ _ (by rfl)] at B29
      have hbe := hbe.trans (hu34.below (B := w.heap.size) hl29)
      have B6 := B6.upd hu34 (by first | exact ne6_29 | exact ne29_6.symm)
      have B7 := B7.upd hu34 (by first | exact ne7_29 | exact ne29_7.symm)
      have B21 := B21.upd hu34 (by first | exact ne21_29 | exact ne29_21.symm)
      have B23 := B23.upd hu34 (by first | exact ne23_29 | exact ne29_23.symm)
      have B25 := B25.upd hu34 (by first | exact ne25_29 | exact ne29_25.symm)
      have B27 := B27.upd hu34 (by first | exact ne27_29 | exact ne29_27.symm)
      clear hu34
      have z60 := B6.cell (k := 0) rfl
      have z61 := B6.cell (k := 1) rfl
      have z70 := B7.cell (k := 0) rfl
      have z71 := B7.cell (k := 1) rfl
      go_wp2_with fail
      (with_reducible refine (YM.out _).mono ?_)
      rintro e w35 ⟨rfl, hb35⟩
      have B6 := B6.next hb35 B6.lt
      have B7 := B7.next hb35 B7.lt
      have B21 := B21.next hb35 B21.lt
      have B23 := B23.next hb35 B23.lt
      have B25 := B25.next hb35 B25.lt
      have B27 := B27.next hb35 B27.lt
      have B29 := B29.next hb35 B29.lt
      have hbe := below_join hbe hb35
      clear hb35
      clear z60 z61 z70 z71
      go_wp2_with (with_reducible refine wpList_alloc (o := ⟨some 31, .alloc 23, _, _, _, _⟩) (by with_unfolding_all rfl) 23 (by with_unfolding_all rfl) (.agg zC.toArray) zC (by exact Tryd.zeroQ) (by with_unfolding_all rfl) ?_)
      intro g31 w36 hg31 hs36 hb36 B31
      have hl31 : w.heap.size ≤ g31 := Nat.le_trans hbe.size (Nat.le_of_eq hg31.out.symm)
      have ne6_31 : g6 ≠ g31 := by have := B6.lt; have := hg31.out; omega
      have ne7_31 : g7 ≠ g31 := by have := B7.lt; have := hg31.out; omega
      have ne21_31 : g21 ≠ g31 := by have := B21.lt; have := hg31.out; omega
      have ne23_31 : g23 ≠ g31 := by have := B23.lt; have := hg31.out; omega
      have ne25_31 : g25 ≠ g31 := by have := B25.lt; have := hg31.out; omega
      have ne27_31 : g27 ≠ g31 := by have := B27.lt; have := hg31.out; omega
      have ne29_31 : g29 ≠ g31 := by have := B29.lt; have := hg31.out; omega
      have hb36 := hb36.mono (Nat.le_of_eq hg31.out.symm)
      have B6 := B6.next hb36 B6.lt
      have B7 := B7.next hb36 B7.lt
      have B21 := B21.next hb36 B21.lt
      have B23 := B23.next hb36 B23.lt
      have B25 := B25.next hb36 B25.lt
      have B27 := B27.next hb36 B27.lt
      have B29 := B29.next hb36 B29.lt
      have hbe := below_join hbe hb36
      clear hb36 hg31 hs36
      go_wp2_with (with_reducible refine wpList_put (o := ⟨none, .store 23 (.tmp 31) (.tmp 127), _, _, _, _⟩) (by with_unfolding_all rfl) 23 (.tmp 31) (.tmp 127) (by with_unfolding_all rfl) g31 0 (by with_unfolding_all rfl) (.agg [Value.int .i64 NM, Value.int .i64 DM].toArray) (by with_unfolding_all rfl) B31 [Value.int .i64 NM, Value.int .i64 DM] (by with_unfolding_all rfl) (by with_unfolding_all (exact Tryd.szQ)) (by with_unfolding_all (exact Nat.le_refl 2)) (by with_unfolding_all (exact int_one _ _)) ?_)
      clear B31
      intro w37 hu37 B31
      rw [splice_all _ _ (by rfl)] at B31
      have hbe := hbe.trans (hu37.below (B := w.heap.size) hl31)
      have B6 := B6.upd hu37 (by first | exact ne6_31 | exact ne31_6.symm)
      have B7 := B7.upd hu37 (by first | exact ne7_31 | exact ne31_7.symm)
      have B21 := B21.upd hu37 (by first | exact ne21_31 | exact ne31_21.symm)
      have B23 := B23.upd hu37 (by first | exact ne23_31 | exact ne31_23.symm)
      have B25 := B25.upd hu37 (by first | exact ne25_31 | exact ne31_25.symm)
      have B27 := B27.upd hu37 (by first | exact ne27_31 | exact ne31_27.symm)
      have B29 := B29.upd hu37 (by first | exact ne29_31 | exact ne31_29.symm)
      clear hu37
      have z60 := B6.cell (k := 0) rfl
      have z61 := B6.cell (k := 1) rfl
      have z70 := B7.cell (k := 0) rfl
      have z71 := B7.cell (k := 1) rfl
      go_wp2_with fail
      (with_reducible refine (XV.out _).mono ?_)
      rintro e w38 ⟨rfl, hb38⟩
      have B6 := B6.next hb38 B6.lt
      have B7 := B7.next hb38 B7.lt
      have B21 := B21.next hb38 B21.lt
      have B23 := B23.next hb38 B23.lt
      have B25 := B25.next hb38 B25.lt
      have B27 := B27.next hb38 B27.lt
      have B29 := B29.next hb38 B29.lt
      have B31 := B31.next hb38 B31.lt
      have hbe := below_join hbe hb38
      clear hb38
      clear z60 z61 z70 z71
      go_wp2_with (with_reducible refine wpList_alloc (o := ⟨some 33, .alloc 23, _, _, _, _⟩) (by with_unfolding_all rfl) 23 (by with_unfolding_all rfl) (.agg zC.toArray) zC (by exact Tryd.zeroQ) (by with_unfolding_all rfl) ?_)
      intro g33 w39 hg33 hs39 hb39 B33
      have hl33 : w.heap.size ≤ g33 := Nat.le_trans hbe.size (Nat.le_of_eq hg33.out.symm)
      have ne6_33 : g6 ≠ g33 := by have := B6.lt; have := hg33.out; omega
      have ne7_33 : g7 ≠ g33 := by have := B7.lt; have := hg33.out; omega
      have ne21_33 : g21 ≠ g33 := by have := B21.lt; have := hg33.out; omega
      have ne23_33 : g23 ≠ g33 := by have := B23.lt; have := hg33.out; omega
      have ne25_33 : g25 ≠ g33 := by have := B25.lt; have := hg33.out; omega
      have ne27_33 : g27 ≠ g33 := by have := B27.lt; have := hg33.out; omega
      have ne29_33 : g29 ≠ g33 := by have := B29.lt; have := hg33.out; omega
      have ne31_33 : g31 ≠ g33 := by have := B31.lt; have := hg33.out; omega
      have hb39 := hb39.mono (Nat.le_of_eq hg33.out.symm)
      have B6 := B6.next hb39 B6.lt
      have B7 := B7.next hb39 B7.lt
      have B21 := B21.next hb39 B21.lt
      have B23 := B23.next hb39 B23.lt
      have B25 := B25.next hb39 B25.lt
      have B27 := B27.next hb39 B27.lt
      have B29 := B29.next hb39 B29.lt
      have B31 := B31.next hb39 B31.lt
      have hbe := below_join hbe hb39
      clear hb39 hg33 hs39
      go_wp2_with (with_reducible refine wpList_put (o := ⟨none, .store 23 (.tmp 33) (.tmp 133), _, _, _, _⟩) (by with_unfolding_all rfl) 23 (.tmp 33) (.tmp 133) (by with_unfolding_all rfl) g33 0 (by with_unfolding_all rfl) (.agg [Value.int .i64 NV, Value.int .i64 DV].toArray) (by with_unfolding_all rfl) B33 [Value.int .i64 NV, Value.int .i64 DV] (by with_unfolding_all rfl) (by with_unfolding_all (exact Tryd.szQ)) (by with_unfolding_all (exact Nat.le_refl 2)) (by with_unfolding_all (exact int_one _ _)) ?_)
      clear B33
      intro w40 hu40 B33
      rw [splice_all _ _ (by rfl)] at B33
      have hbe := hbe.trans (hu40.below (B := w.heap.size) hl33)
      have B6 := B6.upd hu40 (by first | exact ne6_33 | exact ne33_6.symm)
      have B7 := B7.upd hu40 (by first | exact ne7_33 | exact ne33_7.symm)
      have B21 := B21.upd hu40 (by first | exact ne21_33 | exact ne33_21.symm)
      have B23 := B23.upd hu40 (by first | exact ne23_33 | exact ne33_23.symm)
      have B25 := B25.upd hu40 (by first | exact ne25_33 | exact ne33_25.symm)
      have B27 := B27.upd hu40 (by first | exact ne27_33 | exact ne33_27.symm)
      have B29 := B29.upd hu40 (by first | exact ne29_33 | exact ne33_29.symm)
      have B31 := B31.upd hu40 (by first | exact ne31_33 | exact ne33_31.symm)
      clear hu40
      have z60 := B6.cell (k := 0) rfl
      have z61 := B6.cell (k := 1) rfl
      have z70 := B7.cell (k := 0) rfl
      have z71 := B7.cell (k := 1) rfl
      go_wp2_with fail
      (with_reducible refine (YV.out _).mono ?_)
      rintro e w41 ⟨rfl, hb41⟩
      have B6 := B6.next hb41 B6.lt
      have B7 := B7.next hb41 B7.lt
      have B21 := B21.next hb41 B21.lt
      have B23 := B23.next hb41 B23.lt
      have B25 := B25.next hb41 B25.lt
      have B27 := B27.next hb41 B27.lt
      have B29 := B29.next hb41 B29.lt
      have B31 := B31.next hb41 B31.lt
      have B33 := B33.next hb41 B33.lt
      have hbe := below_join hbe hb41
      clear hb41
      clear z60 z61 z70 z71
      go_wp2_with (with_reducible refine wpList_alloc (o := ⟨some 35, .alloc 23, _, _, _, _⟩) (by with_unfolding_all rfl) 23 (by with_unfolding_all rfl) (.agg zC.toArray) zC (by exact Tryd.zeroQ) (by with_unfolding_all rfl) ?_)
      intro g35 w42 hg35 hs42 hb42 B35
      have hl35 : w.heap.size ≤ g35 := Nat.le_trans hbe.size (Nat.le_of_eq hg35.out.symm)
      have ne6_35 : g6 ≠ g35 := by have := B6.lt; have := hg35.out; omega
      have ne7_35 : g7 ≠ g35 := by have := B7.lt; have := hg35.out; omega
      have ne21_35 : g21 ≠ g35 := by have := B21.lt; have := hg35.out; omega
      have ne23_35 : g23 ≠ g35 := by have := B23.lt; have := hg35.out; omega
      have ne25_35 : g25 ≠ g35 := by have := B25.lt; have := hg35.out; omega
      have ne27_35 : g27 ≠ g35 := by have := B27.lt; have := hg35.out; omega
      have ne29_35 : g29 ≠ g35 := by have := B29.lt; have := hg35.out; omega
      have ne31_35 : g31 ≠ g35 := by have := B31.lt; have := hg35.out; omega
      have ne33_35 : g33 ≠ g35 := by have := B33.lt; have := hg35.out; omega
      have hb42 := hb42.mono (Nat.le_of_eq hg35.out.symm)
      have B6 := B6.next hb42 B6.lt
      have B7 := B7.next hb42 B7.lt
      have B21 := B21.next hb42 B21.lt
      have B23 := B23.next hb42 B23.lt
      have B25 := B25.next hb42 B25.lt
      have B27 := B27.next hb42 B27.lt
      have B29 := B29.next hb42 B29.lt
      have B31 := B31.next hb42 B31.lt
      have B33 := B33.next hb42 B33.lt
      have hbe := below_join hbe hb42
      clear hb42 hg35 hs42
      go_wp2_with (with_reducible refine wpList_put (o := ⟨none, .store 23 (.tmp 35) (.tmp 139), _, _, _, _⟩) (by with_unfolding_all rfl) 23 (.tmp 35) (.tmp 139) (by with_unfolding_all rfl) g35 0 (by with_unfolding_all rfl) (.agg [Value.int .i64 NV, Value.int .i64 DV].toArray) (by with_unfolding_all rfl) B35 [Value.int .i64 NV, Value.int .i64 DV] (by with_unfolding_all rfl) (by with_unfolding_all (exact Tryd.szQ)) (by with_unfolding_all (exact Nat.le_refl 2)) (by with_unfolding_all (exact int_one _ _)) ?_)
      clear B35
      intro w43 hu43 B35
      rw [splice_all _ _ (by rfl)] at B35
      have hbe := hbe.trans (hu43.below (B := w.heap.size) hl35)
      have B6 := B6.upd hu43 (by first | exact ne6_35 | exact ne35_6.symm)
      have B7 := B7.upd hu43 (by first | exact ne7_35 | exact ne35_7.symm)
      have B21 := B21.upd hu43 (by first | exact ne21_35 | exact ne35_21.symm)
      have B23 := B23.upd hu43 (by first | exact ne23_35 | exact ne35_23.symm)
      have B25 := B25.upd hu43 (by first | exact ne25_35 | exact ne35_25.symm)
      have B27 := B27.upd hu43 (by first | exact ne27_35 | exact ne35_27.symm)
      have B29 := B29.upd hu43 (by first | exact ne29_35 | exact ne35_29.symm)
      have B31 := B31.upd hu43 (by first | exact ne31_35 | exact ne35_31.symm)
      have B33 := B33.upd hu43 (by first | exact ne33_35 | exact ne35_33.symm)
      clear hu43
      have z210 := B21.cell (k := 0) rfl
      have z211 := B21.cell (k := 1) rfl
      have z230 := B23.cell (k := 0) rfl
      have z231 := B23.cell (k := 1) rfl
      have z250 := B25.cell (k := 0) rfl
      have z251 := B25.cell (k := 1) rfl
      have z270 := B27.cell (k := 0) rfl
      have z271 := B27.cell (k := 1) rfl
      have z290 := B29.cell (k := 0) rfl
      have z291 := B29.cell (k := 1) rfl
      have z310 := B31.cell (k := 0) rfl
      have z311 := B31.cell (k := 1) rfl
      have z330 := B33.cell (k := 0) rfl
      have z331 := B33.cell (k := 1) rfl
      have z350 := B35.cell (k := 0) rfl
      have z351 := B35.cell (k := 1) rfl
      go_wp2
      have hdd := below_drew w43
      have K6_0 : Hid (∀ w', Below w43.heap.size w43 w' → w'.rangeAt g6 0 [Value.int .i64 p.num, Value.int .i64 (p.den : Int)]) := (fun w' h => blk_range (B6.next h B6.lt) : ∀ w', Below w43.heap.size w43 w' → w'.rangeAt g6 0 [Value.int .i64 p.num, Value.int .i64 (p.den : Int)])
      have Z6_0 : (Tryd.prog.info? 23).map (·.size) = some [Value.int .i64 p.num, Value.int .i64 (p.den : Int)].length := by (exact Tryd.szQ)
      have K7_0 : Hid (∀ w', Below w43.heap.size w43 w' → w'.rangeAt g7 0 [Value.int .i64 q.num, Value.int .i64 (q.den : Int)]) := (fun w' h => blk_range (B7.next h B7.lt) : ∀ w', Below w43.heap.size w43 w' → w'.rangeAt g7 0 [Value.int .i64 q.num, Value.int .i64 (q.den : Int)])
      have Z7_0 : (Tryd.prog.info? 23).map (·.size) = some [Value.int .i64 q.num, Value.int .i64 (q.den : Int)].length := by (exact Tryd.szQ)
      refine wp_region_held_drew (S := fun w' => Below w43.heap.size w43 w') (by kernel_rfl) hdd (fun hHeld => ?_)
      generalize w43.drew = wd at hdd hHeld ⊢
      refine wpAnyH_ready (rs := [0]) (by kernel_rfl) (by simp) ?_
      refine AllReadyH.cons rfl (fun K hK => ?_) AllReadyH.nil
      go_simp
      go_wp2_with fail
      (with_reducible refine (sanity_any _ (HQ.out.next (below_join hbe hdd))).mono ?_)
      rintro e w44 ⟨rfl, hb44⟩
      have hk44 := below_join hdd hb44
      refine hK.out _ _ hk44 (fun hHeld => ?_)
      clear hK K hb44 hdd
      refine wpAnyH_take (i := 1) (v := ?vab_1) rfl (by kernel_rfl) (by kernel_rfl) (by kernel_rfl) (fun _ _ _ h => h) (Or.inl ⟨by rfl, ?yab_1⟩) (by assumption) ?rab_1
      case yab_1 => intro w hSw; (try dsimp only at hSw); go_simp <;> (try with_reducible rfl)
      (try simp only [List.getElem_toArray, List.getElem_cons_succ, List.getElem_cons_zero, Act.put, List.setIfInBounds_toArray, List.set_cons_zero, List.set_cons_succ])
      refine' wpAnyH_take (i := 2) (v := _) rfl (by kernel_rfl) (by kernel_rfl) (by kernel_rfl) (fun _ _ _ h => h) (yieldsIf_load_mid (by rfl) _ _ (by rfl) _ _ (by rfl) _ _ ?Sab_2 ?uab_2 ?dab_2 ?iab_2) (by assumption) ?rab_2
      case Sab_2 => exact (by intro w h; exact K6_0.out _ h)
      case uab_2 => exact Tryd.underlying23
      case dab_2 => rfl
      case iab_2 => exact Z6_0
      (try simp only [List.getElem_toArray, List.getElem_cons_succ, List.getElem_cons_zero, Act.put, List.setIfInBounds_toArray, List.set_cons_zero, List.set_cons_succ])
      refine' wpAnyH_take (i := 3) (v := _) rfl (by kernel_rfl) (by kernel_rfl) (by kernel_rfl) (fun _ _ _ h => h) (yieldsIf_load_mid (by rfl) _ _ (by rfl) _ _ (by rfl) _ _ ?Sab_3 ?uab_3 ?dab_3 ?iab_3) (by assumption) ?rab_3
      case Sab_3 => exact (by intro w h; exact K7_0.out _ h)
      case uab_3 => exact Tryd.underlying23
      case dab_3 => rfl
      case iab_3 => exact Z7_0
      (try simp only [List.getElem_toArray, List.getElem_cons_succ, List.getElem_cons_zero, Act.put, List.setIfInBounds_toArray, List.set_cons_zero, List.set_cons_succ])
      refine' wpAnyH_take (i := 5) (v := _) rfl (by kernel_rfl) (by kernel_rfl) (by kernel_rfl) (fun _ _ _ h => h) (yieldsIf_load_mid (by rfl) _ _ (by rfl) _ _ (by rfl) _ _ ?Sab_5 ?uab_5 ?dab_5 ?iab_5) (by assumption) ?rab_5
      case Sab_5 => exact (by intro w h; exact K6_0.out _ h)
      case uab_5 => exact Tryd.underlying23
      case dab_5 => rfl
      case iab_5 => exact Z6_0
      (try simp only [List.getElem_toArray, List.getElem_cons_succ, List.getElem_cons_zero, Act.put, List.setIfInBounds_toArray, List.set_cons_zero, List.set_cons_succ])
      refine' wpAnyH_take (i := 6) (v := _) rfl (by kernel_rfl) (by kernel_rfl) (by kernel_rfl) (fun _ _ _ h => h) (yieldsIf_load_mid (by rfl) _ _ (by rfl) _ _ (by rfl) _ _ ?Sab_6 ?uab_6 ?dab_6 ?iab_6) (by assumption) ?rab_6
      case Sab_6 => exact (by intro w h; exact K7_0.out _ h)
      case uab_6 => exact Tryd.underlying23
      case dab_6 => rfl
      case iab_6 => exact Z7_0
      (try simp only [List.getElem_toArray, List.getElem_cons_succ, List.getElem_cons_zero, Act.put, List.setIfInBounds_toArray, List.set_cons_zero, List.set_cons_succ])
      refine wpAnyH_ready (rs := [4]) (by kernel_rfl) (by simp) ?_
      refine AllReadyH.cons rfl (fun K hK => ?_) AllReadyH.nil
      go_simp
      go_wp2_with fail
      (with_reducible refine (XC.out _).mono ?_)
      rintro e w45 ⟨rfl, hb45⟩
      have hk45 := below_join hk44 hb45
      refine hK.out _ _ hk45 (fun hHeld => ?_)
      clear hK K hb45 hk44
      refine wpAnyH_ready (rs := [7]) (by kernel_rfl) (by simp) ?_
      refine AllReadyH.cons rfl (fun K hK => ?_) AllReadyH.nil
      go_simp
      go_wp2_with fail
      (with_reducible refine (YC.out _).mono ?_)
      rintro e w46 ⟨rfl, hb46⟩
      have hk46 := below_join hk45 hb46
      refine hK.out _ _ hk46 (fun hHeld => ?_)
      clear hK K hb46 hk45
      refine wpAnyH_take (i := 8) (v := ?vab_8) rfl (by kernel_rfl) (by kernel_rfl) (by kernel_rfl) (fun _ _ _ h => h) (Or.inl ⟨by rfl, ?yab_8⟩) (by assumption) ?rab_8
      case yab_8 => intro w hSw; (try dsimp only at hSw); go_simp <;> (try with_reducible rfl)
      (try simp only [List.getElem_toArray, List.getElem_cons_succ, List.getElem_cons_zero, Act.put, List.setIfInBounds_toArray, List.set_cons_zero, List.set_cons_succ])
      refine wpAnyH_take (i := 9) (v := ?vab_9) rfl (by kernel_rfl) (by kernel_rfl) (by kernel_rfl) (fun _ _ _ h => h) (Or.inl ⟨by rfl, ?yab_9⟩) (by assumption) ?rab_9
      case yab_9 => intro w hSw; (try dsimp only at hSw); go_simp <;> (try with_reducible rfl)
      (try simp only [List.getElem_toArray, List.getElem_cons_succ, List.getElem_cons_zero, Act.put, List.setIfInBounds_toArray, List.set_cons_zero, List.set_cons_succ])
      refine wpAnyH_take (i := 10) (v := ?vab_10) rfl (by kernel_rfl) (by kernel_rfl) (by kernel_rfl) (fun _ _ _ h => h) (Or.inl ⟨by rfl, ?yab_10⟩) (by assumption) ?rab_10
      case yab_10 => intro w hSw; (try dsimp only at hSw); go_simp <;> (try with_reducible rfl)
      (try simp only [List.getElem_toArray, List.getElem_cons_succ, List.getElem_cons_zero, Act.put, List.setIfInBounds_toArray, List.set_cons_zero, List.set_cons_succ])
      refine' wpAnyH_take (i := 11) (v := _) rfl (by kernel_rfl) (by kernel_rfl) (by kernel_rfl) (fun _ _ _ h => h) (yieldsIf_load_mid (by rfl) _ _ (by rfl) _ _ (by rfl) _ _ ?Sab_11 ?uab_11 ?dab_11 ?iab_11) (by assumption) ?rab_11
      case Sab_11 => exact (by intro w h; exact K6_0.out _ h)
      case uab_11 => exact Tryd.underlying23
      case dab_11 => rfl
      case iab_11 => exact Z6_0
      (try simp only [List.getElem_toArray, List.getElem_cons_succ, List.getElem_cons_zero, Act.put, List.setIfInBounds_toArray, List.set_cons_zero, List.set_cons_succ])
      refine' wpAnyH_take (i := 13) (v := _) rfl (by kernel_rfl) (by kernel_rfl) (by kernel_rfl) (fun _ _ _ h => h) (yieldsIf_load_mid (by rfl) _ _ (by rfl) _ _ (by rfl) _ _ ?Sab_13 ?uab_13 ?dab_13 ?iab_13) (by assumption) ?rab_13
      case Sab_13 => exact (by intro w h; exact K6_0.out _ h)
      case uab_13 => exact Tryd.underlying23
      case dab_13 => rfl
      case iab_13 => exact Z6_0
      (try simp only [List.getElem_toArray, List.getElem_cons_succ, List.getElem_cons_zero, Act.put, List.setIfInBounds_toArray, List.set_cons_zero, List.set_cons_succ])
      refine wpAnyH_ready (rs := [12]) (by kernel_rfl) (by simp) ?_
      refine AllReadyH.cons rfl (fun K hK => ?_) AllReadyH.nil
      go_simp
      go_wp2_with fail
      (with_reducible refine (XF.out _).mono ?_)
      rintro e w47 ⟨rfl, hb47⟩
      have hk47 := below_join hk46 hb47
      refine hK.out _ _ hk47 (fun hHeld => ?_)
      clear hK K hb47 hk46
      refine wpAnyH_ready (rs := [14]) (by kernel_rfl) (by simp) ?_
      refine AllReadyH.cons rfl (fun K hK => ?_) AllReadyH.nil
      go_simp
      go_wp2_with fail
      (with_reducible refine (YF.out _).mono ?_)
      rintro e w48 ⟨rfl, hb48⟩
      have hk48 := below_join hk47 hb48
      refine hK.out _ _ hk48 (fun hHeld => ?_)
      clear hK K hb48 hk47
      refine wpAnyH_take (i := 15) (v := ?vab_15) rfl (by kernel_rfl) (by kernel_rfl) (by kernel_rfl) (fun _ _ _ h => h) (Or.inl ⟨by rfl, ?yab_15⟩) (by assumption) ?rab_15
      case yab_15 => intro w hSw; (try dsimp only at hSw); go_simp <;> (try with_reducible rfl)
      (try simp only [List.getElem_toArray, List.getElem_cons_succ, List.getElem_cons_zero, Act.put, List.setIfInBounds_toArray, List.set_cons_zero, List.set_cons_succ])
      refine wpAnyH_take (i := 16) (v := ?vab_16) rfl (by kernel_rfl) (by kernel_rfl) (by kernel_rfl) (fun _ _ _ h => h) (Or.inl ⟨by rfl, ?yab_16⟩) (by assumption) ?rab_16
      case yab_16 => intro w hSw; (try dsimp only at hSw); go_simp <;> (try with_reducible rfl)
      (try simp only [List.getElem_toArray, List.getElem_cons_succ, List.getElem_cons_zero, Act.put, List.setIfInBounds_toArray, List.set_cons_zero, List.set_cons_succ])
      refine wpAnyH_take (i := 17) (v := ?vab_17) rfl (by kernel_rfl) (by kernel_rfl) (by kernel_rfl) (fun _ _ _ h => h) (Or.inl ⟨by rfl, ?yab_17⟩) (by assumption) ?rab_17
      case yab_17 => intro w hSw; (try dsimp only at hSw); go_simp <;> (try with_reducible rfl)
      (try simp only [List.getElem_toArray, List.getElem_cons_succ, List.getElem_cons_zero, Act.put, List.setIfInBounds_toArray, List.set_cons_zero, List.set_cons_succ])
      refine' wpAnyH_take (i := 18) (v := _) rfl (by kernel_rfl) (by kernel_rfl) (by kernel_rfl) (fun _ _ _ h => h) (yieldsIf_load_mid (by rfl) _ _ (by rfl) _ _ (by rfl) _ _ ?Sab_18 ?uab_18 ?dab_18 ?iab_18) (by assumption) ?rab_18
      case Sab_18 => exact (by intro w h; exact K6_0.out _ h)
      case uab_18 => exact Tryd.underlying23
      case dab_18 => rfl
      case iab_18 => exact Z6_0
      (try simp only [List.getElem_toArray, List.getElem_cons_succ, List.getElem_cons_zero, Act.put, List.setIfInBounds_toArray, List.set_cons_zero, List.set_cons_succ])
      refine' wpAnyH_take (i := 20) (v := _) rfl (by kernel_rfl) (by kernel_rfl) (by kernel_rfl) (fun _ _ _ h => h) (yieldsIf_load_mid (by rfl) _ _ (by rfl) _ _ (by rfl) _ _ ?Sab_20 ?uab_20 ?dab_20 ?iab_20) (by assumption) ?rab_20
      case Sab_20 => exact (by intro w h; exact K6_0.out _ h)
      case uab_20 => exact Tryd.underlying23
      case dab_20 => rfl
      case iab_20 => exact Z6_0
      (try simp only [List.getElem_toArray, List.getElem_cons_succ, List.getElem_cons_zero, Act.put, List.setIfInBounds_toArray, List.set_cons_zero, List.set_cons_succ])
      refine wpAnyH_ready (rs := [19]) (by kernel_rfl) (by simp) ?_
      refine AllReadyH.cons rfl (fun K hK => ?_) AllReadyH.nil
      go_simp
      go_wp2_with fail
      (with_reducible refine (XG.out _).mono ?_)
      rintro e w49 ⟨rfl, hb49⟩
      have hk49 := below_join hk48 hb49
      refine hK.out _ _ hk49 (fun hHeld => ?_)
      clear hK K hb49 hk48
      refine wpAnyH_ready (rs := [21]) (by kernel_rfl) (by simp) ?_
      refine AllReadyH.cons rfl (fun K hK => ?_) AllReadyH.nil
      go_simp
      go_wp2_with fail
      (with_reducible refine (YG.out _).mono ?_)
      rintro e w50 ⟨rfl, hb50⟩
      have hk50 := below_join hk49 hb50
      refine hK.out _ _ hk50 (fun hHeld => ?_)
      clear hK K hb50 hk49
      refine wpAnyH_take (i := 22) (v := ?vab_22) rfl (by kernel_rfl) (by kernel_rfl) (by kernel_rfl) (fun _ _ _ h => h) (Or.inl ⟨by rfl, ?yab_22⟩) (by assumption) ?rab_22
      case yab_22 => intro w hSw; (try dsimp only at hSw); go_simp <;> (try with_reducible rfl)
      (try simp only [List.getElem_toArray, List.getElem_cons_succ, List.getElem_cons_zero, Act.put, List.setIfInBounds_toArray, List.set_cons_zero, List.set_cons_succ])
      refine wpAnyH_take (i := 23) (v := ?vab_23) rfl (by kernel_rfl) (by kernel_rfl) (by kernel_rfl) (fun _ _ _ h => h) (Or.inl ⟨by rfl, ?yab_23⟩) (by assumption) ?rab_23
      case yab_23 => intro w hSw; (try dsimp only at hSw); go_simp <;> (try with_reducible rfl)
      (try simp only [List.getElem_toArray, List.getElem_cons_succ, List.getElem_cons_zero, Act.put, List.setIfInBounds_toArray, List.set_cons_zero, List.set_cons_succ])
      refine wpAnyH_take (i := 24) (v := ?vab_24) rfl (by kernel_rfl) (by kernel_rfl) (by kernel_rfl) (fun _ _ _ h => h) (Or.inl ⟨by rfl, ?yab_24⟩) (by assumption) ?rab_24
      case yab_24 => intro w hSw; (try dsimp only at hSw); go_simp <;> (try with_reducible rfl)
      (try simp only [List.getElem_toArray, List.getElem_cons_succ, List.getElem_cons_zero, Act.put, List.setIfInBounds_toArray, List.set_cons_zero, List.set_cons_succ])
      refine' wpAnyH_take (i := 25) (v := _) rfl (by kernel_rfl) (by kernel_rfl) (by kernel_rfl) (fun _ _ _ h => h) (yieldsIf_load_mid (by rfl) _ _ (by rfl) _ _ (by rfl) _ _ ?Sab_25 ?uab_25 ?dab_25 ?iab_25) (by assumption) ?rab_25
      case Sab_25 => exact (by intro w h; exact K6_0.out _ h)
      case uab_25 => exact Tryd.underlying23
      case dab_25 => rfl
      case iab_25 => exact Z6_0
      (try simp only [List.getElem_toArray, List.getElem_cons_succ, List.getElem_cons_zero, Act.put, List.setIfInBounds_toArray, List.set_cons_zero, List.set_cons_succ])
      refine' wpAnyH_take (i := 27) (v := _) rfl (by kernel_rfl) (by kernel_rfl) (by kernel_rfl) (fun _ _ _ h => h) (yieldsIf_load_mid (by rfl) _ _ (by rfl) _ _ (by rfl) _ _ ?Sab_27 ?uab_27 ?dab_27 ?iab_27) (by assumption) ?rab_27
      case Sab_27 => exact (by intro w h; exact K6_0.out _ h)
      case uab_27 => exact Tryd.underlying23
      case dab_27 => rfl
      case iab_27 => exact Z6_0
      (try simp only [List.getElem_toArray, List.getElem_cons_succ, List.getElem_cons_zero, Act.put, List.setIfInBounds_toArray, List.set_cons_zero, List.set_cons_succ])
      refine wpAnyH_ready (rs := [26]) (by kernel_rfl) (by simp) ?_
      refine AllReadyH.cons rfl (fun K hK => ?_) AllReadyH.nil
      go_simp
      go_wp2_with fail
      (with_reducible refine (XT.out _ (HQ.out.next (below_join hbe hk50))).mono ?_)
      rintro e w51 ⟨rfl, hb51⟩
      have hk51 := below_join hk50 hb51
      refine hK.out _ _ hk51 (fun hHeld => ?_)
      clear hK K hb51 hk50
      refine wpAnyH_ready (rs := [28]) (by kernel_rfl) (by simp) ?_
      refine AllReadyH.cons rfl (fun K hK => ?_) AllReadyH.nil
      go_simp
      go_wp2_with fail
      (with_reducible refine (YT.out _ (HQ.out.next (below_join hbe hk51))).mono ?_)
      rintro e w52 ⟨rfl, hb52⟩
      have hk52 := below_join hk51 hb52
      refine hK.out _ _ hk52 (fun hHeld => ?_)
      clear hK K hb52 hk51
      refine wpAnyH_take (i := 29) (v := ?vab_29) rfl (by kernel_rfl) (by kernel_rfl) (by kernel_rfl) (fun _ _ _ h => h) (Or.inl ⟨by rfl, ?yab_29⟩) (by assumption) ?rab_29
      case yab_29 => intro w hSw; (try dsimp only at hSw); go_simp <;> (try with_reducible rfl)
      (try simp only [List.getElem_toArray, List.getElem_cons_succ, List.getElem_cons_zero, Act.put, List.setIfInBounds_toArray, List.set_cons_zero, List.set_cons_succ])
      refine wpAnyH_take (i := 30) (v := ?vab_30) rfl (by kernel_rfl) (by kernel_rfl) (by kernel_rfl) (fun _ _ _ h => h) (Or.inl ⟨by rfl, ?yab_30⟩) (by assumption) ?rab_30
      case yab_30 => intro w hSw; (try dsimp only at hSw); go_simp <;> (try with_reducible rfl)
      (try simp only [List.getElem_toArray, List.getElem_cons_succ, List.getElem_cons_zero, Act.put, List.setIfInBounds_toArray, List.set_cons_zero, List.set_cons_succ])
      refine wpAnyH_take (i := 31) (v := ?vab_31) rfl (by kernel_rfl) (by kernel_rfl) (by kernel_rfl) (fun _ _ _ h => h) (Or.inl ⟨by rfl, ?yab_31⟩) (by assumption) ?rab_31
      case yab_31 => intro w hSw; (try dsimp only at hSw); go_simp <;> (try with_reducible rfl)
      (try simp only [List.getElem_toArray, List.getElem_cons_succ, List.getElem_cons_zero, Act.put, List.setIfInBounds_toArray, List.set_cons_zero, List.set_cons_succ])
      refine wpAnyH_done (by kernel_rfl) ?_ _
      clear hHeld K6_0 Z6_0 K7_0 Z7_0
      have B6 := B6.next hk52 B6.lt
      have B7 := B7.next hk52 B7.lt
      have B21 := B21.next hk52 B21.lt
      have B23 := B23.next hk52 B23.lt
      have B25 := B25.next hk52 B25.lt
      have B27 := B27.next hk52 B27.lt
      have B29 := B29.next hk52 B29.lt
      have B31 := B31.next hk52 B31.lt
      have B33 := B33.next hk52 B33.lt
      have B35 := B35.next hk52 B35.lt
      have hbe := below_join hbe hk52
      clear hk52
      go_wp2
      go_ret
      exact ⟨rfl, hbe⟩
end Go.Proofs.YthjaelopmfjfeaaDoor
