/-
  The walk of RatioTextsAreOne. Conditions: the library's variables lie there.
-/
import Derived.Test.YthjaelopmfjfeaaDoorYe
import Derived.Test.YthjaelopmfjfeaaDoorVj
namespace Go.Proofs.YthjaelopmfjfeaaDoor
set_option linter.unusedVariables false
set_option linter.unusedSimpArgs false
open Go.RowKit Go.Shelf
set_option linter.unusedVariables false

theorem parsed_is (s : List UInt8) : ∃ N D b, ∀ e, ParsedQ s e → e = .returned (.tuple #[.agg [Value.int .i64 N, Value.int .i64 D].toArray, .bool b]) := by
  by_cases h : ∃ q, fits q ∧ textQ q = s
  · obtain ⟨q, h1, h2⟩ := h
    exact ⟨q.num, q.den, true, fun e he => he.det (.inl ⟨q, h1, h2, rfl⟩)⟩
  · exact ⟨0, 0, false, fun e he => he.det (.inr ⟨rfl, fun q h1 h2 => h ⟨q, h1, h2⟩⟩)⟩
theorem textQ_arr {q : Rat} {s : ByteArray} (h : textQ q = s.data.toList) : (⟨(textQ q).toArray⟩ : ByteArray) = s := by
  rw [h]
theorem cells_chk {an ad : Int} (h : chk an ad = true) : ∃ q, fits q ∧ q.num = an ∧ (q.den : Int) = ad := chk_is h
set_option maxRecDepth 100000 in
set_option maxHeartbeats 6400000 in
theorem textsLaw_any (an ad : Int) (s : ByteArray) (w : World) (hs : s.size ≤ 140737488355328) (hq : QW w) :
    Calls Tryd.prog 6 #[.agg [Value.int .i64 an, Value.int .i64 ad].toArray, .string s] w fun e w' => e = .returned (.bool true) ∧ Below w.heap.size w w' := by
  have HQ := Lib.hid hq
  obtain ⟨A, hA⟩ : ∃ A, Hid (chk an ad = A) := ⟨_, rfl⟩
  have c1 := fun w => rcheck_any an ad w
  rw [hA.out] at c1
  have C1 := Lib.hid c1
  have CS := Lib.hid (fun w hq => parse_any s w hs hq)
  have hunQ := Tryd.underlying23
  have hguQ := Tryd.guardQ
  clear hq hs c1
  go_enter Tryd.func6, Tryd.ntmps6
  go_wp2_with (with_reducible refine wpList_box (o := ⟨some 2, .box 23 (.tmp 0), _, _, _, _⟩) ?g2 23 (.tmp 0) ?o2 (.agg [Value.int .i64 an, Value.int .i64 ad].toArray) [Value.int .i64 an, Value.int .i64 ad] ?x2 ?c2 ?_)
  try (case g2 => rfl)
  try (case o2 => rfl)
  try (case x2 => rfl)
  try (case c2 => rfl)
  intro g2 w1 hg2 hs1 hb1 B2
  have hb1 := hb1.mono (Nat.le_of_eq hg2.out.symm)
  have hbe : Below w.heap.size w w1 := hb1
  clear hb1 hg2 hs1
  have hl2 : True := trivial
  have z20 := B2.cell (k := 0) rfl
  have z21 := B2.cell (k := 1) rfl
  go_wp2_with fail
  (with_reducible refine (C1.out _).mono ?_)
  rintro e w2 ⟨rfl, hb2⟩
  have B2 := B2.next hb2 B2.lt
  have hbe := below_join hbe hb2
  clear hb2
  clear z20 z21
  rcases A with _ | _
  · skip
    go_wp2_with fail
    (with_reducible refine (sanity_any _ (HQ.out.next hbe)).mono ?_)
    rintro e w3 ⟨rfl, hb3⟩
    have B2 := B2.next hb3 B2.lt
    have hbe := below_join hbe hb3
    clear hb3
    go_wp2
    go_ret
    exact ⟨rfl, hbe⟩
  · skip
    obtain ⟨a, ha, rfl, rfl⟩ := chk_is hA.out
    have ct := fun w hq => text_any a w ha hq
    rw [show qC a = [Value.int .i64 a.num, Value.int .i64 (a.den : Int)] from rfl] at ct
    have CT := Lib.hid ct
    clear ct
    obtain ⟨T, hT⟩ : ∃ T : ByteArray, Hid ((⟨(textQ a).toArray⟩ : ByteArray) = T) := ⟨_, rfl⟩
    rw [hT.out] at CT
    have hTl : T.data.toList = textQ a := by rw [← hT.out]
    have hTs : T.size ≤ 140737488355328 := by
      have h0 := bytes_size T
      have h1 := itoa_len a.num ha.1 ha.2.1
      have h2 := itoa_len (a.den : Int) (by have := a.den_pos; omega) (by have := ha.2.2; omega)
      rw [hTl] at h0
      unfold textQ at h0
      rw [List.length_append] at h0
      split at h0
      · rw [List.length_nil] at h0; omega
      · rw [List.length_cons] at h0; omega
    have CP : Hid (∀ w, QW w → Calls Tryd.prog 12 #[.string T] w fun e w' => e = .returned (.tuple #[.agg [Value.int .i64 a.num, Value.int .i64 (a.den : Int)].toArray, .bool true]) ∧ Below w.heap.size w w') := by
      have : ∀ w, QW w → Calls Tryd.prog 12 #[.string T] w fun e w' => e = .returned (.tuple #[.agg [Value.int .i64 a.num, Value.int .i64 (a.den : Int)].toArray, .bool true]) ∧ Below w.heap.size w w' := fun w hq =>
        (parse_any T w hTs hq).mono fun e w' ⟨h, hb⟩ => ⟨h.det (.inl ⟨a, ha, hTl.symm, rfl⟩), hb⟩
      exact this
    have eA : ∀ w, (binOp .eql 23 (.agg [Value.int .i64 a.num, Value.int .i64 (a.den : Int)].toArray) (.agg [Value.int .i64 a.num, Value.int .i64 (a.den : Int)].toArray)).run Tryd.prog w = .ok (.bool true) w := fun w => by rw [eqlQ]; simp
    have HA := Lib.hid ha
    clear hTl hTs ha
    have z20 := B2.cell (k := 0) rfl
    have z21 := B2.cell (k := 1) rfl
    go_wp2_with fail
    (with_reducible refine (CT.out _ (HQ.out.next hbe)).mono ?_)
    rintro e w3 ⟨rfl, hb3⟩
    have B2 := B2.next hb3 B2.lt
    have hbe := below_join hbe hb3
    clear hb3
    clear z20 z21
    go_wp2_with fail
    (with_reducible refine (CP.out _ (HQ.out.next hbe)).mono ?_)
    rintro e w4 ⟨rfl, hb4⟩
    have B2 := B2.next hb4 B2.lt
    have hbe := below_join hbe hb4
    clear hb4
    go_wp2_with (with_reducible refine wpList_alloc (o := ⟨some 5, .alloc 23, _, _, _, _⟩) (by with_unfolding_all rfl) 23 (by with_unfolding_all rfl) (.agg zC.toArray) zC (by exact Tryd.zeroQ) (by with_unfolding_all rfl) ?_)
    intro g5 w5 hg5 hs5 hb5 B5
    have hl5 : w.heap.size ≤ g5 := Nat.le_trans hbe.size (Nat.le_of_eq hg5.out.symm)
    have ne2_5 : g2 ≠ g5 := by have := B2.lt; have := hg5.out; omega
    have hb5 := hb5.mono (Nat.le_of_eq hg5.out.symm)
    have B2 := B2.next hb5 B2.lt
    have hbe := below_join hbe hb5
    clear hb5 hg5 hs5
    go_wp2_with (with_reducible refine wpList_put (o := ⟨none, .store 23 (.tmp 5) (.tmp 17), _, _, _, _⟩) (by with_unfolding_all rfl) 23 (.tmp 5) (.tmp 17) (by with_unfolding_all rfl) g5 0 (by with_unfolding_all rfl) (.agg [Value.int .i64 a.num, Value.int .i64 (a.den : Int)].toArray) (by with_unfolding_all rfl) B5 [Value.int .i64 a.num, Value.int .i64 (a.den : Int)] (by with_unfolding_all rfl) (by with_unfolding_all (exact Tryd.szQ)) (by with_unfolding_all (exact Nat.le_refl 2)) (by with_unfolding_all (exact int_one _ _)) ?_)
    clear B5
    intro w6 hu6 B5
    rw [splice_all _ _ (by rfl)] at B5
    have hbe := hbe.trans (hu6.below (B := w.heap.size) hl5)
    have B2 := B2.upd hu6 (by first | exact ne2_5 | exact ne5_2.symm)
    clear hu6
    go_wp2_with fail
    (with_reducible refine (CS.out _ (HQ.out.next hbe)).mono ?_)
    rintro e w7 ⟨hP, hb7⟩
    have B2 := B2.next hb7 B2.lt
    have B5 := B5.next hb7 B5.lt
    have hbe := below_join hbe hb7
    clear hb7
    rcases hP with ⟨c, hc, htx, rfl⟩ | ⟨rfl, hno⟩
    · skip
      have hc2 : qC c = [Value.int .i64 c.num, Value.int .i64 (c.den : Int)] := rfl
      rw [hc2]
      have ce := fun w hq => text_any c w hc hq
      rw [hc2, textQ_arr htx] at ce
      have CE := Lib.hid ce
      have cf := fun w => check_any c.num c.den w
      rw [chk_rat hc] at cf
      have CF := Lib.hid cf
      have hss : (s.toList != s.toList) = false := by simp
      clear ce cf hc2 htx hc
      go_wp2_with (with_reducible refine wpList_alloc (o := ⟨some 7, .alloc 23, _, _, _, _⟩) (by with_unfolding_all rfl) 23 (by with_unfolding_all rfl) (.agg zC.toArray) zC (by exact Tryd.zeroQ) (by with_unfolding_all rfl) ?_)
      intro g7 w8 hg7 hs8 hb8 B7
      have hl7 : w.heap.size ≤ g7 := Nat.le_trans hbe.size (Nat.le_of_eq hg7.out.symm)
      have ne2_7 : g2 ≠ g7 := by have := B2.lt; have := hg7.out; omega
      have ne5_7 : g5 ≠ g7 := by have := B5.lt; have := hg7.out; omega
      have hb8 := hb8.mono (Nat.le_of_eq hg7.out.symm)
      have B2 := B2.next hb8 B2.lt
      have B5 := B5.next hb8 B5.lt
      have hbe := below_join hbe hb8
      clear hb8 hg7 hs8
      go_wp2_with (with_reducible refine wpList_put (o := ⟨none, .store 23 (.tmp 7) (.tmp 22), _, _, _, _⟩) (by with_unfolding_all rfl) 23 (.tmp 7) (.tmp 22) (by with_unfolding_all rfl) g7 0 (by with_unfolding_all rfl) (.agg [Value.int .i64 c.num, Value.int .i64 (c.den : Int)].toArray) (by with_unfolding_all rfl) B7 [Value.int .i64 c.num, Value.int .i64 (c.den : Int)] (by with_unfolding_all rfl) (by with_unfolding_all (exact Tryd.szQ)) (by with_unfolding_all (exact Nat.le_refl 2)) (by with_unfolding_all (exact int_one _ _)) ?_)
      clear B7
      intro w9 hu9 B7
      rw [splice_all _ _ (by rfl)] at B7
      have hbe := hbe.trans (hu9.below (B := w.heap.size) hl7)
      have B2 := B2.upd hu9 (by first | exact ne2_7 | exact ne7_2.symm)
      have B5 := B5.upd hu9 (by first | exact ne5_7 | exact ne7_5.symm)
      clear hu9
      have z70 := B7.cell (k := 0) rfl
      have z71 := B7.cell (k := 1) rfl
      go_wp2_with fail
      (with_reducible refine (CE.out _ (HQ.out.next hbe)).mono ?_)
      rintro e w10 ⟨rfl, hb10⟩
      have B2 := B2.next hb10 B2.lt
      have B5 := B5.next hb10 B5.lt
      have B7 := B7.next hb10 B7.lt
      have hbe := below_join hbe hb10
      clear hb10
      clear z70 z71
      have z70 := B7.cell (k := 0) rfl
      have z71 := B7.cell (k := 1) rfl
      go_wp2_with fail
      (with_reducible refine (CF.out _).mono ?_)
      rintro e w11 ⟨rfl, hb11⟩
      have B2 := B2.next hb11 B2.lt
      have B5 := B5.next hb11 B5.lt
      have B7 := B7.next hb11 B7.lt
      have hbe := below_join hbe hb11
      clear hb11
      clear z70 z71
      clear B7
      go_wp2_with fail
      (with_reducible refine (sanity_any _ (HQ.out.next hbe)).mono ?_)
      rintro e w12 ⟨rfl, hb12⟩
      have B2 := B2.next hb12 B2.lt
      have B5 := B5.next hb12 B5.lt
      have hbe := below_join hbe hb12
      clear hb12
      have z50 := B5.cell (k := 0) rfl
      have z51 := B5.cell (k := 1) rfl
      have z20 := B2.cell (k := 0) rfl
      have z21 := B2.cell (k := 1) rfl
      go_wp2
      go_ret
      exact ⟨rfl, hbe⟩
    · skip
      rw [show zC = [Value.int .i64 0, Value.int .i64 0] from rfl]
      clear hno
      go_wp2_with (with_reducible refine wpList_alloc (o := ⟨some 7, .alloc 23, _, _, _, _⟩) (by with_unfolding_all rfl) 23 (by with_unfolding_all rfl) (.agg zC.toArray) zC (by exact Tryd.zeroQ) (by with_unfolding_all rfl) ?_)
      intro g7 w8 hg7 hs8 hb8 B7
      have hl7 : w.heap.size ≤ g7 := Nat.le_trans hbe.size (Nat.le_of_eq hg7.out.symm)
      have ne2_7 : g2 ≠ g7 := by have := B2.lt; have := hg7.out; omega
      have ne5_7 : g5 ≠ g7 := by have := B5.lt; have := hg7.out; omega
      have hb8 := hb8.mono (Nat.le_of_eq hg7.out.symm)
      have B2 := B2.next hb8 B2.lt
      have B5 := B5.next hb8 B5.lt
      have hbe := below_join hbe hb8
      clear hb8 hg7 hs8
      go_wp2_with (with_reducible refine wpList_put (o := ⟨none, .store 23 (.tmp 7) (.tmp 22), _, _, _, _⟩) (by with_unfolding_all rfl) 23 (.tmp 7) (.tmp 22) (by with_unfolding_all rfl) g7 0 (by with_unfolding_all rfl) (.agg [Value.int .i64 0, Value.int .i64 0].toArray) (by with_unfolding_all rfl) B7 [Value.int .i64 0, Value.int .i64 0] (by with_unfolding_all rfl) (by with_unfolding_all (exact Tryd.szQ)) (by with_unfolding_all (exact Nat.le_refl 2)) (by with_unfolding_all (exact int_one _ _)) ?_)
      clear B7
      intro w9 hu9 B7
      rw [splice_all _ _ (by rfl)] at B7
      have hbe := hbe.trans (hu9.below (B := w.heap.size) hl7)
      have B2 := B2.upd hu9 (by first | exact ne2_7 | exact ne7_2.symm)
      have B5 := B5.upd hu9 (by first | exact ne5_7 | exact ne7_5.symm)
      clear hu9
      clear B7
      go_wp2_with fail
      (with_reducible refine (sanity_any _ (HQ.out.next hbe)).mono ?_)
      rintro e w10 ⟨rfl, hb10⟩
      have B2 := B2.next hb10 B2.lt
      have B5 := B5.next hb10 B5.lt
      have hbe := below_join hbe hb10
      clear hb10
      have z50 := B5.cell (k := 0) rfl
      have z51 := B5.cell (k := 1) rfl
      have z20 := B2.cell (k := 0) rfl
      have z21 := B2.cell (k := 1) rfl
      go_wp2
      go_ret
      exact ⟨rfl, hbe⟩
end Go.Proofs.YthjaelopmfjfeaaDoor
