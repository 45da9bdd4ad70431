/-
  The walk over FieldTextsAreExact: it returns true. Conditions: the library's variables lie there.
-/
import Derived.Test.YtbgndopgllnmaaaDoorKFw
import Derived.Test.YtbgndopgllnmaaaDoorKFx
import Derived.Test.YtbgndopgllnmaaaDoorGX
import Derived.Test.YtbgndopgllnmaaaDoorGI
import Derived.Test.YtbgndopgllnmaaaDoorGS
namespace Go.Proofs.YtbgndopgllnmaaaDoor
set_option linter.unusedVariables false
set_option linter.unusedSimpArgs false
open Go.RowKit Go.Shelf
set_option linter.unusedVariables false

theorem textH_le (f : Nat → Bool) : (⟨(textH f 10).toArray⟩ : ByteArray).size ≤ 1000000 := by
  have := textH_length f 10
  rw [arr_len]; omega
set_option maxRecDepth 100000 in
set_option maxHeartbeats 12800000 in
theorem textsLaw_any (hl : List Int) (s : ByteArray) (w : World) (hl10 : hl.length = 10) (hs : s.size ≤ 9223372036854775807) (hQ : QF w) :
    Calls Tryd.prog 7 #[.agg (hl.map iV).toArray, .string s] w fun e w' => e = .returned (.bool true) ∧ Below w.heap.size w w' := by
  have HSA := Lib.hid (fun w h => sanity_any w h)
  have HQ := Lib.hid hQ
  have HR3 := Lib.hid (fun w => rrightHead_any hl w hl10)
  have hsi : (s.size : Int) ≤ 9223372036854775807 := by omega
  clear hQ
  by_cases h100 : 100 < s.size
  · have h1 : decide (100 < s.size) = true := decide_eq_true h100
    have h2 : decide ((s.size : Int) > 100) = true := decide_eq_true (by omega)
    have h3 : decide ((100 : Int) < (s.size : Int)) = true := decide_eq_true (by omega)
    go_enter Tryd.func7, Tryd.ntmps7
    go_wp2_with (with_reducible refine wpList_box (o := ⟨some 2, .box 30 (.tmp 0), _, _, _, _⟩) ?g2qaa 30 (.tmp 0) ?o2qaa (.agg (hl.map iV).toArray) (hl.map iV) ?x2qaa ?c2qaa ?_)
    try (case g2qaa => rfl)
    try (case o2qaa => rfl)
    try (case x2qaa => rfl)
    try (case c2qaa => rfl)
    intro g2 w1 hg2 hs1 hb1 B2
    have hl2 : w.heap.size ≤ g2 := Nat.le_of_eq hg2.out.symm
    have hb1 := hb1.mono (Nat.le_of_eq hg2.out.symm)
    have hbe : Below w.heap.size w w1 := hb1
    clear hb1 hg2 hs1
    go_wp2_with fail
    (with_reducible refine (HSA.out _ (HQ.out.next hbe)).mono ?_)
    rintro e w2 ⟨rfl, hb2⟩
    have B2 := B2.next hb2 B2.lt
    have hbe := below_join hbe hb2
    clear hb2
    go_wp2
    go_ret
    exact ⟨rfl, hbe⟩
  · have h1 : decide (100 < s.size) = false := decide_eq_false (by omega)
    have h2 : decide ((s.size : Int) > 100) = false := decide_eq_false (by omega)
    have h3 : decide ((100 : Int) < (s.size : Int)) = false := decide_eq_false (by omega)
    have hp1 := fun w (q : QF w) => fparse_any s w (by omega) q
    have hp2 := fun w => rparse_any s w (by omega)
    rw [both_read] at hp2
    by_cases hr : rightI hl
    · rw [decide_eq_true hr] at HR3
      obtain ⟨g, rfl⟩ := right_head hl10 hr
      have hHi : (HI g).map iV = H g := (H_iV g).symm
      rw [hHi] at HR3 ⊢
      have HTG := Lib.hid (fun w => ftext_any g w)
      have HRG := Lib.hid (fun w => rtext8_any g w)
      have hpg := fun w (q : QF w) => fparse_any ⟨(textH g 10).toArray⟩ w (textH_le g) q
      rw [text_read g] at hpg
      obtain ⟨T, hT⟩ : ∃ T, (⟨(textH g 10).toArray⟩ : ByteArray) = T := ⟨_, rfl⟩
      rw [hT] at HTG HRG hpg
      have hTz : T.size ≤ 1000000 := by rw [← hT]; exact textH_le g
      have hTi : (T.size : Int) ≤ 8388608 := by omega
      have HPG : Hid (∀ w, QF w → Calls Tryd.prog 39 #[.string T] w fun e w' => e = .returned (.tuple #[.agg (H g).toArray, .int .i64 0]) ∧ Below w.heap.size w w') := (by
        have : ∀ w, QF w → Calls Tryd.prog 39 #[.string T] w fun e w' => e = .returned (.tuple #[.agg (H g).toArray, .int .i64 0]) ∧ Below w.heap.size w w' := fun w q => (hpg w q).mono fun e w' ⟨he, hb⟩ => ⟨by rw [he]; show Ending.returned (.tuple #[.agg ((wordsH g).map nV).toArray, .int .i64 0]) = _; rw [wordsH_H], hb⟩
        exact this)
      have heG : ∀ w, (binOp .eql 30 (.agg (H g).toArray) (.agg (H g).toArray)).run Tryd.prog w = .ok (.bool true) w := fun w => by rw [eqlH, decide_eq_true rfl]
      clear hpg hT hTz hHi hr hl10
      cases hpm : parseM s with
      | none =>
        rw [hpm] at hp1 hp2
        have HP1 : Hid (∀ w, QF w → Calls Tryd.prog 39 #[.string s] w fun e w' => e = .returned (.tuple #[.agg (H no).toArray, .int .i64 3]) ∧ Below w.heap.size w w') := hp1
        have HP2 : Hid (∀ w, Calls Tryd.prog 40 #[.string s] w fun e w' => e = .returned (.tuple #[.agg (H no).toArray, .int .i64 3]) ∧ Below w.heap.size w w') := hp2
        have hne : ∀ w, (binOp .neq 30 (.agg (H no).toArray) (.agg (H no).toArray)).run Tryd.prog w = .ok (.bool false) w := fun w => by rw [neqH, decide_eq_true rfl]; rfl
        clear hp1 hp2 hpm
        go_enter Tryd.func7, Tryd.ntmps7
        go_wp2_with (with_reducible refine wpList_box (o := ⟨some 2, .box 30 (.tmp 0), _, _, _, _⟩) ?g2qab 30 (.tmp 0) ?o2qab (.agg (H g).toArray) (H g) ?x2qab ?c2qab ?_)
        try (case g2qab => rfl)
        try (case o2qab => rfl)
        try (case x2qab => rfl)
        try (case c2qab => rfl)
        intro g2 w1 hg2 hs1 hb1 B2
        have hl2 : w.heap.size ≤ g2 := Nat.le_of_eq hg2.out.symm
        have hb1 := hb1.mono (Nat.le_of_eq hg2.out.symm)
        have hbe : Below w.heap.size w w1 := hb1
        clear hb1 hg2 hs1
        go_wp2_with fail
        (with_reducible refine (HP1.out _ (HQ.out.next hbe)).mono ?_)
        rintro e w2 ⟨rfl, hb2⟩
        have B2 := B2.next hb2 B2.lt
        have hbe := below_join hbe hb2
        clear hb2
        go_wp2_with (with_reducible refine wpList_alloc (o := ⟨some 5, .alloc 30, _, _, _, _⟩) (by with_unfolding_all rfl) 30 (by with_unfolding_all rfl) (.agg (H no).toArray) (H no) (by exact Tryd.zeroH) (by with_unfolding_all rfl) ?_)
        intro g5 w3 hg5 hs3 hb3 B5
        have hl5 : w.heap.size ≤ g5 := Nat.le_trans hbe.size (Nat.le_of_eq hg5.out.symm)
        have ne2_5 : g2 ≠ g5 := by have := B2.lt; have := hg5.out; omega
        have ne5_2 := ne2_5.symm
        have hb3 := hb3.mono (Nat.le_of_eq hg5.out.symm)
        have B2 := B2.next hb3 B2.lt
        have hbe := below_join hbe hb3
        clear hb3 hg5 hs3
        go_wp2_with (with_reducible refine wpList_put (o := ⟨none, .store 30 (.tmp 5) (.tmp 19), _, _, _, _⟩) (by with_unfolding_all rfl) 30 (.tmp 5) (.tmp 19) (by with_unfolding_all rfl) g5 0 (by with_unfolding_all rfl) (.agg (H no).toArray) (by with_unfolding_all rfl) B5 (H no) (by with_unfolding_all rfl) (by with_unfolding_all (first | exact Tryd.szH | (simp only [H_length, Pat.cells_length, List.length_append]; exact Tryd.szH))) (by with_unfolding_all (first | exact Nat.le_refl 3 | (simp only [H_length, Pat.cells_length, List.length_append]; omega))) (by with_unfolding_all (exact H_one _)) ?_)
        intro w4 hu4 C5
        rw [splice_all _ _ (by simp only [H_length])] at C5
        have B2 := B2.upd hu4 ne2_5
        have hbe := hbe.trans (hu4.below (B := w.heap.size) hl5)
        clear B5 hu4
        have B5 := C5
        clear C5
        go_wp2_with fail
        (with_reducible refine (HP2.out _).mono ?_)
        rintro e w5 ⟨rfl, hb5⟩
        have B2 := B2.next hb5 B2.lt
        have B5 := B5.next hb5 B5.lt
        have hbe := below_join hbe hb5
        clear hb5
        go_wp2_with (with_reducible refine wpList_alloc (o := ⟨some 7, .alloc 30, _, _, _, _⟩) (by with_unfolding_all rfl) 30 (by with_unfolding_all rfl) (.agg (H no).toArray) (H no) (by exact Tryd.zeroH) (by with_unfolding_all rfl) ?_)
        intro g7 w6 hg7 hs6 hb6 B7
        have hl7 : w.heap.size ≤ g7 := Nat.le_trans hbe.size (Nat.le_of_eq hg7.out.symm)
        have ne2_7 : g2 ≠ g7 := by have := B2.lt; have := hg7.out; omega
        have ne7_2 := ne2_7.symm
        have ne5_7 : g5 ≠ g7 := by have := B5.lt; have := hg7.out; omega
        have ne7_5 := ne5_7.symm
        have hb6 := hb6.mono (Nat.le_of_eq hg7.out.symm)
        have B2 := B2.next hb6 B2.lt
        have B5 := B5.next hb6 B5.lt
        have hbe := below_join hbe hb6
        clear hb6 hg7 hs6
        go_wp2_with (with_reducible refine wpList_put (o := ⟨none, .store 30 (.tmp 7) (.tmp 24), _, _, _, _⟩) (by with_unfolding_all rfl) 30 (.tmp 7) (.tmp 24) (by with_unfolding_all rfl) g7 0 (by with_unfolding_all rfl) (.agg (H no).toArray) (by with_unfolding_all rfl) B7 (H no) (by with_unfolding_all rfl) (by with_unfolding_all (first | exact Tryd.szH | (simp only [H_length, Pat.cells_length, List.length_append]; exact Tryd.szH))) (by with_unfolding_all (first | exact Nat.le_refl 3 | (simp only [H_length, Pat.cells_length, List.length_append]; omega))) (by with_unfolding_all (exact H_one _)) ?_)
        intro w7 hu7 C7
        rw [splice_all _ _ (by simp only [H_length])] at C7
        have B2 := B2.upd hu7 ne2_7
        have B5 := B5.upd hu7 ne5_7
        have hbe := hbe.trans (hu7.below (B := w.heap.size) hl7)
        clear B7 hu7
        have B7 := C7
        clear C7
        clear HP1 HP2
        go_wp2_with (first | (with_reducible refine wpList_getg (o := ⟨some 26, .load 30 (.tmp 5), _, _, _, _⟩) (by with_unfolding_all rfl) 30 (.tmp 5) (by with_unfolding_all rfl) g5 0 (by with_unfolding_all rfl) B5 (H no) (cs_all _) _ (by exact Tryd.underlying30) (by with_unfolding_all rfl) (by first | exact Tryd.szH | (simp only [H_length, Pat.cells_length, List.length_append]; exact Tryd.szH)) ?_) | (with_reducible refine wpList_getg (o := ⟨some 27, .load 30 (.tmp 7), _, _, _, _⟩) (by with_unfolding_all rfl) 30 (.tmp 7) (by with_unfolding_all rfl) g7 0 (by with_unfolding_all rfl) B7 (H no) (cs_all _) _ (by exact Tryd.underlying30) (by with_unfolding_all rfl) (by first | exact Tryd.szH | (simp only [H_length, Pat.cells_length, List.length_append]; exact Tryd.szH)) ?_) | (with_reducible refine wpList_getg (o := ⟨some 44, .load 30 (.tmp 2), _, _, _, _⟩) (by with_unfolding_all rfl) 30 (.tmp 2) (by with_unfolding_all rfl) g2 0 (by with_unfolding_all rfl) B2 (H g) (cs_all _) _ (by exact Tryd.underlying30) (by with_unfolding_all rfl) (by first | (rw [H_length]; exact Tryd.szH) | (rw [List.length_map, hl10]; exact Tryd.szH)) ?_))
        (with_reducible refine (HR3.out _).mono ?_)
        rintro e w8 ⟨rfl, hb8⟩
        have B2 := B2.next hb8 B2.lt
        have B5 := B5.next hb8 B5.lt
        have B7 := B7.next hb8 B7.lt
        have hbe := below_join hbe hb8
        clear hb8
        go_wp2_with (first | (with_reducible refine wpList_getg (o := ⟨some 50, .load 30 (.tmp 2), _, _, _, _⟩) (by with_unfolding_all rfl) 30 (.tmp 2) (by with_unfolding_all rfl) g2 0 (by with_unfolding_all rfl) B2 (H g) (cs_all _) _ (by exact Tryd.underlying30) (by with_unfolding_all rfl) (by first | (rw [H_length]; exact Tryd.szH) | (rw [List.length_map, hl10]; exact Tryd.szH)) ?_))
        (with_reducible refine (HTG.out _).mono ?_)
        rintro e w9 ⟨rfl, hb9⟩
        have B2 := B2.next hb9 B2.lt
        have B5 := B5.next hb9 B5.lt
        have B7 := B7.next hb9 B7.lt
        have hbe := below_join hbe hb9
        clear hb9
        go_wp2_with fail
        (with_reducible refine (HPG.out _ (HQ.out.next hbe)).mono ?_)
        rintro e w10 ⟨rfl, hb10⟩
        have B2 := B2.next hb10 B2.lt
        have B5 := B5.next hb10 B5.lt
        have B7 := B7.next hb10 B7.lt
        have hbe := below_join hbe hb10
        clear hb10
        go_wp2_with (with_reducible refine wpList_alloc (o := ⟨some 10, .alloc 30, _, _, _, _⟩) (by with_unfolding_all rfl) 30 (by with_unfolding_all rfl) (.agg (H no).toArray) (H no) (by exact Tryd.zeroH) (by with_unfolding_all rfl) ?_)
        intro g10 w11 hg10 hs11 hb11 B10
        have hl10 : w.heap.size ≤ g10 := Nat.le_trans hbe.size (Nat.le_of_eq hg10.out.symm)
        have ne2_10 : g2 ≠ g10 := by have := B2.lt; have := hg10.out; omega
        have ne10_2 := ne2_10.symm
        have ne5_10 : g5 ≠ g10 := by have := B5.lt; have := hg10.out; omega
        have ne10_5 := ne5_10.symm
        have ne7_10 : g7 ≠ g10 := by have := B7.lt; have := hg10.out; omega
        have ne10_7 := ne7_10.symm
        have hb11 := hb11.mono (Nat.le_of_eq hg10.out.symm)
        have B2 := B2.next hb11 B2.lt
        have B5 := B5.next hb11 B5.lt
        have B7 := B7.next hb11 B7.lt
        have hbe := below_join hbe hb11
        clear hb11 hg10 hs11
        go_wp2_with (with_reducible refine wpList_put (o := ⟨none, .store 30 (.tmp 10) (.tmp 53), _, _, _, _⟩) (by with_unfolding_all rfl) 30 (.tmp 10) (.tmp 53) (by with_unfolding_all rfl) g10 0 (by with_unfolding_all rfl) (.agg (H g).toArray) (by with_unfolding_all rfl) B10 (H g) (by with_unfolding_all rfl) (by with_unfolding_all (first | exact Tryd.szH | (simp only [H_length, Pat.cells_length, List.length_append]; exact Tryd.szH))) (by with_unfolding_all (first | exact Nat.le_refl 3 | (simp only [H_length, Pat.cells_length, List.length_append]; omega))) (by with_unfolding_all (exact H_one _)) ?_)
        intro w12 hu12 C10
        rw [splice_all _ _ (by simp only [H_length])] at C10
        have B2 := B2.upd hu12 ne2_10
        have B5 := B5.upd hu12 ne5_10
        have B7 := B7.upd hu12 ne7_10
        have hbe := hbe.trans (hu12.below (B := w.heap.size) hl10)
        clear B10 hu12
        have B10 := C10
        clear C10
        go_wp2
        have hdd := below_drew w12
        have B2 := B2.next hdd B2.lt
        have B5 := B5.next hdd B5.lt
        have B7 := B7.next hdd B7.lt
        have B10 := B10.next hdd B10.lt
        have hbe := below_join hbe hdd
        have zz2_1 : (Tryd.prog.info? 30).map (·.size) = some (H g).length := (by first | exact Tryd.szH | (simp only [H_length, Pat.cells_length, List.length_append]; exact Tryd.szH))
        have zz10_2 : (Tryd.prog.info? 30).map (·.size) = some (H g).length := (by first | exact Tryd.szH | (simp only [H_length, Pat.cells_length, List.length_append]; exact Tryd.szH))
        refine wp_region_held_drew (S := fun w' => w'.rangeAt g2 0 (H g) ∧ w'.rangeAt g10 0 (H g)) (by kernel_rfl) ⟨blk_range B2, blk_range B10⟩ (fun hHeld => ?_)
        clear hdd
        generalize w12.drew = w13 at B2 B5 B7 B10 hbe hHeld  ⊢
        refine wpAnyH_ready (rs := [0]) (by kernel_rfl) (by simp) ?_
        refine AllReadyH.cons rfl (fun K hK => ?_) AllReadyH.nil
        go_simp
        go_wp2_with fail
        (with_reducible refine (HSA.out _ (HQ.out.next hbe)).mono ?_)
        rintro e w14 ⟨rfl, hb14⟩
        have B2 := B2.next hb14 B2.lt
        have B5 := B5.next hb14 B5.lt
        have B7 := B7.next hb14 B7.lt
        have B10 := B10.next hb14 B10.lt
        have hbe := below_join hbe hb14
        refine hK.out _ _ ⟨blk_range B2, blk_range B10⟩ (fun hHeld => ?_)
        clear hK K hb14
        refine wpAnyH_take (i := 1) (v := ?vqac1) rfl (by kernel_rfl) (by kernel_rfl) (by kernel_rfl) (fun _ _ _ h => h) (Or.inl ⟨by rfl, ?yqac1⟩) (by assumption) ?rqac1
        case yqac1 => intro w hSw; (try dsimp only at hSw); go_simp <;> (try with_reducible rfl)
        (try simp only [List.getElem_toArray, List.getElem_cons_succ, List.getElem_cons_zero, Act.put, List.setIfInBounds_toArray, List.set_cons_zero, List.set_cons_succ])
        refine' wpAnyH_take (i := 2) (v := _) rfl (by kernel_rfl) (by kernel_rfl) (by kernel_rfl) (fun _ _ _ h => h) (yieldsIf_load_mid (by rfl) _ _ (by rfl) _ _ (by rfl) _ _ ?Sqac2 ?uqac2 ?dqac2 ?iqac2) (by assumption) ?rqac2
        case Sqac2 => exact (by intro w h; exact h.1)
        case uqac2 => exact Tryd.underlying30
        case dqac2 => rfl
        case iqac2 => exact zz2_1
        (try simp only [List.getElem_toArray, List.getElem_cons_succ, List.getElem_cons_zero, Act.put, List.setIfInBounds_toArray, List.set_cons_zero, List.set_cons_succ])
        refine' wpAnyH_take (i := 4) (v := _) rfl (by kernel_rfl) (by kernel_rfl) (by kernel_rfl) (fun _ _ _ h => h) (yieldsIf_load_mid (by rfl) _ _ (by rfl) _ _ (by rfl) _ _ ?Sqac4 ?uqac4 ?dqac4 ?iqac4) (by assumption) ?rqac4
        case Sqac4 => exact (by intro w h; exact h.1)
        case uqac4 => exact Tryd.underlying30
        case dqac4 => rfl
        case iqac4 => exact zz2_1
        (try simp only [List.getElem_toArray, List.getElem_cons_succ, List.getElem_cons_zero, Act.put, List.setIfInBounds_toArray, List.set_cons_zero, List.set_cons_succ])
        refine wpAnyH_ready (rs := [3]) (by kernel_rfl) (by simp) ?_
        refine AllReadyH.cons rfl (fun K hK => ?_) AllReadyH.nil
        go_simp
        go_wp2_with fail
        (with_reducible refine (HTG.out _).mono ?_)
        rintro e w15 ⟨rfl, hb15⟩
        have B2 := B2.next hb15 B2.lt
        have B5 := B5.next hb15 B5.lt
        have B7 := B7.next hb15 B7.lt
        have B10 := B10.next hb15 B10.lt
        have hbe := below_join hbe hb15
        refine hK.out _ _ ⟨blk_range B2, blk_range B10⟩ (fun hHeld => ?_)
        clear hK K hb15
        refine wpAnyH_ready (rs := [5]) (by kernel_rfl) (by simp) ?_
        refine AllReadyH.cons rfl (fun K hK => ?_) AllReadyH.nil
        go_simp
        go_wp2_with fail
        (with_reducible refine (HRG.out _).mono ?_)
        rintro e w16 ⟨rfl, hb16⟩
        have B2 := B2.next hb16 B2.lt
        have B5 := B5.next hb16 B5.lt
        have B7 := B7.next hb16 B7.lt
        have B10 := B10.next hb16 B10.lt
        have hbe := below_join hbe hb16
        refine hK.out _ _ ⟨blk_range B2, blk_range B10⟩ (fun hHeld => ?_)
        clear hK K hb16
        refine wpAnyH_take (i := 6) (v := ?vqac6) rfl (by kernel_rfl) (by kernel_rfl) (by kernel_rfl) (fun _ _ _ h => h) (Or.inl ⟨by rfl, ?yqac6⟩) (by assumption) ?rqac6
        case yqac6 => intro w hSw; (try dsimp only at hSw); go_simp <;> (try with_reducible rfl)
        (try simp only [List.getElem_toArray, List.getElem_cons_succ, List.getElem_cons_zero, Act.put, List.setIfInBounds_toArray, List.set_cons_zero, List.set_cons_succ])
        refine wpAnyH_take (i := 7) (v := ?vqac7) rfl (by kernel_rfl) (by kernel_rfl) (by kernel_rfl) (fun _ _ _ h => h) (Or.inl ⟨by rfl, ?yqac7⟩) (by assumption) ?rqac7
        case yqac7 => intro w hSw; (try dsimp only at hSw); go_simp <;> (try with_reducible rfl)
        (try simp only [List.getElem_toArray, List.getElem_cons_succ, List.getElem_cons_zero, Act.put, List.setIfInBounds_toArray, List.set_cons_zero, List.set_cons_succ])
        refine wpAnyH_take (i := 8) (v := ?vqac8) rfl (by kernel_rfl) (by kernel_rfl) (by kernel_rfl) (fun _ _ _ h => h) (Or.inl ⟨by rfl, ?yqac8⟩) (by assumption) ?rqac8
        case yqac8 => intro w hSw; (try dsimp only at hSw); go_simp <;> (try with_reducible rfl)
        (try simp only [List.getElem_toArray, List.getElem_cons_succ, List.getElem_cons_zero, Act.put, List.setIfInBounds_toArray, List.set_cons_zero, List.set_cons_succ])
        refine' wpAnyH_take (i := 9) (v := _) rfl (by kernel_rfl) (by kernel_rfl) (by kernel_rfl) (fun _ _ _ h => h) (yieldsIf_load_mid (by rfl) _ _ (by rfl) _ _ (by rfl) _ _ ?Sqac9 ?uqac9 ?dqac9 ?iqac9) (by assumption) ?rqac9
        case Sqac9 => exact (by intro w h; exact h.2)
        case uqac9 => exact Tryd.underlying30
        case dqac9 => rfl
        case iqac9 => exact zz10_2
        (try simp only [List.getElem_toArray, List.getElem_cons_succ, List.getElem_cons_zero, Act.put, List.setIfInBounds_toArray, List.set_cons_zero, List.set_cons_succ])
        refine' wpAnyH_take (i := 10) (v := _) rfl (by kernel_rfl) (by kernel_rfl) (by kernel_rfl) (fun _ _ _ h => h) (yieldsIf_load_mid (by rfl) _ _ (by rfl) _ _ (by rfl) _ _ ?Sqac10 ?uqac10 ?dqac10 ?iqac10) (by assumption) ?rqac10
        case Sqac10 => exact (by intro w h; exact h.1)
        case uqac10 => exact Tryd.underlying30
        case dqac10 => rfl
        case iqac10 => exact zz2_1
        (try simp only [List.getElem_toArray, List.getElem_cons_succ, List.getElem_cons_zero, Act.put, List.setIfInBounds_toArray, List.set_cons_zero, List.set_cons_succ])
        refine wpAnyH_take (i := 11) (v := ?vqac11) rfl (by kernel_rfl) (by kernel_rfl) (by kernel_rfl) (fun _ _ _ h => h) (Or.inl ⟨by rfl, ?yqac11⟩) (by assumption) ?rqac11
        case yqac11 => intro w hSw; (try dsimp only at hSw); go_simp <;> (try with_reducible rfl)
        (try simp only [List.getElem_toArray, List.getElem_cons_succ, List.getElem_cons_zero, Act.put, List.setIfInBounds_toArray, List.set_cons_zero, List.set_cons_succ])
        refine wpAnyH_take (i := 12) (v := ?vqac12) rfl (by kernel_rfl) (by kernel_rfl) (by kernel_rfl) (fun _ _ _ h => h) (Or.inl ⟨by rfl, ?yqac12⟩) (by assumption) ?rqac12
        case yqac12 => intro w hSw; (try dsimp only at hSw); go_simp <;> (try with_reducible rfl)
        (try simp only [List.getElem_toArray, List.getElem_cons_succ, List.getElem_cons_zero, Act.put, List.setIfInBounds_toArray, List.set_cons_zero, List.set_cons_succ])
        refine wpAnyH_take (i := 13) (v := ?vqac13) rfl (by kernel_rfl) (by kernel_rfl) (by kernel_rfl) (fun _ _ _ h => h) (Or.inl ⟨by rfl, ?yqac13⟩) (by assumption) ?rqac13
        case yqac13 => intro w hSw; (try dsimp only at hSw); go_simp <;> (try with_reducible rfl)
        (try simp only [List.getElem_toArray, List.getElem_cons_succ, List.getElem_cons_zero, Act.put, List.setIfInBounds_toArray, List.set_cons_zero, List.set_cons_succ])
        refine wpAnyH_take (i := 14) (v := ?vqac14) rfl (by kernel_rfl) (by kernel_rfl) (by kernel_rfl) (fun _ _ _ h => h) (Or.inl ⟨by rfl, ?yqac14⟩) (by assumption) ?rqac14
        case yqac14 => intro w hSw; (try dsimp only at hSw); go_simp <;> (try with_reducible rfl)
        (try simp only [List.getElem_toArray, List.getElem_cons_succ, List.getElem_cons_zero, Act.put, List.setIfInBounds_toArray, List.set_cons_zero, List.set_cons_succ])
        refine wpAnyH_take (i := 15) (v := ?vqac15) rfl (by kernel_rfl) (by kernel_rfl) (by kernel_rfl) (fun _ _ _ h => h) (Or.inl ⟨by rfl, ?yqac15⟩) (by assumption) ?rqac15
        case yqac15 => intro w hSw; (try dsimp only at hSw); go_simp <;> (try with_reducible rfl)
        (try simp only [List.getElem_toArray, List.getElem_cons_succ, List.getElem_cons_zero, Act.put, List.setIfInBounds_toArray, List.set_cons_zero, List.set_cons_succ])
        refine wpAnyH_take (i := 16) (v := ?vqac16) rfl (by kernel_rfl) (by kernel_rfl) (by kernel_rfl) (fun _ _ _ h => h) (Or.inl ⟨by rfl, ?yqac16⟩) (by assumption) ?rqac16
        case yqac16 => intro w hSw; (try dsimp only at hSw); go_simp <;> (try with_reducible rfl)
        (try simp only [List.getElem_toArray, List.getElem_cons_succ, List.getElem_cons_zero, Act.put, List.setIfInBounds_toArray, List.set_cons_zero, List.set_cons_succ])
        refine wpAnyH_take (i := 17) (v := ?vqac17) rfl (by kernel_rfl) (by kernel_rfl) (by kernel_rfl) (fun _ _ _ h => h) (Or.inl ⟨by rfl, ?yqac17⟩) (by assumption) ?rqac17
        case yqac17 => intro w hSw; (try dsimp only at hSw); go_simp <;> (try with_reducible rfl)
        (try simp only [List.getElem_toArray, List.getElem_cons_succ, List.getElem_cons_zero, Act.put, List.setIfInBounds_toArray, List.set_cons_zero, List.set_cons_succ])
        refine wpAnyH_done (by kernel_rfl) ?_ _
        clear hHeld zz2_1 zz10_2
        go_wp2
        go_ret
        exact ⟨rfl, hbe⟩
      | some xs =>
        rw [hpm] at hp1 hp2
        obtain ⟨f, hf, hst⟩ := read_text hpm
        have ehf : headE (some xs) = .returned (.tuple #[.agg (H f).toArray, .int .i64 0]) := by
          show Ending.returned (.tuple #[.agg (xs.map nV).toArray, .int .i64 0]) = _
          rw [hf]
        rw [ehf] at hp1 hp2
        have HTF := Lib.hid (fun w => ftext_any f w)
        rw [← hst] at HTF
        have HP1 : Hid (∀ w, QF w → Calls Tryd.prog 39 #[.string s] w fun e w' => e = .returned (.tuple #[.agg (H f).toArray, .int .i64 0]) ∧ Below w.heap.size w w') := hp1
        have HP2 : Hid (∀ w, Calls Tryd.prog 40 #[.string s] w fun e w' => e = .returned (.tuple #[.agg (H f).toArray, .int .i64 0]) ∧ Below w.heap.size w w') := hp2
        have hne : ∀ w, (binOp .neq 30 (.agg (H f).toArray) (.agg (H f).toArray)).run Tryd.prog w = .ok (.bool false) w := fun w => by rw [neqH, decide_eq_true rfl]; rfl
        clear hp1 hp2 hpm ehf hf hst
        go_enter Tryd.func7, Tryd.ntmps7
        go_wp2_with (with_reducible refine wpList_box (o := ⟨some 2, .box 30 (.tmp 0), _, _, _, _⟩) ?g2qad 30 (.tmp 0) ?o2qad (.agg (H g).toArray) (H g) ?x2qad ?c2qad ?_)
        try (case g2qad => rfl)
        try (case o2qad => rfl)
        try (case x2qad => rfl)
        try (case c2qad => rfl)
        intro g2 w1 hg2 hs1 hb1 B2
        have hl2 : w.heap.size ≤ g2 := Nat.le_of_eq hg2.out.symm
        have hb1 := hb1.mono (Nat.le_of_eq hg2.out.symm)
        have hbe : Below w.heap.size w w1 := hb1
        clear hb1 hg2 hs1
        go_wp2_with fail
        (with_reducible refine (HP1.out _ (HQ.out.next hbe)).mono ?_)
        rintro e w2 ⟨rfl, hb2⟩
        have B2 := B2.next hb2 B2.lt
        have hbe := below_join hbe hb2
        clear hb2
        go_wp2_with (with_reducible refine wpList_alloc (o := ⟨some 5, .alloc 30, _, _, _, _⟩) (by with_unfolding_all rfl) 30 (by with_unfolding_all rfl) (.agg (H no).toArray) (H no) (by exact Tryd.zeroH) (by with_unfolding_all rfl) ?_)
        intro g5 w3 hg5 hs3 hb3 B5
        have hl5 : w.heap.size ≤ g5 := Nat.le_trans hbe.size (Nat.le_of_eq hg5.out.symm)
        have ne2_5 : g2 ≠ g5 := by have := B2.lt; have := hg5.out; omega
        have ne5_2 := ne2_5.symm
        have hb3 := hb3.mono (Nat.le_of_eq hg5.out.symm)
        have B2 := B2.next hb3 B2.lt
        have hbe := below_join hbe hb3
        clear hb3 hg5 hs3
        go_wp2_with (with_reducible refine wpList_put (o := ⟨none, .store 30 (.tmp 5) (.tmp 19), _, _, _, _⟩) (by with_unfolding_all rfl) 30 (.tmp 5) (.tmp 19) (by with_unfolding_all rfl) g5 0 (by with_unfolding_all rfl) (.agg (H f).toArray) (by with_unfolding_all rfl) B5 (H f) (by with_unfolding_all rfl) (by with_unfolding_all (first | exact Tryd.szH | (simp only [H_length, Pat.cells_length, List.length_append]; exact Tryd.szH))) (by with_unfolding_all (first | exact Nat.le_refl 3 | (simp only [H_length, Pat.cells_length, List.length_append]; omega))) (by with_unfolding_all (exact H_one _)) ?_)
        intro w4 hu4 C5
        rw [splice_all _ _ (by simp only [H_length])] at C5
        have B2 := B2.upd hu4 ne2_5
        have hbe := hbe.trans (hu4.below (B := w.heap.size) hl5)
        clear B5 hu4
        have B5 := C5
        clear C5
        go_wp2_with fail
        (with_reducible refine (HP2.out _).mono ?_)
        rintro e w5 ⟨rfl, hb5⟩
        have B2 := B2.next hb5 B2.lt
        have B5 := B5.next hb5 B5.lt
        have hbe := below_join hbe hb5
        clear hb5
        go_wp2_with (with_reducible refine wpList_alloc (o := ⟨some 7, .alloc 30, _, _, _, _⟩) (by with_unfolding_all rfl) 30 (by with_unfolding_all rfl) (.agg (H no).toArray) (H no) (by exact Tryd.zeroH) (by with_unfolding_all rfl) ?_)
        intro g7 w6 hg7 hs6 hb6 B7
        have hl7 : w.heap.size ≤ g7 := Nat.le_trans hbe.size (Nat.le_of_eq hg7.out.symm)
        have ne2_7 : g2 ≠ g7 := by have := B2.lt; have := hg7.out; omega
        have ne7_2 := ne2_7.symm
        have ne5_7 : g5 ≠ g7 := by have := B5.lt; have := hg7.out; omega
        have ne7_5 := ne5_7.symm
        have hb6 := hb6.mono (Nat.le_of_eq hg7.out.symm)
        have B2 := B2.next hb6 B2.lt
        have B5 := B5.next hb6 B5.lt
        have hbe := below_join hbe hb6
        clear hb6 hg7 hs6
        go_wp2_with (with_reducible refine wpList_put (o := ⟨none, .store 30 (.tmp 7) (.tmp 24), _, _, _, _⟩) (by with_unfolding_all rfl) 30 (.tmp 7) (.tmp 24) (by with_unfolding_all rfl) g7 0 (by with_unfolding_all rfl) (.agg (H f).toArray) (by with_unfolding_all rfl) B7 (H f) (by with_unfolding_all rfl) (by with_unfolding_all (first | exact Tryd.szH | (simp only [H_length, Pat.cells_length, List.length_append]; exact Tryd.szH))) (by with_unfolding_all (first | exact Nat.le_refl 3 | (simp only [H_length, Pat.cells_length, List.length_append]; omega))) (by with_unfolding_all (exact H_one _)) ?_)
        intro w7 hu7 C7
        rw [splice_all _ _ (by simp only [H_length])] at C7
        have B2 := B2.upd hu7 ne2_7
        have B5 := B5.upd hu7 ne5_7
        have hbe := hbe.trans (hu7.below (B := w.heap.size) hl7)
        clear B7 hu7
        have B7 := C7
        clear C7
        clear HP1 HP2
        go_wp2_with (first | (with_reducible refine wpList_getg (o := ⟨some 26, .load 30 (.tmp 5), _, _, _, _⟩) (by with_unfolding_all rfl) 30 (.tmp 5) (by with_unfolding_all rfl) g5 0 (by with_unfolding_all rfl) B5 (H f) (cs_all _) _ (by exact Tryd.underlying30) (by with_unfolding_all rfl) (by first | exact Tryd.szH | (simp only [H_length, Pat.cells_length, List.length_append]; exact Tryd.szH)) ?_) | (with_reducible refine wpList_getg (o := ⟨some 27, .load 30 (.tmp 7), _, _, _, _⟩) (by with_unfolding_all rfl) 30 (.tmp 7) (by with_unfolding_all rfl) g7 0 (by with_unfolding_all rfl) B7 (H f) (cs_all _) _ (by exact Tryd.underlying30) (by with_unfolding_all rfl) (by first | exact Tryd.szH | (simp only [H_length, Pat.cells_length, List.length_append]; exact Tryd.szH)) ?_) | (with_reducible refine wpList_getg (o := ⟨some 38, .load 30 (.tmp 5), _, _, _, _⟩) (by with_unfolding_all rfl) 30 (.tmp 5) (by with_unfolding_all rfl) g5 0 (by with_unfolding_all rfl) B5 (H f) (cs_all _) _ (by exact Tryd.underlying30) (by with_unfolding_all rfl) (by first | exact Tryd.szH | (simp only [H_length, Pat.cells_length, List.length_append]; exact Tryd.szH)) ?_))
        (with_reducible refine (HTF.out _).mono ?_)
        rintro e w8 ⟨rfl, hb8⟩
        have B2 := B2.next hb8 B2.lt
        have B5 := B5.next hb8 B5.lt
        have B7 := B7.next hb8 B7.lt
        have hbe := below_join hbe hb8
        clear hb8
        go_wp2_with (first | (with_reducible refine wpList_getg (o := ⟨some 44, .load 30 (.tmp 2), _, _, _, _⟩) (by with_unfolding_all rfl) 30 (.tmp 2) (by with_unfolding_all rfl) g2 0 (by with_unfolding_all rfl) B2 (H g) (cs_all _) _ (by exact Tryd.underlying30) (by with_unfolding_all rfl) (by first | (rw [H_length]; exact Tryd.szH) | (rw [List.length_map, hl10]; exact Tryd.szH)) ?_))
        (with_reducible refine (HR3.out _).mono ?_)
        rintro e w9 ⟨rfl, hb9⟩
        have B2 := B2.next hb9 B2.lt
        have B5 := B5.next hb9 B5.lt
        have B7 := B7.next hb9 B7.lt
        have hbe := below_join hbe hb9
        clear hb9
        go_wp2_with (first | (with_reducible refine wpList_getg (o := ⟨some 50, .load 30 (.tmp 2), _, _, _, _⟩) (by with_unfolding_all rfl) 30 (.tmp 2) (by with_unfolding_all rfl) g2 0 (by with_unfolding_all rfl) B2 (H g) (cs_all _) _ (by exact Tryd.underlying30) (by with_unfolding_all rfl) (by first | (rw [H_length]; exact Tryd.szH) | (rw [List.length_map, hl10]; exact Tryd.szH)) ?_))
        (with_reducible refine (HTG.out _).mono ?_)
        rintro e w10 ⟨rfl, hb10⟩
        have B2 := B2.next hb10 B2.lt
        have B5 := B5.next hb10 B5.lt
        have B7 := B7.next hb10 B7.lt
        have hbe := below_join hbe hb10
        clear hb10
        go_wp2_with fail
        (with_reducible refine (HPG.out _ (HQ.out.next hbe)).mono ?_)
        rintro e w11 ⟨rfl, hb11⟩
        have B2 := B2.next hb11 B2.lt
        have B5 := B5.next hb11 B5.lt
        have B7 := B7.next hb11 B7.lt
        have hbe := below_join hbe hb11
        clear hb11
        go_wp2_with (with_reducible refine wpList_alloc (o := ⟨some 10, .alloc 30, _, _, _, _⟩) (by with_unfolding_all rfl) 30 (by with_unfolding_all rfl) (.agg (H no).toArray) (H no) (by exact Tryd.zeroH) (by with_unfolding_all rfl) ?_)
        intro g10 w12 hg10 hs12 hb12 B10
        have hl10 : w.heap.size ≤ g10 := Nat.le_trans hbe.size (Nat.le_of_eq hg10.out.symm)
        have ne2_10 : g2 ≠ g10 := by have := B2.lt; have := hg10.out; omega
        have ne10_2 := ne2_10.symm
        have ne5_10 : g5 ≠ g10 := by have := B5.lt; have := hg10.out; omega
        have ne10_5 := ne5_10.symm
        have ne7_10 : g7 ≠ g10 := by have := B7.lt; have := hg10.out; omega
        have ne10_7 := ne7_10.symm
        have hb12 := hb12.mono (Nat.le_of_eq hg10.out.symm)
        have B2 := B2.next hb12 B2.lt
        have B5 := B5.next hb12 B5.lt
        have B7 := B7.next hb12 B7.lt
        have hbe := below_join hbe hb12
        clear hb12 hg10 hs12
        go_wp2_with (with_reducible refine wpList_put (o := ⟨none, .store 30 (.tmp 10) (.tmp 53), _, _, _, _⟩) (by with_unfolding_all rfl) 30 (.tmp 10) (.tmp 53) (by with_unfolding_all rfl) g10 0 (by with_unfolding_all rfl) (.agg (H g).toArray) (by with_unfolding_all rfl) B10 (H g) (by with_unfolding_all rfl) (by with_unfolding_all (first | exact Tryd.szH | (simp only [H_length, Pat.cells_length, List.length_append]; exact Tryd.szH))) (by with_unfolding_all (first | exact Nat.le_refl 3 | (simp only [H_length, Pat.cells_length, List.length_append]; omega))) (by with_unfolding_all (exact H_one _)) ?_)
        intro w13 hu13 C10
        rw [splice_all _ _ (by simp only [H_length])] at C10
        have B2 := B2.upd hu13 ne2_10
        have B5 := B5.upd hu13 ne5_10
        have B7 := B7.upd hu13 ne7_10
        have hbe := hbe.trans (hu13.below (B := w.heap.size) hl10)
        clear B10 hu13
        have B10 := C10
        clear C10
        go_wp2
        have hdd := below_drew w13
        have B2 := B2.next hdd B2.lt
        have B5 := B5.next hdd B5.lt
        have B7 := B7.next hdd B7.lt
        have B10 := B10.next hdd B10.lt
        have hbe := below_join hbe hdd
        have zz2_1 : (Tryd.prog.info? 30).map (·.size) = some (H g).length := (by first | exact Tryd.szH | (simp only [H_length, Pat.cells_length, List.length_append]; exact Tryd.szH))
        have zz10_2 : (Tryd.prog.info? 30).map (·.size) = some (H g).length := (by first | exact Tryd.szH | (simp only [H_length, Pat.cells_length, List.length_append]; exact Tryd.szH))
        refine wp_region_held_drew (S := fun w' => w'.rangeAt g2 0 (H g) ∧ w'.rangeAt g10 0 (H g)) (by kernel_rfl) ⟨blk_range B2, blk_range B10⟩ (fun hHeld => ?_)
        clear hdd
        generalize w13.drew = w14 at B2 B5 B7 B10 hbe hHeld  ⊢
        refine wpAnyH_ready (rs := [0]) (by kernel_rfl) (by simp) ?_
        refine AllReadyH.cons rfl (fun K hK => ?_) AllReadyH.nil
        go_simp
        go_wp2_with fail
        (with_reducible refine (HSA.out _ (HQ.out.next hbe)).mono ?_)
        rintro e w15 ⟨rfl, hb15⟩
        have B2 := B2.next hb15 B2.lt
        have B5 := B5.next hb15 B5.lt
        have B7 := B7.next hb15 B7.lt
        have B10 := B10.next hb15 B10.lt
        have hbe := below_join hbe hb15
        refine hK.out _ _ ⟨blk_range B2, blk_range B10⟩ (fun hHeld => ?_)
        clear hK K hb15
        refine wpAnyH_take (i := 1) (v := ?vqae1) rfl (by kernel_rfl) (by kernel_rfl) (by kernel_rfl) (fun _ _ _ h => h) (Or.inl ⟨by rfl, ?yqae1⟩) (by assumption) ?rqae1
        case yqae1 => intro w hSw; (try dsimp only at hSw); go_simp <;> (try with_reducible rfl)
        (try simp only [List.getElem_toArray, List.getElem_cons_succ, List.getElem_cons_zero, Act.put, List.setIfInBounds_toArray, List.set_cons_zero, List.set_cons_succ])
        refine' wpAnyH_take (i := 2) (v := _) rfl (by kernel_rfl) (by kernel_rfl) (by kernel_rfl) (fun _ _ _ h => h) (yieldsIf_load_mid (by rfl) _ _ (by rfl) _ _ (by rfl) _ _ ?Sqae2 ?uqae2 ?dqae2 ?iqae2) (by assumption) ?rqae2
        case Sqae2 => exact (by intro w h; exact h.1)
        case uqae2 => exact Tryd.underlying30
        case dqae2 => rfl
        case iqae2 => exact zz2_1
        (try simp only [List.getElem_toArray, List.getElem_cons_succ, List.getElem_cons_zero, Act.put, List.setIfInBounds_toArray, List.set_cons_zero, List.set_cons_succ])
        refine' wpAnyH_take (i := 4) (v := _) rfl (by kernel_rfl) (by kernel_rfl) (by kernel_rfl) (fun _ _ _ h => h) (yieldsIf_load_mid (by rfl) _ _ (by rfl) _ _ (by rfl) _ _ ?Sqae4 ?uqae4 ?dqae4 ?iqae4) (by assumption) ?rqae4
        case Sqae4 => exact (by intro w h; exact h.1)
        case uqae4 => exact Tryd.underlying30
        case dqae4 => rfl
        case iqae4 => exact zz2_1
        (try simp only [List.getElem_toArray, List.getElem_cons_succ, List.getElem_cons_zero, Act.put, List.setIfInBounds_toArray, List.set_cons_zero, List.set_cons_succ])
        refine wpAnyH_ready (rs := [3]) (by kernel_rfl) (by simp) ?_
        refine AllReadyH.cons rfl (fun K hK => ?_) AllReadyH.nil
        go_simp
        go_wp2_with fail
        (with_reducible refine (HTG.out _).mono ?_)
        rintro e w16 ⟨rfl, hb16⟩
        have B2 := B2.next hb16 B2.lt
        have B5 := B5.next hb16 B5.lt
        have B7 := B7.next hb16 B7.lt
        have B10 := B10.next hb16 B10.lt
        have hbe := below_join hbe hb16
        refine hK.out _ _ ⟨blk_range B2, blk_range B10⟩ (fun hHeld => ?_)
        clear hK K hb16
        refine wpAnyH_ready (rs := [5]) (by kernel_rfl) (by simp) ?_
        refine AllReadyH.cons rfl (fun K hK => ?_) AllReadyH.nil
        go_simp
        go_wp2_with fail
        (with_reducible refine (HRG.out _).mono ?_)
        rintro e w17 ⟨rfl, hb17⟩
        have B2 := B2.next hb17 B2.lt
        have B5 := B5.next hb17 B5.lt
        have B7 := B7.next hb17 B7.lt
        have B10 := B10.next hb17 B10.lt
        have hbe := below_join hbe hb17
        refine hK.out _ _ ⟨blk_range B2, blk_range B10⟩ (fun hHeld => ?_)
        clear hK K hb17
        refine wpAnyH_take (i := 6) (v := ?vqae6) rfl (by kernel_rfl) (by kernel_rfl) (by kernel_rfl) (fun _ _ _ h => h) (Or.inl ⟨by rfl, ?yqae6⟩) (by assumption) ?rqae6
        case yqae6 => intro w hSw; (try dsimp only at hSw); go_simp <;> (try with_reducible rfl)
        (try simp only [List.getElem_toArray, List.getElem_cons_succ, List.getElem_cons_zero, Act.put, List.setIfInBounds_toArray, List.set_cons_zero, List.set_cons_succ])
        refine wpAnyH_take (i := 7) (v := ?vqae7) rfl (by kernel_rfl) (by kernel_rfl) (by kernel_rfl) (fun _ _ _ h => h) (Or.inl ⟨by rfl, ?yqae7⟩) (by assumption) ?rqae7
        case yqae7 => intro w hSw; (try dsimp only at hSw); go_simp <;> (try with_reducible rfl)
        (try simp only [List.getElem_toArray, List.getElem_cons_succ, List.getElem_cons_zero, Act.put, List.setIfInBounds_toArray, List.set_cons_zero, List.set_cons_succ])
        refine wpAnyH_take (i := 8) (v := ?vqae8) rfl (by kernel_rfl) (by kernel_rfl) (by kernel_rfl) (fun _ _ _ h => h) (Or.inl ⟨by rfl, ?yqae8⟩) (by assumption) ?rqae8
        case yqae8 => intro w hSw; (try dsimp only at hSw); go_simp <;> (try with_reducible rfl)
        (try simp only [List.getElem_toArray, List.getElem_cons_succ, List.getElem_cons_zero, Act.put, List.setIfInBounds_toArray, List.set_cons_zero, List.set_cons_succ])
        refine' wpAnyH_take (i := 9) (v := _) rfl (by kernel_rfl) (by kernel_rfl) (by kernel_rfl) (fun _ _ _ h => h) (yieldsIf_load_mid (by rfl) _ _ (by rfl) _ _ (by rfl) _ _ ?Sqae9 ?uqae9 ?dqae9 ?iqae9) (by assumption) ?rqae9
        case Sqae9 => exact (by intro w h; exact h.2)
        case uqae9 => exact Tryd.underlying30
        case dqae9 => rfl
        case iqae9 => exact zz10_2
        (try simp only [List.getElem_toArray, List.getElem_cons_succ, List.getElem_cons_zero, Act.put, List.setIfInBounds_toArray, List.set_cons_zero, List.set_cons_succ])
        refine' wpAnyH_take (i := 10) (v := _) rfl (by kernel_rfl) (by kernel_rfl) (by kernel_rfl) (fun _ _ _ h => h) (yieldsIf_load_mid (by rfl) _ _ (by rfl) _ _ (by rfl) _ _ ?Sqae10 ?uqae10 ?dqae10 ?iqae10) (by assumption) ?rqae10
        case Sqae10 => exact (by intro w h; exact h.1)
        case uqae10 => exact Tryd.underlying30
        case dqae10 => rfl
        case iqae10 => exact zz2_1
        (try simp only [List.getElem_toArray, List.getElem_cons_succ, List.getElem_cons_zero, Act.put, List.setIfInBounds_toArray, List.set_cons_zero, List.set_cons_succ])
        refine wpAnyH_take (i := 11) (v := ?vqae11) rfl (by kernel_rfl) (by kernel_rfl) (by kernel_rfl) (fun _ _ _ h => h) (Or.inl ⟨by rfl, ?yqae11⟩) (by assumption) ?rqae11
        case yqae11 => intro w hSw; (try dsimp only at hSw); go_simp <;> (try with_reducible rfl)
        (try simp only [List.getElem_toArray, List.getElem_cons_succ, List.getElem_cons_zero, Act.put, List.setIfInBounds_toArray, List.set_cons_zero, List.set_cons_succ])
        refine wpAnyH_take (i := 12) (v := ?vqae12) rfl (by kernel_rfl) (by kernel_rfl) (by kernel_rfl) (fun _ _ _ h => h) (Or.inl ⟨by rfl, ?yqae12⟩) (by assumption) ?rqae12
        case yqae12 => intro w hSw; (try dsimp only at hSw); go_simp <;> (try with_reducible rfl)
        (try simp only [List.getElem_toArray, List.getElem_cons_succ, List.getElem_cons_zero, Act.put, List.setIfInBounds_toArray, List.set_cons_zero, List.set_cons_succ])
        refine wpAnyH_take (i := 13) (v := ?vqae13) rfl (by kernel_rfl) (by kernel_rfl) (by kernel_rfl) (fun _ _ _ h => h) (Or.inl ⟨by rfl, ?yqae13⟩) (by assumption) ?rqae13
        case yqae13 => intro w hSw; (try dsimp only at hSw); go_simp <;> (try with_reducible rfl)
        (try simp only [List.getElem_toArray, List.getElem_cons_succ, List.getElem_cons_zero, Act.put, List.setIfInBounds_toArray, List.set_cons_zero, List.set_cons_succ])
        refine wpAnyH_take (i := 14) (v := ?vqae14) rfl (by kernel_rfl) (by kernel_rfl) (by kernel_rfl) (fun _ _ _ h => h) (Or.inl ⟨by rfl, ?yqae14⟩) (by assumption) ?rqae14
        case yqae14 => intro w hSw; (try dsimp only at hSw); go_simp <;> (try with_reducible rfl)
        (try simp only [List.getElem_toArray, List.getElem_cons_succ, List.getElem_cons_zero, Act.put, List.setIfInBounds_toArray, List.set_cons_zero, List.set_cons_succ])
        refine wpAnyH_take (i := 15) (v := ?vqae15) rfl (by kernel_rfl) (by kernel_rfl) (by kernel_rfl) (fun _ _ _ h => h) (Or.inl ⟨by rfl, ?yqae15⟩) (by assumption) ?rqae15
        case yqae15 => intro w hSw; (try dsimp only at hSw); go_simp <;> (try with_reducible rfl)
        (try simp only [List.getElem_toArray, List.getElem_cons_succ, List.getElem_cons_zero, Act.put, List.setIfInBounds_toArray, List.set_cons_zero, List.set_cons_succ])
        refine wpAnyH_take (i := 16) (v := ?vqae16) rfl (by kernel_rfl) (by kernel_rfl) (by kernel_rfl) (fun _ _ _ h => h) (Or.inl ⟨by rfl, ?yqae16⟩) (by assumption) ?rqae16
        case yqae16 => intro w hSw; (try dsimp only at hSw); go_simp <;> (try with_reducible rfl)
        (try simp only [List.getElem_toArray, List.getElem_cons_succ, List.getElem_cons_zero, Act.put, List.setIfInBounds_toArray, List.set_cons_zero, List.set_cons_succ])
        refine wpAnyH_take (i := 17) (v := ?vqae17) rfl (by kernel_rfl) (by kernel_rfl) (by kernel_rfl) (fun _ _ _ h => h) (Or.inl ⟨by rfl, ?yqae17⟩) (by assumption) ?rqae17
        case yqae17 => intro w hSw; (try dsimp only at hSw); go_simp <;> (try with_reducible rfl)
        (try simp only [List.getElem_toArray, List.getElem_cons_succ, List.getElem_cons_zero, Act.put, List.setIfInBounds_toArray, List.set_cons_zero, List.set_cons_succ])
        refine wpAnyH_done (by kernel_rfl) ?_ _
        clear hHeld zz2_1 zz10_2
        go_wp2
        go_ret
        exact ⟨rfl, hbe⟩
    · rw [decide_eq_false hr] at HR3
      clear hr
      cases hpm : parseM s with
      | none =>
        rw [hpm] at hp1 hp2
        have HP1 : Hid (∀ w, QF w → Calls Tryd.prog 39 #[.string s] w fun e w' => e = .returned (.tuple #[.agg (H no).toArray, .int .i64 3]) ∧ Below w.heap.size w w') := hp1
        have HP2 : Hid (∀ w, Calls Tryd.prog 40 #[.string s] w fun e w' => e = .returned (.tuple #[.agg (H no).toArray, .int .i64 3]) ∧ Below w.heap.size w w') := hp2
        have hne : ∀ w, (binOp .neq 30 (.agg (H no).toArray) (.agg (H no).toArray)).run Tryd.prog w = .ok (.bool false) w := fun w => by rw [neqH, decide_eq_true rfl]; rfl
        clear hp1 hp2 hpm
        go_enter Tryd.func7, Tryd.ntmps7
        go_wp2_with (with_reducible refine wpList_box (o := ⟨some 2, .box 30 (.tmp 0), _, _, _, _⟩) ?g2qaf 30 (.tmp 0) ?o2qaf (.agg (hl.map iV).toArray) (hl.map iV) ?x2qaf ?c2qaf ?_)
        try (case g2qaf => rfl)
        try (case o2qaf => rfl)
        try (case x2qaf => rfl)
        try (case c2qaf => rfl)
        intro g2 w1 hg2 hs1 hb1 B2
        have hl2 : w.heap.size ≤ g2 := Nat.le_of_eq hg2.out.symm
        have hb1 := hb1.mono (Nat.le_of_eq hg2.out.symm)
        have hbe : Below w.heap.size w w1 := hb1
        clear hb1 hg2 hs1
        go_wp2_with fail
        (with_reducible refine (HP1.out _ (HQ.out.next hbe)).mono ?_)
        rintro e w2 ⟨rfl, hb2⟩
        have B2 := B2.next hb2 B2.lt
        have hbe := below_join hbe hb2
        clear hb2
        go_wp2_with (with_reducible refine wpList_alloc (o := ⟨some 5, .alloc 30, _, _, _, _⟩) (by with_unfolding_all rfl) 30 (by with_unfolding_all rfl) (.agg (H no).toArray) (H no) (by exact Tryd.zeroH) (by with_unfolding_all rfl) ?_)
        intro g5 w3 hg5 hs3 hb3 B5
        have hl5 : w.heap.size ≤ g5 := Nat.le_trans hbe.size (Nat.le_of_eq hg5.out.symm)
        have ne2_5 : g2 ≠ g5 := by have := B2.lt; have := hg5.out; omega
        have ne5_2 := ne2_5.symm
        have hb3 := hb3.mono (Nat.le_of_eq hg5.out.symm)
        have B2 := B2.next hb3 B2.lt
        have hbe := below_join hbe hb3
        clear hb3 hg5 hs3
        go_wp2_with (with_reducible refine wpList_put (o := ⟨none, .store 30 (.tmp 5) (.tmp 19), _, _, _, _⟩) (by with_unfolding_all rfl) 30 (.tmp 5) (.tmp 19) (by with_unfolding_all rfl) g5 0 (by with_unfolding_all rfl) (.agg (H no).toArray) (by with_unfolding_all rfl) B5 (H no) (by with_unfolding_all rfl) (by with_unfolding_all (first | exact Tryd.szH | (simp only [H_length, Pat.cells_length, List.length_append]; exact Tryd.szH))) (by with_unfolding_all (first | exact Nat.le_refl 3 | (simp only [H_length, Pat.cells_length, List.length_append]; omega))) (by with_unfolding_all (exact H_one _)) ?_)
        intro w4 hu4 C5
        rw [splice_all _ _ (by simp only [H_length])] at C5
        have B2 := B2.upd hu4 ne2_5
        have hbe := hbe.trans (hu4.below (B := w.heap.size) hl5)
        clear B5 hu4
        have B5 := C5
        clear C5
        go_wp2_with fail
        (with_reducible refine (HP2.out _).mono ?_)
        rintro e w5 ⟨rfl, hb5⟩
        have B2 := B2.next hb5 B2.lt
        have B5 := B5.next hb5 B5.lt
        have hbe := below_join hbe hb5
        clear hb5
        go_wp2_with (with_reducible refine wpList_alloc (o := ⟨some 7, .alloc 30, _, _, _, _⟩) (by with_unfolding_all rfl) 30 (by with_unfolding_all rfl) (.agg (H no).toArray) (H no) (by exact Tryd.zeroH) (by with_unfolding_all rfl) ?_)
        intro g7 w6 hg7 hs6 hb6 B7
        have hl7 : w.heap.size ≤ g7 := Nat.le_trans hbe.size (Nat.le_of_eq hg7.out.symm)
        have ne2_7 : g2 ≠ g7 := by have := B2.lt; have := hg7.out; omega
        have ne7_2 := ne2_7.symm
        have ne5_7 : g5 ≠ g7 := by have := B5.lt; have := hg7.out; omega
        have ne7_5 := ne5_7.symm
        have hb6 := hb6.mono (Nat.le_of_eq hg7.out.symm)
        have B2 := B2.next hb6 B2.lt
        have B5 := B5.next hb6 B5.lt
        have hbe := below_join hbe hb6
        clear hb6 hg7 hs6
        go_wp2_with (with_reducible refine wpList_put (o := ⟨none, .store 30 (.tmp 7) (.tmp 24), _, _, _, _⟩) (by with_unfolding_all rfl) 30 (.tmp 7) (.tmp 24) (by with_unfolding_all rfl) g7 0 (by with_unfolding_all rfl) (.agg (H no).toArray) (by with_unfolding_all rfl) B7 (H no) (by with_unfolding_all rfl) (by with_unfolding_all (first | exact Tryd.szH | (simp only [H_length, Pat.cells_length, List.length_append]; exact Tryd.szH))) (by with_unfolding_all (first | exact Nat.le_refl 3 | (simp only [H_length, Pat.cells_length, List.length_append]; omega))) (by with_unfolding_all (exact H_one _)) ?_)
        intro w7 hu7 C7
        rw [splice_all _ _ (by simp only [H_length])] at C7
        have B2 := B2.upd hu7 ne2_7
        have B5 := B5.upd hu7 ne5_7
        have hbe := hbe.trans (hu7.below (B := w.heap.size) hl7)
        clear B7 hu7
        have B7 := C7
        clear C7
        clear HP1 HP2
        go_wp2_with (first | (with_reducible refine wpList_getg (o := ⟨some 26, .load 30 (.tmp 5), _, _, _, _⟩) (by with_unfolding_all rfl) 30 (.tmp 5) (by with_unfolding_all rfl) g5 0 (by with_unfolding_all rfl) B5 (H no) (cs_all _) _ (by exact Tryd.underlying30) (by with_unfolding_all rfl) (by first | exact Tryd.szH | (simp only [H_length, Pat.cells_length, List.length_append]; exact Tryd.szH)) ?_) | (with_reducible refine wpList_getg (o := ⟨some 27, .load 30 (.tmp 7), _, _, _, _⟩) (by with_unfolding_all rfl) 30 (.tmp 7) (by with_unfolding_all rfl) g7 0 (by with_unfolding_all rfl) B7 (H no) (cs_all _) _ (by exact Tryd.underlying30) (by with_unfolding_all rfl) (by first | exact Tryd.szH | (simp only [H_length, Pat.cells_length, List.length_append]; exact Tryd.szH)) ?_) | (with_reducible refine wpList_getg (o := ⟨some 44, .load 30 (.tmp 2), _, _, _, _⟩) (by with_unfolding_all rfl) 30 (.tmp 2) (by with_unfolding_all rfl) g2 0 (by with_unfolding_all rfl) B2 (hl.map iV) (cs_all _) _ (by exact Tryd.underlying30) (by with_unfolding_all rfl) (by first | (rw [H_length]; exact Tryd.szH) | (rw [List.length_map, hl10]; exact Tryd.szH)) ?_))
        (with_reducible refine (HR3.out _).mono ?_)
        rintro e w8 ⟨rfl, hb8⟩
        have B2 := B2.next hb8 B2.lt
        have B5 := B5.next hb8 B5.lt
        have B7 := B7.next hb8 B7.lt
        have hbe := below_join hbe hb8
        clear hb8
        go_wp2_with fail
        (with_reducible refine (HSA.out _ (HQ.out.next hbe)).mono ?_)
        rintro e w9 ⟨rfl, hb9⟩
        have B2 := B2.next hb9 B2.lt
        have B5 := B5.next hb9 B5.lt
        have B7 := B7.next hb9 B7.lt
        have hbe := below_join hbe hb9
        clear hb9
        go_wp2
        go_ret
        exact ⟨rfl, hbe⟩
      | some xs =>
        rw [hpm] at hp1 hp2
        obtain ⟨f, hf, hst⟩ := read_text hpm
        have ehf : headE (some xs) = .returned (.tuple #[.agg (H f).toArray, .int .i64 0]) := by
          show Ending.returned (.tuple #[.agg (xs.map nV).toArray, .int .i64 0]) = _
          rw [hf]
        rw [ehf] at hp1 hp2
        have HTF := Lib.hid (fun w => ftext_any f w)
        rw [← hst] at HTF
        have HP1 : Hid (∀ w, QF w → Calls Tryd.prog 39 #[.string s] w fun e w' => e = .returned (.tuple #[.agg (H f).toArray, .int .i64 0]) ∧ Below w.heap.size w w') := hp1
        have HP2 : Hid (∀ w, Calls Tryd.prog 40 #[.string s] w fun e w' => e = .returned (.tuple #[.agg (H f).toArray, .int .i64 0]) ∧ Below w.heap.size w w') := hp2
        have hne : ∀ w, (binOp .neq 30 (.agg (H f).toArray) (.agg (H f).toArray)).run Tryd.prog w = .ok (.bool false) w := fun w => by rw [neqH, decide_eq_true rfl]; rfl
        clear hp1 hp2 hpm ehf hf hst
        go_enter Tryd.func7, Tryd.ntmps7
        go_wp2_with (with_reducible refine wpList_box (o := ⟨some 2, .box 30 (.tmp 0), _, _, _, _⟩) ?g2qag 30 (.tmp 0) ?o2qag (.agg (hl.map iV).toArray) (hl.map iV) ?x2qag ?c2qag ?_)
        try (case g2qag => rfl)
        try (case o2qag => rfl)
        try (case x2qag => rfl)
        try (case c2qag => rfl)
        intro g2 w1 hg2 hs1 hb1 B2
        have hl2 : w.heap.size ≤ g2 := Nat.le_of_eq hg2.out.symm
        have hb1 := hb1.mono (Nat.le_of_eq hg2.out.symm)
        have hbe : Below w.heap.size w w1 := hb1
        clear hb1 hg2 hs1
        go_wp2_with fail
        (with_reducible refine (HP1.out _ (HQ.out.next hbe)).mono ?_)
        rintro e w2 ⟨rfl, hb2⟩
        have B2 := B2.next hb2 B2.lt
        have hbe := below_join hbe hb2
        clear hb2
        go_wp2_with (with_reducible refine wpList_alloc (o := ⟨some 5, .alloc 30, _, _, _, _⟩) (by with_unfolding_all rfl) 30 (by with_unfolding_all rfl) (.agg (H no).toArray) (H no) (by exact Tryd.zeroH) (by with_unfolding_all rfl) ?_)
        intro g5 w3 hg5 hs3 hb3 B5
        have hl5 : w.heap.size ≤ g5 := Nat.le_trans hbe.size (Nat.le_of_eq hg5.out.symm)
        have ne2_5 : g2 ≠ g5 := by have := B2.lt; have := hg5.out; omega
        have ne5_2 := ne2_5.symm
        have hb3 := hb3.mono (Nat.le_of_eq hg5.out.symm)
        have B2 := B2.next hb3 B2.lt
        have hbe := below_join hbe hb3
        clear hb3 hg5 hs3
        go_wp2_with (with_reducible refine wpList_put (o := ⟨none, .store 30 (.tmp 5) (.tmp 19), _, _, _, _⟩) (by with_unfolding_all rfl) 30 (.tmp 5) (.tmp 19) (by with_unfolding_all rfl) g5 0 (by with_unfolding_all rfl) (.agg (H f).toArray) (by with_unfolding_all rfl) B5 (H f) (by with_unfolding_all rfl) (by with_unfolding_all (first | exact Tryd.szH | (simp only [H_length, Pat.cells_length, List.length_append]; exact Tryd.szH))) (by with_unfolding_all (first | exact Nat.le_refl 3 | (simp only [H_length, Pat.cells_length, List.length_append]; omega))) (by with_unfolding_all (exact H_one _)) ?_)
        intro w4 hu4 C5
        rw [splice_all _ _ (by simp only [H_length])] at C5
        have B2 := B2.upd hu4 ne2_5
        have hbe := hbe.trans (hu4.below (B := w.heap.size) hl5)
        clear B5 hu4
        have B5 := C5
        clear C5
        go_wp2_with fail
        (with_reducible refine (HP2.out _).mono ?_)
        rintro e w5 ⟨rfl, hb5⟩
        have B2 := B2.next hb5 B2.lt
        have B5 := B5.next hb5 B5.lt
        have hbe := below_join hbe hb5
        clear hb5
        go_wp2_with (with_reducible refine wpList_alloc (o := ⟨some 7, .alloc 30, _, _, _, _⟩) (by with_unfolding_all rfl) 30 (by with_unfolding_all rfl) (.agg (H no).toArray) (H no) (by exact Tryd.zeroH) (by with_unfolding_all rfl) ?_)
        intro g7 w6 hg7 hs6 hb6 B7
        have hl7 : w.heap.size ≤ g7 := Nat.le_trans hbe.size (Nat.le_of_eq hg7.out.symm)
        have ne2_7 : g2 ≠ g7 := by have := B2.lt; have := hg7.out; omega
        have ne7_2 := ne2_7.symm
        have ne5_7 : g5 ≠ g7 := by have := B5.lt; have := hg7.out; omega
        have ne7_5 := ne5_7.symm
        have hb6 := hb6.mono (Nat.le_of_eq hg7.out.symm)
        have B2 := B2.next hb6 B2.lt
        have B5 := B5.next hb6 B5.lt
        have hbe := below_join hbe hb6
        clear hb6 hg7 hs6
        go_wp2_with (with_reducible refine wpList_put (o := ⟨none, .store 30 (.tmp 7) (.tmp 24), _, _, _, _⟩) (by with_unfolding_all rfl) 30 (.tmp 7) (.tmp 24) (by with_unfolding_all rfl) g7 0 (by with_unfolding_all rfl) (.agg (H f).toArray) (by with_unfolding_all rfl) B7 (H f) (by with_unfolding_all rfl) (by with_unfolding_all (first | exact Tryd.szH | (simp only [H_length, Pat.cells_length, List.length_append]; exact Tryd.szH))) (by with_unfolding_all (first | exact Nat.le_refl 3 | (simp only [H_length, Pat.cells_length, List.length_append]; omega))) (by with_unfolding_all (exact H_one _)) ?_)
        intro w7 hu7 C7
        rw [splice_all _ _ (by simp only [H_length])] at C7
        have B2 := B2.upd hu7 ne2_7
        have B5 := B5.upd hu7 ne5_7
        have hbe := hbe.trans (hu7.below (B := w.heap.size) hl7)
        clear B7 hu7
        have B7 := C7
        clear C7
        clear HP1 HP2
        go_wp2_with (first | (with_reducible refine wpList_getg (o := ⟨some 26, .load 30 (.tmp 5), _, _, _, _⟩) (by with_unfolding_all rfl) 30 (.tmp 5) (by with_unfolding_all rfl) g5 0 (by with_unfolding_all rfl) B5 (H f) (cs_all _) _ (by exact Tryd.underlying30) (by with_unfolding_all rfl) (by first | exact Tryd.szH | (simp only [H_length, Pat.cells_length, List.length_append]; exact Tryd.szH)) ?_) | (with_reducible refine wpList_getg (o := ⟨some 27, .load 30 (.tmp 7), _, _, _, _⟩) (by with_unfolding_all rfl) 30 (.tmp 7) (by with_unfolding_all rfl) g7 0 (by with_unfolding_all rfl) B7 (H f) (cs_all _) _ (by exact Tryd.underlying30) (by with_unfolding_all rfl) (by first | exact Tryd.szH | (simp only [H_length, Pat.cells_length, List.length_append]; exact Tryd.szH)) ?_) | (with_reducible refine wpList_getg (o := ⟨some 38, .load 30 (.tmp 5), _, _, _, _⟩) (by with_unfolding_all rfl) 30 (.tmp 5) (by with_unfolding_all rfl) g5 0 (by with_unfolding_all rfl) B5 (H f) (cs_all _) _ (by exact Tryd.underlying30) (by with_unfolding_all rfl) (by first | exact Tryd.szH | (simp only [H_length, Pat.cells_length, List.length_append]; exact Tryd.szH)) ?_))
        (with_reducible refine (HTF.out _).mono ?_)
        rintro e w8 ⟨rfl, hb8⟩
        have B2 := B2.next hb8 B2.lt
        have B5 := B5.next hb8 B5.lt
        have B7 := B7.next hb8 B7.lt
        have hbe := below_join hbe hb8
        clear hb8
        go_wp2_with (first | (with_reducible refine wpList_getg (o := ⟨some 44, .load 30 (.tmp 2), _, _, _, _⟩) (by with_unfolding_all rfl) 30 (.tmp 2) (by with_unfolding_all rfl) g2 0 (by with_unfolding_all rfl) B2 (hl.map iV) (cs_all _) _ (by exact Tryd.underlying30) (by with_unfolding_all rfl) (by first | (rw [H_length]; exact Tryd.szH) | (rw [List.length_map, hl10]; exact Tryd.szH)) ?_))
        (with_reducible refine (HR3.out _).mono ?_)
        rintro e w9 ⟨rfl, hb9⟩
        have B2 := B2.next hb9 B2.lt
        have B5 := B5.next hb9 B5.lt
        have B7 := B7.next hb9 B7.lt
        have hbe := below_join hbe hb9
        clear hb9
        go_wp2_with fail
        (with_reducible refine (HSA.out _ (HQ.out.next hbe)).mono ?_)
        rintro e w10 ⟨rfl, hb10⟩
        have B2 := B2.next hb10 B2.lt
        have B5 := B5.next hb10 B5.lt
        have B7 := B7.next hb10 B7.lt
        have hbe := below_join hbe hb10
        clear hb10
        go_wp2
        go_ret
        exact ⟨rfl, hbe⟩
end Go.Proofs.YtbgndopgllnmaaaDoor
