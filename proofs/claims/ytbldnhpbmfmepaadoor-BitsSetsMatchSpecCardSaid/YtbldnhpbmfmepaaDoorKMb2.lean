/-
  Contract of the walk over SameSet. Conditions: right patterns; at most 6000 of them.
-/
import Derived.Test.YtbldnhpbmfmepaaDoorKMa2
namespace Go.Proofs.YtbldnhpbmfmepaaDoor
set_option linter.unusedVariables false
set_option linter.unusedSimpArgs false
open Go.RowKit

/-- What SameSet answers. -/
def sameV : Bnd → Value
  | none => .tuple #[.agg (H no).toArray, .bool true]
  | some f => .tuple #[.agg (H f).toArray, .bool false]
set_option maxRecDepth 100000 in
set_option maxHeartbeats 3200000 in
theorem sameSet_any (ca cb : Nat) (Aa Ab : Option Addr) (la lb : List Pat) (w : World) (hoa : ∀ q, q ∈ la → q.ok) (hob : ∀ q, q ∈ lb → q.ok) (hla : la.length ≤ 6000) (hlb : lb.length ≤ 6000) (ha : PatsAt w Aa la) (hb : PatsAt w Ab lb) (haa : ∀ g o, Aa = some ⟨g, o, none⟩ → g < w.heap.size) (hab : ∀ g o, Ab = some ⟨g, o, none⟩ → g < w.heap.size) :
    Calls Tryd.prog 62 #[.slice Aa la.length ca, .slice Ab lb.length cb] w fun e w' => ∃ R, e = .returned (sameV R) ∧ sameR la lb R ∧ Below w.heap.size w w' := by
  obtain ⟨V, hV⟩ : ∃ V, Hid (bndV none = V) := ⟨_, rfl⟩
  have hVl : Hid (V.length = 10) := by rw [← hV.out]; exact bndV_length none
  have HBY : Hid (∀ W, Calls Tryd.prog 92 #[] W fun e w' => e = .returned (.agg V.toArray) ∧ Below W.heap.size W w') := by
    have : ∀ W, Calls Tryd.prog 92 #[] W fun e w' => e = .returned (.agg V.toArray) ∧ Below W.heap.size W w' := fun W => by rw [← hV.out]; exact beyond_any W
    exact this
  obtain ⟨n, hn⟩ : ∃ n, la.length = n := ⟨_, rfl⟩
  obtain ⟨m, hm⟩ : ∃ m, lb.length = m := ⟨_, rfl⟩
  have c1 : ∀ W, Below w.heap.size w W → Calls Tryd.prog 94 #[.slice Aa n ca, .slice Ab m cb, .agg V.toArray] W fun e w' => ∃ R, e = .returned (.agg (bndV R).toArray) ∧ foundIn la lb none R ∧ Below W.heap.size W w' := fun W hbw => by
    rw [← hn, ← hm, ← hV.out]
    exact leastOf_any ca cb Aa Ab la lb none W hoa hob (by omega) hlb (ha.next hbw) (hb.next hbw) (fun g o e => by have := hab g o e; have := hbw.size; omega)
  have c2 : ∀ R W, Below w.heap.size w W → Calls Tryd.prog 94 #[.slice Ab m cb, .slice Aa n ca, .agg (bndV R).toArray] W fun e w' => ∃ S, e = .returned (.agg (bndV S).toArray) ∧ foundIn lb la R S ∧ Below W.heap.size W w' := fun R W hbw => by
    rw [← hn, ← hm]
    exact leastOf_any cb ca Ab Aa lb la R W hob hoa (by omega) hla (hb.next hbw) (ha.next hbw) (fun g o e => by have := haa g o e; have := hbw.size; omega)
  have C1 := Lib.hid c1
  have C2 := Lib.hid c2
  rw [hn, hm]
  clear c1 c2 hn hm hoa hob hla hlb ha hb haa hab
  have hunH := Tryd.underlying23
  go_enter Tryd.func62, Tryd.ntmps62
  go_wp2_with (with_reducible refine wpList_alloc (o := ⟨some 4, .alloc 23, _, _, _, _⟩) (by with_unfolding_all rfl) 23 (by with_unfolding_all rfl) (.agg (H no).toArray) (H no) (by exact Tryd.zeroH) (by with_unfolding_all rfl) ?_)
  intro g4 w1 hg4 hs1 hb1 B4
  have hl4 : w.heap.size ≤ g4 := Nat.le_of_eq hg4.out.symm
  have hbe : Below w.heap.size w w1 := hb1.mono hl4
  clear hb1 hs1 hg4
  go_wp2_with fail
  (with_reducible refine (HBY.out _).mono ?_)
  rintro e w2 ⟨rfl, hb2⟩
  have B4 := B4.next hb2 B4.lt
  have hbe := below_join hbe hb2
  clear hb2
  go_wp2_with fail
  (with_reducible refine (C1.out _ hbe).mono ?_)
  rintro e w3 ⟨R, rfl, hf1, hb3⟩
  have HF1 := Lib.hid hf1
  have B4 := B4.next hb3 B4.lt
  have hbe := below_join hbe hb3
  clear hb3 hf1
  go_wp2_with (with_reducible refine wpList_alloc (o := ⟨some 6, .alloc 23, _, _, _, _⟩) (by with_unfolding_all rfl) 23 (by with_unfolding_all rfl) (.agg (H no).toArray) (H no) (by exact Tryd.zeroH) (by with_unfolding_all rfl) ?_)
  intro g6 w4 hg6 hs4 hb4 hB4
  have h46 : g4 < g6 := by have := B4.lt; have := hg6.out; omega
  have hb4 := hb4.mono (Nat.le_of_eq hg6.out.symm)
  have B4 := B4.next hb4 B4.lt
  have hbe := below_join hbe hb4
  clear hb4 hs4 hg6
  obtain ⟨U, hU⟩ : ∃ U, Hid (bndV R = U) := ⟨_, rfl⟩
  have hUl : Hid (U.length = 10) := by rw [← hU.out]; exact bndV_length R
  have hU1 : Hid (∀ u ∈ U, u.oneCell' = true) := by rw [← hU.out]; exact bndV_one R
  have hzU : (Tryd.prog.info? 23).map (·.size) = some U.length := by rw [hUl.out]; exact Tryd.szH
  have C2R := Lib.hid (C2.out R)
  rw [hU.out] at C2R
  rw [hU.out]
  go_wp2_with (with_reducible refine wpList_put (o := ⟨none, .store 23 (.tmp 6) (.tmp 10), _, _, _, _⟩) (by with_unfolding_all rfl) 23 (.tmp 6) (.tmp 10) (by with_unfolding_all rfl) g6 0 (by with_unfolding_all rfl) (.agg U.toArray) (by with_unfolding_all rfl) hB4 U (by with_unfolding_all rfl) (by with_unfolding_all (exact hzU)) (by with_unfolding_all (rw [hUl.out, H_length] <;> omega)) (by with_unfolding_all (exact hU1.out)) ?_)
  intro w5 hu5 B6
  rw [splice_all _ _ (by rw [hUl.out, H_length])] at B6
  have B4 := B4.upd hu5 (by omega)
  have hbe := hbe.trans (hu5.below (B := w.heap.size) (by omega))
  clear hu5 hB4
  go_wp2_with (with_reducible refine wpList_get (o := ⟨some 13, .load 23 (.tmp 6), _, _, _, _⟩) (by with_unfolding_all rfl) 23 (.tmp 6) (by with_unfolding_all rfl) g6 0 (by with_unfolding_all rfl) B6 U (cs_all _) _ (by exact hunH) (by with_unfolding_all rfl) (by exact hzU) ?_)
  (with_reducible refine (C2R.out _ hbe).mono ?_)
  rintro e w6 ⟨S, rfl, hf2, hb6⟩
  have HS := Lib.hid (sameR_of HF1.out hf2)
  have B4 := B4.next hb6 B4.lt
  have B6 := B6.next hb6 B6.lt
  have hbe := below_join hbe hb6
  clear hb6 hf2 HF1
  obtain ⟨Y, hY⟩ : ∃ Y, Hid (bndV S = Y) := ⟨_, rfl⟩
  have hYl : Hid (Y.length = 10) := by rw [← hY.out]; exact bndV_length S
  have hY1 : Hid (∀ u ∈ Y, u.oneCell' = true) := by rw [← hY.out]; exact bndV_one S
  have hzY : (Tryd.prog.info? 23).map (·.size) = some Y.length := by rw [hYl.out]; exact Tryd.szH
  rw [hY.out]
  go_wp2_with (with_reducible refine wpList_put (o := ⟨none, .store 23 (.tmp 6) (.tmp 14), _, _, _, _⟩) (by with_unfolding_all rfl) 23 (.tmp 6) (.tmp 14) (by with_unfolding_all rfl) g6 0 (by with_unfolding_all rfl) (.agg Y.toArray) (by with_unfolding_all rfl) B6 Y (by with_unfolding_all rfl) (by with_unfolding_all (exact hzY)) (by with_unfolding_all (rw [hYl.out, hUl.out] <;> omega)) (by with_unfolding_all (exact hY1.out)) ?_)
  intro w8 hu8 hB8
  rw [splice_all _ _ (by rw [hYl.out, hUl.out])] at hB8
  have hB4 := B4.upd hu8 (by omega)
  have hbe := hbe.trans (hu8.below (B := w.heap.size) (by omega))
  clear hu8 B6 B4
  obtain ⟨D, hD⟩ : ∃ D, Hid (decide (bndI S = bndI none) = D) := ⟨_, rfl⟩
  have heq : ∀ w, (binOp .eql 23 (.agg Y.toArray) (.agg V.toArray)).run Tryd.prog w = .ok (.bool D) w := fun w => by rw [← hY.out, ← hV.out, eqlB, hD.out]
  have hgd := Tryd.guardH
  go_wp2
  refine wp_region_held_drew (S := fun w' => w'.rangeAt g6 0 Y) (by kernel_rfl) (blk_range (hB8.next (below_drew w8) hB8.lt)) (fun hHeld => ?_)
  have hbd := below_drew w8
  generalize w8.drew = w9 at hbd hHeld ⊢
  refine' wpAnyH_take (i := 0) (v := _) rfl (by kernel_rfl) (by kernel_rfl) (by kernel_rfl) (fun _ _ _ h => h) (yieldsIf_load_mid (by rfl) _ _ (by rfl) _ _ (by rfl) _ _ ?Sx0 ?ux0 ?dx0 ?ix0) (by assumption) ?rx0
  case Sx0 => exact (by intro w h; exact h)
  case ux0 => exact hunH
  case dx0 => rfl
  case ix0 => exact hzY
  (try simp only [List.getElem_toArray, List.getElem_cons_zero, Act.put, List.setIfInBounds_toArray, List.set_cons_zero, List.set_cons_succ])
  refine wpAnyH_ready (rs := [1]) (by kernel_rfl) (by simp) ?_
  refine AllReadyH.cons rfl (fun K hK => ?_) AllReadyH.nil
  go_simp
  go_wp2_with fail
  (with_reducible refine (HBY.out _).mono ?_)
  rintro e w10 ⟨rfl, hb10⟩
  have hbd := below_join hbd hb10
  have hB8 := hB8.next hbd hB8.lt
  have hB4 := hB4.next hbd hB4.lt
  have hbe := below_join hbe hbd
  refine hK.out _ _ (blk_range hB8) (fun hHeld => ?_)
  clear hK K hbd hb10
  refine wpAnyH_take (i := 2) (v := ?vx2) rfl (by kernel_rfl) (by kernel_rfl) (by kernel_rfl) (fun _ _ _ h => h) (Or.inl ⟨by rfl, ?yx2⟩) (by assumption) ?rx2
  case yx2 => intro w hSw; (try dsimp only at hSw); go_simp <;> (try with_reducible rfl)
  (try simp only [List.getElem_toArray, List.getElem_cons_succ, List.getElem_cons_zero, Act.put, List.setIfInBounds_toArray, List.set_cons_zero, List.set_cons_succ])
  refine wpAnyH_done (by kernel_rfl) ?_ _
  clear hHeld heq hgd
  cases D with
  | true =>
    have hRn : S = none := bndI_none (of_decide_eq_true hD.out)
    have HF : Hid (sameR la lb none) := by
      have : sameR la lb none := by rw [hRn] at HS; exact HS.out
      exact this
    clear hRn
    go_wp2_with (first | (with_reducible refine wpList_build (o := ⟨some 18, .build 23 #[], _, _, _, _⟩) (by with_unfolding_all rfl) 23 #[] (by with_unfolding_all rfl) #[] (by with_unfolding_all rfl) (.agg (H no).toArray) (by with_unfolding_all intro w; kernel_rfl) ?_) | (with_reducible refine wpList_put (o := ⟨none, .store 23 (.tmp 4) (.tmp 18), _, _, _, _⟩) (by with_unfolding_all rfl) 23 (.tmp 4) (.tmp 18) (by with_unfolding_all rfl) g4 0 (by with_unfolding_all rfl) (.agg (H no).toArray) (by with_unfolding_all rfl) hB4 (H no) (by with_unfolding_all rfl) (by with_unfolding_all (rw [H_length]; exact Tryd.szH)) (by with_unfolding_all (rw [H_length] <;> omega)) (by with_unfolding_all (exact H_one _)) ?_))
    intro w11 hu11 hB11
    rw [splice_all _ _ rfl] at hB11
    have hfin := hbe.trans (hu11.below (B := w.heap.size) (by omega))
    go_wp2
    exact bodyPost_ret (results_cell_two rfl _ _ g4 _ _ _ _ _ rfl rfl hB11 Tryd.underlying23 rfl (by rw [List.size_toArray, H_length]; exact Tryd.szH)) rfl ⟨none, rfl, HF.out, hfin⟩
  | false =>
    have hRf : ∃ f, S = some f := by
      cases S with
      | none => exact absurd hD.out (by rw [decide_eq_true rfl]; exact Bool.noConfusion)
      | some f => exact ⟨f, rfl⟩
    obtain ⟨f, hRf⟩ := hRf
    have HF : Hid (sameR la lb (some f)) := by
      have : sameR la lb (some f) := by rw [hRf] at HS; exact HS.out
      exact this
    have HY : Hid (H f = Y) := by
      have : H f = Y := by rw [← hY.out, hRf]; rfl
      exact this
    clear hRf
    go_wp2_with (first | (with_reducible refine wpList_get (o := ⟨some 19, .load 23 (.tmp 6), _, _, _, _⟩) (by with_unfolding_all rfl) 23 (.tmp 6) (by with_unfolding_all rfl) g6 0 (by with_unfolding_all rfl) hB8 Y (cs_all _) _ (by exact Tryd.underlying23) (by with_unfolding_all rfl) hzY ?_) | (with_reducible refine wpList_put (o := ⟨none, .store 23 (.tmp 4) (.tmp 19), _, _, _, _⟩) (by with_unfolding_all rfl) 23 (.tmp 4) (.tmp 19) (by with_unfolding_all rfl) g4 0 (by with_unfolding_all rfl) (.agg Y.toArray) (by with_unfolding_all rfl) hB4 Y (by with_unfolding_all rfl) (by with_unfolding_all (exact hzY)) (by with_unfolding_all (rw [hYl.out, H_length] <;> omega)) (by with_unfolding_all (exact hY1.out)) ?_))
    intro w11 hu11 hB11
    rw [splice_all _ _ (by rw [hYl.out, H_length])] at hB11
    have hfin := hbe.trans (hu11.below (B := w.heap.size) (by omega))
    go_wp2
    exact bodyPost_ret (results_cell_two rfl _ _ g4 _ _ _ _ _ rfl rfl hB11 Tryd.underlying23 rfl (by rw [List.size_toArray, hYl.out]; exact Tryd.szH)) rfl ⟨some f, by rw [← HY.out]; rfl, HF.out, hfin⟩
end Go.Proofs.YtbldnhpbmfmepaaDoor
