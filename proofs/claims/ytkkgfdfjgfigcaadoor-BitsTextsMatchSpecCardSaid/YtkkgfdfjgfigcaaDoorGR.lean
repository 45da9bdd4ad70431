/-
  Contracts of the functions that the statement calls, part 18 of 25 (merged texts: Kl, Km, Kn). Conditions: as the head of each part says.
-/
import Derived.Test.YtkkgfdfjgfigcaaDoorGQ
import Derived.Test.YtkkgfdfjgfigcaaDoorGJ

/-
  Contract of the walk over Outside. Conditions: right patterns; at most 6000 of them.
-/
namespace Go.Proofs.YtkkgfdfjgfigcaaDoor
set_option linter.unusedVariables false
set_option linter.unusedSimpArgs false
open Go.RowKit

theorem wp_allocz {P : Program} {o : Oper} {a : Act} {w : World} {K : Act → World → Prop} {Q : Exit → Act → World → Prop} (ty : TypeId) (ho : o.op = .alloc ty) (z : Value) (cs : List Value)
    (hz : (P.info? ty).map (·.zero) = some (some z)) (hc : z.cells = cs.toArray)
    (h : ∀ g w', Hid (g = w.heap.size) → Hid (w'.heap.size = g + 1) → Below g w w' → Blk w' g ty cs → K (a.put o.dst (.pointer (some ⟨g, 0, none⟩))) w') : Oper.wp P o a w K Q := by
  cases hq : P.info? ty with
  | none => simp [hq] at hz
  | some i =>
    have hz' : i.zero = some z := by simpa [hq] using hz
    unfold Oper.wp execOp
    simp [ho, Instr.alloc, newVar, newRow, zeroValue, typeInfo, hq, hz', hc]
    exact h _ _ rfl (by show (w.alloc _).heap.size = _; simp) (below_new w _) (blk_new w ty cs)
def bndI (B : Bnd) : List Int := (bndN B).map fun (n : Nat) => (n : Int)
theorem bndI_length (B : Bnd) : (bndI B).length = 10 := by unfold bndI; rw [List.length_map, bndN_length]
theorem bndV_iV (B : Bnd) : bndV B = (bndI B).map iV := by unfold bndV bndI; rw [List.map_map]; rfl
theorem bndI_none {R : Bnd} (h : bndI R = bndI none) : R = none := by
  cases R with
  | none => rfl
  | some f =>
    have e : (bndI (some f)).head? = (bndI none).head? := by rw [h]
    have e1 : (bndI (some f)).head? = some (word f 0 : Int) := rfl
    have e2 : (bndI none).head? = some ((65536 : Nat) : Int) := rfl
    rw [e1, e2] at e
    have := word_lt f 0
    injection e with e
    omega
theorem eqlB (A B : Bnd) (w : World) : (binOp .eql 23 (.agg (bndV A).toArray) (.agg (bndV B).toArray)).run Tryd.prog w = .ok (.bool (decide (bndI A = bndI B))) w := by
  rw [bndV_iV, bndV_iV]; exact eql_head w _ _ (bndI_length _) (bndI_length _)
/-- What Outside answers. -/
def outV : Bnd → Value
  | none => .tuple #[.agg (H no).toArray, .bool false]
  | some f => .tuple #[.agg (H f).toArray, .bool true]
set_option maxRecDepth 100000 in
set_option maxHeartbeats 3200000 in
theorem outside_any (cl : Nat) (Al : Option Addr) (l : List Pat) (p : Pat) (w : World) (hok : ∀ q, q ∈ l → q.ok) (hp : p.ok) (hll : l.length ≤ 6000) (hl : PatsAt w Al l) (hal : ∀ g o, Al = some ⟨g, o, none⟩ → g < w.heap.size) :
    Calls Tryd.prog 81 #[.agg p.cells.toArray, .slice Al l.length cl] w fun e w' => ∃ R, e = .returned (outV R) ∧ Pat.found l p none R ∧ Below w.heap.size w w' := by
  obtain ⟨V, hV⟩ : ∃ V, Hid (bndV none = V) := ⟨_, rfl⟩
  have hlo : ∀ W, Below w.heap.size w W → Calls Tryd.prog 150 #[.agg p.cells.toArray, .slice Al l.length cl, .agg V.toArray] W fun e w' => ∃ R, e = .returned (.agg (bndV R).toArray) ∧ Pat.found l p none R ∧ Below W.heap.size W w' := fun W hb => by
    rw [← hV.out]
    exact leastOutside_any cl Al l p none W hok hp hll (hl.next hb) (fun g o e => by have := hal g o e; have := hb.size; omega)
  have HLO := Lib.hid hlo
  have HBY : Hid (∀ W, Calls Tryd.prog 151 #[] W fun e w' => e = .returned (.agg V.toArray) ∧ Below W.heap.size W w') := by
    have : ∀ W, Calls Tryd.prog 151 #[] W fun e w' => e = .returned (.agg V.toArray) ∧ Below W.heap.size W w' := fun W => by rw [← hV.out]; exact beyond_any W
    exact this
  clear hlo hok hp hll hl hal
  obtain ⟨m, hm⟩ : ∃ m, Hid (l.length = m) := ⟨_, rfl⟩
  rw [hm.out] at HLO ⊢
  have hunP := Tryd.underlying25
  have hunH := Tryd.underlying23
  have hzp : (Tryd.prog.info? 25).map (·.size) = some p.cells.length := by rw [Pat.cells_length]; exact Tryd.szP
  go_enter Tryd.func81, Tryd.ntmps81
  go_wp2_with (with_reducible refine wpList_box (o := ⟨some 2, .box 25 (.tmp 0), _, _, _, _⟩) ?g1 25 (.tmp 0) ?o1 (.agg p.cells.toArray) p.cells ?x1 ?c1 ?_)
  try (case g1 => rfl)
  try (case o1 => rfl)
  try (case x1 => rfl)
  try (case c1 => rfl)
  intro g2 w1 hg2 hs1 hb1 hB2
  have hl2 : w.heap.size ≤ g2 := Nat.le_of_eq hg2.out.symm
  have hbe : Below w.heap.size w w1 := hb1.mono hl2
  clear hb1 hs1 hg2
  go_wp2_with (with_reducible refine wpList_alloc (o := ⟨some 4, .alloc 23, _, _, _, _⟩) (by with_unfolding_all rfl) 23 (by with_unfolding_all rfl) (.agg (H no).toArray) (H no) (by exact Tryd.zeroH) (by with_unfolding_all rfl) ?_)
  intro g4 w2 hg4 hs2 hb2 hB4
  have hb2' := hb2.mono (Nat.le_of_eq hg4.out.symm)
  have h24 : g2 < g4 := by have := hB2.lt; have := hg4.out; omega
  have hB2 := hB2.next hb2' hB2.lt
  have hbe := below_join hbe hb2'
  clear hb2 hb2' hs2 hg4
  go_wp2
  refine wp_region_held_drew (S := fun w' => w'.rangeAt g2 0 p.cells) (by kernel_rfl) (blk_range (hB2.next (below_drew w2) hB2.lt)) (fun hHeld => ?_)
  have hB2 := hB2.next (below_drew w2) hB2.lt
  have hB4 := hB4.next (below_drew w2) hB4.lt
  have hbe := below_join hbe (below_drew w2)
  generalize w2.drew = w4 at hB2 hB4 hbe hHeld ⊢
  refine' wpAnyH_take (i := 0) (v := _) rfl (by kernel_rfl) (by kernel_rfl) (by kernel_rfl) (fun _ _ _ h => h) (yieldsIf_load_mid (by rfl) _ _ (by rfl) _ _ (by rfl) _ _ ?Sv0 ?uv0 ?dv0 ?iv0) (by assumption) ?rv0
  case Sv0 => exact (by intro w h; exact h)
  case uv0 => exact hunP
  case dv0 => rfl
  case iv0 => exact hzp
  (try simp only [List.getElem_toArray, List.getElem_cons_zero, Act.put, List.setIfInBounds_toArray, List.set_cons_zero, List.set_cons_succ])
  refine wpAnyH_take (i := 1) (v := ?vv1) rfl (by kernel_rfl) (by kernel_rfl) (by kernel_rfl) (fun _ _ _ h => h) (Or.inl ⟨by rfl, ?yv1⟩) (by assumption) ?rv1
  case yv1 => intro w hSw; (try dsimp only at hSw); go_simp <;> (try with_reducible rfl)
  (try simp only [List.getElem_toArray, List.getElem_cons_succ, List.getElem_cons_zero, Act.put, List.setIfInBounds_toArray, List.set_cons_zero, List.set_cons_succ])
  refine wpAnyH_ready (rs := [2, 4]) (by kernel_rfl) (by simp) ?_
  refine AllReadyH.cons rfl (fun K hK => ?_) (AllReadyH.cons rfl (fun K hK => ?_) AllReadyH.nil)
  · go_simp
    go_wp2_with fail
    (with_reducible refine (HBY.out _).mono ?_)
    rintro e w5 ⟨rfl, hb5⟩
    have hB2 := hB2.next hb5 hB2.lt
    have hB4 := hB4.next hb5 hB4.lt
    skip
    have hbe := below_join hbe hb5
    refine hK.out _ _ (blk_range hB2) (fun hHeld => ?_)
    clear hK K hb5
    refine wpAnyH_ready (rs := [3, 4]) (by kernel_rfl) (by simp) ?_
    refine AllReadyH.cons rfl (fun K hK => ?_) (AllReadyH.cons rfl (fun K hK => ?_) AllReadyH.nil)
    · go_simp
      go_wp2_with fail
      (with_reducible refine (HLO.out _ hbe).mono ?_)
      rintro e w6 ⟨R, rfl, hfo, hb6⟩
      have HFO := Lib.hid hfo
      have hb6' : Below w.heap.size w6 w6 := Below.refl _ _
      have hB2 := hB2.next hb6 hB2.lt
      have hB4 := hB4.next hb6 hB4.lt
      skip
      have hbe := below_join hbe hb6
      refine hK.out _ _ (blk_range hB2) (fun hHeld => ?_)
      clear hK K hb6 hfo hb6'
      refine wpAnyH_ready (rs := [4]) (by kernel_rfl) (by simp) ?_
      refine AllReadyH.cons rfl (fun K hK => ?_) AllReadyH.nil
      rw [if_pos (by rfl)]
      refine wp_allocz 23 rfl (.agg (H no).toArray) (H no) Tryd.zeroH rfl ?_
      intro g6 w7 hg6 hs7 hb7 hB6
      have hb7' := hb7.mono (Nat.le_of_eq hg6.out.symm)
      have h26 : g2 < g6 := by have := hB2.lt; have := hg6.out; omega
      have h46 : g4 < g6 := by have := hB4.lt; have := hg6.out; omega
      have hB2 := hB2.next hb7' hB2.lt
      have hB4 := hB4.next hb7' hB4.lt
      have hbe := below_join hbe hb7'
      refine hK.out _ _ (blk_range hB2) (fun hHeld => ?_)
      clear hK K hb7 hb7' hg6 hs7
      refine wpAnyH_ready (rs := [5]) (by kernel_rfl) (by simp) ?_
      refine AllReadyH.cons rfl (fun K hK => ?_) AllReadyH.nil
      rw [if_pos (by rfl)]
      refine wp_put 23 (.tmp 6) (.tmp 10) rfl g6 0 rfl (.agg (bndV R).toArray) rfl hB6 (bndV R) rfl (by rw [bndV_length]; exact Tryd.szH) (by rw [bndV_length, H_length]; omega) (bndV_one R) ?_
      intro w8 hu8 hB8
      rw [splice_all _ _ (by rw [bndV_length, H_length])] at hB8
      have hB2 := hB2.upd hu8 (by omega)
      have hB4 := hB4.upd hu8 (by omega)
      have hbe := hbe.trans (hu8.below (B := w.heap.size) (by omega))
      refine hK.out _ _ (blk_range hB2) (fun hHeld => ?_)
      clear hK K hB6 hu8
      refine wpAnyH_done (by kernel_rfl) ?_ _
      clear hHeld hB2
      obtain ⟨Y, hY⟩ : ∃ Y, Hid (bndV R = Y) := ⟨_, rfl⟩
      have hYl : Hid (Y.length = 10) := by rw [← hY.out]; exact bndV_length R
      have hY1 : Hid (∀ u ∈ Y, u.oneCell' = true) := by rw [← hY.out]; exact bndV_one R
      rw [hY.out] at hB8
      have hzY : (Tryd.prog.info? 23).map (·.size) = some Y.length := by rw [hYl.out]; exact Tryd.szH
      obtain ⟨D, hD⟩ : ∃ D, Hid (decide (bndI R = bndI none) = D) := ⟨_, rfl⟩
      have heq : ∀ w, (binOp .eql 23 (.agg Y.toArray) (.agg V.toArray)).run Tryd.prog w = .ok (.bool D) w := fun w => by rw [← hY.out, ← hV.out, eqlB, hD.out]
      have hgd := Tryd.guardH
      go_wp2
      refine wp_region_held_drew (S := fun w' => w'.rangeAt g6 0 Y) (by kernel_rfl) (blk_range (hB8.next (below_drew w8) hB8.lt)) (fun hHeld => ?_)
      have hbd := below_drew w8
      generalize w8.drew = w9 at hbd hHeld ⊢
      refine' wpAnyH_take (i := 0) (v := _) rfl (by kernel_rfl) (by kernel_rfl) (by kernel_rfl) (fun _ _ _ h => h) (yieldsIf_load_mid (by rfl) _ _ (by rfl) _ _ (by rfl) _ _ ?Sx0 ?ux0 ?dx0 ?ix0) (by assumption) ?rx0
      case Sx0 => exact (by intro w h; exact h)
      case ux0 => exact hunH
      case dx0 => rfl
      case ix0 => exact hzY
      (try simp only [List.getElem_toArray, List.getElem_cons_zero, Act.put, List.setIfInBounds_toArray, List.set_cons_zero, List.set_cons_succ])
      refine wpAnyH_ready (rs := [1]) (by kernel_rfl) (by simp) ?_
      refine AllReadyH.cons rfl (fun K hK => ?_) AllReadyH.nil
      go_simp
      go_wp2_with fail
      (with_reducible refine (HBY.out _).mono ?_)
      rintro e w10 ⟨rfl, hb10⟩
      have hbd := below_join hbd hb10
      have hB8 := hB8.next hbd hB8.lt
      have hB4 := hB4.next hbd hB4.lt
      have hbe := below_join hbe hbd
      refine hK.out _ _ (blk_range hB8) (fun hHeld => ?_)
      clear hK K hbd hb10
      refine wpAnyH_take (i := 2) (v := ?vx2) rfl (by kernel_rfl) (by kernel_rfl) (by kernel_rfl) (fun _ _ _ h => h) (Or.inl ⟨by rfl, ?yx2⟩) (by assumption) ?rx2
      case yx2 => intro w hSw; (try dsimp only at hSw); go_simp <;> (try with_reducible rfl)
      (try simp only [List.getElem_toArray, List.getElem_cons_succ, List.getElem_cons_zero, Act.put, List.setIfInBounds_toArray, List.set_cons_zero, List.set_cons_succ])
      refine wpAnyH_done (by kernel_rfl) ?_ _
      clear hHeld heq hgd
      cases D with
      | true =>
        have hRn : R = none := bndI_none (of_decide_eq_true hD.out)
        have HF : Hid (Pat.found l p none none) := by
          have : Pat.found l p none none := by rw [hRn] at HFO; exact HFO.out
          exact this
        clear hRn
        go_wp2_with (first | (with_reducible refine wpList_build (o := ⟨some 14, .build 23 #[], _, _, _, _⟩) (by with_unfolding_all rfl) 23 #[] (by with_unfolding_all rfl) #[] (by with_unfolding_all rfl) (.agg (H no).toArray) (by with_unfolding_all exact fun w => run_buildH0 w) ?_) | (with_reducible refine wpList_put (o := ⟨none, .store 23 (.tmp 4) (.tmp 14), _, _, _, _⟩) (by with_unfolding_all rfl) 23 (.tmp 4) (.tmp 14) (by with_unfolding_all rfl) g4 0 (by with_unfolding_all rfl) (.agg (H no).toArray) (by with_unfolding_all rfl) hB4 (H no) (by with_unfolding_all rfl) (by with_unfolding_all (rw [H_length]; exact Tryd.szH)) (by with_unfolding_all (rw [H_length]; omega)) (by with_unfolding_all (exact H_one _)) ?_))
        intro w11 hu11 hB11
        rw [splice_all _ _ rfl] at hB11
        have hfin := hbe.trans (hu11.below (B := w.heap.size) (by omega))
        go_wp2
        exact bodyPost_ret (results_cell_two rfl _ _ g4 _ _ _ _ _ rfl rfl hB11 Tryd.underlying23 rfl (by rw [List.size_toArray, H_length]; exact Tryd.szH)) rfl ⟨none, rfl, HF.out, hfin⟩
      | false =>
        have hRf : ∃ f, R = some f := by
          cases R with
          | none => exact absurd hD.out (by rw [decide_eq_true rfl]; exact Bool.noConfusion)
          | some f => exact ⟨f, rfl⟩
        obtain ⟨f, hRf⟩ := hRf
        have HF : Hid (Pat.found l p none (some f)) := by
          have : Pat.found l p none (some f) := by rw [hRf] at HFO; exact HFO.out
          exact this
        have HY : Hid (H f = Y) := by
          have : H f = Y := by rw [← hY.out, hRf]; rfl
          exact this
        clear hRf
        go_wp2_with (first | (with_reducible refine wpList_get (o := ⟨some 15, .load 23 (.tmp 6), _, _, _, _⟩) (by with_unfolding_all rfl) 23 (.tmp 6) (by with_unfolding_all rfl) g6 0 (by with_unfolding_all rfl) hB8 Y (cs_all _) _ (by exact Tryd.underlying23) (by with_unfolding_all rfl) hzY ?_) | (with_reducible refine wpList_put (o := ⟨none, .store 23 (.tmp 4) (.tmp 15), _, _, _, _⟩) (by with_unfolding_all rfl) 23 (.tmp 4) (.tmp 15) (by with_unfolding_all rfl) g4 0 (by with_unfolding_all rfl) (.agg Y.toArray) (by with_unfolding_all rfl) hB4 Y (by with_unfolding_all rfl) (by with_unfolding_all (exact hzY)) (by with_unfolding_all (rw [hYl.out, H_length]; omega)) (by with_unfolding_all (exact hY1.out)) ?_))
        intro w11 hu11 hB11
        rw [splice_all _ _ (by rw [hYl.out, H_length])] at hB11
        have hfin := hbe.trans (hu11.below (B := w.heap.size) (by omega))
        go_wp2
        exact bodyPost_ret (results_cell_two rfl _ _ g4 _ _ _ _ _ rfl rfl hB11 Tryd.underlying23 rfl (by rw [List.size_toArray, hYl.out]; exact Tryd.szH)) rfl ⟨some f, by rw [← HY.out]; rfl, HF.out, hfin⟩
    · rw [if_pos (by rfl)]
      refine wp_allocz 23 rfl (.agg (H no).toArray) (H no) Tryd.zeroH rfl ?_
      intro g6 w7 hg6 hs7 hb7 hB6
      have hb7' := hb7.mono (Nat.le_of_eq hg6.out.symm)
      have h26 : g2 < g6 := by have := hB2.lt; have := hg6.out; omega
      have h46 : g4 < g6 := by have := hB4.lt; have := hg6.out; omega
      have hB2 := hB2.next hb7' hB2.lt
      have hB4 := hB4.next hb7' hB4.lt
      have hbe := below_join hbe hb7'
      refine hK.out _ _ (blk_range hB2) (fun hHeld => ?_)
      clear hK K hb7 hb7' hg6 hs7
      refine wpAnyH_ready (rs := [3]) (by kernel_rfl) (by simp) ?_
      refine AllReadyH.cons rfl (fun K hK => ?_) AllReadyH.nil
      go_simp
      go_wp2_with fail
      (with_reducible refine (HLO.out _ hbe).mono ?_)
      rintro e w6 ⟨R, rfl, hfo, hb6⟩
      have HFO := Lib.hid hfo
      have hb6' : Below w.heap.size w6 w6 := Below.refl _ _
      have hB2 := hB2.next hb6 hB2.lt
      have hB4 := hB4.next hb6 hB4.lt
      have hB6 := hB6.next hb6 hB6.lt
      have hbe := below_join hbe hb6
      refine hK.out _ _ (blk_range hB2) (fun hHeld => ?_)
      clear hK K hb6 hfo hb6'
      refine wpAnyH_ready (rs := [5]) (by kernel_rfl) (by simp) ?_
      refine AllReadyH.cons rfl (fun K hK => ?_) AllReadyH.nil
      rw [if_pos (by rfl)]
      refine wp_put 23 (.tmp 6) (.tmp 10) rfl g6 0 rfl (.agg (bndV R).toArray) rfl hB6 (bndV R) rfl (by rw [bndV_length]; exact Tryd.szH) (by rw [bndV_length, H_length]; omega) (bndV_one R) ?_
      intro w8 hu8 hB8
      rw [splice_all _ _ (by rw [bndV_length, H_length])] at hB8
      have hB2 := hB2.upd hu8 (by omega)
      have hB4 := hB4.upd hu8 (by omega)
      have hbe := hbe.trans (hu8.below (B := w.heap.size) (by omega))
      refine hK.out _ _ (blk_range hB2) (fun hHeld => ?_)
      clear hK K hB6 hu8
      refine wpAnyH_done (by kernel_rfl) ?_ _
      clear hHeld hB2
      obtain ⟨Y, hY⟩ : ∃ Y, Hid (bndV R = Y) := ⟨_, rfl⟩
      have hYl : Hid (Y.length = 10) := by rw [← hY.out]; exact bndV_length R
      have hY1 : Hid (∀ u ∈ Y, u.oneCell' = true) := by rw [← hY.out]; exact bndV_one R
      rw [hY.out] at hB8
      have hzY : (Tryd.prog.info? 23).map (·.size) = some Y.length := by rw [hYl.out]; exact Tryd.szH
      obtain ⟨D, hD⟩ : ∃ D, Hid (decide (bndI R = bndI none) = D) := ⟨_, rfl⟩
      have heq : ∀ w, (binOp .eql 23 (.agg Y.toArray) (.agg V.toArray)).run Tryd.prog w = .ok (.bool D) w := fun w => by rw [← hY.out, ← hV.out, eqlB, hD.out]
      have hgd := Tryd.guardH
      go_wp2
      refine wp_region_held_drew (S := fun w' => w'.rangeAt g6 0 Y) (by kernel_rfl) (blk_range (hB8.next (below_drew w8) hB8.lt)) (fun hHeld => ?_)
      have hbd := below_drew w8
      generalize w8.drew = w9 at hbd hHeld ⊢
      refine' wpAnyH_take (i := 0) (v := _) rfl (by kernel_rfl) (by kernel_rfl) (by kernel_rfl) (fun _ _ _ h => h) (yieldsIf_load_mid (by rfl) _ _ (by rfl) _ _ (by rfl) _ _ ?Sy0 ?uy0 ?dy0 ?iy0) (by assumption) ?ry0
      case Sy0 => exact (by intro w h; exact h)
      case uy0 => exact hunH
      case dy0 => rfl
      case iy0 => exact hzY
      (try simp only [List.getElem_toArray, List.getElem_cons_zero, Act.put, List.setIfInBounds_toArray, List.set_cons_zero, List.set_cons_succ])
      refine wpAnyH_ready (rs := [1]) (by kernel_rfl) (by simp) ?_
      refine AllReadyH.cons rfl (fun K hK => ?_) AllReadyH.nil
      go_simp
      go_wp2_with fail
      (with_reducible refine (HBY.out _).mono ?_)
      rintro e w10 ⟨rfl, hb10⟩
      have hbd := below_join hbd hb10
      have hB8 := hB8.next hbd hB8.lt
      have hB4 := hB4.next hbd hB4.lt
      have hbe := below_join hbe hbd
      refine hK.out _ _ (blk_range hB8) (fun hHeld => ?_)
      clear hK K hbd hb10
      refine wpAnyH_take (i := 2) (v := ?vy2) rfl (by kernel_rfl) (by kernel_rfl) (by kernel_rfl) (fun _ _ _ h => h) (Or.inl ⟨by rfl, ?yy2⟩) (by assumption) ?ry2
      case yy2 => intro w hSw; (try dsimp only at hSw); go_simp <;> (try with_reducible rfl)
      (try simp only [List.getElem_toArray, List.getElem_cons_succ, List.getElem_cons_zero, Act.put, List.setIfInBounds_toArray, List.set_cons_zero, List.set_cons_succ])
      refine wpAnyH_done (by kernel_rfl) ?_ _
      clear hHeld heq hgd
      cases D with
      | true =>
        have hRn : R = none := bndI_none (of_decide_eq_true hD.out)
        have HF : Hid (Pat.found l p none none) := by
          have : Pat.found l p none none := by rw [hRn] at HFO; exact HFO.out
          exact this
        clear hRn
        go_wp2_with (first | (with_reducible refine wpList_build (o := ⟨some 14, .build 23 #[], _, _, _, _⟩) (by with_unfolding_all rfl) 23 #[] (by with_unfolding_all rfl) #[] (by with_unfolding_all rfl) (.agg (H no).toArray) (by with_unfolding_all exact fun w => run_buildH0 w) ?_) | (with_reducible refine wpList_put (o := ⟨none, .store 23 (.tmp 4) (.tmp 14), _, _, _, _⟩) (by with_unfolding_all rfl) 23 (.tmp 4) (.tmp 14) (by with_unfolding_all rfl) g4 0 (by with_unfolding_all rfl) (.agg (H no).toArray) (by with_unfolding_all rfl) hB4 (H no) (by with_unfolding_all rfl) (by with_unfolding_all (rw [H_length]; exact Tryd.szH)) (by with_unfolding_all (rw [H_length]; omega)) (by with_unfolding_all (exact H_one _)) ?_))
        intro w11 hu11 hB11
        rw [splice_all _ _ rfl] at hB11
        have hfin := hbe.trans (hu11.below (B := w.heap.size) (by omega))
        go_wp2
        exact bodyPost_ret (results_cell_two rfl _ _ g4 _ _ _ _ _ rfl rfl hB11 Tryd.underlying23 rfl (by rw [List.size_toArray, H_length]; exact Tryd.szH)) rfl ⟨none, rfl, HF.out, hfin⟩
      | false =>
        have hRf : ∃ f, R = some f := by
          cases R with
          | none => exact absurd hD.out (by rw [decide_eq_true rfl]; exact Bool.noConfusion)
          | some f => exact ⟨f, rfl⟩
        obtain ⟨f, hRf⟩ := hRf
        have HF : Hid (Pat.found l p none (some f)) := by
          have : Pat.found l p none (some f) := by rw [hRf] at HFO; exact HFO.out
          exact this
        have HY : Hid (H f = Y) := by
          have : H f = Y := by rw [← hY.out, hRf]; rfl
          exact this
        clear hRf
        go_wp2_with (first | (with_reducible refine wpList_get (o := ⟨some 15, .load 23 (.tmp 6), _, _, _, _⟩) (by with_unfolding_all rfl) 23 (.tmp 6) (by with_unfolding_all rfl) g6 0 (by with_unfolding_all rfl) hB8 Y (cs_all _) _ (by exact Tryd.underlying23) (by with_unfolding_all rfl) hzY ?_) | (with_reducible refine wpList_put (o := ⟨none, .store 23 (.tmp 4) (.tmp 15), _, _, _, _⟩) (by with_unfolding_all rfl) 23 (.tmp 4) (.tmp 15) (by with_unfolding_all rfl) g4 0 (by with_unfolding_all rfl) (.agg Y.toArray) (by with_unfolding_all rfl) hB4 Y (by with_unfolding_all rfl) (by with_unfolding_all (exact hzY)) (by with_unfolding_all (rw [hYl.out, H_length]; omega)) (by with_unfolding_all (exact hY1.out)) ?_))
        intro w11 hu11 hB11
        rw [splice_all _ _ (by rw [hYl.out, H_length])] at hB11
        have hfin := hbe.trans (hu11.below (B := w.heap.size) (by omega))
        go_wp2
        exact bodyPost_ret (results_cell_two rfl _ _ g4 _ _ _ _ _ rfl rfl hB11 Tryd.underlying23 rfl (by rw [List.size_toArray, hYl.out]; exact Tryd.szH)) rfl ⟨some f, by rw [← HY.out]; rfl, HF.out, hfin⟩
  · rw [if_pos (by rfl)]
    refine wp_allocz 23 rfl (.agg (H no).toArray) (H no) Tryd.zeroH rfl ?_
    intro g6 w7 hg6 hs7 hb7 hB6
    have hb7' := hb7.mono (Nat.le_of_eq hg6.out.symm)
    have h26 : g2 < g6 := by have := hB2.lt; have := hg6.out; omega
    have h46 : g4 < g6 := by have := hB4.lt; have := hg6.out; omega
    have hB2 := hB2.next hb7' hB2.lt
    have hB4 := hB4.next hb7' hB4.lt
    have hbe := below_join hbe hb7'
    refine hK.out _ _ (blk_range hB2) (fun hHeld => ?_)
    clear hK K hb7 hb7' hg6 hs7
    refine wpAnyH_ready (rs := [2]) (by kernel_rfl) (by simp) ?_
    refine AllReadyH.cons rfl (fun K hK => ?_) AllReadyH.nil
    go_simp
    go_wp2_with fail
    (with_reducible refine (HBY.out _).mono ?_)
    rintro e w5 ⟨rfl, hb5⟩
    have hB2 := hB2.next hb5 hB2.lt
    have hB4 := hB4.next hb5 hB4.lt
    have hB6 := hB6.next hb5 hB6.lt
    have hbe := below_join hbe hb5
    refine hK.out _ _ (blk_range hB2) (fun hHeld => ?_)
    clear hK K hb5
    refine wpAnyH_ready (rs := [3]) (by kernel_rfl) (by simp) ?_
    refine AllReadyH.cons rfl (fun K hK => ?_) AllReadyH.nil
    go_simp
    go_wp2_with fail
    (with_reducible refine (HLO.out _ hbe).mono ?_)
    rintro e w6 ⟨R, rfl, hfo, hb6⟩
    have HFO := Lib.hid hfo
    have hb6' : Below w.heap.size w6 w6 := Below.refl _ _
    have hB2 := hB2.next hb6 hB2.lt
    have hB4 := hB4.next hb6 hB4.lt
    have hB6 := hB6.next hb6 hB6.lt
    have hbe := below_join hbe hb6
    refine hK.out _ _ (blk_range hB2) (fun hHeld => ?_)
    clear hK K hb6 hfo hb6'
    refine wpAnyH_ready (rs := [5]) (by kernel_rfl) (by simp) ?_
    refine AllReadyH.cons rfl (fun K hK => ?_) AllReadyH.nil
    rw [if_pos (by rfl)]
    refine wp_put 23 (.tmp 6) (.tmp 10) rfl g6 0 rfl (.agg (bndV R).toArray) rfl hB6 (bndV R) rfl (by rw [bndV_length]; exact Tryd.szH) (by rw [bndV_length, H_length]; omega) (bndV_one R) ?_
    intro w8 hu8 hB8
    rw [splice_all _ _ (by rw [bndV_length, H_length])] at hB8
    have hB2 := hB2.upd hu8 (by omega)
    have hB4 := hB4.upd hu8 (by omega)
    have hbe := hbe.trans (hu8.below (B := w.heap.size) (by omega))
    refine hK.out _ _ (blk_range hB2) (fun hHeld => ?_)
    clear hK K hB6 hu8
    refine wpAnyH_done (by kernel_rfl) ?_ _
    clear hHeld hB2
    obtain ⟨Y, hY⟩ : ∃ Y, Hid (bndV R = Y) := ⟨_, rfl⟩
    have hYl : Hid (Y.length = 10) := by rw [← hY.out]; exact bndV_length R
    have hY1 : Hid (∀ u ∈ Y, u.oneCell' = true) := by rw [← hY.out]; exact bndV_one R
    rw [hY.out] at hB8
    have hzY : (Tryd.prog.info? 23).map (·.size) = some Y.length := by rw [hYl.out]; exact Tryd.szH
    obtain ⟨D, hD⟩ : ∃ D, Hid (decide (bndI R = bndI none) = D) := ⟨_, rfl⟩
    have heq : ∀ w, (binOp .eql 23 (.agg Y.toArray) (.agg V.toArray)).run Tryd.prog w = .ok (.bool D) w := fun w => by rw [← hY.out, ← hV.out, eqlB, hD.out]
    have hgd := Tryd.guardH
    go_wp2
    refine wp_region_held_drew (S := fun w' => w'.rangeAt g6 0 Y) (by kernel_rfl) (blk_range (hB8.next (below_drew w8) hB8.lt)) (fun hHeld => ?_)
    have hbd := below_drew w8
    generalize w8.drew = w9 at hbd hHeld ⊢
    refine' wpAnyH_take (i := 0) (v := _) rfl (by kernel_rfl) (by kernel_rfl) (by kernel_rfl) (fun _ _ _ h => h) (yieldsIf_load_mid (by rfl) _ _ (by rfl) _ _ (by rfl) _ _ ?Sz0 ?uz0 ?dz0 ?iz0) (by assumption) ?rz0
    case Sz0 => exact (by intro w h; exact h)
    case uz0 => exact hunH
    case dz0 => rfl
    case iz0 => exact hzY
    (try simp only [List.getElem_toArray, List.getElem_cons_zero, Act.put, List.setIfInBounds_toArray, List.set_cons_zero, List.set_cons_succ])
    refine wpAnyH_ready (rs := [1]) (by kernel_rfl) (by simp) ?_
    refine AllReadyH.cons rfl (fun K hK => ?_) AllReadyH.nil
    go_simp
    go_wp2_with fail
    (with_reducible refine (HBY.out _).mono ?_)
    rintro e w10 ⟨rfl, hb10⟩
    have hbd := below_join hbd hb10
    have hB8 := hB8.next hbd hB8.lt
    have hB4 := hB4.next hbd hB4.lt
    have hbe := below_join hbe hbd
    refine hK.out _ _ (blk_range hB8) (fun hHeld => ?_)
    clear hK K hbd hb10
    refine wpAnyH_take (i := 2) (v := ?vz2) rfl (by kernel_rfl) (by kernel_rfl) (by kernel_rfl) (fun _ _ _ h => h) (Or.inl ⟨by rfl, ?yz2⟩) (by assumption) ?rz2
    case yz2 => intro w hSw; (try dsimp only at hSw); go_simp <;> (try with_reducible rfl)
    (try simp only [List.getElem_toArray, List.getElem_cons_succ, List.getElem_cons_zero, Act.put, List.setIfInBounds_toArray, List.set_cons_zero, List.set_cons_succ])
    refine wpAnyH_done (by kernel_rfl) ?_ _
    clear hHeld heq hgd
    cases D with
    | true =>
      have hRn : R = none := bndI_none (of_decide_eq_true hD.out)
      have HF : Hid (Pat.found l p none none) := by
        have : Pat.found l p none none := by rw [hRn] at HFO; exact HFO.out
        exact this
      clear hRn
      go_wp2_with (first | (with_reducible refine wpList_build (o := ⟨some 14, .build 23 #[], _, _, _, _⟩) (by with_unfolding_all rfl) 23 #[] (by with_unfolding_all rfl) #[] (by with_unfolding_all rfl) (.agg (H no).toArray) (by with_unfolding_all exact fun w => run_buildH0 w) ?_) | (with_reducible refine wpList_put (o := ⟨none, .store 23 (.tmp 4) (.tmp 14), _, _, _, _⟩) (by with_unfolding_all rfl) 23 (.tmp 4) (.tmp 14) (by with_unfolding_all rfl) g4 0 (by with_unfolding_all rfl) (.agg (H no).toArray) (by with_unfolding_all rfl) hB4 (H no) (by with_unfolding_all rfl) (by with_unfolding_all (rw [H_length]; exact Tryd.szH)) (by with_unfolding_all (rw [H_length]; omega)) (by with_unfolding_all (exact H_one _)) ?_))
      intro w11 hu11 hB11
      rw [splice_all _ _ rfl] at hB11
      have hfin := hbe.trans (hu11.below (B := w.heap.size) (by omega))
      go_wp2
      exact bodyPost_ret (results_cell_two rfl _ _ g4 _ _ _ _ _ rfl rfl hB11 Tryd.underlying23 rfl (by rw [List.size_toArray, H_length]; exact Tryd.szH)) rfl ⟨none, rfl, HF.out, hfin⟩
    | false =>
      have hRf : ∃ f, R = some f := by
        cases R with
        | none => exact absurd hD.out (by rw [decide_eq_true rfl]; exact Bool.noConfusion)
        | some f => exact ⟨f, rfl⟩
      obtain ⟨f, hRf⟩ := hRf
      have HF : Hid (Pat.found l p none (some f)) := by
        have : Pat.found l p none (some f) := by rw [hRf] at HFO; exact HFO.out
        exact this
      have HY : Hid (H f = Y) := by
        have : H f = Y := by rw [← hY.out, hRf]; rfl
        exact this
      clear hRf
      go_wp2_with (first | (with_reducible refine wpList_get (o := ⟨some 15, .load 23 (.tmp 6), _, _, _, _⟩) (by with_unfolding_all rfl) 23 (.tmp 6) (by with_unfolding_all rfl) g6 0 (by with_unfolding_all rfl) hB8 Y (cs_all _) _ (by exact Tryd.underlying23) (by with_unfolding_all rfl) hzY ?_) | (with_reducible refine wpList_put (o := ⟨none, .store 23 (.tmp 4) (.tmp 15), _, _, _, _⟩) (by with_unfolding_all rfl) 23 (.tmp 4) (.tmp 15) (by with_unfolding_all rfl) g4 0 (by with_unfolding_all rfl) (.agg Y.toArray) (by with_unfolding_all rfl) hB4 Y (by with_unfolding_all rfl) (by with_unfolding_all (exact hzY)) (by with_unfolding_all (rw [hYl.out, H_length]; omega)) (by with_unfolding_all (exact hY1.out)) ?_))
      intro w11 hu11 hB11
      rw [splice_all _ _ (by rw [hYl.out, H_length])] at hB11
      have hfin := hbe.trans (hu11.below (B := w.heap.size) (by omega))
      go_wp2
      exact bodyPost_ret (results_cell_two rfl _ _ g4 _ _ _ _ _ rfl rfl hB11 Tryd.underlying23 rfl (by rw [List.size_toArray, hYl.out]; exact Tryd.szH)) rfl ⟨some f, by rw [← HY.out]; rfl, HF.out, hfin⟩
end Go.Proofs.YtkkgfdfjgfigcaaDoor

/-
  The blocks of a range in plain words; contract of the walk over block. Conditions: small numbers.
-/
namespace Go.Proofs.YtkkgfdfjgfigcaaDoor
set_option linter.unusedVariables false
set_option linter.unusedSimpArgs false
open Go.RowKit

/-- How many bits the greatest block leaves free that begins at lo and does not go beyond hi. -/
def freeGo (lo hi : Nat) : Nat → Nat → Nat
  | 0, k => k
  | f + 1, k => if lo % 2 ^ (k + 1) = 0 ∧ lo + 2 ^ (k + 1) ≤ hi + 1 then freeGo lo hi f (k + 1) else k
def rfree (lo hi : Nat) : Nat := freeGo lo hi 17 0
theorem freeGo_spec {lo hi : Nat} (hh : hi < 65536) : ∀ f k, f + k = 17 → k ≤ 16 → lo % 2 ^ k = 0 → lo + 2 ^ k ≤ hi + 1 → freeGo lo hi f k ≤ 16 ∧ lo % 2 ^ freeGo lo hi f k = 0 ∧ lo + 2 ^ freeGo lo hi f k ≤ hi + 1
  | 0, k, h, h1, _, _ => by omega
  | f + 1, k, h, h1, h2, h3 => by
    unfold freeGo
    split
    · rename_i hc
      have hk : k + 1 ≤ 16 := Classical.byContradiction fun hn => by
        have : 2 ^ 17 ≤ 2 ^ (k + 1) := Nat.pow_le_pow_right (by decide) (by omega)
        omega
      exact freeGo_spec hh f (k + 1) (by omega) hk hc.1 hc.2
    · exact ⟨h1, h2, h3⟩
theorem rfree_spec {lo hi : Nat} (h : lo ≤ hi) (hh : hi < 65536) : rfree lo hi ≤ 16 ∧ lo % 2 ^ rfree lo hi = 0 ∧ lo + 2 ^ rfree lo hi ≤ hi + 1 :=
  freeGo_spec hh 17 0 rfl (by omega) (by rw [Nat.pow_zero]; omega) (by omega)
/-- The patterns of a range. -/
def rangeGo (at_ wd hi : Nat) : Nat → Nat → List Pat
  | 0, _ => []
  | f + 1, lo => if lo ≤ hi then Pat.pre at_ wd lo (wd - rfree lo hi) :: rangeGo at_ wd hi f (lo + 2 ^ rfree lo hi) else []
def rangeL (at_ wd lo hi : Nat) : List Pat := rangeGo at_ wd hi 65537 lo
theorem rangeGo_none (at_ wd hi : Nat) : ∀ {f lo : Nat}, hi < lo → rangeGo at_ wd hi f lo = []
  | 0, _, _ => rfl
  | _ + 1, _, h => by unfold rangeGo; rw [if_neg (by omega)]
theorem pre_m_word {at_ wd fr lo v : Nat} (h : at_ % 16 + wd ≤ 16) (hf : fr ≤ wd) : word (Pat.pre at_ wd lo (wd - fr)).m v = if v = at_ / 16 then (2 ^ wd - 2 ^ fr) * 2 ^ (16 - at_ % 16 - wd) else 0 := by
  apply Nat.eq_of_testBit_eq
  intro j
  rw [word_test]
  show (decide (j < 16) && (decide (at_ ≤ 16 * v + (15 - j)) && decide (16 * v + (15 - j) < at_ + (wd - fr)))) = _
  by_cases hv : v = at_ / 16
  · rw [if_pos hv, show (2 ^ wd - 2 ^ fr) * 2 ^ (16 - at_ % 16 - wd) = 2 ^ (16 - at_ % 16 - wd + fr) * (2 ^ (wd - fr) - 1) by
      rw [show 2 ^ wd = 2 ^ fr * 2 ^ (wd - fr) by rw [← Nat.pow_add]; congr 1; omega, Nat.pow_add, Nat.mul_comm, Nat.mul_assoc, Nat.mul_sub (2 ^ fr), Nat.mul_one], Nat.testBit_two_pow_mul, Nat.testBit_two_pow_sub_one, Bool.eq_iff_iff]
    simp only [Bool.and_eq_true, decide_eq_true_eq]
    omega
  · rw [if_neg hv, Nat.zero_testBit, Bool.and_eq_false_iff, Bool.and_eq_false_iff, decide_eq_false_iff_not, decide_eq_false_iff_not, decide_eq_false_iff_not]
    omega
theorem pre_b_word {at_ wd fr lo v : Nat} (h : at_ % 16 + wd ≤ 16) (hf : fr ≤ wd) (hd : lo % 2 ^ fr = 0) (hl : lo < 2 ^ wd) : word (Pat.pre at_ wd lo (wd - fr)).b v = if v = at_ / 16 then lo * 2 ^ (16 - at_ % 16 - wd) else 0 := by
  apply Nat.eq_of_testBit_eq
  intro j
  rw [word_test]
  show (decide (j < 16) && ((decide (at_ ≤ 16 * v + (15 - j)) && decide (16 * v + (15 - j) < at_ + (wd - fr))) && lo.testBit (wd - 1 - (16 * v + (15 - j) - at_)))) = _
  by_cases hv : v = at_ / 16
  · rw [if_pos hv, Nat.mul_comm lo, Nat.testBit_two_pow_mul]
    by_cases hin : j < 16 ∧ at_ ≤ 16 * v + (15 - j) ∧ 16 * v + (15 - j) < at_ + (wd - fr)
    · rw [decide_eq_true hin.1, decide_eq_true hin.2.1, decide_eq_true hin.2.2, decide_eq_true (show j ≥ 16 - at_ % 16 - wd by omega), show wd - 1 - (16 * v + (15 - j) - at_) = j - (16 - at_ % 16 - wd) by omega]
      rfl
    · have hl0 : (decide (j < 16) && (decide (at_ ≤ 16 * v + (15 - j)) && decide (16 * v + (15 - j) < at_ + (wd - fr)))) = false := by
        rw [Bool.and_eq_false_iff, Bool.and_eq_false_iff, decide_eq_false_iff_not, decide_eq_false_iff_not, decide_eq_false_iff_not]
        omega
      rw [← Bool.and_assoc, hl0, Bool.false_and]
      by_cases hj : j ≥ 16 - at_ % 16 - wd
      · rw [decide_eq_true hj, Bool.true_and]
        by_cases h1 : j - (16 - at_ % 16 - wd) < fr
        · obtain ⟨c, hc⟩ := Nat.dvd_of_mod_eq_zero hd
          rw [hc, Nat.testBit_two_pow_mul, decide_eq_false (by omega)]
          rfl
        · exact (Nat.testBit_lt_two_pow (Nat.lt_of_lt_of_le hl (Nat.pow_le_pow_right (by decide) (by omega)))).symm
      · rw [decide_eq_false hj]; rfl
  · rw [if_neg hv, Nat.zero_testBit, Bool.and_eq_false_iff, Bool.and_eq_false_iff, Bool.and_eq_false_iff, decide_eq_false_iff_not, decide_eq_false_iff_not, decide_eq_false_iff_not]
    omega
def BlkRel (lo hi : Nat) (i : Value) : Prop := ∃ k : Nat, k ≤ 16 ∧ i = .int .i64 ((2 ^ k : Nat) : Int) ∧ freeGo lo hi (17 - k) k = rfree lo hi
set_option maxRecDepth 100000 in
set_option maxHeartbeats 1600000 in
theorem block_any (lo hi : Nat) (w : World) (h : lo ≤ hi) (hh : hi < 65536) :
    Calls Tryd.prog 152 #[.int .i64 (lo : Int), .int .i64 (hi : Int)] w fun e w' => e = .returned (.int .i64 ((2 ^ rfree lo hi : Nat) : Int)) ∧ w = w' := by
  obtain ⟨V, hV⟩ : ∃ V : Nat, Hid (2 ^ rfree lo hi = V) := ⟨_, rfl⟩
  rw [hV.out]
  go_enter Tryd.func152, Tryd.ntmps152
  go_wp2
  go_loop [5] (BlkRel lo hi) (fun i => 65536 - (intOf i).toNat)
  case atStart => exact ⟨0, by omega, rfl, rfl⟩
  case round =>
    obtain ⟨k, hk, rfl, hg⟩ := hrel
    obtain ⟨x, hx⟩ : ∃ x : Nat, 2 ^ k = x := ⟨_, rfl⟩
    have hx6 : x ≤ 65536 := by rw [← hx]; exact Nat.pow_le_pow_right (by decide) (by omega : k ≤ 16)
    have hx1 : 1 ≤ x := by rw [← hx]; exact Nat.one_le_two_pow
    have hy : 2 ^ (k + 1) = 2 * x := by rw [Nat.pow_succ, hx]; omega
    have hg' : (if lo % (2 * x) = 0 ∧ lo + 2 * x ≤ hi + 1 then freeGo lo hi (16 - k) (k + 1) else k) = rfree lo hi := by
      rw [← hg, show 17 - k = (16 - k) + 1 by omega]
      show _ = (if lo % 2 ^ (k + 1) = 0 ∧ lo + 2 ^ (k + 1) ≤ hi + 1 then freeGo lo hi (16 - k) (k + 1) else k)
      rw [hy]
    obtain ⟨r, hr⟩ : ∃ r : Nat, lo % (2 * x) = r := ⟨_, rfl⟩
    have hrd : (lo : Int).tmod (2 * (x : Int)) = (r : Int) := by rw [Int.tmod_eq_emod_of_nonneg (by omega), ← hr]; rfl
    have hw1 : IntKind.i64.wrap (2 * (x : Int)) = 2 * (x : Int) := by simp only [IntKind.wrap_i64]; omega
    have hw2 : IntKind.i64.wrap (r : Int) = (r : Int) := by have := Nat.mod_le lo (2 * x); simp only [IntKind.wrap_i64]; omega
    have hw3 : IntKind.i64.wrap ((lo : Int) + 2 * (x : Int)) = (lo : Int) + 2 * (x : Int) := by simp only [IntKind.wrap_i64]; omega
    have hw4 : IntKind.i64.wrap ((lo : Int) + 2 * (x : Int) - 1) = (lo : Int) + 2 * (x : Int) - 1 := by simp only [IntKind.wrap_i64]; omega
    have hw5 : IntKind.i64.wrap ((x : Int) * 2) = (x : Int) * 2 := by simp only [IntKind.wrap_i64]; omega
    have hz : (2 * (x : Int)) ≠ 0 := by omega
    rw [hr] at hg'
    rw [hx]
    have HG := Lib.hid hg'
    have HG0 := Lib.hid hg
    have HX := Lib.hid hx
    have HY := Lib.hid hy
    clear hg' hg hx hy hr
    by_cases h1 : r = 0
    · subst h1
      by_cases h2 : lo + 2 * x ≤ hi + 1
      · have h2i : (lo : Int) + 2 * (x : Int) - 1 ≤ (hi : Int) := by omega
        have HG2 : Hid (freeGo lo hi (16 - k) (k + 1) = rfree lo hi) := by
          have : freeGo lo hi (16 - k) (k + 1) = rfree lo hi := by
            have := HG.out
            rwa [if_pos ⟨rfl, h2⟩] at this
          exact this
        have hk2 : k + 1 ≤ 16 := Classical.byContradiction fun hn => by
          have : 2 ^ 17 ≤ 2 ^ (k + 1) := Nat.pow_le_pow_right (by decide) (by omega)
          have := HY.out
          omega
        go_wp2
        go_round
        case rel => exact ⟨k + 1, hk2, by rw [HY.out]; congr 1; omega, by rw [show 17 - (k + 1) = 16 - k by omega]; exact HG2.out⟩
        case measure => simp [intOf]; omega
      · have h2i : ¬ ((lo : Int) + 2 * (x : Int) - 1 ≤ (hi : Int)) := by omega
        obtain rfl : x = V := by
          have := HG.out
          rw [if_neg (fun hc => h2 hc.2)] at this
          rw [← hV.out, ← this, HX.out]
        go_wp2
        go_ret
        exact ⟨rfl, rfl⟩
    · have h1i : ¬ ((r : Int) = 0) := by omega
      obtain rfl : x = V := by
        have := HG.out
        rw [if_neg (fun hc => h1 hc.1)] at this
        rw [← hV.out, ← this, HX.out]
      go_wp2
      go_ret
      exact ⟨rfl, rfl⟩
end Go.Proofs.YtkkgfdfjgfigcaaDoor

/-
  Contract of the walk over Range. Conditions: none.
-/
namespace Go.Proofs.YtkkgfdfjgfigcaaDoor
set_option linter.unusedVariables false
set_option linter.unusedSimpArgs false
open Go.RowKit

theorem H_rep : H no = List.replicate 10 (nV 0) := by
  unfold H HN
  rw [List.map_map]
  rfl
theorem H_word {f : Nat → Bool} {q x : Nat} (h : ∀ v, word f v = if v = q then x else 0) : H f = (List.range 10).map fun v => nV (if v = q then x else 0) := by
  unfold H HN
  rw [List.map_map]
  exact List.map_congr_left fun v _ => by show nV (word f v) = _; rw [h]
theorem put_m {x : Nat} {L : List Value} : ∀ {q : Nat}, q < 10 → splice (List.replicate 10 (nV 0) ++ L) q [nV x] = ((List.range 10).map fun v => nV (if v = q then x else 0)) ++ L
  | 0, _ => rfl
  | 1, _ => rfl
  | 2, _ => rfl
  | 3, _ => rfl
  | 4, _ => rfl
  | 5, _ => rfl
  | 6, _ => rfl
  | 7, _ => rfl
  | 8, _ => rfl
  | 9, _ => rfl
  | q + 10, h => by omega
theorem put_b {x : Nat} {a0 a1 a2 a3 a4 a5 a6 a7 a8 a9 : Value} : ∀ {q : Nat}, q < 10 → splice ([a0, a1, a2, a3, a4, a5, a6, a7, a8, a9] ++ List.replicate 10 (nV 0)) (10 + q) [nV x] = [a0, a1, a2, a3, a4, a5, a6, a7, a8, a9] ++ ((List.range 10).map fun v => nV (if v = q then x else 0))
  | 0, _ => rfl
  | 1, _ => rfl
  | 2, _ => rfl
  | 3, _ => rfl
  | 4, _ => rfl
  | 5, _ => rfl
  | 6, _ => rfl
  | 7, _ => rfl
  | 8, _ => rfl
  | 9, _ => rfl
  | q + 10, h => by omega
theorem cells_put_m {f : Nat → Bool} {q x : Nat} (hq : q < 10) (h : ∀ v, word f v = if v = q then x else 0) : splice Pat.zero.cells q [.int .i64 (x : Int)] = (⟨f, no⟩ : Pat).cells := by
  show splice (H no ++ H no) q [nV x] = H f ++ H no
  rw [H_word h, ← put_m hq, H_rep]
theorem cells_put_b {f g : Nat → Bool} {q x : Nat} (hq : q < 10) (h : ∀ v, word g v = if v = q then x else 0) : splice (⟨f, no⟩ : Pat).cells (10 + q) [.int .i64 (x : Int)] = (⟨f, g⟩ : Pat).cells := by
  show splice (H f ++ H no) (10 + q) [nV x] = H f ++ H g
  obtain ⟨a0, a1, a2, a3, a4, a5, a6, a7, a8, a9, e⟩ := list10 (H_length f)
  rw [H_word h, e, ← put_b hq, H_rep]
structure RgI (a wd lo hi : Nat) (w : World) (j : Nat) (D : List Pat) (A : Option Addr) (c : Nat) (wr : World) : Prop where
  own : wr.ownsRow w.heap.size 25 20 (.slice A D.length c) D.length (patCells D)
  all : ∃ f, 65536 < f + j ∧ D ++ rangeGo a wd hi f j = rangeL a wd lo hi
  lo : lo ≤ j ∧ j ≤ hi + 1 ∧ D.length + lo ≤ j
  below : Below w.heap.size w wr
def RgRel (a wd lo hi : Nat) (w : World) (lv jv : Value) (wr : World) : Prop :=
  ∃ (j : Nat) (D : List Pat) (A : Option Addr) (c : Nat), jv = .int .i64 (j : Int) ∧ lv = .slice A D.length c ∧ RgI a wd lo hi w j D A c wr
set_option maxRecDepth 100000 in
set_option maxHeartbeats 1600000 in
theorem range_any (a wd lo hi : Nat) (w : World) (h1 : 1 ≤ wd) (h2 : a % 16 + wd ≤ 16) (h3 : a + wd ≤ 160) (h4 : lo ≤ hi) (h5 : hi < 2 ^ wd) :
    Calls Tryd.prog 82 #[.int .i64 (a : Int), .int .i64 (wd : Int), .int .i64 (lo : Int), .int .i64 (hi : Int)] w fun e w' => ∃ A c, e = .returned (.tuple #[.slice A (rangeL a wd lo hi).length c, .int .i64 0]) ∧ w'.ownsRow w.heap.size 25 20 (.slice A (rangeL a wd lo hi).length c) (rangeL a wd lo hi).length (patCells (rangeL a wd lo hi)) ∧ Below w.heap.size w w' := by
  obtain ⟨i0, hi0, hz0, hz1, hz2⟩ := info_parts Tryd.infoPt
  have HI := Lib.hid hi0
  have HZ0 := Lib.hid hz0
  have HZ1 := Lib.hid hz1
  have HZ2 := Lib.hid hz2
  have hzs : (Value.agg (H no ++ H no).toArray).cells.size = 20 := by
    show (H no ++ H no).toArray.size = 20
    rw [List.size_toArray, List.length_append, H_length]
  have HZS := Lib.hid hzs
  clear hi0 hz0 hz1 hz2 hzs
  obtain ⟨R, hR⟩ : ∃ R, Hid (rangeL a wd lo hi = R) := ⟨_, rfl⟩
  rw [hR.out]
  have hpw : 2 ^ wd ≤ 65536 := Nat.pow_le_pow_right (by decide) (show wd ≤ 16 by omega)
  obtain ⟨r, hr⟩ : ∃ r : Nat, Hid (a % 16 = r) := ⟨_, rfl⟩
  have hrd : (a : Int).tmod 16 = (r : Int) := by rw [Int.tmod_eq_emod_of_nonneg (by omega), ← hr.out]; rfl
  have hr16 : r + wd ≤ 16 := by rw [← hr.out]; exact h2
  have hi16 : hi < 65536 := by omega
  obtain ⟨PW, hPW⟩ : ∃ PW : Nat, Hid (2 ^ wd = PW) := ⟨_, rfl⟩
  have hsh : ((2 : Int) ^ wd) = (PW : Int) := by rw [← hPW.out, Int.natCast_pow]; rfl
  have hPWl : PW ≤ 65536 := by rw [← hPW.out]; exact hpw
  have hhi : hi < PW := by rw [← hPW.out]; exact h5
  have H2 := Lib.hid h2
  have H5 := Lib.hid h5
  clear hpw h2 h5
  go_enter Tryd.func82, Tryd.ntmps82
  have e1 : ¬ ((wd : Int) < 1) := by omega
  have e2 : ¬ ((wd : Int) > 16) := by omega
  have e3 : ¬ ((a : Int) < 0) := by omega
  have e4 : ¬ ((a : Int) > 160 - (wd : Int)) := by omega
  have e5 : ¬ ((r : Int) + (wd : Int) > 16) := by omega
  have e6 : ¬ ((lo : Int) < 0) := by omega
  have e7 : ¬ ((lo : Int) > (hi : Int)) := by omega
  have e8 : ¬ ((hi : Int) ≥ (PW : Int)) := by omega
  obtain ⟨s, hs⟩ : ∃ s : Nat, Hid (16 - r - wd = s) := ⟨_, rfl⟩
  have hsI : (16 : Int) - (r : Int) - (wd : Int) = (s : Int) := by rw [← hs.out]; omega
  have hw1 : IntKind.i64.wrap ((16 : Int) - (r : Int)) = (16 : Int) - (r : Int) := by simp only [IntKind.wrap_i64]; omega
  have hw2 : IntKind.i64.wrap (s : Int) = (s : Int) := by have := hs.out; simp only [IntKind.wrap_i64]; omega
  have H0 : Hid (RgI a wd lo hi w lo [] none 0 w) := by
    have : RgI a wd lo hi w lo [] none 0 w := ⟨World.ownsRow_nil _ _ _ _, ⟨65537, by omega, rfl⟩, ⟨Nat.le_refl _, by omega, by simp⟩, Below.refl _ _⟩
    exact this
  go_wp2
  go_loopw [10, 2] (RgRel a wd lo hi w) (fun _ i _ => hi + 1 - (intOf i).toNat)
  case atStart => exact ⟨lo, [], none, 0, rfl, rfl, H0.out⟩
  case round =>
    clear H0
    obtain ⟨j, D, A, c, rfl, rfl, hL⟩ := hrel
    have HL := Lib.hid hL
    clear hL
    by_cases hjh : j ≤ hi
    · have hji : (j : Int) ≤ (hi : Int) := by omega
      obtain ⟨m, hm⟩ : ∃ m, Hid (D.length = m) := ⟨_, rfl⟩
      obtain ⟨X, hX⟩ : ∃ X, Hid (Pat.pre a wd j (wd - rfree j hi) = X) := ⟨_, rfl⟩
      have hfs := rfree_spec hjh hi16
      obtain ⟨Z, hZ⟩ : ∃ Z : Nat, Hid (2 ^ rfree j hi = Z) := ⟨_, rfl⟩
      have hblk := fun w => block_any j hi w hjh hi16
      rw [hZ.out] at hblk hfs
      have HBK := Lib.hid hblk
      have HFS := Lib.hid hfs
      have hZl : Z ≤ PW := by have := hfs.2.2; omega
      obtain ⟨q, hq⟩ : ∃ q : Nat, Hid (a / 16 = q) := ⟨_, rfl⟩
      have hqd : (a : Int).tdiv 16 = (q : Int) := by rw [Int.tdiv_eq_ediv_of_nonneg (by omega), ← hq.out]; rfl
      have hq10 : q < 10 := by have := hq.out; omega
      have hq0 : (0 : Int) ≤ (q : Int) := by omega
      have hq10i : (q : Int) < 10 := by omega
      have hwq : IntKind.i64.wrap (q : Int) = (q : Int) := by simp only [IntKind.wrap_i64]; omega
      have hwz : IntKind.i64.wrap ((PW : Int) - (Z : Int)) = (PW : Int) - (Z : Int) := by simp only [IntKind.wrap_i64]; omega
      obtain ⟨SP, hSP⟩ : ∃ SP : Nat, Hid (2 ^ s = SP) := ⟨_, rfl⟩
      have hsp : ((2 : Int) ^ s) = (SP : Int) := by rw [← hSP.out, Int.natCast_pow]; rfl
      have hSP1 : PW * SP ≤ 65536 := by
        rw [← hPW.out, ← hSP.out, ← Nat.pow_add]
        exact Nat.pow_le_pow_right (by decide) (show wd + s ≤ 16 by have := hs.out; omega)
      obtain ⟨MV, hMV⟩ : ∃ MV : Nat, Hid ((PW - Z) * SP = MV) := ⟨_, rfl⟩
      obtain ⟨BV, hBV⟩ : ∃ BV : Nat, Hid (j * SP = BV) := ⟨_, rfl⟩
      have hMVl : MV ≤ 65536 := by rw [← hMV.out]; exact Nat.le_trans (Nat.mul_le_mul_right _ (by omega)) hSP1
      have hBVl : BV ≤ 65536 := by rw [← hBV.out]; exact Nat.le_trans (Nat.mul_le_mul_right _ (by omega)) hSP1
      have hmv : ((PW : Int) - (Z : Int)) * (SP : Int) = (MV : Int) := by rw [← hMV.out, Int.natCast_mul, Int.natCast_sub hZl]
      have hbv : (j : Int) * (SP : Int) = (BV : Int) := by rw [← hBV.out, Int.natCast_mul]
      have hwm : IntKind.i64.wrap (MV : Int) = (MV : Int) := by simp only [IntKind.wrap_i64]; omega
      have hwb : IntKind.i64.wrap (BV : Int) = (BV : Int) := by simp only [IntKind.wrap_i64]; omega
      have hjZ : j + Z ≤ hi + 1 := HFS.out.2.2
      have hwj : IntKind.i64.wrap ((j : Int) + (Z : Int)) = (j : Int) + (Z : Int) := by simp only [IntKind.wrap_i64]; omega
      have hfw : rfree j hi ≤ wd := Classical.byContradiction fun hn => by
        have h1 : 2 ^ (wd + 1) ≤ 2 ^ rfree j hi := Nat.pow_le_pow_right (by decide) (by omega)
        rw [hZ.out, Nat.pow_succ, hPW.out] at h1
        omega
      have hwm' : ∀ v, word X.m v = if v = q then MV else 0 := fun v => by
        rw [← hX.out, pre_m_word H2.out hfw, hq.out, hr.out, hs.out, hPW.out, hZ.out, hSP.out, hMV.out]
      have hwb' : ∀ v, word X.b v = if v = q then BV else 0 := fun v => by
        rw [← hX.out, pre_b_word H2.out hfw (by rw [hZ.out]; exact HFS.out.2.1) (by rw [hPW.out]; omega), hq.out, hr.out, hs.out, hSP.out, hBV.out]
      have HWM := Lib.hid hwm'
      have HWB := Lib.hid hwb'
      have hm1 : m + 1 ≤ 65537 := by have := HL.out.lo; rw [hm.out] at this; omega
      have hZ1 : 1 ≤ Z := by rw [← hZ.out]; exact Nat.one_le_two_pow
      obtain ⟨Y, hY⟩ : ∃ Y, Hid (patCells D = Y) := ⟨_, rfl⟩
      have how := HL.out.own
      rw [hm.out, hY.out] at how
      have HOW := Lib.hid how
      have HBE := Lib.hid HL.out.below
      rw [hm.out]
      clear hblk hfs hwm' hwb' how
      go_wp2_with fail
      (with_reducible refine (HBK.out _).mono ?_)
      rintro e w4 ⟨rfl, rfl⟩
      go_wp2_with (with_reducible refine wpList_alloc (o := ⟨some 13, .alloc 25, _, _, _, _⟩) (by with_unfolding_all rfl) 25 (by with_unfolding_all rfl) (.agg (H no ++ H no).toArray) (H no ++ H no) (by exact Tryd.zeroPt) (by with_unfolding_all rfl) ?_)
      intro g w5 hg hs5 hb5 hB5
      rw [cells_zero] at hB5
      have hgw : wr.heap.size ≤ g := Nat.le_of_eq hg.out.symm
      have hb5' := hb5.mono hgw
      clear hb5 hs5 hg
      go_wp2_with (with_reducible refine wpList_put (o := ⟨none, .store 3 (.tmp 70) (.tmp 68), _, _, _, _⟩) (by with_unfolding_all rfl) 3 (.tmp 70) (.tmp 68) (by with_unfolding_all rfl) g q (by with_unfolding_all rfl) (.int .i64 (MV : Int)) (by with_unfolding_all rfl) hB5 [.int .i64 (MV : Int)] (by with_unfolding_all rfl) (by with_unfolding_all (exact Tryd.szI)) (by with_unfolding_all (rw [Pat.cells_length]; show q + 1 ≤ 20; omega)) (by with_unfolding_all (exact one_cell1 rfl)) ?_)
      intro w6 hu6 hB6
      rw [cells_put_m hq10 HWM.out] at hB6
      have hb6 := hb5'.trans (hu6.below (B := wr.heap.size) hgw)
      clear hb5' hu6 hB5
      go_wp2_with (with_reducible refine wpList_put (o := ⟨none, .store 3 (.tmp 77) (.tmp 75), _, _, _, _⟩) (by with_unfolding_all rfl) 3 (.tmp 77) (.tmp 75) (by with_unfolding_all rfl) g (10 + q) (by with_unfolding_all rfl) (.int .i64 (BV : Int)) (by with_unfolding_all rfl) hB6 [.int .i64 (BV : Int)] (by with_unfolding_all rfl) (by with_unfolding_all (exact Tryd.szI)) (by with_unfolding_all (rw [Pat.cells_length]; show 10 + q + 1 ≤ 20; omega)) (by with_unfolding_all (exact one_cell1 rfl)) ?_)
      intro w7 hu7 hB7
      rw [cells_put_b hq10 HWB.out] at hB7
      have hB7' : Blk w7 g 25 X.cells := hB7
      have hb7 := hb6.trans (hu7.below (B := wr.heap.size) hgw)
      clear hb6 hu7 hB6 hB7
      go_wp2_with (first | (with_reducible refine wpList_get (o := ⟨some 79, .load 25 (.tmp 13), _, _, _, _⟩) (by with_unfolding_all rfl) 25 (.tmp 13) (by with_unfolding_all rfl) g 0 (by with_unfolding_all rfl) hB7' X.cells (cs_all _) _ (by exact Tryd.underlying25) (by with_unfolding_all rfl) (by rw [Pat.cells_length]; exact Tryd.szP) ?_) | (with_reducible refine wpList_slicePat (o := ⟨some 80, .buildSlice 82 1 #[(0, .tmp 79)], _, _, _, _⟩) (by with_unfolding_all rfl) (.tmp 79) (by with_unfolding_all rfl) X.cells (by with_unfolding_all rfl) (Pat.cells_length _) ?_))
      intro g80 w8 hg80 hb8 hB80
      have hb8' := below_join hb7 hb8
      have HOW8 := Lib.hid (own_keep HOW.out (fun g hg => hb8'.block g (HOW.out.lt g hg).2))
      have HNW := Lib.hid (blk_add hB80)
      have HBE8 := Lib.hid (below_join HBE.out hb8')
      have hxl : X.cells.length = 1 * 20 := by rw [Pat.cells_length]
      have HXL := Lib.hid hxl
      have hmx : m + 1 ≤ maxLen := by unfold maxLen; omega
      have HMX := Lib.hid hmx
      have hby : (m + 1) * 160 ≤ 140737488355328 := by omega
      have HBY := Lib.hid hby
      have HBC := Lib.hid HBE8.out.size
      clear hxl hmx hby hB80 hg80 hb8 hb7 hB7'
      go_wp2_with (with_reducible refine wpList_appendN w8 (o := ⟨some 81, .call ⟨.builtin .append, #[.tmp 78, .tmp 80], #[82, 82]⟩, _, _, _, _⟩) (by with_unfolding_all rfl) (.tmp 78) (.tmp 80) 82 (by with_unfolding_all rfl) w.heap.size 25 i0 (.agg (H no ++ H no).toArray) 20 160 Tryd.underlying82 HI.out HZ0.out HZ1.out HZ2.out HZS.out (by decide) (.slice A m c) m Y (by with_unfolding_all rfl) HOW8.out ⟨g80, 0, none⟩ 1 1 X.cells (by with_unfolding_all rfl) HXL.out HNW.out (cells_one _) HMX.out HBY.out HBC.out ?_)
      intro v9 w9 hown9 hgr9 hnew9
      obtain ⟨A9, c9, rfl, _⟩ := own_shape hown9
      have hb9 := HBE8.out.grown hgr9 HBC.out (fun g hg => (HOW8.out.lt g hg).1)
      have hDl : (D ++ [X]).length = m + 1 := by rw [List.length_append, List.length_singleton, hm.out]
      have hall : ∃ f, 65536 < f + (j + Z) ∧ (D ++ [X]) ++ rangeGo a wd hi f (j + Z) = rangeL a wd lo hi := by
        obtain ⟨f, hf1, hf2⟩ := HL.out.all
        obtain ⟨f, rfl⟩ : ∃ f', f = f' + 1 := ⟨f - 1, by omega⟩
        refine ⟨f, by omega, ?_⟩
        rw [← hf2]
        show _ = D ++ (if j ≤ hi then Pat.pre a wd j (wd - rfree j hi) :: rangeGo a wd hi f (j + 2 ^ rfree j hi) else [])
        rw [if_pos hjh, hX.out, hZ.out, List.append_assoc]; rfl
      have hI9 : RgI a wd lo hi w (j + Z) (D ++ [X]) A9 c9 w9 := ⟨by rw [hDl, patCells_snoc, hY.out]; exact hown9, hall, by rw [hDl]; have := HL.out.lo; rw [hm.out] at this; omega, hb9⟩
      have HI9 := Lib.hid hI9
      have HDL := Lib.hid hDl
      clear hown9 hgr9 hnew9 hb9 hDl hall hI9 HOW HOW8 HL
      go_wp2
      go_roundw
      case rel => exact ⟨j + Z, D ++ [X], A9, c9, by go_num, by rw [HDL.out], HI9.out⟩
      case measure => simp [intOf]; omega
    · have hji : ¬ ((j : Int) ≤ (hi : Int)) := by omega
      have hDR : Hid (D = R) := by
        have : D = R := by
          obtain ⟨f, hf1, hf2⟩ := HL.out.all
          rw [rangeGo_none a wd hi (by omega), List.append_nil, hR.out] at hf2
          exact hf2
        exact this
      obtain rfl := hDR.out
      have HO := Lib.hid HL.out.own
      have HBE := Lib.hid HL.out.below
      go_wp2
      go_ret2
      exact ⟨A, c, rfl, HO.out, HBE.out⟩
end Go.Proofs.YtkkgfdfjgfigcaaDoor
