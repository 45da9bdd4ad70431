/-
  Contracts of the functions that the statement calls, part 11 of 26 (merged texts: Rl, Rm, Id, Rn, Ro, Rp, Rq, Rs, Rt, Ru, Rv, Rw, Sk). Conditions: as the head of each part says.
-/
import Derived.Test.YtbldnhpbmfmepaaDoorGJ
import Derived.Great.BuildSlice
import Derived.Test.YtbldnhpbmfmepaaDoorGG

/-
  Contract of the walk over the program's Compare. Conditions: none.
-/
namespace Go.Proofs.YtbldnhpbmfmepaaDoor
set_option linter.unusedVariables false
set_option linter.unusedSimpArgs false
open Go.RowKit

theorem run_two (w : World) (i j : Int) : (Instr.buildSlice 77 2 #[(0, .int .i64 i), (1, .int .i64 j)]).run Tryd.prog w = .ok (.slice (some ⟨w.heap.size, 0, none⟩) 2 2) (w.alloc (.cells #[.int .i64 i, .int .i64 j] 3)) := by
  have hi := Tryd.infoI
  cases hq : Tryd.prog.info? 3 with
  | none => simp [hq] at hi
  | some ie =>
    simp [hq] at hi
    refine run_buildSlice w _ 3 2 _ _ ie (.int .i64 0) (by exact Tryd.underlying77) hq hi.1 (by rw [hi.2.1]; decide) (by rw [hi.2.1]; decide) (by rw [hi.2.1]; kernel_rfl)
theorem wp_two {o : Oper} {a : Act} {W : World} {K : Act → World → Prop} {Q : Exit → Act → World → Prop} (x y : Operand) (ho : o.op = .buildSlice 77 2 #[(0, x), (1, y)])
    (i j : Int) (hx : a.eval x = .int .i64 i) (hy : a.eval y = .int .i64 j)
    (h : ∀ g w', Hid (g = W.heap.size) → Below W.heap.size W w' → Blk w' g 3 [.int .i64 i, .int .i64 j] → K (a.put o.dst (.slice (some ⟨g, 0, none⟩) 2 2)) w') : Oper.wp Tryd.prog o a W K Q := by
  have hrun := run_two W i j
  unfold Oper.wp execOp
  simp only [ho, List.map_toArray, List.map_cons, List.map_nil, hx, hy, Sem.run_bind, Sem.run_pure, Result.andThen_ok, hrun]
  exact h _ _ rfl (below_new W _) (blk_new W _ _)
set_option maxRecDepth 100000 in
set_option maxHeartbeats 3200000 in
theorem compare_any (p q : Pat) (w : World) :
    Calls Tryd.prog 25 #[.agg p.cells.toArray, .agg q.cells.toArray] w fun e w' => e = .returned (.int .i64 (p.cmp q)) ∧ Below w.heap.size w w' := by
  obtain ⟨C, hC⟩ : ∃ C, Hid (p.cmp q = C) := ⟨_, rfl⟩
  rw [hC.out]
  obtain ⟨A, hA⟩ : ∃ A, Hid (cmpH p.m q.m = A) := ⟨_, rfl⟩
  obtain ⟨B, hB⟩ : ∃ B, Hid (cmpH p.b q.b = B) := ⟨_, rfl⟩
  have hCv : Hid (orI A B = C) := by
    have : orI A B = C := by rw [← hA.out, ← hB.out, ← hC.out]; rfl
    exact this
  clear hC
  go_enter Tryd.func25, Tryd.ntmps25
  go_wp2_with (with_reducible refine wpList_box (o := ⟨some 2, .box 25 (.tmp 0), _, _, _, _⟩) ?g1 25 (.tmp 0) ?o1 (.agg p.cells.toArray) p.cells ?x1 ?c1 ?_)
  try (case g1 => rfl)
  try (case o1 => rfl)
  try (case x1 => rfl)
  try (case c1 => rfl)
  intro gp w1 hgp hs1 hb1 hP1
  go_wp2_with (with_reducible refine wpList_box (o := ⟨some 3, .box 25 (.tmp 1), _, _, _, _⟩) ?g2 25 (.tmp 1) ?o2 (.agg q.cells.toArray) q.cells ?x2 ?c2 ?_)
  try (case g2 => rfl)
  try (case o2 => rfl)
  try (case x2 => rfl)
  try (case c2 => rfl)
  intro gq w2 hgq hs2 hb2 hQ2
  have hle : w.heap.size ≤ gp := Nat.le_of_eq hgp.out.symm
  have hab : gp < gq := by have := hgp.out; have := hs1.out; have := hgq.out; omega
  have hP2 := hP1.next hb2 hab
  have hbel := (hb1.mono hle).trans (hb2.mono (by omega : w.heap.size ≤ gq))
  clear hgp hs1 hb1 hP1 hgq hs2 hb2
  go_wp2
  have hrg : ∀ w', Below w2.heap.size w2 w' → Below w2.heap.size w2 w' ∧ w'.rangeAt gp 0 (H p.m) ∧ w'.rangeAt gp 10 (H p.b) ∧ w'.rangeAt gq 0 (H q.m) ∧ w'.rangeAt gq 10 (H q.b) := fun w' h => ⟨h, at_m (hP2.next h hP2.lt), at_b (hP2.next h hP2.lt), at_m (hQ2.next h hQ2.lt), at_b (hQ2.next h hQ2.lt)⟩
  have hun := Tryd.underlying23
  have hz1 : (Tryd.prog.info? 23).map (·.size) = some (H p.m).length := by rw [H_length]; exact Tryd.szH
  have hz2 : (Tryd.prog.info? 23).map (·.size) = some (H p.b).length := by rw [H_length]; exact Tryd.szH
  have hz3 : (Tryd.prog.info? 23).map (·.size) = some (H q.m).length := by rw [H_length]; exact Tryd.szH
  have hz4 : (Tryd.prog.info? 23).map (·.size) = some (H q.b).length := by rw [H_length]; exact Tryd.szH
  have HRG := Lib.hid hrg
  clear hrg
  have hdd := below_drew w2
  refine wp_region_held_drew (S := fun w' => Below w2.heap.size w2 w' ∧ w'.rangeAt gp 0 (H p.m) ∧ w'.rangeAt gp 10 (H p.b) ∧ w'.rangeAt gq 0 (H q.m) ∧ w'.rangeAt gq 10 (H q.b)) (by kernel_rfl) (HRG.out _ hdd) (fun hHeld => ?_)
  generalize w2.drew = wd at hdd hHeld ⊢
  refine wpAnyH_take (i := 0) (v := ?vv0) rfl (by kernel_rfl) (by kernel_rfl) (by kernel_rfl) (fun _ _ _ h => h) (Or.inl ⟨by rfl, ?yv0⟩) (by assumption) ?rv0
  case yv0 => intro w hSw; (try dsimp only at hSw); go_simp <;> (try with_reducible rfl)
  (try simp only [List.getElem_toArray, List.getElem_cons_zero, Act.put, List.setIfInBounds_toArray, List.set_cons_zero, List.set_cons_succ])
  refine' wpAnyH_take (i := 1) (v := _) rfl (by kernel_rfl) (by kernel_rfl) (by kernel_rfl) (fun _ _ _ h => h) (yieldsIf_load_mid (by rfl) _ _ (by rfl) _ _ (by rfl) _ _ ?Sv1 ?uv1 ?dv1 ?iv1) (by assumption) ?rv1
  case Sv1 => exact (by intro w h; exact h.2.1)
  case uv1 => exact hun
  case dv1 => rfl
  case iv1 => exact hz1
  (try simp only [List.getElem_toArray, List.getElem_cons_succ, List.getElem_cons_zero, Act.put, List.setIfInBounds_toArray, List.set_cons_zero, List.set_cons_succ])
  refine wpAnyH_take (i := 2) (v := ?vv2) rfl (by kernel_rfl) (by kernel_rfl) (by kernel_rfl) (fun _ _ _ h => h) (Or.inl ⟨by rfl, ?yv2⟩) (by assumption) ?rv2
  case yv2 => intro w hSw; (try dsimp only at hSw); go_simp <;> (try with_reducible rfl)
  (try simp only [List.getElem_toArray, List.getElem_cons_succ, List.getElem_cons_zero, Act.put, List.setIfInBounds_toArray, List.set_cons_zero, List.set_cons_succ])
  refine' wpAnyH_take (i := 3) (v := _) rfl (by kernel_rfl) (by kernel_rfl) (by kernel_rfl) (fun _ _ _ h => h) (yieldsIf_load_mid (by rfl) _ _ (by rfl) _ _ (by rfl) _ _ ?Sv3 ?uv3 ?dv3 ?iv3) (by assumption) ?rv3
  case Sv3 => exact (by intro w h; exact h.2.2.2.1)
  case uv3 => exact hun
  case dv3 => rfl
  case iv3 => exact hz3
  (try simp only [List.getElem_toArray, List.getElem_cons_succ, List.getElem_cons_zero, Act.put, List.setIfInBounds_toArray, List.set_cons_zero, List.set_cons_succ])
  refine wpAnyH_take (i := 5) (v := ?vv5) rfl (by kernel_rfl) (by kernel_rfl) (by kernel_rfl) (fun _ _ _ h => h) (Or.inl ⟨by rfl, ?yv5⟩) (by assumption) ?rv5
  case yv5 => intro w hSw; (try dsimp only at hSw); go_simp <;> (try with_reducible rfl)
  (try simp only [List.getElem_toArray, List.getElem_cons_succ, List.getElem_cons_zero, Act.put, List.setIfInBounds_toArray, List.set_cons_zero, List.set_cons_succ])
  refine' wpAnyH_take (i := 6) (v := _) rfl (by kernel_rfl) (by kernel_rfl) (by kernel_rfl) (fun _ _ _ h => h) (yieldsIf_load_mid (by rfl) _ _ (by rfl) _ _ (by rfl) _ _ ?Sv6 ?uv6 ?dv6 ?iv6) (by assumption) ?rv6
  case Sv6 => exact (by intro w h; exact h.2.2.1)
  case uv6 => exact hun
  case dv6 => rfl
  case iv6 => exact hz2
  (try simp only [List.getElem_toArray, List.getElem_cons_succ, List.getElem_cons_zero, Act.put, List.setIfInBounds_toArray, List.set_cons_zero, List.set_cons_succ])
  refine wpAnyH_take (i := 7) (v := ?vv7) rfl (by kernel_rfl) (by kernel_rfl) (by kernel_rfl) (fun _ _ _ h => h) (Or.inl ⟨by rfl, ?yv7⟩) (by assumption) ?rv7
  case yv7 => intro w hSw; (try dsimp only at hSw); go_simp <;> (try with_reducible rfl)
  (try simp only [List.getElem_toArray, List.getElem_cons_succ, List.getElem_cons_zero, Act.put, List.setIfInBounds_toArray, List.set_cons_zero, List.set_cons_succ])
  refine' wpAnyH_take (i := 8) (v := _) rfl (by kernel_rfl) (by kernel_rfl) (by kernel_rfl) (fun _ _ _ h => h) (yieldsIf_load_mid (by rfl) _ _ (by rfl) _ _ (by rfl) _ _ ?Sv8 ?uv8 ?dv8 ?iv8) (by assumption) ?rv8
  case Sv8 => exact (by intro w h; exact h.2.2.2.2)
  case uv8 => exact hun
  case dv8 => rfl
  case iv8 => exact hz4
  (try simp only [List.getElem_toArray, List.getElem_cons_succ, List.getElem_cons_zero, Act.put, List.setIfInBounds_toArray, List.set_cons_zero, List.set_cons_succ])
  refine wpAnyH_ready (rs := [4]) (by kernel_rfl) (by simp) ?_
  refine AllReadyH.cons rfl (fun K hK => ?_) AllReadyH.nil
  go_simp
  go_wp2_with fail
  (with_reducible refine (compareHeads_any p.m q.m _).mono ?_)
  rintro e wA ⟨rfl, hbA⟩
  rw [hA.out]
  have hkA := below_join hdd hbA
  refine hK.out _ _ (HRG.out _ hkA) (fun hHeld => ?_)
  clear hK K hdd hbA
  refine wpAnyH_ready (rs := [9]) (by kernel_rfl) (by simp) ?_
  refine AllReadyH.cons rfl (fun K hK => ?_) AllReadyH.nil
  go_simp
  go_wp2_with fail
  (with_reducible refine (compareHeads_any p.b q.b _).mono ?_)
  rintro e wB ⟨rfl, hbB⟩
  rw [hB.out]
  have hkB := below_join hkA hbB
  refine hK.out _ _ (HRG.out _ hkB) (fun hHeld => ?_)
  clear hK K hkA hbB
  refine wpAnyH_ready (rs := [10]) (by kernel_rfl) (by simp) ?_
  refine AllReadyH.cons rfl (fun K hK => ?_) AllReadyH.nil
  rw [if_pos (by rfl)]
  refine wp_two (.tmp 9) (.tmp 14) rfl A B rfl rfl ?_
  intro gs wC hgs hbC hSC
  have hkC := below_join hkB hbC
  refine hK.out _ _ (HRG.out _ hkC) (fun hHeld => ?_)
  clear hK K hkB hbC
  refine wpAnyH_ready (rs := [11]) (by kernel_rfl) (by simp) ?_
  refine AllReadyH.cons rfl (fun K hK => ?_) AllReadyH.nil
  go_simp
  go_wp2_with fail
  (with_reducible refine (or2_any A B gs _ (blk_range hSC)).mono ?_)
  rintro e wD ⟨rfl, rfl⟩
  rw [hCv.out]
  refine hK.out _ _ (HRG.out _ hkC) (fun hHeld => ?_)
  clear hK K
  refine wpAnyH_take (i := 12) (v := ?vv12) rfl (by kernel_rfl) (by kernel_rfl) (by kernel_rfl) (fun _ _ _ h => h) (Or.inl ⟨by rfl, ?yv12⟩) (by assumption) ?rv12
  case yv12 => intro w hSw; (try dsimp only at hSw); go_simp <;> (try with_reducible rfl)
  (try simp only [List.getElem_toArray, List.getElem_cons_succ, List.getElem_cons_zero, Act.put, List.setIfInBounds_toArray, List.set_cons_zero, List.set_cons_succ])
  refine wpAnyH_done (by kernel_rfl) ?_ _
  have hfin := hbel.trans (hkC.mono hbel.size)
  go_wp2
  go_ret
  exact ⟨rfl, hfin⟩
end Go.Proofs.YtbldnhpbmfmepaaDoor

/-
  Contract of the walk over the reference's Exact. Conditions: none.
-/
namespace Go.Proofs.YtbldnhpbmfmepaaDoor
set_option linter.unusedVariables false
set_option linter.unusedSimpArgs false
open Go.RowKit

theorem run_buildB (w : World) (b : List Value) (hb : b.length = 10) : (Instr.build 25 #[(1, .agg b.toArray)]).run Tryd.prog w = .ok (.agg (H no ++ b).toArray) w := by
  obtain ⟨b0, b1, b2, b3, b4, b5, b6, b7, b8, b9, rfl⟩ := list10 hb
  kernel_rfl
theorem cells_set {f b : Nat → Bool} {k : Nat} (v : Value) (hk : k < 10) : ((⟨f, b⟩ : Pat).cells).set k v = (H f).set k v ++ H b := by
  unfold Pat.cells
  rw [List.set_append_left _ _ (by rw [H_length]; exact hk)]
def RExactRel (h : Nat → Bool) (gp gr : Nat) (w : World) (i : Value) (wr : World) : Prop :=
  ∃ k : Nat, k ≤ 10 ∧ i = .int .i64 k ∧ Blk wr gp 25 (⟨upto no yes k, h⟩ : Pat).cells ∧ Blk wr gr 25 Pat.zero.cells ∧ Below w.heap.size w wr
set_option maxRecDepth 100000 in
set_option maxHeartbeats 1600000 in
theorem rexact_any (h : Nat → Bool) (w : World) :
    Calls Tryd.prog 28 #[.agg (H h).toArray] w fun e w' => e = .returned (.agg (Pat.exact h).cells.toArray) ∧ Below w.heap.size w w' := by
  have HY : ∀ k, Hid (word yes k = 65535) := fun k => word_yes k
  obtain ⟨X, hX⟩ : ∃ X, Hid (Pat.exact h = X) := ⟨_, rfl⟩
  have HX : Hid ((⟨upto no yes 10, h⟩ : Pat).cells = X.cells) := by
    have : (⟨upto no yes 10, h⟩ : Pat).cells = X.cells := by
      rw [← hX.out]
      show H (upto no yes 10) ++ H h = H yes ++ H h
      rw [upto_all]
    exact this
  rw [hX.out]
  clear hX
  have hbd : ∀ w, (Instr.build 25 #[(1, .agg (H h).toArray)]).run Tryd.prog w = .ok (.agg (⟨no, h⟩ : Pat).cells.toArray) w := fun w => run_buildB w _ (H_length _)
  go_enter Tryd.func28, Tryd.ntmps28
  go_wp2_with (with_reducible refine wpList_box (o := ⟨some 1, .box 23 (.tmp 0), _, _, _, _⟩) ?g1 23 (.tmp 0) ?o1 (.agg (H h).toArray) (H h) ?x1 ?c1 ?_)
  try (case g1 => rfl)
  try (case o1 => rfl)
  try (case x1 => rfl)
  try (case c1 => rfl)
  intro gh w1 hgh hs1 hb1 hH1
  go_wp2_with (with_reducible refine wpList_alloc (o := ⟨some 2, .alloc 25, _, _, _, _⟩) (by with_unfolding_all rfl) 25 (by with_unfolding_all rfl) (.agg (H no ++ H no).toArray) (H no ++ H no) (by exact Tryd.zeroPt) (by with_unfolding_all rfl) ?_)
  intro gr w2 hgr hs2 hb2 hR2
  rw [cells_zero] at hR2
  have hle : w.heap.size ≤ gh := Nat.le_of_eq hgh.out.symm
  have hab : gh < gr := by have := hgh.out; have := hs1.out; have := hgr.out; omega
  have hH2 := hH1.next hb2 hab
  have hbel := (hb1.mono hle).trans (hb2.mono (by omega : w.heap.size ≤ gr))
  clear hgh hs1 hb1 hH1 hgr hs2 hb2
  go_wp2_with (first | (with_reducible refine wpList_get (o := ⟨some 5, .load 23 (.tmp 1), _, _, _, _⟩) (by with_unfolding_all rfl) 23 (.tmp 1) (by with_unfolding_all rfl) gh 0 (by with_unfolding_all rfl) hH2 (H h) (cs_all _) _ (by exact Tryd.underlying23) (by with_unfolding_all rfl) (by rw [H_length]; exact Tryd.szH) ?_) | (with_reducible refine wpList_build (o := ⟨some 6, .build 25 #[(1, .tmp 5)], _, _, _, _⟩) (by with_unfolding_all rfl) 25 #[(1, .tmp 5)] (by with_unfolding_all rfl) #[(1, .agg (H h).toArray)] (by with_unfolding_all rfl) (.agg (⟨no, h⟩ : Pat).cells.toArray) hbd ?_) | (with_reducible refine wpList_alloc (o := ⟨some 3, .alloc 25, _, _, _, _⟩) (by with_unfolding_all rfl) 25 (by with_unfolding_all rfl) (.agg (H no ++ H no).toArray) (H no ++ H no) (by exact Tryd.zeroPt) (by with_unfolding_all rfl) ?_))
  intro gp w3 hgp hs3 hb3 hP3
  rw [cells_zero] at hP3
  have hrp : gr < gp := by have := hR2.lt; have := hgp.out; omega
  have hR3 := hR2.next hb3 hrp
  have hlep : w.heap.size ≤ gp := by omega
  have hbel3 := hbel.trans (hb3.mono hlep)
  clear hgp hs3 hb3 hR2 hbel hH2
  go_wp2_with (with_reducible refine wpList_put (o := ⟨none, .store 25 (.tmp 3) (.tmp 6), _, _, _, _⟩) (by with_unfolding_all rfl) 25 (.tmp 3) (.tmp 6) (by with_unfolding_all rfl) gp 0 (by with_unfolding_all rfl) (.agg (⟨no, h⟩ : Pat).cells.toArray) (by with_unfolding_all rfl) hP3 (⟨no, h⟩ : Pat).cells (by with_unfolding_all rfl) (by with_unfolding_all (rw [Pat.cells_length]; exact Tryd.szP)) (by with_unfolding_all (rw [Pat.cells_length, Pat.cells_length]; omega)) (by with_unfolding_all (exact cells_one _)) ?_)
  intro w4 hu4 hP4
  rw [splice_all _ _ (by rw [Pat.cells_length, Pat.cells_length])] at hP4
  have hR4 := hR3.upd hu4 (by omega)
  have hbel4 := hbel3.trans (hu4.below (B := w.heap.size) hlep)
  clear hP3 hR3 hbel3 hu4
  go_wp2
  go_loopw [4] (RExactRel h gp gr w) (fun i _ => 10 - (intOf i).toNat)
  case atStart => exact ⟨0, by omega, rfl, by rw [upto_zero]; exact hP4, hR4, hbel4⟩
  case round =>
    clear hP4 hR4 hbel4
    obtain ⟨k, hk, rfl, hP, hR, hbel⟩ := hrel
    by_cases hlt : k < 10
    · go_wp2_with (with_reducible refine wpList_put (o := ⟨none, .store 3 (.tmp 13) (.const (.int .i64 65535)), _, _, _, _⟩) (by with_unfolding_all rfl) 3 (.tmp 13) (.const (.int .i64 65535)) (by with_unfolding_all rfl) gp k (by with_unfolding_all rfl) (.int .i64 65535) (by with_unfolding_all rfl) hP [.int .i64 65535] (by with_unfolding_all rfl) (by with_unfolding_all (exact Tryd.szI)) (by with_unfolding_all (rw [Pat.cells_length]; show k + 1 ≤ 20; omega)) (by with_unfolding_all (exact one_cell1 rfl)) ?_)
      intro w5 hu5 hP5
      have e4 := upto_set no yes hlt
      rw [(HY k).out] at e4
      have e5 : ((65535 : Nat) : Int) = 65535 := rfl
      rw [e5] at e4
      rw [splice_set _ _ _ (by rw [Pat.cells_length]; omega), cells_set _ hlt, e4] at hP5
      have hP6 : Blk w5 gp 25 (⟨upto no yes (k + 1), h⟩ : Pat).cells := hP5
      have hR5 := hR.upd hu5 (by omega)
      have hbel5 := hbel.trans (hu5.below (B := w.heap.size) hlep)
      clear hP hR hbel hu5 e4 e5 hP5
      go_wp2
      go_roundw
      case rel => exact ⟨k + 1, by omega, by go_num, hP6, hR5, hbel5⟩
      case measure => simp [intOf]; omega
    · obtain rfl : k = 10 := by omega
      have hPx : Blk wr gp 25 X.cells := by rw [← HX.out]; exact hP
      clear hP hk HX
      go_wp2_with (first | (with_reducible refine wpList_get (o := ⟨some 14, .load 25 (.tmp 3), _, _, _, _⟩) (by with_unfolding_all rfl) 25 (.tmp 3) (by with_unfolding_all rfl) gp 0 (by with_unfolding_all rfl) hPx X.cells (cs_all _) _ (by exact Tryd.underlying25) (by with_unfolding_all rfl) (by rw [Pat.cells_length]; exact Tryd.szP) ?_) | (with_reducible refine wpList_put (o := ⟨none, .store 25 (.tmp 2) (.tmp 14), _, _, _, _⟩) (by with_unfolding_all rfl) 25 (.tmp 2) (.tmp 14) (by with_unfolding_all rfl) gr 0 (by with_unfolding_all rfl) (.agg X.cells.toArray) (by with_unfolding_all rfl) hR X.cells (by with_unfolding_all rfl) (by with_unfolding_all (rw [Pat.cells_length]; exact Tryd.szP)) (by with_unfolding_all (rw [Pat.cells_length, Pat.cells_length]; omega)) (by with_unfolding_all (exact cells_one _)) ?_))
      intro w5 hu5 hR5
      rw [splice_all _ _ (by rw [Pat.cells_length, Pat.cells_length])] at hR5
      have hb5 := hbel.trans (hu5.below (B := w.heap.size) (by omega))
      go_wp2
      refine bodyPost_ret (results_cell_row rfl _ _ gr _ _ _ _ rfl hR5 Tryd.underlying25 rfl (by rw [List.size_toArray, Pat.cells_length]; exact Tryd.szP)) rfl ⟨rfl, hb5⟩
end Go.Proofs.YtbldnhpbmfmepaaDoor

/-
  The difference of two patterns in plain words: its pieces, and how many of them a head lies in. Conditions: right patterns that overlap.
-/
namespace Go.Proofs.YtbldnhpbmfmepaaDoor
set_option linter.unusedVariables false
set_option linter.unusedSimpArgs false
open Go.RowKit

namespace Pat
/-- The bits that only q fixes. -/
def only (p q : Pat) : Nat → Bool := fun i => q.m i && !p.m i
/-- p with those bits of q below k. -/
def rest (p q : Pat) (k : Nat) : Pat := ⟨fun i => p.m i || (decide (i < k) && q.m i), fun i => if i < k ∧ p.only q i = true then q.b i else p.b i⟩
/-- The piece at bit s. -/
def piece (p q : Pat) (s : Nat) : Pat := ⟨upd (p.rest q s).m s true, upd (p.rest q s).b s (!q.b s)⟩
def pieces (p q : Pat) : List Pat := (onesTo (p.only q) 160).map (p.piece q)
def minus (p q : Pat) : List Pat := if p.over q then p.pieces q else [p]
theorem rest_zero (p q : Pat) : (p.rest q 0).cells = p.cells := cells_congr ⟨fun i _ => by simp [rest], fun i _ => by simp [rest]⟩
theorem rest_m (p q : Pat) (k : Nat) : (p.rest q k).m k = p.m k := by simp [rest]
theorem rest_b (p q : Pat) (k : Nat) : (p.rest q k).b k = p.b k := by simp [rest]
theorem rest_skip {p q : Pat} {k : Nat} (h : p.only q k = false) : (p.rest q k).cells = (p.rest q (k + 1)).cells := by
  refine cells_congr ⟨fun i _ => ?_, fun i _ => ?_⟩
  · unfold rest
    by_cases e : i = k
    · subst e
      have h2 : q.m i = true → p.m i = true := by
        unfold only at h
        revert h
        cases p.m i <;> cases q.m i <;> decide
      simpa using h2
    · simp [show (i < k + 1) = (i < k) by simp; omega]
  · unfold rest
    by_cases e : i = k
    · subst e; simp [h]
    · simp [show (i < k + 1) = (i < k) by simp; omega]
theorem rest_next {p q : Pat} {k : Nat} (h : p.only q k = true) : (⟨upd (p.rest q k).m k true, upd (p.rest q k).b k (q.b k)⟩ : Pat).cells = (p.rest q (k + 1)).cells := by
  have hq : q.m k = true := by
    unfold only at h
    rw [Bool.and_eq_true] at h
    exact h.1
  refine cells_congr ⟨fun i _ => ?_, fun i _ => ?_⟩
  · unfold rest upd
    by_cases e : i = k
    · subst e; simp [hq]
    · simp [e, show (i < k + 1) = (i < k) by simp; omega]
  · unfold rest upd
    by_cases e : i = k
    · subst e; simp [h]
    · simp [e, show (i < k + 1) = (i < k) by simp; omega]
theorem piece_ok {p q : Pat} (hp : p.ok) (hq : q.ok) {s : Nat} : (p.piece q s).ok := by
  intro i hi
  have h1 := hp i hi
  have h2 := hq i hi
  unfold piece upd rest only
  by_cases e : i = s
  · simp [e]
  · simp only [if_neg e]
    by_cases hs : i < s
    · simp only [hs, true_and, decide_true, Bool.true_and]
      revert h1 h2
      cases p.m i <;> cases q.m i <;> cases p.b i <;> cases q.b i <;> decide
    · simp only [hs, false_and, if_false, decide_false, Bool.false_and, Bool.or_false]
      exact h1
/-- A head lies in the piece at bit s: it lies in p, agrees with q on the bits before, and not on this one. -/
theorem piece_hit {p q : Pat} {s : Nat} (hs : s < 160) (ho : p.only q s = true) (h : Nat → Bool) : (p.piece q s).hit h ↔ p.hit h ∧ (∀ i, i < s → p.only q i = true → q.b i = h i) ∧ q.b s ≠ h s := by
  have hps : p.m s = false := by
    unfold only at ho
    revert ho
    cases p.m s <;> simp
  have e1 : ∀ i, i ≠ s → (p.piece q s).m i = (p.m i || (decide (i < s) && q.m i)) := fun i hi => by
    show upd (p.rest q s).m s true i = _
    unfold upd; rw [if_neg hi]; rfl
  have e2 : ∀ i, i ≠ s → (p.piece q s).b i = if i < s ∧ p.only q i = true then q.b i else p.b i := fun i hi => by
    show upd (p.rest q s).b s (!q.b s) i = _
    unfold upd; rw [if_neg hi]; rfl
  have e3 : (p.piece q s).m s = true := by
    show upd (p.rest q s).m s true s = _
    unfold upd; rw [if_pos rfl]
  have e4 : (p.piece q s).b s = !q.b s := by
    show upd (p.rest q s).b s (!q.b s) s = _
    unfold upd; rw [if_pos rfl]
  constructor
  · intro hh
    refine ⟨fun i hi hm => ?_, fun i hi hoi => ?_, ?_⟩
    · have hne : i ≠ s := fun e => by rw [e, hps] at hm; cases hm
      have h1 := hh i hi (by rw [e1 i hne, hm]; rfl)
      rw [e2 i hne] at h1
      have hno : ¬ (i < s ∧ p.only q i = true) := fun hc => by
        have := hc.2
        unfold only at this
        rw [hm] at this
        simp at this
      rw [if_neg hno] at h1
      exact h1
    · have hq : q.m i = true := by
        unfold only at hoi
        rw [Bool.and_eq_true] at hoi
        exact hoi.1
      have h1 := hh i (by omega) (by rw [e1 i (by omega), hq, decide_eq_true hi]; simp)
      rw [e2 i (by omega), if_pos ⟨hi, hoi⟩] at h1
      exact h1
    · have h1 := hh s hs e3
      rw [e4] at h1
      intro hc
      rw [hc] at h1
      cases h s <;> simp_all
  · rintro ⟨h1, h2, h3⟩ i hi hm
    by_cases e : i = s
    · rw [e, e4]
      revert h3
      cases q.b s <;> cases h s <;> simp
    · rw [e1 i e] at hm
      rw [e2 i e]
      by_cases hc : i < s ∧ p.only q i = true
      · rw [if_pos hc]; exact h2 i hc.1 hc.2
      · rw [if_neg hc]
        refine h1 i hi ?_
        cases hpm : p.m i
        · rw [hpm, Bool.false_or, Bool.and_eq_true, decide_eq_true_eq] at hm
          exact absurd ⟨hm.1, by unfold only; rw [hm.2, hpm]; rfl⟩ hc
        · rfl
/-- How many pieces below k a head lies in. -/
theorem count_pieces {p q : Pat} (h : Nat → Bool) : ∀ k, k ≤ 160 → ((onesTo (p.only q) k).countP fun s => decide ((p.piece q s).hit h)) = if p.hit h ∧ ∃ s, s < k ∧ p.only q s = true ∧ q.b s ≠ h s then 1 else 0
  | 0, _ => by
    rw [if_neg fun hc => by obtain ⟨_, s, hs, _⟩ := hc; omega]
    rfl
  | k + 1, hk => by
    rw [onesTo_succ, List.countP_append, count_pieces h k (by omega)]
    by_cases ho : p.only q k = true
    · rw [if_pos ho]
      by_cases hb : ∃ s, s < k ∧ p.only q s = true ∧ q.b s ≠ h s
      · have hn : ¬ (p.piece q k).hit h := fun hc => by
          obtain ⟨s, h1, h2, h3⟩ := hb
          exact h3 (((piece_hit (by omega) ho h).1 hc).2.1 s h1 h2)
        rw [List.countP_cons_of_neg (by simpa using hn)]
        have e : (p.hit h ∧ ∃ s, s < k ∧ p.only q s = true ∧ q.b s ≠ h s) ↔ (p.hit h ∧ ∃ s, s < k + 1 ∧ p.only q s = true ∧ q.b s ≠ h s) := by
          obtain ⟨s, h1, h2⟩ := hb
          exact ⟨fun hh => ⟨hh.1, s, by omega, h2⟩, fun hh => ⟨hh.1, s, h1, h2⟩⟩
        rw [List.countP_nil, Nat.add_zero]
        by_cases hc : p.hit h ∧ ∃ s, s < k + 1 ∧ p.only q s = true ∧ q.b s ≠ h s
        · rw [if_pos (e.2 hc), if_pos hc]
        · rw [if_neg fun x => hc (e.1 x), if_neg hc]
      · rw [if_neg fun hc => hb hc.2]
        have hag : ∀ i, i < k → p.only q i = true → q.b i = h i := fun i hi hoi => Classical.byContradiction fun hc => hb ⟨i, hi, hoi, hc⟩
        by_cases hx : p.hit h ∧ q.b k ≠ h k
        · rw [List.countP_cons_of_pos (by simpa using (piece_hit (by omega) ho h).2 ⟨hx.1, hag, hx.2⟩), if_pos ⟨hx.1, k, by omega, ho, hx.2⟩, List.countP_nil]
        · rw [List.countP_cons_of_neg (by simpa using fun hc => hx ⟨((piece_hit (by omega) ho h).1 hc).1, ((piece_hit (by omega) ho h).1 hc).2.2⟩), if_neg]
          · rfl
          · rintro ⟨h1, s, h2, h3, h4⟩
            by_cases e : s = k
            · rw [e] at h4; exact hx ⟨h1, h4⟩
            · exact hb ⟨s, by omega, h3, h4⟩
    · rw [if_neg ho]
      have e : (p.hit h ∧ ∃ s, s < k ∧ p.only q s = true ∧ q.b s ≠ h s) ↔ (p.hit h ∧ ∃ s, s < k + 1 ∧ p.only q s = true ∧ q.b s ≠ h s) := by
        constructor
        · rintro ⟨h1, s, h2, h3⟩; exact ⟨h1, s, by omega, h3⟩
        · rintro ⟨h1, s, h2, h3⟩
          by_cases e : s = k
          · rw [e] at h3; exact absurd h3.1 ho
          · exact ⟨h1, s, by omega, h3⟩
      rw [List.countP_nil, Nat.add_zero]
      by_cases hc : p.hit h ∧ ∃ s, s < k + 1 ∧ p.only q s = true ∧ q.b s ≠ h s
      · rw [if_pos (e.2 hc), if_pos hc]
      · rw [if_neg fun x => hc (e.1 x), if_neg hc]
/-- The difference matches a head once if p does and q does not, else not at all. -/
theorem count_minus {p q : Pat} (h : Nat → Bool) : ((p.minus q).countP fun x => decide (x.hit h)) = if p.hit h ∧ ¬ q.hit h then 1 else 0 := by
  unfold minus
  by_cases ho : p.over q
  · rw [if_pos ho]
    unfold pieces
    rw [List.countP_map]
    have e := count_pieces (p := p) (q := q) h 160 (Nat.le_refl _)
    have e2 : (p.hit h ∧ ∃ s, s < 160 ∧ p.only q s = true ∧ q.b s ≠ h s) ↔ (p.hit h ∧ ¬ q.hit h) := by
      constructor
      · rintro ⟨h1, s, h2, h3, h4⟩
        refine ⟨h1, fun hc => h4 (hc s h2 ?_)⟩
        unfold only at h3
        rw [Bool.and_eq_true] at h3
        exact h3.1
      · rintro ⟨h1, h2⟩
        refine ⟨h1, Classical.byContradiction fun hc => h2 fun i hi hm => Classical.byContradiction fun hne => ?_⟩
        cases hpm : p.m i
        · exact hc ⟨i, hi, by unfold only; rw [hm, hpm]; rfl, hne⟩
        · have h3 := over_iff.1 ho i hi hm hpm
          exact hne (h3 ▸ h1 i hi hpm)
    simp only [Function.comp_def]
    rewrite [e]
    by_cases hc : p.hit h ∧ ¬ q.hit h
    · rw [if_pos (e2.2 hc), if_pos hc]
    · rw [if_neg fun x => hc (e2.1 x), if_neg hc]
  · rw [if_neg ho]
    by_cases hh : p.hit h
    · have hq : ¬ q.hit h := fun hc => ho (over_iff.2 fun i hi h1 h2 => (hh i hi h2).trans (hc i hi h1).symm)
      rw [List.countP_cons_of_pos (by simpa using hh), if_pos ⟨hh, hq⟩]
      rfl
    · rw [List.countP_cons_of_neg (by simpa using hh), if_neg fun hc => hh hc.1]
      rfl
end Pat
end Go.Proofs.YtbldnhpbmfmepaaDoor

/-
  Contracts of the walks over the reference's power and prefix. Conditions: small numbers.
-/
namespace Go.Proofs.YtbldnhpbmfmepaaDoor
set_option linter.unusedVariables false
set_option linter.unusedSimpArgs false
open Go.RowKit

def PowRel (n : Nat) (v i : Value) : Prop := ∃ k : Nat, k ≤ n ∧ i = .int .i64 k ∧ v = .int .i64 ((2 ^ k : Nat) : Int)
set_option maxRecDepth 100000 in
set_option maxHeartbeats 1600000 in
theorem rpower_any (n : Nat) (w : World) (hn : n ≤ 16) :
    Calls Tryd.prog 97 #[.int .i64 (n : Int)] w fun e w' => e = .returned (.int .i64 ((2 ^ n : Nat) : Int)) ∧ w = w' := by
  obtain ⟨V, hV⟩ : ∃ V : Nat, Hid (2 ^ n = V) := ⟨_, rfl⟩
  rw [hV.out]
  go_enter Tryd.func97, Tryd.ntmps97
  go_wp2
  go_loop [3, 4] (PowRel n) (fun _ i => n - (intOf i).toNat)
  case atStart => exact ⟨0, by omega, rfl, rfl⟩
  case round =>
    obtain ⟨k, hk, rfl, rfl⟩ := hrel
    by_cases hlt : k < n
    · have hki : (k : Int) < (n : Int) := by omega
      obtain ⟨x, hx⟩ : ∃ x : Nat, 2 ^ k = x := ⟨_, rfl⟩
      have hx6 : x ≤ 65536 := by rw [← hx]; exact Nat.pow_le_pow_right (by decide) (by omega : k ≤ 16)
      have hy : Hid (((2 ^ (k + 1) : Nat) : Int) = 2 * (x : Int)) := by
        have : ((2 ^ (k + 1) : Nat) : Int) = 2 * (x : Int) := by rw [← hx, Nat.pow_succ]; omega
        exact this
      rw [hx]
      clear hx
      go_wp2
      go_round
      case rel => exact ⟨k + 1, by omega, by go_num, by rw [hy.out]⟩
      case measure => simp [intOf]; omega
    · obtain rfl : k = n := by omega
      rw [hV.out]
      clear hV
      go_wp2
      go_ret
      exact ⟨rfl, rfl⟩
end Go.Proofs.YtbldnhpbmfmepaaDoor

/-
  Contract of the walk over the reference's prefix. Conditions: the field lies in a head, the number fits in it.
-/
namespace Go.Proofs.YtbldnhpbmfmepaaDoor
set_option linter.unusedVariables false
set_option linter.unusedSimpArgs false
open Go.RowKit

/-- The pattern that fixes the first bits of a field as in a number. -/
def Pat.pre (at_ wd n k : Nat) : Pat := ⟨fun i => decide (at_ ≤ i) && decide (i < at_ + k), fun i => (decide (at_ ≤ i) && decide (i < at_ + k)) && n.testBit (wd - 1 - (i - at_))⟩
theorem Pat.pre_zero (at_ wd n : Nat) : (Pat.pre at_ wd n 0).cells = Pat.zero.cells := by
  have h : ∀ i, (decide (at_ ≤ i) && decide (i < at_ + 0)) = false := fun i => by
    rw [Bool.and_eq_false_iff, decide_eq_false_iff_not, decide_eq_false_iff_not]; omega
  refine cells_congr ⟨fun i _ => h i, fun i _ => ?_⟩
  show ((decide (at_ ≤ i) && decide (i < at_ + 0)) && _) = false
  rw [h i, Bool.false_and]
theorem Pat.pre_next (at_ wd n k : Nat) : (⟨upd (Pat.pre at_ wd n k).m (at_ + k) true, upd (Pat.pre at_ wd n k).b (at_ + k) (n.testBit (wd - 1 - k))⟩ : Pat).cells = (Pat.pre at_ wd n (k + 1)).cells := by
  have h : ∀ i, i ≠ at_ + k → (decide (at_ ≤ i) && decide (i < at_ + k)) = (decide (at_ ≤ i) && decide (i < at_ + (k + 1))) := fun i hi => by
    rw [Bool.eq_iff_iff, Bool.and_eq_true, Bool.and_eq_true, decide_eq_true_eq, decide_eq_true_eq, decide_eq_true_eq]; omega
  have h2 : (decide (at_ ≤ at_ + k) && decide (at_ + k < at_ + (k + 1))) = true := by
    rw [Bool.and_eq_true, decide_eq_true_eq, decide_eq_true_eq]; omega
  refine cells_congr ⟨fun i _ => ?_, fun i _ => ?_⟩
  · show upd (Pat.pre at_ wd n k).m (at_ + k) true i = (decide (at_ ≤ i) && decide (i < at_ + (k + 1)))
    unfold upd
    by_cases e : i = at_ + k
    · rw [if_pos e, e, h2]
    · rw [if_neg e, ← h i e]; rfl
  · show upd (Pat.pre at_ wd n k).b (at_ + k) _ i = ((decide (at_ ≤ i) && decide (i < at_ + (k + 1))) && n.testBit (wd - 1 - (i - at_)))
    unfold upd
    by_cases e : i = at_ + k
    · rw [if_pos e, e, h2, Bool.true_and, Nat.add_sub_cancel_left]
    · rw [if_neg e, ← h i e]; rfl
def PrefixRel (at_ wd n fx gp gr : Nat) (w : World) (i : Value) (wr : World) : Prop :=
  ∃ k : Nat, k ≤ fx ∧ i = .int .i64 (k : Int) ∧ Blk wr gp 25 (Pat.pre at_ wd n k).cells ∧ Blk wr gr 25 Pat.zero.cells ∧ Below w.heap.size w wr
set_option maxRecDepth 100000 in
set_option maxHeartbeats 3200000 in
theorem rprefix_any (at_ wd fx n : Nat) (w : World) (h1 : fx ≤ wd) (h2 : wd ≤ 16) (h3 : at_ + fx ≤ 160) (h4 : n < 65536) :
    Calls Tryd.prog 98 #[.int .i64 (at_ : Int), .int .i64 (wd : Int), .int .i64 (fx : Int), .int .i64 (n : Int)] w fun e w' => e = .returned (.agg (Pat.pre at_ wd n fx).cells.toArray) ∧ Below w.heap.size w w' := by
  obtain ⟨X, hX⟩ : ∃ X, Hid (Pat.pre at_ wd n fx = X) := ⟨_, rfl⟩
  rw [hX.out]
  go_enter Tryd.func98, Tryd.ntmps98
  go_wp2_with (with_reducible refine wpList_alloc (o := ⟨some 8, .alloc 25, _, _, _, _⟩) (by with_unfolding_all rfl) 25 (by with_unfolding_all rfl) (.agg (H no ++ H no).toArray) (H no ++ H no) (by exact Tryd.zeroPt) (by with_unfolding_all rfl) ?_)
  intro gr w1 hgr hs1 hb1 hR1
  rw [cells_zero] at hR1
  have hle : w.heap.size ≤ gr := Nat.le_of_eq hgr.out.symm
  have hbel1 := hb1.mono hle
  clear hgr hs1 hb1
  go_wp2_with (first | (with_reducible refine wpList_build (o := ⟨some 11, .build 25 #[], _, _, _, _⟩) (by with_unfolding_all rfl) 25 #[] (by with_unfolding_all rfl) #[] (by with_unfolding_all rfl) (.agg Pat.zero.cells.toArray) (by with_unfolding_all exact fun w => run_buildP0 w) ?_) | (with_reducible refine wpList_alloc (o := ⟨some 9, .alloc 25, _, _, _, _⟩) (by with_unfolding_all rfl) 25 (by with_unfolding_all rfl) (.agg (H no ++ H no).toArray) (H no ++ H no) (by exact Tryd.zeroPt) (by with_unfolding_all rfl) ?_))
  intro gp w2 hgp hs2 hb2 hP2
  rw [cells_zero] at hP2
  have hrp : gr < gp := by have := hR1.lt; have := hgp.out; omega
  have hlep : w.heap.size ≤ gp := by omega
  have hR2 := hR1.next hb2 hrp
  have hbel2 := hbel1.trans (hb2.mono hlep)
  clear hgp hs2 hb2 hR1 hbel1
  go_wp2_with (with_reducible refine wpList_put (o := ⟨none, .store 25 (.tmp 9) (.tmp 11), _, _, _, _⟩) (by with_unfolding_all rfl) 25 (.tmp 9) (.tmp 11) (by with_unfolding_all rfl) gp 0 (by with_unfolding_all rfl) (.agg Pat.zero.cells.toArray) (by with_unfolding_all rfl) hP2 Pat.zero.cells (by with_unfolding_all rfl) (by with_unfolding_all (rw [Pat.cells_length]; exact Tryd.szP)) (by with_unfolding_all (rw [Pat.cells_length]; omega)) (by with_unfolding_all (exact cells_one _)) ?_)
  intro w3 hu3 hP3
  rw [splice_all _ _ rfl] at hP3
  have hR3 := hR2.upd hu3 (by omega)
  have hbel3 := hbel2.trans (hu3.below (B := w.heap.size) hlep)
  clear hP2 hR2 hbel2 hu3
  go_wp2
  go_loopw [10] (PrefixRel at_ wd n fx gp gr w) (fun i _ => fx - (intOf i).toNat)
  case atStart => exact ⟨0, by omega, rfl, by rw [Pat.pre_zero]; exact hP3, hR3, hbel3⟩
  case round =>
    clear hP3 hR3 hbel3
    obtain ⟨k, hk, rfl, hP, hR, hbel⟩ := hrel
    by_cases hlt : k < fx
    · have hki : (k : Int) < (fx : Int) := by omega
      obtain ⟨P, hPe⟩ : ∃ P, Pat.pre at_ wd n k = P := ⟨_, rfl⟩
      obtain ⟨m, hm⟩ : ∃ m, wd - 1 - k = m := ⟨_, rfl⟩
      obtain ⟨s, hs⟩ : ∃ s, at_ + k = s := ⟨_, rfl⟩
      obtain ⟨V, hV⟩ : ∃ V : Nat, 2 ^ m = V := ⟨_, rfl⟩
      obtain ⟨c, hc⟩ : ∃ c, n.testBit m = c := ⟨_, rfl⟩
      obtain ⟨y, hy⟩ : ∃ y, n / V = y := ⟨_, rfl⟩
      have hs160 : s < 160 := by omega
      have hsI : (at_ : Int) + (k : Int) = (s : Int) := by omega
      have hmI : (wd : Int) - 1 - (k : Int) = (m : Int) := by omega
      have hV0 : 0 < V := by rw [← hV]; exact Nat.two_pow_pos m
      have hV6 : V ≤ 65536 := by rw [← hV]; exact Nat.pow_le_pow_right (by decide) (by omega : m ≤ 16)
      have hyn : y ≤ n := by rw [← hy]; exact Nat.div_le_self _ _
      have hdv : (n : Int) / (V : Int) = (y : Int) := by rw [← hy, Int.natCast_ediv]
      have hmod : (y : Int) % 2 = (c.toNat : Int) := by
        rw [← hc, ← hy, ← hV, Nat.testBit_eq_decide_div_mod_eq]
        have h2 : n / 2 ^ m % 2 < 2 := Nat.mod_lt _ (by decide)
        rcases (by omega : n / 2 ^ m % 2 = 0 ∨ n / 2 ^ m % 2 = 1) with h3 | h3
        · rw [h3]; show _ = ((0 : Nat) : Int); omega
        · rw [h3]; show _ = ((1 : Nat) : Int); omega
      obtain ⟨M, hM⟩ : ∃ M, upd P.m s true = M := ⟨_, rfl⟩
      obtain ⟨N, hN⟩ : ∃ N, upd P.b s c = N := ⟨_, rfl⟩
      have HN : Hid ((⟨M, N⟩ : Pat).cells = (Pat.pre at_ wd n (k + 1)).cells) := by
        have : (⟨M, N⟩ : Pat).cells = (Pat.pre at_ wd n (k + 1)).cells := by rw [← Pat.pre_next, hPe, hm, hs, hc, hM, hN]
        exact this
      have hsm := fun w => rset_any P.m s true w hs160
      have hsb := fun w => rset_any P.b s c w hs160
      have hpw := fun w => rpower_any m w (by omega)
      rw [hM, show ((true.toNat : Nat) : Int) = 1 from rfl] at hsm
      rw [hN] at hsb
      rw [hV] at hpw
      have HSM := Lib.hid hsm
      have HSB := Lib.hid hsb
      have HPW := Lib.hid hpw
      rw [hPe] at hP
      clear hsm hsb hpw hM hN hPe hm hs hV hc hy
      have hw1 : IntKind.i64.wrap ((at_ : Int) + (k : Int)) = (s : Int) := by rw [hsI]; simp only [IntKind.wrap_i64]; omega
      have hw2 : IntKind.i64.wrap ((wd : Int) - 1) = (wd : Int) - 1 := by simp only [IntKind.wrap_i64]; omega
      have hw3 : IntKind.i64.wrap ((wd : Int) - 1 - (k : Int)) = (m : Int) := by rw [hmI]; simp only [IntKind.wrap_i64]; omega
      have hmt : Hid ((y : Int).tmod 2 = (c.toNat : Int)) := by
        have : (y : Int).tmod 2 = (c.toNat : Int) := by rw [Int.tmod_eq_emod_of_nonneg (by omega)]; exact hmod
        exact this
      have hVn : V ≠ 0 := by omega
      have hwy : IntKind.i64.wrap (y : Int) = (y : Int) := by simp only [IntKind.wrap_i64]; omega
      have hwc : IntKind.i64.wrap (c.toNat : Int) = (c.toNat : Int) := by have := Bool.toNat_le c; simp only [IntKind.wrap_i64]; omega
      have hc1 : (c.toNat : Int) ≤ 1 := by have := Bool.toNat_le c; omega
      clear hsI hmI
      go_wp2_with (with_reducible refine wpList_get (o := ⟨some 18, .load 23 (.tmp 17), _, _, _, _⟩) (by with_unfolding_all rfl) 23 (.tmp 17) (by with_unfolding_all rfl) gp 0 (by with_unfolding_all rfl) hP (H P.m) (cells_take_m P) _ (by exact Tryd.underlying23) (by with_unfolding_all rfl) (by rw [H_length]; exact Tryd.szH) ?_)
      (with_reducible refine (HSM.out _).mono ?_)
      rintro e w4 ⟨rfl, hb4⟩
      have hP4 := hP.next hb4 hP.lt
      have hR4 := hR.next hb4 hR.lt
      have hbel4 := hbel.trans (hb4.mono hbel.size)
      clear hP hR hb4 hbel
      go_wp2_with (with_reducible refine wpList_put (o := ⟨none, .store 23 (.tmp 23) (.tmp 22), _, _, _, _⟩) (by with_unfolding_all rfl) 23 (.tmp 23) (.tmp 22) (by with_unfolding_all rfl) gp 0 (by with_unfolding_all rfl) (.agg (H M).toArray) (by with_unfolding_all rfl) hP4 (H M) (by with_unfolding_all rfl) (by with_unfolding_all (rw [H_length]; exact Tryd.szH)) (by with_unfolding_all (rw [H_length, Pat.cells_length]; omega)) (by with_unfolding_all (exact H_one _)) ?_)
      intro w5 hu5 hP5
      rw [splice_m] at hP5
      have hR5 := hR4.upd hu5 (by omega)
      have hbel5 := hbel4.trans (hu5.below (B := w.heap.size) hlep)
      clear hP4 hR4 hu5 hbel4
      go_wp2
      have hun := Tryd.underlying23
      have hz2 : (Tryd.prog.info? 23).map (·.size) = some (H P.b).length := by rw [H_length]; exact Tryd.szH
      have hbw := below_drew w5
      have hP6 := hP5.next hbw hP5.lt
      have hR6 := hR5.next hbw hR5.lt
      clear hP5 hR5
      refine wp_region_held_drew (S := fun _ => True) (by kernel_rfl) trivial (fun hHeld => ?_)
      generalize w5.drew = wd5 at hP6 hR6 hbw hHeld ⊢
      refine wpAnyH_take (i := 0) (v := ?vn0) rfl (by kernel_rfl) (by kernel_rfl) (by kernel_rfl) (fun _ _ _ h => h) (Or.inl ⟨by rfl, ?yn0⟩) (by assumption) ?rn0
      case yn0 => intro w hSw; (try dsimp only at hSw); go_simp <;> (try with_reducible rfl)
      (try simp only [List.getElem_toArray, List.getElem_cons_zero, Act.put, List.setIfInBounds_toArray, List.set_cons_zero, List.set_cons_succ])
      refine wpAnyH_take (i := 2) (v := ?vn2) rfl (by kernel_rfl) (by kernel_rfl) (by kernel_rfl) (fun _ _ _ h => h) (Or.inl ⟨by rfl, ?yn2⟩) (by assumption) ?rn2
      case yn2 => intro w hSw; (try dsimp only at hSw); go_simp <;> (try with_reducible rfl)
      (try simp only [List.getElem_toArray, List.getElem_cons_succ, List.getElem_cons_zero, Act.put, List.setIfInBounds_toArray, List.set_cons_zero, List.set_cons_succ])
      refine wpAnyH_take (i := 3) (v := ?vn3) rfl (by kernel_rfl) (by kernel_rfl) (by kernel_rfl) (fun _ _ _ h => h) (Or.inl ⟨by rfl, ?yn3⟩) (by assumption) ?rn3
      case yn3 => intro w hSw; (try dsimp only at hSw); go_simp <;> (try with_reducible rfl)
      (try simp only [List.getElem_toArray, List.getElem_cons_succ, List.getElem_cons_zero, Act.put, List.setIfInBounds_toArray, List.set_cons_zero, List.set_cons_succ])
      refine wpAnyH_take (i := 4) (v := ?vn4) rfl (by kernel_rfl) (by kernel_rfl) (by kernel_rfl) (fun _ _ _ h => h) (Or.inl ⟨by rfl, ?yn4⟩) (by assumption) ?rn4
      case yn4 => intro w hSw; (try dsimp only at hSw); go_simp <;> (try with_reducible rfl)
      (try simp only [List.getElem_toArray, List.getElem_cons_succ, List.getElem_cons_zero, Act.put, List.setIfInBounds_toArray, List.set_cons_zero, List.set_cons_succ])
      refine wpAnyH_take (i := 5) (v := ?vn5) rfl (by kernel_rfl) (by kernel_rfl) (by kernel_rfl) (fun _ _ _ h => h) (Or.inl ⟨by rfl, ?yn5⟩) (by assumption) ?rn5
      case yn5 => intro w hSw; (try dsimp only at hSw); go_simp <;> (try with_reducible rfl)
      (try simp only [List.getElem_toArray, List.getElem_cons_succ, List.getElem_cons_zero, Act.put, List.setIfInBounds_toArray, List.set_cons_zero, List.set_cons_succ])
      refine wpAnyH_take (i := 6) (v := ?vn6) rfl (by kernel_rfl) (by kernel_rfl) (by kernel_rfl) (fun _ _ _ h => h) (Or.inl ⟨by rfl, ?yn6⟩) (by assumption) ?rn6
      case yn6 => intro w hSw; (try dsimp only at hSw); go_simp <;> (try with_reducible rfl)
      (try simp only [List.getElem_toArray, List.getElem_cons_succ, List.getElem_cons_zero, Act.put, List.setIfInBounds_toArray, List.set_cons_zero, List.set_cons_succ])
      refine wpAnyH_take (i := 7) (v := ?vn7) rfl (by kernel_rfl) (by kernel_rfl) (by kernel_rfl) (fun _ _ _ h => h) (Or.inl ⟨by rfl, ?yn7⟩) (by assumption) ?rn7
      case yn7 => intro w hSw; (try dsimp only at hSw); go_simp <;> (try with_reducible rfl)
      (try simp only [List.getElem_toArray, List.getElem_cons_succ, List.getElem_cons_zero, Act.put, List.setIfInBounds_toArray, List.set_cons_zero, List.set_cons_succ])
      refine wpAnyH_take (i := 8) (v := ?vn8) rfl (by kernel_rfl) (by kernel_rfl) (by kernel_rfl) (fun _ _ _ h => h) (Or.inl ⟨by rfl, ?yn8⟩) (by assumption) ?rn8
      case yn8 => intro w hSw; (try dsimp only at hSw); go_simp <;> (try with_reducible rfl)
      (try simp only [List.getElem_toArray, List.getElem_cons_succ, List.getElem_cons_zero, Act.put, List.setIfInBounds_toArray, List.set_cons_zero, List.set_cons_succ])
      refine wpAnyH_take (i := 9) (v := ?vn9) rfl (by kernel_rfl) (by kernel_rfl) (by kernel_rfl) (fun _ _ _ h => h) (Or.inl ⟨by rfl, ?yn9⟩) (by assumption) ?rn9
      case yn9 => intro w hSw; (try dsimp only at hSw); go_simp <;> (try with_reducible rfl)
      (try simp only [List.getElem_toArray, List.getElem_cons_succ, List.getElem_cons_zero, Act.put, List.setIfInBounds_toArray, List.set_cons_zero, List.set_cons_succ])
      apply rest1
      · intro hrest
        refine wpAnyH_ready (rs := [1, 10]) (by kernel_rfl) (by simp) ?_
        refine AllReadyH.cons rfl (fun K hK => ?_) (AllReadyH.cons rfl (fun K hK => ?_) AllReadyH.nil)
        · rw [if_pos (by rfl)]
          refine' wp_load_mid _ _ rfl gp 10 rfl (H P.b) _ ?ca1 ?ua1 ?da1 ?ia1 ?ra1
          case ca1 => exact at_b (p := ⟨M, P.b⟩) hP6
          case ua1 => exact hun
          case da1 => rfl
          case ia1 => exact hz2
          (try simp only [List.getElem_toArray, List.getElem_cons_succ, List.getElem_cons_zero, Act.put, List.setIfInBounds_toArray, List.set_cons_zero, List.set_cons_succ])
          refine hK.out _ _ trivial (fun hHeld => ?_)
          clear hK K
          refine wpAnyH_ready (rs := [10]) (by kernel_rfl) (by simp) ?_
          refine AllReadyH.cons rfl (fun K hK => ?_) AllReadyH.nil
          go_simp
          go_wp2_with fail
          (with_reducible refine (HPW.out _).mono ?_)
          rintro e wa ⟨rfl, hwa⟩
          have hbz : Below wd5.heap.size wd5 wa := by rw [← hwa]; exact Below.refl _ _
          replace hP6 := hP6.next hbz hP6.lt
          replace hR6 := hR6.next hbz hR6.lt
          replace hbw := below_join hbw hbz
          clear hbz hwa
          refine hK.out _ _ trivial (fun hHeld => ?_)
          clear hK K
          refine wpAnyH_take (i := 11) (v := ?vza11) rfl (by kernel_rfl) (by kernel_rfl) (by kernel_rfl) (fun _ _ _ h => h) (Or.inl ⟨by rfl, ?yza11⟩) (by assumption) ?rza11
          case yza11 => intro w hSw; (try dsimp only at hSw); go_simp <;> (try with_reducible rfl)
          (try simp only [List.getElem_toArray, List.getElem_cons_succ, List.getElem_cons_zero, Act.put, List.setIfInBounds_toArray, List.set_cons_zero, List.set_cons_succ])
          refine wpAnyH_take (i := 12) (v := ?vza12) rfl (by kernel_rfl) (by kernel_rfl) (by kernel_rfl) (fun _ _ _ h => h) (Or.inl ⟨by rfl, ?yza12⟩) (by assumption) ?rza12
          case yza12 => intro w hSw; (try dsimp only at hSw); go_simp <;> (try with_reducible rfl)
          (try simp only [List.getElem_toArray, List.getElem_cons_succ, List.getElem_cons_zero, Act.put, List.setIfInBounds_toArray, List.set_cons_zero, List.set_cons_succ])
          revert hP6 hR6 hbw
          exact hrest wa
        · go_simp
          go_wp2_with fail
          (with_reducible refine (HPW.out _).mono ?_)
          rintro e wa ⟨rfl, hwa⟩
          have hbz : Below wd5.heap.size wd5 wa := by rw [← hwa]; exact Below.refl _ _
          replace hP6 := hP6.next hbz hP6.lt
          replace hR6 := hR6.next hbz hR6.lt
          replace hbw := below_join hbw hbz
          clear hbz hwa
          refine hK.out _ _ trivial (fun hHeld => ?_)
          clear hK K
          refine wpAnyH_take (i := 11) (v := ?vzb11) rfl (by kernel_rfl) (by kernel_rfl) (by kernel_rfl) (fun _ _ _ h => h) (Or.inl ⟨by rfl, ?yzb11⟩) (by assumption) ?rzb11
          case yzb11 => intro w hSw; (try dsimp only at hSw); go_simp <;> (try with_reducible rfl)
          (try simp only [List.getElem_toArray, List.getElem_cons_succ, List.getElem_cons_zero, Act.put, List.setIfInBounds_toArray, List.set_cons_zero, List.set_cons_succ])
          refine wpAnyH_take (i := 12) (v := ?vzb12) rfl (by kernel_rfl) (by kernel_rfl) (by kernel_rfl) (fun _ _ _ h => h) (Or.inl ⟨by rfl, ?yzb12⟩) (by assumption) ?rzb12
          case yzb12 => intro w hSw; (try dsimp only at hSw); go_simp <;> (try with_reducible rfl)
          (try simp only [List.getElem_toArray, List.getElem_cons_succ, List.getElem_cons_zero, Act.put, List.setIfInBounds_toArray, List.set_cons_zero, List.set_cons_succ])
          refine wpAnyH_ready (rs := [1]) (by kernel_rfl) (by simp) ?_
          refine AllReadyH.cons rfl (fun K hK => ?_) AllReadyH.nil
          rw [if_pos (by rfl)]
          refine' wp_load_mid _ _ rfl gp 10 rfl (H P.b) _ ?ca2 ?ua2 ?da2 ?ia2 ?ra2
          case ca2 => exact at_b (p := ⟨M, P.b⟩) hP6
          case ua2 => exact hun
          case da2 => rfl
          case ia2 => exact hz2
          (try simp only [List.getElem_toArray, List.getElem_cons_succ, List.getElem_cons_zero, Act.put, List.setIfInBounds_toArray, List.set_cons_zero, List.set_cons_succ])
          refine hK.out _ _ trivial (fun hHeld => ?_)
          clear hK K
          revert hP6 hR6 hbw
          exact hrest wa
      intro wq hP6 hR6 hbw
      refine wpAnyH_ready (rs := [13]) (by kernel_rfl) (by simp) ?_
      refine AllReadyH.cons rfl (fun K hK => ?_) AllReadyH.nil
      go_simp
      go_wp2_with fail
      rw [hmt.out]
      (with_reducible refine (HSB.out _).mono ?_)
      rintro e wv ⟨rfl, hbv⟩
      replace hP6 := hP6.next hbv hP6.lt
      replace hR6 := hR6.next hbv hR6.lt
      replace hbw := below_join hbw hbv
      refine hK.out _ _ trivial (fun hHeld => ?_)
      clear hK K hbv
      refine wpAnyH_take (i := 14) (v := ?vz14) rfl (by kernel_rfl) (by kernel_rfl) (by kernel_rfl) (fun _ _ _ h => h) (Or.inl ⟨by rfl, ?yz14⟩) (by assumption) ?rz14
      case yz14 => intro w hSw; (try dsimp only at hSw); go_simp <;> (try with_reducible rfl)
      (try simp only [List.getElem_toArray, List.getElem_cons_succ, List.getElem_cons_zero, Act.put, List.setIfInBounds_toArray, List.set_cons_zero, List.set_cons_succ])
      refine wpAnyH_ready (rs := [15]) (by kernel_rfl) (by simp) ?_
      refine AllReadyH.cons rfl (fun K hK => ?_) AllReadyH.nil
      rw [if_pos (by rfl)]
      refine wp_put 23 (.tmp 38) (.tmp 37) rfl gp 10 rfl (.agg (H N).toArray) rfl hP6 (H N) rfl (by rw [H_length]; exact Tryd.szH) (by rw [H_length, Pat.cells_length]; omega) (H_one _) ?_
      intro wz huz hPz
      rw [splice_b, HN.out] at hPz
      have hRz := hR6.upd huz (by omega)
      have hbz := (hbel5.trans (hbw.mono hbel5.size)).trans (huz.below (B := w.heap.size) hlep)
      refine hK.out _ _ trivial (fun hHeld => ?_)
      clear hK K hP6 hR6 hbw huz hbel5
      refine wpAnyH_done (by kernel_rfl) ?_ _
      go_wp2
      go_roundw
      case rel => exact ⟨k + 1, by omega, by go_num, hPz, hRz, hbz⟩
      case measure => simp [intOf]; omega
    · obtain rfl : k = fx := by omega
      have hPx : Blk wr gp 25 X.cells := by rw [← hX.out]; exact hP
      clear hP hk
      go_wp2_with (first | (with_reducible refine wpList_get (o := ⟨some 39, .load 25 (.tmp 9), _, _, _, _⟩) (by with_unfolding_all rfl) 25 (.tmp 9) (by with_unfolding_all rfl) gp 0 (by with_unfolding_all rfl) hPx X.cells (cs_all _) _ (by exact Tryd.underlying25) (by with_unfolding_all rfl) (by rw [Pat.cells_length]; exact Tryd.szP) ?_) | (with_reducible refine wpList_put (o := ⟨none, .store 25 (.tmp 8) (.tmp 39), _, _, _, _⟩) (by with_unfolding_all rfl) 25 (.tmp 8) (.tmp 39) (by with_unfolding_all rfl) gr 0 (by with_unfolding_all rfl) (.agg X.cells.toArray) (by with_unfolding_all rfl) hR X.cells (by with_unfolding_all rfl) (by with_unfolding_all (rw [Pat.cells_length]; exact Tryd.szP)) (by with_unfolding_all (rw [Pat.cells_length, Pat.cells_length]; omega)) (by with_unfolding_all (exact cells_one _)) ?_))
      intro w5 hu5 hR5
      rw [splice_all _ _ (by rw [Pat.cells_length, Pat.cells_length])] at hR5
      have hb5 := hbel.trans (hu5.below (B := w.heap.size) (by omega))
      go_wp2
      refine bodyPost_ret (results_cell_row rfl _ _ gr _ _ _ _ rfl hR5 Tryd.underlying25 rfl (by rw [List.size_toArray, Pat.cells_length]; exact Tryd.szP)) rfl ⟨rfl, hb5⟩
end Go.Proofs.YtbldnhpbmfmepaaDoor

/-
  Contract of the walk over the law's first. Conditions: words.
-/
namespace Go.Proofs.YtbldnhpbmfmepaaDoor
set_option linter.unusedVariables false
set_option linter.unusedSimpArgs false
open Go.RowKit

/-- A word and nine empty ones. -/
def word0 (n : Nat) : List Nat := [n, 0, 0, 0, 0, 0, 0, 0, 0, 0]
/-- The pattern that fixes the first bits of word 0. -/
def Pat.first (m b : Nat) : Pat := ⟨bitsOf (word0 m), bitsOf (word0 b)⟩
theorem H_word0 (n : Nat) (h : n < 65536) : H (bitsOf (word0 n)) = (word0 n).map nV := by
  unfold H
  rw [HN_bitsOf rfl fun x hx => by
    unfold word0 at hx
    simp only [List.mem_cons, List.mem_nil_iff, or_false] at hx
    omega]
theorem run_word0 (w : World) (x : Int) : (Instr.build 23 #[(0, .int .i64 x)]).run Tryd.prog w = .ok (.agg (.int .i64 x :: (List.replicate 9 (.int .i64 0))).toArray) w := by kernel_rfl
set_option maxRecDepth 100000 in
set_option maxHeartbeats 1600000 in
theorem first_any (m b : Nat) (w : World) (hm : m < 65536) (hb : b < 65536) :
    Calls Tryd.prog 73 #[.int .i64 (m : Int), .int .i64 (b : Int)] w fun e w' => e = .returned (.agg (Pat.first m b).cells.toArray) ∧ Below w.heap.size w w' := by
  obtain ⟨X, hX⟩ : ∃ X, Hid (Pat.first m b = X) := ⟨_, rfl⟩
  obtain ⟨M, hM⟩ : ∃ M, H (bitsOf (word0 m)) = M := ⟨_, rfl⟩
  obtain ⟨B, hB⟩ : ∃ B, H (bitsOf (word0 b)) = B := ⟨_, rfl⟩
  have hMl : M.length = 10 := by rw [← hM, H_length]
  have hBl : B.length = 10 := by rw [← hB, H_length]
  have hXc : M ++ B = X.cells := by rw [← hX.out, ← hM, ← hB]; rfl
  have e1 : ∀ w, (Instr.build 23 #[(0, .int .i64 (m : Int))]).run Tryd.prog w = .ok (.agg M.toArray) w := fun w => by rw [run_word0, ← hM, H_word0 m hm]; rfl
  have e2 : ∀ w, (Instr.build 23 #[(0, .int .i64 (b : Int))]).run Tryd.prog w = .ok (.agg B.toArray) w := fun w => by rw [run_word0, ← hB, H_word0 b hb]; rfl
  have e3 : ∀ w, (Instr.build 25 #[(0, .agg M.toArray), (1, .agg B.toArray)]).run Tryd.prog w = .ok (.agg X.cells.toArray) w := fun w => by rw [run_buildP w _ _ hMl hBl, hXc]
  rw [hX.out]
  clear hM hB hMl hBl hXc hX hm hb
  go_enter Tryd.func73, Tryd.ntmps73
  go_wp2_with (with_reducible refine wpList_alloc (o := ⟨some 4, .alloc 25, _, _, _, _⟩) (by with_unfolding_all rfl) 25 (by with_unfolding_all rfl) (.agg (H no ++ H no).toArray) (H no ++ H no) (by exact Tryd.zeroPt) (by with_unfolding_all rfl) ?_)
  intro gr w1 hgr hs1 hb1 hR1
  rw [cells_zero] at hR1
  have hle : w.heap.size ≤ gr := Nat.le_of_eq hgr.out.symm
  have hbel1 := hb1.mono hle
  clear hgr hs1 hb1
  go_wp2_with (first | (with_reducible refine wpList_build (o := ⟨some 6, .build 23 #[(0, .tmp 5)], _, _, _, _⟩) (by with_unfolding_all rfl) 23 #[(0, .tmp 5)] (by with_unfolding_all rfl) #[(0, .int .i64 (m : Int))] (by with_unfolding_all rfl) (.agg M.toArray) e1 ?_) | (with_reducible refine wpList_build (o := ⟨some 8, .build 23 #[(0, .tmp 7)], _, _, _, _⟩) (by with_unfolding_all rfl) 23 #[(0, .tmp 7)] (by with_unfolding_all rfl) #[(0, .int .i64 (b : Int))] (by with_unfolding_all rfl) (.agg B.toArray) e2 ?_) | (with_reducible refine wpList_build (o := ⟨some 9, .build 25 #[(0, .tmp 6), (1, .tmp 8)], _, _, _, _⟩) (by with_unfolding_all rfl) 25 #[(0, .tmp 6), (1, .tmp 8)] (by with_unfolding_all rfl) #[(0, .agg M.toArray), (1, .agg B.toArray)] (by with_unfolding_all rfl) (.agg X.cells.toArray) e3 ?_) | (with_reducible refine wpList_put (o := ⟨none, .store 25 (.tmp 4) (.tmp 9), _, _, _, _⟩) (by with_unfolding_all rfl) 25 (.tmp 4) (.tmp 9) (by with_unfolding_all rfl) gr 0 (by with_unfolding_all rfl) (.agg X.cells.toArray) (by with_unfolding_all rfl) hR1 X.cells (by with_unfolding_all rfl) (by with_unfolding_all (rw [Pat.cells_length]; exact Tryd.szP)) (by with_unfolding_all (rw [Pat.cells_length, Pat.cells_length]; omega)) (by with_unfolding_all (exact cells_one _)) ?_))
  intro w5 hu5 hR5
  rw [splice_all _ _ (by rw [Pat.cells_length, Pat.cells_length])] at hR5
  have hb5 := hbel1.trans (hu5.below (B := w.heap.size) hle)
  go_wp2
  refine bodyPost_ret (results_cell_row rfl _ _ gr _ _ _ _ rfl hR5 Tryd.underlying25 rfl (by rw [List.size_toArray, Pat.cells_length]; exact Tryd.szP)) rfl ⟨rfl, hb5⟩
end Go.Proofs.YtbldnhpbmfmepaaDoor

/-
  Contract of the walk over the reference's RightAll. Conditions: rows of words lie there.
-/
namespace Go.Proofs.YtbldnhpbmfmepaaDoor
set_option linter.unusedVariables false
set_option linter.unusedSimpArgs false
open Go.RowKit

/-- A row of cells, read as a struct, from an address on. -/
theorem run_loadVar_add (w : World) (p : Addr) (ty : TypeId) (cs : List Value) (d : TypeDesc) (hc : ∀ (q : Nat) (u : Value), cs[q]? = some u → w.cell? (p.add q) = some u)
    (hu : Tryd.prog.underlying ty = some d) (hd : d.isRow = true) (hi : (Tryd.prog.info? ty).map (·.size) = some cs.length) : (loadVar ty p).run Tryd.prog w = .ok (.agg cs.toArray) w := by
  have hl : (loadCells p cs.length).run Tryd.prog w = .ok cs.toArray w := run_loadCells_list (P := Tryd.prog) w p cs hc
  cases hq : Tryd.prog.info? ty with
  | none => simp [hq] at hi
  | some i =>
    have hs : i.size = cs.length := by simpa [hq] using hi
    have hagg : (isAgg ty).run Tryd.prog w = .ok true w := by
      unfold isAgg
      rw [Sem.run_bind, run_underlying hu w]
      cases d <;> simp_all
    simp [loadVar, Sem.run_bind, hagg, sizeOf, typeInfo, hq, hs, hl]
theorem wpList_load_add {ops : Array Oper} {rest : List Oper} {op : Oper} {a : Act} {w : World} {Q : Exit → Act → World → Prop} (hgd : op.guard = none) (ty : TypeId) (x : Operand) (ho : op.op = .load ty x)
    (p : Addr) (hx : a.eval x = .pointer (some p)) (cs : List Value) (d : TypeDesc) (hc : ∀ (q : Nat) (u : Value), cs[q]? = some u → w.cell? (p.add q) = some u)
    (hu : Tryd.prog.underlying ty = some d) (hd : d.isRow = true) (hi : (Tryd.prog.info? ty).map (·.size) = some cs.length)
    (h : wpList Tryd.prog ops Q rest (a.put op.dst (.agg cs.toArray)) w) : wpList Tryd.prog ops Q (op :: rest) a w := by
  refine wpList_plain hgd fun K hK => ?_
  unfold Oper.wp execOp
  simp only [ho, hx, Instr.loadAt, Instr.sureAddr, Sem.run_bind, Sem.run_pure, Result.andThen_ok, run_loadVar_add w p ty cs d hc hu hd hi]
  exact hK _ _ h
/-- The cells of a pattern of whatever words. -/
def rawCells (r : List Int × List Int) : List Value := r.1.map iV ++ r.2.map iV
/-- A slice of patterns of whatever words. -/
def RawAt (w : World) (A : Option Addr) (l : List (List Int × List Int)) : Prop := ∀ k r, l[k]? = some r → ∃ ad, A = some ad ∧ ∀ q u, (rawCells r)[q]? = some u → w.cell? ((ad.add (k * 20)).add q) = some u
theorem RawAt.next {w w' : World} {A : Option Addr} {l : List (List Int × List Int)} (h : RawAt w A l) (hb : Below w.heap.size w w') : RawAt w' A l := fun k r hr => by
  obtain ⟨ad, e, hc⟩ := h k r hr
  exact ⟨ad, e, fun q u hu => by rw [hb.cell (World.block_lt_of_cell? w _ (hc q u hu))]; exact hc q u hu⟩
/-- A pattern has ten words in its mask and ten in its bits. -/
def Tens (l : List (List Int × List Int)) : Prop := ∀ r ∈ l, r.1.length = 10 ∧ r.2.length = 10
def RightAllRel (l : List (List Int × List Int)) (n : Nat) (w : World) (i : Value) (wr : World) : Prop :=
  ∃ k : Nat, k ≤ n ∧ i = .int .i64 (k : Int) ∧ (∀ j r, j < k → l[j]? = some r → pairI r.1 r.2 = true) ∧ Below w.heap.size w wr
set_option maxRecDepth 100000 in
set_option maxHeartbeats 1600000 in
theorem rrightAll_any (A : Option Addr) (c : Nat) (l : List (List Int × List Int)) (w : World) (hl : l.length ≤ 140737488355328) (hT : Tens l) (hS : RawAt w A l) :
    Calls Tryd.prog 20 #[.slice A l.length c] w fun e w' => e = .returned (.bool (l.all fun r => pairI r.1 r.2)) ∧ Below w.heap.size w w' := by
  obtain ⟨D, hD⟩ : ∃ D, Hid ((l.all fun r => pairI r.1 r.2) = D) := ⟨_, rfl⟩
  rw [hD.out]
  have HS := Lib.hid hS
  have HT := Lib.hid hT
  obtain ⟨n, hn⟩ : ∃ n, Hid (l.length = n) := ⟨_, rfl⟩
  rw [hn.out] at hl ⊢
  clear hS hT
  go_enter Tryd.func20, Tryd.ntmps20
  go_wp2
  go_loopw [3] (RightAllRel l n w) (fun i _ => n - (intOf i).toNat)
  case atStart => exact ⟨0, Nat.zero_le _, rfl, fun j r hj => absurd hj (Nat.not_lt_zero j), Below.refl _ _⟩
  case round =>
    obtain ⟨k, hk, rfl, hz, hbel⟩ := hrel
    have HZ := Lib.hid hz
    clear hz
    by_cases hlt : k < n
    · have hki : (k : Int) < (n : Int) := by omega
      obtain ⟨r, hr⟩ : ∃ r, l[k]? = some r := ⟨_, List.getElem?_eq_getElem (by rw [hn.out]; exact hlt)⟩
      obtain ⟨p, rfl, hc⟩ := (HS.out.next hbel) k r hr
      obtain ⟨m, b⟩ := r
      have hmb := HT.out _ (List.mem_of_getElem? hr)
      have hpr := fun w => rright_any m b w hmb.1 hmb.2
      obtain ⟨L, hL⟩ : ∃ L, m.map iV ++ b.map iV = L := ⟨_, rfl⟩
      have hLl : L.length = 20 := by rw [← hL, List.length_append, List.length_map, List.length_map, hmb.1, hmb.2]
      have hc2 : ∀ (q : Nat) (u : Value), L[q]? = some u → wr.cell? ((p.add (k * 20)).add q) = some u := by rw [← hL]; exact hc
      obtain ⟨E, hE⟩ : ∃ E, pairI m b = E := ⟨_, rfl⟩
      rw [hL, hE] at hpr
      have HPR := Lib.hid hpr
      have HR := Lib.hid hr
      have HE := Lib.hid hE
      have hun := Tryd.underlying25
      clear hr hmb hpr hL hE hc
      go_wp2_with (with_reducible refine wpList_load_add (op := ⟨some 14, .load 25 (.tmp 13), _, _, _, _⟩) (by with_unfolding_all rfl) 25 (.tmp 13) (by with_unfolding_all rfl) (p.add (k * 20)) (by with_unfolding_all rfl) L _ hc2 hun (by with_unfolding_all rfl) (by rw [hLl]; exact Tryd.szP) ?_)
      (with_reducible refine (HPR.out _).mono ?_)
      rintro e w2 ⟨rfl, hb2⟩
      have hbel2 := hbel.trans (hb2.mono hbel.size)
      clear hbel hb2 hc2
      rcases E with _ | _
      · have hno : Hid (D = false) := by
          have : D = false := by
            rw [← hD.out, Bool.eq_false_iff]
            intro hall
            have := (List.all_eq_true.1 hall) _ (List.mem_of_getElem? HR.out)
            rw [HE.out] at this
            cases this
          exact this
        go_wp2
        go_ret
        exact ⟨by rw [hno.out]; rfl, hbel2⟩
      · go_wp2
        go_roundw
        case rel => exact ⟨k + 1, by omega, by go_num, fun j r hj hr => by
          by_cases e : j = k
          · rw [e, HR.out] at hr
            injection hr with hr
            rw [← hr]; exact HE.out
          · exact HZ.out j r (by omega) hr, hbel2⟩
        case measure => simp [intOf]; omega
    · obtain rfl : k = n := by omega
      have hyes : Hid (D = true) := by
        have : D = true := by
          rw [← hD.out, List.all_eq_true]
          intro r hr
          obtain ⟨j, hj⟩ := List.getElem?_of_mem hr
          exact HZ.out j r (by rw [← hn.out]; exact (List.getElem?_eq_some_iff.1 hj).1) hj
        exact this
      go_wp2
      go_ret
      exact ⟨by rw [hyes.out]; rfl, hbel⟩
end Go.Proofs.YtbldnhpbmfmepaaDoor

/-
  Contract of the walk over the reference's Same. Conditions: rows of patterns lie there.
-/
namespace Go.Proofs.YtbldnhpbmfmepaaDoor
set_option linter.unusedVariables false
set_option linter.unusedSimpArgs false
open Go.RowKit

/-- A slice of patterns. -/
def PatsAt (w : World) (A : Option Addr) (l : List Pat) : Prop := ∀ k p, l[k]? = some p → ∃ g o, A = some ⟨g, o, none⟩ ∧ w.rangeAt g (o + k * 20) p.cells
theorem PatsAt.next {w w' : World} {A : Option Addr} {l : List Pat} (h : PatsAt w A l) (hb : Below w.heap.size w w') : PatsAt w' A l := fun k p hp => by
  obtain ⟨g, o, e, hc⟩ := h k p hp
  exact ⟨g, o, e, fun q u hu => by rw [hb.cell (World.block_lt_of_cell? w _ (hc q u hu))]; exact hc q u hu⟩
def samePs : List Pat → List Pat → Bool
  | [], [] => true
  | p :: l, q :: r => p.same q && samePs l r
  | _, _ => false
theorem samePs_len : ∀ {l r : List Pat}, samePs l r = true → l.length = r.length
  | [], [], _ => rfl
  | _ :: l, _ :: r, h => by
    unfold samePs at h
    rw [Bool.and_eq_true] at h
    rw [List.length_cons, List.length_cons, samePs_len h.2]
  | [], _ :: _, h => by cases h
  | _ :: _, [], h => by cases h
theorem samePs_iff : ∀ {l r : List Pat}, l.length = r.length → (samePs l r = true ↔ ∀ (k : Nat) (p q : Pat), l[k]? = some p → r[k]? = some q → p.same q = true)
  | [], [], _ => ⟨fun _ k p q h => by simp at h, fun _ => rfl⟩
  | p :: l, q :: r, h => by
    have hl : l.length = r.length := by simpa using h
    unfold samePs
    rw [Bool.and_eq_true, samePs_iff hl]
    constructor
    · rintro ⟨h1, h2⟩ k a b ha hb
      cases k with
      | zero =>
        simp at ha hb
        rw [← ha, ← hb]; exact h1
      | succ k =>
        simp at ha hb
        exact h2 k a b ha hb
    · intro h1
      exact ⟨h1 0 p q rfl rfl, fun k a b ha hb => h1 (k + 1) a b (by simpa using ha) (by simpa using hb)⟩
  | [], _ :: _, h => by simp at h
  | _ :: _, [], h => by simp at h
def RSameRel (l r : List Pat) (n : Nat) (w : World) (i : Value) (wr : World) : Prop :=
  ∃ k : Nat, k ≤ n ∧ i = .int .i64 (k : Int) ∧ (∀ j p q, j < k → l[j]? = some p → r[j]? = some q → p.same q = true) ∧ Below w.heap.size w wr
set_option maxRecDepth 100000 in
set_option maxHeartbeats 1600000 in
theorem rsame_any (A B : Option Addr) (c d : Nat) (l r : List Pat) (w : World) (hl : l.length ≤ 140737488355328) (hr : r.length ≤ 140737488355328) (hS : PatsAt w A l) (hS2 : PatsAt w B r) :
    Calls Tryd.prog 53 #[.slice A l.length c, .slice B r.length d] w fun e w' => e = .returned (.bool (samePs l r)) ∧ Below w.heap.size w w' := by
  obtain ⟨D, hD⟩ : ∃ D, Hid (samePs l r = D) := ⟨_, rfl⟩
  rw [hD.out]
  have HS := Lib.hid hS
  have HS2 := Lib.hid hS2
  obtain ⟨n, hn⟩ : ∃ n, Hid (l.length = n) := ⟨_, rfl⟩
  obtain ⟨m, hm⟩ : ∃ m, Hid (r.length = m) := ⟨_, rfl⟩
  rw [hn.out] at hl ⊢
  rw [hm.out] at hr ⊢
  clear hS hS2
  go_enter Tryd.func53, Tryd.ntmps53
  by_cases hnm : n = m
  · subst hnm
    go_wp2
    go_loopw [5] (RSameRel l r n w) (fun i _ => n - (intOf i).toNat)
    case atStart => exact ⟨0, Nat.zero_le _, rfl, fun j p q hj => absurd hj (Nat.not_lt_zero j), Below.refl _ _⟩
    case round =>
      obtain ⟨k, hk, rfl, hz, hbel⟩ := hrel
      have HZ := Lib.hid hz
      clear hz
      by_cases hlt : k < n
      · have hki : (k : Int) < (n : Int) := by omega
        obtain ⟨p, hp⟩ : ∃ p, l[k]? = some p := ⟨_, List.getElem?_eq_getElem (by rw [hn.out]; exact hlt)⟩
        obtain ⟨q, hq⟩ : ∃ q, r[k]? = some q := ⟨_, List.getElem?_eq_getElem (by rw [hm.out]; exact hlt)⟩
        obtain ⟨ga, oa, rfl, hca⟩ := (HS.out.next hbel) k p hp
        obtain ⟨gb, ob, rfl, hcb⟩ := (HS2.out.next hbel) k q hq
        obtain ⟨E, hE⟩ : ∃ E, Hid (p.same q = E) := ⟨_, rfl⟩
        have hneq : ∀ w, (binOp .neq 25 (.agg p.cells.toArray) (.agg q.cells.toArray)).run Tryd.prog w = .ok (.bool (!E)) w := fun w => by rw [neq_pat, ← hE.out]; rfl
        have hgd := Tryd.guardP
        have HPk := Lib.hid hp
        have HQk := Lib.hid hq
        have hun := Tryd.underlying25
        have hz1 : (Tryd.prog.info? 25).map (·.size) = some p.cells.length := by rw [Pat.cells_length]; exact Tryd.szP
        have hz2 : (Tryd.prog.info? 25).map (·.size) = some q.cells.length := by rw [Pat.cells_length]; exact Tryd.szP
        clear hp hq
        go_wp2
        have hdd := below_drew wr
        refine wp_region_held_drew (S := fun w' => w'.rangeAt ga (oa + k * 20) p.cells ∧ w'.rangeAt gb (ob + k * 20) q.cells) (by kernel_rfl) ⟨hca, hcb⟩ (fun hHeld => ?_)
        generalize wr.drew = wd at hdd hHeld ⊢
        clear hca hcb
        refine wpAnyH_take (i := 0) (v := ?vv0) rfl (by kernel_rfl) (by kernel_rfl) (by kernel_rfl) (fun _ _ _ h => h) (Or.inl ⟨by rfl, ?yv0⟩) (by assumption) ?rv0
        case yv0 => intro w hSw; (try dsimp only at hSw); go_simp <;> (try with_reducible rfl)
        (try simp only [List.getElem_toArray, List.getElem_cons_zero, Act.put, List.setIfInBounds_toArray, List.set_cons_zero, List.set_cons_succ])
        refine wpAnyH_take (i := 1) (v := ?vv1) rfl (by kernel_rfl) (by kernel_rfl) (by kernel_rfl) (fun _ _ _ h => h) (Or.inl ⟨by rfl, ?yv1⟩) (by assumption) ?rv1
        case yv1 => intro w hSw; (try dsimp only at hSw); go_simp <;> (try with_reducible rfl)
        (try simp only [List.getElem_toArray, List.getElem_cons_succ, List.getElem_cons_zero, Act.put, List.setIfInBounds_toArray, List.set_cons_zero, List.set_cons_succ])
        refine wpAnyH_take (i := 2) (v := ?vv2) rfl (by kernel_rfl) (by kernel_rfl) (by kernel_rfl) (fun _ _ _ h => h) (Or.inl ⟨by rfl, ?yv2⟩) (by assumption) ?rv2
        case yv2 => intro w hSw; (try dsimp only at hSw); go_simp <;> (try with_reducible rfl)
        (try simp only [List.getElem_toArray, List.getElem_cons_succ, List.getElem_cons_zero, Act.put, List.setIfInBounds_toArray, List.set_cons_zero, List.set_cons_succ])
        refine' wpAnyH_take (i := 3) (v := _) rfl (by kernel_rfl) (by kernel_rfl) (by kernel_rfl) (fun _ _ _ h => h) (yieldsIf_load_mid (by rfl) _ _ (by rfl) _ _ (by rfl) _ _ ?Sv3 ?uv3 ?dv3 ?iv3) (by assumption) ?rv3
        case Sv3 => exact (by intro w h; exact h.1)
        case uv3 => exact hun
        case dv3 => rfl
        case iv3 => exact hz1
        (try simp only [List.getElem_toArray, List.getElem_cons_succ, List.getElem_cons_zero, Act.put, List.setIfInBounds_toArray, List.set_cons_zero, List.set_cons_succ])
        refine wpAnyH_take (i := 4) (v := ?vv4) rfl (by kernel_rfl) (by kernel_rfl) (by kernel_rfl) (fun _ _ _ h => h) (Or.inl ⟨by rfl, ?yv4⟩) (by assumption) ?rv4
        case yv4 => intro w hSw; (try dsimp only at hSw); go_simp <;> (try with_reducible rfl)
        (try simp only [List.getElem_toArray, List.getElem_cons_succ, List.getElem_cons_zero, Act.put, List.setIfInBounds_toArray, List.set_cons_zero, List.set_cons_succ])
        refine wpAnyH_take (i := 5) (v := ?vv5) rfl (by kernel_rfl) (by kernel_rfl) (by kernel_rfl) (fun _ _ _ h => h) (Or.inl ⟨by rfl, ?yv5⟩) (by assumption) ?rv5
        case yv5 => intro w hSw; (try dsimp only at hSw); go_simp <;> (try with_reducible rfl)
        (try simp only [List.getElem_toArray, List.getElem_cons_succ, List.getElem_cons_zero, Act.put, List.setIfInBounds_toArray, List.set_cons_zero, List.set_cons_succ])
        refine wpAnyH_take (i := 6) (v := ?vv6) rfl (by kernel_rfl) (by kernel_rfl) (by kernel_rfl) (fun _ _ _ h => h) (Or.inl ⟨by rfl, ?yv6⟩) (by assumption) ?rv6
        case yv6 => intro w hSw; (try dsimp only at hSw); go_simp <;> (try with_reducible rfl)
        (try simp only [List.getElem_toArray, List.getElem_cons_succ, List.getElem_cons_zero, Act.put, List.setIfInBounds_toArray, List.set_cons_zero, List.set_cons_succ])
        refine' wpAnyH_take (i := 7) (v := _) rfl (by kernel_rfl) (by kernel_rfl) (by kernel_rfl) (fun _ _ _ h => h) (yieldsIf_load_mid (by rfl) _ _ (by rfl) _ _ (by rfl) _ _ ?Sv7 ?uv7 ?dv7 ?iv7) (by assumption) ?rv7
        case Sv7 => exact (by intro w h; exact h.2)
        case uv7 => exact hun
        case dv7 => rfl
        case iv7 => exact hz2
        (try simp only [List.getElem_toArray, List.getElem_cons_succ, List.getElem_cons_zero, Act.put, List.setIfInBounds_toArray, List.set_cons_zero, List.set_cons_succ])
        refine wpAnyH_take (i := 8) (v := ?vv8) rfl (by kernel_rfl) (by kernel_rfl) (by kernel_rfl) (fun _ _ _ h => h) (Or.inl ⟨by rfl, ?yv8⟩) (by assumption) ?rv8
        case yv8 => intro w hSw; (try dsimp only at hSw); go_simp <;> (try with_reducible rfl)
        (try simp only [List.getElem_toArray, List.getElem_cons_succ, List.getElem_cons_zero, Act.put, List.setIfInBounds_toArray, List.set_cons_zero, List.set_cons_succ])
        refine wpAnyH_done (by kernel_rfl) ?_ _
        have hbel2 := hbel.trans (hdd.mono hbel.size)
        clear hneq hbel hdd
        rcases E with _ | _
        · have hno : Hid (D = false) := by
            have : D = false := by
              rw [← hD.out, Bool.eq_false_iff]
              intro hall
              have := (samePs_iff (by rw [hn.out, hm.out])).1 hall k p q HPk.out HQk.out
              rw [hE.out] at this
              cases this
            exact this
          go_wp2
          go_ret
          exact ⟨by rw [hno.out]; rfl, hbel2⟩
        · go_wp2
          go_roundw
          case rel => exact ⟨k + 1, by omega, by go_num, fun j a b hj ha hb => by
            by_cases e : j = k
            · rw [e, HPk.out] at ha
              rw [e, HQk.out] at hb
              injection ha with ha
              injection hb with hb
              rw [← ha, ← hb]; exact hE.out
            · exact HZ.out j a b (by omega) ha hb, hbel2⟩
          case measure => simp [intOf]; omega
      · obtain rfl : k = n := by omega
        have hyes : Hid (D = true) := by
          have : D = true := by
            rw [← hD.out]
            exact (samePs_iff (by rw [hn.out, hm.out])).2 fun j a b ha hb => HZ.out j a b (by rw [← hn.out]; exact (List.getElem?_eq_some_iff.1 ha).1) ha hb
          exact this
        go_wp2
        go_ret
        exact ⟨by rw [hyes.out]; rfl, hbel⟩
  · have hne : ((n : Int) != (m : Int)) = true := bne_iff_ne.2 (by omega)
    have hno : Hid (D = false) := by
      have : D = false := by
        rw [← hD.out, Bool.eq_false_iff]
        intro hall
        have := samePs_len hall
        rw [hn.out, hm.out] at this
        exact hnm this
      exact this
    go_wp2
    go_ret
    exact ⟨by rw [hno.out]; rfl, Below.refl _ _⟩
end Go.Proofs.YtbldnhpbmfmepaaDoor

/-
  Contract of the walk over the reference's In. Conditions: a row of patterns lies there.
-/
namespace Go.Proofs.YtbldnhpbmfmepaaDoor
set_option linter.unusedVariables false
set_option linter.unusedSimpArgs false
open Go.RowKit

/-- How many of the first k patterns match a head. -/
def inTo (l : List Pat) (h : Nat → Bool) (k : Nat) : Nat := (l.take k).countP fun p => decide (p.hit h)
theorem inTo_next {l : List Pat} {h : Nat → Bool} {k : Nat} {p : Pat} (hp : l[k]? = some p) : inTo l h (k + 1) = inTo l h k + (decide (p.hit h)).toNat := by
  obtain ⟨hk, e⟩ := List.getElem?_eq_some_iff.1 hp
  unfold inTo
  rw [List.take_succ_eq_append_getElem hk, List.countP_append, e]
  cases hd : decide (p.hit h)
  · rw [List.countP_cons_of_neg (by rw [hd]; decide)]; rfl
  · rw [List.countP_cons_of_pos (by exact hd)]; rfl
theorem inTo_le (l : List Pat) (h : Nat → Bool) (k : Nat) : inTo l h k ≤ k := Nat.le_trans List.countP_le_length (by rw [List.length_take]; omega)
def RInRel (l : List Pat) (h : Nat → Bool) (n gh : Nat) (w : World) (v i : Value) (wr : World) : Prop :=
  ∃ k N : Nat, k ≤ n ∧ i = .int .i64 (k : Int) ∧ v = .int .i64 (N : Int) ∧ inTo l h k = N ∧ Blk wr gh 23 (H h) ∧ Below w.heap.size w wr
set_option maxRecDepth 100000 in
set_option maxHeartbeats 1600000 in
theorem rin_any (A : Option Addr) (c : Nat) (l : List Pat) (h : Nat → Bool) (w : World) (hl : l.length ≤ 140737488355328) (hS : PatsAt w A l) :
    Calls Tryd.prog 70 #[.slice A l.length c, .agg (H h).toArray] w fun e w' => e = .returned (.int .i64 ((l.countP fun p => decide (p.hit h) : Nat) : Int)) ∧ Below w.heap.size w w' := by
  obtain ⟨D, hD⟩ : ∃ D, Hid (inTo l h l.length = D) := ⟨_, rfl⟩
  have hD2 : Hid ((l.countP fun p => decide (p.hit h)) = D) := by
    have : (l.countP fun p => decide (p.hit h)) = D := by rw [← hD.out]; unfold inTo; rw [List.take_length]
    exact this
  rw [hD2.out]
  clear hD2
  have HS := Lib.hid hS
  obtain ⟨n, hn⟩ : ∃ n, Hid (l.length = n) := ⟨_, rfl⟩
  rw [hn.out] at hl hD ⊢
  clear hS
  go_enter Tryd.func70, Tryd.ntmps70
  go_wp2_with (with_reducible refine wpList_box (o := ⟨some 3, .box 23 (.tmp 1), _, _, _, _⟩) ?g1 23 (.tmp 1) ?o1 (.agg (H h).toArray) (H h) ?x1 ?c1 ?_)
  try (case g1 => rfl)
  try (case o1 => rfl)
  try (case x1 => rfl)
  try (case c1 => rfl)
  intro gh w1 hgh hs1 hb1 hH1
  have hbel1 : Below w.heap.size w w1 := hb1.mono (Nat.le_of_eq hgh.out.symm)
  clear hgh hs1 hb1
  go_wp2
  go_loopw [5, 6] (fun v i wr => RInRel l h n gh w v i wr) (fun _ i _ => n - (intOf i).toNat)
  case atStart => exact ⟨0, 0, Nat.zero_le _, rfl, rfl, rfl, hH1, hbel1⟩
  case round =>
    clear hH1 hbel1
    obtain ⟨k, N, hk, rfl, rfl, hN, hH, hbel⟩ := hrel
    have hNk : N ≤ k := by rw [← hN]; exact inTo_le l h k
    by_cases hlt : k < n
    · have hki : (k : Int) < (n : Int) := by omega
      obtain ⟨p, hp⟩ : ∃ p, l[k]? = some p := ⟨_, List.getElem?_eq_getElem (by rw [hn.out]; exact hlt)⟩
      obtain ⟨ga, oa, rfl, hca⟩ := (HS.out.next hbel) k p hp
      obtain ⟨E, hE⟩ : ∃ E, decide (p.hit h) = E := ⟨_, rfl⟩
      have hNx := inTo_next (h := h) hp
      rw [hN, hE] at hNx
      have HNX := Lib.hid hNx
      have hma := rmatch_any p h
      rw [hE] at hma
      have HMA := Lib.hid hma
      have hunP := Tryd.underlying25
      have hunH := Tryd.underlying23
      have hz1 : (Tryd.prog.info? 25).map (·.size) = some p.cells.length := by rw [Pat.cells_length]; exact Tryd.szP
      have hz2 : (Tryd.prog.info? 23).map (·.size) = some (H h).length := by rw [H_length]; exact Tryd.szH
      clear hp hN hNx hma hE
      go_wp2
      have hdd := below_drew wr
      have hrg : ∀ w', Below wr.heap.size wr w' → w'.rangeAt ga (oa + k * 20) p.cells ∧ w'.rangeAt gh 0 (H h) := fun w' hw => ⟨fun q u hu => by rw [hw.cell (World.block_lt_of_cell? wr _ (hca q u hu))]; exact hca q u hu, blk_range (hH.next hw hH.lt)⟩
      have HRG := Lib.hid hrg
      clear hrg
      refine wp_region_held_drew (S := fun w' => w'.rangeAt ga (oa + k * 20) p.cells ∧ w'.rangeAt gh 0 (H h)) (by kernel_rfl) (HRG.out _ hdd) (fun hHeld => ?_)
      generalize wr.drew = wd at hdd hHeld ⊢
      clear hca
      refine wpAnyH_take (i := 0) (v := ?vv0) rfl (by kernel_rfl) (by kernel_rfl) (by kernel_rfl) (fun _ _ _ h => h) (Or.inl ⟨by rfl, ?yv0⟩) (by assumption) ?rv0
      case yv0 => intro w hSw; (try dsimp only at hSw); go_simp <;> (try with_reducible rfl)
      (try simp only [List.getElem_toArray, List.getElem_cons_zero, Act.put, List.setIfInBounds_toArray, List.set_cons_zero, List.set_cons_succ])
      refine wpAnyH_take (i := 1) (v := ?vv1) rfl (by kernel_rfl) (by kernel_rfl) (by kernel_rfl) (fun _ _ _ h => h) (Or.inl ⟨by rfl, ?yv1⟩) (by assumption) ?rv1
      case yv1 => intro w hSw; (try dsimp only at hSw); go_simp <;> (try with_reducible rfl)
      (try simp only [List.getElem_toArray, List.getElem_cons_succ, List.getElem_cons_zero, Act.put, List.setIfInBounds_toArray, List.set_cons_zero, List.set_cons_succ])
      refine wpAnyH_take (i := 2) (v := ?vv2) rfl (by kernel_rfl) (by kernel_rfl) (by kernel_rfl) (fun _ _ _ h => h) (Or.inl ⟨by rfl, ?yv2⟩) (by assumption) ?rv2
      case yv2 => intro w hSw; (try dsimp only at hSw); go_simp <;> (try with_reducible rfl)
      (try simp only [List.getElem_toArray, List.getElem_cons_succ, List.getElem_cons_zero, Act.put, List.setIfInBounds_toArray, List.set_cons_zero, List.set_cons_succ])
      refine' wpAnyH_take (i := 3) (v := _) rfl (by kernel_rfl) (by kernel_rfl) (by kernel_rfl) (fun _ _ _ h => h) (yieldsIf_load_mid (by rfl) _ _ (by rfl) _ _ (by rfl) _ _ ?Sv3 ?uv3 ?dv3 ?iv3) (by assumption) ?rv3
      case Sv3 => exact (by intro w h; exact h.1)
      case uv3 => exact hunP
      case dv3 => rfl
      case iv3 => exact hz1
      (try simp only [List.getElem_toArray, List.getElem_cons_succ, List.getElem_cons_zero, Act.put, List.setIfInBounds_toArray, List.set_cons_zero, List.set_cons_succ])
      refine' wpAnyH_take (i := 4) (v := _) rfl (by kernel_rfl) (by kernel_rfl) (by kernel_rfl) (fun _ _ _ h => h) (yieldsIf_load_mid (by rfl) _ _ (by rfl) _ _ (by rfl) _ _ ?Sv4 ?uv4 ?dv4 ?iv4) (by assumption) ?rv4
      case Sv4 => exact (by intro w h; exact h.2)
      case uv4 => exact hunH
      case dv4 => rfl
      case iv4 => exact hz2
      (try simp only [List.getElem_toArray, List.getElem_cons_succ, List.getElem_cons_zero, Act.put, List.setIfInBounds_toArray, List.set_cons_zero, List.set_cons_succ])
      refine wpAnyH_ready (rs := [5]) (by kernel_rfl) (by simp) ?_
      refine AllReadyH.cons rfl (fun K hK => ?_) AllReadyH.nil
      go_simp
      go_wp2_with fail
      (with_reducible refine (HMA.out _).mono ?_)
      rintro e wA ⟨rfl, hbA⟩
      have hkA := below_join hdd hbA
      refine hK.out _ _ (HRG.out _ hkA) (fun hHeld => ?_)
      clear hK K hdd hbA
      refine wpAnyH_take (i := 6) (v := ?vv6) rfl (by kernel_rfl) (by kernel_rfl) (by kernel_rfl) (fun _ _ _ h => h) (Or.inl ⟨by rfl, ?yv6⟩) (by assumption) ?rv6
      case yv6 => intro w hSw; (try dsimp only at hSw); go_simp <;> (try with_reducible rfl)
      (try simp only [List.getElem_toArray, List.getElem_cons_succ, List.getElem_cons_zero, Act.put, List.setIfInBounds_toArray, List.set_cons_zero, List.set_cons_succ])
      refine wpAnyH_done (by kernel_rfl) ?_ _
      have hH2 := hH.next hkA hH.lt
      have hbel2 := hbel.trans (hkA.mono hbel.size)
      clear hH hbel hkA
      rcases E with _ | _
      · go_wp2
        go_roundw
        case rel => exact ⟨k + 1, N, by omega, by go_num, rfl, HNX.out, hH2, hbel2⟩
        case measure => simp [intOf]; omega
      · go_wp2
        go_roundw
        case rel => exact ⟨k + 1, N + 1, by omega, by go_num, by go_num, HNX.out, hH2, hbel2⟩
        case measure => simp [intOf]; omega
    · obtain rfl : k = n := by omega
      obtain rfl : D = N := by rw [← hD.out]; exact hN
      go_wp2
      go_ret
      exact ⟨rfl, hbel⟩
end Go.Proofs.YtbldnhpbmfmepaaDoor

/-
  Contract of the walk over the reference's Fixed. Conditions: a row of patterns lies there.
-/
namespace Go.Proofs.YtbldnhpbmfmepaaDoor
set_option linter.unusedVariables false
set_option linter.unusedSimpArgs false
open Go.RowKit

/-- The bits that one of the first k patterns fixes. -/
def fixTo (l : List Pat) (k : Nat) : Nat → Bool := fun i => (l.take k).any fun p => p.m i
theorem fixTo_next {l : List Pat} {k : Nat} {p : Pat} (hp : l[k]? = some p) : (⟨p.m, p.m⟩ : Pat).app (fixTo l k) = fixTo l (k + 1) := by
  obtain ⟨hk, e⟩ := List.getElem?_eq_some_iff.1 hp
  funext i
  show ((fixTo l k i && !p.m i) || p.m i) = (l.take (k + 1)).any fun p => p.m i
  rw [List.take_succ_eq_append_getElem hk, List.any_append, e]
  show _ = (fixTo l k i || (p.m i || false))
  cases fixTo l k i <;> cases p.m i <;> rfl
def RFixRel (l : List Pat) (n gp : Nat) (w : World) (i : Value) (wr : World) : Prop :=
  ∃ k : Nat, k ≤ n ∧ i = .int .i64 (k : Int) ∧ Blk wr gp 25 (⟨fixTo l k, no⟩ : Pat).cells ∧ Below w.heap.size w wr
set_option maxRecDepth 100000 in
set_option maxHeartbeats 3200000 in
theorem rfixed_any (A : Option Addr) (c : Nat) (l : List Pat) (w : World) (hl : l.length ≤ 140737488355328) (hS : PatsAt w A l) :
    Calls Tryd.prog 72 #[.slice A l.length c] w fun e w' => e = .returned (.int .i64 (cnt (fixTo l l.length) 0 160 : Int)) ∧ Below w.heap.size w w' := by
  obtain ⟨D, hD⟩ : ∃ D, Hid (cnt (fixTo l l.length) 0 160 = D) := ⟨_, rfl⟩
  rw [hD.out]
  have HS := Lib.hid hS
  obtain ⟨n, hn⟩ : ∃ n, Hid (l.length = n) := ⟨_, rfl⟩
  rw [hn.out] at hl hD ⊢
  clear hS
  go_enter Tryd.func72, Tryd.ntmps72
  go_wp2_with (first | (with_reducible refine wpList_build (o := ⟨some 5, .build 25 #[], _, _, _, _⟩) (by with_unfolding_all rfl) 25 #[] (by with_unfolding_all rfl) #[] (by with_unfolding_all rfl) (.agg Pat.zero.cells.toArray) (by with_unfolding_all exact fun w => run_buildP0 w) ?_) | (with_reducible refine wpList_alloc (o := ⟨some 3, .alloc 25, _, _, _, _⟩) (by with_unfolding_all rfl) 25 (by with_unfolding_all rfl) (.agg (H no ++ H no).toArray) (H no ++ H no) (by exact Tryd.zeroPt) (by with_unfolding_all rfl) ?_))
  intro gp w2 hgp hs2 hb2 hP2
  rw [cells_zero] at hP2
  have hlep : w.heap.size ≤ gp := Nat.le_of_eq hgp.out.symm
  have hbel2 := hb2.mono hlep
  clear hgp hs2 hb2
  go_wp2_with (with_reducible refine wpList_put (o := ⟨none, .store 25 (.tmp 3) (.tmp 5), _, _, _, _⟩) (by with_unfolding_all rfl) 25 (.tmp 3) (.tmp 5) (by with_unfolding_all rfl) gp 0 (by with_unfolding_all rfl) (.agg Pat.zero.cells.toArray) (by with_unfolding_all rfl) hP2 Pat.zero.cells (by with_unfolding_all rfl) (by with_unfolding_all (rw [Pat.cells_length]; exact Tryd.szP)) (by with_unfolding_all (rw [Pat.cells_length]; omega)) (by with_unfolding_all (exact cells_one _)) ?_)
  intro w3 hu3 hP3
  rw [splice_all _ _ rfl] at hP3
  have hbel3 := hbel2.trans (hu3.below (B := w.heap.size) hlep)
  clear hP2 hbel2 hu3
  go_wp2
  go_loopw [4] (RFixRel l n gp w) (fun i _ => n - (intOf i).toNat)
  case atStart => exact ⟨0, by omega, rfl, hP3, hbel3⟩
  case round =>
    clear hP3 hbel3
    obtain ⟨k, hk, rfl, hP, hbel⟩ := hrel
    by_cases hlt : k < n
    · have hki : (k : Int) < (n : Int) := by omega
      obtain ⟨p, hp⟩ : ∃ p, l[k]? = some p := ⟨_, List.getElem?_eq_getElem (by rw [hn.out]; exact hlt)⟩
      obtain ⟨ga, oa, rfl, hca⟩ := (HS.out.next hbel) k p hp
      have hLt : Hid (ga < w.heap.size) := by
        obtain ⟨g, o, e, hc⟩ := HS.out k p hp
        cases e
        have : ga < w.heap.size := World.block_lt_of_cell? w _ (hc 0 _ (cells_m p (by omega)))
        exact this
      obtain ⟨F, hF⟩ : ∃ F, fixTo l k = F := ⟨_, rfl⟩
      obtain ⟨G, hG⟩ : ∃ G, fixTo l (k + 1) = G := ⟨_, rfl⟩
      have hnx := fixTo_next hp
      rw [hF, hG] at hnx
      have hap := fun w => rapply_any ⟨p.m, p.m⟩ F w (fun _ _ h => h)
      rw [hnx] at hap
      have HAP := Lib.hid hap
      have HG := Lib.hid hG
      rw [hF] at hP
      have hbd : ∀ w, (Instr.build 43 #[(0, .agg (H p.m).toArray), (1, .agg (H p.m).toArray)]).run Tryd.prog w = .ok (.agg (⟨p.m, p.m⟩ : Pat).cells.toArray) w := fun w => run_buildM w _ _ (H_length _) (H_length _)
      have hun := Tryd.underlying23
      have hz1 : (Tryd.prog.info? 23).map (·.size) = some (H p.m).length := by rw [H_length]; exact Tryd.szH
      have hz2 : (Tryd.prog.info? 23).map (·.size) = some (H F).length := by rw [H_length]; exact Tryd.szH
      have hcm : wr.rangeAt ga (oa + k * 20) (H p.m) := fun q u hu => hca q u (by
        unfold Pat.cells
        rw [List.getElem?_append_left (List.getElem?_eq_some_iff.1 hu).1]; exact hu)
      clear hp hF hG hnx hap hca
      go_wp2
      have hdd := below_drew wr
      have hrg : ∀ w', Below wr.heap.size wr w' → w'.rangeAt ga (oa + k * 20) (H p.m) := fun w' hw => fun q u hu => by rw [hw.cell (World.block_lt_of_cell? wr _ (hcm q u hu))]; exact hcm q u hu
      have HRG := Lib.hid hrg
      clear hrg
      have hP6 := hP.next hdd hP.lt
      clear hP
      refine wp_region_held_drew (S := fun w' => w'.rangeAt ga (oa + k * 20) (H p.m)) (by kernel_rfl) (HRG.out _ hdd) (fun hHeld => ?_)
      generalize wr.drew = wd at hdd hHeld hP6 ⊢
      clear hcm
      refine wpAnyH_take (i := 0) (v := ?vv0) rfl (by kernel_rfl) (by kernel_rfl) (by kernel_rfl) (fun _ _ _ h => h) (Or.inl ⟨by rfl, ?yv0⟩) (by assumption) ?rv0
      case yv0 => intro w hSw; (try dsimp only at hSw); go_simp <;> (try with_reducible rfl)
      (try simp only [List.getElem_toArray, List.getElem_cons_zero, Act.put, List.setIfInBounds_toArray, List.set_cons_zero, List.set_cons_succ])
      refine wpAnyH_take (i := 1) (v := ?vv1) rfl (by kernel_rfl) (by kernel_rfl) (by kernel_rfl) (fun _ _ _ h => h) (Or.inl ⟨by rfl, ?yv1⟩) (by assumption) ?rv1
      case yv1 => intro w hSw; (try dsimp only at hSw); go_simp <;> (try with_reducible rfl)
      (try simp only [List.getElem_toArray, List.getElem_cons_succ, List.getElem_cons_zero, Act.put, List.setIfInBounds_toArray, List.set_cons_zero, List.set_cons_succ])
      refine wpAnyH_take (i := 2) (v := ?vv2) rfl (by kernel_rfl) (by kernel_rfl) (by kernel_rfl) (fun _ _ _ h => h) (Or.inl ⟨by rfl, ?yv2⟩) (by assumption) ?rv2
      case yv2 => intro w hSw; (try dsimp only at hSw); go_simp <;> (try with_reducible rfl)
      (try simp only [List.getElem_toArray, List.getElem_cons_succ, List.getElem_cons_zero, Act.put, List.setIfInBounds_toArray, List.set_cons_zero, List.set_cons_succ])
      refine wpAnyH_take (i := 3) (v := ?vv3) rfl (by kernel_rfl) (by kernel_rfl) (by kernel_rfl) (fun _ _ _ h => h) (Or.inl ⟨by rfl, ?yv3⟩) (by assumption) ?rv3
      case yv3 => intro w hSw; (try dsimp only at hSw); go_simp <;> (try with_reducible rfl)
      (try simp only [List.getElem_toArray, List.getElem_cons_succ, List.getElem_cons_zero, Act.put, List.setIfInBounds_toArray, List.set_cons_zero, List.set_cons_succ])
      refine' wpAnyH_take (i := 4) (v := _) rfl (by kernel_rfl) (by kernel_rfl) (by kernel_rfl) (fun _ _ _ h => h) (yieldsIf_load_mid (by rfl) _ _ (by rfl) _ _ (by rfl) _ _ ?Sv4 ?uv4 ?dv4 ?iv4) (by assumption) ?rv4
      case Sv4 => exact (by intro w h; exact h)
      case uv4 => exact hun
      case dv4 => rfl
      case iv4 => exact hz1
      (try simp only [List.getElem_toArray, List.getElem_cons_succ, List.getElem_cons_zero, Act.put, List.setIfInBounds_toArray, List.set_cons_zero, List.set_cons_succ])
      refine wpAnyH_take (i := 5) (v := ?vv5) rfl (by kernel_rfl) (by kernel_rfl) (by kernel_rfl) (fun _ _ _ h => h) (Or.inl ⟨by rfl, ?yv5⟩) (by assumption) ?rv5
      case yv5 => intro w hSw; (try dsimp only at hSw); go_simp <;> (try with_reducible rfl)
      (try simp only [List.getElem_toArray, List.getElem_cons_succ, List.getElem_cons_zero, Act.put, List.setIfInBounds_toArray, List.set_cons_zero, List.set_cons_succ])
      refine wpAnyH_take (i := 6) (v := ?vv6) rfl (by kernel_rfl) (by kernel_rfl) (by kernel_rfl) (fun _ _ _ h => h) (Or.inl ⟨by rfl, ?yv6⟩) (by assumption) ?rv6
      case yv6 => intro w hSw; (try dsimp only at hSw); go_simp <;> (try with_reducible rfl)
      (try simp only [List.getElem_toArray, List.getElem_cons_succ, List.getElem_cons_zero, Act.put, List.setIfInBounds_toArray, List.set_cons_zero, List.set_cons_succ])
      refine wpAnyH_take (i := 7) (v := ?vv7) rfl (by kernel_rfl) (by kernel_rfl) (by kernel_rfl) (fun _ _ _ h => h) (Or.inl ⟨by rfl, ?yv7⟩) (by assumption) ?rv7
      case yv7 => intro w hSw; (try dsimp only at hSw); go_simp <;> (try with_reducible rfl)
      (try simp only [List.getElem_toArray, List.getElem_cons_succ, List.getElem_cons_zero, Act.put, List.setIfInBounds_toArray, List.set_cons_zero, List.set_cons_succ])
      refine wpAnyH_take (i := 8) (v := ?vv8) rfl (by kernel_rfl) (by kernel_rfl) (by kernel_rfl) (fun _ _ _ h => h) (Or.inl ⟨by rfl, ?yv8⟩) (by assumption) ?rv8
      case yv8 => intro w hSw; (try dsimp only at hSw); go_simp <;> (try with_reducible rfl)
      (try simp only [List.getElem_toArray, List.getElem_cons_succ, List.getElem_cons_zero, Act.put, List.setIfInBounds_toArray, List.set_cons_zero, List.set_cons_succ])
      refine' wpAnyH_take (i := 9) (v := _) rfl (by kernel_rfl) (by kernel_rfl) (by kernel_rfl) (fun _ _ _ h => h) (yieldsIf_load_mid (by rfl) _ _ (by rfl) _ _ (by rfl) _ _ ?Sv9 ?uv9 ?dv9 ?iv9) (by assumption) ?rv9
      case Sv9 => exact (by intro w h; exact h)
      case uv9 => exact hun
      case dv9 => rfl
      case iv9 => exact hz1
      (try simp only [List.getElem_toArray, List.getElem_cons_succ, List.getElem_cons_zero, Act.put, List.setIfInBounds_toArray, List.set_cons_zero, List.set_cons_succ])
      refine wpAnyH_take (i := 10) (v := .agg (⟨p.m, p.m⟩ : Pat).cells.toArray) rfl (by kernel_rfl) (by kernel_rfl) (by kernel_rfl) (fun _ _ _ h => h) (Or.inl ⟨by rfl, ?yb⟩) (by assumption) ?rb
      case yb =>
        intro w _
        exact run_execBuild (T := 43) (ps := #[(0, .tmp 16), (1, .tmp 21)]) w (by with_unfolding_all rfl) (by with_unfolding_all rfl) hbd
      (try simp only [List.getElem_toArray, List.getElem_cons_succ, List.getElem_cons_zero, Act.put, List.setIfInBounds_toArray, List.set_cons_zero, List.set_cons_succ])
      refine wpAnyH_take (i := 11) (v := ?vv11) rfl (by kernel_rfl) (by kernel_rfl) (by kernel_rfl) (fun _ _ _ h => h) (Or.inl ⟨by rfl, ?yv11⟩) (by assumption) ?rv11
      case yv11 => intro w hSw; (try dsimp only at hSw); go_simp <;> (try with_reducible rfl)
      (try simp only [List.getElem_toArray, List.getElem_cons_succ, List.getElem_cons_zero, Act.put, List.setIfInBounds_toArray, List.set_cons_zero, List.set_cons_succ])
      refine wpAnyH_ready (rs := [12]) (by kernel_rfl) (by simp) ?_
      refine AllReadyH.cons rfl (fun K hK => ?_) AllReadyH.nil
      rw [if_pos (by rfl)]
      refine' wp_load_mid _ _ rfl gp 0 rfl (H F) _ ?ca1 ?ua1 ?da1 ?ia1 ?ra1
      case ca1 => exact at_m (p := ⟨F, no⟩) hP6
      case ua1 => exact hun
      case da1 => rfl
      case ia1 => exact hz2
      (try simp only [List.getElem_toArray, List.getElem_cons_succ, List.getElem_cons_zero, Act.put, List.setIfInBounds_toArray, List.set_cons_zero, List.set_cons_succ])
      refine hK.out _ _ (HRG.out _ hdd) (fun hHeld => ?_)
      clear hK K
      refine wpAnyH_ready (rs := [13]) (by kernel_rfl) (by simp) ?_
      refine AllReadyH.cons rfl (fun K hK => ?_) AllReadyH.nil
      go_simp
      go_wp2_with fail
      (with_reducible refine (HAP.out _).mono ?_)
      rintro e wA ⟨rfl, hbA⟩
      have hkA := below_join hdd hbA
      replace hP6 := hP6.next hbA hP6.lt
      refine hK.out _ _ (HRG.out _ hkA) (fun hHeld => ?_)
      clear hK K hdd hbA
      refine wpAnyH_take (i := 14) (v := ?vv14) rfl (by kernel_rfl) (by kernel_rfl) (by kernel_rfl) (fun _ _ _ h => h) (Or.inl ⟨by rfl, ?yv14⟩) (by assumption) ?rv14
      case yv14 => intro w hSw; (try dsimp only at hSw); go_simp <;> (try with_reducible rfl)
      (try simp only [List.getElem_toArray, List.getElem_cons_succ, List.getElem_cons_zero, Act.put, List.setIfInBounds_toArray, List.set_cons_zero, List.set_cons_succ])
      refine wpAnyH_ready (rs := [15]) (by kernel_rfl) (by simp) ?_
      refine AllReadyH.cons rfl (fun K hK => ?_) AllReadyH.nil
      rw [if_pos (by rfl)]
      refine wp_put 23 (.tmp 26) (.tmp 25) rfl gp 0 rfl (.agg (H G).toArray) rfl hP6 (H G) rfl (by rw [H_length]; exact Tryd.szH) (by rw [H_length, Pat.cells_length]; omega) (H_one _) ?_
      intro wz huz hPz
      rw [splice_m, ← HG.out] at hPz
      have hgl : ga ≠ gp := fun e => by have := hLt.out; omega
      have hcz : wz.rangeAt ga (oa + k * 20) (H p.m) := fun q u hu => by
        have h1 := HRG.out _ hkA q u hu
        rw [← h1]
        unfold World.cell?
        rw [huz.block ga hgl]
      have hbz := (hbel.trans (hkA.mono hbel.size)).trans (huz.below (B := w.heap.size) hlep)
      refine hK.out _ _ hcz (fun hHeld => ?_)
      clear hK K hP6 hkA huz hbel hcz
      refine wpAnyH_done (by kernel_rfl) ?_ _
      go_wp2
      go_roundw
      case rel => exact ⟨k + 1, by omega, by go_num, hPz, hbz⟩
      case measure => simp [intOf]; omega
    · obtain rfl : k = n := by omega
      have hcl : D ≤ 160 := by rw [← hD.out]; exact cnt_le _ _ _
      have hfr := fun w => rfree_any ⟨fixTo l k, no⟩ w
      rw [show cnt (⟨fixTo l k, no⟩ : Pat).m 0 160 = D from hD.out] at hfr
      obtain ⟨M, hM⟩ : ∃ M, 160 - D = M := ⟨_, rfl⟩
      rw [hM] at hfr
      have hMD : (160 : Int) - (M : Int) = (D : Int) := by omega
      have hM160 : M ≤ 160 := by omega
      have HFR := Lib.hid hfr
      have HMD := Lib.hid hMD
      clear hfr hM hMD hk
      go_wp2_with (with_reducible refine wpList_get (o := ⟨some 27, .load 25 (.tmp 3), _, _, _, _⟩) (by with_unfolding_all rfl) 25 (.tmp 3) (by with_unfolding_all rfl) gp 0 (by with_unfolding_all rfl) hP (⟨fixTo l k, no⟩ : Pat).cells (cs_all _) _ (by exact Tryd.underlying25) (by with_unfolding_all rfl) (by rw [Pat.cells_length]; exact Tryd.szP) ?_)
      (with_reducible refine (HFR.out _).mono ?_)
      rintro e w4 ⟨rfl, hb4⟩
      have hbel4 := hbel.trans (hb4.mono hbel.size)
      go_wp2
      go_ret
      exact ⟨by rw [← HMD.out]; rfl, hbel4⟩
end Go.Proofs.YtbldnhpbmfmepaaDoor

/-
  Words that are right are those of a right pattern. Conditions: ten words in the mask, ten in the bits.
-/
namespace Go.Proofs.YtbldnhpbmfmepaaDoor
set_option linter.unusedVariables false
set_option linter.unusedSimpArgs false
open Go.RowKit

theorem HI_get (f : Nat → Bool) {k : Nat} (h : k < 10) : (HI f)[k]? = some (word f k : Int) := by
  unfold HI
  rw [List.getElem?_map, HN_get f h]; rfl
theorem zipA_HI (f g : Nat → Bool) : zipA (HI f) (HI g) = HI fun i => f i && g i := by
  apply List.ext_getElem?
  intro k
  by_cases hk : k < 10
  · rw [zipA_get (HI_get f hk) (HI_get g hk), HI_get _ hk, wand]
  · rw [List.getElem?_eq_none (by rw [zipA_length (HI_length _) (HI_length _)]; omega), List.getElem?_eq_none (by rw [HI_length]; omega)]
theorem right_head {l : List Int} (hl : l.length = 10) (h : rightI l) : ∃ f, HI f = l := by
  refine ⟨bitsOf (l.map Int.toNat), ?_⟩
  unfold HI
  rw [HN_bitsOf (by rw [List.length_map]; exact hl) (fun x hx => by
    obtain ⟨y, hy, rfl⟩ := List.mem_map.1 hx
    have := h y hy
    omega), List.map_map]
  have : ∀ x ∈ l, ((fun n : Nat => (n : Int)) ∘ Int.toNat) x = id x := fun x hx => by
    have := h x hx
    show ((x.toNat : Nat) : Int) = x
    omega
  rw [List.map_congr_left this, List.map_id]
theorem right_pat {m b : List Int} (hm : m.length = 10) (hb : b.length = 10) (h : pairI m b = true) : ∃ p : Pat, p.ok ∧ HI p.m = m ∧ HI p.b = b := by
  unfold pairI at h
  rw [Bool.and_eq_true, decide_eq_true_eq, decide_eq_true_eq] at h
  obtain ⟨f, rfl⟩ := right_head hm h.1
  obtain ⟨g, rfl⟩ := right_head hb (right_within hm hb h.1 h.2)
  refine ⟨⟨f, g⟩, fun i hi hg => ?_, rfl, rfl⟩
  have e := h.2
  rw [zipA_HI] at e
  have h1 : (g i && f i) = g i := HI_inj e i hi
  have hg' : g i = true := hg
  rw [hg', Bool.true_and] at h1
  exact h1
theorem pat_right {p : Pat} (h : p.ok) : pairI (HI p.m) (HI p.b) = true := by
  unfold pairI
  rw [Bool.and_eq_true, decide_eq_true_eq, decide_eq_true_eq, zipA_HI]
  refine ⟨fun x hx => ?_, HI_congr fun i hi => ?_⟩
  · unfold HI HN at hx
    obtain ⟨y, hy, rfl⟩ := List.mem_map.1 hx
    obtain ⟨k, _, rfl⟩ := List.mem_map.1 hy
    have := word_lt p.m k
    omega
  · have h1 := h i hi
    revert h1
    cases p.m i <;> cases p.b i <;> simp
theorem rawCells_pat (p : Pat) : rawCells (HI p.m, HI p.b) = p.cells := by
  unfold rawCells Pat.cells
  rw [H_iV, H_iV]
end Go.Proofs.YtbldnhpbmfmepaaDoor

/-
  Contracts of the walk over the reference's Few. Conditions: rows of words, or of patterns, lie there.
-/
namespace Go.Proofs.YtbldnhpbmfmepaaDoor
set_option linter.unusedVariables false
set_option linter.unusedSimpArgs false
open Go.RowKit

theorem add_none (g o n : Nat) : (⟨g, o, none⟩ : Addr).add n = ⟨g, o + n, none⟩ := by
  unfold Addr.add
  split
  · next h => simp [h]
  · rfl
def rawOf (l : List Pat) : List (List Int × List Int) := l.map fun p => (HI p.m, HI p.b)
theorem PatsAt.raw {w : World} {A : Option Addr} {l : List Pat} (h : PatsAt w A l) : RawAt w A (rawOf l) := fun k r hr => by
  unfold rawOf at hr
  rw [List.getElem?_map] at hr
  cases hp : l[k]? with
  | none => rw [hp] at hr; cases hr
  | some p =>
    rw [hp] at hr
    injection hr with hr
    obtain ⟨g, o, e, hc⟩ := h k p hp
    subst hr
    exact ⟨⟨g, o, none⟩, e, fun q u hu => by
      have h1 := hc q u (by rw [rawCells_pat] at hu; exact hu)
      rw [add_none, add_none]; exact h1⟩
theorem rawOf_tens (l : List Pat) : Tens (rawOf l) := fun r hr => by
  unfold rawOf at hr
  obtain ⟨p, _, rfl⟩ := List.mem_map.1 hr
  exact ⟨HI_length _, HI_length _⟩
theorem rawOf_right {l : List Pat} (h : ∀ p ∈ l, p.ok) : ((rawOf l).all fun r => pairI r.1 r.2) = true := by
  rw [List.all_eq_true]
  intro r hr
  unfold rawOf at hr
  obtain ⟨p, hp, rfl⟩ := List.mem_map.1 hr
  exact pat_right (h p hp)
set_option maxRecDepth 100000 in
set_option maxHeartbeats 1600000 in
theorem rfew_raw (A : Option Addr) (c : Nat) (l : List (List Int × List Int)) (most : Int) (w : World) (hl : l.length ≤ 140737488355328) (hT : Tens l) (hS : RawAt w A l) (hno : (l.all fun r => pairI r.1 r.2) = false) :
    Calls Tryd.prog 52 #[.slice A l.length c, .int .i64 most] w fun e w' => e = .returned (.bool false) ∧ Below w.heap.size w w' := by
  have hra := fun w h => rrightAll_any A c l w hl hT h
  rw [hno] at hra
  have HRA := Lib.hid hra
  have HS := Lib.hid hS
  clear hra hS hno hT
  go_enter Tryd.func52, Tryd.ntmps52
  go_wp2_with fail
  (with_reducible refine (HRA.out _ HS.out).mono ?_)
  rintro e w2 ⟨rfl, hb2⟩
  go_wp2
  go_ret
  exact ⟨rfl, hb2⟩
set_option maxRecDepth 100000 in
set_option maxHeartbeats 1600000 in
theorem rfew_pats (A : Option Addr) (c : Nat) (l : List Pat) (most : Nat) (w : World) (hl : l.length ≤ 140737488355328) (hm : most ≤ 1000) (hok : ∀ p ∈ l, p.ok) (hS : PatsAt w A l) :
    Calls Tryd.prog 52 #[.slice A l.length c, .int .i64 (most : Int)] w fun e w' => e = .returned (.bool (decide (l.length ≤ most) && decide (cnt (fixTo l l.length) 0 160 ≤ 12))) ∧ Below w.heap.size w w' := by
  have hlen : (rawOf l).length = l.length := by unfold rawOf; rw [List.length_map]
  have hra := fun w h => rrightAll_any A c (rawOf l) w (by rw [hlen]; exact hl) (rawOf_tens l) h
  rw [rawOf_right hok, hlen] at hra
  have hfi := fun w h => rfixed_any A c l w hl h
  obtain ⟨F, hF⟩ : ∃ F, cnt (fixTo l l.length) 0 160 = F := ⟨_, rfl⟩
  have hF160 : F ≤ 160 := by rw [← hF]; exact cnt_le _ _ _
  rw [hF] at hfi ⊢
  obtain ⟨n, hn⟩ : ∃ n, l.length = n := ⟨_, rfl⟩
  rw [hn] at hra hfi hl ⊢
  obtain ⟨D, hD⟩ : ∃ D, Hid ((decide (n ≤ most) && decide (F ≤ 12)) = D) := ⟨_, rfl⟩
  rw [hD.out]
  have HRA := Lib.hid hra
  have HFI := Lib.hid hfi
  have HS := Lib.hid hS
  clear hra hfi hS hF hn hlen hok
  go_enter Tryd.func52, Tryd.ntmps52
  go_wp2_with fail
  (with_reducible refine (HRA.out _ HS.out.raw).mono ?_)
  rintro e w2 ⟨rfl, hb2⟩
  by_cases h1 : n ≤ most
  · have h1' : (n : Int) ≤ (most : Int) := by omega
    have H1 := Lib.hid (decide_eq_true h1)
    clear h1
    go_wp2_with fail
    (with_reducible refine (HFI.out _ (HS.out.next hb2)).mono ?_)
    rintro e w3 ⟨rfl, hb3⟩
    have hb4 := below_join hb2 hb3
    by_cases h2 : F ≤ 12
    · have h2' : (F : Int) ≤ 12 := by omega
      have H2 := Lib.hid (decide_eq_true h2)
      clear h2
      go_wp2
      go_ret
      exact ⟨by rw [← hD.out, H1.out, H2.out]; rfl, hb4⟩
    · have h2' : ¬ (F : Int) ≤ 12 := by omega
      have H2 := Lib.hid (decide_eq_false h2)
      clear h2
      go_wp2
      go_ret
      exact ⟨by rw [← hD.out, H1.out, H2.out]; show Ending.returned (.bool (decide ((F : Int) ≤ 12))) = _; rw [decide_eq_false (show ¬ (F : Int) ≤ 12 by omega)]; rfl, hb4⟩
  · have h1' : ¬ (n : Int) ≤ (most : Int) := by omega
    have H1 := Lib.hid (decide_eq_false h1)
    clear h1
    go_wp2
    go_ret
    exact ⟨by rw [← hD.out, H1.out]; rfl, hb2⟩
end Go.Proofs.YtbldnhpbmfmepaaDoor

/-
  Why a pattern has no head outside a list of patterns, and how the least head outside is found, in plain words. Conditions: right patterns.
-/
namespace Go.Proofs.YtbldnhpbmfmepaaDoor
set_option linter.unusedVariables false
set_option linter.unusedSimpArgs false
open Go.RowKit

namespace Pat
/-- Some element of a list has the head. -/
def inSome (l : List Pat) (h : Nat → Bool) : Prop := ∃ q, q ∈ l ∧ q.hit h
/-- p agrees with a head on R. -/
def agrees (p : Pat) (R h : Nat → Bool) : Prop := ∀ i, i < 160 → R i = true → p.b i = h i
/-- R, of bits that p fixes, is a reason why p has no head outside a list. -/
def why (l : List Pat) (p : Pat) (R : Nat → Bool) : Prop := (∀ i, i < 160 → R i = true → p.m i = true) ∧ ∀ h, p.agrees R h → inSome l h
/-- x is a part of p that no element overlaps. -/
def clear (l : List Pat) (p x : Pat) : Prop := x.ok ∧ (∀ i, i < 160 → p.m i = true → x.m i = true ∧ x.b i = p.b i) ∧ ∀ q, q ∈ l → ¬ q.over x
theorem only_iff {p q : Pat} {i : Nat} : p.only q i = true ↔ q.m i = true ∧ p.m i = false := by
  unfold only
  cases q.m i <;> cases p.m i <;> simp
theorem piece_m (p q : Pat) {s i : Nat} (h : i ≠ s) : (p.piece q s).m i = (p.m i || (decide (i < s) && q.m i)) := by
  show upd (p.rest q s).m s true i = _
  unfold upd; rw [if_neg h]; rfl
theorem piece_b (p q : Pat) {s i : Nat} (h : i ≠ s) : (p.piece q s).b i = if i < s ∧ p.only q i = true then q.b i else p.b i := by
  show upd (p.rest q s).b s (!q.b s) i = _
  unfold upd; rw [if_neg h]; rfl
theorem piece_ms (p q : Pat) (s : Nat) : (p.piece q s).m s = true := by
  show upd (p.rest q s).m s true s = _
  unfold upd; rw [if_pos rfl]
theorem piece_bs (p q : Pat) (s : Nat) : (p.piece q s).b s = !q.b s := by
  show upd (p.rest q s).b s (!q.b s) s = _
  unfold upd; rw [if_pos rfl]
theorem piece_sub {p q : Pat} {s : Nat} (ho : p.only q s = true) {i : Nat} (hi : p.m i = true) : (p.piece q s).m i = true ∧ (p.piece q s).b i = p.b i := by
  have hne : i ≠ s := fun e => by rw [e, (only_iff.1 ho).2] at hi; cases hi
  refine ⟨by rw [piece_m p q hne, hi]; rfl, ?_⟩
  rw [piece_b p q hne, if_neg]
  intro hc
  rw [(only_iff.1 hc.2).2] at hi; cases hi
theorem why_one {l : List Pat} {p q : Pat} {s : Nat} {R : Nat → Bool} (ho : p.only q s = true) (h : why l (p.piece q s) R) (hs : ∀ i, i < 160 → R i = true → p.m i = true) : why l p R :=
  ⟨hs, fun g hg => h.2 g fun i hi hR => (piece_sub ho (hs i hi hR)).2.trans (hg i hi hR)⟩
theorem why_all {l : List Pat} {p q : Pat} {R : Nat → Bool} (hq : q ∈ l) (ho : p.over q) (hR : ∀ i, i < 160 → q.m i = true → R i = true)
    (hall : ∀ s, s < 160 → p.only q s = true → ∃ R', why l (p.piece q s) R' ∧ ∀ i, i < 160 → R' i = true → R i = true) : why l p fun i => R i && p.m i := by
  refine ⟨fun i _ h => by rw [Bool.and_eq_true] at h; exact h.2, fun h hag => ?_⟩
  have hag' : ∀ i, i < 160 → R i = true → p.m i = true → p.b i = h i := fun i hi h1 h2 => hag i hi (by show (R i && p.m i) = true; rw [h1, h2]; rfl)
  rcases first_one (fun i => p.only q i && (q.b i != h i)) 0 160 with hn | ⟨s, _, hs, h3, h4⟩
  · refine ⟨q, hq, fun i hi hm => ?_⟩
    cases hp : p.m i
    · have h1 := hn i (Nat.zero_le _) hi
      have h2 : p.only q i = true := only_iff.2 ⟨hm, hp⟩
      simp only [h2, Bool.true_and] at h1
      revert h1
      cases q.b i <;> cases h i <;> decide
    · exact (over_iff.1 ho i hi hm hp).symm.trans (hag' i hi (hR i hi hm) hp)
  · simp only [Bool.and_eq_true] at h3
    obtain ⟨R', hw, hsub⟩ := hall s hs h3.1
    refine hw.2 h fun i hi hRi => ?_
    by_cases e : i = s
    · rw [e, piece_bs]
      have := h3.2
      revert this
      cases q.b s <;> cases h s <;> decide
    · have hm := hw.1 i hi hRi
      rw [piece_m p q e] at hm
      rw [piece_b p q e]
      by_cases hc : i < s ∧ p.only q i = true
      · rw [if_pos hc]
        have := h4 i (Nat.zero_le _) hc.1
        simp only [hc.2, Bool.true_and] at this
        revert this
        cases q.b i <;> cases h i <;> decide
      · rw [if_neg hc]
        refine hag' i hi (hsub i hi hRi) ?_
        cases hp : p.m i
        · rw [hp, Bool.false_or, Bool.and_eq_true, decide_eq_true_eq] at hm
          exact absurd ⟨hm.1, only_iff.2 ⟨hm.2, hp⟩⟩ hc
        · rfl
theorem clear_self {l : List Pat} {p : Pat} (hp : p.ok) (h : ∀ q, q ∈ l → ¬ q.over p) : clear l p p := ⟨hp, fun _ _ h => ⟨h, rfl⟩, h⟩
theorem clear_piece {l : List Pat} {p q x : Pat} {s : Nat} (ho : p.only q s = true) (h : clear l (p.piece q s) x) : clear l p x :=
  ⟨h.1, fun i hi hm => by
    have h1 := piece_sub ho hm
    have h2 := h.2.1 i hi h1.1
    exact ⟨h2.1, h2.2.trans h1.2⟩, h.2.2⟩
theorem clear_hit {l : List Pat} {p x : Pat} (h : clear l p x) : p.hit x.b := fun i hi hm => (h.2.1 i hi hm).2.symm
theorem clear_out {l : List Pat} {p x : Pat} (h : clear l p x) : ¬ inSome l x.b := by
  rintro ⟨q, hq, hh⟩
  exact h.2.2 q hq (over_iff.2 fun i hi _ h2 => hh i hi h2)
theorem why_none {l : List Pat} {p : Pat} {R : Nat → Bool} (h : why l p R) : ∀ g, p.hit g → inSome l g := fun g hg => h.2 g fun i hi hR => hg i hi (h.1 i hi hR)
theorem over_symm {p q : Pat} (h : p.over q) : q.over p := over_iff.2 fun i hi h1 h2 => (over_iff.1 h i hi h2 h1).symm
/-- The least head of p outside a list. -/
def least (l : List Pat) (p : Pat) (m : Nat → Bool) : Prop := p.hit m ∧ ¬ inSome l m ∧ ∀ g, p.hit g → ¬ inSome l g → num m ≤ num g
theorem least_any {l : List Pat} {p : Pat} (n : Nat) : ∀ g : Nat → Bool, num g < n → p.hit g → ¬ inSome l g → ∃ m, least l p m := by
  induction n with
  | zero => intro g h; exact absurd h (Nat.not_lt_zero _)
  | succ n ih =>
    intro g hn hg ho
    by_cases hc : ∃ g', num g' < num g ∧ p.hit g' ∧ ¬ inSome l g'
    · obtain ⟨g', h1, h2, h3⟩ := hc
      exact ih g' (Nat.lt_of_lt_of_le h1 (Nat.le_of_lt_succ hn)) h2 h3
    · refine ⟨g, hg, ho, fun g' h1 h2 => ?_⟩
      rcases Nat.lt_or_ge (num g') (num g) with h | h
      · exact absurd ⟨g', h, h1, h2⟩ hc
      · exact h
theorem least_one {l : List Pat} {p : Pat} {m m' : Nat → Bool} (h : least l p m) (h' : least l p m') : ∀ i, i < 160 → m i = m' i := fun _ hi =>
  num_inj (Nat.le_antisymm (h.2.2 m' h'.1 h'.2.1) (h'.2.2 m h.1 h.2.1)) hi
/-- p, with its free bits below k as a head has them. -/
def upTo (p : Pat) (m : Nat → Bool) (k : Nat) : Pat := ⟨fun i => p.m i || decide (i < k), fun i => if p.m i then p.b i else (decide (i < k) && m i)⟩
theorem upTo_zero {p : Pat} (hp : p.ok) (m : Nat → Bool) : (p.upTo m 0).cells = p.cells := cells_congr ⟨fun i _ => by simp [upTo], fun i hi => by
  show (if p.m i then p.b i else _) = _
  cases h : p.m i
  · cases hb : p.b i
    · simp
    · have := hp i hi hb; rw [h] at this; cases this
  · simp⟩
theorem upTo_skip {p : Pat} {m : Nat → Bool} {k : Nat} (h : p.m k = true) : (p.upTo m k).cells = (p.upTo m (k + 1)).cells := by
  refine cells_congr ⟨fun i _ => ?_, fun i _ => ?_⟩
  · show (p.m i || _) = (p.m i || _)
    by_cases e : i = k
    · rw [e, h]; rfl
    · rw [show decide (i < k + 1) = decide (i < k) by simp; omega]
  · show (if p.m i then _ else _) = if p.m i then _ else _
    by_cases e : i = k
    · rw [e, h]; rfl
    · rw [show decide (i < k + 1) = decide (i < k) by simp; omega]
theorem upTo_m (p : Pat) (m : Nat → Bool) (k : Nat) : (p.upTo m k).m k = p.m k := by simp [upTo]
theorem upTo_b {p : Pat} {m : Nat → Bool} {k : Nat} (h : p.m k = false) : (p.upTo m k).b k = false := by simp [upTo, h]
/-- The next bit is fixed as it stands. -/
def low (p : Pat) (m : Nat → Bool) (k : Nat) : Pat := ⟨upd (p.upTo m k).m k true, (p.upTo m k).b⟩
theorem low_next {p : Pat} {m : Nat → Bool} {k : Nat} (h : p.m k = false) (hm : m k = false) : (p.low m k).cells = (p.upTo m (k + 1)).cells := by
  refine cells_congr ⟨fun i _ => ?_, fun i _ => ?_⟩
  · show upd _ k true i = (p.m i || _)
    unfold upd
    by_cases e : i = k
    · rw [if_pos e, e]; simp
    · rw [if_neg e, show decide (i < k + 1) = decide (i < k) by simp; omega]; rfl
  · show (if p.m i then _ else _) = if p.m i then _ else _
    by_cases e : i = k
    · rw [e, h, hm]; simp
    · rw [show decide (i < k + 1) = decide (i < k) by simp; omega]
theorem high_next {p : Pat} {m : Nat → Bool} {k : Nat} (h : p.m k = false) (hm : m k = true) : (⟨(p.low m k).m, upd (p.low m k).b k true⟩ : Pat).cells = (p.upTo m (k + 1)).cells := by
  refine cells_congr ⟨fun i _ => ?_, fun i _ => ?_⟩
  · show upd _ k true i = (p.m i || _)
    unfold upd
    by_cases e : i = k
    · rw [if_pos e, e]; simp
    · rw [if_neg e, show decide (i < k + 1) = decide (i < k) by simp; omega]; rfl
  · show upd _ k true i = if p.m i then _ else _
    unfold upd
    by_cases e : i = k
    · rw [if_pos e, e, h, hm]; simp
    · rw [if_neg e, show decide (i < k + 1) = decide (i < k) by simp; omega]; rfl
theorem upTo_hit {p : Pat} {m : Nat → Bool} (h : p.hit m) (k : Nat) : (p.upTo m k).hit m := fun i hi hm => by
  show (if p.m i then p.b i else _) = _
  cases hp : p.m i
  · have h1 : (p.m i || decide (i < k)) = true := hm
    rw [hp, Bool.false_or] at h1
    simp [h1]
  · simpa using h i hi hp
theorem hit_upTo {p : Pat} {m h : Nat → Bool} {k : Nat} (hh : (p.upTo m k).hit h) : p.hit h := fun i hi hm => by
  have h1 := hh i hi (by show (p.m i || _) = true; rw [hm]; rfl)
  have h2 : (p.upTo m k).b i = p.b i := by show (if p.m i then p.b i else _) = _; rw [if_pos hm]
  exact h2.symm.trans h1
theorem low_hit {p : Pat} {m h : Nat → Bool} {k : Nat} : (p.low m k).hit h ↔ (p.upTo m k).hit h ∧ (k < 160 → (p.upTo m k).b k = h k) := by
  constructor
  · intro hh
    refine ⟨fun i hi hm => hh i hi ?_, fun hk => hh k hk ?_⟩
    · show upd _ k true i = true
      unfold upd
      by_cases e : i = k
      · rw [if_pos e]
      · rw [if_neg e]; exact hm
    · show upd _ k true k = true
      unfold upd; rw [if_pos rfl]
  · rintro ⟨h1, h2⟩ i hi hm
    by_cases e : i = k
    · rw [e] at hi ⊢; exact h2 hi
    · refine h1 i hi ?_
      have : upd (p.upTo m k).m k true i = true := hm
      unfold upd at this
      rw [if_neg e] at this; exact this
/-- As long as a head agrees with the least one, it has no bit less. -/
theorem least_low {l : List Pat} {p : Pat} {m h : Nat → Bool} {k : Nat} (hm : least l p m) (hk : k < 160) (hh : (p.upTo m k).hit h) (ho : ¬ inSome l h) (h0 : h k = false) : m k = false := by
  cases hmk : m k
  · rfl
  · have hlt : num h < num m := num_lt hk (fun j hj => by
      have h1 := hh j (by omega) (by show (p.m j || decide (j < k)) = true; rw [decide_eq_true hj]; simp)
      rw [← h1]
      exact upTo_hit hm.1 k j (by omega) (by show (p.m j || decide (j < k)) = true; rw [decide_eq_true hj]; simp)) h0 hmk
    have := hm.2.2 h (hit_upTo hh) ho
    omega
theorem least_high {l : List Pat} {p : Pat} {m : Nat → Bool} {R : Nat → Bool} {k : Nat} (hm : least l p m) (hp : p.m k = false) (hw : why l (p.low m k) R) : m k = true := by
  cases hmk : m k
  · exact absurd (why_none hw m (low_hit.2 ⟨upTo_hit hm.1 k, fun _ => by rw [upTo_b hp, hmk]⟩)) hm.2.1
  · rfl
theorem hit_congr {p q : Pat} (h : p.cells = q.cells) {g : Nat → Bool} : p.hit g ↔ q.hit g := by
  have e := cells_inj h
  exact ⟨fun hh i hi hm => (e.2 i hi).symm.trans (hh i hi ((e.1 i hi).trans hm)), fun hh i hi hm => (e.2 i hi).trans (hh i hi ((e.1 i hi).symm.trans hm))⟩
theorem upTo_all {p : Pat} {m h : Nat → Bool} (hm : p.hit m) (hh : (p.upTo m 160).hit h) : ∀ i, i < 160 → h i = m i := fun i hi => by
  have e : (p.upTo m 160).m i = true := by show (p.m i || decide (i < 160)) = true; rw [decide_eq_true hi]; simp
  exact (hh i hi e).symm.trans (upTo_hit hm 160 i hi e)
theorem upTo_ok {p : Pat} (m : Nat → Bool) (k : Nat) (hp : p.ok) : (p.upTo m k).ok := fun i hi hb => by
  have hb' : (if p.m i then p.b i else (decide (i < k) && m i)) = true := hb
  show (p.m i || decide (i < k)) = true
  cases h : p.m i
  · rw [h] at hb'
    simp at hb'
    simp [hb'.1]
  · rfl
theorem low_ok {p : Pat} (m : Nat → Bool) (k : Nat) (hp : p.ok) : (p.low m k).ok := fun i hi hb => by
  show upd _ k true i = true
  unfold upd
  by_cases e : i = k
  · rw [if_pos e]
  · rw [if_neg e]; exact upTo_ok m k hp i hi hb
end Pat
theorem wordB_mono {f g : Nat → Bool} {b : Nat} : ∀ {k}, (∀ j, j < k → f (b + j) = true → g (b + j) = true) → wordB f b k ≤ wordB g b k
  | 0, _ => Nat.le_refl _
  | k + 1, h => by
    have h1 := wordB_mono (f := f) (g := g) (b := b) (k := k) fun j hj => h j (by omega)
    have h2 := h k (by omega)
    unfold wordB
    cases hf : f (b + k) <;> cases hg : g (b + k)
    · simp; omega
    · simp; omega
    · rw [hf, hg] at h2; cases h2 rfl
    · simp; omega
theorem num_mono {f g : Nat → Bool} (h : ∀ i, i < 160 → f i = true → g i = true) : num f ≤ num g := wordB_mono fun j hj => by rw [Nat.zero_add]; exact h j hj
theorem Pat.upTo_le {p : Pat} {m : Nat → Bool} (hm : p.hit m) (k : Nat) : num (p.upTo m k).b ≤ num m := num_mono fun i hi hb => by
  have hb' : (if p.m i then p.b i else (decide (i < k) && m i)) = true := hb
  cases h : p.m i
  · rw [h] at hb'
    simp at hb'
    exact hb'.2
  · rw [h, if_pos rfl] at hb'
    rw [← hm i hi h]; exact hb'
/-- A bound: none is greater than all right heads. -/
abbrev Bnd := Option (Nat → Bool)
def Bnd.below (B : Bnd) (f : Nat → Bool) : Prop := match B with
  | none => True
  | some g => num f < num g
theorem Bnd.below_le {B : Bnd} {f g : Nat → Bool} (h : num f ≤ num g) (hb : Bnd.below B g) : Bnd.below B f := by
  cases B with
  | none => trivial
  | some x => exact Nat.lt_of_le_of_lt h hb
/-- What leastOutside finds. -/
def Pat.found (l : List Pat) (p : Pat) (B : Bnd) (R : Bnd) : Prop := (∃ m, Pat.least l p m ∧ Bnd.below B m ∧ R = some m) ∨ ((∀ g, p.hit g → ¬ Pat.inSome l g → ¬ Bnd.below B g) ∧ R = B)
end Go.Proofs.YtbldnhpbmfmepaaDoor
