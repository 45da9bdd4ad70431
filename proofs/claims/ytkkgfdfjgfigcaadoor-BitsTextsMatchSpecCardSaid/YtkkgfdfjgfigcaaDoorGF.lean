/-
  Contracts of the functions that the statement calls, part 6 of 25 (merged texts: Bs, Bt). Conditions: as the head of each part says.
-/
import Derived.Test.YtkkgfdfjgfigcaaDoorGD
import Derived.Test.YtkkgfdfjgfigcaaDoorGE
import Derived.Deep.RegionHeld3

/-
  Contracts of the walks over And and its like: two halves of a pattern made by two calls. Conditions: none.
-/
namespace Go.Proofs.YtkkgfdfjgfigcaaDoor
set_option linter.unusedVariables false
set_option linter.unusedSimpArgs false
open Go.RowKit

theorem results_cell_two {P : Program} {fn : Func} {p q : Tmp} {ty : TypeId} (h : fn.results = #[.cell p ty, .tmp q]) (tmps : Array Value) (w : World) (g : Nat) (t : TypeId) (cs : Array Value) (fr : Nat × Nat) (d : TypeDesc) (v : Value)
    (hp : tmps.getD p undef = .pointer (some ⟨g, 0, none⟩)) (hq : tmps.getD q undef = v) (hg : w.heap[g]? = some (.cells cs t fr))
    (hu : P.underlying ty = some d) (hd : (match d with | .struct _ | .array _ _ => true | _ => false) = true) (hi : (P.info? ty).map (·.size) = some cs.size) :
    (results fn tmps).run P w = .ok (.tuple #[.agg cs, v]) w := by
  have hp' : tmps[p]?.getD undef = .pointer (some ⟨g, 0, none⟩) := by simpa using hp
  have hq' : tmps[q]?.getD undef = v := by simpa using hq
  simp [results, h, hp', hq', asAddr, run_loadVar_row w g t ty cs fr d hg hu hd hi]
theorem run_execBuild {P : Program} {ρ : Operand → Value} {T : TypeId} {ps : Array (Nat × Operand)} {vs : Array (Nat × Value)} {v : Value} (w : World) {o : Oper} (ho : o.op = .build T ps) (hx : (ps.map fun p => (p.1, ρ p.2)) = vs) (hr : ∀ w : World, (Instr.build T vs).run P w = .ok v w) : (execOp ρ o).run P w = .ok (.value v) w := by
  unfold execOp
  simp only [ho]
  rw [show (ps.map fun x => (x.1, ρ x.2)) = vs from hx]
  simp [hr]
def Pat.zero : Pat := ⟨no, no⟩
def Pat.and (p q : Pat) : Pat := ⟨fun i => p.m i || q.m i, fun i => p.b i || q.b i⟩
def Pat.andV (p q : Pat) : Pat := if p.over q then p.and q else .zero
theorem cells_one (p : Pat) : ∀ u ∈ p.cells, u.oneCell' = true := by
  intro u hu
  unfold Pat.cells at hu
  rcases List.mem_append.1 hu with h | h
  · exact H_one _ u h
  · exact H_one _ u h
theorem cells_mk (m b : Nat → Bool) : H m ++ H b = (⟨m, b⟩ : Pat).cells := rfl
theorem cells_zero : (H no ++ H no) = Pat.zero.cells := rfl
theorem at_m {w : World} {g : Nat} {t : TypeId} {p : Pat} (h : Blk w g t p.cells) : w.rangeAt g 0 (H p.m) := fun j v hv => by
  rw [Nat.zero_add]
  have hj := (List.getElem?_eq_some_iff.1 hv).1
  rw [H_length] at hj
  rw [H_get _ hj] at hv
  cases hv
  exact h.cell (cells_m p hj)
theorem at_b {w : World} {g : Nat} {t : TypeId} {p : Pat} (h : Blk w g t p.cells) : w.rangeAt g 10 (H p.b) := fun j v hv => by
  have hj := (List.getElem?_eq_some_iff.1 hv).1
  rw [H_length] at hj
  rw [H_get _ hj] at hv
  cases hv
  exact h.cell (cells_b p hj)
set_option maxRecDepth 100000 in
set_option maxHeartbeats 1600000 in
theorem and_any (p q : Pat) (w : World) :
    Calls Tryd.prog 77 #[.agg p.cells.toArray, .agg q.cells.toArray] w fun e w' => e = .returned (.tuple #[.agg (p.andV q).cells.toArray, .bool (decide (p.over q))]) ∧ Below w.heap.size w w' := by
  obtain ⟨D, hD⟩ : ∃ D, Hid (decide (p.over q) = D) := ⟨_, rfl⟩
  obtain ⟨X, hX⟩ : ∃ X, Hid (p.andV q = X) := ⟨_, rfl⟩
  rw [hD.out, hX.out]
  have hXv : Hid (if D = true then X = p.and q else X = .zero) := by
    have : if D = true then X = p.and q else X = .zero := by
      rw [← hX.out, ← hD.out]
      unfold Pat.andV
      by_cases h : p.over q
      · rw [if_pos h, if_pos (decide_eq_true h)]
      · rw [if_neg h, if_neg (by rw [decide_eq_false h]; decide)]
    exact this
  go_enter Tryd.func77, Tryd.ntmps77
  go_wp2_with (with_reducible refine wpList_box (o := ⟨some 2, .box 25 (.tmp 0), _, _, _, _⟩) ?g1 25 (.tmp 0) ?o1 (.agg p.cells.toArray) p.cells ?x1 ?c1 ?_)
  try (case g1 => rfl)
  try (case o1 => rfl)
  try (case x1 => rfl)
  try (case c1 => rfl)
  intro gp w1 hgp hs1 hb1 hP1
  go_wp2_with (with_reducible refine wpList_box (o := ⟨some 3, .box 25 (.tmp 1), _, _, _, _⟩) ?g2 25 (.tmp 1) ?o2 (.agg q.cells.toArray) q.cells ?x2 ?c2 ?_)
  try (case g2 => rfl)
  try (case o2 => rfl)
  try (case x2 => rfl)
  try (case c2 => rfl)
  intro gq w2 hgq hs2 hb2 hQ2
  go_wp2_with (with_reducible refine wpList_alloc (o := ⟨some 4, .alloc 25, _, _, _, _⟩) (by with_unfolding_all rfl) 25 (by with_unfolding_all rfl) (.agg (H no ++ H no).toArray) (H no ++ H no) (by exact Tryd.zeroPt) (by with_unfolding_all rfl) ?_)
  intro gr w3 hgr hs3 hb3 hR3
  rw [cells_zero] at hR3
  have hle : w.heap.size ≤ gp := Nat.le_of_eq hgp.out.symm
  have hab : gp < gq := by have := hgp.out; have := hs1.out; have := hgq.out; omega
  have hbr : gq < gr := by have := hgq.out; have := hs2.out; have := hgr.out; omega
  have hP3 := (hP1.next hb2 hab).next hb3 (by omega)
  have hQ3 := hQ2.next hb3 hbr
  have hbel := ((hb1.mono hle).trans (hb2.mono (by omega))).trans (hb3.mono (by omega : w.heap.size ≤ gr))
  clear hgp hs1 hb1 hP1 hgq hs2 hb2 hQ2 hgr hs3 hb3
  go_wp2_with fail
  (with_reducible refine (overlap_any p q gp 0 gq 0 _ (blk_range hP3) (blk_range hQ3)).mono ?_)
  rintro e w4 ⟨rfl, n, rfl⟩
  rw [hD.out]
  have hP4 := hP3.drewN n
  have hQ4 := hQ3.drewN n
  have hR4 := hR3.drewN n
  have hb4 := hbel.trans ((below_drewN w3 n).mono hbel.size)
  clear hP3 hQ3 hR3 hbel
  generalize w3.drewN n = w4 at hP4 hQ4 hR4 hb4 ⊢
  rcases D with _ | _
  · have hXe : Hid (X = .zero) := hXv.out
    clear hXv hX hD hP4 hQ4
    go_wp2_with (first | (with_reducible refine wpList_build (o := ⟨some 8, .build 25 #[], _, _, _, _⟩) (by with_unfolding_all rfl) 25 #[] (by with_unfolding_all rfl) #[] (by with_unfolding_all rfl) (.agg Pat.zero.cells.toArray) (by with_unfolding_all exact fun w => run_buildP0 w) ?_) | (with_reducible refine wpList_put (o := ⟨none, .store 25 (.tmp 4) (.tmp 8), _, _, _, _⟩) (by with_unfolding_all rfl) 25 (.tmp 4) (.tmp 8) (by with_unfolding_all rfl) gr 0 (by with_unfolding_all rfl) (.agg Pat.zero.cells.toArray) (by with_unfolding_all rfl) hR4 Pat.zero.cells (by with_unfolding_all rfl) (by with_unfolding_all (rw [Pat.cells_length]; exact Tryd.szP)) (by with_unfolding_all (rw [Pat.cells_length]; omega)) (by with_unfolding_all (exact cells_one _)) ?_))
    intro w5 hu5 hR5
    rw [splice_all _ _ rfl, ← hXe.out] at hR5
    have hb5 := hb4.trans (hu5.below (B := w.heap.size) (by omega))
    go_wp2
    exact bodyPost_ret (results_cell_two rfl _ _ gr _ _ _ _ _ rfl rfl hR5 Tryd.underlying25 rfl (by rw [List.size_toArray, Pat.cells_length]; exact Tryd.szP)) rfl ⟨rfl, hb5⟩
  · have hXe : Hid (X = p.and q) := hXv.out
    clear hXv hX hD
    go_wp2
    have hrg : ∀ w', Below w4.heap.size w4 w' → w'.rangeAt gp 0 (H p.m) ∧ w'.rangeAt gp 10 (H p.b) ∧ w'.rangeAt gq 0 (H q.m) ∧ w'.rangeAt gq 10 (H q.b) := fun w' h => ⟨at_m (hP4.next h hP4.lt), at_b (hP4.next h hP4.lt), at_m (hQ4.next h hQ4.lt), at_b (hQ4.next h hQ4.lt)⟩
    have hun := Tryd.underlying23
    have hz1 : (Tryd.prog.info? 23).map (·.size) = some (H p.m).length := by rw [H_length]; exact Tryd.szH
    have hz2 : (Tryd.prog.info? 23).map (·.size) = some (H p.b).length := by rw [H_length]; exact Tryd.szH
    have hz3 : (Tryd.prog.info? 23).map (·.size) = some (H q.m).length := by rw [H_length]; exact Tryd.szH
    have hz4 : (Tryd.prog.info? 23).map (·.size) = some (H q.b).length := by rw [H_length]; exact Tryd.szH
    have HRG := Lib.hid hrg
    have hdd := below_drew w4
    have hR5 := hR4.next hdd hR4.lt
    clear hrg
    refine wp_region_held_drew (S := fun w' => w'.rangeAt gp 0 (H p.m) ∧ w'.rangeAt gp 10 (H p.b) ∧ w'.rangeAt gq 0 (H q.m) ∧ w'.rangeAt gq 10 (H q.b)) (by kernel_rfl) (HRG.out _ hdd) (fun hHeld => ?_)
    generalize w4.drew = wd at hdd hHeld hR5 ⊢
    refine wpAnyH_take (i := 0) (v := ?vv0) rfl (by kernel_rfl) (by kernel_rfl) (by kernel_rfl) (fun _ _ _ h => h) (Or.inl ⟨by rfl, ?yv0⟩) (by assumption) ?rv0
    case yv0 => intro w hSw; (try dsimp only at hSw); go_simp <;> (try with_reducible rfl)
    (try simp only [List.getElem_toArray, List.getElem_cons_zero, Act.put, List.setIfInBounds_toArray, List.set_cons_zero, List.set_cons_succ])
    refine' wpAnyH_take (i := 1) (v := _) rfl (by kernel_rfl) (by kernel_rfl) (by kernel_rfl) (fun _ _ _ h => h) (yieldsIf_load_mid (by rfl) _ _ (by rfl) _ _ (by rfl) _ _ ?Sv1 ?uv1 ?dv1 ?iv1) (by assumption) ?rv1
    case Sv1 => exact (by intro w h; exact h.1)
    case uv1 => exact hun
    case dv1 => rfl
    case iv1 => exact hz1
    (try simp only [List.getElem_toArray, List.getElem_cons_succ, List.getElem_cons_zero, Act.put, List.setIfInBounds_toArray, List.set_cons_zero, List.set_cons_succ])
    refine wpAnyH_take (i := 2) (v := ?vv2) rfl (by kernel_rfl) (by kernel_rfl) (by kernel_rfl) (fun _ _ _ h => h) (Or.inl ⟨by rfl, ?yv2⟩) (by assumption) ?rv2
    case yv2 => intro w hSw; (try dsimp only at hSw); go_simp <;> (try with_reducible rfl)
    (try simp only [List.getElem_toArray, List.getElem_cons_succ, List.getElem_cons_zero, Act.put, List.setIfInBounds_toArray, List.set_cons_zero, List.set_cons_succ])
    refine' wpAnyH_take (i := 3) (v := _) rfl (by kernel_rfl) (by kernel_rfl) (by kernel_rfl) (fun _ _ _ h => h) (yieldsIf_load_mid (by rfl) _ _ (by rfl) _ _ (by rfl) _ _ ?Sv3 ?uv3 ?dv3 ?iv3) (by assumption) ?rv3
    case Sv3 => exact (by intro w h; exact h.2.2.1)
    case uv3 => exact hun
    case dv3 => rfl
    case iv3 => exact hz3
    (try simp only [List.getElem_toArray, List.getElem_cons_succ, List.getElem_cons_zero, Act.put, List.setIfInBounds_toArray, List.set_cons_zero, List.set_cons_succ])
    refine wpAnyH_take (i := 5) (v := ?vv5) rfl (by kernel_rfl) (by kernel_rfl) (by kernel_rfl) (fun _ _ _ h => h) (Or.inl ⟨by rfl, ?yv5⟩) (by assumption) ?rv5
    case yv5 => intro w hSw; (try dsimp only at hSw); go_simp <;> (try with_reducible rfl)
    (try simp only [List.getElem_toArray, List.getElem_cons_succ, List.getElem_cons_zero, Act.put, List.setIfInBounds_toArray, List.set_cons_zero, List.set_cons_succ])
    refine' wpAnyH_take (i := 6) (v := _) rfl (by kernel_rfl) (by kernel_rfl) (by kernel_rfl) (fun _ _ _ h => h) (yieldsIf_load_mid (by rfl) _ _ (by rfl) _ _ (by rfl) _ _ ?Sv6 ?uv6 ?dv6 ?iv6) (by assumption) ?rv6
    case Sv6 => exact (by intro w h; exact h.2.1)
    case uv6 => exact hun
    case dv6 => rfl
    case iv6 => exact hz2
    (try simp only [List.getElem_toArray, List.getElem_cons_succ, List.getElem_cons_zero, Act.put, List.setIfInBounds_toArray, List.set_cons_zero, List.set_cons_succ])
    refine wpAnyH_take (i := 7) (v := ?vv7) rfl (by kernel_rfl) (by kernel_rfl) (by kernel_rfl) (fun _ _ _ h => h) (Or.inl ⟨by rfl, ?yv7⟩) (by assumption) ?rv7
    case yv7 => intro w hSw; (try dsimp only at hSw); go_simp <;> (try with_reducible rfl)
    (try simp only [List.getElem_toArray, List.getElem_cons_succ, List.getElem_cons_zero, Act.put, List.setIfInBounds_toArray, List.set_cons_zero, List.set_cons_succ])
    refine' wpAnyH_take (i := 8) (v := _) rfl (by kernel_rfl) (by kernel_rfl) (by kernel_rfl) (fun _ _ _ h => h) (yieldsIf_load_mid (by rfl) _ _ (by rfl) _ _ (by rfl) _ _ ?Sv8 ?uv8 ?dv8 ?iv8) (by assumption) ?rv8
    case Sv8 => exact (by intro w h; exact h.2.2.2)
    case uv8 => exact hun
    case dv8 => rfl
    case iv8 => exact hz4
    (try simp only [List.getElem_toArray, List.getElem_cons_succ, List.getElem_cons_zero, Act.put, List.setIfInBounds_toArray, List.set_cons_zero, List.set_cons_succ])
    refine wpAnyH_ready (rs := [4]) (by kernel_rfl) (by simp) ?_
    refine AllReadyH.cons rfl (fun K hK => ?_) AllReadyH.nil
    go_simp
    go_wp2_with fail
    (with_reducible refine (join_any p.m q.m _).mono ?_)
    rintro e wA ⟨rfl, hbA⟩
    have hkA := below_join hdd hbA
    have hRA := hR5.next hbA hR5.lt
    refine hK.out _ _ (HRG.out _ hkA) (fun hHeld => ?_)
    clear hK K hdd hbA hR5
    refine wpAnyH_ready (rs := [9]) (by kernel_rfl) (by simp) ?_
    refine AllReadyH.cons rfl (fun K hK => ?_) AllReadyH.nil
    go_simp
    go_wp2_with fail
    (with_reducible refine (join_any p.b q.b _).mono ?_)
    rintro e wB ⟨rfl, hbB⟩
    have hkB := below_join hkA hbB
    have hRB := hRA.next hbB hRA.lt
    refine hK.out _ _ (HRG.out _ hkB) (fun hHeld => ?_)
    clear hK K hkA hbB hRA
    rw [show (fun i => p.m i || q.m i) = (p.and q).m from rfl, show (fun i => p.b i || q.b i) = (p.and q).b from rfl, ← hXe.out]
    have hbd : ∀ w, (Instr.build 25 #[(0, .agg (H X.m).toArray), (1, .agg (H X.b).toArray)]).run Tryd.prog w = .ok (.agg X.cells.toArray) w := fun w => run_buildP w _ _ (H_length _) (H_length _)
    refine wpAnyH_take (i := 10) (v := .agg X.cells.toArray) rfl (by kernel_rfl) (by kernel_rfl) (by kernel_rfl) (fun _ _ _ h => h) (Or.inl ⟨by rfl, ?yb⟩) (by assumption) ?rb
    case yb =>
      intro w _
      exact run_execBuild (T := 25) (ps := #[(0, .tmp 13), (1, .tmp 18)]) w (by with_unfolding_all rfl) (by with_unfolding_all rfl) hbd
    (try simp only [List.getElem_toArray, List.getElem_cons_succ, List.getElem_cons_zero, Act.put, List.setIfInBounds_toArray, List.set_cons_zero, List.set_cons_succ])
    refine wpAnyH_ready (rs := [11]) (by kernel_rfl) (by simp) ?_
    refine AllReadyH.cons rfl (fun K hK => ?_) AllReadyH.nil
    rw [if_pos (by rfl)]
    refine wp_put 25 (.tmp 4) (.tmp 19) rfl gr 0 rfl (.agg X.cells.toArray) rfl hRB X.cells rfl (by rw [Pat.cells_length]; exact Tryd.szP) (by rw [Pat.cells_length, Pat.cells_length]; omega) (cells_one _) ?_
    intro wC huC hRC
    rw [splice_all _ _ (by rw [Pat.cells_length, Pat.cells_length])] at hRC
    have hPC := (hP4.next hkB hP4.lt).upd huC (by omega)
    have hQC := (hQ4.next hkB hQ4.lt).upd huC (by omega)
    refine hK.out _ _ ⟨at_m hPC, at_b hPC, at_m hQC, at_b hQC⟩ (fun hHeld => ?_)
    clear hK K
    have hbC := (hb4.trans (hkB.mono hb4.size)).trans (huC.below (B := w.heap.size) (by omega))
    refine wpAnyH_take (i := 12) (v := ?vv12) rfl (by kernel_rfl) (by kernel_rfl) (by kernel_rfl) (fun _ _ _ h => h) (Or.inl ⟨by rfl, ?yv12⟩) (by assumption) ?rv12
    case yv12 => intro w hSw; (try dsimp only at hSw); go_simp <;> (try with_reducible rfl)
    (try simp only [List.getElem_toArray, List.getElem_cons_succ, List.getElem_cons_zero, Act.put, List.setIfInBounds_toArray, List.set_cons_zero, List.set_cons_succ])
    refine wpAnyH_done (by kernel_rfl) ?_ _
    go_wp2
    exact bodyPost_ret (results_cell_two rfl _ _ gr _ _ _ _ _ rfl rfl hRC Tryd.underlying25 rfl (by rw [List.size_toArray, Pat.cells_length]; exact Tryd.szP)) rfl ⟨rfl, hbC⟩
end Go.Proofs.YtkkgfdfjgfigcaaDoor

/-
  Contracts of the walks over Apply and count. Conditions: none.
-/
namespace Go.Proofs.YtkkgfdfjgfigcaaDoor
set_option linter.unusedVariables false
set_option linter.unusedSimpArgs false
open Go.RowKit

theorem Tryd.szM : (Tryd.prog.info? 88).map (·.size) = some 20 := by kernel_rfl
theorem Tryd.zeroMd : (Tryd.prog.info? 88).map (·.zero) = some (some (.agg (H no ++ H no).toArray)) := by kernel_rfl
/-- What a mod makes of a head. -/
def Pat.app (m : Pat) (h : Nat → Bool) : Nat → Bool := fun i => (h i && !m.m i) || m.b i
def AppRel (m : Pat) (f r : Nat → Bool) (ga gb gr : Nat) (w : World) (i : Value) (wr : World) : Prop :=
  ∃ k : Nat, k ≤ 10 ∧ i = .int .i64 k ∧ Blk wr gb 23 (H (upto f r k)) ∧ Blk wr ga 88 m.cells ∧ Blk wr gr 23 (H no) ∧ Below w.heap.size w wr
set_option maxRecDepth 100000 in
set_option maxHeartbeats 1600000 in
theorem apply_any (m : Pat) (f : Nat → Bool) (w : World) :
    Calls Tryd.prog 153 #[.agg m.cells.toArray, .agg (H f).toArray] w fun e w' => e = .returned (.agg (H (m.app f)).toArray) ∧ Below w.heap.size w w' := by
  obtain ⟨r, hr⟩ : ∃ r : Nat → Bool, r = m.app f := ⟨_, rfl⟩
  have hw : ∀ k, bits .or .i64 (bits .andNot .i64 (word f k : Int) (word m.m k : Int)) (word m.b k : Int) = (word r k : Int) := fun k => by rw [hr, wandn, wor]; rfl
  rw [← hr]
  clear hr
  have hW := Lib.hid hw
  clear hw
  go_enter Tryd.func153, Tryd.ntmps153
  go_wp2_with (with_reducible refine wpList_box (o := ⟨some 2, .box 88 (.tmp 0), _, _, _, _⟩) ?g1 88 (.tmp 0) ?o1 (.agg m.cells.toArray) m.cells ?x1 ?c1 ?_)
  try (case g1 => rfl)
  try (case o1 => rfl)
  try (case x1 => rfl)
  try (case c1 => rfl)
  intro ga w1 hga hs1 hb1 hA1
  go_wp2_with (with_reducible refine wpList_box (o := ⟨some 3, .box 23 (.tmp 1), _, _, _, _⟩) ?g2 23 (.tmp 1) ?o2 (.agg (H f).toArray) (H f) ?x2 ?c2 ?_)
  try (case g2 => rfl)
  try (case o2 => rfl)
  try (case x2 => rfl)
  try (case c2 => rfl)
  intro gb w2 hgb hs2 hb2 hB2
  go_wp2_with (with_reducible refine wpList_alloc (o := ⟨some 4, .alloc 23, _, _, _, _⟩) (by with_unfolding_all rfl) 23 (by with_unfolding_all rfl) (.agg (H no).toArray) (H no) (by exact Tryd.zeroH) (by with_unfolding_all rfl) ?_)
  intro gr w3 hgr hs3 hb3 hR3
  have hle : w.heap.size ≤ ga := Nat.le_of_eq hga.out.symm
  have hab : ga < gb := by have := hga.out; have := hs1.out; have := hgb.out; omega
  have hbr : gb < gr := by have := hgb.out; have := hs2.out; have := hgr.out; omega
  have hA3 := (hA1.next hb2 hab).next hb3 (by omega)
  have hB3 := hB2.next hb3 hbr
  have hbel := ((hb1.mono hle).trans (hb2.mono (by omega))).trans (hb3.mono (by omega : w.heap.size ≤ gr))
  clear hga hs1 hb1 hA1 hgb hs2 hb2 hB2 hgr hs3 hb3
  go_wp2
  go_loopw [6] (AppRel m f r ga gb gr w) (fun i _ => 10 - (intOf i).toNat)
  case atStart => exact ⟨0, by omega, rfl, by rw [upto_zero]; exact hB3, hA3, hR3, hbel⟩
  case round =>
    clear hA3 hB3 hR3 hbel
    obtain ⟨k, hk, rfl, hB, hA, hR, hbel⟩ := hrel
    by_cases hlt : k < 10
    · have ca : wr.cell? ⟨gb, k, none⟩ = some (.int .i64 (word f k : Int)) := hB.cell (by rw [H_get _ hlt, upto_word])
      have cb : wr.cell? ⟨ga, k, none⟩ = some (.int .i64 (word m.m k : Int)) := hA.cell (cells_m m hlt)
      have cc : wr.cell? ⟨ga, 10 + k, none⟩ = some (.int .i64 (word m.b k : Int)) := hA.cell (cells_b m hlt)
      go_wp2
      go_still_tail 15, (by kernel_rfl)
      rw [hW.out k]
      have hB' : Blk { wr with drawn := wr.drawn + 1 } gb 23 (H (upto f r k)) := hB
      have hA' : Blk { wr with drawn := wr.drawn + 1 } ga 88 m.cells := hA
      have hR' : Blk { wr with drawn := wr.drawn + 1 } gr 23 (H no) := hR
      have hb' : Below w.heap.size w { wr with drawn := wr.drawn + 1 } := hbel.trans ((below_drew wr).mono hbel.size)
      clear ca cb cc hA hB hR hbel
      go_wp2_with (with_reducible refine wpList_put (o := ⟨none, .store 3 (.tmp 23) (.tmp 22), _, _, _, _⟩) (by with_unfolding_all rfl) 3 (.tmp 23) (.tmp 22) (by with_unfolding_all rfl) gb k (by with_unfolding_all rfl) (.int .i64 (word r k : Int)) (by with_unfolding_all rfl) hB' [.int .i64 (word r k : Int)] (by with_unfolding_all rfl) (by with_unfolding_all (exact Tryd.szI)) (by with_unfolding_all (rw [H_length]; exact hlt)) (by with_unfolding_all (exact one_cell1 rfl)) ?_)
      intro w4 hu4 hB4
      rw [splice_set _ _ _ (by rw [H_length]; exact hlt), upto_set f r hlt] at hB4
      have hA4 := hA'.upd hu4 (by omega)
      have hR4 := hR'.upd hu4 (by omega)
      have hb4 := hb'.trans (hu4.below (B := w.heap.size) (by omega))
      clear hA' hB' hR' hb' hu4
      go_wp2
      go_roundw
      case rel => exact ⟨k + 1, by omega, by go_num, hB4, hA4, hR4, hb4⟩
      case measure => simp [intOf]; omega
    · obtain rfl : k = 10 := by omega
      have hB' : Blk wr gb 23 (H r) := by rw [upto_all] at hB; exact hB
      clear hB hk hA
      go_wp2_with (first | (with_reducible refine wpList_get (o := ⟨some 25, .load 23 (.tmp 3), _, _, _, _⟩) (by with_unfolding_all rfl) 23 (.tmp 3) (by with_unfolding_all rfl) gb 0 (by with_unfolding_all rfl) hB' (H r) (cs_all _) _ (by exact Tryd.underlying23) (by with_unfolding_all rfl) (by rw [H_length]; exact Tryd.szH) ?_) | (with_reducible refine wpList_put (o := ⟨none, .store 23 (.tmp 4) (.tmp 25), _, _, _, _⟩) (by with_unfolding_all rfl) 23 (.tmp 4) (.tmp 25) (by with_unfolding_all rfl) gr 0 (by with_unfolding_all rfl) (.agg (H r).toArray) (by with_unfolding_all rfl) hR (H r) (by with_unfolding_all rfl) (by with_unfolding_all (rw [H_length]; exact Tryd.szH)) (by with_unfolding_all (rw [H_length, H_length]; omega)) (by with_unfolding_all (exact H_one r)) ?_))
      intro w4 hu4 hR4
      rw [splice_all _ _ (by rw [H_length, H_length])] at hR4
      have hb4 := hbel.trans (hu4.below (B := w.heap.size) (by omega))
      go_wp2
      refine bodyPost_ret (results_cell_row rfl _ _ gr _ _ _ _ rfl hR4 Tryd.underlying23 rfl (by rw [List.size_toArray, H_length]; exact Tryd.szH)) rfl ⟨rfl, hb4⟩
end Go.Proofs.YtkkgfdfjgfigcaaDoor
