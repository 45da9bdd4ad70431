/-
  Contracts of the walks over divide, subtract and changer. Conditions: the rows and the first error lie there.
-/
import Derived.Test.YthjaelopmfjfeaaDoorWc
namespace Go.Proofs.YthjaelopmfjfeaaDoor
set_option linter.unusedVariables false
set_option linter.unusedSimpArgs false
open Go.RowKit

theorem divE_ok (x d : Rat) (h : d ≠ 0) : divE x d = ansO (okQ (x / d)) := by unfold divE; rw [if_neg h]; exact ansO_ok _
/-- What becomes of an element that a multiple of another row's is subtracted from. -/
def subF (t : Rat) (r : List Rat) : Nat → Rat → Option Rat := fun k x => (r[k]?).bind fun o => if fits (t * o) then okQ (x - t * o) else none
theorem subE_ok {t o x : Rat} {r : List Rat} {k : Nat} (h : r[k]? = some o) : subE t o x = ansO (subF t r k x) := by
  unfold subE subF
  rw [h, Option.bind_some]
  split
  · exact ansO_ok _
  · rfl
theorem Tryd.zeroEr : (Tryd.prog.info? 24).map (·.zero) = some (some (.int .i64 0)) := by kernel_rfl
def doV (ge : Nat) : Value := .func (.func 76) #[] #[.pointer (some ⟨ge, 0, none⟩)]
set_option maxRecDepth 100000 in
set_option maxHeartbeats 3200000 in
theorem divide_any (d : Rat) (g o ge n c : Nat) (P R : List Value) (l : List Rat) (w : World) (hP : P.length = o) (hd : fits d) (hd0 : d ≠ 0) (hl : l.length = n) (hn : n ≤ 100000) (hf : ∀ x ∈ l, fits x) (hge : g ≠ ge)
    (hg : Blk w g 23 (P ++ (rowC l ++ R))) (he : Blk w ge 24 [.int .i64 0]) :
    Calls Tryd.prog 63 #[.slice (some ⟨g, o, none⟩) n c, .agg (qC d).toArray, doV ge] w (Changed (fun _ x => okQ (x / d)) g ge n P R l w) := by
  have HG := Lib.hid hg
  have HE := Lib.hid he
  have hgl := hg.lt
  have hel := he.lt
  obtain ⟨Y, hY⟩ : ∃ Y, qC d = Y := ⟨_, rfl⟩
  have HY := Lib.hid hY
  rw [hY]
  unfold doV
  clear hg he hY
  go_enter Tryd.func63, Tryd.ntmps63
  go_wp2_with (with_reducible refine wpList_box (o := ⟨some 3, .box 40 (.tmp 0), _, _, _, _⟩) ?g1 40 (.tmp 0) ?o1 (.slice (some ⟨g, o, none⟩) n c) [.slice (some ⟨g, o, none⟩) n c] ?x1 ?c1 ?_)
  try (case g1 => rfl)
  try (case o1 => rfl)
  try (case x1 => rfl)
  try (case c1 => rfl)
  intro g3 w1 hg3 hs1 hb1 B3
  have hb1 := hb1.mono (Nat.le_of_eq hg3.out.symm)
  have nw3 : w.heap.size ≤ g3 := Nat.le_trans (Nat.le_refl _) (Nat.le_of_eq hg3.out.symm)
  have hbe := hb1
  clear hb1 hs1 hg3
  go_wp2_with (with_reducible refine wpList_box (o := ⟨some 4, .box 23 (.tmp 1), _, _, _, _⟩) ?g2 23 (.tmp 1) ?o2 (.agg Y.toArray) Y ?x2 ?c2 ?_)
  try (case g2 => rfl)
  try (case o2 => rfl)
  try (case x2 => rfl)
  try (case c2 => rfl)
  intro g4 w2 hg4 hs2 hb2 B4
  have hb2 := hb2.mono (Nat.le_of_eq hg4.out.symm)
  have nw4 : w.heap.size ≤ g4 := Nat.le_trans hbe.size (Nat.le_of_eq hg4.out.symm)
  have B3 := B3.next hb2 B3.lt
  have hbe := below_join hbe hb2
  clear hb2 hs2 hg4
  have hG := HG.out.next hbe HG.out.lt
  have hE := HE.out.next hbe HE.out.lt
  have HCH := Lib.hid (change_div (fun _ x => okQ (x / d)) g3 g4 g o ge n c P R l w2 hP hl hn hge hG hE (fun k x w' hx ho hat => by
    have hk : k < n := by rw [← hl]; exact (List.getElem?_eq_some_iff.1 hx).1
    have b3 := B3.only ho (by simp; omega)
    have b4 := B4.only ho (by simp; omega)
    refine (divide1_any g3 g4 g o k n c x d w' (hf x (List.mem_of_getElem? hx)) hd hk (b3.cell (k := 0) rfl) hat (by rw [HY.out]; exact blk_range b4)).mono ?_
    rintro e w2 ⟨rfl, hb⟩
    exact ⟨divE_ok x d hd0, hb⟩))
  clear hG hE
  have c0 := B3.cell (k := 0) rfl
  go_wp2_with fail
  (with_reducible refine HCH.out.mono ?_)
  rintro e w9 ⟨ho, hcase⟩
  have hof := (Only.of_below (L := [g, ge]) hbe).trans ho
  rcases hcase with ⟨l', h1, rfl, h3, h4⟩ | ⟨h1, rfl, h3, h4⟩
  · have HOP := Lib.hid h1
    clear h1 HCH
    go_wp2
    go_ret
    exact ⟨hof, .inl ⟨l', HOP.out, rfl, h3, h4⟩⟩
  · have HOP := Lib.hid h1
    clear h1 HCH
    go_wp2
    go_ret
    exact ⟨hof, .inr ⟨HOP.out, rfl, h3, h4⟩⟩
set_option maxRecDepth 100000 in
set_option maxHeartbeats 3200000 in
theorem divide_still (g o ge n c : Nat) (a b : Int) (w : World) (hn : n ≤ 100000) (he : Blk w ge 24 [.int .i64 17]) :
    Calls Tryd.prog 63 #[.slice (some ⟨g, o, none⟩) n c, .agg [Value.int .i64 a, Value.int .i64 b].toArray, doV ge] w fun e w' => e = .returned (.int .i64 17) ∧ Below w.heap.size w w' := by
  have HE := Lib.hid he
  obtain ⟨Y, hY⟩ : ∃ Y, [Value.int .i64 a, Value.int .i64 b] = Y := ⟨_, rfl⟩
  have hc : (Value.agg Y.toArray).cells = Y.toArray := rfl
  rw [hY]
  unfold doV
  clear he hY
  go_enter Tryd.func63, Tryd.ntmps63
  go_wp2_with (with_reducible refine wpList_box (o := ⟨some 3, .box 40 (.tmp 0), _, _, _, _⟩) ?g1 40 (.tmp 0) ?o1 (.slice (some ⟨g, o, none⟩) n c) [.slice (some ⟨g, o, none⟩) n c] ?x1 ?c1 ?_)
  try (case g1 => rfl)
  try (case o1 => rfl)
  try (case x1 => rfl)
  try (case c1 => rfl)
  intro g3 w1 hg3 hs1 hb1 B3
  have hb1 := hb1.mono (Nat.le_of_eq hg3.out.symm)
  have nw3 : w.heap.size ≤ g3 := Nat.le_trans (Nat.le_refl _) (Nat.le_of_eq hg3.out.symm)
  have hbe := hb1
  clear hb1 hs1 hg3
  go_wp2_with (with_reducible refine wpList_box (o := ⟨some 4, .box 23 (.tmp 1), _, _, _, _⟩) ?g2 23 (.tmp 1) ?o2 (.agg Y.toArray) Y ?x2 ?c2 ?_)
  try (case g2 => rfl)
  try (case o2 => rfl)
  try (case x2 => rfl)
  try (case c2 => rfl)
  intro g4 w2 hg4 hs2 hb2 B4
  have hb2 := hb2.mono (Nat.le_of_eq hg4.out.symm)
  have nw4 : w.heap.size ≤ g4 := Nat.le_trans hbe.size (Nat.le_of_eq hg4.out.symm)
  have B3 := B3.next hb2 B3.lt
  have hbe := below_join hbe hb2
  clear hb2 hs2 hg4
  have hE := HE.out.next hbe HE.out.lt
  have HCH := Lib.hid (fun w h => still_div g3 g4 g o ge n c w hn h)
  have c0 := B3.cell (k := 0) rfl
  go_wp2_with fail
  (with_reducible refine (HCH.out _ hE).mono ?_)
  rintro e w9 ⟨rfl, hb9⟩
  have hbe := below_join hbe hb9
  go_wp2
  go_ret
  exact ⟨rfl, hbe⟩
set_option maxRecDepth 100000 in
set_option maxHeartbeats 3200000 in
theorem subtract_any (d : Rat) (r : List Rat) (g o ga ge n c e : Nat) (P R : List Value) (l : List Rat) (w : World) (hP : P.length = o) (hd : fits d) (hr : ∀ x ∈ r, fits x) (hrl : r.length = n) (Ra : List Value) (hga : Blk w ga 23 (rowC r ++ Ra)) (hne : ga ≠ g) (hne2 : ga ≠ ge) (hl : l.length = n) (hn : n ≤ 100000) (hf : ∀ x ∈ l, fits x) (hge : g ≠ ge)
    (hg : Blk w g 23 (P ++ (rowC l ++ R))) (he : Blk w ge 24 [.int .i64 0]) :
    Calls Tryd.prog 77 #[.slice (some ⟨g, o, none⟩) n c, .agg (qC d).toArray, .slice (some ⟨ga, 0, none⟩) n e, doV ge] w (Changed (subF d r) g ge n P R l w) := by
  have HG := Lib.hid hg
  have HE := Lib.hid he
  have HGA := Lib.hid hga
  have hgl := hg.lt
  have hel := he.lt
  obtain ⟨Y, hY⟩ : ∃ Y, qC d = Y := ⟨_, rfl⟩
  have HY := Lib.hid hY
  rw [hY]
  unfold doV
  clear hg he hY hga
  go_enter Tryd.func77, Tryd.ntmps77
  go_wp2_with (with_reducible refine wpList_box (o := ⟨some 4, .box 40 (.tmp 0), _, _, _, _⟩) ?g1 40 (.tmp 0) ?o1 (.slice (some ⟨g, o, none⟩) n c) [.slice (some ⟨g, o, none⟩) n c] ?x1 ?c1 ?_)
  try (case g1 => rfl)
  try (case o1 => rfl)
  try (case x1 => rfl)
  try (case c1 => rfl)
  intro g4 w1 hg4 hs1 hb1 B4
  have hb1 := hb1.mono (Nat.le_of_eq hg4.out.symm)
  have nw4 : w.heap.size ≤ g4 := Nat.le_trans (Nat.le_refl _) (Nat.le_of_eq hg4.out.symm)
  have hbe := hb1
  clear hb1 hs1 hg4
  go_wp2_with (with_reducible refine wpList_box (o := ⟨some 5, .box 23 (.tmp 1), _, _, _, _⟩) ?g2 23 (.tmp 1) ?o2 (.agg Y.toArray) Y ?x2 ?c2 ?_)
  try (case g2 => rfl)
  try (case o2 => rfl)
  try (case x2 => rfl)
  try (case c2 => rfl)
  intro g5 w2 hg5 hs2 hb2 B5
  have hb2 := hb2.mono (Nat.le_of_eq hg5.out.symm)
  have nw5 : w.heap.size ≤ g5 := Nat.le_trans hbe.size (Nat.le_of_eq hg5.out.symm)
  have B4 := B4.next hb2 B4.lt
  have hbe := below_join hbe hb2
  clear hb2 hs2 hg5
  go_wp2_with (with_reducible refine wpList_box (o := ⟨some 6, .box 40 (.tmp 2), _, _, _, _⟩) ?g3 40 (.tmp 2) ?o3 (.slice (some ⟨ga, 0, none⟩) n e) [.slice (some ⟨ga, 0, none⟩) n e] ?x3 ?c3 ?_)
  try (case g3 => rfl)
  try (case o3 => rfl)
  try (case x3 => rfl)
  try (case c3 => rfl)
  intro g6 w3 hg6 hs3 hb3 B6
  have hb3 := hb3.mono (Nat.le_of_eq hg6.out.symm)
  have nw6 : w.heap.size ≤ g6 := Nat.le_trans hbe.size (Nat.le_of_eq hg6.out.symm)
  have B4 := B4.next hb3 B4.lt
  have B5 := B5.next hb3 B5.lt
  have hbe := below_join hbe hb3
  clear hb3 hs3 hg6
  have hG := HG.out.next hbe HG.out.lt
  have hE := HE.out.next hbe HE.out.lt
  have hGA := HGA.out.next hbe HGA.out.lt
  have HCH := Lib.hid (change_sub (subF d r) g5 g6 g4 g o ge n c P R l w3 hP hl hn hge hG hE (fun k x w' hx ho hat => by
    have hk : k < n := by rw [← hl]; exact (List.getElem?_eq_some_iff.1 hx).1
    obtain ⟨q, hq⟩ : ∃ q, r[k]? = some q := ⟨_, List.getElem?_eq_getElem (by rw [hrl]; exact hk)⟩
    have b4 := B4.only ho (by simp; omega)
    have b5 := B5.only ho (by simp; omega)
    have b6 := B6.only ho (by simp; omega)
    have ba := hGA.only ho (by simp; exact ⟨hne, hne2⟩)
    refine (subtract1_any g5 g6 g4 ga g o k n n c e d q x w' hd (hr q (List.mem_of_getElem? hq)) (hf x (List.mem_of_getElem? hx)) hk hk (by rw [HY.out]; exact blk_range b5) (b6.cell (k := 0) rfl) (rowR_range (p := (q.num, (q.den : Int))) ba (prs_get hq)) (b4.cell (k := 0) rfl) hat).mono ?_
    rintro e w2 ⟨rfl, hb⟩
    exact ⟨subE_ok hq, hb⟩))
  clear hG hE
  have c0 := B4.cell (k := 0) rfl
  go_wp2_with fail
  (with_reducible refine HCH.out.mono ?_)
  rintro e w9 ⟨ho, hcase⟩
  have hof := (Only.of_below (L := [g, ge]) hbe).trans ho
  rcases hcase with ⟨l', h1, rfl, h3, h4⟩ | ⟨h1, rfl, h3, h4⟩
  · have HOP := Lib.hid h1
    clear h1 HCH
    go_wp2
    go_ret
    exact ⟨hof, .inl ⟨l', HOP.out, rfl, h3, h4⟩⟩
  · have HOP := Lib.hid h1
    clear h1 HCH
    go_wp2
    go_ret
    exact ⟨hof, .inr ⟨HOP.out, rfl, h3, h4⟩⟩
set_option maxRecDepth 100000 in
set_option maxHeartbeats 3200000 in
theorem subtract_still (g o ga ge n c e : Nat) (a b : Int) (w : World) (hn : n ≤ 100000) (he : Blk w ge 24 [.int .i64 17]) :
    Calls Tryd.prog 77 #[.slice (some ⟨g, o, none⟩) n c, .agg [Value.int .i64 a, Value.int .i64 b].toArray, .slice (some ⟨ga, 0, none⟩) n e, doV ge] w fun e w' => e = .returned (.int .i64 17) ∧ Below w.heap.size w w' := by
  have HE := Lib.hid he
  obtain ⟨Y, hY⟩ : ∃ Y, [Value.int .i64 a, Value.int .i64 b] = Y := ⟨_, rfl⟩
  have hc : (Value.agg Y.toArray).cells = Y.toArray := rfl
  rw [hY]
  unfold doV
  clear he hY
  go_enter Tryd.func77, Tryd.ntmps77
  go_wp2_with (with_reducible refine wpList_box (o := ⟨some 4, .box 40 (.tmp 0), _, _, _, _⟩) ?g1 40 (.tmp 0) ?o1 (.slice (some ⟨g, o, none⟩) n c) [.slice (some ⟨g, o, none⟩) n c] ?x1 ?c1 ?_)
  try (case g1 => rfl)
  try (case o1 => rfl)
  try (case x1 => rfl)
  try (case c1 => rfl)
  intro g4 w1 hg4 hs1 hb1 B4
  have hb1 := hb1.mono (Nat.le_of_eq hg4.out.symm)
  have nw4 : w.heap.size ≤ g4 := Nat.le_trans (Nat.le_refl _) (Nat.le_of_eq hg4.out.symm)
  have hbe := hb1
  clear hb1 hs1 hg4
  go_wp2_with (with_reducible refine wpList_box (o := ⟨some 5, .box 23 (.tmp 1), _, _, _, _⟩) ?g2 23 (.tmp 1) ?o2 (.agg Y.toArray) Y ?x2 ?c2 ?_)
  try (case g2 => rfl)
  try (case o2 => rfl)
  try (case x2 => rfl)
  try (case c2 => rfl)
  intro g5 w2 hg5 hs2 hb2 B5
  have hb2 := hb2.mono (Nat.le_of_eq hg5.out.symm)
  have nw5 : w.heap.size ≤ g5 := Nat.le_trans hbe.size (Nat.le_of_eq hg5.out.symm)
  have B4 := B4.next hb2 B4.lt
  have hbe := below_join hbe hb2
  clear hb2 hs2 hg5
  go_wp2_with (with_reducible refine wpList_box (o := ⟨some 6, .box 40 (.tmp 2), _, _, _, _⟩) ?g3 40 (.tmp 2) ?o3 (.slice (some ⟨ga, 0, none⟩) n e) [.slice (some ⟨ga, 0, none⟩) n e] ?x3 ?c3 ?_)
  try (case g3 => rfl)
  try (case o3 => rfl)
  try (case x3 => rfl)
  try (case c3 => rfl)
  intro g6 w3 hg6 hs3 hb3 B6
  have hb3 := hb3.mono (Nat.le_of_eq hg6.out.symm)
  have nw6 : w.heap.size ≤ g6 := Nat.le_trans hbe.size (Nat.le_of_eq hg6.out.symm)
  have B4 := B4.next hb3 B4.lt
  have B5 := B5.next hb3 B5.lt
  have hbe := below_join hbe hb3
  clear hb3 hs3 hg6
  have hE := HE.out.next hbe HE.out.lt
  have HCH := Lib.hid (fun w h => still_sub g5 g6 g4 g o ge n c w hn h)
  have c0 := B4.cell (k := 0) rfl
  go_wp2_with fail
  (with_reducible refine (HCH.out _ hE).mono ?_)
  rintro e w9 ⟨rfl, hb9⟩
  have hbe := below_join hbe hb9
  go_wp2
  go_ret
  exact ⟨rfl, hbe⟩
set_option maxRecDepth 100000 in
set_option maxHeartbeats 1600000 in
theorem changer_any (w : World) : Calls Tryd.prog 61 #[] w fun e w' => ∃ ge, e = .returned (doV ge) ∧ w.heap.size ≤ ge ∧ Blk w' ge 24 [.int .i64 0] ∧ Below w.heap.size w w' := by
  unfold doV
  go_enter Tryd.func61, Tryd.ntmps61
  go_wp2_with (with_reducible refine wpList_alloc (o := ⟨some 1, .alloc 24, _, _, _, _⟩) (by with_unfolding_all rfl) 24 (by with_unfolding_all rfl) (.int .i64 0) [.int .i64 0] (by exact Tryd.zeroEr) (by with_unfolding_all rfl) ?_)
  intro ge w1 hge hs1 hb1 hE
  have hl : w.heap.size ≤ ge := Nat.le_of_eq hge.out.symm
  have hbe := hb1.mono hl
  clear hb1 hs1 hge
  go_wp2_with (with_reducible refine wpList_put (o := ⟨none, .store 24 (.tmp 1) (.const (.int .i64 0)), _, _, _, _⟩) (by with_unfolding_all rfl) 24 (.tmp 1) (.const (.int .i64 0)) (by with_unfolding_all rfl) ge 0 (by with_unfolding_all rfl) (.int .i64 0) (by with_unfolding_all rfl) hE [.int .i64 0] (by with_unfolding_all rfl) (by with_unfolding_all (exact Tryd.szE)) (by with_unfolding_all (exact Nat.le_refl 1)) (by with_unfolding_all (exact one_cell1 rfl)) ?_)
  intro w2 hu2 hE2
  rw [splice_all _ _ (by rfl)] at hE2
  have hbe2 := hbe.trans (hu2.below (B := w.heap.size) hl)
  go_wp2
  go_ret
  exact ⟨ge, rfl, hl, hE2, hbe2⟩
end Go.Proofs.YthjaelopmfjfeaaDoor
