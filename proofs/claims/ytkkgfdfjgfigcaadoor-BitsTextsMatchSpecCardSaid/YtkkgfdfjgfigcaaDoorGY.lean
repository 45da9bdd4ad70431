/-
  Contracts of the functions that the statement calls, part 25 of 25 (merged texts: Nd, Lt). Conditions: as the head of each part says.
-/
import Derived.Test.YtkkgfdfjgfigcaaDoorGX
import Derived.Test.YtkkgfdfjgfigcaaDoorGJ
import Derived.Test.YtkkgfdfjgfigcaaDoorGK
import Derived.Test.YtkkgfdfjgfigcaaDoorGG
import Derived.Test.YtkkgfdfjgfigcaaDoorGV

/-
  Contracts at heads and patterns that are right; rows of two, raw. Conditions: right patterns.
-/
namespace Go.Proofs.YtkkgfdfjgfigcaaDoor
set_option linter.unusedVariables false
set_option linter.unusedSimpArgs false
open Go.RowKit

theorem rightI_HI (f : Nat → Bool) : rightI (HI f) := fun x hx => by
  unfold HI at hx
  obtain ⟨n, hn, rfl⟩ := List.mem_map.1 hx
  have := HN_lt f n hn
  omega
section
variable (f g : Nat → Bool) (p q : Pat) (w : World)
theorem rightHead_h : Calls Tryd.prog 212 #[.agg (H f).toArray] w fun e w' => e = .returned (.bool true) ∧ Below w.heap.size w w' := by
  have h := rightHead_any (HI f) w (HI_length f)
  rw [decide_eq_true (rightI_HI f), ← H_iV] at h
  exact h
theorem rrightHead_h : Calls Tryd.prog 88 #[.agg (H f).toArray] w fun e w' => e = .returned (.bool true) ∧ Below w.heap.size w w' := by
  have h := rrightHead_any (HI f) w (HI_length f)
  rw [decide_eq_true (rightI_HI f), ← H_iV] at h
  exact h




variable {p}
theorem right_p (hp : p.ok) : Calls Tryd.prog 86 #[.agg p.cells.toArray] w fun e w' => e = .returned (.bool true) ∧ Below w.heap.size w w' := by
  have h := right_any (HI p.m) (HI p.b) w (HI_length _) (HI_length _)
  rw [pat_right hp, ← H_iV, ← H_iV] at h
  exact h
theorem rright_p (hp : p.ok) : Calls Tryd.prog 15 #[.agg p.cells.toArray] w fun e w' => e = .returned (.bool true) ∧ Below w.heap.size w w' := by
  have h := rright_any (HI p.m) (HI p.b) w (HI_length _) (HI_length _)
  rw [pat_right hp, ← H_iV, ← H_iV] at h
  exact h












theorem match_m (hp : p.ok) {D : Bool} (h : Nat → Bool) (hD : decide (p.hit h) = D) : Calls Tryd.prog 87 #[.agg p.cells.toArray, .agg (H h).toArray] w fun e w' => e = .returned (.bool D) ∧ Below w.heap.size w w' := by
  have := match_any p h w
  have e : decide (p.fits h) = decide (p.hit h) := by
    by_cases hh : p.hit h
    · rw [decide_eq_true hh, decide_eq_true ((Pat.fits_iff hp h).2 hh)]
    · rw [decide_eq_false hh, decide_eq_false fun hc => hh ((Pat.fits_iff hp h).1 hc)]
  rw [e, hD] at this
  exact this
end














/-- Rows of raw words. -/
def rawRow (l : List (List Int × List Int)) : List Value := l.flatMap rawCells
theorem rawCells_length {r : List Int × List Int} (h : r.1.length = 10 ∧ r.2.length = 10) : (rawCells r).length = 20 := by
  unfold rawCells
  rw [List.length_append, List.length_map, List.length_map, h.1, h.2]
theorem new_raws (W : World) (l : List (List Int × List Int)) (hT : Tens l) : RawAt (W.alloc (.cells (rawRow l).toArray 25)) (some ⟨W.heap.size, 0, none⟩) l := by
  have hb := blk_new W 25 (rawRow l)
  intro k r hr
  refine ⟨_, rfl, fun q u hu => ?_⟩
  have hq : q < 20 := by have := (List.getElem?_eq_some_iff.1 hu).1; rw [rawCells_length (hT r (List.mem_of_getElem? hr))] at this; exact this
  have key : ∀ (l : List (List Int × List Int)), Tens l → ∀ k, l[k]? = some r → (rawRow l)[k * 20 + q]? = some u := by
    intro l
    induction l with
    | nil => intro _ k hk; cases hk
    | cons a l ih =>
      intro hT k hk
      have ha := rawCells_length (hT a (List.mem_cons_self ..))
      show (rawCells a ++ rawRow l)[k * 20 + q]? = _
      cases k with
      | zero =>
        have e : a = r := by simpa using hk
        rw [e] at ha ⊢
        rw [List.getElem?_append_left (by rw [ha]; omega)]
        simpa using hu
      | succ k =>
        rw [List.getElem?_append_right (by rw [ha]; omega), ha, show (k + 1) * 20 + q - 20 = k * 20 + q by omega]
        exact ih (fun x hx => hT x (List.mem_cons_of_mem _ hx)) k (by simpa using hk)
  rw [add_none, add_none, Nat.zero_add]
  exact hb.cell (key l hT k hr)
theorem run_rslice2 (W : World) (r s : List Int × List Int) (hr : r.1.length = 10 ∧ r.2.length = 10) (hs : s.1.length = 10 ∧ s.2.length = 10) : (Instr.buildSlice 82 2 #[(0, .agg (rawCells r).toArray), (1, .agg (rawCells s).toArray)]).run Tryd.prog W = .ok (.slice (some ⟨W.heap.size, 0, none⟩) 2 2) (W.alloc (.cells (rawRow [r, s]).toArray 25)) := by
  obtain ⟨r1, r2⟩ := r
  obtain ⟨s1, s2⟩ := s
  obtain ⟨a0, a1, a2, a3, a4, a5, a6, a7, a8, a9, e⟩ := list10 hr.1
  obtain ⟨b0, b1, b2, b3, b4, b5, b6, b7, b8, b9, e2⟩ := list10 hr.2
  obtain ⟨c0, c1, c2, c3, c4, c5, c6, c7, c8, c9, e3⟩ := list10 hs.1
  obtain ⟨d0, d1, d2, d3, d4, d5, d6, d7, d8, d9, e4⟩ := list10 hs.2
  subst e e2 e3 e4
  kernel_rfl
theorem wpList_rslice2 {ops : Array Oper} {rest : List Oper} {o : Oper} {a : Act} {W : World} {Q : Exit → Act → World → Prop} (hw : Region.wanted o (yielded ops a.tmps) = true) (x y : Operand) (ho : o.op = .buildSlice 82 2 #[(0, x), (1, y)])
    (r s : List Int × List Int) (hr : r.1.length = 10 ∧ r.2.length = 10) (hs : s.1.length = 10 ∧ s.2.length = 10) (hx : a.eval x = .agg (rawCells r).toArray) (hy : a.eval y = .agg (rawCells s).toArray)
    (h : ∀ g w', Hid (g = W.heap.size) → Below W.heap.size W w' → g < w'.heap.size → RawAt w' (some ⟨g, 0, none⟩) [r, s] → wpList Tryd.prog ops Q rest (a.put o.dst (.slice (some ⟨g, 0, none⟩) 2 2)) w') : wpList Tryd.prog ops Q (o :: rest) a W := by
  refine BigFrame.wpList_want hw fun _ hK => ?_
  have hrun := run_rslice2 W r s hr hs
  unfold Oper.wp execOp
  simp only [ho, List.map_toArray, List.map_cons, List.map_nil, hx, hy, Sem.run_bind, Sem.run_pure, Result.andThen_ok, hrun]
  exact hK _ _ (h _ _ rfl (below_new W _) (by simp) (new_raws W _ fun x hx => by
    simp only [List.mem_cons, List.mem_nil_iff, or_false] at hx
    rcases hx with rfl | rfl
    · exact hr
    · exact hs))









end Go.Proofs.YtkkgfdfjgfigcaaDoor

/-
  The walk of BitsTextsMatchSpec. Conditions: the library's variable lies there.
-/
namespace Go.Proofs.YtkkgfdfjgfigcaaDoor
set_option linter.unusedVariables false
set_option linter.unusedSimpArgs false
open Go.RowKit Go.Shelf

theorem ParsedT.form {s : ByteArray} {e : Ending} (h : ParsedT s e) : ∃ (q : Pat) (k : Int), e = .returned (.tuple #[.agg q.cells.toArray, .int .i64 k]) ∧ ((k = 0 ∧ textTo q 10 = s.data.toList) ∨ k = 3) := by
  rcases h with ⟨q, _, h2, h3⟩ | ⟨h1, _⟩
  · exact ⟨q, 0, h3, .inl ⟨rfl, h2⟩⟩
  · exact ⟨Pat.zero, 3, h1.trans (by rw [cells_zero]), .inr rfl⟩
theorem ParsedT.of_text {p : Pat} (hp : p.ok) {s : ByteArray} (hs : s.data.toList = textTo p 10) {e : Ending} (h : ParsedT s e) : e = .returned (.tuple #[.agg p.cells.toArray, .int .i64 0]) :=
  h.det (.inl ⟨p, hp, hs.symm, rfl⟩)
theorem eqlP (w : World) (p : Pat) : (binOp .eql 25 (.agg p.cells.toArray) (.agg p.cells.toArray)).run Tryd.prog w = .ok (.bool true) w := by
  rw [eql_pat, decide_eq_true rfl, decide_eq_true rfl]; rfl
set_option maxRecDepth 100000 in
set_option maxHeartbeats 6400000 in
theorem textsLaw_any (m b : List Int) (s : ByteArray) (w : World) (hm : m.length = 10) (hb : b.length = 10) (hG : GOk w) :
    Calls Tryd.prog 3 #[.agg (m.map iV ++ b.map iV).toArray, .string s] w fun e w' => e = .returned (.bool true) ∧ Below w.heap.size w w' := by
  obtain ⟨D, hD⟩ : ∃ D, pairI m b = D := ⟨_, rfl⟩
  have hri := fun w => rright_any m b w hm hb
  rw [hD] at hri
  have HRI := Lib.hid hri
  obtain ⟨C, hC⟩ : ∃ C, m.map iV ++ b.map iV = C := ⟨_, rfl⟩
  have hC20 : C.length = 20 := by rw [← hC, List.length_append, List.length_map, List.length_map, hm, hb]
  have HC20 := Lib.hid hC20
  have hzC : (Tryd.prog.info? 25).map (·.size) = some C.length := by rw [hC20]; exact Tryd.szP
  have HG := Lib.hid hG
  have HD : Hid (D = true → ∃ p : Pat, p.ok ∧ C = p.cells) := by
    have : D = true → ∃ p : Pat, p.ok ∧ C = p.cells := fun h => by
      obtain ⟨p, hp, hpm, hpb⟩ := right_pat hm hb (hD.trans h)
      exact ⟨p, hp, by rw [← hC, ← hpm, ← hpb]; unfold Pat.cells; rw [H_iV, H_iV]⟩
    exact this
  rw [hC]
  rw [hC] at HRI
  clear hri hm hb hG hD hC hC20
  go_enter Tryd.func3, Tryd.ntmps3
  go_wp2_with (with_reducible refine wpList_box (o := ⟨some 2, .box 25 (.tmp 0), _, _, _, _⟩) ?g1 25 (.tmp 0) ?o1 (.agg C.toArray) C ?x1 ?c1 ?_)
  try (case g1 => rfl)
  try (case o1 => rfl)
  try (case x1 => rfl)
  try (case c1 => rfl)
  intro g2 w1 hg2 hs1 hb1 B2
  have hbe : Below w.heap.size w w1 := hb1.mono (Nat.le_of_eq hg2.out.symm)
  have hl2 : w.heap.size ≤ g2 := Nat.le_of_eq hg2.out.symm
  clear hb1 hs1 hg2
  go_wp2_with fail
  (with_reducible refine (sanity_any _ (HG.out.next hbe)).mono ?_)
  rintro e w2 ⟨rfl, hb2⟩
  have B2 := B2.next hb2 B2.lt
  have hbe := below_join hbe hb2
  clear hb2
  go_wp2_with (with_reducible refine wpList_get (o := ⟨some 14, .load 25 (.tmp 2), _, _, _, _⟩) (by with_unfolding_all rfl) 25 (.tmp 2) (by with_unfolding_all rfl) g2 0 (by with_unfolding_all rfl) B2 C (cs_all _) _ (by exact Tryd.underlying25) (by with_unfolding_all rfl) hzC ?_)
  (with_reducible refine (HRI.out _).mono ?_)
  rintro e w3 ⟨rfl, hb3⟩
  have B2 := B2.next hb3 B2.lt
  have hbe := below_join hbe hb3
  clear hb3
  cases D with
  | false =>
    go_wp2
    go_ret
    exact ⟨rfl, hbe⟩
  | true =>
    obtain ⟨p, hp, hpc⟩ := HD.out rfl
    subst hpc
    by_cases hs : 200 < s.size
    · have hsi : (200 : Int) < (s.size : Int) := by omega
      go_wp2
      go_ret
      exact ⟨rfl, hbe⟩
    · have hsi : ¬ (200 : Int) < (s.size : Int) := by omega
      have hsz : s.size ≤ 1000000 := by omega
      have HP := Lib.hid hp
      -- the first two calls give the same
      have HPA := Lib.hid (fun w (h : GOk w) => parse_any s w hsz h)
      have HRP := Lib.hid (fun w => rparse_any s w hsz)
      obtain ⟨X, hX⟩ : ∃ X : ByteArray, (⟨(textTo p 10).toArray⟩ : ByteArray) = X := ⟨_, rfl⟩
      have hXl : X.data.toList = textTo p 10 := by rw [← hX]
      have hXz : X.size ≤ 1000000 := by
        have h1 := textTo_length p 10
        rw [← hXl, bytes_size] at h1
        omega
      have HTX := Lib.hid (fun w => text_any p w)
      have HRT := Lib.hid (fun w => rtext_any p w)
      rw [hX] at HTX HRT
      have HPX := Lib.hid (fun w (h : GOk w) => parse_any X w hXz h)
      have HXT : Hid (∀ e, ParsedT X e → e = .returned (.tuple #[.agg p.cells.toArray, .int .i64 0])) := by
        have : ∀ e, ParsedT X e → e = .returned (.tuple #[.agg p.cells.toArray, .int .i64 0]) := fun e he => ParsedT.of_text hp hXl he
        exact this
      have hep := Lib.hid (fun w => eqlP w p)
      clear hX hXl hXz hp
      obtain ⟨CP, hCP⟩ : ∃ c, p.cells = c := ⟨_, rfl⟩
      have hCPl : CP.length = 20 := by rw [← hCP]; exact Pat.cells_length p
      have oCP : ∀ u ∈ CP, u.oneCell' = true := by rw [← hCP]; exact cells_one p
      rw [hCP] at B2 hzC HTX HRT HXT hep
      clear hCP
      go_wp2_with fail
      (with_reducible refine (HPA.out _ (HG.out.next hbe)).mono ?_)
      rintro e w4 ⟨he, hb4⟩
      have hE1 := he.text
      obtain ⟨q, k, rfl, hqk⟩ := hE1.form
      have B2 := B2.next hb4 B2.lt
      have hbe := below_join hbe hb4
      have HE1 := Lib.hid hE1
      have heq := fun w => eqlP w q
      have HTQ := Lib.hid (fun w => text_any q w)
      obtain ⟨CQ, hCQ⟩ : ∃ c, q.cells = c := ⟨_, rfl⟩
      have hCQl : CQ.length = 20 := by rw [← hCQ]; exact Pat.cells_length q
      have oCQ : ∀ u ∈ CQ, u.oneCell' = true := by rw [← hCQ]; exact cells_one q
      rw [hCQ] at HE1 heq HTQ
      rw [hCQ]
      have hzQ : (Tryd.prog.info? 25).map (·.size) = some CQ.length := by rw [hCQl]; exact Tryd.szP
      clear he hE1 hb4 hCQ
      have HQK := Lib.hid hqk
      clear hqk
      have hepp := hep.out
      clear hep
      go_wp2_with (with_reducible refine wpList_alloc (o := ⟨some 6, .alloc 25, _, _, _, _⟩) (by with_unfolding_all rfl) 25 (by with_unfolding_all rfl) (.agg (H no ++ H no).toArray) (H no ++ H no) (by exact Tryd.zeroPt) (by with_unfolding_all rfl) ?_)
      intro g6 wa61 hg61 hs61 hb61 hB61
      have hl61 : w4.heap.size ≤ g6 := Nat.le_of_eq hg61.out.symm
      have lt61B2 := Nat.lt_of_lt_of_le B2.lt hl61
      have le61 : w.heap.size ≤ g6 := Nat.le_trans hbe.size hl61
      have hb61 := hb61.mono hl61
      have B2 := B2.next hb61 B2.lt
      have hbe := below_join hbe hb61
      go_wp2_with (with_reducible refine wpList_put (o := ⟨none, .store 25 (.tmp 6) (.tmp 26), _, _, _, _⟩) (by with_unfolding_all rfl) 25 (.tmp 6) (.tmp 26) (by with_unfolding_all rfl) g6 0 (by with_unfolding_all rfl) (.agg CQ.toArray) (by with_unfolding_all rfl) hB61 CQ (by with_unfolding_all rfl) (by with_unfolding_all (rw [hCQl]; exact Tryd.szP)) (by with_unfolding_all (rw [hCQl, List.length_append, H_length]; omega)) (by with_unfolding_all (exact oCQ)) ?_)
      intro wb61 hu61 B6
      rw [splice_all _ _ (by rw [hCQl, List.length_append, H_length])] at B6
      have B2 := B2.upd hu61 (Nat.ne_of_lt lt61B2)
      have hbe := hbe.trans (hu61.below (B := w.heap.size) le61)
      clear hu61 hB61 hs61 hg61 hb61
      go_wp2_with fail
      (with_reducible refine (HRP.out _).mono ?_)
      rintro e w5 ⟨he, hb5⟩
      obtain rfl := HE1.out.det he
      have B2 := B2.next hb5 B2.lt
      have B6 := B6.next hb5 B6.lt
      have hbe := below_join hbe hb5
      clear he hb5
      go_wp2_with (with_reducible refine wpList_alloc (o := ⟨some 8, .alloc 25, _, _, _, _⟩) (by with_unfolding_all rfl) 25 (by with_unfolding_all rfl) (.agg (H no ++ H no).toArray) (H no ++ H no) (by exact Tryd.zeroPt) (by with_unfolding_all rfl) ?_)
      intro g8 wa81 hg81 hs81 hb81 hB81
      have hl81 : w5.heap.size ≤ g8 := Nat.le_of_eq hg81.out.symm
      have lt81B2 := Nat.lt_of_lt_of_le B2.lt hl81
      have lt81B6 := Nat.lt_of_lt_of_le B6.lt hl81
      have le81 : w.heap.size ≤ g8 := Nat.le_trans hbe.size hl81
      have hb81 := hb81.mono hl81
      have B2 := B2.next hb81 B2.lt
      have B6 := B6.next hb81 B6.lt
      have hbe := below_join hbe hb81
      go_wp2_with (with_reducible refine wpList_put (o := ⟨none, .store 25 (.tmp 8) (.tmp 31), _, _, _, _⟩) (by with_unfolding_all rfl) 25 (.tmp 8) (.tmp 31) (by with_unfolding_all rfl) g8 0 (by with_unfolding_all rfl) (.agg CQ.toArray) (by with_unfolding_all rfl) hB81 CQ (by with_unfolding_all rfl) (by with_unfolding_all (rw [hCQl]; exact Tryd.szP)) (by with_unfolding_all (rw [hCQl, List.length_append, H_length]; omega)) (by with_unfolding_all (exact oCQ)) ?_)
      intro wb81 hu81 B8
      rw [splice_all _ _ (by rw [hCQl, List.length_append, H_length])] at B8
      have B2 := B2.upd hu81 (Nat.ne_of_lt lt81B2)
      have B6 := B6.upd hu81 (Nat.ne_of_lt lt81B6)
      have hbe := hbe.trans (hu81.below (B := w.heap.size) le81)
      clear hu81 hB81 hs81 hg81 hb81
      go_wp2_with (with_reducible refine wpList_get (o := ⟨some 33, .load 25 (.tmp 2), _, _, _, _⟩) (by with_unfolding_all rfl) 25 (.tmp 2) (by with_unfolding_all rfl) g2 0 (by with_unfolding_all rfl) B2 CP (cs_all _) _ (by exact Tryd.underlying25) (by with_unfolding_all rfl) hzC ?_)
      (with_reducible refine (HTX.out _).mono ?_)
      rintro e w6 ⟨rfl, hb6⟩
      have B2 := B2.next hb6 B2.lt
      have B6 := B6.next hb6 B6.lt
      have B8 := B8.next hb6 B8.lt
      have hbe := below_join hbe hb6
      clear hb6
      go_wp2_with fail
      (with_reducible refine (HPX.out _ (HG.out.next hbe)).mono ?_)
      rintro e w7 ⟨he, hb7⟩
      obtain rfl := HXT.out _ he.text
      have B2 := B2.next hb7 B2.lt
      have B6 := B6.next hb7 B6.lt
      have B8 := B8.next hb7 B8.lt
      have hbe := below_join hbe hb7
      clear he hb7
      go_wp2_with (with_reducible refine wpList_alloc (o := ⟨some 11, .alloc 25, _, _, _, _⟩) (by with_unfolding_all rfl) 25 (by with_unfolding_all rfl) (.agg (H no ++ H no).toArray) (H no ++ H no) (by exact Tryd.zeroPt) (by with_unfolding_all rfl) ?_)
      intro g11 wa11 hg11 hs11 hb11 hB11
      have hl11 : w7.heap.size ≤ g11 := Nat.le_of_eq hg11.out.symm
      have lt11B2 := Nat.lt_of_lt_of_le B2.lt hl11
      have lt11B6 := Nat.lt_of_lt_of_le B6.lt hl11
      have lt11B8 := Nat.lt_of_lt_of_le B8.lt hl11
      have le11 : w.heap.size ≤ g11 := Nat.le_trans hbe.size hl11
      have hb11 := hb11.mono hl11
      have B2 := B2.next hb11 B2.lt
      have B6 := B6.next hb11 B6.lt
      have B8 := B8.next hb11 B8.lt
      have hbe := below_join hbe hb11
      go_wp2_with (with_reducible refine wpList_put (o := ⟨none, .store 25 (.tmp 11) (.tmp 38), _, _, _, _⟩) (by with_unfolding_all rfl) 25 (.tmp 11) (.tmp 38) (by with_unfolding_all rfl) g11 0 (by with_unfolding_all rfl) (.agg CP.toArray) (by with_unfolding_all rfl) hB11 CP (by with_unfolding_all rfl) (by with_unfolding_all (rw [hCPl]; exact Tryd.szP)) (by with_unfolding_all (rw [hCPl, List.length_append, H_length]; omega)) (by with_unfolding_all (exact oCP)) ?_)
      intro wb11 hu11 B11
      rw [splice_all _ _ (by rw [hCPl, List.length_append, H_length])] at B11
      have B2 := B2.upd hu11 (Nat.ne_of_lt lt11B2)
      have B6 := B6.upd hu11 (Nat.ne_of_lt lt11B6)
      have B8 := B8.upd hu11 (Nat.ne_of_lt lt11B8)
      have hbe := hbe.trans (hu11.below (B := w.heap.size) le11)
      clear hu11 hB11 hs11 hg11 hb11
      have hXX : (X.toList == X.toList) = true := beq_self_eq_true _
      have HXX := Lib.hid hXX
      rcases HQK.out with ⟨rfl, hqt⟩ | rfl
      · have hsq : Hid ((⟨(textTo q 10).toArray⟩ : ByteArray) = s) := by
          have : (⟨(textTo q 10).toArray⟩ : ByteArray) = s := by
            apply ByteArray.ext
            apply Array.ext'
            rw [hqt]
          exact this
        rw [hsq.out] at HTQ
        have hss : (s.toList == s.toList) = true := beq_self_eq_true _
        clear hqt
        go_wp2_with (first | (with_reducible refine wpList_getg (o := ⟨some 42, .load 25 (.tmp 6), _, _, _, _⟩) (by with_unfolding_all rfl) 25 (.tmp 6) (by with_unfolding_all rfl) g6 0 (by with_unfolding_all rfl) B6 CQ (cs_all _) _ (by exact Tryd.underlying25) (by with_unfolding_all rfl) hzQ ?_) | (with_reducible refine wpList_getg (o := ⟨some 43, .load 25 (.tmp 8), _, _, _, _⟩) (by with_unfolding_all rfl) 25 (.tmp 8) (by with_unfolding_all rfl) g8 0 (by with_unfolding_all rfl) B8 CQ (cs_all _) _ (by exact Tryd.underlying25) (by with_unfolding_all rfl) hzQ ?_) | (with_reducible refine wpList_getg (o := ⟨some 53, .load 25 (.tmp 2), _, _, _, _⟩) (by with_unfolding_all rfl) 25 (.tmp 2) (by with_unfolding_all rfl) g2 0 (by with_unfolding_all rfl) B2 CP (cs_all _) _ (by exact Tryd.underlying25) (by with_unfolding_all rfl) hzC ?_))
        (with_reducible refine (HRT.out _).mono ?_)
        rintro e w8 ⟨rfl, hb8⟩
        have B2 := B2.next hb8 B2.lt
        have B6 := B6.next hb8 B6.lt
        have B11 := B11.next hb8 B11.lt
        have hbe := below_join hbe hb8
        clear hb8 B8
        go_wp2_with (first | (with_reducible refine wpList_getg (o := ⟨some 62, .load 25 (.tmp 11), _, _, _, _⟩) (by with_unfolding_all rfl) 25 (.tmp 11) (by with_unfolding_all rfl) g11 0 (by with_unfolding_all rfl) B11 CP (cs_all _) _ (by exact Tryd.underlying25) (by with_unfolding_all rfl) hzC ?_) | (with_reducible refine wpList_getg (o := ⟨some 63, .load 25 (.tmp 2), _, _, _, _⟩) (by with_unfolding_all rfl) 25 (.tmp 2) (by with_unfolding_all rfl) g2 0 (by with_unfolding_all rfl) B2 CP (cs_all _) _ (by exact Tryd.underlying25) (by with_unfolding_all rfl) hzC ?_) | (with_reducible refine wpList_getg (o := ⟨some 70, .load 25 (.tmp 6), _, _, _, _⟩) (by with_unfolding_all rfl) 25 (.tmp 6) (by with_unfolding_all rfl) g6 0 (by with_unfolding_all rfl) B6 CQ (cs_all _) _ (by exact Tryd.underlying25) (by with_unfolding_all rfl) hzQ ?_))
        (with_reducible refine (HTQ.out _).mono ?_)
        rintro e w9 ⟨rfl, hb9⟩
        have hbe := below_join hbe hb9
        go_wp2
        go_ret
        exact ⟨rfl, hbe⟩
      · go_wp2_with (first | (with_reducible refine wpList_getg (o := ⟨some 42, .load 25 (.tmp 6), _, _, _, _⟩) (by with_unfolding_all rfl) 25 (.tmp 6) (by with_unfolding_all rfl) g6 0 (by with_unfolding_all rfl) B6 CQ (cs_all _) _ (by exact Tryd.underlying25) (by with_unfolding_all rfl) hzQ ?_) | (with_reducible refine wpList_getg (o := ⟨some 43, .load 25 (.tmp 8), _, _, _, _⟩) (by with_unfolding_all rfl) 25 (.tmp 8) (by with_unfolding_all rfl) g8 0 (by with_unfolding_all rfl) B8 CQ (cs_all _) _ (by exact Tryd.underlying25) (by with_unfolding_all rfl) hzQ ?_) | (with_reducible refine wpList_getg (o := ⟨some 53, .load 25 (.tmp 2), _, _, _, _⟩) (by with_unfolding_all rfl) 25 (.tmp 2) (by with_unfolding_all rfl) g2 0 (by with_unfolding_all rfl) B2 CP (cs_all _) _ (by exact Tryd.underlying25) (by with_unfolding_all rfl) hzC ?_))
        (with_reducible refine (HRT.out _).mono ?_)
        rintro e w8 ⟨rfl, hb8⟩
        have B2 := B2.next hb8 B2.lt
        have B11 := B11.next hb8 B11.lt
        have hbe := below_join hbe hb8
        clear hb8 B8 B6
        go_wp2_with (first | (with_reducible refine wpList_getg (o := ⟨some 62, .load 25 (.tmp 11), _, _, _, _⟩) (by with_unfolding_all rfl) 25 (.tmp 11) (by with_unfolding_all rfl) g11 0 (by with_unfolding_all rfl) B11 CP (cs_all _) _ (by exact Tryd.underlying25) (by with_unfolding_all rfl) hzC ?_) | (with_reducible refine wpList_getg (o := ⟨some 63, .load 25 (.tmp 2), _, _, _, _⟩) (by with_unfolding_all rfl) 25 (.tmp 2) (by with_unfolding_all rfl) g2 0 (by with_unfolding_all rfl) B2 CP (cs_all _) _ (by exact Tryd.underlying25) (by with_unfolding_all rfl) hzC ?_))
        go_ret
        exact ⟨rfl, hbe⟩
end Go.Proofs.YtkkgfdfjgfigcaaDoor
