/-
  Contracts of the functions that the statement calls, part 26 of 26 (merged texts: Nd). Conditions: as the head of each part says.
-/
import Derived.Test.YtbldnhpbmfmepaaDoorGW
import Derived.Test.YtbldnhpbmfmepaaDoorGY
import Derived.Test.YtbldnhpbmfmepaaDoorGL
import Derived.Test.YtbldnhpbmfmepaaDoorGI

/-
  Contracts at heads and patterns that are right; rows of two, raw. Conditions: right patterns.
-/
namespace Go.Proofs.YtbldnhpbmfmepaaDoor
set_option linter.unusedVariables false
set_option linter.unusedSimpArgs false
open Go.RowKit

theorem rightI_HI (f : Nat → Bool) : rightI (HI f) := fun x hx => by
  unfold HI at hx
  obtain ⟨n, hn, rfl⟩ := List.mem_map.1 hx
  have := HN_lt f n hn
  omega
section
variable (f g : Nat → Bool) (p q : Pat) (w : World)
theorem rightHead_h : Calls Tryd.prog 15 #[.agg (H f).toArray] w fun e w' => e = .returned (.bool true) ∧ Below w.heap.size w w' := by
  have h := rightHead_any (HI f) w (HI_length f)
  rw [decide_eq_true (rightI_HI f), ← H_iV] at h
  exact h
theorem rrightHead_h : Calls Tryd.prog 16 #[.agg (H f).toArray] w fun e w' => e = .returned (.bool true) ∧ Below w.heap.size w w' := by
  have h := rrightHead_any (HI f) w (HI_length f)
  rw [decide_eq_true (rightI_HI f), ← H_iV] at h
  exact h
theorem heads_h : Calls Tryd.prog 19 #[.agg (H f).toArray, .agg (H g).toArray] w fun e w' => e = .returned (.bool true) ∧ Below w.heap.size w w' := by
  have h := heads_any (HI f) (HI g) w (HI_length f) (HI_length g)
  rw [decide_eq_true (rightI_HI f), decide_eq_true (rightI_HI g), ← H_iV, ← H_iV] at h
  exact h
variable {p}
theorem right_p (hp : p.ok) : Calls Tryd.prog 17 #[.agg p.cells.toArray] w fun e w' => e = .returned (.bool true) ∧ Below w.heap.size w w' := by
  have h := right_any (HI p.m) (HI p.b) w (HI_length _) (HI_length _)
  rw [pat_right hp, ← H_iV, ← H_iV] at h
  exact h
theorem rright_p (hp : p.ok) : Calls Tryd.prog 18 #[.agg p.cells.toArray] w fun e w' => e = .returned (.bool true) ∧ Below w.heap.size w w' := by
  have h := rright_any (HI p.m) (HI p.b) w (HI_length _) (HI_length _)
  rw [pat_right hp, ← H_iV, ← H_iV] at h
  exact h
theorem rightMod_p (hp : p.ok) : Calls Tryd.prog 43 #[.agg p.cells.toArray] w fun e w' => e = .returned (.bool true) ∧ Below w.heap.size w w' := by
  have h := rightMod_any (HI p.m) (HI p.b) w (HI_length _) (HI_length _)
  rw [pat_right hp, ← H_iV, ← H_iV] at h
  exact h
theorem rrightMod_p (hp : p.ok) : Calls Tryd.prog 42 #[.agg p.cells.toArray] w fun e w' => e = .returned (.bool true) ∧ Below w.heap.size w w' := by
  have h := rrightMod_any (HI p.m) (HI p.b) w (HI_length _) (HI_length _)
  rw [pat_right hp, ← H_iV, ← H_iV] at h
  exact h
theorem rmatch_m (p : Pat) {D : Bool} (h : Nat → Bool) (hD : decide (p.hit h) = D) : Calls Tryd.prog 30 #[.agg p.cells.toArray, .agg (H h).toArray] w fun e w' => e = .returned (.bool D) ∧ Below w.heap.size w w' := by
  have := rmatch_any p h w
  rw [hD] at this
  exact this
theorem match_m (hp : p.ok) {D : Bool} (h : Nat → Bool) (hD : decide (p.hit h) = D) : Calls Tryd.prog 29 #[.agg p.cells.toArray, .agg (H h).toArray] w fun e w' => e = .returned (.bool D) ∧ Below w.heap.size w w' := by
  have := match_any p h w
  have e : decide (p.fits h) = decide (p.hit h) := by
    by_cases hh : p.hit h
    · rw [decide_eq_true hh, decide_eq_true ((Pat.fits_iff hp h).2 hh)]
    · rw [decide_eq_false hh, decide_eq_false fun hc => hh ((Pat.fits_iff hp h).1 hc)]
  rw [e, hD] at this
  exact this
end
/-- The patterns of a list are all right. -/
theorem rrightAll_p (A : Option Addr) (c : Nat) (l : List Pat) (w : World) (hl : l.length ≤ 140737488355328) (hok : ∀ p ∈ l, p.ok) (hS : PatsAt w A l) :
    Calls Tryd.prog 20 #[.slice A l.length c] w fun e w' => e = .returned (.bool true) ∧ Below w.heap.size w w' := by
  have hlen : (rawOf l).length = l.length := by unfold rawOf; rw [List.length_map]
  have h := rrightAll_any A c (rawOf l) w (by rw [hlen]; exact hl) (rawOf_tens l) hS.raw
  rw [rawOf_right hok, hlen] at h
  exact h
theorem rrightAll_2 (g c : Nat) (p q : Pat) (w : World) (hp : p.ok) (hq : q.ok) (hS : PatsAt w (some ⟨g, 0, none⟩) [p, q]) :
    Calls Tryd.prog 20 #[.slice (some ⟨g, 0, none⟩) 2 c] w fun e w' => e = .returned (.bool true) ∧ Below w.heap.size w w' :=
  rrightAll_p _ c [p, q] w (by show 2 ≤ _; decide) (fun x hx => by
    simp only [List.mem_cons, List.mem_nil_iff, or_false] at hx
    rcases hx with rfl | rfl
    · exact hp
    · exact hq) hS
/-- Rows of raw words. -/
def rawRow (l : List (List Int × List Int)) : List Value := l.flatMap rawCells
theorem rawCells_length {r : List Int × List Int} (h : r.1.length = 10 ∧ r.2.length = 10) : (rawCells r).length = 20 := by
  unfold rawCells
  rw [List.length_append, List.length_map, List.length_map, h.1, h.2]
theorem new_raws (W : World) (l : List (List Int × List Int)) (hT : Tens l) : RawAt (W.alloc (.cells (rawRow l).toArray 25)) (some ⟨W.heap.size, 0, none⟩) l := by
  have hb := blk_new W 25 (rawRow l)
  intro k r hr
  refine ⟨_, rfl, fun q u hu => ?_⟩
  have hq : q < 20 := by have := (List.getElem?_eq_some_iff.1 hu).1; rw [rawCells_length (hT r (List.mem_of_getElem? hr))] at this; exact this
  have key : ∀ (l : List (List Int × List Int)), Tens l → ∀ k, l[k]? = some r → (rawRow l)[k * 20 + q]? = some u := by
    intro l
    induction l with
    | nil => intro _ k hk; cases hk
    | cons a l ih =>
      intro hT k hk
      have ha := rawCells_length (hT a (List.mem_cons_self ..))
      show (rawCells a ++ rawRow l)[k * 20 + q]? = _
      cases k with
      | zero =>
        have e : a = r := by simpa using hk
        rw [e] at ha ⊢
        rw [List.getElem?_append_left (by rw [ha]; omega)]
        simpa using hu
      | succ k =>
        rw [List.getElem?_append_right (by rw [ha]; omega), ha, show (k + 1) * 20 + q - 20 = k * 20 + q by omega]
        exact ih (fun x hx => hT x (List.mem_cons_of_mem _ hx)) k (by simpa using hk)
  rw [add_none, add_none, Nat.zero_add]
  exact hb.cell (key l hT k hr)
theorem run_rslice2 (W : World) (r s : List Int × List Int) (hr : r.1.length = 10 ∧ r.2.length = 10) (hs : s.1.length = 10 ∧ s.2.length = 10) : (Instr.buildSlice 31 2 #[(0, .agg (rawCells r).toArray), (1, .agg (rawCells s).toArray)]).run Tryd.prog W = .ok (.slice (some ⟨W.heap.size, 0, none⟩) 2 2) (W.alloc (.cells (rawRow [r, s]).toArray 25)) := by
  obtain ⟨r1, r2⟩ := r
  obtain ⟨s1, s2⟩ := s
  obtain ⟨a0, a1, a2, a3, a4, a5, a6, a7, a8, a9, e⟩ := list10 hr.1
  obtain ⟨b0, b1, b2, b3, b4, b5, b6, b7, b8, b9, e2⟩ := list10 hr.2
  obtain ⟨c0, c1, c2, c3, c4, c5, c6, c7, c8, c9, e3⟩ := list10 hs.1
  obtain ⟨d0, d1, d2, d3, d4, d5, d6, d7, d8, d9, e4⟩ := list10 hs.2
  subst e e2 e3 e4
  kernel_rfl
theorem wpList_rslice2 {ops : Array Oper} {rest : List Oper} {o : Oper} {a : Act} {W : World} {Q : Exit → Act → World → Prop} (hw : Region.wanted o (yielded ops a.tmps) = true) (x y : Operand) (ho : o.op = .buildSlice 31 2 #[(0, x), (1, y)])
    (r s : List Int × List Int) (hr : r.1.length = 10 ∧ r.2.length = 10) (hs : s.1.length = 10 ∧ s.2.length = 10) (hx : a.eval x = .agg (rawCells r).toArray) (hy : a.eval y = .agg (rawCells s).toArray)
    (h : ∀ g w', Hid (g = W.heap.size) → Below W.heap.size W w' → g < w'.heap.size → RawAt w' (some ⟨g, 0, none⟩) [r, s] → wpList Tryd.prog ops Q rest (a.put o.dst (.slice (some ⟨g, 0, none⟩) 2 2)) w') : wpList Tryd.prog ops Q (o :: rest) a W := by
  refine BigFrame.wpList_want hw fun _ hK => ?_
  have hrun := run_rslice2 W r s hr hs
  unfold Oper.wp execOp
  simp only [ho, List.map_toArray, List.map_cons, List.map_nil, hx, hy, Sem.run_bind, Sem.run_pure, Result.andThen_ok, hrun]
  exact hK _ _ (h _ _ rfl (below_new W _) (by simp) (new_raws W _ fun x hx => by
    simp only [List.mem_cons, List.mem_nil_iff, or_false] at hx
    rcases hx with rfl | rfl
    · exact hr
    · exact hs))
theorem rrightAll_r2 (g c : Nat) (r s : List Int × List Int) (w : World) (hr : r.1.length = 10 ∧ r.2.length = 10) (hs : s.1.length = 10 ∧ s.2.length = 10) {D : Bool} (hD : (pairI r.1 r.2 && pairI s.1 s.2) = D) (hS : RawAt w (some ⟨g, 0, none⟩) [r, s]) :
    Calls Tryd.prog 20 #[.slice (some ⟨g, 0, none⟩) 2 c] w fun e w' => e = .returned (.bool D) ∧ Below w.heap.size w w' := by
  have h := rrightAll_any (some ⟨g, 0, none⟩) c [r, s] w (by show 2 ≤ _; decide) (fun x hx => by
    simp only [List.mem_cons, List.mem_nil_iff, or_false] at hx
    rcases hx with rfl | rfl
    · exact hr
    · exact hs) hS
  rw [show (([r, s] : List (List Int × List Int)).all fun r => pairI r.1 r.2) = D by rw [← hD]; simp] at h
  exact h
end Go.Proofs.YtbldnhpbmfmepaaDoor
