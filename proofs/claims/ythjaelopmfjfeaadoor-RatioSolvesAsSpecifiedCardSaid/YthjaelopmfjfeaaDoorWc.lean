/-
  Contracts of the walks over the closure that changes a row. Conditions: the row and the first error lie there.
-/
import Derived.Test.YthjaelopmfjfeaaDoorWb
namespace Go.Proofs.YthjaelopmfjfeaaDoor
set_option linter.unusedVariables false
set_option linter.unusedSimpArgs false
open Go.RowKit

theorem Tryd.szE : (Tryd.prog.info? 24).map (·.size) = some 1 := by kernel_rfl
/-- A number, or the error that it is too large. -/
def ansO : Option Rat → Ending
  | some y => .returned (.tuple #[.agg (qC y).toArray, .int .i64 0])
  | none => zret 17
theorem ansO_ok (q : Rat) : ansQ q = ansO (okQ q) := by
  unfold ansQ okQ
  split <;> rfl
/-- What a row has become: all of it, or an error. -/
def Changed (F : Nat → Rat → Option Rat) (g ge n : Nat) (P R : List Value) (l : List Rat) (w : World) (e : Ending) (w' : World) : Prop :=
  Only [g, ge] w w' ∧ ((∃ l', opTo F 0 l = some l' ∧ e = .returned (.int .i64 0) ∧ Blk w' g 23 (P ++ (rowC l' ++ R)) ∧ Blk w' ge 24 [.int .i64 0]) ∨
    (opTo F 0 l = none ∧ e = .returned (.int .i64 17) ∧ (∃ raw, raw.length = n ∧ Blk w' g 23 (P ++ (rowR raw ++ R))) ∧ Blk w' ge 24 [.int .i64 17]))
def ChRel (F : Nat → Rat → Option Rat) (g ge n : Nat) (P R : List Value) (l : List Rat) (w : World) (i : Value) (wr : World) : Prop :=
  ∃ k : Nat, k ≤ n ∧ i = .int .i64 (k : Int) ∧ Only [g, ge] w wr ∧ ((∃ D, D.length = k ∧ opTo F 0 (l.take k) = some D ∧ Blk wr g 23 (P ++ (rowC (D ++ l.drop k) ++ R)) ∧ Blk wr ge 24 [.int .i64 0]) ∨
    (opTo F 0 l = none ∧ (∃ raw, raw.length = n ∧ Blk wr g 23 (P ++ (rowR raw ++ R))) ∧ Blk wr ge 24 [.int .i64 17]))
theorem opTo_step {F : Nat → Rat → Option Rat} {l D : List Rat} {k : Nat} {x : Rat} (hD : D.length = k) (hx : l[k]? = some x) (h : opTo F 0 (l.take k) = some D) : opTo F 0 (l.take (k + 1)) = (F k x).map (fun y => D ++ [y]) := by
  obtain ⟨hk, e⟩ := List.getElem?_eq_some_iff.1 hx
  rw [List.take_succ_eq_append_getElem hk, e, opTo_append, h]
  show (opTo F (0 + (l.take k).length) [x]).map (D ++ ·) = _
  rw [List.length_take, Nat.min_eq_left (by omega), Nat.zero_add]
  unfold opTo
  cases F k x <;> rfl
theorem opTo_fell {F : Nat → Rat → Option Rat} {l : List Rat} {k : Nat} (h : opTo F 0 (l.take k) = none) : opTo F 0 l = none := by
  rw [← List.take_append_drop k l, opTo_append, h]; rfl
theorem row_next {l D : List Rat} {k : Nat} {x y : Rat} {R : List Value} (hD : D.length = k) (hx : l[k]? = some x) : splice (rowC (D ++ l.drop k) ++ R) (k * 2) (qC y) = rowC (D ++ [y] ++ l.drop (k + 1)) ++ R := by
  obtain ⟨hk, e⟩ := List.getElem?_eq_some_iff.1 hx
  have h1 : l.drop k = x :: l.drop (k + 1) := by rw [List.drop_eq_getElem_cons hk, e]
  have h2 : (D ++ l.drop k).set k y = D ++ [y] ++ l.drop (k + 1) := by
    rw [h1, List.set_append_right _ _ (by omega), hD, Nat.sub_self, List.append_assoc]; rfl
  have h3 := rowR_set (l := prs (D ++ l.drop k)) (p := (y.num, (y.den : Int))) (R := R) (k := k) (by rw [prs_length, List.length_append, h1, List.length_cons]; omega)
  rw [prs_set, h2] at h3
  exact h3
theorem splice_off {α : Type} (P X : List α) (j : Nat) (cs : List α) : splice (P ++ X) (P.length + j) cs = P ++ splice X j cs := by
  have e : (P ++ X).drop (P.length + j + cs.length) = X.drop (j + cs.length) := by rw [Nat.add_assoc, ← List.drop_drop, List.drop_left]
  unfold splice
  rw [List.take_length_add_append, e]
  simp only [List.append_assoc]
theorem row_at {w : World} {g : Nat} {l D : List Rat} {k : Nat} {x : Rat} {P R : List Value} {t : TypeId} (hD : D.length = k) (hx : l[k]? = some x) (h : Blk w g t (P ++ (rowC (D ++ l.drop k) ++ R))) : w.rangeAt g (P.length + k * 2) (qC x) := by
  obtain ⟨hk, e⟩ := List.getElem?_eq_some_iff.1 hx
  have h1 : (D ++ l.drop k)[k]? = some x := by
    rw [List.getElem?_append_right (by omega), hD, Nat.sub_self, List.getElem?_drop, Nat.add_zero]; exact hx
  obtain ⟨c1, c2⟩ := rowR_cell (R := R) (prs_get h1)
  intro j u hu
  have e : ∀ i, (P ++ (rowC (D ++ l.drop k) ++ R))[P.length + i]? = (rowC (D ++ l.drop k) ++ R)[i]? := fun i => by
    rw [List.getElem?_append_right (by omega)]; congr 1; omega
  match j with
  | 0 => injection hu with hu; subst hu; exact h.cell ((e (k * 2)).trans c1)
  | 1 => injection hu with hu; subst hu; exact h.cell (by rw [Nat.add_assoc]; exact (e (k * 2 + 1)).trans c2)
  | j + 2 => cases hu
set_option maxRecDepth 100000 in
set_option maxHeartbeats 3200000 in
theorem change_div (F : Nat → Rat → Option Rat) (p0 p1 g o ge n c : Nat) (P R : List Value) (l : List Rat) (w : World) (hP : P.length = o) (hl : l.length = n) (hn : n ≤ 100000) (hge : g ≠ ge)
    (hg : Blk w g 23 (P ++ (rowC l ++ R))) (he : Blk w ge 24 [.int .i64 0])
    (hF : ∀ k x w', l[k]? = some x → Only [g, ge] w w' → w'.rangeAt g (o + k * 2) (qC x) → Calls Tryd.prog 78 #[.int .i64 (k : Int), .pointer (some ⟨p0, 0, none⟩), .pointer (some ⟨p1, 0, none⟩)] w' fun e w2 => e = ansO (F k x) ∧ Below w'.heap.size w' w2) :
    Calls Tryd.prog 76 #[.slice (some ⟨g, o, none⟩) n c, .func (.func 78) #[] #[.pointer (some ⟨p0, 0, none⟩), .pointer (some ⟨p1, 0, none⟩)], .pointer (some ⟨ge, 0, none⟩)] w (Changed F g ge n P R l w) := by
  have HF := Lib.hid hF
  have HL := Lib.hid hl
  have HR0 : ChRel F g ge n P R l w (.int .i64 0) w := ⟨0, Nat.zero_le _, rfl, Only.refl _ _, .inl ⟨[], rfl, rfl, hg, he⟩⟩
  have hni : (n : Int) ≤ 100000 := by omega
  clear hF hl hg he
  go_enter Tryd.func76, Tryd.ntmps76
  go_wp2
  go_loopw [9] (ChRel F g ge n P R l w) (fun i _ => n - (intOf i).toNat)
  case atStart => exact HR0
  case round =>
    clear HR0
    obtain ⟨k, hk, rfl, ho, hst⟩ := hrel
    rcases hst with ⟨D, hD, hop, hB, hE⟩ | ⟨hop, ⟨raw, hraw, hB⟩, hE⟩
    · have c0 := hE.cell (k := 0) rfl
      by_cases hlt : k < n
      · have hki : (k : Int) < (n : Int) := by omega
        have hk0 : (0 : Int) ≤ (k : Int) := by omega
        obtain ⟨x, hx⟩ : ∃ x, l[k]? = some x := ⟨_, List.getElem?_eq_getElem (by rw [HL.out]; exact hlt)⟩
        have HCA := Lib.hid (HF.out k x wr hx ho (by have h := row_at hD hx hB; rw [hP] at h; exact h))
        have hstp := opTo_step hD hx hop
        have hlen : (P ++ (rowC (D ++ l.drop k) ++ R)).length = o + n * 2 + R.length := by
          rw [List.length_append, List.length_append, rowC_length, List.length_append, List.length_drop, hD, HL.out, hP]
          have : k + (n - k) = n := by omega
          rw [this]; omega
        have HLEN := Lib.hid hlen
        have hnx0 : ∀ y, splice (P ++ (rowC (D ++ l.drop k) ++ R)) (o + k * 2) (qC y) = P ++ (rowC (D ++ [y] ++ l.drop (k + 1)) ++ R) := fun y => by
          rw [← hP, splice_off, row_next (y := y) (R := R) hD hx]
        have HNX := Lib.hid hnx0
        clear hx hlen hnx0
        cases hFk : F k x with
        | some y =>
          rw [hFk] at hstp HCA
          have HST := Lib.hid hstp
          obtain ⟨Y, hY⟩ : ∃ Y, qC y = Y := ⟨_, rfl⟩
          have hYl : Y.length = 2 := by rw [← hY]; rfl
          have hY1 : ∀ u ∈ Y, u.oneCell' = true := by rw [← hY]; exact int_one _ _
          have hnx := HNX.out y
          have hCA : Calls Tryd.prog 78 #[.int .i64 (k : Int), .pointer (some ⟨p0, 0, none⟩), .pointer (some ⟨p1, 0, none⟩)] wr fun e w2 => e = .returned (.tuple #[.agg Y.toArray, .int .i64 0]) ∧ Below wr.heap.size wr w2 := by
            have h := HCA.out
            rw [← hY]; exact h
          have HCB := Lib.hid hCA
          rw [hY] at hnx
          have HN2 := Lib.hid hnx
          have HDL : Hid ((D ++ [y]).length = k + 1) := by
            have : (D ++ [y]).length = k + 1 := by rw [List.length_append, hD]; rfl
            exact this
          clear hstp hFk hY hnx HNX hCA HCA hop hD
          go_wp2_with fail
          (with_reducible refine HCB.out.mono ?_)
          rintro e w2 ⟨rfl, hb2⟩
          have hB2 := hB.next hb2 hB.lt
          have hE2 := hE.next hb2 hE.lt
          have ho2 := ho.trans (Only.of_below hb2)
          clear hB hE c0 hb2 HCB
          go_wp2_with (with_reducible refine wpList_put (o := ⟨none, .store 23 (.tmp 22) (.tmp 20), _, _, _, _⟩) (by with_unfolding_all rfl) 23 (.tmp 22) (.tmp 20) (by with_unfolding_all rfl) g (o + k * 2) (by with_unfolding_all rfl) (.agg Y.toArray) (by with_unfolding_all rfl) hB2 Y (by with_unfolding_all rfl) (by with_unfolding_all (rw [hYl]; exact Tryd.szQ)) (by with_unfolding_all (rw [hYl, HLEN.out]; omega)) (by with_unfolding_all (exact hY1)) ?_)
          intro w3 hu3 hB3
          rw [HN2.out] at hB3
          have hE3 := hE2.upd hu3 (fun e => hge e.symm)
          have ho3 := ho2.trans (Only.of_upd hu3 (by simp))
          clear hu3 hB2 hE2 ho2
          go_wp2_with (with_reducible refine wpList_put (o := ⟨none, .store 24 (.tmp 2) (.tmp 21), _, _, _, _⟩) (by with_unfolding_all rfl) 24 (.tmp 2) (.tmp 21) (by with_unfolding_all rfl) ge 0 (by with_unfolding_all rfl) (.int .i64 0) (by with_unfolding_all rfl) hE3 [.int .i64 0] (by with_unfolding_all rfl) (by with_unfolding_all (exact Tryd.szE)) (by with_unfolding_all (exact Nat.le_refl 1)) (by with_unfolding_all (exact one_cell1 rfl)) ?_)
          intro w4 hu4 hE4
          rw [splice_all _ _ (by rfl)] at hE4
          have hB4 := hB3.upd hu4 hge
          have ho4 := ho3.trans (Only.of_upd hu4 (by simp))
          clear hu4 hB3 hE3 ho3
          go_wp2
          go_roundw
          case rel => exact ⟨k + 1, by omega, by go_num, ho4, .inl ⟨D ++ [y], HDL.out, by rw [HST.out]; rfl, hB4, hE4⟩⟩
          case measure => simp [intOf]; omega
        | none =>
          rw [hFk] at hstp HCA
          have hfell := opTo_fell hstp
          have HFE := Lib.hid hfell
          have hraw : ∃ raw, raw.length = n ∧ splice (P ++ (rowC (D ++ l.drop k) ++ R)) (o + k * 2) zC = P ++ (rowR raw ++ R) := ⟨(prs (D ++ l.drop k)).set k (0, 0), by
            rw [List.length_set, prs_length, List.length_append, List.length_drop, hD, HL.out]; omega, by
            rw [← hP, splice_off]
            exact congrArg (P ++ ·) (rowR_set (p := (0, 0)) (by rw [prs_length, List.length_append, List.length_drop, hD, HL.out]; omega))⟩
          obtain ⟨raw, hr1, hr2⟩ := hraw
          have HN2 := Lib.hid hr2
          have hCA : Calls Tryd.prog 78 #[.int .i64 (k : Int), .pointer (some ⟨p0, 0, none⟩), .pointer (some ⟨p1, 0, none⟩)] wr fun e w2 => e = .returned (.tuple #[.agg zC.toArray, .int .i64 17]) ∧ Below wr.heap.size wr w2 := HCA.out
          have HCB := Lib.hid hCA
          clear hstp hFk HNX hCA HCA hop hD hfell hr2
          go_wp2_with fail
          (with_reducible refine HCB.out.mono ?_)
          rintro e w2 ⟨rfl, hb2⟩
          have hB2 := hB.next hb2 hB.lt
          have hE2 := hE.next hb2 hE.lt
          have ho2 := ho.trans (Only.of_below hb2)
          clear hB hE c0 hb2 HCB
          go_wp2_with (with_reducible refine wpList_put (o := ⟨none, .store 23 (.tmp 22) (.tmp 20), _, _, _, _⟩) (by with_unfolding_all rfl) 23 (.tmp 22) (.tmp 20) (by with_unfolding_all rfl) g (o + k * 2) (by with_unfolding_all rfl) (.agg zC.toArray) (by with_unfolding_all rfl) hB2 zC (by with_unfolding_all rfl) (by with_unfolding_all (exact Tryd.szQ)) (by with_unfolding_all (rw [HLEN.out]; show o + k * 2 + 2 ≤ _; omega)) (by with_unfolding_all (exact int_one 0 0)) ?_)
          intro w3 hu3 hB3
          rw [HN2.out] at hB3
          have hE3 := hE2.upd hu3 (fun e => hge e.symm)
          have ho3 := ho2.trans (Only.of_upd hu3 (by simp))
          clear hu3 hB2 hE2 ho2
          go_wp2_with (with_reducible refine wpList_put (o := ⟨none, .store 24 (.tmp 2) (.tmp 21), _, _, _, _⟩) (by with_unfolding_all rfl) 24 (.tmp 2) (.tmp 21) (by with_unfolding_all rfl) ge 0 (by with_unfolding_all rfl) (.int .i64 17) (by with_unfolding_all rfl) hE3 [.int .i64 17] (by with_unfolding_all rfl) (by with_unfolding_all (exact Tryd.szE)) (by with_unfolding_all (exact Nat.le_refl 1)) (by with_unfolding_all (exact one_cell1 rfl)) ?_)
          intro w4 hu4 hE4
          rw [splice_all _ _ (by rfl)] at hE4
          have hB4 := hB3.upd hu4 hge
          have ho4 := ho3.trans (Only.of_upd hu4 (by simp))
          clear hu4 hB3 hE3 ho3
          go_wp2
          go_roundw
          case rel => exact ⟨k + 1, by omega, by go_num, ho4, .inr ⟨HFE.out, ⟨raw, hr1, hB4⟩, hE4⟩⟩
          case measure => simp [intOf]; omega
      · obtain rfl : k = n := by omega
        have hfin : Hid (opTo F 0 l = some D ∧ Blk wr g 23 (P ++ (rowC D ++ R))) := by
          have : opTo F 0 l = some D ∧ Blk wr g 23 (P ++ (rowC D ++ R)) := by
            rw [List.drop_eq_nil_of_le (by rw [HL.out]; exact Nat.le_refl _), List.append_nil] at hB
            rw [List.take_of_length_le (by rw [HL.out]; exact Nat.le_refl _)] at hop
            exact ⟨hop, hB⟩
          exact this
        clear hop hB hD
        go_wp2
        go_ret
        exact ⟨ho, .inl ⟨D, hfin.out.1, rfl, hfin.out.2, hE⟩⟩
    · have c0 := hE.cell (k := 0) rfl
      have HOP := Lib.hid hop
      clear hop
      by_cases hlt : k < n
      · have hki : (k : Int) < (n : Int) := by omega
        go_wp2
        go_ret
        exact ⟨ho, .inr ⟨HOP.out, rfl, ⟨raw, hraw, hB⟩, hE⟩⟩
      · obtain rfl : k = n := by omega
        go_wp2
        go_ret
        exact ⟨ho, .inr ⟨HOP.out, rfl, ⟨raw, hraw, hB⟩, hE⟩⟩
set_option maxRecDepth 100000 in
set_option maxHeartbeats 3200000 in
/-- Behind an error nothing changes. -/
theorem still_div (p0 p1 g o ge n c : Nat) (w : World) (hn : n ≤ 100000) (he : Blk w ge 24 [.int .i64 17]) :
    Calls Tryd.prog 76 #[.slice (some ⟨g, o, none⟩) n c, .func (.func 78) #[] #[.pointer (some ⟨p0, 0, none⟩), .pointer (some ⟨p1, 0, none⟩)], .pointer (some ⟨ge, 0, none⟩)] w fun e w' => e = .returned (.int .i64 17) ∧ Below w.heap.size w w' := by
  have c0 := he.cell (k := 0) rfl
  have hni : (n : Int) ≤ 100000 := by omega
  have hbe := Below.refl w.heap.size w
  go_enter Tryd.func76, Tryd.ntmps76
  by_cases h0 : n = 0
  · subst h0
    go_wp2
    go_loopw [9] (fun i wr => i = .int .i64 0 ∧ wr = w) (fun _ _ => 0)
    case atStart => exact ⟨rfl, rfl⟩
    case round =>
      obtain ⟨rfl, rfl⟩ := hrel
      go_wp2
      go_ret
      exact ⟨rfl, hbe⟩
  · have hni0 : (0 : Int) < (n : Int) := by omega
    have hnn0 : 0 < n := by omega
    go_wp2
    go_loopw [9] (fun i wr => i = .int .i64 0 ∧ wr = w) (fun _ _ => 0)
    case atStart => exact ⟨rfl, rfl⟩
    case round =>
      obtain ⟨rfl, rfl⟩ := hrel
      go_wp2
      go_ret
      exact ⟨rfl, hbe⟩
set_option maxRecDepth 100000 in
set_option maxHeartbeats 3200000 in
theorem change_sub (F : Nat → Rat → Option Rat) (p0 p1 p2 g o ge n c : Nat) (P R : List Value) (l : List Rat) (w : World) (hP : P.length = o) (hl : l.length = n) (hn : n ≤ 100000) (hge : g ≠ ge)
    (hg : Blk w g 23 (P ++ (rowC l ++ R))) (he : Blk w ge 24 [.int .i64 0])
    (hF : ∀ k x w', l[k]? = some x → Only [g, ge] w w' → w'.rangeAt g (o + k * 2) (qC x) → Calls Tryd.prog 90 #[.int .i64 (k : Int), .pointer (some ⟨p0, 0, none⟩), .pointer (some ⟨p1, 0, none⟩), .pointer (some ⟨p2, 0, none⟩)] w' fun e w2 => e = ansO (F k x) ∧ Below w'.heap.size w' w2) :
    Calls Tryd.prog 76 #[.slice (some ⟨g, o, none⟩) n c, .func (.func 90) #[] #[.pointer (some ⟨p0, 0, none⟩), .pointer (some ⟨p1, 0, none⟩), .pointer (some ⟨p2, 0, none⟩)], .pointer (some ⟨ge, 0, none⟩)] w (Changed F g ge n P R l w) := by
  have HF := Lib.hid hF
  have HL := Lib.hid hl
  have HR0 : ChRel F g ge n P R l w (.int .i64 0) w := ⟨0, Nat.zero_le _, rfl, Only.refl _ _, .inl ⟨[], rfl, rfl, hg, he⟩⟩
  have hni : (n : Int) ≤ 100000 := by omega
  clear hF hl hg he
  go_enter Tryd.func76, Tryd.ntmps76
  go_wp2
  go_loopw [9] (ChRel F g ge n P R l w) (fun i _ => n - (intOf i).toNat)
  case atStart => exact HR0
  case round =>
    clear HR0
    obtain ⟨k, hk, rfl, ho, hst⟩ := hrel
    rcases hst with ⟨D, hD, hop, hB, hE⟩ | ⟨hop, ⟨raw, hraw, hB⟩, hE⟩
    · have c0 := hE.cell (k := 0) rfl
      by_cases hlt : k < n
      · have hki : (k : Int) < (n : Int) := by omega
        have hk0 : (0 : Int) ≤ (k : Int) := by omega
        obtain ⟨x, hx⟩ : ∃ x, l[k]? = some x := ⟨_, List.getElem?_eq_getElem (by rw [HL.out]; exact hlt)⟩
        have HCA := Lib.hid (HF.out k x wr hx ho (by have h := row_at hD hx hB; rw [hP] at h; exact h))
        have hstp := opTo_step hD hx hop
        have hlen : (P ++ (rowC (D ++ l.drop k) ++ R)).length = o + n * 2 + R.length := by
          rw [List.length_append, List.length_append, rowC_length, List.length_append, List.length_drop, hD, HL.out, hP]
          have : k + (n - k) = n := by omega
          rw [this]; omega
        have HLEN := Lib.hid hlen
        have hnx0 : ∀ y, splice (P ++ (rowC (D ++ l.drop k) ++ R)) (o + k * 2) (qC y) = P ++ (rowC (D ++ [y] ++ l.drop (k + 1)) ++ R) := fun y => by
          rw [← hP, splice_off, row_next (y := y) (R := R) hD hx]
        have HNX := Lib.hid hnx0
        clear hx hlen hnx0
        cases hFk : F k x with
        | some y =>
          rw [hFk] at hstp HCA
          have HST := Lib.hid hstp
          obtain ⟨Y, hY⟩ : ∃ Y, qC y = Y := ⟨_, rfl⟩
          have hYl : Y.length = 2 := by rw [← hY]; rfl
          have hY1 : ∀ u ∈ Y, u.oneCell' = true := by rw [← hY]; exact int_one _ _
          have hnx := HNX.out y
          have hCA : Calls Tryd.prog 90 #[.int .i64 (k : Int), .pointer (some ⟨p0, 0, none⟩), .pointer (some ⟨p1, 0, none⟩), .pointer (some ⟨p2, 0, none⟩)] wr fun e w2 => e = .returned (.tuple #[.agg Y.toArray, .int .i64 0]) ∧ Below wr.heap.size wr w2 := by
            have h := HCA.out
            rw [← hY]; exact h
          have HCB := Lib.hid hCA
          rw [hY] at hnx
          have HN2 := Lib.hid hnx
          have HDL : Hid ((D ++ [y]).length = k + 1) := by
            have : (D ++ [y]).length = k + 1 := by rw [List.length_append, hD]; rfl
            exact this
          clear hstp hFk hY hnx HNX hCA HCA hop hD
          go_wp2_with fail
          (with_reducible refine HCB.out.mono ?_)
          rintro e w2 ⟨rfl, hb2⟩
          have hB2 := hB.next hb2 hB.lt
          have hE2 := hE.next hb2 hE.lt
          have ho2 := ho.trans (Only.of_below hb2)
          clear hB hE c0 hb2 HCB
          go_wp2_with (with_reducible refine wpList_put (o := ⟨none, .store 23 (.tmp 22) (.tmp 20), _, _, _, _⟩) (by with_unfolding_all rfl) 23 (.tmp 22) (.tmp 20) (by with_unfolding_all rfl) g (o + k * 2) (by with_unfolding_all rfl) (.agg Y.toArray) (by with_unfolding_all rfl) hB2 Y (by with_unfolding_all rfl) (by with_unfolding_all (rw [hYl]; exact Tryd.szQ)) (by with_unfolding_all (rw [hYl, HLEN.out]; omega)) (by with_unfolding_all (exact hY1)) ?_)
          intro w3 hu3 hB3
          rw [HN2.out] at hB3
          have hE3 := hE2.upd hu3 (fun e => hge e.symm)
          have ho3 := ho2.trans (Only.of_upd hu3 (by simp))
          clear hu3 hB2 hE2 ho2
          go_wp2_with (with_reducible refine wpList_put (o := ⟨none, .store 24 (.tmp 2) (.tmp 21), _, _, _, _⟩) (by with_unfolding_all rfl) 24 (.tmp 2) (.tmp 21) (by with_unfolding_all rfl) ge 0 (by with_unfolding_all rfl) (.int .i64 0) (by with_unfolding_all rfl) hE3 [.int .i64 0] (by with_unfolding_all rfl) (by with_unfolding_all (exact Tryd.szE)) (by with_unfolding_all (exact Nat.le_refl 1)) (by with_unfolding_all (exact one_cell1 rfl)) ?_)
          intro w4 hu4 hE4
          rw [splice_all _ _ (by rfl)] at hE4
          have hB4 := hB3.upd hu4 hge
          have ho4 := ho3.trans (Only.of_upd hu4 (by simp))
          clear hu4 hB3 hE3 ho3
          go_wp2
          go_roundw
          case rel => exact ⟨k + 1, by omega, by go_num, ho4, .inl ⟨D ++ [y], HDL.out, by rw [HST.out]; rfl, hB4, hE4⟩⟩
          case measure => simp [intOf]; omega
        | none =>
          rw [hFk] at hstp HCA
          have hfell := opTo_fell hstp
          have HFE := Lib.hid hfell
          have hraw : ∃ raw, raw.length = n ∧ splice (P ++ (rowC (D ++ l.drop k) ++ R)) (o + k * 2) zC = P ++ (rowR raw ++ R) := ⟨(prs (D ++ l.drop k)).set k (0, 0), by
            rw [List.length_set, prs_length, List.length_append, List.length_drop, hD, HL.out]; omega, by
            rw [← hP, splice_off]
            exact congrArg (P ++ ·) (rowR_set (p := (0, 0)) (by rw [prs_length, List.length_append, List.length_drop, hD, HL.out]; omega))⟩
          obtain ⟨raw, hr1, hr2⟩ := hraw
          have HN2 := Lib.hid hr2
          have hCA : Calls Tryd.prog 90 #[.int .i64 (k : Int), .pointer (some ⟨p0, 0, none⟩), .pointer (some ⟨p1, 0, none⟩), .pointer (some ⟨p2, 0, none⟩)] wr fun e w2 => e = .returned (.tuple #[.agg zC.toArray, .int .i64 17]) ∧ Below wr.heap.size wr w2 := HCA.out
          have HCB := Lib.hid hCA
          clear hstp hFk HNX hCA HCA hop hD hfell hr2
          go_wp2_with fail
          (with_reducible refine HCB.out.mono ?_)
          rintro e w2 ⟨rfl, hb2⟩
          have hB2 := hB.next hb2 hB.lt
          have hE2 := hE.next hb2 hE.lt
          have ho2 := ho.trans (Only.of_below hb2)
          clear hB hE c0 hb2 HCB
          go_wp2_with (with_reducible refine wpList_put (o := ⟨none, .store 23 (.tmp 22) (.tmp 20), _, _, _, _⟩) (by with_unfolding_all rfl) 23 (.tmp 22) (.tmp 20) (by with_unfolding_all rfl) g (o + k * 2) (by with_unfolding_all rfl) (.agg zC.toArray) (by with_unfolding_all rfl) hB2 zC (by with_unfolding_all rfl) (by with_unfolding_all (exact Tryd.szQ)) (by with_unfolding_all (rw [HLEN.out]; show o + k * 2 + 2 ≤ _; omega)) (by with_unfolding_all (exact int_one 0 0)) ?_)
          intro w3 hu3 hB3
          rw [HN2.out] at hB3
          have hE3 := hE2.upd hu3 (fun e => hge e.symm)
          have ho3 := ho2.trans (Only.of_upd hu3 (by simp))
          clear hu3 hB2 hE2 ho2
          go_wp2_with (with_reducible refine wpList_put (o := ⟨none, .store 24 (.tmp 2) (.tmp 21), _, _, _, _⟩) (by with_unfolding_all rfl) 24 (.tmp 2) (.tmp 21) (by with_unfolding_all rfl) ge 0 (by with_unfolding_all rfl) (.int .i64 17) (by with_unfolding_all rfl) hE3 [.int .i64 17] (by with_unfolding_all rfl) (by with_unfolding_all (exact Tryd.szE)) (by with_unfolding_all (exact Nat.le_refl 1)) (by with_unfolding_all (exact one_cell1 rfl)) ?_)
          intro w4 hu4 hE4
          rw [splice_all _ _ (by rfl)] at hE4
          have hB4 := hB3.upd hu4 hge
          have ho4 := ho3.trans (Only.of_upd hu4 (by simp))
          clear hu4 hB3 hE3 ho3
          go_wp2
          go_roundw
          case rel => exact ⟨k + 1, by omega, by go_num, ho4, .inr ⟨HFE.out, ⟨raw, hr1, hB4⟩, hE4⟩⟩
          case measure => simp [intOf]; omega
      · obtain rfl : k = n := by omega
        have hfin : Hid (opTo F 0 l = some D ∧ Blk wr g 23 (P ++ (rowC D ++ R))) := by
          have : opTo F 0 l = some D ∧ Blk wr g 23 (P ++ (rowC D ++ R)) := by
            rw [List.drop_eq_nil_of_le (by rw [HL.out]; exact Nat.le_refl _), List.append_nil] at hB
            rw [List.take_of_length_le (by rw [HL.out]; exact Nat.le_refl _)] at hop
            exact ⟨hop, hB⟩
          exact this
        clear hop hB hD
        go_wp2
        go_ret
        exact ⟨ho, .inl ⟨D, hfin.out.1, rfl, hfin.out.2, hE⟩⟩
    · have c0 := hE.cell (k := 0) rfl
      have HOP := Lib.hid hop
      clear hop
      by_cases hlt : k < n
      · have hki : (k : Int) < (n : Int) := by omega
        go_wp2
        go_ret
        exact ⟨ho, .inr ⟨HOP.out, rfl, ⟨raw, hraw, hB⟩, hE⟩⟩
      · obtain rfl : k = n := by omega
        go_wp2
        go_ret
        exact ⟨ho, .inr ⟨HOP.out, rfl, ⟨raw, hraw, hB⟩, hE⟩⟩
set_option maxRecDepth 100000 in
set_option maxHeartbeats 3200000 in
/-- Behind an error nothing changes. -/
theorem still_sub (p0 p1 p2 g o ge n c : Nat) (w : World) (hn : n ≤ 100000) (he : Blk w ge 24 [.int .i64 17]) :
    Calls Tryd.prog 76 #[.slice (some ⟨g, o, none⟩) n c, .func (.func 90) #[] #[.pointer (some ⟨p0, 0, none⟩), .pointer (some ⟨p1, 0, none⟩), .pointer (some ⟨p2, 0, none⟩)], .pointer (some ⟨ge, 0, none⟩)] w fun e w' => e = .returned (.int .i64 17) ∧ Below w.heap.size w w' := by
  have c0 := he.cell (k := 0) rfl
  have hni : (n : Int) ≤ 100000 := by omega
  have hbe := Below.refl w.heap.size w
  go_enter Tryd.func76, Tryd.ntmps76
  by_cases h0 : n = 0
  · subst h0
    go_wp2
    go_loopw [9] (fun i wr => i = .int .i64 0 ∧ wr = w) (fun _ _ => 0)
    case atStart => exact ⟨rfl, rfl⟩
    case round =>
      obtain ⟨rfl, rfl⟩ := hrel
      go_wp2
      go_ret
      exact ⟨rfl, hbe⟩
  · have hni0 : (0 : Int) < (n : Int) := by omega
    have hnn0 : 0 < n := by omega
    go_wp2
    go_loopw [9] (fun i wr => i = .int .i64 0 ∧ wr = w) (fun _ _ => 0)
    case atStart => exact ⟨rfl, rfl⟩
    case round =>
      obtain ⟨rfl, rfl⟩ := hrel
      go_wp2
      go_ret
      exact ⟨rfl, hbe⟩
end Go.Proofs.YthjaelopmfjfeaaDoor
