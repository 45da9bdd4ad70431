/-
  Contracts of the functions that the statement calls, part 15 of 25 (merged texts: Fg). Conditions: as the head of each part says.
-/
import Derived.Test.YtbgndopgllnmaaaDoorGM
import Derived.Test.YtbgndopgllnmaaaDoorGN

/-
  Contracts of the walks over Find of both sides, and the port. Conditions: a list of fields that is not too long.
-/
namespace Go.Proofs.YtbgndopgllnmaaaDoor
set_option linter.unusedVariables false
set_option linter.unusedSimpArgs false
open Go.RowKit Go.Shelf

/-- A field as it comes in. -/
structure Fd where
  nm : ByteArray
  at_ : Int
  wd : Int
/-- A list of fields lies there. -/
def FsAt (w : World) (A : Option Addr) (l : List Fd) : Prop := ∀ k f, l[k]? = some f → ∃ g o, A = some ⟨g, o, none⟩ ∧ w.cell? ⟨g, o + k * 3, none⟩ = some (.string f.nm) ∧ w.cell? ⟨g, o + k * 3 + 1, none⟩ = some (.int .i64 f.at_) ∧ w.cell? ⟨g, o + k * 3 + 2, none⟩ = some (.int .i64 f.wd)
theorem cellf_below {w w' : World} {p : Addr} {v : Value} (hb : Below w.heap.size w w') (h : w.cell? p = some v) : w'.cell? p = some v := by
  rw [hb.cell (World.block_lt_of_cell? w _ h)]; exact h
theorem FsAt.next {w w' : World} {A : Option Addr} {l : List Fd} (h : FsAt w A l) (hb : Below w.heap.size w w') : FsAt w' A l := fun k p hp => by
  obtain ⟨g, o, e, h1, h2, h3⟩ := h k p hp
  exact ⟨g, o, e, cellf_below hb h1, cellf_below hb h2, cellf_below hb h3⟩
theorem FsAt.take {w : World} {A : Option Addr} {l : List Fd} (h : FsAt w A l) (n : Nat) : FsAt w A (l.take n) := fun k p hp => h k p (by
  rw [List.getElem?_take] at hp
  split at hp
  · exact hp
  · cases hp)
theorem fields_one (s : ByteArray) (a n : Int) : ∀ u ∈ [Value.string s, .int .i64 a, .int .i64 n], u.oneCell' = true := by
  intro u hu
  simp at hu
  rcases hu with rfl | rfl | rfl <;> rfl
theorem bytes_inj {s t : ByteArray} (h : s.toList = t.toList) : s = t := by
  rw [ByteArray.toList_eq, ByteArray.toList_eq] at h
  cases s; cases t
  congr 1
  exact Array.toList_inj.1 h
theorem beq_bytes {s t : ByteArray} (h : s ≠ t) : (s.toList == t.toList) = false := beq_eq_false_iff_ne.2 fun e => h (bytes_inj e)
def portB : ByteArray := { data := #[112, 111, 114, 116] }
def portF : Fd := ⟨portB, 0, 16⟩
theorem beq_port {s : ByteArray} (h : s ≠ portB) : (s.toList == [112, 111, 114, 116]) = false := beq_eq_false_iff_ne.2 fun e => h (bytes_inj (by rw [e, ByteArray.toList_eq]; rfl))
/-- The first field with a name. -/
def findL (nm : ByteArray) : List Fd → Option Fd
  | [] => none
  | f :: l => if f.nm = nm then some f else findL nm l
def findM (nm : ByteArray) (l : List Fd) : Option Fd := if nm = portB then some portF else findL nm l
def findE : Option Fd → Ending
  | some f => .returned (.tuple #[.agg #[.string f.nm, .int .i64 f.at_, .int .i64 f.wd], .bool true])
  | none => .returned (.tuple #[.agg #[.string ByteArray.empty, .int .i64 0, .int .i64 0], .bool false])
theorem findL_get {nm : ByteArray} {l : List Fd} {k : Nat} {f : Fd} (h : l[k]? = some f) : findL nm (l.drop k) = if f.nm = nm then some f else findL nm (l.drop (k + 1)) := by
  have hl := (List.getElem?_eq_some_iff.1 h).1
  rw [List.drop_eq_getElem_cons hl, (List.getElem?_eq_some_iff.1 h).2]
  rfl
theorem run_buildF (w : World) : (Instr.build 33 #[(0, .string { data := #[112, 111, 114, 116] }), (1, .int .i64 0), (2, .int .i64 16)]).run Tryd.prog w = .ok (.agg #[.string { data := #[112, 111, 114, 116] }, .int .i64 0, .int .i64 16]) w := by kernel_rfl
theorem run_buildF0 (w : World) : (Instr.build 33 #[]).run Tryd.prog w = .ok (.agg #[.string ByteArray.empty, .int .i64 0, .int .i64 0]) w := by kernel_rfl
def FindRel (l : List Fd) (nm : ByteArray) (g4 : Nat) (w : World) (i : Value) (wr : World) : Prop :=
  ∃ k : Nat, k ≤ l.length ∧ i = .int .i64 (k : Int) ∧ findL nm (l.drop k) = findL nm l ∧ Blk wr g4 33 [Value.string ByteArray.empty, .int .i64 0, .int .i64 0] ∧ Below w.heap.size w wr
set_option maxRecDepth 100000 in
set_option maxHeartbeats 3200000 in
theorem port_any  (w : World)  :
    Calls Tryd.prog 50 #[] w fun e w' => e = .returned (.agg #[.string { data := #[112, 111, 114, 116] }, .int .i64 0, .int .i64 16]) ∧ Below w.heap.size w w' := by
  go_enter Tryd.func50, Tryd.ntmps50
  go_wp2_with (with_reducible refine wpList_alloc (o := ⟨some 0, .alloc 33, _, _, _, _⟩) (by with_unfolding_all rfl) 33 (by with_unfolding_all rfl) (.agg #[.string ByteArray.empty, .int .i64 0, .int .i64 0]) [Value.string ByteArray.empty, .int .i64 0, .int .i64 0] (by exact Tryd.zeroF) (by with_unfolding_all rfl) ?_)
  intro g0 w1 hg0 hs1 hb1 B0
  have hl0 : w.heap.size ≤ g0 := Nat.le_of_eq hg0.out.symm
  have hb1 := hb1.mono (Nat.le_of_eq hg0.out.symm)
  have hbe : Below w.heap.size w w1 := hb1
  clear hb1 hg0 hs1
  go_wp2_with (first | (with_reducible refine wpList_build (o := ⟨some 1, .build 33 #[(0, .const (.string { data := #[112, 111, 114, 116] })), (1, .const (.int .i64 0)), (2, .const (.int .i64 16))], _, _, _, _⟩) (by with_unfolding_all rfl) 33 #[(0, .const (.string { data := #[112, 111, 114, 116] })), (1, .const (.int .i64 0)), (2, .const (.int .i64 16))] (by with_unfolding_all rfl) #[(0, .string { data := #[112, 111, 114, 116] }), (1, .int .i64 0), (2, .int .i64 16)] (by with_unfolding_all rfl) (.agg #[.string { data := #[112, 111, 114, 116] }, .int .i64 0, .int .i64 16]) (by with_unfolding_all exact fun w => run_buildF w) ?_) | (with_reducible refine wpList_put (o := ⟨none, .store 33 (.tmp 0) (.tmp 1), _, _, _, _⟩) (by with_unfolding_all rfl) 33 (.tmp 0) (.tmp 1) (by with_unfolding_all rfl) g0 0 (by with_unfolding_all rfl) (.agg #[.string { data := #[112, 111, 114, 116] }, .int .i64 0, .int .i64 16]) (by with_unfolding_all rfl) B0 [Value.string { data := #[112, 111, 114, 116] }, .int .i64 0, .int .i64 16] (by with_unfolding_all rfl) (by with_unfolding_all (first | exact Tryd.szF | (simp only [H_length, Pat.cells_length, List.length_append]; exact Tryd.szF))) (by with_unfolding_all (first | exact Nat.le_refl 3 | (simp only [H_length, Pat.cells_length, List.length_append]; omega))) (by with_unfolding_all (exact fields_one _ _ _)) ?_))
  intro w2 hu2 C0
  rw [splice_all _ _ (by rfl)] at C0
  have hbe := hbe.trans (hu2.below (B := w.heap.size) hl0)
  clear B0 hu2
  have B0 := C0
  clear C0
  go_wp2
  exact bodyPost_ret (results_cell_row rfl _ _ g0 _ _ _ _ rfl B0 Tryd.underlying33 rfl Tryd.szF) rfl ⟨rfl, hbe⟩
set_option maxRecDepth 100000 in
set_option maxHeartbeats 3200000 in
theorem rport_any  (w : World)  :
    Calls Tryd.prog 51 #[] w fun e w' => e = .returned (.agg #[.string { data := #[112, 111, 114, 116] }, .int .i64 0, .int .i64 16]) ∧ Below w.heap.size w w' := by
  go_enter Tryd.func51, Tryd.ntmps51
  go_wp2_with (with_reducible refine wpList_alloc (o := ⟨some 0, .alloc 33, _, _, _, _⟩) (by with_unfolding_all rfl) 33 (by with_unfolding_all rfl) (.agg #[.string ByteArray.empty, .int .i64 0, .int .i64 0]) [Value.string ByteArray.empty, .int .i64 0, .int .i64 0] (by exact Tryd.zeroF) (by with_unfolding_all rfl) ?_)
  intro g0 w1 hg0 hs1 hb1 B0
  have hl0 : w.heap.size ≤ g0 := Nat.le_of_eq hg0.out.symm
  have hb1 := hb1.mono (Nat.le_of_eq hg0.out.symm)
  have hbe : Below w.heap.size w w1 := hb1
  clear hb1 hg0 hs1
  go_wp2_with (first | (with_reducible refine wpList_build (o := ⟨some 1, .build 33 #[(0, .const (.string { data := #[112, 111, 114, 116] })), (1, .const (.int .i64 0)), (2, .const (.int .i64 16))], _, _, _, _⟩) (by with_unfolding_all rfl) 33 #[(0, .const (.string { data := #[112, 111, 114, 116] })), (1, .const (.int .i64 0)), (2, .const (.int .i64 16))] (by with_unfolding_all rfl) #[(0, .string { data := #[112, 111, 114, 116] }), (1, .int .i64 0), (2, .int .i64 16)] (by with_unfolding_all rfl) (.agg #[.string { data := #[112, 111, 114, 116] }, .int .i64 0, .int .i64 16]) (by with_unfolding_all exact fun w => run_buildF w) ?_) | (with_reducible refine wpList_put (o := ⟨none, .store 33 (.tmp 0) (.tmp 1), _, _, _, _⟩) (by with_unfolding_all rfl) 33 (.tmp 0) (.tmp 1) (by with_unfolding_all rfl) g0 0 (by with_unfolding_all rfl) (.agg #[.string { data := #[112, 111, 114, 116] }, .int .i64 0, .int .i64 16]) (by with_unfolding_all rfl) B0 [Value.string { data := #[112, 111, 114, 116] }, .int .i64 0, .int .i64 16] (by with_unfolding_all rfl) (by with_unfolding_all (first | exact Tryd.szF | (simp only [H_length, Pat.cells_length, List.length_append]; exact Tryd.szF))) (by with_unfolding_all (first | exact Nat.le_refl 3 | (simp only [H_length, Pat.cells_length, List.length_append]; omega))) (by with_unfolding_all (exact fields_one _ _ _)) ?_))
  intro w2 hu2 C0
  rw [splice_all _ _ (by rfl)] at C0
  have hbe := hbe.trans (hu2.below (B := w.heap.size) hl0)
  clear B0 hu2
  have B0 := C0
  clear C0
  go_wp2
  exact bodyPost_ret (results_cell_row rfl _ _ g0 _ _ _ _ rfl B0 Tryd.underlying33 rfl Tryd.szF) rfl ⟨rfl, hbe⟩
set_option maxRecDepth 100000 in
set_option maxHeartbeats 3200000 in
theorem find_any (A : Option Addr) (c : Nat) (l : List Fd) (nm : ByteArray) (w : World) (hl : l.length ≤ 140737488355328) (hS : FsAt w A l) :
    Calls Tryd.prog 14 #[.slice A l.length c, .string nm] w fun e w' => e = findE (findM nm l) ∧ Below w.heap.size w w' := by
  by_cases hport : nm = portB
  · have hm : findM nm l = some portF := if_pos hport
    rw [hm]
    have hpe : findE (some portF) = .returned (.tuple #[.agg #[.string { data := #[112, 111, 114, 116] }, .int .i64 0, .int .i64 16], .bool true]) := rfl
    rw [hpe, hport]
    unfold portB
    go_enter Tryd.func14, Tryd.ntmps14
    go_wp2_with (with_reducible refine wpList_alloc (o := ⟨some 4, .alloc 33, _, _, _, _⟩) (by with_unfolding_all rfl) 33 (by with_unfolding_all rfl) (.agg #[.string ByteArray.empty, .int .i64 0, .int .i64 0]) [Value.string ByteArray.empty, .int .i64 0, .int .i64 0] (by exact Tryd.zeroF) (by with_unfolding_all rfl) ?_)
    intro g4 w1 hg4 hs1 hb1 B4
    have hl4 : w.heap.size ≤ g4 := Nat.le_of_eq hg4.out.symm
    have hb1 := hb1.mono (Nat.le_of_eq hg4.out.symm)
    have hbe : Below w.heap.size w w1 := hb1
    clear hb1 hg4 hs1
    go_wp2_with fail
    (with_reducible refine (port_any _).mono ?_)
    rintro e w2 ⟨rfl, hb2⟩
    have B4 := B4.next hb2 B4.lt
    have hbe := below_join hbe hb2
    clear hb2
    go_wp2_with (with_reducible refine wpList_put (o := ⟨none, .store 33 (.tmp 4) (.tmp 10), _, _, _, _⟩) (by with_unfolding_all rfl) 33 (.tmp 4) (.tmp 10) (by with_unfolding_all rfl) g4 0 (by with_unfolding_all rfl) (.agg #[.string { data := #[112, 111, 114, 116] }, .int .i64 0, .int .i64 16]) (by with_unfolding_all rfl) B4 [Value.string { data := #[112, 111, 114, 116] }, .int .i64 0, .int .i64 16] (by with_unfolding_all rfl) (by with_unfolding_all (first | exact Tryd.szF | (simp only [H_length, Pat.cells_length, List.length_append]; exact Tryd.szF))) (by with_unfolding_all (first | exact Nat.le_refl 3 | (simp only [H_length, Pat.cells_length, List.length_append]; omega))) (by with_unfolding_all (exact fields_one _ _ _)) ?_)
    intro w3 hu3 C4
    rw [splice_all _ _ (by rfl)] at C4
    have hbe := hbe.trans (hu3.below (B := w.heap.size) hl4)
    clear B4 hu3
    have B4 := C4
    clear C4
    go_wp2
    exact bodyPost_ret (results_cell_two rfl _ _ g4 _ _ _ _ _ rfl rfl B4 Tryd.underlying33 rfl Tryd.szF) rfl ⟨rfl, hbe⟩
  · skip
    have hm : findM nm l = findL nm l := if_neg hport
    rw [hm]
    have hbp := beq_port hport
    obtain ⟨n, hn⟩ : ∃ n, Hid (l.length = n) := ⟨_, rfl⟩
    rw [hn.out] at hl ⊢
    have hni : (n : Int) ≤ 140737488355328 := by omega
    have HS := Lib.hid hS
    obtain ⟨R, hR⟩ : ∃ R, Hid (findL nm l = R) := ⟨_, rfl⟩
    rw [hR.out]
    clear hm hS hport
    go_enter Tryd.func14, Tryd.ntmps14
    go_wp2_with (with_reducible refine wpList_alloc (o := ⟨some 4, .alloc 33, _, _, _, _⟩) (by with_unfolding_all rfl) 33 (by with_unfolding_all rfl) (.agg #[.string ByteArray.empty, .int .i64 0, .int .i64 0]) [Value.string ByteArray.empty, .int .i64 0, .int .i64 0] (by exact Tryd.zeroF) (by with_unfolding_all rfl) ?_)
    intro g4 w1 hg4 hs1 hb1 B4
    have hl4 : w.heap.size ≤ g4 := Nat.le_of_eq hg4.out.symm
    have hb1 := hb1.mono (Nat.le_of_eq hg4.out.symm)
    have hbe : Below w.heap.size w w1 := hb1
    clear hb1 hg4 hs1
    have H0 : Hid (FindRel l nm g4 w (.int .i64 0) w1) := (⟨0, Nat.zero_le _, rfl, rfl, B4, hbe⟩ : FindRel l nm g4 w (.int .i64 0) w1)
    clear B4 hbe
    go_wp2
    go_loopw [13] (FindRel l nm g4 w) (fun i _ => n - (intOf i).toNat)
    case atStart => exact H0.out
    case round =>
      clear H0
      obtain ⟨k, hk, rfl, hv, B4, hbe⟩ := hrel
      rw [hn.out] at hk
      have HV := Lib.hid hv
      clear hv
      by_cases hlt : k < n
      · have hki : (k : Int) < (n : Int) := by omega
        have hk0 : (0 : Int) ≤ (k : Int) := by omega
        obtain ⟨f, hf⟩ : ∃ f, l[k]? = some f := ⟨_, List.getElem?_eq_getElem (by rw [hn.out]; exact hlt)⟩
        obtain ⟨ga, oa, hA, c0, c1, c2⟩ := (HS.out.next hbe) k f hf
        subst hA
        have hst := findL_get (nm := nm) hf
        rw [HV.out, hR.out] at hst
        have HST := Lib.hid hst
        clear hst hf
        by_cases hq : f.nm = nm
        · skip
          have hr : Hid (R = some f) := by
            have : R = some f := by rw [HST.out, if_pos hq]
            exact this
          have hbq : (f.nm.toList == nm.toList) = true := by rw [hq]; exact beq_self_eq_true _
          clear hq
          go_wp2_with (with_reducible refine wpList_alloc (o := ⟨some 7, .alloc 33, _, _, _, _⟩) (by with_unfolding_all rfl) 33 (by with_unfolding_all rfl) (.agg #[.string ByteArray.empty, .int .i64 0, .int .i64 0]) [Value.string ByteArray.empty, .int .i64 0, .int .i64 0] (by exact Tryd.zeroF) (by with_unfolding_all rfl) ?_)
          intro g7 w11 hg7 hs11 hb11 B7
          have hl7 : w.heap.size ≤ g7 := Nat.le_trans hbe.size (Nat.le_of_eq hg7.out.symm)
          have ne4_7 : g4 ≠ g7 := by have := B4.lt; have := hg7.out; omega
          have ne7_4 := ne4_7.symm
          have hb11 := hb11.mono (Nat.le_of_eq hg7.out.symm)
          have B4 := B4.next hb11 B4.lt
          have hbe := below_join hbe hb11
          clear hb11 hg7 hs11
          clear c0 c1 c2
          go_wp2_with (with_reducible refine wpList_put (o := ⟨none, .store 33 (.tmp 7) (.tmp 16), _, _, _, _⟩) (by with_unfolding_all rfl) 33 (.tmp 7) (.tmp 16) (by with_unfolding_all rfl) g7 0 (by with_unfolding_all rfl) (.agg #[.string f.nm, .int .i64 f.at_, .int .i64 f.wd]) (by with_unfolding_all rfl) B7 [Value.string f.nm, .int .i64 f.at_, .int .i64 f.wd] (by with_unfolding_all rfl) (by with_unfolding_all (first | exact Tryd.szF | (simp only [H_length, Pat.cells_length, List.length_append]; exact Tryd.szF))) (by with_unfolding_all (first | exact Nat.le_refl 3 | (simp only [H_length, Pat.cells_length, List.length_append]; omega))) (by with_unfolding_all (exact fields_one _ _ _)) ?_)
          intro w12 hu12 C7
          rw [splice_all _ _ (by rfl)] at C7
          have B4 := B4.upd hu12 ne4_7
          have hbe := hbe.trans (hu12.below (B := w.heap.size) hl7)
          clear B7 hu12
          have B7 := C7
          clear C7
          have z7_0 := B7.cell (k := 0) rfl
          have z7_1 := B7.cell (k := 1) rfl
          have z7_2 := B7.cell (k := 2) rfl
          go_wp2_with (with_reducible refine wpList_put (o := ⟨none, .store 33 (.tmp 4) (.tmp 21), _, _, _, _⟩) (by with_unfolding_all rfl) 33 (.tmp 4) (.tmp 21) (by with_unfolding_all rfl) g4 0 (by with_unfolding_all rfl) (.agg #[.string f.nm, .int .i64 f.at_, .int .i64 f.wd]) (by with_unfolding_all rfl) B4 [Value.string f.nm, .int .i64 f.at_, .int .i64 f.wd] (by with_unfolding_all rfl) (by with_unfolding_all (first | exact Tryd.szF | (simp only [H_length, Pat.cells_length, List.length_append]; exact Tryd.szF))) (by with_unfolding_all (first | exact Nat.le_refl 3 | (simp only [H_length, Pat.cells_length, List.length_append]; omega))) (by with_unfolding_all (exact fields_one _ _ _)) ?_)
          intro w13 hu13 C4
          rw [splice_all _ _ (by rfl)] at C4
          have B7 := B7.upd hu13 ne7_4
          have hbe := hbe.trans (hu13.below (B := w.heap.size) hl4)
          clear B4 hu13
          have B4 := C4
          clear C4
          clear z7_0 z7_1 z7_2
          go_wp2
          exact bodyPost_ret (results_cell_two rfl _ _ g4 _ _ _ _ _ rfl rfl B4 Tryd.underlying33 rfl Tryd.szF) rfl ⟨by rw [hr.out]; rfl, hbe⟩
        · skip
          have hr : Hid (R = findL nm (l.drop (k + 1))) := by
            have : R = findL nm (l.drop (k + 1)) := by rw [HST.out, if_neg hq]
            exact this
          have hbq := beq_bytes hq
          go_wp2_with (with_reducible refine wpList_alloc (o := ⟨some 7, .alloc 33, _, _, _, _⟩) (by with_unfolding_all rfl) 33 (by with_unfolding_all rfl) (.agg #[.string ByteArray.empty, .int .i64 0, .int .i64 0]) [Value.string ByteArray.empty, .int .i64 0, .int .i64 0] (by exact Tryd.zeroF) (by with_unfolding_all rfl) ?_)
          intro g7 w11 hg7 hs11 hb11 B7
          have hl7 : w.heap.size ≤ g7 := Nat.le_trans hbe.size (Nat.le_of_eq hg7.out.symm)
          have ne4_7 : g4 ≠ g7 := by have := B4.lt; have := hg7.out; omega
          have ne7_4 := ne4_7.symm
          have hb11 := hb11.mono (Nat.le_of_eq hg7.out.symm)
          have B4 := B4.next hb11 B4.lt
          have hbe := below_join hbe hb11
          clear hb11 hg7 hs11
          clear c0 c1 c2
          go_wp2_with (with_reducible refine wpList_put (o := ⟨none, .store 33 (.tmp 7) (.tmp 16), _, _, _, _⟩) (by with_unfolding_all rfl) 33 (.tmp 7) (.tmp 16) (by with_unfolding_all rfl) g7 0 (by with_unfolding_all rfl) (.agg #[.string f.nm, .int .i64 f.at_, .int .i64 f.wd]) (by with_unfolding_all rfl) B7 [Value.string f.nm, .int .i64 f.at_, .int .i64 f.wd] (by with_unfolding_all rfl) (by with_unfolding_all (first | exact Tryd.szF | (simp only [H_length, Pat.cells_length, List.length_append]; exact Tryd.szF))) (by with_unfolding_all (first | exact Nat.le_refl 3 | (simp only [H_length, Pat.cells_length, List.length_append]; omega))) (by with_unfolding_all (exact fields_one _ _ _)) ?_)
          intro w12 hu12 C7
          rw [splice_all _ _ (by rfl)] at C7
          have B4 := B4.upd hu12 ne4_7
          have hbe := hbe.trans (hu12.below (B := w.heap.size) hl7)
          clear B7 hu12
          have B7 := C7
          clear C7
          have z7_0 := B7.cell (k := 0) rfl
          have z7_1 := B7.cell (k := 1) rfl
          have z7_2 := B7.cell (k := 2) rfl
          go_wp2
          go_roundw
          case rel => exact ⟨k + 1, by rw [hn.out]; omega, by go_num, by rw [hR.out]; exact hr.out.symm, B4, hbe⟩
          case measure => simp [intOf]; omega
      · skip
        have hkn : k = n := by omega
        subst hkn
        have hr : Hid (R = none) := by
          have : R = none := by rw [← hR.out, ← HV.out, List.drop_eq_nil_of_le (by rw [hn.out]; exact Nat.le_refl _)]; rfl
          exact this
        go_wp2_with (first | (with_reducible refine wpList_build (o := ⟨some 23, .build 33 #[], _, _, _, _⟩) (by with_unfolding_all rfl) 33 #[] (by with_unfolding_all rfl) #[] (by with_unfolding_all rfl) (.agg #[.string ByteArray.empty, .int .i64 0, .int .i64 0]) (by with_unfolding_all exact fun w => run_buildF0 w) ?_) | (with_reducible refine wpList_put (o := ⟨none, .store 33 (.tmp 4) (.tmp 23), _, _, _, _⟩) (by with_unfolding_all rfl) 33 (.tmp 4) (.tmp 23) (by with_unfolding_all rfl) g4 0 (by with_unfolding_all rfl) (.agg #[.string ByteArray.empty, .int .i64 0, .int .i64 0]) (by with_unfolding_all rfl) B4 [Value.string ByteArray.empty, .int .i64 0, .int .i64 0] (by with_unfolding_all rfl) (by with_unfolding_all (first | exact Tryd.szF | (simp only [H_length, Pat.cells_length, List.length_append]; exact Tryd.szF))) (by with_unfolding_all (first | exact Nat.le_refl 3 | (simp only [H_length, Pat.cells_length, List.length_append]; omega))) (by with_unfolding_all (exact fields_one _ _ _)) ?_))
        intro w11 hu11 C4
        rw [splice_all _ _ (by rfl)] at C4
        have hbe := hbe.trans (hu11.below (B := w.heap.size) hl4)
        clear B4 hu11
        have B4 := C4
        clear C4
        go_wp2
        exact bodyPost_ret (results_cell_two rfl _ _ g4 _ _ _ _ _ rfl rfl B4 Tryd.underlying33 rfl Tryd.szF) rfl ⟨by rw [hr.out]; rfl, hbe⟩
set_option maxRecDepth 100000 in
set_option maxHeartbeats 3200000 in
theorem rfind_any (A : Option Addr) (c : Nat) (l : List Fd) (nm : ByteArray) (w : World) (hl : l.length ≤ 140737488355328) (hS : FsAt w A l) :
    Calls Tryd.prog 15 #[.slice A l.length c, .string nm] w fun e w' => e = findE (findM nm l) ∧ Below w.heap.size w w' := by
  by_cases hport : nm = portB
  · have hm : findM nm l = some portF := if_pos hport
    rw [hm]
    have hpe : findE (some portF) = .returned (.tuple #[.agg #[.string { data := #[112, 111, 114, 116] }, .int .i64 0, .int .i64 16], .bool true]) := rfl
    rw [hpe, hport]
    unfold portB
    go_enter Tryd.func15, Tryd.ntmps15
    go_wp2_with (with_reducible refine wpList_alloc (o := ⟨some 4, .alloc 33, _, _, _, _⟩) (by with_unfolding_all rfl) 33 (by with_unfolding_all rfl) (.agg #[.string ByteArray.empty, .int .i64 0, .int .i64 0]) [Value.string ByteArray.empty, .int .i64 0, .int .i64 0] (by exact Tryd.zeroF) (by with_unfolding_all rfl) ?_)
    intro g4 w1 hg4 hs1 hb1 B4
    have hl4 : w.heap.size ≤ g4 := Nat.le_of_eq hg4.out.symm
    have hb1 := hb1.mono (Nat.le_of_eq hg4.out.symm)
    have hbe : Below w.heap.size w w1 := hb1
    clear hb1 hg4 hs1
    go_wp2_with fail
    (with_reducible refine (rport_any _).mono ?_)
    rintro e w2 ⟨rfl, hb2⟩
    have B4 := B4.next hb2 B4.lt
    have hbe := below_join hbe hb2
    clear hb2
    go_wp2_with (with_reducible refine wpList_put (o := ⟨none, .store 33 (.tmp 4) (.tmp 9), _, _, _, _⟩) (by with_unfolding_all rfl) 33 (.tmp 4) (.tmp 9) (by with_unfolding_all rfl) g4 0 (by with_unfolding_all rfl) (.agg #[.string { data := #[112, 111, 114, 116] }, .int .i64 0, .int .i64 16]) (by with_unfolding_all rfl) B4 [Value.string { data := #[112, 111, 114, 116] }, .int .i64 0, .int .i64 16] (by with_unfolding_all rfl) (by with_unfolding_all (first | exact Tryd.szF | (simp only [H_length, Pat.cells_length, List.length_append]; exact Tryd.szF))) (by with_unfolding_all (first | exact Nat.le_refl 3 | (simp only [H_length, Pat.cells_length, List.length_append]; omega))) (by with_unfolding_all (exact fields_one _ _ _)) ?_)
    intro w3 hu3 C4
    rw [splice_all _ _ (by rfl)] at C4
    have hbe := hbe.trans (hu3.below (B := w.heap.size) hl4)
    clear B4 hu3
    have B4 := C4
    clear C4
    go_wp2
    exact bodyPost_ret (results_cell_two rfl _ _ g4 _ _ _ _ _ rfl rfl B4 Tryd.underlying33 rfl Tryd.szF) rfl ⟨rfl, hbe⟩
  · skip
    have hm : findM nm l = findL nm l := if_neg hport
    rw [hm]
    have hbp := beq_port hport
    obtain ⟨n, hn⟩ : ∃ n, Hid (l.length = n) := ⟨_, rfl⟩
    rw [hn.out] at hl ⊢
    have hni : (n : Int) ≤ 140737488355328 := by omega
    have HS := Lib.hid hS
    obtain ⟨R, hR⟩ : ∃ R, Hid (findL nm l = R) := ⟨_, rfl⟩
    rw [hR.out]
    clear hm hS hport
    go_enter Tryd.func15, Tryd.ntmps15
    go_wp2_with (with_reducible refine wpList_alloc (o := ⟨some 4, .alloc 33, _, _, _, _⟩) (by with_unfolding_all rfl) 33 (by with_unfolding_all rfl) (.agg #[.string ByteArray.empty, .int .i64 0, .int .i64 0]) [Value.string ByteArray.empty, .int .i64 0, .int .i64 0] (by exact Tryd.zeroF) (by with_unfolding_all rfl) ?_)
    intro g4 w1 hg4 hs1 hb1 B4
    have hl4 : w.heap.size ≤ g4 := Nat.le_of_eq hg4.out.symm
    have hb1 := hb1.mono (Nat.le_of_eq hg4.out.symm)
    have hbe : Below w.heap.size w w1 := hb1
    clear hb1 hg4 hs1
    have H0 : Hid (FindRel l nm g4 w (.int .i64 0) w1) := (⟨0, Nat.zero_le _, rfl, rfl, B4, hbe⟩ : FindRel l nm g4 w (.int .i64 0) w1)
    clear B4 hbe
    go_wp2
    go_loopw [6] (FindRel l nm g4 w) (fun i _ => n - (intOf i).toNat)
    case atStart => exact H0.out
    case round =>
      clear H0
      obtain ⟨k, hk, rfl, hv, B4, hbe⟩ := hrel
      rw [hn.out] at hk
      have HV := Lib.hid hv
      clear hv
      by_cases hlt : k < n
      · have hki : (k : Int) < (n : Int) := by omega
        have hk0 : (0 : Int) ≤ (k : Int) := by omega
        obtain ⟨f, hf⟩ : ∃ f, l[k]? = some f := ⟨_, List.getElem?_eq_getElem (by rw [hn.out]; exact hlt)⟩
        obtain ⟨ga, oa, hA, c0, c1, c2⟩ := (HS.out.next hbe) k f hf
        subst hA
        have hst := findL_get (nm := nm) hf
        rw [HV.out, hR.out] at hst
        have HST := Lib.hid hst
        clear hst hf
        by_cases hq : f.nm = nm
        · skip
          have hr : Hid (R = some f) := by
            have : R = some f := by rw [HST.out, if_pos hq]
            exact this
          have hbq : (f.nm.toList == nm.toList) = true := by rw [hq]; exact beq_self_eq_true _
          clear hq
          go_wp2_with (with_reducible refine wpList_put (o := ⟨none, .store 33 (.tmp 4) (.tmp 26), _, _, _, _⟩) (by with_unfolding_all rfl) 33 (.tmp 4) (.tmp 26) (by with_unfolding_all rfl) g4 0 (by with_unfolding_all rfl) (.agg #[.string f.nm, .int .i64 f.at_, .int .i64 f.wd]) (by with_unfolding_all rfl) B4 [Value.string f.nm, .int .i64 f.at_, .int .i64 f.wd] (by with_unfolding_all rfl) (by with_unfolding_all (first | exact Tryd.szF | (simp only [H_length, Pat.cells_length, List.length_append]; exact Tryd.szF))) (by with_unfolding_all (first | exact Nat.le_refl 3 | (simp only [H_length, Pat.cells_length, List.length_append]; omega))) (by with_unfolding_all (exact fields_one _ _ _)) ?_)
          intro w11 hu11 C4
          rw [splice_all _ _ (by rfl)] at C4
          have hbe := hbe.trans (hu11.below (B := w.heap.size) hl4)
          clear B4 hu11
          have B4 := C4
          clear C4
          go_wp2
          exact bodyPost_ret (results_cell_two rfl _ _ g4 _ _ _ _ _ rfl rfl B4 Tryd.underlying33 rfl Tryd.szF) rfl ⟨by rw [hr.out]; rfl, hbe⟩
        · skip
          have hr : Hid (R = findL nm (l.drop (k + 1))) := by
            have : R = findL nm (l.drop (k + 1)) := by rw [HST.out, if_neg hq]
            exact this
          have hbq := beq_bytes hq
          go_wp2
          go_roundw
          case rel => exact ⟨k + 1, by rw [hn.out]; omega, by go_num, by rw [hR.out]; exact hr.out.symm, B4, hbe⟩
          case measure => simp [intOf]; omega
      · skip
        have hkn : k = n := by omega
        subst hkn
        have hr : Hid (R = none) := by
          have : R = none := by rw [← hR.out, ← HV.out, List.drop_eq_nil_of_le (by rw [hn.out]; exact Nat.le_refl _)]; rfl
          exact this
        go_wp2_with (first | (with_reducible refine wpList_build (o := ⟨some 27, .build 33 #[], _, _, _, _⟩) (by with_unfolding_all rfl) 33 #[] (by with_unfolding_all rfl) #[] (by with_unfolding_all rfl) (.agg #[.string ByteArray.empty, .int .i64 0, .int .i64 0]) (by with_unfolding_all exact fun w => run_buildF0 w) ?_) | (with_reducible refine wpList_put (o := ⟨none, .store 33 (.tmp 4) (.tmp 27), _, _, _, _⟩) (by with_unfolding_all rfl) 33 (.tmp 4) (.tmp 27) (by with_unfolding_all rfl) g4 0 (by with_unfolding_all rfl) (.agg #[.string ByteArray.empty, .int .i64 0, .int .i64 0]) (by with_unfolding_all rfl) B4 [Value.string ByteArray.empty, .int .i64 0, .int .i64 0] (by with_unfolding_all rfl) (by with_unfolding_all (first | exact Tryd.szF | (simp only [H_length, Pat.cells_length, List.length_append]; exact Tryd.szF))) (by with_unfolding_all (first | exact Nat.le_refl 3 | (simp only [H_length, Pat.cells_length, List.length_append]; omega))) (by with_unfolding_all (exact fields_one _ _ _)) ?_))
        intro w11 hu11 C4
        rw [splice_all _ _ (by rfl)] at C4
        have hbe := hbe.trans (hu11.below (B := w.heap.size) hl4)
        clear B4 hu11
        have B4 := C4
        clear C4
        go_wp2
        exact bodyPost_ret (results_cell_two rfl _ _ g4 _ _ _ _ _ rfl rfl B4 Tryd.underlying33 rfl Tryd.szF) rfl ⟨by rw [hr.out]; rfl, hbe⟩
end Go.Proofs.YtbgndopgllnmaaaDoor
