/-
  What both sides say of a system that came in. Conditions: the system and the lists lie there.
-/
import Derived.Test.YthjaelopmfjfeaaDoorZk
namespace Go.Proofs.YthjaelopmfjfeaaDoor
set_option linter.unusedVariables false
set_option linter.unusedSimpArgs false
open Go.RowKit Go.Shelf
set_option linter.unusedVariables false

set_option maxRecDepth 100000 in
set_option maxHeartbeats 3200000 in
/-- A system of no rows. -/
theorem rsolve_none {w : World} {A B : Option Addr} {c cb : Nat} :
    Calls Tryd.prog 42 #[.slice A 0 c, .slice B 0 cb] w fun e w' => Below w.heap.size w w' ∧ SolvedR (.numbers []) 0 0 w e w' := by
  have hFO := rformed_any A B c 0 cb [] w (by decide) (by decide) (fun k x hx => by cases hx) (fun h hh => by cases hh)
  have HFO : Hid (Calls Tryd.prog 48 #[.slice A 0 c, .slice B 0 cb] w fun e w' => e = .returned (.bool true) ∧ Below w.heap.size w w') := (hFO : Calls Tryd.prog 48 #[.slice A 0 c, .slice B 0 cb] w fun e w' => e = .returned (.bool true) ∧ Below w.heap.size w w')
  have HCO : Hid (∀ w1, Calls Tryd.prog 65 #[.slice A 0 c] w1 fun e w' => e = .returned (.int .i64 0) ∧ w1 = w') := (fun w1 => rcolumns_any A c [] w1 (fun k x hx => by cases hx) : ∀ w1, Calls Tryd.prog 65 #[.slice A 0 c] w1 fun e w' => e = .returned (.int .i64 0) ∧ w1 = w')
  clear hFO
  go_enter Tryd.func42, Tryd.ntmps42
  go_wp2_with fail
  (with_reducible refine HFO.out.mono ?_)
  rintro e w1 ⟨rfl, hb1⟩
  clear HFO
  go_wp2_with fail
  (with_reducible refine (HCO.out _).mono ?_)
  rintro e w1c ⟨rfl, rfl⟩
  clear HCO
  go_wp2_with (first | (with_reducible refine wpList_build (o := ⟨some 37, .build 75 #[], _, _, _, _⟩) (by with_unfolding_all rfl) 75 #[] (by with_unfolding_all rfl) #[] (by with_unfolding_all rfl) (.agg [Value.slice none 0 0, Value.int .i64 0].toArray) (by with_unfolding_all exact fun w => run_buildW w) ?_) | (with_reducible refine wpList_box (o := ⟨some 38, .box 75 (.tmp 37), _, _, _, _⟩) ?g38 75 (.tmp 37) ?o38 (.agg [Value.slice none 0 0, Value.int .i64 0].toArray) [Value.slice none 0 0, Value.int .i64 0] ?x38 ?c38 ?_))
  try (case g38 => rfl)
  try (case o38 => rfl)
  try (case x38 => rfl)
  try (case c38 => rfl)
  intro gw w2 hgw hs2 hb2 BW
  have hb2 := hb2.mono (Nat.le_of_eq hgw.out.symm)
  have hbe := below_join hb1 hb2
  clear hgw hs2 hb2 hb1
  go_wp2
  go_loopw [11] (fun i wr => i = .int .i64 0 ∧ wr = w2) (fun _ _ => 0)
  case atStart => exact ⟨rfl, rfl⟩
  case round =>
    obtain ⟨rfl, rfl⟩ := hrel
    go_wp2_with (with_reducible refine wpList_makeI (o := ⟨some 82, .makeSlice 68 (.tmp 81) (.tmp 81), _, _, _, _⟩) (by with_unfolding_all rfl) (.tmp 81) (.tmp 81) (by with_unfolding_all rfl) 0 (by decide) (by with_unfolding_all rfl) (by with_unfolding_all rfl) ?_)
    intro gi w3 Lr hgi hb3 hLr hBi
    have BW3 := BW.next hb3 BW.lt
    have hbe3 := below_join hbe hb3
    clear hgi hb3 hLr hBi BW hbe
    go_wp2
    go_loopw [15, 17] (fun u i wr => u = .int .i64 0 ∧ i = .int .i64 0 ∧ wr = w3) (fun _ _ _ => 0)
    case atStart => exact ⟨rfl, rfl, rfl⟩
    case round =>
      obtain ⟨rfl, rfl, rfl⟩ := hrel
      have cE := BW3.cell (k := 1) rfl
      go_wp2
      go_loopw [20] (fun i wx => i = .int .i64 0 ∧ Below w.heap.size w wx) (fun _ _ => 0)
      case atStart => exact ⟨rfl, hbe3⟩
      case round =>
        clear cE hbe3 BW3
        obtain ⟨rfl, hbe4⟩ := hrel
        go_wp2_with (with_reducible refine wpList_makeQ (o := ⟨some 224, .makeSlice 40 (.tmp 223) (.tmp 223), _, _, _, _⟩) (by with_unfolding_all rfl) (.tmp 223) (.tmp 223) (by with_unfolding_all rfl) 0 (by decide) (by with_unfolding_all rfl) (by with_unfolding_all rfl) ?_)
        intro gx w8 Lx hgx hb8 hLx hBx
        have hL0 : Lx = [] := by first | exact hLx | exact List.eq_nil_of_length_eq_zero hLx | simpa using hLx
        subst hL0
        have hgl : w.heap.size ≤ gx := by have := hbe4.size; have := hgx.out; omega
        have hbe8 := below_join hbe4 hb8
        have HBX := Lib.hid hBx
        clear hgx hb8 hLx hBx hbe4
        go_wp2
        go_loopw [27] (fun i wx => i = .int .i64 0 ∧ wx = w8) (fun _ _ => 0)
        case atStart => exact ⟨rfl, rfl⟩
        case round =>
          obtain ⟨rfl, rfl⟩ := hrel
          go_wp2
          go_ret3
          exact ⟨hbe8, gx, rfl, hgl, rfl, (fun y hy => by cases hy), HBX.out⟩
theorem sys_rsolve {w : World} {A B : Option Addr} {c cb m n : Nat} {rs : List (Hdr × List Rat)} {bs : List Rat} (h : SysQ w A B m n rs bs) :
    Calls Tryd.prog 42 #[.slice A m c, .slice B m cb] w fun e w' => Below w.heap.size w w' ∧ SolvedR (solveM (tabC m (rs.map fun p => p.2) bs) n) n m w e w' := by
  rcases Nat.eq_zero_or_pos m with h0 | h0
  · subst h0
    have hr : rs = [] := List.eq_nil_of_length_eq_zero h.cnt
    subst hr
    have hn : n = 0 := h.cols.symm
    subst hn
    exact rsolve_none
  · exact rsolve_at h h0
/-- Two lists and an error. -/
def Two (P Q : List (Int × Int)) (k : Int) (w : World) (e : Ending) (w' : World) : Prop :=
  ∃ (A1 : Option Addr) (c1 : Nat) (A2 : Option Addr) (c2 : Nat), e = .returned (.tuple #[.slice A1 P.length c1, .slice A2 Q.length c2, .int .i64 k]) ∧ PsAt w' A1 P ∧ PsAt w' A2 Q ∧ Below w.heap.size w w' ∧ P.length ≤ 20 ∧ Q.length ≤ 20
def foundP : Found → List (Int × Int) × List (Int × Int) × Int
  | .large => ([], [], 17)
  | .marks y => ([], prs y, 20)
  | .numbers x => (prs x, [], 0)
theorem psAt_nil (w : World) (A : Option Addr) : PsAt w A [] := fun k p hp => by cases hp
theorem two_of {f : Found} {n m : Nat} {w w' : World} {e : Ending} (hn : n ≤ 20) (hm : m ≤ 20) (hb : Below w.heap.size w w') (h : SolvedR f n m w e w') : Two (foundP f).1 (foundP f).2.1 (foundP f).2.2 w e w' := by
  cases f with
  | large => exact ⟨none, 0, none, 0, h, psAt_nil _ _, psAt_nil _ _, hb, Nat.zero_le _, Nat.zero_le _⟩
  | marks y =>
    obtain ⟨g, o, c, h1, _, h2, _, h3⟩ := h
    refine ⟨none, 0, some ⟨g, o, none⟩, c, ?_, psAt_nil _ _, fun k p hp => ?_, hb, Nat.zero_le _, by show (prs y).length ≤ 20; rw [prs_length, h2]; exact hm⟩
    · rw [h1]; show _ = Ending.returned (.tuple #[_, .slice _ (prs y).length c, _]); rw [prs_length, h2]; rfl
    · obtain ⟨c1, c2⟩ := rowR_cell (R := []) hp
      rw [List.append_nil] at c1 c2
      exact ⟨g, o, rfl, h3 _ _ c1, by rw [Nat.add_assoc]; exact h3 _ _ c2⟩
  | numbers x =>
    obtain ⟨g, h1, _, h2, _, h3⟩ := h
    refine ⟨some ⟨g, 0, none⟩, n, none, 0, ?_, psAt_blk h3, psAt_nil _ _, hb, by show (prs x).length ≤ 20; rw [prs_length, h2]; exact hn, Nat.zero_le _⟩
    rw [h1]; show _ = Ending.returned (.tuple #[.slice _ (prs x).length n, _, _]); rw [prs_length, h2]; rfl
theorem hs_small {w : World} {l : List (Hdr × List (Int × Int))} (hC : ∀ p ∈ l, CameQ w p) (h1 : crB l = true) : l.length ≤ 25 ∧ ∀ h ∈ l.map (fun p => p.1), h.2.1 ≤ 140737488355328 := by
  unfold crB at h1
  rw [Bool.and_eq_true, List.all_eq_true, decide_eq_true_eq] at h1
  refine ⟨h1.2, fun h hh => ?_⟩
  obtain ⟨p, hp2, rfl⟩ := List.mem_map.1 hh
  have h2 := h1.1 p hp2
  unfold rowOk at h2
  rw [Bool.and_eq_true, decide_eq_true_eq] at h2
  have := (hC p hp2).raw.len
  omega
theorem cols_small {l : List Hdr} (h : ∀ x ∈ l, x.2.1 ≤ 140737488355328) : colsN l ≤ 140737488355328 := by
  cases l with
  | nil => exact Nat.zero_le _
  | cons a l => exact h a (List.mem_cons_self ..)
/-- Solve of both sides says the same. -/
theorem both_solve {w : World} {A B : Option Addr} {c d : Nat} {l : List (Hdr × List (Int × Int))} {bl : List (Int × Int)} (hS : HdrsAt w A (l.map fun p => p.1)) (hC : ∀ p ∈ l, CameQ w p) (hB : PsAt w B bl) (h1 : crB l = true) (h3 : (bl.all fun p => chk p.1 p.2) = true) (hbl : bl.length ≤ 25) (hcb : bl.length ≤ d) :
    ∃ P Q k, ∀ w', Below w.heap.size w w' → Calls Tryd.prog 41 #[.slice A l.length c, .slice B bl.length d] w' (Two P Q k w') ∧ Calls Tryd.prog 42 #[.slice A l.length c, .slice B bl.length d] w' (Two P Q k w') := by
  obtain ⟨hl, hsm⟩ := hs_small hC h1
  have hml : (l.map fun p => p.1).length = l.length := List.length_map _
  cases hf : formedB (l.map fun p => p.1) bl.length with
  | false =>
    refine ⟨[], [], 1, fun w' hb => ?_⟩
    have s1 := solve_bad A B c bl.length d (l.map fun p => p.1) w' (by rw [hml]; omega) (by omega) (cols_small hsm) (hS.next hb) hf
    have s2 := rsolve_bad A B c bl.length d (l.map fun p => p.1) w' (by rw [hml]; omega) (by omega) hsm (hS.next hb) hf
    rw [hml] at s1 s2
    exact ⟨s1.mono fun e w2 h => ⟨none, 0, none, 0, h.1, psAt_nil _ _, psAt_nil _ _, h.2, Nat.zero_le _, Nat.zero_le _⟩, s2.mono fun e w2 h => ⟨none, 0, none, 0, h.1, psAt_nil _ _, psAt_nil _ _, h.2, Nat.zero_le _, Nat.zero_le _⟩⟩
  | true =>
    obtain ⟨rs, bs, hsy, _, hll⟩ := sys_of hS hC hB h1 hf h3
    rw [hll]
    exact ⟨_, _, _, fun w' hb => ⟨(sys_solve (hsy.next hb) hcb).mono fun e w2 h => two_of hsy.n20 hsy.m20 h.1 h.2, (sys_rsolve (hsy.next hb)).mono fun e w2 h => two_of hsy.n20 hsy.m20 h.1 h.2⟩⟩
/-- Holds of both sides says the same. -/
theorem both_holds {w : World} {A B X : Option Addr} {c d e : Nat} {l : List (Hdr × List (Int × Int))} {bl xl : List (Int × Int)} (hS : HdrsAt w A (l.map fun p => p.1)) (hC : ∀ p ∈ l, CameQ w p) (hB : PsAt w B bl) (hX : PsAt w X xl) (h1 : crB l = true) (h3 : (bl.all fun p => chk p.1 p.2) = true) (h4 : (xl.all fun p => chk p.1 p.2) = true) (hbl : bl.length ≤ 25) (hxl : xl.length ≤ 25) :
    ∃ k : Int, ∀ w', Below w.heap.size w w' → (Calls Tryd.prog 44 #[.slice A l.length c, .slice B bl.length d, .slice X xl.length e] w' fun e w2 => e = .returned (.int .i64 k) ∧ Below w'.heap.size w' w2) ∧ (Calls Tryd.prog 45 #[.slice A l.length c, .slice B bl.length d, .slice X xl.length e] w' fun e w2 => e = .returned (.int .i64 k) ∧ Below w'.heap.size w' w2) := by
  obtain ⟨hl, hsm⟩ := hs_small hC h1
  have hml : (l.map fun p => p.1).length = l.length := List.length_map _
  cases hf : formedB (l.map fun p => p.1) bl.length with
  | false =>
    refine ⟨1, fun w' hb => ?_⟩
    have s1 := holds_bad A B X c bl.length d xl.length e (l.map fun p => p.1) w' (by rw [hml]; omega) (by omega) hsm (hS.next hb) hf
    have s2 := rholds_bad A B X c bl.length d xl.length e (l.map fun p => p.1) w' (by rw [hml]; omega) (by omega) hsm (hS.next hb) hf
    rw [hml] at s1 s2
    exact ⟨s1, s2⟩
  | true =>
    obtain ⟨rs, bs, hsy, _, hll⟩ := sys_of hS hC hB h1 hf h3
    obtain ⟨xs, x1, x2⟩ := prs_of h4
    have hxs : xs.length = xl.length := by rw [← x1, prs_length]
    rw [hll]
    exact ⟨_, fun w' hb => by
      have h := hsy.next hb
      have hX' : PsAt w' X (prs xs) := by rw [x1]; exact hX.next hb
      exact ⟨holds_any A B X c d e _ _ _ rs bs xs w' h.cnt h.m20 h.n20 h.cols h.form h.bl hxs (by omega) h.hdrs (fun p hp => (h.rows p hp).1) h.fit h.b h.bf hX' x2, rholds_any A B X c d e _ _ _ rs bs xs w' h.cnt h.m20 h.n20 h.cols h.form h.bl hxs (by omega) h.hdrs (fun p hp => (h.rows p hp).1) h.fit h.b h.bf hX' x2⟩⟩
/-- Refutes of both sides says the same. -/
theorem both_refutes {w : World} {A B X : Option Addr} {c d e : Nat} {l : List (Hdr × List (Int × Int))} {bl xl : List (Int × Int)} (hS : HdrsAt w A (l.map fun p => p.1)) (hC : ∀ p ∈ l, CameQ w p) (hB : PsAt w B bl) (hX : PsAt w X xl) (h1 : crB l = true) (h3 : (bl.all fun p => chk p.1 p.2) = true) (h4 : (xl.all fun p => chk p.1 p.2) = true) (hbl : bl.length ≤ 25) (hxl : xl.length ≤ 25) :
    ∃ k : Int, ∀ w', Below w.heap.size w w' → (Calls Tryd.prog 46 #[.slice A l.length c, .slice B bl.length d, .slice X xl.length e] w' fun e w2 => e = .returned (.int .i64 k) ∧ Below w'.heap.size w' w2) ∧ (Calls Tryd.prog 47 #[.slice A l.length c, .slice B bl.length d, .slice X xl.length e] w' fun e w2 => e = .returned (.int .i64 k) ∧ Below w'.heap.size w' w2) := by
  obtain ⟨hl, hsm⟩ := hs_small hC h1
  have hml : (l.map fun p => p.1).length = l.length := List.length_map _
  cases hf : formedB (l.map fun p => p.1) bl.length with
  | false =>
    refine ⟨1, fun w' hb => ?_⟩
    have s1 := refutes_bad A B X c bl.length d xl.length e (l.map fun p => p.1) w' (by rw [hml]; omega) (by omega) hsm (hS.next hb) hf
    have s2 := rrefutes_bad A B X c bl.length d xl.length e (l.map fun p => p.1) w' (by rw [hml]; omega) (by omega) hsm (hS.next hb) hf
    rw [hml] at s1 s2
    exact ⟨s1, s2⟩
  | true =>
    obtain ⟨rs, bs, hsy, _, hll⟩ := sys_of hS hC hB h1 hf h3
    obtain ⟨xs, x1, x2⟩ := prs_of h4
    have hxs : xs.length = xl.length := by rw [← x1, prs_length]
    rw [hll]
    exact ⟨_, fun w' hb => by
      have h := hsy.next hb
      have hX' : PsAt w' X (prs xs) := by rw [x1]; exact hX.next hb
      exact ⟨refutes_any A B X c d e _ _ _ rs bs xs w' h.cnt h.m20 h.n20 h.cols h.form h.bl hxs (by omega) h.hdrs (fun p hp => (h.rows p hp).1) h.fit h.b h.bf hX' x2, rrefutes_any A B X c d e _ _ _ rs bs xs w' h.cnt h.m20 h.n20 h.cols h.form h.bl hxs (by omega) h.hdrs (fun p hp => (h.rows p hp).1) h.fit h.b h.bf hX' x2⟩⟩
end Go.Proofs.YthjaelopmfjfeaaDoor
