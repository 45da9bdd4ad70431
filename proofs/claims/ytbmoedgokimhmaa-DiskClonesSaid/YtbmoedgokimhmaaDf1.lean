/-
  Contracts of the walks over disk.Len, Up, has, step and Trip. Conditions: the record holds the disk.
-/
import Derived.Test.YtbmoedgokimhmaaDp
namespace Go.Proofs.Ytbmoedgokimhmaa
open Go.RowKit

theorem Try.sz3 : (Try.prog.info? 3).map (·.size) = some 1 := by kernel_rfl
theorem Try.sz4 : (Try.prog.info? 4).map (·.size) = some 1 := by kernel_rfl
theorem len_any (gd gp gm k cp : Nat) (Y : List Value) (M : DM) (w : World) (h : PRep w gd gp gm cp Y M k) :
    Calls Try.prog 55 #[.pointer (some ⟨gd, 0, none⟩)] w fun e w' => e = .returned (.int .i64 (M.ps.length : Int)) ∧ w = w' := by
  have c0 := h.d.cell (k := 0) rfl
  clear h
  go_enter Try.func55, Try.ntmps55
  go_wp2
  go_ret
  exact ⟨rfl, rfl⟩
theorem up_any (gd gp gm k cp : Nat) (Y : List Value) (M : DM) (w : World) (h : PRep w gd gp gm cp Y M k) :
    Calls Try.prog 25 #[.pointer (some ⟨gd, 0, none⟩)] w fun e w' => e = .returned (.bool M.up) ∧ w = w' := by
  have c2 := h.d.cell (k := 2) rfl
  clear h
  go_enter Try.func25, Try.ntmps25
  go_wp2
  go_ret
  exact ⟨rfl, rfl⟩
theorem has_any (gd gp gm k cp : Nat) (Y : List Value) (M : DM) (i : Int) (b : Bool) (w : World) (hb : M.okP i = b) (h : PRep w gd gp gm cp Y M k) :
    Calls Try.prog 67 #[.pointer (some ⟨gd, 0, none⟩), .int .i64 i] w fun e w' => e = .returned (.bool b) ∧ w = w' := by
  have c0 := h.d.cell (k := 0) rfl
  obtain ⟨n, hn⟩ : ∃ n, M.ps.length = n := ⟨_, rfl⟩
  unfold DM.okP at hb
  rw [hn] at hb c0
  clear h hn
  by_cases h0 : 0 ≤ i
  · by_cases h1 : i < (n : Int)
    · have hbt : b = true := by rw [← hb]; exact decide_eq_true ⟨h0, h1⟩
      subst hbt
      clear hb
      go_enter Try.func67, Try.ntmps67
      go_wp2
      go_ret
      exact ⟨rfl, rfl⟩
    · have hbf : b = false := by rw [← hb]; exact decide_eq_false (fun h => h1 h.2)
      subst hbf
      clear hb
      go_enter Try.func67, Try.ntmps67
      go_wp2
      go_ret
      exact ⟨rfl, rfl⟩
  · have hbf : b = false := by rw [← hb]; exact decide_eq_false (fun h => h0 h.1)
    subst hbf
    clear hb
    go_enter Try.func67, Try.ntmps67
    go_wp2
    go_ret
    exact ⟨rfl, rfl⟩
theorem PRep.turn {w w' : World} {gd gp gm cp : Nat} {Y : List Value} {M M' : DM} {k : Nat} (h : PRep w gd gp gm cp Y M k) (hu : Upd gd w w') (hps : M'.ps = M.ps) (hd : Blk w' gd 105 [.slice (some ⟨gp, 0, none⟩) M.ps.length cp, .map (some gm), .bool M'.up, .int .i64 M'.trip]) : PRep w' gd gp gm cp Y M' k := by
  have ho := Only.of_upd (L := [gd]) hu (by simp)
  exact ⟨by rw [hps]; exact hd, by unfold DM.image; rw [hps]; exact h.p.only ho (by simpa using h.n1.symm), by rw [hps]; exact h.m.only ho (by simpa using h.n2.symm), h.n1, h.n2, h.n3⟩
set_option maxRecDepth 100000 in
theorem step_any (gd gp gm k cp : Nat) (Y : List Value) (M : DM) (w : World) (hup : M.up = true) (hM : M.ok) (h : PRep w gd gp gm cp Y M k) :
    Calls Try.prog 69 #[.pointer (some ⟨gd, 0, none⟩)] w fun e w' => e = .returned (.bool M.step.up) ∧ PRep w' gd gp gm cp Y M.step k ∧ Only [gd] w w' := by
  have c2 := h.d.cell (k := 2) rfl
  have c3 := h.d.cell (k := 3) rfl
  have hB := h.d
  have hR := fun w1 => h.turn (w' := w1) (M' := M.step)
  obtain ⟨n, hn⟩ : ∃ n, M.ps.length = n := ⟨_, rfl⟩
  obtain ⟨t, ht⟩ : ∃ t, M.trip = t := ⟨_, rfl⟩
  rw [hn] at hB hR
  rw [ht] at hB c3
  rw [hup] at hB c2
  have ht1 : -1 ≤ t := by rw [← ht]; exact hM.2.1
  have ht2 : t ≤ 9223372036854775807 := by rw [← ht]; exact hM.2.2.1
  have hps : M.step.ps = M.ps := by unfold DM.step; split <;> (try split) <;> rfl
  by_cases h0 : t = 0
  · have e1 : M.step = { M with up := false } := by unfold DM.step; rw [if_pos (ht.trans h0)]
    have e2 : M.step.up = false := by rw [e1]
    have e3 : M.step.trip = 0 := by rw [e1]; exact ht.trans h0
    rw [e2, e3] at hR
    rw [e2]
    subst h0
    have HR := Lib.hid hR
    have HPS := Lib.hid hps
    clear hR hps e1 e2 e3 h hM hup hn ht
    go_enter Try.func69, Try.ntmps69
    go_wp2_with (with_reducible refine wpList_put (o := ⟨none, .store 4 (.tmp 11) (.const (.bool false)), _, _, _, _⟩) (by with_unfolding_all rfl) 4 (.tmp 11) (.const (.bool false)) (by with_unfolding_all rfl) gd 2 (by with_unfolding_all rfl) (.bool false) (by with_unfolding_all rfl) hB [(.bool false)] (by with_unfolding_all rfl) (by with_unfolding_all exact Try.sz4) (by with_unfolding_all simp) (by with_unfolding_all exact one_cell1 rfl) ?_)
    intro w1 hu1 hB1
    have c2' := hB1.cell (k := 2) (v := .bool false) rfl
    clear c2 c3
    go_wp2
    go_ret
    exact ⟨rfl, HR.out _ hu1 HPS.out hB1, Only.of_upd hu1 (by simp)⟩
  · by_cases h1 : t = -1
    · have e1 : M.step = M := by unfold DM.step; rw [if_neg (fun e => h0 (ht.symm.trans e)), if_pos (ht.trans h1)]
      rw [e1, hup]
      subst h1
      have HH := Lib.hid h
      clear hR hps e1 h hM hup hn ht h0
      go_enter Try.func69, Try.ntmps69
      go_wp2
      go_ret
      exact ⟨rfl, HH.out, Only.refl _ _⟩
    · have e1 : M.step = { M with trip := M.trip - 1 } := by unfold DM.step; rw [if_neg (fun e => h0 (ht.symm.trans e)), if_neg (fun e => h1 (ht.symm.trans e))]
      have e2 : M.step.up = true := by rw [e1]; exact hup
      have e3 : M.step.trip = t - 1 := by rw [e1]; show M.trip - 1 = _; rw [ht]
      rw [e2, e3] at hR
      rw [e2]
      have hb0 : (t == 0) = false := beq_eq_false_iff_ne.2 h0
      have hb1 : (t != -1) = true := bne_iff_ne.2 h1
      have ht0 : 1 ≤ t := by omega
      have HR := Lib.hid hR
      have HPS := Lib.hid hps
      clear hR hps e1 e2 e3 h hM hup hn ht h0 h1 ht1
      go_enter Try.func69, Try.ntmps69
      go_wp2_with (with_reducible refine wpList_put (o := ⟨none, .store 3 (.tmp 24) (.tmp 22), _, _, _, _⟩) (by with_unfolding_all rfl) 3 (.tmp 24) (.tmp 22) (by with_unfolding_all rfl) gd 3 (by with_unfolding_all rfl) (.int .i64 (t - 1)) (by with_unfolding_all rfl) hB [(.int .i64 (t - 1))] (by with_unfolding_all rfl) (by with_unfolding_all exact Try.sz3) (by with_unfolding_all simp) (by with_unfolding_all exact one_cell1 rfl) ?_)
      intro w1 hu1 hB1
      have c2' := hB1.cell (k := 2) (v := .bool true) rfl
      clear c2 c3
      go_wp2
      go_ret
      exact ⟨rfl, HR.out _ hu1 HPS.out hB1, Only.of_upd hu1 (by simp)⟩
set_option maxRecDepth 100000 in
theorem trip_any (gd gp gm k cp : Nat) (Y : List Value) (M : DM) (n : Int) (w : World) (hn1 : -9223372036854775808 ≤ n) (hn2 : n ≤ 9223372036854775807) (h : PRep w gd gp gm cp Y M k) :
    Calls Try.prog 22 #[.pointer (some ⟨gd, 0, none⟩), .int .i64 n] w fun e w' => e = .returned (.tuple #[]) ∧ PRep w' gd gp gm cp Y (M.tripTo n) k ∧ Only [gd] w w' := by
  have hB := h.d
  have hR := fun w1 => h.turn (w' := w1) (M' := M.tripTo n)
  obtain ⟨m, hm⟩ : ∃ m, M.ps.length = m := ⟨_, rfl⟩
  have c3 := h.d.cell (k := 3) rfl
  rw [hm] at hB hR
  have e3 : (M.tripTo n).trip = max n (-1) := rfl
  have e2 : (M.tripTo n).up = M.up := rfl
  rw [e2, e3] at hR
  by_cases hlt : n < -1
  · rw [show max n (-1) = -1 by omega] at hR
    have HR := Lib.hid hR
    clear hR h hm e2 e3
    go_enter Try.func22, Try.ntmps22
    go_wp2_with (with_reducible refine wpList_put (o := ⟨none, .store 3 (.tmp 8) (.tmp 6), _, _, _, _⟩) (by with_unfolding_all rfl) 3 (.tmp 8) (.tmp 6) (by with_unfolding_all rfl) gd 3 (by with_unfolding_all rfl) (.int .i64 (-1)) (by with_unfolding_all rfl) hB [(.int .i64 (-1))] (by with_unfolding_all rfl) (by with_unfolding_all exact Try.sz3) (by with_unfolding_all simp) (by with_unfolding_all exact one_cell1 rfl) ?_)
    intro w1 hu1 hB1
    go_wp2
    go_end0
    exact ⟨rfl, HR.out _ hu1 rfl hB1, Only.of_upd hu1 (by simp)⟩
  · have hge : -1 ≤ n := by omega
    rw [show max n (-1) = n by omega] at hR
    have HR := Lib.hid hR
    clear hR h hm e2 e3 hlt
    go_enter Try.func22, Try.ntmps22
    go_wp2_with (with_reducible refine wpList_put (o := ⟨none, .store 3 (.tmp 8) (.tmp 6), _, _, _, _⟩) (by with_unfolding_all rfl) 3 (.tmp 8) (.tmp 6) (by with_unfolding_all rfl) gd 3 (by with_unfolding_all rfl) (.int .i64 n) (by with_unfolding_all rfl) hB [(.int .i64 n)] (by with_unfolding_all rfl) (by with_unfolding_all exact Try.sz3) (by with_unfolding_all simp) (by with_unfolding_all exact one_cell1 rfl) ?_)
    intro w1 hu1 hB1
    go_wp2
    go_end0
    exact ⟨rfl, HR.out _ hu1 rfl hB1, Only.of_upd hu1 (by simp)⟩
end Go.Proofs.Ytbmoedgokimhmaa
