/-
  Contracts of the functions that the statement calls, part 10 of 37 (merged texts: Rq1). Conditions: as the head of each part says.
-/
import Derived.Test.YthgmlopkcgkjlaaGF

/-
  Contracts of the walks over the reference's Len, Up, is, now, step and Trip. Conditions: the record holds the disk.
-/
namespace Go.Proofs.Ythgmlopkcgkjlaa
open Go.RowKit

theorem rlen_any (gr ga cap : Nat) (X : List Value) (M : DM) (w : World) (h : RRep w gr ga cap X M) :
    Calls Try.prog 63 #[.pointer (some ⟨gr, 0, none⟩)] w fun e w' => e = .returned (.int .i64 (M.ps.length : Int)) ∧ w = w' := by
  have c0 := h.d.cell (k := 0) rfl
  clear h
  go_enter Try.func63, Try.ntmps63
  go_wp2
  go_ret
  exact ⟨rfl, rfl⟩
theorem rup_any (gr ga cap : Nat) (X : List Value) (M : DM) (w : World) (h : RRep w gr ga cap X M) :
    Calls Try.prog 64 #[.pointer (some ⟨gr, 0, none⟩)] w fun e w' => e = .returned (.bool M.up) ∧ w = w' := by
  have c2 := h.d.cell (k := 1) rfl
  obtain ⟨u, hu⟩ : ∃ u, M.up = u := ⟨_, rfl⟩
  rw [hu] at c2 ⊢
  clear h hu
  go_enter Try.func64, Try.ntmps64
  go_wp2
  go_ret
  cases u <;> exact ⟨rfl, rfl⟩
theorem ris_any (gr ga cap : Nat) (X : List Value) (M : DM) (i : Int) (b : Bool) (w : World) (hb : M.okP i = b) (h : RRep w gr ga cap X M) :
    Calls Try.prog 84 #[.pointer (some ⟨gr, 0, none⟩), .int .i64 i] w fun e w' => e = .returned (.bool b) ∧ w = w' := by
  have c0 := h.d.cell (k := 0) rfl
  obtain ⟨n, hn⟩ : ∃ n, M.ps.length = n := ⟨_, rfl⟩
  unfold DM.okP at hb
  rw [hn] at hb c0
  clear h hn
  by_cases h0 : 0 ≤ i
  · by_cases h1 : i < (n : Int)
    · have hbt : b = true := by rw [← hb]; exact decide_eq_true ⟨h0, h1⟩
      subst hbt
      clear hb
      go_enter Try.func84, Try.ntmps84
      go_wp2
      go_ret
      exact ⟨rfl, rfl⟩
    · have hbf : b = false := by rw [← hb]; exact decide_eq_false (fun h => h1 h.2)
      subst hbf
      clear hb
      go_enter Try.func84, Try.ntmps84
      go_wp2
      go_ret
      exact ⟨rfl, rfl⟩
  · have hbf : b = false := by rw [← hb]; exact decide_eq_false (fun h => h0 h.1)
    subst hbf
    clear hb
    go_enter Try.func84, Try.ntmps84
    go_wp2
    go_ret
    exact ⟨rfl, rfl⟩
set_option maxRecDepth 100000 in
theorem rnow_any (gr ga cap : Nat) (X : List Value) (M : DM) (i : Nat) (R : List UInt8) (w : World) (hi : i < M.ps.length) (hR : (M.page i).now = R) (h : RRep w gr ga cap X M) :
    Calls Try.prog 85 #[.pointer (some ⟨gr, 0, none⟩), .int .i64 (i : Int)] w fun e w' => e = .returned (S8 R) ∧ w = w' := by
  have c0 := h.d.cell (k := 0) rfl
  obtain ⟨n, hn⟩ : ∃ n, M.ps.length = n := ⟨_, rfl⟩
  have hin : (i : Int) < (n : Int) := by omega
  rw [hn] at c0
  have q0 := h.q0 hi
  have q1 := h.q1 hi
  have q2 := h.q2 hi
  unfold Pg.now at hR
  unfold Pg.pend at q2
  cases hnw : (M.page i).new with
  | none =>
    rw [hnw] at hR q2 q1
    simp only [Option.getD_none] at hR
    rw [hR] at q0
    clear h hn hi hnw hR q1
    go_enter Try.func85, Try.ntmps85
    go_wp2
    go_ret
    exact ⟨rfl, rfl⟩
  | some l =>
    rw [hnw] at hR q2 q1
    simp only [Option.getD_some] at hR q1
    rw [hR] at q1
    clear h hn hi hnw hR q0
    go_enter Try.func85, Try.ntmps85
    go_wp2
    go_ret
    exact ⟨rfl, rfl⟩
set_option maxRecDepth 100000 in
theorem rread_any (gr ga cap : Nat) (X : List Value) (M : DM) (i : Int) (R : List UInt8) (e : Int) (w : World) (hR : M.readS i = R) (he : M.readE i = e) (h : RRep w gr ga cap X M) :
    Calls Try.prog 57 #[.pointer (some ⟨gr, 0, none⟩), .int .i64 i] w fun x w' => x = .returned (.tuple #[S8 R, .int .i64 e]) ∧ w = w' := by
  have c1 := h.d.cell (k := 1) rfl
  obtain ⟨u, hu⟩ : ∃ u, M.up = u := ⟨_, rfl⟩
  obtain ⟨b, hb⟩ : ∃ b, M.okP i = b := ⟨_, rfl⟩
  rw [hu] at c1
  unfold DM.readS at hR
  unfold DM.readE at he
  rw [hu, hb] at hR he
  have HB := Lib.hid hb
  cases u with
  | false =>
    simp only [Bool.false_eq_true, if_false] at hR he
    subst hR he
    clear hu hb
    go_enter Try.func57, Try.ntmps57
    go_wp2_with fail
    (with_reducible refine (ris_any gr ga cap X M _ _ _ HB.out h).mono ?_)
    rintro e w' ⟨rfl, rfl⟩
    clear h HB
    go_wp2
    go_ret2
    exact ⟨rfl, rfl⟩
  | true =>
    simp only [if_true] at hR he
    cases b with
    | false =>
      simp only [Bool.false_eq_true, if_false] at hR he
      subst hR he
      clear hu hb
      go_enter Try.func57, Try.ntmps57
      go_wp2_with fail
      (with_reducible refine (ris_any gr ga cap X M _ _ _ HB.out h).mono ?_)
      rintro e w' ⟨rfl, rfl⟩
      clear h HB
      go_wp2
      go_ret2
      exact ⟨rfl, rfl⟩
    | true =>
      obtain ⟨j, rfl, hj⟩ := DM.okP_nat hb
      simp only [if_true, Int.toNat_natCast] at hR he
      subst he
      have HJ := Lib.hid hj
      have HR := Lib.hid hR
      clear hu hb hj hR
      go_enter Try.func57, Try.ntmps57
      go_wp2_with fail
      (with_reducible refine (ris_any gr ga cap X M _ _ _ HB.out h).mono ?_)
      rintro e w' ⟨rfl, rfl⟩
      go_wp2_with fail
      (with_reducible refine (rnow_any gr ga cap X M j R _ HJ.out HR.out h).mono ?_)
      rintro e w' ⟨rfl, rfl⟩
      clear h HB
      go_wp2
      go_ret2
      exact ⟨rfl, rfl⟩
theorem step_up {M : DM} (hup : M.up = true) : M.step.up = !decide (M.trip = 0) := by
  unfold DM.step
  by_cases h : M.trip = 0
  · rw [if_pos h, h]; rfl
  · rw [if_neg h, decide_eq_false h]
    split
    · exact hup
    · exact hup
set_option maxRecDepth 100000 in
theorem rstep_any (gr ga cap : Nat) (X : List Value) (M : DM) (w : World) (hup : M.up = true) (hM : M.ok) (h : RRep w gr ga cap X M) :
    Calls Try.prog 86 #[.pointer (some ⟨gr, 0, none⟩)] w fun e w' => e = .returned (.int .i64 (if M.step.up then 0 else 13)) ∧ RRep w' gr ga cap X M.step ∧ Only [gr] w w' := by
  have c2 := h.d.cell (k := 2) rfl
  have hB := h.d
  have hR := fun w1 => h.turn (w' := w1) (M' := M.step)
  obtain ⟨n, hn⟩ : ∃ n, M.ps.length = n := ⟨_, rfl⟩
  obtain ⟨t, ht⟩ : ∃ t, M.trip = t := ⟨_, rfl⟩
  rw [hn] at hB hR
  rw [ht] at hB c2
  rw [hup] at hB
  have ht1 : -1 ≤ t := by rw [← ht]; exact hM.2.1
  have ht2 : t ≤ 9223372036854775807 := by rw [← ht]; exact hM.2.2.1
  have hps := M.step_ps
  by_cases h0 : t = 0
  · have e1 : M.step = { M with up := false } := by unfold DM.step; rw [if_pos (ht.trans h0)]
    have e2 : M.step.up = false := by rw [e1]
    have e3 : M.step.trip = 0 := by rw [e1]; exact ht.trans h0
    rw [e2, e3] at hR
    rw [e2]
    subst h0
    have HR := Lib.hid hR
    have HPS := Lib.hid hps
    clear hR hps e1 e2 e3 h hM hup hn ht
    go_enter Try.func86, Try.ntmps86
    go_wp2_with (with_reducible refine wpList_put (o := ⟨none, .store 4 (.tmp 10) (.const (.bool true)), _, _, _, _⟩) (by with_unfolding_all rfl) 4 (.tmp 10) (.const (.bool true)) (by with_unfolding_all rfl) gr 1 (by with_unfolding_all rfl) (.bool true) (by with_unfolding_all rfl) hB [(.bool true)] (by with_unfolding_all rfl) (by with_unfolding_all exact Try.sz4) (by with_unfolding_all simp) (by with_unfolding_all exact one_cell1 rfl) ?_)
    intro w1 hu1 hB1
    clear c2
    go_wp2
    go_ret
    exact ⟨rfl, HR.out _ hu1 HPS.out hB1, Only.of_upd hu1 (by simp)⟩
  · by_cases h1 : t = -1
    · have e1 : M.step = M := by unfold DM.step; rw [if_neg (fun e => h0 (ht.symm.trans e)), if_pos (ht.trans h1)]
      rw [e1, hup]
      subst h1
      have HH := Lib.hid h
      clear hR hps e1 h hM hup hn ht h0
      go_enter Try.func86, Try.ntmps86
      go_wp2
      go_ret
      exact ⟨rfl, HH.out, Only.refl _ _⟩
    · have e1 : M.step = { M with trip := M.trip - 1 } := by unfold DM.step; rw [if_neg (fun e => h0 (ht.symm.trans e)), if_neg (fun e => h1 (ht.symm.trans e))]
      have e2 : M.step.up = true := by rw [e1]; exact hup
      have e3 : M.step.trip = t - 1 := by rw [e1]; show M.trip - 1 = _; rw [ht]
      rw [e2, e3] at hR
      rw [e2]
      have hb0 : (t == 0) = false := beq_eq_false_iff_ne.2 h0
      have ht0 : 1 ≤ t := by omega
      have HR := Lib.hid hR
      have HPS := Lib.hid hps
      clear hR hps e1 e2 e3 h hM hup hn ht h0 h1 ht1
      go_enter Try.func86, Try.ntmps86
      go_wp2_with (with_reducible refine wpList_put (o := ⟨none, .store 3 (.tmp 22) (.tmp 20), _, _, _, _⟩) (by with_unfolding_all rfl) 3 (.tmp 22) (.tmp 20) (by with_unfolding_all rfl) gr 2 (by with_unfolding_all rfl) (.int .i64 (t - 1)) (by with_unfolding_all rfl) hB [(.int .i64 (t - 1))] (by with_unfolding_all rfl) (by with_unfolding_all exact Try.sz3) (by with_unfolding_all simp) (by with_unfolding_all exact one_cell1 rfl) ?_)
      intro w1 hu1 hB1
      clear c2
      go_wp2
      go_ret
      exact ⟨rfl, HR.out _ hu1 HPS.out hB1, Only.of_upd hu1 (by simp)⟩
set_option maxRecDepth 100000 in
theorem rtrip_any (gr ga cap : Nat) (X : List Value) (M : DM) (n : Int) (w : World) (hn1 : -9223372036854775808 ≤ n) (hn2 : n ≤ 9223372036854775807) (h : RRep w gr ga cap X M) :
    Calls Try.prog 60 #[.pointer (some ⟨gr, 0, none⟩), .int .i64 n] w fun e w' => e = .returned (.tuple #[]) ∧ RRep w' gr ga cap X (M.tripTo n) ∧ Only [gr] w w' := by
  have hB := h.d
  have hR := fun w1 => h.turn (w' := w1) (M' := M.tripTo n)
  obtain ⟨m, hm⟩ : ∃ m, M.ps.length = m := ⟨_, rfl⟩
  rw [hm] at hB hR
  have e3 : (M.tripTo n).trip = max n (-1) := rfl
  have e2 : (M.tripTo n).up = M.up := rfl
  rw [e2, e3] at hR
  obtain ⟨u, hu⟩ : ∃ u, M.up = u := ⟨_, rfl⟩
  rw [hu] at hB hR
  by_cases hlt : n ≤ -1
  · rw [show max n (-1) = -1 by omega] at hR
    have HR := Lib.hid hR
    clear hR h hm e2 e3 hu
    go_enter Try.func60, Try.ntmps60
    go_wp2_with (with_reducible refine wpList_put (o := ⟨none, .store 3 (.tmp 8) (.tmp 6), _, _, _, _⟩) (by with_unfolding_all rfl) 3 (.tmp 8) (.tmp 6) (by with_unfolding_all rfl) gr 2 (by with_unfolding_all rfl) (.int .i64 (-1)) (by with_unfolding_all rfl) hB [(.int .i64 (-1))] (by with_unfolding_all rfl) (by with_unfolding_all exact Try.sz3) (by with_unfolding_all simp) (by with_unfolding_all exact one_cell1 rfl) ?_)
    intro w1 hu1 hB1
    go_wp2
    go_end0
    exact ⟨rfl, HR.out _ hu1 rfl hB1, Only.of_upd hu1 (by simp)⟩
  · have hge : -1 < n := by omega
    rw [show max n (-1) = n by omega] at hR
    have HR := Lib.hid hR
    clear hR h hm e2 e3 hlt hu
    go_enter Try.func60, Try.ntmps60
    go_wp2_with (with_reducible refine wpList_put (o := ⟨none, .store 3 (.tmp 8) (.tmp 6), _, _, _, _⟩) (by with_unfolding_all rfl) 3 (.tmp 8) (.tmp 6) (by with_unfolding_all rfl) gr 2 (by with_unfolding_all rfl) (.int .i64 n) (by with_unfolding_all rfl) hB [(.int .i64 n)] (by with_unfolding_all rfl) (by with_unfolding_all exact Try.sz3) (by with_unfolding_all simp) (by with_unfolding_all exact one_cell1 rfl) ?_)
    intro w1 hu1 hB1
    go_wp2
    go_end0
    exact ⟨rfl, HR.out _ hu1 rfl hB1, Only.of_upd hu1 (by simp)⟩
end Go.Proofs.Ythgmlopkcgkjlaa
