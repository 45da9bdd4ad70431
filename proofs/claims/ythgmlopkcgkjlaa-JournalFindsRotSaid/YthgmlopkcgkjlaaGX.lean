/-
  Contracts of the functions that the statement calls, part 24 of 37 (merged texts: Jp7). Conditions: as the head of each part says.
-/
import Derived.Test.YthgmlopkcgkjlaaGW
import Derived.StillTailTactics

/-
  Contracts of the walk over the journal's turn. Conditions: the record and the disk lie there.
-/
namespace Go.Proofs.Ythgmlopkcgkjlaa
open Go.RowKit Go.Shelf

def markB (x : Nat) : ByteArray := ⟨#[if x = 0 then 0 else 255]⟩
def turnE (M : DM) (x : Nat) : Int := if M.writeE 0 0 (markB x).data.toList = 0 then (M.write 0 0 (markB x).data.toList).flushE else M.writeE 0 0 (markB x).data.toList
def turnM (M : DM) (x : Nat) : DM := if M.writeE 0 0 (markB x).data.toList = 0 then (M.write 0 0 (markB x).data.toList).flush else M.write 0 0 (markB x).data.toList
theorem cut_mark0 (w : World) : Sem.run Try.prog (Instr.slice 9 (.string ⟨#[0, 255]⟩) (some (.int .i64 0)) (some (.int .i64 (IntKind.i64.wrap 1))) none) w = .ok (.string (markB 0)) w := by kernel_rfl
theorem cut_mark1 (w : World) : Sem.run Try.prog (Instr.slice 9 (.string ⟨#[0, 255]⟩) (some (.int .i64 1)) (some (.int .i64 (IntKind.i64.wrap 2))) none) w = .ok (.string (markB 1)) w := by kernel_rfl
set_option maxRecDepth 100000 in
set_option maxHeartbeats 800000 in
theorem turn_any (gj half x : Nat) (A : Option Addr) (c : Nat) (l : List ByteArray) (cl : Bool) (gd gp gm k cp : Nat) (Y : List Value) (M : DM) (w : World) (hx : x ≤ 1) (hM : M.ok) (hk : k ≤ 900000) (hjd : gj ∉ [gd, gp, gm]) (hA : ∀ g, A = some ⟨g, 0, none⟩ → g ∉ [gd, gp, gm]) (h : PRep w gd gp gm cp Y M k) (hj : JRec w gj gd half A c l cl) :
    Calls Try.prog 99 #[.pointer (some ⟨gj, 0, none⟩), .int .i64 (x : Int)] w fun e w' => e = .returned (.int .i64 (turnE M x)) ∧ PRep w' gd gp gm cp Y (turnM M x) (k + 1) ∧ Only [gd, gp, gm] w w' := by
  rcases (by omega : x = 0 ∨ x = 1) with rfl | rfl
  · have c0 := hj.d.cell (k := 0) rfl
    have hkn := hj.d.lt
    show Calls Try.prog 99 #[.pointer (some ⟨gj, 0, none⟩), .int .i64 (0 : Int)] w _
    have hmk : (⟨#[0, 255]⟩ : ByteArray).extract 0 1 = markB 0 := by decide +kernel
    have HMK := Lib.hid hmk
    have HM := Lib.hid hM
    have h1 : PRep w.drew gd gp gm cp Y M k := h.next (below_drewN (Below.refl w.heap.size w) 1)
    have j1 : JRec w.drew gj gd half A c l cl := hj.next (below_drewN (Below.refl w.heap.size w) 1)
    have o1 : Only [gd, gp, gm] w w.drew := Only.of_below (below_drewN (Below.refl w.heap.size w) 1)
    clear hmk hM
    go_enter Try.func99, Try.ntmps99
    go_wp2_with fail
    go_still_tail 8, (by kernel_rfl)
    refine wpStill_step (fun K hK => ?_)
    go_simp
    rw [cut_mark0]
    go_simp
    refine hK _ ?_
    clear hK K
    refine wpStill_nil ?_
    clear c0 h hj hkn
    go_wp2_with fail
    (with_reducible refine (write_any gd gp gm k cp Y M 0 0 (markB 0) _ HM.out (by decide) (by omega) h1).mono ?_)
    rintro e w2 ⟨rfl, h2, ho2⟩
    have j2 := j1.only (ho2.mono (L' := [gd, gp, gm]) (by simp)) hjd hA
    have hoz := o1.trans (ho2.mono (by simp))
    have oM2 : Hid (M.write 0 0 (markB 0).data.toList).ok := by
      have : (M.write 0 0 (markB 0).data.toList).ok := DM.write_ok HM.out _ _ _
      exact this
    have c2 := j2.d.cell (k := 0) rfl
    obtain ⟨M2, hM2⟩ : ∃ M2, Hid (M.write 0 0 (markB 0).data.toList = M2) := ⟨_, rfl⟩
    obtain ⟨e2, he2⟩ : ∃ e2, M.writeE 0 0 (markB 0).data.toList = e2 := ⟨_, rfl⟩
    have hTE : Hid (turnE M 0 = if e2 = 0 then M2.flushE else e2) := by
      have : turnE M 0 = if e2 = 0 then M2.flushE else e2 := by unfold turnE; rw [he2, hM2.out]
      exact this
    have hTM : Hid (turnM M 0 = if e2 = 0 then M2.flush else M2) := by
      have : turnM M 0 = if e2 = 0 then M2.flush else M2 := by unfold turnM; rw [he2, hM2.out]
      exact this
    rw [hM2.out] at h2 oM2
    rw [he2]
    clear he2 hM2 j2 j1 h1 o1 ho2
    by_cases h0 : e2 = 0
    · subst h0
      have hE : Hid (turnE M 0 = M2.flushE) := by
        have : turnE M 0 = M2.flushE := by rw [hTE.out, if_pos rfl]
        exact this
      have hF : Hid (turnM M 0 = M2.flush) := by
        have : turnM M 0 = M2.flush := by rw [hTM.out, if_pos rfl]
        exact this
      clear hTE hTM
      go_wp2_with fail
      (with_reducible refine (flush_any gd gp gm (k + 1) cp Y M2 _ oM2.out h2).mono ?_)
      rintro e w3 ⟨rfl, h3, ho3⟩
      have hoy := hoz.trans ho3
      clear h2 hoz ho3 c2
      go_wp2
      go_ret
      exact ⟨by rw [hE.out]; rfl, by rw [hF.out]; exact h3, hoy⟩
    · have hE : Hid (turnE M 0 = e2) := by
        have : turnE M 0 = e2 := by rw [hTE.out, if_neg h0]
        exact this
      have hF : Hid (turnM M 0 = M2) := by
        have : turnM M 0 = M2 := by rw [hTM.out, if_neg h0]
        exact this
      clear hTE hTM
      have hb : (e2 == 0) = false := beq_eq_false_iff_ne.2 h0
      clear c2
      go_wp2
      go_ret
      exact ⟨by rw [hE.out]; rfl, by rw [hF.out]; exact h2, hoz⟩
  · have c0 := hj.d.cell (k := 0) rfl
    have hkn := hj.d.lt
    show Calls Try.prog 99 #[.pointer (some ⟨gj, 0, none⟩), .int .i64 (1 : Int)] w _
    have hmk : (⟨#[0, 255]⟩ : ByteArray).extract 1 2 = markB 1 := by decide +kernel
    have HMK := Lib.hid hmk
    have HM := Lib.hid hM
    have h1 : PRep w.drew gd gp gm cp Y M k := h.next (below_drewN (Below.refl w.heap.size w) 1)
    have j1 : JRec w.drew gj gd half A c l cl := hj.next (below_drewN (Below.refl w.heap.size w) 1)
    have o1 : Only [gd, gp, gm] w w.drew := Only.of_below (below_drewN (Below.refl w.heap.size w) 1)
    clear hmk hM
    go_enter Try.func99, Try.ntmps99
    go_wp2_with fail
    go_still_tail 8, (by kernel_rfl)
    refine wpStill_step (fun K hK => ?_)
    go_simp
    rw [cut_mark1]
    go_simp
    refine hK _ ?_
    clear hK K
    refine wpStill_nil ?_
    clear c0 h hj hkn
    go_wp2_with fail
    (with_reducible refine (write_any gd gp gm k cp Y M 0 0 (markB 1) _ HM.out (by decide) (by omega) h1).mono ?_)
    rintro e w2 ⟨rfl, h2, ho2⟩
    have j2 := j1.only (ho2.mono (L' := [gd, gp, gm]) (by simp)) hjd hA
    have hoz := o1.trans (ho2.mono (by simp))
    have oM2 : Hid (M.write 0 0 (markB 1).data.toList).ok := by
      have : (M.write 0 0 (markB 1).data.toList).ok := DM.write_ok HM.out _ _ _
      exact this
    have c2 := j2.d.cell (k := 0) rfl
    obtain ⟨M2, hM2⟩ : ∃ M2, Hid (M.write 0 0 (markB 1).data.toList = M2) := ⟨_, rfl⟩
    obtain ⟨e2, he2⟩ : ∃ e2, M.writeE 0 0 (markB 1).data.toList = e2 := ⟨_, rfl⟩
    have hTE : Hid (turnE M 1 = if e2 = 0 then M2.flushE else e2) := by
      have : turnE M 1 = if e2 = 0 then M2.flushE else e2 := by unfold turnE; rw [he2, hM2.out]
      exact this
    have hTM : Hid (turnM M 1 = if e2 = 0 then M2.flush else M2) := by
      have : turnM M 1 = if e2 = 0 then M2.flush else M2 := by unfold turnM; rw [he2, hM2.out]
      exact this
    rw [hM2.out] at h2 oM2
    rw [he2]
    clear he2 hM2 j2 j1 h1 o1 ho2
    by_cases h0 : e2 = 0
    · subst h0
      have hE : Hid (turnE M 1 = M2.flushE) := by
        have : turnE M 1 = M2.flushE := by rw [hTE.out, if_pos rfl]
        exact this
      have hF : Hid (turnM M 1 = M2.flush) := by
        have : turnM M 1 = M2.flush := by rw [hTM.out, if_pos rfl]
        exact this
      clear hTE hTM
      go_wp2_with fail
      (with_reducible refine (flush_any gd gp gm (k + 1) cp Y M2 _ oM2.out h2).mono ?_)
      rintro e w3 ⟨rfl, h3, ho3⟩
      have hoy := hoz.trans ho3
      clear h2 hoz ho3 c2
      go_wp2
      go_ret
      exact ⟨by rw [hE.out]; rfl, by rw [hF.out]; exact h3, hoy⟩
    · have hE : Hid (turnE M 1 = e2) := by
        have : turnE M 1 = e2 := by rw [hTE.out, if_neg h0]
        exact this
      have hF : Hid (turnM M 1 = M2) := by
        have : turnM M 1 = M2 := by rw [hTM.out, if_neg h0]
        exact this
      clear hTE hTM
      have hb : (e2 == 0) = false := beq_eq_false_iff_ne.2 h0
      clear c2
      go_wp2
      go_ret
      exact ⟨by rw [hE.out]; rfl, by rw [hF.out]; exact h2, hoz⟩
end Go.Proofs.Ythgmlopkcgkjlaa
