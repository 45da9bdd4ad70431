/-
  Contract of the walk over the reference's Flush. Conditions: the record holds the disk.
-/
import Derived.Test.YtbmoedgokimhmaaRq3
namespace Go.Proofs.Ytbmoedgokimhmaa
open Go.RowKit

def upTo (N : DM) (j : Nat) : DM := { N with ps := (N.ps.take j).map (fun p => p.settle 128) ++ N.ps.drop j }
theorem upTo_zero (N : DM) : upTo N 0 = N := by unfold upTo; simp
theorem upTo_all (N : DM) : upTo N N.ps.length = N.settled := by
  unfold upTo DM.settled
  rw [List.take_of_length_le (Nat.le_refl _), List.drop_eq_nil_of_le (Nat.le_refl _), List.append_nil]
theorem upTo_len (N : DM) (j : Nat) : (upTo N j).ps.length = N.ps.length := by
  unfold upTo
  simp only [List.length_append, List.length_map, List.length_take, List.length_drop]
  omega
theorem upTo_at (N : DM) {j : Nat} (hj : j < N.ps.length) : (upTo N j).page j = N.page j := by
  have hl : ((N.ps.take j).map (fun p => p.settle 128)).length = j := by rw [List.length_map, List.length_take]; omega
  unfold DM.page upTo
  rw [List.getD_eq_getElem?_getD, List.getElem?_append_right (by omega), hl, Nat.sub_self, List.getElem?_drop, Nat.add_zero, List.getD_eq_getElem?_getD]
theorem upTo_next (N : DM) {j : Nat} (hj : j < N.ps.length) : (upTo N j).set j ((N.page j).settle 128) = upTo N (j + 1) := by
  have hl : ((N.ps.take j).map (fun p => p.settle 128)).length = j := by rw [List.length_map, List.length_take]; omega
  have hd : N.ps.drop j = N.page j :: N.ps.drop (j + 1) := by
    rw [List.drop_eq_getElem_cons hj]
    congr 1
    have := DM.page_at hj
    rw [List.getElem?_eq_getElem hj] at this
    injection this
  have ht : N.ps.take (j + 1) = N.ps.take j ++ [N.page j] := by rw [List.take_add_one, DM.page_at hj]; rfl
  unfold DM.set upTo
  congr 1
  show ((N.ps.take j).map _ ++ N.ps.drop j).set j _ = _
  rw [List.set_append_right _ _ (by omega), hl, Nat.sub_self, hd, List.set_cons_zero, ht, List.map_append, List.append_assoc]
  rfl
theorem upTo_ok {N : DM} (h : N.ok) (j : Nat) : (upTo N j).ok := by
  refine ⟨fun p hp => ?_, h.2.1, h.2.2.1, by rw [upTo_len]; exact h.2.2.2⟩
  rcases List.mem_append.1 hp with hp | hp
  · obtain ⟨q, hq, rfl⟩ := List.mem_map.1 hp
    exact Pg.settle_ok (h.1 q (List.mem_of_mem_take hq)) 128
  · exact h.1 p (List.mem_of_mem_drop hp)
theorem clampN_128 : clampN 128 = 128 := by decide
def RFlRel (N : DM) (gr ga cap : Nat) (X : List Value) (w : World) (i : Value) (wr : World) : Prop :=
  ∃ j : Nat, j ≤ N.ps.length ∧ i = .int .i64 j ∧ RRep wr gr ga cap X (upTo N j) ∧ Only [gr, ga] w wr
set_option maxRecDepth 100000 in
set_option maxHeartbeats 1600000 in
theorem rflush_any (gr ga cap : Nat) (X : List Value) (M : DM) (w : World) (hM : M.ok) (h : RRep w gr ga cap X M) :
    Calls Try.prog 59 #[.pointer (some ⟨gr, 0, none⟩)] w fun x w' => x = .returned (.int .i64 M.flushE) ∧ RRep w' gr ga cap X M.flush ∧ Only [gr, ga] w w' := by
  have c1 := h.d.cell (k := 1) rfl
  obtain ⟨u, hu⟩ : ∃ u, M.up = u := ⟨_, rfl⟩
  rw [hu] at c1
  cases u with
  | false =>
    obtain ⟨e1, e2⟩ := flush_down hu
    rw [e1, e2]
    have HH := Lib.hid h
    clear e1 e2 hu h hM
    go_enter Try.func59, Try.ntmps59
    go_wp2
    go_ret
    exact ⟨rfl, HH.out, Only.refl _ _⟩
  | true =>
    have HUP := Lib.hid hu
    by_cases hst : M.step.up = true
    · obtain ⟨e1, e2⟩ := flush_good hu hst
      rw [e1, e2]
      have HST := Lib.hid hst
      have hMs := DM.step_ok hM
      obtain ⟨N, hN⟩ : ∃ N, M.step = N := ⟨_, rfl⟩
      have HN := Lib.hid hN
      rw [hN] at hMs ⊢
      have hn4 : N.ps.length ≤ 4096 := hMs.2.2.2
      have HMS := Lib.hid hMs
      have HM := Lib.hid hM
      clear e1 e2 hu hst hN hMs hM
      go_enter Try.func59, Try.ntmps59
      go_wp2_with fail
      (with_reducible refine (rstep_any gr ga cap X M _ HUP.out HM.out h).mono ?_)
      rintro e w1 ⟨rfl, h1, ho1⟩
      rw [HST.out, if_pos rfl]
      rw [HN.out] at h1
      have ho1' : Only [gr, ga] w w1 := ho1.mono (by simp)
      clear c1 h HUP HST HM HN ho1
      obtain ⟨n, hn⟩ : ∃ n, Hid (N.ps.length = n) := ⟨_, rfl⟩
      rw [hn.out] at hn4
      go_wp2
      go_loopw [4] (RFlRel N gr ga cap X w) (fun i _ => n - natOf i)
      case atStart => exact ⟨0, Nat.zero_le _, rfl, by rw [upTo_zero]; exact h1, ho1'⟩
      case round =>
        clear h1 ho1'
        obtain ⟨j, hj, rfl, hR, ho⟩ := hrel
        have c0 := hR.d.cell (k := 0) rfl
        rw [upTo_len, hn.out] at c0
        rw [hn.out] at hj
        by_cases hjn : j < n
        · have hjl : Hid (j < N.ps.length) := by
            have : j < N.ps.length := by rw [hn.out]; exact hjn
            exact this
          have hji : (j : Int) < (n : Int) := by omega
          have HO := Lib.hid (upTo_ok HMS.out j)
          go_wp2_with fail
          (with_reducible refine (rsettle_any gr ga cap X (upTo N j) j 128 128 _ (by rw [upTo_len]; exact hjl.out) clampN_128 HO.out hR).mono ?_)
          rintro e w2 ⟨rfl, h2, ho2⟩
          rw [upTo_at N hjl.out, upTo_next N hjl.out] at h2
          have ho3 := ho.trans (ho2.mono (by simp))
          clear c0 hR ho ho2 HO
          go_wp2
          go_roundw
          case rel => exact ⟨j + 1, hjl.out, by go_num, h2, ho3⟩
          case measure => simp [natOf]; omega
        · obtain rfl : j = n := by omega
          have hR' := hR
          rw [← hn.out, upTo_all] at hR'
          clear hR hjn hj
          go_wp2
          go_ret
          exact ⟨rfl, hR', ho⟩
    · have hsf : M.step.up = false := by simpa using hst
      obtain ⟨e1, e2⟩ := flush_trip hu hsf
      rw [e1, e2]
      have HSF := Lib.hid hsf
      clear e1 e2 hu hst hsf
      go_enter Try.func59, Try.ntmps59
      go_wp2_with fail
      (with_reducible refine (rstep_any gr ga cap X M _ HUP.out hM h).mono ?_)
      rintro e w1 ⟨rfl, h1, ho1⟩
      rw [HSF.out]
      have ho1' : Only [gr, ga] w w1 := ho1.mono (by simp)
      clear c1 h HUP HSF hM ho1
      go_wp2
      go_ret
      exact ⟨rfl, h1, ho1'⟩
end Go.Proofs.Ytbmoedgokimhmaa
