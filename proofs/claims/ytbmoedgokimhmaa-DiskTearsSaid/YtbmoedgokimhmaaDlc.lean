/-
  What a Mount leaves of each page, in plain words. Conditions: none.
-/
import Derived.Test.YtbmoedgokimhmaaDlb
namespace Go.Proofs.Ytbmoedgokimhmaa
open Go.RowKit

theorem pending_at {M : DM} {j : Nat} (hj : j < M.ps.length) (h : (M.page j).pend = true) : M.pending[(pendTo M j).length]? = some j := by
  obtain ⟨m, hm⟩ : ∃ m, M.ps.length = j + (m + 1) := ⟨M.ps.length - j - 1, by omega⟩
  unfold DM.pending pendTo
  rw [hm, List.range_add, List.filter_append, List.length_map, List.getElem?_append_right (Nat.le_refl _), Nat.sub_self, List.range_succ_eq_map, List.map_cons, List.filter_cons_of_pos (by simpa using h)]
  simp
theorem mount_page_no {M : DM} {j : Nat} (_hj : j < M.ps.length) (h : (M.page j).pend = false) (picks : List Int) : (M.mount picks).page j = M.page j := by
  refine mtTo_page M picks j M.pending.length (Nat.le_refl _) (fun m _ e => ?_)
  have := pending_pend (List.mem_of_getElem? e)
  rw [h] at this; cases this
theorem mtTo_pend {M : DM} {j k : Nat} (hk : M.pending[k]? = some j) (picks : List Int) : ∀ m, k < m → m ≤ M.pending.length → (mtTo M picks m).page j = (M.page j).settle (DM.pick picks k)
  | 0, h, _ => absurd h (Nat.not_lt_zero _)
  | m + 1, h, hm => by
    obtain ⟨a, ha⟩ : ∃ a, M.pending[m]? = some a := ⟨_, List.getElem?_eq_getElem (by omega)⟩
    rw [← mtTo_next M picks m a ha]
    by_cases hmk : m = k
    · subst hmk
      rw [hk] at ha
      injection ha with ha
      subst ha
      rw [page_set_self (by rw [mtTo_len]; exact pending_lt (List.mem_of_getElem? hk)), mtTo_at M picks m j hk]
    · have hne : a ≠ j := fun e => by
        subst e
        have := pending_nodup M
        obtain ⟨h1, e1⟩ := List.getElem?_eq_some_iff.1 ha
        obtain ⟨h2, e2⟩ := List.getElem?_eq_some_iff.1 hk
        rcases Nat.lt_or_gt_of_ne hmk with h | h
        · exact (List.pairwise_iff_getElem.1 this _ _ h1 h2 h) (e1.trans e2.symm)
        · exact (List.pairwise_iff_getElem.1 this _ _ h2 h1 h) (e2.trans e1.symm)
      rw [page_set_ne hne]
      exact mtTo_pend hk picks m (by omega) (by omega)
theorem mount_page_yes {M : DM} {j k : Nat} (hk : M.pending[k]? = some j) (picks : List Int) : (M.mount picks).page j = (M.page j).settle (DM.pick picks k) :=
  mtTo_pend hk picks M.pending.length (List.getElem?_eq_some_iff.1 hk).1 (Nat.le_refl _)
theorem pick_le (picks : List Int) (k : Nat) : DM.pick picks k ≤ 128 := by
  unfold DM.pick
  split <;> omega
theorem mount_read {M : DM} {n j : Nat} (hn : M.ps.length = n) (hj : j < n) (picks : List Int) : (M.mount picks).readE (j : Int) = 0 ∧ (M.mount picks).readS (j : Int) = ((M.mount picks).page j).now := by
  have hl : (M.mount picks).ps.length = n := by rw [DM.mount_len]; exact hn
  exact ⟨readE_up rfl hl hj, readS_up rfl hl hj⟩
theorem mount_read_no {M : DM} {n j : Nat} (hn : M.ps.length = n) (hj : j < n) (h : (M.page j).pend = false) (picks : List Int) : (M.mount picks).readS (j : Int) = (M.page j).old := by
  rw [(mount_read hn hj picks).2, mount_page_no (by omega) h]
  unfold Pg.pend at h
  unfold Pg.now
  cases hw : (M.page j).new with
  | none => rfl
  | some l => rw [hw] at h; cases h
theorem mount_read_yes {M : DM} {n j k : Nat} {l : List UInt8} (hn : M.ps.length = n) (hj : j < n) (hk : M.pending[k]? = some j) (hl : (M.page j).new = some l) (picks : List Int) : (M.mount picks).readS (j : Int) = l.take (DM.pick picks k) ++ (M.page j).old.drop (DM.pick picks k) := by
  rw [(mount_read hn hj picks).2, mount_page_yes hk]
  unfold Pg.settle
  rw [hl]; rfl
end Go.Proofs.Ytbmoedgokimhmaa
