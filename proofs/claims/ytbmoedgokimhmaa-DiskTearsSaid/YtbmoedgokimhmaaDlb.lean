/-
  What a Flush keeps, in plain words. Conditions: none.
-/
import Derived.Test.YtbmoedgokimhmaaDla
namespace Go.Proofs.Ytbmoedgokimhmaa
open Go.RowKit

theorem trip_step (M : DM) : (M.tripTo (-1)).step = M.tripTo (-1) := by
  unfold DM.step DM.tripTo
  simp
theorem flush_tripped {M : DM} (hu : M.up = true) : (M.tripTo (-1)).flushE = 0 ∧ (M.tripTo (-1)).flush = (M.tripTo (-1)).settled := by
  have hu' : (M.tripTo (-1)).up = true := hu
  have hs : (M.tripTo (-1)).step.up = true := by rw [trip_step]; exact hu
  obtain ⟨e1, e2⟩ := flush_good hu' hs
  exact ⟨e1, by rw [e2, trip_step]⟩
theorem pend_none {M : DM} (h : ∀ q ∈ M.ps, q.new = none) : M.pending = [] := by
  unfold DM.pending
  rw [List.filter_eq_nil_iff]
  intro i hi
  have := h _ (DM.page_mem (List.mem_range.1 hi))
  unfold Pg.pend
  rw [this]; simp
theorem mount_nothing {M : DM} (h : M.pending = []) (picks : List Int) : (M.mount picks).ps = M.ps := by
  unfold DM.mount
  rw [h]; rfl
theorem write_trip0 {M : DM} (hu : M.up = true) (h0 : 0 < M.ps.length) : (M.tripTo 0).writeE 0 0 ({ data := #[122] } : ByteArray).data.toList = 13 ∧ (M.tripTo 0).write 0 0 ({ data := #[122] } : ByteArray).data.toList = (M.tripTo 0).step := by
  have hfit : ((M.tripTo 0).okP 0 && DM.fits 0 ({ data := #[122] } : ByteArray).data.toList.length) = true := by
    rw [Bool.and_eq_true]
    refine ⟨?_, by decide⟩
    unfold DM.okP
    rw [decide_eq_true_eq]
    have : (M.tripTo 0).ps.length = M.ps.length := rfl
    omega
  have hs : (M.tripTo 0).step.up = false := by
    unfold DM.step
    rw [if_pos (show (M.tripTo 0).trip = 0 from rfl)]
  exact write_trip hu hfit hs
/-- Behind a Flush that succeeds, a failure and a Mount, the content is what was read. -/
theorem kept_image {M : DM} (hM : M.ok) (hu : M.up = true) {n : Nat} (hn : M.ps.length = n) (picks : List Int) :
    ((((M.tripTo (-1)).settled.tripTo 0).step).mount picks).image = rdRow (M.tripTo (-1)) n ∧ ((((M.tripTo (-1)).settled.tripTo 0).step).mount picks).pending = [] := by
  have hM1 := DM.tripTo_ok hM (n := -1) ⟨by omega, by omega⟩
  have hnone := settled_none hM1
  have hps : (((M.tripTo (-1)).settled.tripTo 0).step).ps = (M.tripTo (-1)).settled.ps := by rw [DM.step_ps]; rfl
  have hpend : (((M.tripTo (-1)).settled.tripTo 0).step).pending = [] := pend_none (by rw [hps]; exact hnone)
  have hmp := mount_nothing hpend picks
  refine ⟨?_, pend_none (by rw [hmp, hps]; exact hnone)⟩
  unfold DM.image
  rw [hmp, hps]
  apply List.ext_getElem?
  intro k
  rcases Nat.lt_or_ge k n with h | h
  · rw [rdRow_at _ h, readS_up (M := M.tripTo (-1)) hu hn h]
    have hk : k < (M.tripTo (-1)).ps.length := by show k < M.ps.length; omega
    have e : (M.tripTo (-1)).settled.ps = (M.tripTo (-1)).ps.map fun p => p.settle 128 := rfl
    rw [List.getElem?_map, e, List.getElem?_map, DM.page_at hk]
    simp only [Option.map_some, Option.some.injEq]
    rw [settle_all (DM.page_ok hM1 hk)]
    unfold Pg.pend Pg.now
    cases ((M.tripTo (-1)).page k).new <;> rfl
  · have e : ((M.tripTo (-1)).settled.ps.map Pg.old).length = n := by rw [List.length_map, settled_len]; exact hn
    rw [List.getElem?_eq_none (by omega), List.getElem?_eq_none (by rw [rdRow_len]; omega)]
end Go.Proofs.Ytbmoedgokimhmaa
