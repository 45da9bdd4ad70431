/-
  The disk in the middle of a Mount: its pages and what their contents are. Conditions: none.
-/
import Derived.Test.YtbmoedgokimhmaaDn1
namespace Go.Proofs.Ytbmoedgokimhmaa
open Go.RowKit

theorem page_set_ne {M : DM} {i j : Nat} {p : Pg} (h : i ≠ j) : (M.set i p).page j = M.page j := by
  unfold DM.page DM.set
  rw [List.getD_eq_getElem?_getD, List.getElem?_set_ne h, List.getD_eq_getElem?_getD]
theorem page_set_self {M : DM} {i : Nat} {p : Pg} (h : i < M.ps.length) : (M.set i p).page i = p := by
  unfold DM.page DM.set
  rw [List.getD_eq_getElem?_getD, List.getElem?_set_self h]; rfl
theorem pending_nodup (M : DM) : M.pending.Nodup := by unfold DM.pending; exact List.nodup_range.filter _
theorem mtTo_page (M : DM) (picks : List Int) (i : Nat) : ∀ j, j ≤ M.pending.length → (∀ m, m < j → M.pending[m]? ≠ some i) → (mtTo M picks j).page i = M.page i
  | 0, _, _ => rfl
  | j + 1, hj, h => by
    obtain ⟨a, ha⟩ : ∃ a, M.pending[j]? = some a := ⟨_, List.getElem?_eq_getElem (by omega)⟩
    rw [← mtTo_next M picks j a ha, page_set_ne (fun e => h j (Nat.lt_succ_self j) (by rw [ha, e]))]
    exact mtTo_page M picks i j (by omega) (fun m hm => h m (by omega))
theorem mtTo_at (M : DM) (picks : List Int) (j i : Nat) (h : M.pending[j]? = some i) : (mtTo M picks j).page i = M.page i := by
  have hj : j < M.pending.length := (List.getElem?_eq_some_iff.1 h).1
  refine mtTo_page M picks i j (by omega) (fun m hm e => ?_)
  have := (List.getElem?_inj (by omega) (pending_nodup M)).1 (e.trans h.symm)
  omega
theorem settle_none {p : Pg} (c : Nat) : (p.settle c).new = none := by
  unfold Pg.settle
  cases h : p.new with
  | none => exact h
  | some l => rfl
theorem mtTo_none (M : DM) (picks : List Int) : ∀ j, j ≤ M.pending.length → ∀ i, i < M.ps.length → ((M.page i).pend = false ∨ ∃ m, m < j ∧ M.pending[m]? = some i) → ((mtTo M picks j).page i).new = none
  | 0, _, i, _, h => by
    rcases h with h | ⟨m, hm, _⟩
    · show (M.page i).new = none
      unfold Pg.pend at h
      cases hn : (M.page i).new with
      | none => rfl
      | some l => rw [hn] at h; cases h
    · omega
  | j + 1, hj, i, hi, h => by
    obtain ⟨a, ha⟩ : ∃ a, M.pending[j]? = some a := ⟨_, List.getElem?_eq_getElem (by omega)⟩
    rw [← mtTo_next M picks j a ha]
    by_cases e : a = i
    · subst e
      rw [page_set_self (by rw [mtTo_len]; exact hi)]
      exact settle_none _
    · rw [page_set_ne e]
      refine mtTo_none M picks j (by omega) i hi ?_
      rcases h with h | ⟨m, hm, hmi⟩
      · exact Or.inl h
      · refine Or.inr ⟨m, ?_, hmi⟩
        have : m ≠ j := fun e2 => by rw [e2, ha] at hmi; injection hmi with hmi; exact e hmi
        omega
theorem mount_none (M : DM) (picks : List Int) : ∀ q ∈ (M.mount picks).ps, q.new = none := by
  intro q hq
  obtain ⟨i, hi, rfl⟩ := List.mem_iff_getElem.1 hq
  have hl : (M.mount picks).ps.length = M.ps.length := mtTo_len M picks M.pending.length
  have hi' : i < M.ps.length := by omega
  have h := mtTo_none M picks M.pending.length (Nat.le_refl _) i hi' (by
    cases hp : (M.page i).pend with
    | false => exact Or.inl rfl
    | true =>
      have hm : i ∈ M.pending := by unfold DM.pending; exact List.mem_filter.2 ⟨List.mem_range.2 hi', hp⟩
      obtain ⟨m, hm1, hm2⟩ := List.mem_iff_getElem.1 hm
      exact Or.inr ⟨m, hm1, by rw [List.getElem?_eq_getElem hm1, hm2]⟩)
  have e : (mtTo M picks M.pending.length).page i = (M.mount picks).ps[i] := by
    unfold DM.page
    rw [List.getD_eq_getElem?_getD]
    show ((M.mount picks).ps[i]?).getD _ = _
    rw [List.getElem?_eq_getElem hi]; rfl
  rw [← e]; exact h
theorem image_set (M : DM) (i : Nat) (p : Pg) : (M.set i p).image = M.image.set i p.old := by unfold DM.image DM.set; rw [List.map_set]
/-- What the copy leaves: the first c bytes are the pending ones. -/
theorem pgCells_copy (L : List (List UInt8)) (hL : ∀ l ∈ L, l.length = 128) (i c : Nat) (o l : List UInt8) (h : L[i]? = some o) (ho : o.length = 128) (hl : l.length = 128) (hc : c ≤ 128) : splice (pgCells L) (i * 128) ((l.take c).map B8) = pgCells (L.set i (l.take c ++ o.drop c)) := by
  obtain ⟨A, B, h1, h2, h3⟩ := pgCells_split L hL i o h
  rw [h1, h3, ← h2]
  have hp : (o.map B8).length = 128 := by rw [List.length_map]; exact ho
  have e := splice_mid A (o.map B8) B ((l.take c).map B8) 0 (by rw [List.length_map, List.length_take, hp]; omega)
  rw [Nat.add_zero] at e
  rw [List.append_assoc, e, List.append_assoc]
  congr 2
  unfold splice
  rw [List.take_zero, List.nil_append, Nat.zero_add, List.length_map, List.length_take, hl, Nat.min_eq_left hc, List.map_append, List.map_drop]
end Go.Proofs.Ytbmoedgokimhmaa
