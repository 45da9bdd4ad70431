/-
  Contracts of the functions that the statement calls, part 7 of 37 (merged texts: Df8). Conditions: as the head of each part says.
-/
import Derived.Test.YthgmlopkcgkjlaaGF
import Derived.Shelf.SlIterI.Nil

/-
  The numbers of the pending pages in order, and the keys of the map. Conditions: none.
-/
namespace Go.Proofs.Ythgmlopkcgkjlaa
open Go.RowKit Go.Maps Go.Sort Go.Shelf

def pendZ (M : DM) : List Int := M.pending.map Int.ofNat
theorem pending_lt {M : DM} {i : Nat} (h : i ∈ M.pending) : i < M.ps.length := List.mem_range.1 (List.mem_filter.1 h).1
theorem pending_pend {M : DM} {i : Nat} (h : i ∈ M.pending) : (M.page i).pend = true := by
  unfold DM.pending at h
  exact (List.mem_filter.1 h).2
theorem pendZ_nodup (M : DM) : (pendZ M).Nodup := by
  unfold pendZ DM.pending
  refine List.pairwise_map.2 ((List.nodup_range.filter _).imp fun h e => h (Int.ofNat.inj e))
theorem pendZ_sorted (M : DM) : (pendZ M).Pairwise fun x y => decide (x ≤ y) = true := by
  unfold pendZ DM.pending
  refine List.pairwise_map.2 ((List.pairwise_lt_range.filter _).imp fun h => decide_eq_true (Int.ofNat_le.2 (Nat.le_of_lt h)))
theorem mem_pendZ {M : DM} {D : DataW Unit} (h1 : ∀ i p, M.ps[i]? = some p → (∀ l, p.new = some l → ∀ z, D.atKey (kInt i) z = .lit (.string l)) ∧ (p.new = none → Maps.has D (kInt i) = false)) (h2 : ∀ kl, Maps.has D kl = true → ∃ i : Nat, i < M.ps.length ∧ kl = kInt i) (x : Int) :
    x ∈ pendZ M ↔ Maps.has D (.int .i64 x) = true := by
  unfold pendZ
  rw [List.mem_map]
  constructor
  · rintro ⟨i, hi, rfl⟩
    have hp := pending_pend hi
    have := (h1 i _ (DM.page_at (pending_lt hi))).1
    unfold Pg.pend at hp
    cases hn : (M.page i).new with
    | none => rw [hn] at hp; cases hp
    | some l => exact Maps.has_true_of_atKey (this l hn)
  · intro h
    obtain ⟨i, hi, hx⟩ := h2 _ h
    have hxi : x = (i : Int) := by unfold kInt at hx; injection hx
    refine ⟨i, ?_, hxi.symm⟩
    unfold DM.pending
    refine List.mem_filter.2 ⟨List.mem_range.2 hi, ?_⟩
    have hno := (h1 i _ (DM.page_at hi)).2
    unfold Pg.pend
    cases hn : (M.page i).new with
    | some l => rfl
    | none =>
      have := hno hn
      rw [← hx, h] at this
      cases this
theorem pend_perm {w : World} {gm k : Nat} {M : DM} {D : DataW Unit} (hown : w.ownsMap Try.prog 3 pageR gm k D) (hm : ∀ x, x ∈ pendZ M ↔ Maps.has D (.int .i64 x) = true) : (pendZ M).Perm (intKeys D) ∧ Maps.size D = M.pending.length := by
  obtain ⟨es, hD, hpw, _⟩ := hown.entries keyedI
  obtain ⟨es', hD', hko⟩ := hown.keysOf
  obtain rfl : es = es' := by rw [hD] at hD'; simpa using hD'
  subst hD
  have hp := perm_intKeys hpw (fun p hp => by obtain ⟨v, hv⟩ := hko p hp; obtain ⟨x, _, hx, _⟩ := Maps.keyOf_i64 Try.underlying3 hv; exact ⟨x, hx⟩) (pendZ_nodup M) hm
  refine ⟨hp, ?_⟩
  have h1 := hp.length_eq
  have h2 : (intKeys (.map es)).length = es.length := by show (es.map fun p => intOf p.1).length = es.length; rw [List.length_map]
  have h3 : (pendZ M).length = M.pending.length := by unfold pendZ; rw [List.length_map]
  rw [Maps.size_eq]
  omega
theorem pend_sort {M : DM} {ss l : List Int} (h : ss.Perm l) (h2 : (pendZ M).Perm l) : ss.mergeSort (fun x y => decide (x ≤ y)) = pendZ M := by
  have e := mergeSort_of_perm_i (h.trans h2.symm)
  rw [e]
  exact List.mergeSort_of_pairwise (pendZ_sorted M)
theorem pending_le (M : DM) : M.pending.length ≤ M.ps.length := by
  unfold DM.pending
  exact Nat.le_trans (List.length_filter_le _ _) (Nat.le_of_eq List.length_range)
end Go.Proofs.Ythgmlopkcgkjlaa
