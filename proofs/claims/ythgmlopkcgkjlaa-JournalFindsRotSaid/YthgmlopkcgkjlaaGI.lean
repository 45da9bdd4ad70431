/-
  Contracts of the functions that the statement calls, part 9 of 37 (merged texts: Df9). Conditions: as the head of each part says.
-/
import Derived.Test.YthgmlopkcgkjlaaGG
import Derived.Test.YthgmlopkcgkjlaaGH
import Derived.Shelf.SlIterI.Nil
import Derived.Shelf.SortM.Plain
import Derived.Shelf.SortM.SortNone

/-
  Contract of the walk over disk.Pending: the numbers of the pending pages, in order. Conditions: the record holds the disk.
-/
namespace Go.Proofs.Ythgmlopkcgkjlaa
open Go.RowKit Go.Maps Go.Sort Go.Shelf

theorem Try.sortsA (m : Nat) : AnyZI.SortsIn Try.prog Try.sortedA_ren Fence.wide m :=
  ⟨fun blk off cap ss W hH hblk hsz => callsIn_wide.2 (AnyM.slices_Sort_int Try.sortA blk off cap ss W hH hblk hsz),
   fun p cap W => callsIn_wide.2 (AnyM.slices_Sort_int_none Try.sortA p cap W)⟩
set_option maxRecDepth 100000 in
set_option maxHeartbeats 1600000 in
theorem pending_any (gd gp gm k cp : Nat) (Y : List Value) (M : DM) (w : World) (hM : M.ok) (h : PRep w gd gp gm cp Y M k) :
    Calls Try.prog 30 #[.pointer (some ⟨gd, 0, none⟩)] w fun e w' => ∃ v, e = .returned v ∧ w'.ownsRow w.heap.size 3 1 v M.pending.length ((pendZ M).map encZ) ∧ (v = .slice none 0 0 ↔ M.pending = []) ∧ Below w.heap.size w w' := by
  have hn4 : M.ps.length ≤ 4096 := hM.2.2.2
  have hpl := pending_le M
  obtain ⟨D, hown, hIs, hD1, hD2⟩ := h.m
  obtain ⟨hperm, hsize⟩ := pend_perm hown (mem_pendZ hD1 hD2)
  have hbl := hown.lt
  have c1 := h.d.cell (k := 1) rfl
  refine (callsIn_wide (n := 6)).1 ?_
  have hmax : Maps.size D ≤ maxLen := by unfold maxLen; omega
  have hbytes : Maps.size D * 8 ≤ 140737488355328 := by omega
  have hseq : SeqGives Fence.wide 2 Try.prog 90 #[.pointer (some ⟨w.heap.size, 0, none⟩)] encZ (fun ss => ss.Perm (intKeys D)) (Maps.size D) (w.alloc (.cells #[.map (some gm)] 103)) :=
    AnyZI.keys_gives (ρ := Try.keysA_ren) { Try.keysA with } Fence.wide _ trivial rfl (by omega) w.heap.size gm k D _ (by simp) (by simp) (by
      obtain ⟨es, clock, hb, Ft, hs, hD⟩ := hown
      exact ⟨es, clock, (Below.heap_alloc _ _ gm hbl).trans hb, Ft, hs, hD⟩)
  have cK : ∀ mb W, CallsIn Fence.wide 5 Try.prog 71 #[.map mb] W fun e w' => e = .returned (.func (.func 90) #[] #[.pointer (some ⟨W.heap.size, 0, none⟩)]) ∧ w' = W.alloc (.cells #[.map mb] 103) := fun mb W => AnyZI.keys_in Try.keysA Fence.wide 5 trivial rfl mb W
  have cS := AnyZI.sorted_in Try.sortedA Fence.wide 5 trivial trivial trivial trivial rfl (by omega) (Try.sortsA _) (enters_of Try.func89 (by kernel_rfl) rfl) 90 #[.pointer (some ⟨w.heap.size, 0, none⟩)] trivial (enters_of Try.func90 (by kernel_rfl) rfl) _ _ hmax hbytes _ hseq
  change CallsIn _ _ Try.prog 70 _ _ _ at cS
  have hfK : Fence.wide.fn 71 := trivial
  have hfS : Fence.wide.fn 70 := trivial
  clear hD1 hD2 hIs
  refine callsIn_of_wp Try.func30 rfl trivial ?_ rfl
  simp only [Try.ntmps30, List.size_toArray, List.length_cons, List.length_nil, Nat.reduceAdd, Nat.reduceSub, Array.replicate_succ, Array.replicate_zero, List.push_toArray, List.append_toArray, List.nil_append, List.cons_append]
  gi_wp2_with (first
    | (gi_at_call 71; refine (cK _ _).mono ?_; rintro e w' ⟨rfl, rfl⟩)
    | (gi_at_call 70; refine cS.mono ?_; rintro e w' ⟨v, ss, rfl, hS, hrow, hnil, hb⟩))
  go_ret
  have hsort := pend_sort hS hperm
  have hlen : ss.length = M.pending.length := by
    have := congrArg List.length hsort
    rw [List.length_mergeSort] at this
    unfold pendZ at this
    rw [List.length_map] at this
    exact this
  rw [hsort, hlen] at hrow
  exact ⟨v, rfl, ownsRow_base_a hrow (by simp), by rw [hnil, ← List.length_eq_zero_iff, hlen, List.length_eq_zero_iff], ((Below.refl _ w).alloc (Nat.le_refl _) _).trans (hb.mono (by simp))⟩
end Go.Proofs.Ythgmlopkcgkjlaa
