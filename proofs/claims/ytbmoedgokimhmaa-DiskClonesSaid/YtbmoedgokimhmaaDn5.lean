/-
  Contract of the walk over the law package's same, where both sides hold the same disk. Conditions: the records hold it.
-/
import Derived.Test.YtbmoedgokimhmaaDn4
namespace Go.Proofs.Ytbmoedgokimhmaa
open Go.RowKit

theorem S8_map (L : List (List UInt8)) : L.map S8 = (L.map fun l => (⟨l.toArray⟩ : ByteArray)).map Value.string := by rw [List.map_map]; rfl
set_option maxRecDepth 100000 in
set_option maxHeartbeats 1600000 in
theorem same_eq (gd gp gm k cp gr ga cap : Nat) (Y : List Value) (X : List Value) (M : DM) (w : World) (hM : M.ok) (h : PRep w gd gp gm cp Y M k) (hr : RRep w gr ga cap X M) :
    Calls Try.prog 20 #[.pointer (some ⟨gd, 0, none⟩), .pointer (some ⟨gr, 0, none⟩)] w fun e w' => e = .returned (.bool true) ∧ Below w.heap.size w w' := by
  have HM := Lib.hid hM
  have HN := Lib.hid hM.2.2.2
  obtain ⟨n, hn⟩ : ∃ n, Hid (M.ps.length = n) := ⟨_, rfl⟩
  obtain ⟨u, hu⟩ : ∃ u, Hid (M.up = u) := ⟨_, rfl⟩
  clear hM
  go_enter Try.func20, Try.ntmps20
  go_wp2_with fail
  (with_reducible refine (len_any gd gp gm k cp Y M _ h).mono ?_)
  rintro e w' ⟨rfl, rfl⟩
  rw [hn.out]
  go_wp2_with fail
  (with_reducible refine (rlen_any gr ga cap X M _ hr).mono ?_)
  rintro e w' ⟨rfl, rfl⟩
  rw [hn.out]
  go_wp2_with fail
  (with_reducible refine (up_any gd gp gm k cp Y M _ h).mono ?_)
  rintro e w' ⟨rfl, rfl⟩
  rw [hu.out]
  go_wp2_with fail
  (with_reducible refine (rup_any gr ga cap X M _ hr).mono ?_)
  rintro e w' ⟨rfl, rfl⟩
  rw [hu.out]
  go_wp2_with fail
  (with_reducible refine (image_any gd gp gm k cp Y M _ HM.out h).mono ?_)
  rintro e w1 ⟨gi, rfl, hB, hb1, _⟩
  have h1 := h.next hb1
  have hr1 := hr.next hb1
  clear h hr
  go_wp2_with fail
  (with_reducible refine (rimage_any gr ga cap X M _ HN.out hr1).mono ?_)
  rintro e w2 ⟨v, rfl, hown, hb2⟩
  obtain ⟨A, c, rfl⟩ := own_shape hown
  have h2 := h1.next hb2
  have hr2 := hr1.next hb2
  have hbA := below_join hb1 hb2
  have r1 := RowAt.of_blk (hB.next hb2 hB.lt)
  have r2 := RowAt.of_own hown
  rw [S8_map] at r1 r2
  have hlen : (M.image.map fun l => (⟨l.toArray⟩ : ByteArray)).length = M.ps.length := by unfold DM.image; rw [List.length_map, List.length_map]
  obtain ⟨LS, hLS⟩ : ∃ LS, Hid ((M.image.map fun l => (⟨l.toArray⟩ : ByteArray)) = LS) := ⟨_, rfl⟩
  rw [hLS.out] at r1 r2 hlen
  have HL := Lib.hid hlen
  have HL2 : Hid (LS.length ≤ 1000000) := by
    have : LS.length ≤ 1000000 := by rw [HL.out]; have := HN.out; omega
    exact this
  rw [← HL.out]
  clear h1 hr1 hB hb1 hb2 hown hlen
  go_wp2_with fail
  (with_reducible refine (sameTexts_eq _ A _ c LS _ HL2.out r1 r2).mono ?_)
  rintro e w3 ⟨rfl, hb3⟩
  have h3 := h2.next hb3
  have hr3 := hr2.next hb3
  have hbB := below_join hbA hb3
  clear h2 hr2 r1 r2 hb3 hbA
  go_wp2_with fail
  (with_reducible refine (pending_any gd gp gm k cp Y M _ HM.out h3).mono ?_)
  rintro e w4 ⟨v4, rfl, hown4, _, hb4⟩
  obtain ⟨A4, c4, rfl⟩ := own_shape hown4
  have h4 := h3.next hb4
  have hr4 := hr3.next hb4
  have hbC := below_join hbB hb4
  clear h3 hr3 hb4 hbB
  go_wp2_with fail
  (with_reducible refine (rpending_any gr ga cap X M _ HN.out hr4).mono ?_)
  rintro e w5 ⟨v5, rfl, hown5, hb5⟩
  obtain ⟨A5, c5, rfl⟩ := own_shape hown5
  have q1 : RowAt w5 A4 ((pendZ M).map (Value.int .i64)) := (RowAt.of_own hown4).next hb5
  have q2 : RowAt w5 A5 ((pendZ M).map (Value.int .i64)) := RowAt.of_own hown5
  have hbD := below_join hbC hb5
  have HP2 : Hid ((pendZ M).length ≤ 1000000) := by
    have : (pendZ M).length ≤ 1000000 := by rw [pendZ_length]; have := pending_le M; have := HN.out; omega
    exact this
  rw [← pendZ_length]
  clear h4 hr4 hown4 hown5 hb5 hbC
  go_wp2_with fail
  (with_reducible refine (sameInts_eq A4 A5 c4 c5 (pendZ M) _ HP2.out q1 q2).mono ?_)
  rintro e w6 ⟨rfl, hb6⟩
  have hbE := below_join hbD hb6
  clear q1 q2 hbD hb6
  go_wp2
  go_ret
  exact ⟨rfl, hbE⟩
end Go.Proofs.Ytbmoedgokimhmaa
