/-
  Contracts of the functions that the statement calls, part 17 of 37 (merged texts: Do4). Conditions: as the head of each part says.
-/
import Derived.Test.YthgmlopkcgkjlaaGP
import Derived.Test.YthgmlopkcgkjlaaGH
import Derived.Shelf.SlicesE.Clone
import Derived.Shelf.SlMaps.Clone

/-
  Contract of the walk over disk.Clone: the same disk in new blocks. Conditions: the record holds the disk.
-/
namespace Go.Proofs.Ythgmlopkcgkjlaa
open Go.RowKit Go.Shelf

theorem clonePg_any (gp n cp : Nat) (L : List (List UInt8)) (Y : List Value) (w : World) (hL : ∀ l ∈ L, l.length = 128) (hn : L.length = n) (h0 : 0 < n) (h4 : n ≤ 4096) (h : Blk w gp 108 (pgCells L ++ Y)) :
    Calls Try.prog 72 #[.slice (some ⟨gp, 0, none⟩) n cp] w fun e w' => ∃ g2 cap2 Y2, e = .returned (.slice (some ⟨g2, 0, none⟩) n cap2) ∧ w.heap.size ≤ g2 ∧ Blk w' g2 108 (pgCells L ++ Y2) ∧ Below w.heap.size w w' := by
  obtain ⟨i0, hi, hz0, hz1, hz2⟩ := info_parts Try.infoP
  have hlen : (pgCells L).length = n * 128 := by rw [pgCells_length L hL, hn]
  have hone : ∀ u ∈ pgCells L, u.oneCell' = true := by
    intro u hu
    obtain ⟨l, _, hl⟩ := List.mem_flatMap.1 hu
    exact B8_one l u hl
  refine (AnyE.slices_Clone Try.clonePg i0 _ 128 128 hi hz0 hz1 hz2 rfl (by omega) (fun w => by kernel_rfl) gp 0 n cp (pgCells L) w hlen (by unfold maxLen; omega) (by omega) (fun j u hu => by rw [Nat.zero_add]; exact h.cell (get_app hu)) hone).mono ?_
  rintro e w' ⟨v, rfl, hown, _, hb⟩
  obtain ⟨g2, cap2, Y2, rfl, hle, hB⟩ := own_tail hown h0
  exact ⟨g2, cap2, Y2, rfl, hle, hB, hb⟩
theorem cloneMp_any (gm k : Nat) (ps : List Pg) (w : World) (h : MapOK w gm k ps) :
    Calls Try.prog 73 #[.map (some gm)] w fun e w' => ∃ gm2, e = .returned (.map (some gm2)) ∧ w.heap.size ≤ gm2 ∧ MapOK w' gm2 k ps ∧ Below w.heap.size w w' := by
  obtain ⟨D, hown, h2⟩ := h
  refine (AnyW.maps_Clone_owns Try.cloneMp 3 pageR gm k D w hown).mono ?_
  rintro e w' ⟨rfl, ho2, _, hb⟩
  exact ⟨_, rfl, Nat.le_refl _, ⟨D, ho2, h2⟩, hb⟩
set_option maxRecDepth 100000 in
set_option maxHeartbeats 1600000 in
theorem clone_any (gd gp gm k cp : Nat) (Y : List Value) (M : DM) (w : World) (hM : M.ok) (h0 : 0 < M.ps.length) (h : PRep w gd gp gm cp Y M k) :
    Calls Try.prog 33 #[.pointer (some ⟨gd, 0, none⟩)] w fun e w' => ∃ g g2 gm2 cap2 Y2, e = .returned (.pointer (some ⟨g, 0, none⟩)) ∧ PRep w' g g2 gm2 cap2 Y2 M k ∧ Below w.heap.size w w' ∧ w.heap.size ≤ g ∧ w.heap.size ≤ g2 ∧ w.heap.size ≤ gm2 := by
  have hn4 : M.ps.length ≤ 4096 := hM.2.2.2
  obtain ⟨n, hn⟩ : ∃ n, Hid (M.ps.length = n) := ⟨_, rfl⟩
  obtain ⟨u, hu⟩ : ∃ u, Hid (M.up = u) := ⟨_, rfl⟩
  obtain ⟨t, ht⟩ : ∃ t, Hid (M.trip = t) := ⟨_, rfl⟩
  obtain ⟨L, hL⟩ : ∃ L, Hid (M.image = L) := ⟨_, rfl⟩
  have hL8 : Hid (∀ l ∈ L, l.length = 128) := by rw [← hL.out]; exact image_128 hM
  have hLn : Hid (L.length = n) := by
    have : L.length = n := by rw [← hL.out, ← hn.out]; unfold DM.image; rw [List.length_map]
    exact this
  have hdd := below_drew w
  have hd := h.next hdd
  have hD := hd.d
  have hP := hd.p
  have hm := hd.m
  rw [hn.out, hu.out, ht.out] at hD
  rw [hL.out] at hP
  rw [hn.out] at h0 hn4
  have hS0 := hD.cell (k := 0) rfl
  have hS1 := hD.cell (k := 1) rfl
  have hS2 := hD.cell (k := 2) rfl
  have hS3 := hD.cell (k := 3) rfl
  clear h hd hM
  go_enter Try.func33, Try.ntmps33
  go_wp2
  refine wp_region_held_drew (S := fun w' => w'.cell? ⟨gd, 0, none⟩ = some (.slice (some ⟨gp, 0, none⟩) n cp) ∧ w'.cell? ⟨gd, 1, none⟩ = some (.map (some gm)) ∧ w'.cell? ⟨gd, 2, none⟩ = some (.bool u) ∧ w'.cell? ⟨gd, 3, none⟩ = some (.int .i64 t)) (by kernel_rfl) ⟨hS0, hS1, hS2, hS3⟩ (fun hHeld => ?_)
  generalize w.drew = wd at hdd hHeld hD hP hm hS0 hS1 hS2 hS3 ⊢
  clear hS0 hS1 hS2 hS3
  refine wpAnyH_take (i := 0) (v := ?vv0) rfl (by kernel_rfl) (by kernel_rfl) (by kernel_rfl) (fun _ _ _ h => h) (Or.inl ⟨by rfl, ?yv0⟩) (by assumption) ?rv0
  case yv0 => intro w hSw; (try dsimp only at hSw); go_simp <;> (try with_reducible rfl)
  (try simp only [List.getElem_toArray, List.getElem_cons_zero, Act.put, List.setIfInBounds_toArray, List.set_cons_zero, List.set_cons_succ])
  refine wpAnyH_take (i := 1) (v := ?vv1) rfl (by kernel_rfl) (by kernel_rfl) (by kernel_rfl) (fun _ _ _ h => h) (Or.inl ⟨by rfl, ?yv1⟩) (by assumption) ?rv1
  case yv1 => intro w hSw; (try dsimp only at hSw); go_simp <;> (try with_reducible rfl)
  (try simp only [List.getElem_toArray, List.getElem_cons_succ, List.getElem_cons_zero, Act.put, List.setIfInBounds_toArray, List.set_cons_zero, List.set_cons_succ])
  refine wpAnyH_take (i := 2) (v := ?vv2) rfl (by kernel_rfl) (by kernel_rfl) (by kernel_rfl) (fun _ _ _ h => h) (Or.inl ⟨by rfl, ?yv2⟩) (by assumption) ?rv2
  case yv2 => intro w hSw; (try dsimp only at hSw); go_simp <;> (try with_reducible rfl)
  (try simp only [List.getElem_toArray, List.getElem_cons_succ, List.getElem_cons_zero, Act.put, List.setIfInBounds_toArray, List.set_cons_zero, List.set_cons_succ])
  refine wpAnyH_take (i := 3) (v := ?vv3) rfl (by kernel_rfl) (by kernel_rfl) (by kernel_rfl) (fun _ _ _ h => h) (Or.inl ⟨by rfl, ?yv3⟩) (by assumption) ?rv3
  case yv3 => intro w hSw; (try dsimp only at hSw); go_simp <;> (try with_reducible rfl)
  (try simp only [List.getElem_toArray, List.getElem_cons_succ, List.getElem_cons_zero, Act.put, List.setIfInBounds_toArray, List.set_cons_zero, List.set_cons_succ])
  refine wpAnyH_take (i := 5) (v := ?vv5) rfl (by kernel_rfl) (by kernel_rfl) (by kernel_rfl) (fun _ _ _ h => h) (Or.inl ⟨by rfl, ?yv5⟩) (by assumption) ?rv5
  case yv5 => intro w hSw; (try dsimp only at hSw); go_simp <;> (try with_reducible rfl)
  (try simp only [List.getElem_toArray, List.getElem_cons_succ, List.getElem_cons_zero, Act.put, List.setIfInBounds_toArray, List.set_cons_zero, List.set_cons_succ])
  refine wpAnyH_take (i := 6) (v := ?vv6) rfl (by kernel_rfl) (by kernel_rfl) (by kernel_rfl) (fun _ _ _ h => h) (Or.inl ⟨by rfl, ?yv6⟩) (by assumption) ?rv6
  case yv6 => intro w hSw; (try dsimp only at hSw); go_simp <;> (try with_reducible rfl)
  (try simp only [List.getElem_toArray, List.getElem_cons_succ, List.getElem_cons_zero, Act.put, List.setIfInBounds_toArray, List.set_cons_zero, List.set_cons_succ])
  refine wpAnyH_take (i := 7) (v := ?vv7) rfl (by kernel_rfl) (by kernel_rfl) (by kernel_rfl) (fun _ _ _ h => h) (Or.inl ⟨by rfl, ?yv7⟩) (by assumption) ?rv7
  case yv7 => intro w hSw; (try dsimp only at hSw); go_simp <;> (try with_reducible rfl)
  (try simp only [List.getElem_toArray, List.getElem_cons_succ, List.getElem_cons_zero, Act.put, List.setIfInBounds_toArray, List.set_cons_zero, List.set_cons_succ])
  refine wpAnyH_take (i := 8) (v := ?vv8) rfl (by kernel_rfl) (by kernel_rfl) (by kernel_rfl) (fun _ _ _ h => h) (Or.inl ⟨by rfl, ?yv8⟩) (by assumption) ?rv8
  case yv8 => intro w hSw; (try dsimp only at hSw); go_simp <;> (try with_reducible rfl)
  (try simp only [List.getElem_toArray, List.getElem_cons_succ, List.getElem_cons_zero, Act.put, List.setIfInBounds_toArray, List.set_cons_zero, List.set_cons_succ])
  refine wpAnyH_take (i := 10) (v := ?vv10) rfl (by kernel_rfl) (by kernel_rfl) (by kernel_rfl) (fun _ _ _ h => h) (Or.inl ⟨by rfl, ?yv10⟩) (by assumption) ?rv10
  case yv10 => intro w hSw; (try dsimp only at hSw); go_simp <;> (try with_reducible rfl)
  (try simp only [List.getElem_toArray, List.getElem_cons_succ, List.getElem_cons_zero, Act.put, List.setIfInBounds_toArray, List.set_cons_zero, List.set_cons_succ])
  refine wpAnyH_take (i := 11) (v := ?vv11) rfl (by kernel_rfl) (by kernel_rfl) (by kernel_rfl) (fun _ _ _ h => h) (Or.inl ⟨by rfl, ?yv11⟩) (by assumption) ?rv11
  case yv11 => intro w hSw; (try dsimp only at hSw); go_simp <;> (try with_reducible rfl)
  (try simp only [List.getElem_toArray, List.getElem_cons_succ, List.getElem_cons_zero, Act.put, List.setIfInBounds_toArray, List.set_cons_zero, List.set_cons_succ])
  refine wpAnyH_take (i := 12) (v := ?vv12) rfl (by kernel_rfl) (by kernel_rfl) (by kernel_rfl) (fun _ _ _ h => h) (Or.inl ⟨by rfl, ?yv12⟩) (by assumption) ?rv12
  case yv12 => intro w hSw; (try dsimp only at hSw); go_simp <;> (try with_reducible rfl)
  (try simp only [List.getElem_toArray, List.getElem_cons_succ, List.getElem_cons_zero, Act.put, List.setIfInBounds_toArray, List.set_cons_zero, List.set_cons_succ])
  refine wpAnyH_take (i := 13) (v := ?vv13) rfl (by kernel_rfl) (by kernel_rfl) (by kernel_rfl) (fun _ _ _ h => h) (Or.inl ⟨by rfl, ?yv13⟩) (by assumption) ?rv13
  case yv13 => intro w hSw; (try dsimp only at hSw); go_simp <;> (try with_reducible rfl)
  (try simp only [List.getElem_toArray, List.getElem_cons_succ, List.getElem_cons_zero, Act.put, List.setIfInBounds_toArray, List.set_cons_zero, List.set_cons_succ])
  refine wpAnyH_take (i := 14) (v := ?vv14) rfl (by kernel_rfl) (by kernel_rfl) (by kernel_rfl) (fun _ _ _ h => h) (Or.inl ⟨by rfl, ?yv14⟩) (by assumption) ?rv14
  case yv14 => intro w hSw; (try dsimp only at hSw); go_simp <;> (try with_reducible rfl)
  (try simp only [List.getElem_toArray, List.getElem_cons_succ, List.getElem_cons_zero, Act.put, List.setIfInBounds_toArray, List.set_cons_zero, List.set_cons_succ])
  refine wpAnyH_take (i := 15) (v := ?vv15) rfl (by kernel_rfl) (by kernel_rfl) (by kernel_rfl) (fun _ _ _ h => h) (Or.inl ⟨by rfl, ?yv15⟩) (by assumption) ?rv15
  case yv15 => intro w hSw; (try dsimp only at hSw); go_simp <;> (try with_reducible rfl)
  (try simp only [List.getElem_toArray, List.getElem_cons_succ, List.getElem_cons_zero, Act.put, List.setIfInBounds_toArray, List.set_cons_zero, List.set_cons_succ])
  refine wpAnyH_take (i := 16) (v := ?vv16) rfl (by kernel_rfl) (by kernel_rfl) (by kernel_rfl) (fun _ _ _ h => h) (Or.inl ⟨by rfl, ?yv16⟩) (by assumption) ?rv16
  case yv16 => intro w hSw; (try dsimp only at hSw); go_simp <;> (try with_reducible rfl)
  (try simp only [List.getElem_toArray, List.getElem_cons_succ, List.getElem_cons_zero, Act.put, List.setIfInBounds_toArray, List.set_cons_zero, List.set_cons_succ])
  refine wpAnyH_take (i := 17) (v := ?vv17) rfl (by kernel_rfl) (by kernel_rfl) (by kernel_rfl) (fun _ _ _ h => h) (Or.inl ⟨by rfl, ?yv17⟩) (by assumption) ?rv17
  case yv17 => intro w hSw; (try dsimp only at hSw); go_simp <;> (try with_reducible rfl)
  (try simp only [List.getElem_toArray, List.getElem_cons_succ, List.getElem_cons_zero, Act.put, List.setIfInBounds_toArray, List.set_cons_zero, List.set_cons_succ])
  refine wpAnyH_ready (rs := [4]) (by kernel_rfl) (by simp) ?_
  refine AllReadyH.cons rfl (fun K hK => ?_) AllReadyH.nil
  go_simp
  go_wp2_with fail
  (with_reducible refine (clonePg_any gp n cp L Y _ hL8.out hLn.out h0 hn4 hP).mono ?_)
  rintro e wA ⟨g2, cap2, Y2, rfl, hle2, hgA, hbA⟩
  have hDA := hD.next hbA hD.lt
  have hmA := hm.only (Only.of_below (L := []) hbA) (by simp)
  refine hK.out _ _ ⟨hDA.cell (k := 0) rfl, hDA.cell (k := 1) rfl, hDA.cell (k := 2) rfl, hDA.cell (k := 3) rfl⟩ (fun hHeld => ?_)
  clear hK K
  refine wpAnyH_ready (rs := [9]) (by kernel_rfl) (by simp) ?_
  refine AllReadyH.cons rfl (fun K hK => ?_) AllReadyH.nil
  go_simp
  go_wp2_with fail
  (with_reducible refine (cloneMp_any gm k M.ps _ hmA).mono ?_)
  rintro e wZ ⟨gm2, rfl, hle3', hmZ, hbB⟩
  have hDB := hDA.next hbB hDA.lt
  refine hK.out _ _ ⟨hDB.cell (k := 0) rfl, hDB.cell (k := 1) rfl, hDB.cell (k := 2) rfl, hDB.cell (k := 3) rfl⟩ (fun hHeld => ?_)
  clear hK K hDB
  have hle3 : wd.heap.size ≤ gm2 := Nat.le_trans hbA.size hle3'
  have hne3 : g2 ≠ gm2 := fun e => by have := hgA.lt; omega
  have hbZ := below_join hbA hbB
  have hgZ := hgA.next hbB hgA.lt
  clear hDA hmA hgA hbA hbB hle3'
  have hDZ : Blk wZ gd 105 [.slice (some ⟨gp, 0, none⟩) n cp, .map (some gm), .bool u, .int .i64 t] := hD.next hbZ hD.lt
  refine wpAnyH_take (i := 18) (v := ?vv18) rfl (by kernel_rfl) (by kernel_rfl) (by kernel_rfl) (fun _ _ _ h => h) (Or.inl ⟨by rfl, ?yv18⟩) (by assumption) ?rv18
  case yv18 => intro w hSw; (try dsimp only at hSw); go_simp <;> (try with_reducible rfl)
  (try simp only [List.getElem_toArray, List.getElem_cons_succ, List.getElem_cons_zero, Act.put, List.setIfInBounds_toArray, List.set_cons_zero, List.set_cons_succ])
  refine wpAnyH_ready (rs := [19]) (by kernel_rfl) (by simp) ?_
  refine AllReadyH.cons rfl (fun K hK => ?_) AllReadyH.nil
  go_simp
  obtain ⟨cs, hcs⟩ : ∃ cs : Obj, Hid (Obj.cells #[.slice (some ⟨g2, 0, none⟩) n cap2, .map (some gm2), .bool u, .int .i64 t] 105 = cs) := ⟨_, rfl⟩
  have hbN : Below wZ.heap.size wZ (wZ.alloc cs) := (Below.refl _ _).alloc (Nat.le_refl _) _
  have hDN : Blk (wZ.alloc cs) wZ.heap.size 105 [.slice (some ⟨g2, 0, none⟩) n cap2, .map (some gm2), .bool u, .int .i64 t] := by
    unfold Blk
    rw [heap_alloc_new, ← hcs.out]
  have hne1 : wZ.heap.size ≠ g2 := fun e => by have := hgZ.lt; omega
  have hne2 : wZ.heap.size ≠ gm2 := fun e => by have := hmZ.lt; omega
  have hR : PRep (wZ.alloc cs) wZ.heap.size g2 gm2 cap2 Y2 M k := ⟨by rw [hn.out, hu.out, ht.out]; exact hDN, by rw [hL.out]; exact hgZ.next hbN hgZ.lt, hmZ.only (Only.of_below (L := []) hbN) (by simp), hne1, hne2, hne3⟩
  have hbA : Below w.heap.size w (wZ.alloc cs) := below_join hdd (below_join hbZ hbN)
  have hl1 : w.heap.size ≤ wZ.heap.size := Nat.le_trans hdd.size hbZ.size
  have hl2 : w.heap.size ≤ g2 := Nat.le_trans hdd.size hle2
  have hl3 : w.heap.size ≤ gm2 := Nat.le_trans hdd.size hle3
  have hDY := hDZ.next hbN hDZ.lt
  rw [hcs.out]
  refine hK.out _ _ ⟨hDY.cell (k := 0) rfl, hDY.cell (k := 1) rfl, hDY.cell (k := 2) rfl, hDY.cell (k := 3) rfl⟩ (fun hHeld => ?_)
  clear hK K hDN hgZ hmZ hbZ hbN hDZ
  refine wpAnyH_ready (rs := [20]) (by kernel_rfl) (by simp) ?_
  refine AllReadyH.cons rfl (fun K hK => ?_) AllReadyH.nil
  go_simp
  refine hK.out _ _ hHeld (fun _ => ?_)
  clear hK K
  refine wpAnyH_done (by kernel_rfl) ?_ _
  go_wp2
  go_ret
  exact ⟨_, _, _, _, _, rfl, hR, hbA, hl1, hl2, hl3⟩
end Go.Proofs.Ythgmlopkcgkjlaa
