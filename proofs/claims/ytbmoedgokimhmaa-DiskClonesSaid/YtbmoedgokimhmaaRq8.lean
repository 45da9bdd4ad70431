/-
  Contract of the walk over the reference's Clone. Conditions: the record holds the disk; it has a page.
-/
import Derived.Test.YtbmoedgokimhmaaRq7
namespace Go.Proofs.Ytbmoedgokimhmaa
open Go.RowKit

theorem Try.infoRP : (Try.prog.info? 53).map (fun i => (i.zero, i.size, i.bytes)) = some (some (.agg #[.string ⟨#[]⟩, .string ⟨#[]⟩, .bool false]), 3, 40) := by kernel_rfl
theorem pg3_one (p : Pg) : ∀ u ∈ pg3 p, u.oneCell' = true := one_cell3 rfl rfl rfl
theorem pgRow_one (ps : List Pg) : ∀ u ∈ pgRow ps, u.oneCell' = true := by
  intro u hu
  obtain ⟨p, _, hp⟩ := List.mem_flatMap.1 hu
  exact pg3_one p u hp
theorem own_tail {w : World} {base size n : Nat} {E : TypeId} {v : Value} {xs : List Value} (h : w.ownsRow base E size v n xs) (hn : 0 < n) : ∃ g cap Y, v = .slice (some ⟨g, 0, none⟩) n cap ∧ base ≤ g ∧ Blk w g E (xs ++ Y) := by
  rcases h.2 with ⟨_, h0⟩ | ⟨g, cap, cur, rfl, hb, hgg, _, _, _, ht⟩
  · omega
  · refine ⟨g, cap, cur.toList.drop (n * size), rfl, hb, ?_⟩
    unfold Blk
    rw [hgg, ← ht, List.take_append_drop]
/-- A disk that is like M lies behind the address, in new blocks. -/
def NewR (w : World) (M : DM) (v : Value) (w' : World) : Prop := ∃ g g2 cap2 Y, v = .pointer (some ⟨g, 0, none⟩) ∧ RRep w' g g2 cap2 Y M ∧ Below w.heap.size w w' ∧ w.heap.size ≤ g ∧ w.heap.size ≤ g2
set_option maxRecDepth 100000 in
set_option maxHeartbeats 1600000 in
theorem rclone_any (gr ga cap : Nat) (X : List Value) (M : DM) (w : World) (hM : M.ok) (h0 : 0 < M.ps.length) (h : RRep w gr ga cap X M) :
    Calls Try.prog 34 #[.pointer (some ⟨gr, 0, none⟩)] w fun e w' => ∃ v, e = .returned v ∧ NewR w M v w' := by
  obtain ⟨i0, hi, hz0, hz1, hz2⟩ := info_parts Try.infoRP
  have hn4 : M.ps.length ≤ 4096 := hM.2.2.2
  obtain ⟨n, hn⟩ : ∃ n, Hid (M.ps.length = n) := ⟨_, rfl⟩
  obtain ⟨u, hu⟩ : ∃ u, Hid ((!M.up) = u) := ⟨_, rfl⟩
  obtain ⟨t, ht⟩ : ∃ t, Hid (M.trip = t) := ⟨_, rfl⟩
  have hdd := below_drew w
  have hd := h.next hdd
  have hD := hd.d
  have hP := hd.p
  rw [hn.out, hu.out, ht.out] at hD
  rw [hn.out] at h0 hn4
  have hS0 := hD.cell (k := 0) rfl
  have hS1 := hD.cell (k := 1) rfl
  have hS2 := hD.cell (k := 2) rfl
  have hgs := h.d.lt
  have hlen : (pgRow M.ps).length = n * 3 := by rw [pgRow_length, hn.out]
  have HL := Lib.hid hlen
  have hone := pgRow_one M.ps
  obtain ⟨L, hL⟩ : ∃ L, Hid (pgRow M.ps = L) := ⟨_, rfl⟩
  rw [hL.out] at hP HL hone
  have hcells : ∀ j u, L[j]? = some u → w.drew.cell? ((⟨ga, 0, none⟩ : Addr).add j) = some u := fun j u hu => by
    rw [addr_mid, Nat.zero_add]
    exact hP.cell (by rw [List.getElem?_append_left (List.getElem?_eq_some_iff.1 hu).1]; exact hu)
  clear h hd hD hP hlen hM
  go_enter Try.func34, Try.ntmps34
  go_wp2
  refine wp_region_held_drew (S := fun w' => w'.cell? ⟨gr, 0, none⟩ = some (.slice (some ⟨ga, 0, none⟩) n cap) ∧ w'.cell? ⟨gr, 1, none⟩ = some (.bool u) ∧ w'.cell? ⟨gr, 2, none⟩ = some (.int .i64 t)) (by kernel_rfl) ⟨hS0, hS1, hS2⟩ (fun hHeld => ?_)
  generalize w.drew = wd at hdd hHeld hS0 hS1 hS2 hcells ⊢
  refine wpAnyH_take (i := 0) (v := ?vv0) rfl (by kernel_rfl) (by kernel_rfl) (by kernel_rfl) (fun _ _ _ h => h) (Or.inl ⟨by rfl, ?yv0⟩) (by assumption) ?rv0
  case yv0 => intro w hSw; (try dsimp only at hSw); go_simp <;> (try with_reducible rfl)
  (try simp only [List.getElem_toArray, List.getElem_cons_zero, Act.put, List.setIfInBounds_toArray, List.set_cons_zero, List.set_cons_succ])
  refine wpAnyH_take (i := 1) (v := ?vv1) rfl (by kernel_rfl) (by kernel_rfl) (by kernel_rfl) (fun _ _ _ h => h) (Or.inl ⟨by rfl, ?yv1⟩) (by assumption) ?rv1
  case yv1 => intro w hSw; (try dsimp only at hSw); go_simp <;> (try with_reducible rfl)
  (try simp only [List.getElem_toArray, List.getElem_cons_succ, List.getElem_cons_zero, Act.put, List.setIfInBounds_toArray, List.set_cons_zero, List.set_cons_succ])
  refine wpAnyH_take (i := 2) (v := ?vv2) rfl (by kernel_rfl) (by kernel_rfl) (by kernel_rfl) (fun _ _ _ h => h) (Or.inl ⟨by rfl, ?yv2⟩) (by assumption) ?rv2
  case yv2 => intro w hSw; (try dsimp only at hSw); go_simp <;> (try with_reducible rfl)
  (try simp only [List.getElem_toArray, List.getElem_cons_succ, List.getElem_cons_zero, Act.put, List.setIfInBounds_toArray, List.set_cons_zero, List.set_cons_succ])
  refine wpAnyH_take (i := 3) (v := ?vv3) rfl (by kernel_rfl) (by kernel_rfl) (by kernel_rfl) (fun _ _ _ h => h) (Or.inl ⟨by rfl, ?yv3⟩) (by assumption) ?rv3
  case yv3 => intro w hSw; (try dsimp only at hSw); go_simp <;> (try with_reducible rfl)
  (try simp only [List.getElem_toArray, List.getElem_cons_succ, List.getElem_cons_zero, Act.put, List.setIfInBounds_toArray, List.set_cons_zero, List.set_cons_succ])
  refine wpAnyH_take (i := 4) (v := ?vv4) rfl (by kernel_rfl) (by kernel_rfl) (by kernel_rfl) (fun _ _ _ h => h) (Or.inl ⟨by rfl, ?yv4⟩) (by assumption) ?rv4
  case yv4 => intro w hSw; (try dsimp only at hSw); go_simp <;> (try with_reducible rfl)
  (try simp only [List.getElem_toArray, List.getElem_cons_succ, List.getElem_cons_zero, Act.put, List.setIfInBounds_toArray, List.set_cons_zero, List.set_cons_succ])
  refine wpAnyH_take (i := 6) (v := ?vv6) rfl (by kernel_rfl) (by kernel_rfl) (by kernel_rfl) (fun _ _ _ h => h) (Or.inl ⟨by rfl, ?yv6⟩) (by assumption) ?rv6
  case yv6 => intro w hSw; (try dsimp only at hSw); go_simp <;> (try with_reducible rfl)
  (try simp only [List.getElem_toArray, List.getElem_cons_succ, List.getElem_cons_zero, Act.put, List.setIfInBounds_toArray, List.set_cons_zero, List.set_cons_succ])
  refine wpAnyH_take (i := 7) (v := ?vv7) rfl (by kernel_rfl) (by kernel_rfl) (by kernel_rfl) (fun _ _ _ h => h) (Or.inl ⟨by rfl, ?yv7⟩) (by assumption) ?rv7
  case yv7 => intro w hSw; (try dsimp only at hSw); go_simp <;> (try with_reducible rfl)
  (try simp only [List.getElem_toArray, List.getElem_cons_succ, List.getElem_cons_zero, Act.put, List.setIfInBounds_toArray, List.set_cons_zero, List.set_cons_succ])
  refine wpAnyH_take (i := 8) (v := ?vv8) rfl (by kernel_rfl) (by kernel_rfl) (by kernel_rfl) (fun _ _ _ h => h) (Or.inl ⟨by rfl, ?yv8⟩) (by assumption) ?rv8
  case yv8 => intro w hSw; (try dsimp only at hSw); go_simp <;> (try with_reducible rfl)
  (try simp only [List.getElem_toArray, List.getElem_cons_succ, List.getElem_cons_zero, Act.put, List.setIfInBounds_toArray, List.set_cons_zero, List.set_cons_succ])
  refine wpAnyH_take (i := 9) (v := ?vv9) rfl (by kernel_rfl) (by kernel_rfl) (by kernel_rfl) (fun _ _ _ h => h) (Or.inl ⟨by rfl, ?yv9⟩) (by assumption) ?rv9
  case yv9 => intro w hSw; (try dsimp only at hSw); go_simp <;> (try with_reducible rfl)
  (try simp only [List.getElem_toArray, List.getElem_cons_succ, List.getElem_cons_zero, Act.put, List.setIfInBounds_toArray, List.set_cons_zero, List.set_cons_succ])
  refine wpAnyH_take (i := 10) (v := ?vv10) rfl (by kernel_rfl) (by kernel_rfl) (by kernel_rfl) (fun _ _ _ h => h) (Or.inl ⟨by rfl, ?yv10⟩) (by assumption) ?rv10
  case yv10 => intro w hSw; (try dsimp only at hSw); go_simp <;> (try with_reducible rfl)
  (try simp only [List.getElem_toArray, List.getElem_cons_succ, List.getElem_cons_zero, Act.put, List.setIfInBounds_toArray, List.set_cons_zero, List.set_cons_succ])
  refine wpAnyH_take (i := 11) (v := ?vv11) rfl (by kernel_rfl) (by kernel_rfl) (by kernel_rfl) (fun _ _ _ h => h) (Or.inl ⟨by rfl, ?yv11⟩) (by assumption) ?rv11
  case yv11 => intro w hSw; (try dsimp only at hSw); go_simp <;> (try with_reducible rfl)
  (try simp only [List.getElem_toArray, List.getElem_cons_succ, List.getElem_cons_zero, Act.put, List.setIfInBounds_toArray, List.set_cons_zero, List.set_cons_succ])
  refine wpAnyH_take (i := 12) (v := ?vv12) rfl (by kernel_rfl) (by kernel_rfl) (by kernel_rfl) (fun _ _ _ h => h) (Or.inl ⟨by rfl, ?yv12⟩) (by assumption) ?rv12
  case yv12 => intro w hSw; (try dsimp only at hSw); go_simp <;> (try with_reducible rfl)
  (try simp only [List.getElem_toArray, List.getElem_cons_succ, List.getElem_cons_zero, Act.put, List.setIfInBounds_toArray, List.set_cons_zero, List.set_cons_succ])
  refine wpAnyH_take (i := 13) (v := ?vv13) rfl (by kernel_rfl) (by kernel_rfl) (by kernel_rfl) (fun _ _ _ h => h) (Or.inl ⟨by rfl, ?yv13⟩) (by assumption) ?rv13
  case yv13 => intro w hSw; (try dsimp only at hSw); go_simp <;> (try with_reducible rfl)
  (try simp only [List.getElem_toArray, List.getElem_cons_succ, List.getElem_cons_zero, Act.put, List.setIfInBounds_toArray, List.set_cons_zero, List.set_cons_succ])
  refine wpAnyH_ready (rs := [5]) (by kernel_rfl) (by simp) ?_
  refine AllReadyH.cons rfl (fun K hK => ?_) AllReadyH.nil
  rw [if_pos (by rfl)]
  refine wp_append_own (P := Try.prog) _ (.tmp 4) (.tmp 8) 54 rfl wd.heap.size 53 i0 _ 3 40 Try.underlying54 hi hz0 hz1 hz2 rfl (by decide) (.slice none 0 0) 0 [] rfl (World.ownsRow_nil _ _ _ _) ⟨ga, 0, none⟩ n cap L rfl (by rw [HL.out]) hcells hone (by unfold maxLen; omega) (by omega) (Nat.le_refl _) ?_
  intro v1 w1 hown1 hg1 _
  rw [Nat.zero_add, List.nil_append] at hown1
  have hb1 : Below wd.heap.size wd w1 := (Below.refl _ _).grown hg1 (Nat.le_refl _) (fun k hk => by cases hk)
  obtain ⟨g2, cap2, Y, rfl, hle2, hB1⟩ := own_tail hown1 h0
  have hgd : gr < wd.heap.size := Nat.lt_of_lt_of_le hgs hdd.size
  have hT0 := (hb1.cell (p := ⟨gr, 0, none⟩) hgd).trans hS0
  have hT1 := (hb1.cell (p := ⟨gr, 1, none⟩) hgd).trans hS1
  have hT2 := (hb1.cell (p := ⟨gr, 2, none⟩) hgd).trans hS2
  refine hK.out _ _ ⟨hT0, hT1, hT2⟩ (fun hHeld => ?_)
  clear hK K hS0 hS1 hS2 hown1 hg1
  refine wpAnyH_take (i := 14) (v := ?vv14) rfl (by kernel_rfl) (by kernel_rfl) (by kernel_rfl) (fun _ _ _ h => h) (Or.inl ⟨by rfl, ?yv14⟩) (by assumption) ?rv14
  case yv14 => intro w hSw; (try dsimp only at hSw); go_simp <;> (try with_reducible rfl)
  (try simp only [List.getElem_toArray, List.getElem_cons_succ, List.getElem_cons_zero, Act.put, List.setIfInBounds_toArray, List.set_cons_zero, List.set_cons_succ])
  refine wpAnyH_ready (rs := [15]) (by kernel_rfl) (by simp) ?_
  refine AllReadyH.cons rfl (fun K hK => ?_) AllReadyH.nil
  go_simp
  obtain ⟨cs, hcs⟩ : ∃ cs : Obj, Hid (Obj.cells #[.slice (some ⟨g2, 0, none⟩) n cap2, .bool u, .int .i64 t] 56 = cs) := ⟨_, rfl⟩
  have hb2 : Below w1.heap.size w1 (w1.alloc cs) := (Below.refl _ _).alloc (Nat.le_refl _) _
  have hgd1 : gr < w1.heap.size := Nat.lt_of_lt_of_le hgd hb1.size
  have hD2 : Blk (w1.alloc cs) w1.heap.size 56 [.slice (some ⟨g2, 0, none⟩) n cap2, .bool u, .int .i64 t] := by
    unfold Blk
    rw [heap_alloc_new, ← hcs.out]
  have hB2 := hB1.next hb2 hB1.lt
  have hne : w1.heap.size ≠ g2 := fun e => by have := hB1.lt; omega
  have hR : RRep (w1.alloc cs) w1.heap.size g2 cap2 Y M := ⟨by rw [hn.out, hu.out, ht.out]; exact hD2, by rw [hL.out]; exact hB2, hne⟩
  have hbA : Below w.heap.size w (w1.alloc cs) := below_join hdd (below_join hb1 hb2)
  have hl1 : w.heap.size ≤ w1.heap.size := Nat.le_trans hdd.size hb1.size
  have hl2 : w.heap.size ≤ g2 := Nat.le_trans hdd.size hle2
  rw [hcs.out]
  refine hK.out _ _ ⟨(hb2.cell (p := ⟨gr, 0, none⟩) hgd1).trans hT0, (hb2.cell (p := ⟨gr, 1, none⟩) hgd1).trans hT1, (hb2.cell (p := ⟨gr, 2, none⟩) hgd1).trans hT2⟩ (fun hHeld => ?_)
  clear hK K hT0 hT1 hT2 hD2 hB1 hB2 hb1 hb2
  refine wpAnyH_ready (rs := [16]) (by kernel_rfl) (by simp) ?_
  refine AllReadyH.cons rfl (fun K hK => ?_) AllReadyH.nil
  go_simp
  refine hK.out _ _ hHeld (fun _ => ?_)
  clear hK K
  refine wpAnyH_done (by kernel_rfl) ?_ _
  go_wp2
  go_ret
  exact ⟨_, rfl, _, _, _, _, rfl, hR, hbA, hl1, hl2⟩
end Go.Proofs.Ytbmoedgokimhmaa
