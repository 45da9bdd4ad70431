/-
  Contract of the walk over the reference's New. Conditions: none.
-/
import Derived.Test.YtbmoedgokimhmaaRq8
namespace Go.Proofs.Ytbmoedgokimhmaa
open Go.RowKit

theorem rnew_bad (p : Int) (w : World) (h : p < 1 ∨ 4096 < p) :
    Calls Try.prog 17 #[.int .i64 p] w fun e w' => e = .returned (.tuple #[.pointer none, .int .i64 1]) ∧ w = w' := by
  by_cases h0 : p < 1
  · clear h
    go_enter Try.func17, Try.ntmps17
    go_wp2
    go_ret2
    exact ⟨rfl, rfl⟩
  · have h1 : 4096 < p := by omega
    clear h
    go_enter Try.func17, Try.ntmps17
    go_wp2
    go_ret2
    exact ⟨rfl, rfl⟩
theorem rzeros_128 (zz : ByteArray) (w : World) (hz : (⟨Z128.toArray⟩ : ByteArray) = zz) :
    Calls Try.prog 56 #[.int .i64 128] w fun e w' => e = .returned (.string zz) ∧ Below w.heap.size w w' := by
  rw [← hz]
  exact rzeros_any 128 w (by omega)
theorem grown_blk {w w' : World} {row : Option Nat} {g : Nat} {t : TypeId} {l : List Value} (hg : w.grownBy w' row) (h : Blk w g t l) (hne : some g ≠ row) : Blk w' g t l := by
  have hl := h.lt
  unfold Blk at h ⊢
  rw [hg.block g hl hne]; exact h
theorem alloc_cells {w : World} {t : TypeId} {l : List Value} {q : Nat} {u : Value} (hu : l[q]? = some u) : (w.alloc (.cells l.toArray t)).cell? ((⟨w.heap.size, 0, none⟩ : Addr).add q) = some u := by
  rw [addr_mid, Nat.zero_add, cell_of_row _ _ q l.toArray t (0, 0) (heap_alloc_new w _)]
  simpa using hu
theorem rep_succ (j : Nat) (p : Pg) : pgRow (List.replicate j p) ++ pg3 p = pgRow (List.replicate (j + 1) p) := by
  rw [List.replicate_succ']
  unfold pgRow
  rw [List.flatMap_append]
  simp
theorem Try.szRS : (Try.prog.info? 54).map (·.size) = some 1 := by kernel_rfl
def NwRel (gr : Nat) (n : Nat) (w : World) (i : Value) (wr : World) : Prop :=
  ∃ j : Nat, j ≤ n ∧ i = .int .i64 j ∧ ∃ v, Blk wr gr 56 [v, .bool false, .int .i64 (-1)] ∧ wr.ownsRow (gr + 1) 53 3 v j (pgRow (List.replicate j ⟨Z128, none⟩)) ∧ Below w.heap.size w wr
set_option maxRecDepth 100000 in
set_option maxHeartbeats 1600000 in
theorem rnew_any (n : Nat) (w : World) (h1 : 1 ≤ n) (h2 : n ≤ 4096) :
    Calls Try.prog 17 #[.int .i64 (n : Int)] w fun e w' => ∃ v, e = .returned (.tuple #[v, .int .i64 0]) ∧ NewR w (DM.make n) v w' := by
  obtain ⟨i0, hi, hz0, hz1, hz2⟩ := info_parts Try.infoRP
  go_enter Try.func17, Try.ntmps17
  go_wp2_with (with_reducible refine wpList_box (o := ⟨some 13, .box 56 (.tmp 12), _, _, _, _⟩) ?g2 56 (.tmp 12) ?o2 (.agg #[.slice none 0 0, .bool false, .int .i64 (-1)]) [.slice none 0 0, .bool false, .int .i64 (-1)] ?x2 ?c2 ?_)
  try (case g2 => rfl)
  try (case o2 => rfl)
  try (case x2 => rfl)
  try (case c2 => rfl)
  intro gr w1 hgr hs1 hb1 hB1
  have hgrl : w.heap.size ≤ gr := Nat.le_of_eq hgr.out.symm
  have hbel1 : Below w.heap.size w w1 := hb1.mono hgrl
  obtain ⟨zz, hzz⟩ : ∃ zz : ByteArray, Hid ((⟨Z128.toArray⟩ : ByteArray) = zz) := ⟨_, rfl⟩
  clear hb1 hs1
  go_wp2
  go_loopw [5] (NwRel gr n w) (fun i _ => n - natOf i)
  case atStart => exact ⟨0, Nat.zero_le _, rfl, _, hB1, World.ownsRow_nil _ _ _ _, hbel1⟩
  case round =>
    clear hB1 hbel1
    obtain ⟨j, hj, rfl, v, hB, hown, hbel⟩ := hrel
    obtain ⟨A, c, rfl⟩ := own_shape hown
    by_cases hjn : j < n
    · have hji : (j : Int) < (n : Int) := by omega
      have hrep : Hid (pgRow (List.replicate j ⟨Z128, none⟩) ++ [.string zz, .string ⟨#[]⟩, .bool false] = pgRow (List.replicate (j + 1) ⟨Z128, none⟩)) := by
        have : pgRow (List.replicate j ⟨Z128, none⟩) ++ [.string zz, .string ⟨#[]⟩, .bool false] = pgRow (List.replicate (j + 1) ⟨Z128, none⟩) := by
          rw [← rep_succ, ← hzz.out]; rfl
        exact this
      have hdd := below_drew wr
      have hBd := hB.next hdd hB.lt
      have hownd := own_only hown (Only.of_below (L := []) hdd) (by simp)
      have hbeld := below_join hbel hdd
      have c0 := hBd.cell (k := 0) rfl
      clear hB hown hbel
      obtain ⟨PR, hPR⟩ : ∃ PR, Hid (pgRow (List.replicate j ⟨Z128, none⟩) = PR) := ⟨_, rfl⟩
      rw [hPR.out] at hownd hrep
      go_wp2
      refine wp_region_held_drew (S := fun _ => True) (by kernel_rfl) trivial (fun hHeld => ?_)
      generalize wr.drew = wd at hdd hBd hownd hbeld c0 ⊢
      refine wpAnyH_take (i := 0) (v := ?vv0) rfl (by kernel_rfl) (by kernel_rfl) (by kernel_rfl) (fun _ _ _ h => h) (Or.inl ⟨by rfl, ?yv0⟩) (by assumption) ?rv0
      case yv0 => intro w hSw; (try dsimp only at hSw); go_simp <;> (try with_reducible rfl)
      (try simp only [List.getElem_toArray, List.getElem_cons_zero, Act.put, List.setIfInBounds_toArray, List.set_cons_zero, List.set_cons_succ])
      refine wpAnyH_take (i := 1) (v := ?vv1) rfl (by kernel_rfl) (by kernel_rfl) (by kernel_rfl) (fun _ _ _ h => h) (Or.inl ⟨by rfl, ?yv1⟩) (by assumption) ?rv1
      case yv1 => intro w hSw; (try dsimp only at hSw); go_simp <;> (try with_reducible rfl)
      (try simp only [List.getElem_toArray, List.getElem_cons_succ, List.getElem_cons_zero, Act.put, List.setIfInBounds_toArray, List.set_cons_zero, List.set_cons_succ])
      refine wpAnyH_take (i := 2) (v := ?vv2) rfl (by kernel_rfl) (by kernel_rfl) (by kernel_rfl) (fun _ _ _ h => h) (Or.inl ⟨by rfl, ?yv2⟩) (by assumption) ?rv2
      case yv2 => intro w hSw; (try dsimp only at hSw); go_simp <;> (try with_reducible rfl)
      (try simp only [List.getElem_toArray, List.getElem_cons_succ, List.getElem_cons_zero, Act.put, List.setIfInBounds_toArray, List.set_cons_zero, List.set_cons_succ])
      refine wpAnyH_take (i := 3) (v := ?vv3) rfl (by kernel_rfl) (by kernel_rfl) (by kernel_rfl) (fun _ _ _ h => h) (Or.inl ⟨by rfl, ?yv3⟩) (by assumption) ?rv3
      case yv3 => intro w hSw; (try dsimp only at hSw); go_simp <;> (try with_reducible rfl)
      (try simp only [List.getElem_toArray, List.getElem_cons_succ, List.getElem_cons_zero, Act.put, List.setIfInBounds_toArray, List.set_cons_zero, List.set_cons_succ])
      refine wpAnyH_ready (rs := [4, 5]) (by kernel_rfl) (by simp) ?_
      refine AllReadyH.cons rfl (fun K hK => ?_) (AllReadyH.cons rfl (fun K hK => ?_) AllReadyH.nil)
      · go_simp
        refine hK.out _ _ trivial (fun hHeld => ?_)
        clear hK K
        refine wpAnyH_ready (rs := [5]) (by kernel_rfl) (by simp) ?_
        refine AllReadyH.cons rfl (fun K hK => ?_) AllReadyH.nil
        go_simp
        go_wp2_with fail
        (with_reducible refine (rzeros_128 zz _ hzz.out).mono ?_)
        rintro e wA ⟨rfl, hbA⟩
        refine hK.out _ _ trivial (fun hHeld => ?_)
        clear hK K
        refine wpAnyH_take (i := 6) (v := ?vv6) rfl (by kernel_rfl) (by kernel_rfl) (by kernel_rfl) (fun _ _ _ h => h) (Or.inl ⟨by rfl, ?yv6⟩) (by assumption) ?rv6
        case yv6 => intro w hSw; (try dsimp only at hSw); go_simp <;> (try with_reducible rfl)
        (try simp only [List.getElem_toArray, List.getElem_cons_succ, List.getElem_cons_zero, Act.put, List.setIfInBounds_toArray, List.set_cons_zero, List.set_cons_succ])
        refine wpAnyH_ready (rs := [7]) (by kernel_rfl) (by simp) ?_
        refine AllReadyH.cons rfl (fun K hK => ?_) AllReadyH.nil
        go_simp
        have hbZ : Below wd.heap.size wd (wA.alloc (.cells #[.string zz, .string ⟨#[]⟩, .bool false] 53)) := below_join hbA (below_new wA _)
        have hcellZ : ∀ q u, [Value.string zz, .string ⟨#[]⟩, .bool false][q]? = some u → (wA.alloc (.cells #[.string zz, .string ⟨#[]⟩, .bool false] 53)).cell? ((⟨wA.heap.size, 0, none⟩ : Addr).add q) = some u := fun q u hu => alloc_cells hu
        refine hK.out _ _ trivial (fun hHeld => ?_)
        clear hK K hbA c0
        generalize wA.heap.size = g7 at hcellZ ⊢
        generalize wA.alloc _ = wZ at hbZ hcellZ ⊢
        have hBZ := hBd.next hbZ hBd.lt
        have hownZ := own_only hownd (Only.of_below (L := []) hbZ) (by simp)
        have hbelZ := below_join hbeld hbZ
        have hszZ := hbelZ.size
        have hltZ := hownZ.lt
        have hbaseZ : gr + 1 ≤ wZ.heap.size := hBZ.lt
        refine wpAnyH_ready (rs := [8]) (by kernel_rfl) (by simp) ?_
        refine AllReadyH.cons rfl (fun K hK => ?_) AllReadyH.nil
        rw [if_pos (by rfl)]
        refine wp_append_own (P := Try.prog) _ (.tmp 23) (.tmp 26) 54 rfl (gr + 1) 53 i0 _ 3 40 Try.underlying54 hi hz0 hz1 hz2 rfl (by decide) (.slice A j c) j _ rfl hownZ ⟨g7, 0, none⟩ 1 1 [.string zz, .string ⟨#[]⟩, .bool false] rfl (by rfl) hcellZ (one_cell3 rfl rfl rfl) (by unfold maxLen; omega) (by omega) hbaseZ ?_
        intro v8 w8 hown8 hg8 _
        have hB8 := grown_blk hg8 hBZ (fun e => by have := (hltZ gr e.symm).1; omega)
        have hbel8 := hbelZ.grown hg8 hszZ (fun k hk => by have := (hltZ k hk).1; omega)
        rw [hrep.out] at hown8
        refine hK.out _ _ trivial (fun hHeld => ?_)
        clear hK K hHeld hownZ hcellZ hg8 hBZ hbelZ hltZ hbZ hBd hownd hbeld
        obtain ⟨A8, c8, rfl⟩ := own_shape hown8
        refine wpAnyH_take (i := 9) (v := ?vv9) rfl (by kernel_rfl) (by kernel_rfl) (by kernel_rfl) (fun _ _ _ h => h) (Or.inl ⟨by rfl, ?yv9⟩) (by assumption) ?rv9
        case yv9 => intro w hSw; (try dsimp only at hSw); go_simp <;> (try with_reducible rfl)
        (try simp only [List.getElem_toArray, List.getElem_cons_succ, List.getElem_cons_zero, Act.put, List.setIfInBounds_toArray, List.set_cons_zero, List.set_cons_succ])
        refine wpAnyH_take (i := 10) (v := ?vv10) rfl (by kernel_rfl) (by kernel_rfl) (by kernel_rfl) (fun _ _ _ h => h) (Or.inl ⟨by rfl, ?yv10⟩) (by assumption) ?rv10
        case yv10 => intro w hSw; (try dsimp only at hSw); go_simp <;> (try with_reducible rfl)
        (try simp only [List.getElem_toArray, List.getElem_cons_succ, List.getElem_cons_zero, Act.put, List.setIfInBounds_toArray, List.set_cons_zero, List.set_cons_succ])
        refine wpAnyH_ready (rs := [11]) (by kernel_rfl) (by simp) ?_
        refine AllReadyH.cons rfl (fun K hK => ?_) AllReadyH.nil
        rw [if_pos (by rfl)]
        refine wp_put 54 (.tmp 29) (.tmp 27) rfl gr 0 rfl (.slice A8 (j + 1) c8) rfl hB8 [.slice A8 (j + 1) c8] rfl (by exact Try.szRS) (by simp) (one_cell1 rfl) ?_
        intro w9 hu9 hB9
        have hB9' : Blk w9 gr 56 [.slice A8 (j + 1) c8, .bool false, .int .i64 (-1)] := hB9
        have hown9 := own_only hown8 (Only.of_upd (L := [gr]) hu9 (by simp)) (by simp)
        have hbel9 := hbel8.trans (hu9.below (B := w.heap.size) hgrl)
        clear hB8 hown8 hbel8 hB9 hu9
        refine hK.out _ _ trivial (fun hHeld => ?_)
        clear hK K hHeld
        refine wpAnyH_done (by kernel_rfl) ?_ _
        go_wp2
        go_roundw
        case rel => exact ⟨j + 1, by omega, by go_num, _, hB9', hown9, hbel9⟩
        case measure => simp [natOf]; omega
      · go_simp
        go_wp2_with fail
        (with_reducible refine (rzeros_128 zz _ hzz.out).mono ?_)
        rintro e wA ⟨rfl, hbA⟩
        refine hK.out _ _ trivial (fun hHeld => ?_)
        clear hK K
        have c0A := (hBd.next hbA hBd.lt).cell (k := 0) rfl
        refine wpAnyH_take (i := 6) (v := ?vu6) rfl (by kernel_rfl) (by kernel_rfl) (by kernel_rfl) (fun _ _ _ h => h) (Or.inl ⟨by rfl, ?yu6⟩) (by assumption) ?ru6
        case yu6 => intro w hSw; (try dsimp only at hSw); go_simp <;> (try with_reducible rfl)
        (try simp only [List.getElem_toArray, List.getElem_cons_succ, List.getElem_cons_zero, Act.put, List.setIfInBounds_toArray, List.set_cons_zero, List.set_cons_succ])
        refine wpAnyH_ready (rs := [4, 7]) (by kernel_rfl) (by simp) ?_
        refine AllReadyH.cons rfl (fun K hK => ?_) (AllReadyH.cons rfl (fun K hK => ?_) AllReadyH.nil)
        · go_simp
          refine hK.out _ _ trivial (fun hHeld => ?_)
          clear hK K
          refine wpAnyH_ready (rs := [7]) (by kernel_rfl) (by simp) ?_
          refine AllReadyH.cons rfl (fun K hK => ?_) AllReadyH.nil
          go_simp
          have hbZ : Below wd.heap.size wd (wA.alloc (.cells #[.string zz, .string ⟨#[]⟩, .bool false] 53)) := below_join hbA (below_new wA _)
          have hcellZ : ∀ q u, [Value.string zz, .string ⟨#[]⟩, .bool false][q]? = some u → (wA.alloc (.cells #[.string zz, .string ⟨#[]⟩, .bool false] 53)).cell? ((⟨wA.heap.size, 0, none⟩ : Addr).add q) = some u := fun q u hu => alloc_cells hu
          refine hK.out _ _ trivial (fun hHeld => ?_)
          clear hK K hbA c0 c0A
          generalize wA.heap.size = g7 at hcellZ ⊢
          generalize wA.alloc _ = wZ at hbZ hcellZ ⊢
          have hBZ := hBd.next hbZ hBd.lt
          have hownZ := own_only hownd (Only.of_below (L := []) hbZ) (by simp)
          have hbelZ := below_join hbeld hbZ
          have hszZ := hbelZ.size
          have hltZ := hownZ.lt
          have hbaseZ : gr + 1 ≤ wZ.heap.size := hBZ.lt
          refine wpAnyH_ready (rs := [8]) (by kernel_rfl) (by simp) ?_
          refine AllReadyH.cons rfl (fun K hK => ?_) AllReadyH.nil
          rw [if_pos (by rfl)]
          refine wp_append_own (P := Try.prog) _ (.tmp 23) (.tmp 26) 54 rfl (gr + 1) 53 i0 _ 3 40 Try.underlying54 hi hz0 hz1 hz2 rfl (by decide) (.slice A j c) j _ rfl hownZ ⟨g7, 0, none⟩ 1 1 [.string zz, .string ⟨#[]⟩, .bool false] rfl (by rfl) hcellZ (one_cell3 rfl rfl rfl) (by unfold maxLen; omega) (by omega) hbaseZ ?_
          intro v8 w8 hown8 hg8 _
          have hB8 := grown_blk hg8 hBZ (fun e => by have := (hltZ gr e.symm).1; omega)
          have hbel8 := hbelZ.grown hg8 hszZ (fun k hk => by have := (hltZ k hk).1; omega)
          rw [hrep.out] at hown8
          refine hK.out _ _ trivial (fun hHeld => ?_)
          clear hK K hHeld hownZ hcellZ hg8 hBZ hbelZ hltZ hbZ hBd hownd hbeld
          obtain ⟨A8, c8, rfl⟩ := own_shape hown8
          refine wpAnyH_take (i := 9) (v := ?vu9) rfl (by kernel_rfl) (by kernel_rfl) (by kernel_rfl) (fun _ _ _ h => h) (Or.inl ⟨by rfl, ?yu9⟩) (by assumption) ?ru9
          case yu9 => intro w hSw; (try dsimp only at hSw); go_simp <;> (try with_reducible rfl)
          (try simp only [List.getElem_toArray, List.getElem_cons_succ, List.getElem_cons_zero, Act.put, List.setIfInBounds_toArray, List.set_cons_zero, List.set_cons_succ])
          refine wpAnyH_take (i := 10) (v := ?vu10) rfl (by kernel_rfl) (by kernel_rfl) (by kernel_rfl) (fun _ _ _ h => h) (Or.inl ⟨by rfl, ?yu10⟩) (by assumption) ?ru10
          case yu10 => intro w hSw; (try dsimp only at hSw); go_simp <;> (try with_reducible rfl)
          (try simp only [List.getElem_toArray, List.getElem_cons_succ, List.getElem_cons_zero, Act.put, List.setIfInBounds_toArray, List.set_cons_zero, List.set_cons_succ])
          refine wpAnyH_ready (rs := [11]) (by kernel_rfl) (by simp) ?_
          refine AllReadyH.cons rfl (fun K hK => ?_) AllReadyH.nil
          rw [if_pos (by rfl)]
          refine wp_put 54 (.tmp 29) (.tmp 27) rfl gr 0 rfl (.slice A8 (j + 1) c8) rfl hB8 [.slice A8 (j + 1) c8] rfl (by exact Try.szRS) (by simp) (one_cell1 rfl) ?_
          intro w9 hu9 hB9
          have hB9' : Blk w9 gr 56 [.slice A8 (j + 1) c8, .bool false, .int .i64 (-1)] := hB9
          have hown9 := own_only hown8 (Only.of_upd (L := [gr]) hu9 (by simp)) (by simp)
          have hbel9 := hbel8.trans (hu9.below (B := w.heap.size) hgrl)
          clear hB8 hown8 hbel8 hB9 hu9
          refine hK.out _ _ trivial (fun hHeld => ?_)
          clear hK K hHeld
          refine wpAnyH_done (by kernel_rfl) ?_ _
          go_wp2
          go_roundw
          case rel => exact ⟨j + 1, by omega, by go_num, _, hB9', hown9, hbel9⟩
          case measure => simp [natOf]; omega
        · go_simp
          have hbZ : Below wd.heap.size wd (wA.alloc (.cells #[.string zz, .string ⟨#[]⟩, .bool false] 53)) := below_join hbA (below_new wA _)
          have hcellZ : ∀ q u, [Value.string zz, .string ⟨#[]⟩, .bool false][q]? = some u → (wA.alloc (.cells #[.string zz, .string ⟨#[]⟩, .bool false] 53)).cell? ((⟨wA.heap.size, 0, none⟩ : Addr).add q) = some u := fun q u hu => alloc_cells hu
          refine hK.out _ _ trivial (fun hHeld => ?_)
          clear hK K hbA c0 c0A
          generalize wA.heap.size = g7 at hcellZ ⊢
          generalize wA.alloc _ = wZ at hbZ hcellZ ⊢
          have c0Z := (hBd.next hbZ hBd.lt).cell (k := 0) rfl
          refine wpAnyH_ready (rs := [4]) (by kernel_rfl) (by simp) ?_
          refine AllReadyH.cons rfl (fun K hK => ?_) AllReadyH.nil
          go_simp
          refine hK.out _ _ trivial (fun hHeld => ?_)
          clear hK K c0Z
          have hBZ := hBd.next hbZ hBd.lt
          have hownZ := own_only hownd (Only.of_below (L := []) hbZ) (by simp)
          have hbelZ := below_join hbeld hbZ
          have hszZ := hbelZ.size
          have hltZ := hownZ.lt
          have hbaseZ : gr + 1 ≤ wZ.heap.size := hBZ.lt
          refine wpAnyH_ready (rs := [8]) (by kernel_rfl) (by simp) ?_
          refine AllReadyH.cons rfl (fun K hK => ?_) AllReadyH.nil
          rw [if_pos (by rfl)]
          refine wp_append_own (P := Try.prog) _ (.tmp 23) (.tmp 26) 54 rfl (gr + 1) 53 i0 _ 3 40 Try.underlying54 hi hz0 hz1 hz2 rfl (by decide) (.slice A j c) j _ rfl hownZ ⟨g7, 0, none⟩ 1 1 [.string zz, .string ⟨#[]⟩, .bool false] rfl (by rfl) hcellZ (one_cell3 rfl rfl rfl) (by unfold maxLen; omega) (by omega) hbaseZ ?_
          intro v8 w8 hown8 hg8 _
          have hB8 := grown_blk hg8 hBZ (fun e => by have := (hltZ gr e.symm).1; omega)
          have hbel8 := hbelZ.grown hg8 hszZ (fun k hk => by have := (hltZ k hk).1; omega)
          rw [hrep.out] at hown8
          refine hK.out _ _ trivial (fun hHeld => ?_)
          clear hK K hHeld hownZ hcellZ hg8 hBZ hbelZ hltZ hbZ hBd hownd hbeld
          obtain ⟨A8, c8, rfl⟩ := own_shape hown8
          refine wpAnyH_take (i := 9) (v := ?vt9) rfl (by kernel_rfl) (by kernel_rfl) (by kernel_rfl) (fun _ _ _ h => h) (Or.inl ⟨by rfl, ?yt9⟩) (by assumption) ?rt9
          case yt9 => intro w hSw; (try dsimp only at hSw); go_simp <;> (try with_reducible rfl)
          (try simp only [List.getElem_toArray, List.getElem_cons_succ, List.getElem_cons_zero, Act.put, List.setIfInBounds_toArray, List.set_cons_zero, List.set_cons_succ])
          refine wpAnyH_take (i := 10) (v := ?vt10) rfl (by kernel_rfl) (by kernel_rfl) (by kernel_rfl) (fun _ _ _ h => h) (Or.inl ⟨by rfl, ?yt10⟩) (by assumption) ?rt10
          case yt10 => intro w hSw; (try dsimp only at hSw); go_simp <;> (try with_reducible rfl)
          (try simp only [List.getElem_toArray, List.getElem_cons_succ, List.getElem_cons_zero, Act.put, List.setIfInBounds_toArray, List.set_cons_zero, List.set_cons_succ])
          refine wpAnyH_ready (rs := [11]) (by kernel_rfl) (by simp) ?_
          refine AllReadyH.cons rfl (fun K hK => ?_) AllReadyH.nil
          rw [if_pos (by rfl)]
          refine wp_put 54 (.tmp 29) (.tmp 27) rfl gr 0 rfl (.slice A8 (j + 1) c8) rfl hB8 [.slice A8 (j + 1) c8] rfl (by exact Try.szRS) (by simp) (one_cell1 rfl) ?_
          intro w9 hu9 hB9
          have hB9' : Blk w9 gr 56 [.slice A8 (j + 1) c8, .bool false, .int .i64 (-1)] := hB9
          have hown9 := own_only hown8 (Only.of_upd (L := [gr]) hu9 (by simp)) (by simp)
          have hbel9 := hbel8.trans (hu9.below (B := w.heap.size) hgrl)
          clear hB8 hown8 hbel8 hB9 hu9
          refine hK.out _ _ trivial (fun hHeld => ?_)
          clear hK K hHeld
          refine wpAnyH_done (by kernel_rfl) ?_ _
          go_wp2
          go_roundw
          case rel => exact ⟨j + 1, by omega, by go_num, _, hB9', hown9, hbel9⟩
          case measure => simp [natOf]; omega
    · obtain rfl : j = n := by omega
      obtain ⟨g2, cap2, Y, hv2, hle2, hB2⟩ := own_tail hown h1
      injection hv2 with e1 e2 e3
      subst e1 e3
      clear hjn hj
      have hR : RRep wr gr g2 c Y (DM.make j) := ⟨by rw [show (DM.make j).ps.length = j from List.length_replicate]; exact hB, hB2, by omega⟩
      clear hB hB2 hown
      go_wp2
      go_ret2
      exact ⟨_, rfl, _, _, _, _, rfl, hR, hbel, hgrl, by omega⟩
end Go.Proofs.Ytbmoedgokimhmaa
