/-
  Contract of the walk over disk.Mount. Conditions: the record holds the disk, the picks lie elsewhere.
-/
import Derived.Test.YtbmoedgokimhmaaDn2
namespace Go.Proofs.Ytbmoedgokimhmaa
open Go.RowKit

def MtRel (M : DM) (picks : List Int) (gd gp gm n k cp : Nat) (Y : List Value) (w w1 : World) (i : Value) (wr : World) : Prop :=
  ∃ j : Nat, j ≤ M.pending.length ∧ i = .int .i64 j ∧ Blk wr gd 105 [.slice (some ⟨gp, 0, none⟩) n cp, .map (some gm), .bool M.up, .int .i64 M.trip] ∧ Blk wr gp 108 (pgCells (mtTo M picks j).image ++ Y) ∧ MapOK wr gm k M.ps ∧ Only [gd, gp, gm] w wr ∧ Only [gd, gp, gm] w1 wr
set_option maxRecDepth 100000 in
set_option maxHeartbeats 3200000 in
theorem mount_any (gd gp gm k cp : Nat) (Y : List Value) (M : DM) (A : Option Addr) (pc : Nat) (picks : List Int) (w : World) (hM : M.ok) (h : PRep w gd gp gm cp Y M k) (_hpl : picks.length ≤ 1000000) (hpk : ∀ w', Only [gd, gp, gm] w w' → PkAt w' A picks) :
    Calls Try.prog 27 #[.pointer (some ⟨gd, 0, none⟩), .slice A picks.length pc] w fun x w' => x = .returned (.tuple #[]) ∧ PRep w' gd gp gm cp Y (M.mount picks) k ∧ Only [gd, gp, gm] w w' := by
  have hn4 : M.ps.length ≤ 4096 := hM.2.2.2
  have hple := pending_le M
  have hg1 := h.d.lt
  have hg2 := h.p.lt
  have hg3 := h.m.lt
  have hn1 := h.n1
  have hn2 := h.n2
  have hn3 := h.n3
  have HPK := Lib.hid hpk
  have HM := Lib.hid hM
  obtain ⟨q, hq⟩ : ∃ q, Hid (picks.length = q) := ⟨_, rfl⟩
  rw [hq.out]
  clear hpk hM
  go_enter Try.func27, Try.ntmps27
  go_wp2_with fail
  (with_reducible refine (pending_any gd gp gm k cp Y M _ HM.out h).mono ?_)
  rintro e w1 ⟨v, rfl, hown, _, hb1⟩
  obtain ⟨N, hN⟩ : ∃ N, Hid (M.pending.length = N) := ⟨_, rfl⟩
  rw [hN.out] at hown hple
  have h1 := h.next hb1
  have ho1 : Only [gd, gp, gm] w w1 := Only.of_below hb1
  obtain ⟨B, c, rfl⟩ := own_shape hown
  obtain ⟨base, hbase⟩ : ∃ base, Hid (w.heap.size = base) := ⟨_, rfl⟩
  rw [hbase.out] at hown hg1 hg2 hg3
  have hoz : Hid (∀ w', Only [gd, gp, gm] w1 w' → w'.ownsRow base 3 1 (.slice B N c) N ((pendZ M).map Z8)) := by
    have : ∀ w', Only [gd, gp, gm] w1 w' → w'.ownsRow base 3 1 (.slice B N c) N ((pendZ M).map Z8) := fun w' ho => own_only hown ho (by simp; omega)
    exact this
  obtain ⟨n, hn⟩ : ∃ n, Hid (M.ps.length = n) := ⟨_, rfl⟩
  have hD1 := h1.d
  have hP1 := h1.p
  have hM1 := h1.m
  rw [hn.out] at hD1 hn4
  clear h hown hb1 h1
  go_wp2
  go_loopw [11] (MtRel M picks gd gp gm n k cp Y w w1) (fun i _ => N - natOf i)
  case atStart => exact ⟨0, Nat.zero_le _, rfl, hD1, hP1, hM1, ho1, Only.refl _ _⟩
  case round =>
    clear hD1 hP1 hM1 ho1
    obtain ⟨j, hj, rfl, hd, hp, hm, ho, ho1⟩ := hrel
    rw [hN.out] at hj
    by_cases hjn : j < N
    · obtain ⟨i, hi⟩ : ∃ i, M.pending[j]? = some i := ⟨_, List.getElem?_eq_getElem (by rw [hN.out]; exact hjn)⟩
      have hmem := List.mem_of_getElem? hi
      have hil := pending_lt hmem
      have hpe := pending_pend hmem
      obtain ⟨g, rfl, hcell⟩ := own_cell (hoz.out wr ho1) (j := j) (u := .int .i64 (i : Int)) (by unfold pendZ; rw [List.map_map, List.getElem?_map, hi]; rfl)
      have hji : (j : Int) < (N : Int) := by omega
      have hin : i < n := by rw [← hn.out]; exact hil
      have hini : (i : Int) < (n : Int) := by omega
      have hj4 : j < 4096 := by have := hn.out; omega
      obtain ⟨l, hl⟩ : ∃ l, (M.page i).new = some l := by
        unfold Pg.pend at hpe
        cases hx : (M.page i).new with
        | none => rw [hx] at hpe; cases hpe
        | some l => exact ⟨l, rfl⟩
      have hpk2 := DM.page_ok HM.out hil
      have hll : l.length = 128 := hpk2.2 l hl
      have hol : (M.page i).old.length = 128 := hpk2.1
      have HLL := Lib.hid hll
      have hmo := mtTo_ok HM.out picks j (by rw [hN.out]; exact hj)
      have hmi : (mtTo M picks j).image[i]? = some (M.page i).old := by rw [image_at (by rw [mtTo_len]; exact hil), mtTo_at M picks j i hi]
      have hnext : (mtTo M picks (j + 1)).image = (mtTo M picks j).image.set i (l.take (DM.pick picks j) ++ (M.page i).old.drop (DM.pick picks j)) := by
        rw [← mtTo_next M picks j i hi, mtTo_at M picks j i hi, image_set]
        unfold Pg.settle
        rw [hl]
      have hspl : ∀ c, c ≤ 128 → DM.pick picks j = c → splice (pgCells (mtTo M picks j).image ++ Y) (i * 128) ((l.take c).map B8) = pgCells (mtTo M picks (j + 1)).image ++ Y := fun c hc e => by
        rw [hnext, e]
        refine splice_tail Y (pgCells_copy _ (image_128 hmo) i c _ l hmi hol hll hc) ?_
        rw [pgCells_length _ (image_128 hmo), List.length_map, List.length_take, hll]
        have h1 : (mtTo M picks j).image.length = M.ps.length := by unfold DM.image; rw [List.length_map, mtTo_len]
        rw [h1]
        have := hil
        omega
      have hlen : (pgCells (mtTo M picks j).image).length = n * 128 := by
        rw [pgCells_length _ (image_128 hmo), ← hn.out, ← mtTo_len M picks j]
        unfold DM.image; rw [List.length_map]
      have HLEN := Lib.hid hlen
      have hlN : Hid ((l.map B8).length = 128) := by
        have : (l.map B8).length = 128 := by rw [List.length_map]; exact hll
        exact this
      have hlook := run_look hm (DM.page_at hil) (by omega) false
      rw [hl] at hlook
      simp only [Bool.false_eq_true, if_false, Option.getD_some] at hlook
      have c0 := hd.cell (k := 0) rfl
      have c1 := hd.cell (k := 1) rfl
      have HSP := Lib.hid hspl
      have HJ := Lib.hid hj
      clear hmem hil hpe hl hpk2 hll hol hmo hmi hnext hspl hlen hi hj
      by_cases hjq : j < q
      · obtain ⟨x, hx⟩ : ∃ x, picks[j]? = some x := ⟨_, List.getElem?_eq_getElem (by rw [hq.out]; exact hjq)⟩
        obtain ⟨pa, rfl, hpc⟩ := HPK.out wr ho j x hx
        have hjqi : (j : Int) < (q : Int) := by omega
        obtain ⟨pk, hpkc⟩ : ∃ pk, DM.pick picks j = pk := ⟨_, rfl⟩
        have hcx := pick_at picks j x hx
        rw [hpkc] at hcx
        have hc128 : pk ≤ 128 := by unfold clampN at hcx; omega
        have HSPL : Hid (splice (pgCells (mtTo M picks j).image ++ Y) (i * 128) ((l.take pk).map B8) = pgCells (mtTo M picks (j + 1)).image ++ Y) := HSP.out pk hc128 hpkc
        obtain ⟨m, hm0⟩ : ∃ m, Hid (max x 0 = m) := ⟨_, rfl⟩
        have hmc : Hid (min m 128 = (pk : Int)) := by
          have : min m 128 = (pk : Int) := by have := hm0.out; unfold clampN at hcx; omega
          exact this
        have hcut1 := run_cutTo gp (i * 128) pk hc128
        clear hx hcx hpkc
        go_wp2_with (first | (with_reducible refine wpList_maxZ (o := ⟨some 24, .call ⟨.builtin .max, #[.tmp 23, .const (.int .i64 0)], #[3, 3]⟩, _, _, _, _⟩) (by with_unfolding_all rfl) (.tmp 23) (.const (.int .i64 0)) 3 3 (by with_unfolding_all rfl) x 0 m (by with_unfolding_all rfl) (by with_unfolding_all rfl) hm0.out ?_) | (with_reducible refine wpList_minZ (o := ⟨some 25, .call ⟨.builtin .min, #[.tmp 24, .const (.int .i64 128)], #[3, 3]⟩, _, _, _, _⟩) (by with_unfolding_all rfl) (.tmp 24) (.const (.int .i64 128)) 3 3 (by with_unfolding_all rfl) m 128 (pk : Int) (by with_unfolding_all rfl) (by with_unfolding_all rfl) hmc.out ?_) | (with_reducible refine wpList_alloc (o := ⟨some 7, .alloc 108, _, _, _, _⟩) (by with_unfolding_all rfl) 108 (by with_unfolding_all rfl) (.agg (Z128.map B8).toArray) (Z128.map B8) (by exact Try.zeroP) (by with_unfolding_all rfl) ?_))
        intro g7 w2 hg7 hs7 hb7 hB7
        have hle7 : wr.heap.size ≤ g7 := Nat.le_of_eq hg7.out.symm
        go_wp2_with (with_reducible refine wpList_put (o := ⟨none, .store 108 (.tmp 7) (.tmp 31), _, _, _, _⟩) (by with_unfolding_all rfl) 108 (.tmp 7) (.tmp 31) (by with_unfolding_all rfl) g7 0 (by with_unfolding_all rfl) (.agg (l.map B8).toArray) (by with_unfolding_all rfl) hB7 (l.map B8) (by with_unfolding_all rfl) (by rw [hlN.out]; exact Try.sizeP) (by with_unfolding_all (rw [hlN.out, Z128_length]; exact Nat.le_refl _)) (B8_one _) ?_)
        intro w3 hu3 hB3
        rw [splice_all _ _ (by rw [hlN.out, Z128_length])] at hB3
        have hb3 : Below wr.heap.size wr w3 := (hb7.mono hle7).trans (hu3.below (B := wr.heap.size) hle7)
        have hcut2 := run_cutTo g7 0 pk hc128
        clear hg7 hs7 hb7 hB7 hu3 hlook hpc
        have hdd := below_drew w3
        have ho6 := (Only.of_below (L := [gd, gp, gm]) hb3).trans (Only.of_below hdd)
        have hoe := (Only.of_below (L := ([] : List Nat)) hb3).trans (Only.of_below hdd)
        have hp6 := hp.only hoe (by simp)
        have hd6 := hd.only hoe (by simp)
        have hm6 := hm.only hoe (by simp)
        have hB6 := hB3.next hdd hB3.lt
        have hSd := hd6.cell (k := 0) rfl
        have hsrc : ∀ q u, ((l.take pk).map B8)[q]? = some u → w3.drew.cell? ((⟨g7, 0, none⟩ : Addr).add q) = some u := fun q u hu => by
          rw [addr_mid, Nat.zero_add]
          refine hB6.cell ?_
          rw [List.map_take, List.getElem?_take] at hu
          split at hu
          · exact hu
          · cases hu
        clear hp hd hm hB3 hb3 hoe hcell c0 c1
        go_wp2
        refine wp_region_held_drew (S := fun w' => w'.cell? ⟨gd, 0, none⟩ = some (.slice (some ⟨gp, 0, none⟩) n cp)) (by kernel_rfl) hSd (fun hHeld => ?_)
        generalize w3.drew = wd at hdd hHeld hSd hp6 hd6 hm6 ho6 hsrc hB6 ⊢
        refine wpAnyH_take (i := 0) (v := ?vvpk0) rfl (by kernel_rfl) (by kernel_rfl) (by kernel_rfl) (fun _ _ _ h => h) (Or.inl ⟨by rfl, ?yvpk0⟩) (by assumption) ?rvpk0
        case yvpk0 => intro w hSw; (try dsimp only at hSw); go_simp <;> (try with_reducible rfl)
        (try simp only [List.getElem_toArray, List.getElem_cons_zero, Act.put, List.setIfInBounds_toArray, List.set_cons_zero, List.set_cons_succ])
        refine wpAnyH_take (i := 1) (v := ?vvpk1) rfl (by kernel_rfl) (by kernel_rfl) (by kernel_rfl) (fun _ _ _ h => h) (Or.inl ⟨by rfl, ?yvpk1⟩) (by assumption) ?rvpk1
        case yvpk1 => intro w hSw; (try dsimp only at hSw); go_simp <;> (try with_reducible rfl)
        (try simp only [List.getElem_toArray, List.getElem_cons_succ, List.getElem_cons_zero, Act.put, List.setIfInBounds_toArray, List.set_cons_zero, List.set_cons_succ])
        refine wpAnyH_take (i := 2) (v := ?vvpk2) rfl (by kernel_rfl) (by kernel_rfl) (by kernel_rfl) (fun _ _ _ h => h) (Or.inl ⟨by rfl, ?yvpk2⟩) (by assumption) ?rvpk2
        case yvpk2 => intro w hSw; (try dsimp only at hSw); go_simp <;> (try with_reducible rfl)
        (try simp only [List.getElem_toArray, List.getElem_cons_succ, List.getElem_cons_zero, Act.put, List.setIfInBounds_toArray, List.set_cons_zero, List.set_cons_succ])
        refine wpAnyH_take (i := 3) (v := ?vvpk3) rfl (by kernel_rfl) (by kernel_rfl) (by kernel_rfl) (fun _ _ _ h => h) (Or.inl ⟨by rfl, ?yvpk3⟩) (by assumption) ?rvpk3
        case yvpk3 => intro w hSw; (try dsimp only at hSw); go_simp <;> (try with_reducible rfl)
        (try simp only [List.getElem_toArray, List.getElem_cons_succ, List.getElem_cons_zero, Act.put, List.setIfInBounds_toArray, List.set_cons_zero, List.set_cons_succ])
        refine wpAnyH_take (i := 4) (v := ?vvpk4) rfl (by kernel_rfl) (by kernel_rfl) (by kernel_rfl) (fun _ _ _ h => h) (Or.inl ⟨by rfl, ?yvpk4⟩) (by assumption) ?rvpk4
        case yvpk4 => intro w hSw; (try dsimp only at hSw); go_simp <;> (try with_reducible rfl)
        (try simp only [List.getElem_toArray, List.getElem_cons_succ, List.getElem_cons_zero, Act.put, List.setIfInBounds_toArray, List.set_cons_zero, List.set_cons_succ])
        refine wpAnyH_take (i := 5) (v := ?vvpk5) rfl (by kernel_rfl) (by kernel_rfl) (by kernel_rfl) (fun _ _ _ h => h) (Or.inl ⟨by rfl, ?yvpk5⟩) (by assumption) ?rvpk5
        case yvpk5 => intro w hSw; (try dsimp only at hSw); go_simp <;> (try with_reducible rfl)
        (try simp only [List.getElem_toArray, List.getElem_cons_succ, List.getElem_cons_zero, Act.put, List.setIfInBounds_toArray, List.set_cons_zero, List.set_cons_succ])
        refine wpAnyH_take (i := 6) (v := ?vvpk6) rfl (by kernel_rfl) (by kernel_rfl) (by kernel_rfl) (fun _ _ _ h => h) (Or.inl ⟨by rfl, ?yvpk6⟩) (by assumption) ?rvpk6
        case yvpk6 => intro w hSw; (try dsimp only at hSw); go_simp <;> (try with_reducible rfl)
        (try simp only [List.getElem_toArray, List.getElem_cons_succ, List.getElem_cons_zero, Act.put, List.setIfInBounds_toArray, List.set_cons_zero, List.set_cons_succ])
        refine wpAnyH_take (i := 7) (v := ?vvpk7) rfl (by kernel_rfl) (by kernel_rfl) (by kernel_rfl) (fun _ _ _ h => h) (Or.inl ⟨by rfl, ?yvpk7⟩) (by assumption) ?rvpk7
        case yvpk7 => intro w hSw; (try dsimp only at hSw); go_simp <;> (try with_reducible rfl)
        (try simp only [List.getElem_toArray, List.getElem_cons_succ, List.getElem_cons_zero, Act.put, List.setIfInBounds_toArray, List.set_cons_zero, List.set_cons_succ])
        refine wpAnyH_take (i := 8) (v := ?vvpk8) rfl (by kernel_rfl) (by kernel_rfl) (by kernel_rfl) (fun _ _ _ h => h) (Or.inl ⟨by rfl, ?yvpk8⟩) (by assumption) ?rvpk8
        case yvpk8 => intro w hSw; (try dsimp only at hSw); go_simp <;> (try with_reducible rfl)
        (try simp only [List.getElem_toArray, List.getElem_cons_succ, List.getElem_cons_zero, Act.put, List.setIfInBounds_toArray, List.set_cons_zero, List.set_cons_succ])
        refine wpAnyH_take (i := 9) (v := ?vvpk9) rfl (by kernel_rfl) (by kernel_rfl) (by kernel_rfl) (fun _ _ _ h => h) (Or.inl ⟨by rfl, ?yvpk9⟩) (by assumption) ?rvpk9
        case yvpk9 => intro w hSw; (try dsimp only at hSw); go_simp <;> (try with_reducible rfl)
        (try simp only [List.getElem_toArray, List.getElem_cons_succ, List.getElem_cons_zero, Act.put, List.setIfInBounds_toArray, List.set_cons_zero, List.set_cons_succ])
        refine wpAnyH_ready (rs := [10]) (by kernel_rfl) (by simp) ?_
        refine AllReadyH.cons rfl (fun K hK => ?_) AllReadyH.nil
        rw [if_pos (by rfl)]
        refine wp_copyRow (.tmp 39) (.tmp 41) 110 110 rfl 5 Try.underlying110 Try.sz5 gp (i * 128) pk 128 rfl ⟨g7, 0, none⟩ 128 rfl ((l.take pk).map B8) (by rw [List.length_map, List.length_take, HLL.out]; omega) hsrc (B8_one _) hp6 (by rw [List.length_append, HLEN.out]; omega) ?_
        intro w7 hu7 hB7
        rw [HSPL.out] at hB7
        have ho7 : Only [gp] wd w7 := Only.of_upd hu7 (by simp)
        have hd7 := hd6.only ho7 (by simpa using hn1)
        have hm7 := hm6.only ho7 (by simpa using hn3.symm)
        have hoA := ho.trans (ho6.trans (ho7.mono (by simp)))
        have hoB := ho1.trans (ho6.trans (ho7.mono (by simp)))
        refine hK.out _ _ (hd7.cell (k := 0) rfl) (fun hHeld => ?_)
        clear hK K hHeld hp6 hd6 hm6 ho6 hsrc hB6 hu7 ho7 hSd hdd ho ho1
        refine wpAnyH_done (by kernel_rfl) ?_ _
        go_wp2
        go_roundw
        case rel =>
          have hR : MtRel M picks gd gp gm n k cp Y w w1 (.int .i64 ((j : Int) + 1)) w7 := ⟨j + 1, by rw [hN.out]; omega, by go_num, hd7, hB7, hm7, hoA, hoB⟩
          first | exact hR | ((repeat apply Exists.intro); exact ⟨hR, rfl⟩)
        case measure => simp [natOf]; omega
      · have hjqi : (q : Int) ≤ (j : Int) := by omega
        have HSPL : Hid (splice (pgCells (mtTo M picks j).image ++ Y) (i * 128) ((l.take 128).map B8) = pgCells (mtTo M picks (j + 1)).image ++ Y) := HSP.out 128 (Nat.le_refl _) ((pick_past picks j (by rw [hq.out]; omega)).symm.trans clampN_128)
        have hcut1 : ∀ w : World, (Instr.sliceAt 108 (.pointer (some ⟨gp, i * 128, none⟩)) none (some (.int .i64 128)) none).run Try.prog w = .ok (.slice (some ⟨gp, i * 128, none⟩) 128 128) w := fun w => run_cutTo gp (i * 128) 128 (Nat.le_refl _) w
        go_wp2_with (with_reducible refine wpList_alloc (o := ⟨some 7, .alloc 108, _, _, _, _⟩) (by with_unfolding_all rfl) 108 (by with_unfolding_all rfl) (.agg (Z128.map B8).toArray) (Z128.map B8) (by exact Try.zeroP) (by with_unfolding_all rfl) ?_)
        intro g7 w2 hg7 hs7 hb7 hB7
        have hle7 : wr.heap.size ≤ g7 := Nat.le_of_eq hg7.out.symm
        go_wp2_with (with_reducible refine wpList_put (o := ⟨none, .store 108 (.tmp 7) (.tmp 31), _, _, _, _⟩) (by with_unfolding_all rfl) 108 (.tmp 7) (.tmp 31) (by with_unfolding_all rfl) g7 0 (by with_unfolding_all rfl) (.agg (l.map B8).toArray) (by with_unfolding_all rfl) hB7 (l.map B8) (by with_unfolding_all rfl) (by rw [hlN.out]; exact Try.sizeP) (by with_unfolding_all (rw [hlN.out, Z128_length]; exact Nat.le_refl _)) (B8_one _) ?_)
        intro w3 hu3 hB3
        rw [splice_all _ _ (by rw [hlN.out, Z128_length])] at hB3
        have hb3 : Below wr.heap.size wr w3 := (hb7.mono hle7).trans (hu3.below (B := wr.heap.size) hle7)
        have hcut2 : ∀ w : World, (Instr.sliceAt 108 (.pointer (some ⟨g7, 0, none⟩)) none (some (.int .i64 128)) none).run Try.prog w = .ok (.slice (some ⟨g7, 0, none⟩) 128 128) w := fun w => run_cutTo g7 0 128 (Nat.le_refl _) w
        clear hg7 hs7 hb7 hB7 hu3 hlook
        have hdd := below_drew w3
        have ho6 := (Only.of_below (L := [gd, gp, gm]) hb3).trans (Only.of_below hdd)
        have hoe := (Only.of_below (L := ([] : List Nat)) hb3).trans (Only.of_below hdd)
        have hp6 := hp.only hoe (by simp)
        have hd6 := hd.only hoe (by simp)
        have hm6 := hm.only hoe (by simp)
        have hB6 := hB3.next hdd hB3.lt
        have hSd := hd6.cell (k := 0) rfl
        have hsrc : ∀ q u, ((l.take 128).map B8)[q]? = some u → w3.drew.cell? ((⟨g7, 0, none⟩ : Addr).add q) = some u := fun q u hu => by
          rw [addr_mid, Nat.zero_add]
          refine hB6.cell ?_
          rw [List.map_take, List.getElem?_take] at hu
          split at hu
          · exact hu
          · cases hu
        clear hp hd hm hB3 hb3 hoe hcell c0 c1
        go_wp2
        refine wp_region_held_drew (S := fun w' => w'.cell? ⟨gd, 0, none⟩ = some (.slice (some ⟨gp, 0, none⟩) n cp)) (by kernel_rfl) hSd (fun hHeld => ?_)
        generalize w3.drew = wd at hdd hHeld hSd hp6 hd6 hm6 ho6 hsrc hB6 ⊢
        refine wpAnyH_take (i := 0) (v := ?vv1280) rfl (by kernel_rfl) (by kernel_rfl) (by kernel_rfl) (fun _ _ _ h => h) (Or.inl ⟨by rfl, ?yv1280⟩) (by assumption) ?rv1280
        case yv1280 => intro w hSw; (try dsimp only at hSw); go_simp <;> (try with_reducible rfl)
        (try simp only [List.getElem_toArray, List.getElem_cons_zero, Act.put, List.setIfInBounds_toArray, List.set_cons_zero, List.set_cons_succ])
        refine wpAnyH_take (i := 1) (v := ?vv1281) rfl (by kernel_rfl) (by kernel_rfl) (by kernel_rfl) (fun _ _ _ h => h) (Or.inl ⟨by rfl, ?yv1281⟩) (by assumption) ?rv1281
        case yv1281 => intro w hSw; (try dsimp only at hSw); go_simp <;> (try with_reducible rfl)
        (try simp only [List.getElem_toArray, List.getElem_cons_succ, List.getElem_cons_zero, Act.put, List.setIfInBounds_toArray, List.set_cons_zero, List.set_cons_succ])
        refine wpAnyH_take (i := 2) (v := ?vv1282) rfl (by kernel_rfl) (by kernel_rfl) (by kernel_rfl) (fun _ _ _ h => h) (Or.inl ⟨by rfl, ?yv1282⟩) (by assumption) ?rv1282
        case yv1282 => intro w hSw; (try dsimp only at hSw); go_simp <;> (try with_reducible rfl)
        (try simp only [List.getElem_toArray, List.getElem_cons_succ, List.getElem_cons_zero, Act.put, List.setIfInBounds_toArray, List.set_cons_zero, List.set_cons_succ])
        refine wpAnyH_take (i := 3) (v := ?vv1283) rfl (by kernel_rfl) (by kernel_rfl) (by kernel_rfl) (fun _ _ _ h => h) (Or.inl ⟨by rfl, ?yv1283⟩) (by assumption) ?rv1283
        case yv1283 => intro w hSw; (try dsimp only at hSw); go_simp <;> (try with_reducible rfl)
        (try simp only [List.getElem_toArray, List.getElem_cons_succ, List.getElem_cons_zero, Act.put, List.setIfInBounds_toArray, List.set_cons_zero, List.set_cons_succ])
        refine wpAnyH_take (i := 4) (v := ?vv1284) rfl (by kernel_rfl) (by kernel_rfl) (by kernel_rfl) (fun _ _ _ h => h) (Or.inl ⟨by rfl, ?yv1284⟩) (by assumption) ?rv1284
        case yv1284 => intro w hSw; (try dsimp only at hSw); go_simp <;> (try with_reducible rfl)
        (try simp only [List.getElem_toArray, List.getElem_cons_succ, List.getElem_cons_zero, Act.put, List.setIfInBounds_toArray, List.set_cons_zero, List.set_cons_succ])
        refine wpAnyH_take (i := 5) (v := ?vv1285) rfl (by kernel_rfl) (by kernel_rfl) (by kernel_rfl) (fun _ _ _ h => h) (Or.inl ⟨by rfl, ?yv1285⟩) (by assumption) ?rv1285
        case yv1285 => intro w hSw; (try dsimp only at hSw); go_simp <;> (try with_reducible rfl)
        (try simp only [List.getElem_toArray, List.getElem_cons_succ, List.getElem_cons_zero, Act.put, List.setIfInBounds_toArray, List.set_cons_zero, List.set_cons_succ])
        refine wpAnyH_take (i := 6) (v := ?vv1286) rfl (by kernel_rfl) (by kernel_rfl) (by kernel_rfl) (fun _ _ _ h => h) (Or.inl ⟨by rfl, ?yv1286⟩) (by assumption) ?rv1286
        case yv1286 => intro w hSw; (try dsimp only at hSw); go_simp <;> (try with_reducible rfl)
        (try simp only [List.getElem_toArray, List.getElem_cons_succ, List.getElem_cons_zero, Act.put, List.setIfInBounds_toArray, List.set_cons_zero, List.set_cons_succ])
        refine wpAnyH_take (i := 7) (v := ?vv1287) rfl (by kernel_rfl) (by kernel_rfl) (by kernel_rfl) (fun _ _ _ h => h) (Or.inl ⟨by rfl, ?yv1287⟩) (by assumption) ?rv1287
        case yv1287 => intro w hSw; (try dsimp only at hSw); go_simp <;> (try with_reducible rfl)
        (try simp only [List.getElem_toArray, List.getElem_cons_succ, List.getElem_cons_zero, Act.put, List.setIfInBounds_toArray, List.set_cons_zero, List.set_cons_succ])
        refine wpAnyH_take (i := 8) (v := ?vv1288) rfl (by kernel_rfl) (by kernel_rfl) (by kernel_rfl) (fun _ _ _ h => h) (Or.inl ⟨by rfl, ?yv1288⟩) (by assumption) ?rv1288
        case yv1288 => intro w hSw; (try dsimp only at hSw); go_simp <;> (try with_reducible rfl)
        (try simp only [List.getElem_toArray, List.getElem_cons_succ, List.getElem_cons_zero, Act.put, List.setIfInBounds_toArray, List.set_cons_zero, List.set_cons_succ])
        refine wpAnyH_take (i := 9) (v := ?vv1289) rfl (by kernel_rfl) (by kernel_rfl) (by kernel_rfl) (fun _ _ _ h => h) (Or.inl ⟨by rfl, ?yv1289⟩) (by assumption) ?rv1289
        case yv1289 => intro w hSw; (try dsimp only at hSw); go_simp <;> (try with_reducible rfl)
        (try simp only [List.getElem_toArray, List.getElem_cons_succ, List.getElem_cons_zero, Act.put, List.setIfInBounds_toArray, List.set_cons_zero, List.set_cons_succ])
        refine wpAnyH_ready (rs := [10]) (by kernel_rfl) (by simp) ?_
        refine AllReadyH.cons rfl (fun K hK => ?_) AllReadyH.nil
        rw [if_pos (by rfl)]
        refine wp_copyRow (.tmp 39) (.tmp 41) 110 110 rfl 5 Try.underlying110 Try.sz5 gp (i * 128) 128 128 rfl ⟨g7, 0, none⟩ 128 rfl ((l.take 128).map B8) (by rw [List.length_map, List.length_take, HLL.out]; omega) hsrc (B8_one _) hp6 (by rw [List.length_append, HLEN.out]; omega) ?_
        intro w7 hu7 hB7
        rw [HSPL.out] at hB7
        have ho7 : Only [gp] wd w7 := Only.of_upd hu7 (by simp)
        have hd7 := hd6.only ho7 (by simpa using hn1)
        have hm7 := hm6.only ho7 (by simpa using hn3.symm)
        have hoA := ho.trans (ho6.trans (ho7.mono (by simp)))
        have hoB := ho1.trans (ho6.trans (ho7.mono (by simp)))
        refine hK.out _ _ (hd7.cell (k := 0) rfl) (fun hHeld => ?_)
        clear hK K hHeld hp6 hd6 hm6 ho6 hsrc hB6 hu7 ho7 hSd hdd ho ho1
        refine wpAnyH_done (by kernel_rfl) ?_ _
        go_wp2
        go_roundw
        case rel =>
          have hR : MtRel M picks gd gp gm n k cp Y w w1 (.int .i64 ((j : Int) + 1)) w7 := ⟨j + 1, by rw [hN.out]; omega, by go_num, hd7, hB7, hm7, hoA, hoB⟩
          first | exact hR | ((repeat apply Exists.intro); exact ⟨hR, rfl⟩)
        case measure => simp [natOf]; omega
    · obtain rfl : j = N := by omega
      have himg : Hid ((mtTo M picks j).image = (M.mount picks).image) := by
        have : (mtTo M picks j).image = (M.mount picks).image := by rw [← hN.out]; rfl
        exact this
      rw [himg.out] at hp
      have hml : Hid ((M.mount picks).ps.length = n) := by
        have : (M.mount picks).ps.length = n := by rw [← hn.out]; exact mtTo_len M picks M.pending.length
        exact this
      obtain ⟨w4, hclr, hm4, hg4⟩ := run_clear hm 0
      have ho4 : Only [gm] wr w4 := Only.of_grown hg4 (by simp)
      have hd4 := hd.only ho4 (by simpa using hn2)
      have hp4 := hp.only ho4 (by simpa using hn3)
      have hmz := (hm4 _ (mount_none M picks)).mono (Nat.zero_le k)
      have hoz4 := ho.trans (ho4.mono (by simp) : Only [gd, gp, gm] wr w4)
      have c1 := hd.cell (k := 1) rfl
      obtain ⟨u, hu⟩ : ∃ u, M.up = u := ⟨_, rfl⟩
      obtain ⟨t, ht⟩ : ∃ t, M.trip = t := ⟨_, rfl⟩
      rw [hu, ht] at hd4
      have c0 := hd.cell (k := 0) rfl
      clear hd hp hm hm4 hg4 ho ho1 ho4 hjn hj hoz hu ht
      go_wp2_with (with_reducible refine wpList_put (o := ⟨none, .store 4 (.tmp 51) (.const (.bool true)), _, _, _, _⟩) (by with_unfolding_all rfl) 4 (.tmp 51) (.const (.bool true)) (by with_unfolding_all rfl) gd 2 (by with_unfolding_all rfl) (.bool true) (by with_unfolding_all rfl) hd4 [(.bool true)] (by with_unfolding_all rfl) (by with_unfolding_all exact Try.sz4) (by with_unfolding_all simp) (by with_unfolding_all exact one_cell1 rfl) ?_)
      intro w5 hu5 hB5
      have hB5' : Blk w5 gd 105 [.slice (some ⟨gp, 0, none⟩) n cp, .map (some gm), .bool true, .int .i64 t] := hB5
      clear hd4 hB5 hclr c0 c1
      go_wp2_with (with_reducible refine wpList_put (o := ⟨none, .store 3 (.tmp 53) (.const (.int .i64 (-1))), _, _, _, _⟩) (by with_unfolding_all rfl) 3 (.tmp 53) (.const (.int .i64 (-1))) (by with_unfolding_all rfl) gd 3 (by with_unfolding_all rfl) (.int .i64 (-1)) (by with_unfolding_all rfl) hB5' [(.int .i64 (-1))] (by with_unfolding_all rfl) (by with_unfolding_all exact Try.sz3) (by with_unfolding_all simp) (by with_unfolding_all exact one_cell1 rfl) ?_)
      intro w6 hu6 hB6
      have hou := hu5.trans hu6
      have hof : Only [gd] w4 w6 := Only.of_upd hou (by simp)
      have h6 : PRep w6 gd gp gm cp Y (M.mount picks) k := ⟨by rw [hml.out]; exact hB6, hp4.only hof (by simpa using hn1.symm), hmz.only hof (by simpa using hn2.symm), hn1, hn2, hn3⟩
      have ho6 := hoz4.trans (hof.mono (by simp))
      clear hB5' hB6 hp4 hmz hu5 hu6 hou hof hoz4
      go_wp2
      go_end0
      exact ⟨rfl, h6, ho6⟩
end Go.Proofs.Ytbmoedgokimhmaa
