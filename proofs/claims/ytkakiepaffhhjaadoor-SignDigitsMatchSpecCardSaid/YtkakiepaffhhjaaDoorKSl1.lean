/-
  The walk over the statement on digits, counts and sizes. Conditions: the tables read as the document has them.
-/
import Derived.Test.YtkakiepaffhhjaaDoorJJ
namespace Go.Proofs.YtkakiepaffhhjaaDoor
open Go.RowKit

theorem Tryd.cells3 : Tryd.prog.cellsOf 3 = 1 := by kernel_rfl
theorem Tryd.plain3 : Tryd.prog.plainKey 3 = true := by kernel_rfl
theorem Tryd.info3 : (Tryd.prog.info? 3).map (fun i => (i.zero, i.size, i.bytes)) = some (some (.int .i64 0), 1, 8) := by kernel_rfl
theorem Tryd.guard35 : Tryd.prog.eqGuardType Tryd.prog.depth 25 = false := by kernel_rfl
theorem eqItems_nat (w : World) (l : List Nat) : ∀ (is : List Nat), (∀ i ∈ is, i < l.length) →
    (Op.eqItems 9999 3 1 (l.map N8).toArray (l.map N8).toArray is).run Tryd.prog w = .ok true w
  | [], _ => by simp [Op.eqItems]
  | i :: is, h => by
    have hi := h i (by simp)
    have ih := eqItems_nat w l is (fun j hj => h j (by simp [hj]))
    have hx : (l.map N8).toArray[i * 1]? = some (N8 (l.getD i 0)) := by simp [List.getElem?_eq_getElem hi]
    have hp := run_part_plain (P := Tryd.prog) (w := w) Tryd.plain3 hx
    have he : (Op.equalIn 9999 3 (N8 (l.getD i 0)) (N8 (l.getD i 0))).run Tryd.prog w = .ok true w := by
      have := run_equalIn_int (P := Tryd.prog) w 9998 3 .i64 .i64 ((l.getD i 0 : Nat) : Int) ((l.getD i 0 : Nat) : Int) Tryd.underlying3
      rw [beq_self_eq_true] at this
      exact this
    simp only [Op.eqItems, Sem.run_bind, hp, Result.andThen_ok, he]
    simpa using ih
theorem run_eql35 (l : List Nat) (hl : l.length = 35) (w : World) : (binOp .eql 25 (.agg (l.map N8).toArray) (.agg (l.map N8).toArray)).run Tryd.prog w = .ok (.bool true) w := by
  obtain ⟨i0, hi, _, _, _⟩ := info_parts Tryd.info3
  rw [run_eql_struct, run_equalIn_array (P := Tryd.prog) (w := w) 9999 _ _ Tryd.underlying25 hi, Tryd.cells3, eqItems_nat w l _ (fun i h => by have := List.mem_range.1 h; omega)]
  rfl
set_option maxRecDepth 100000 in
set_option maxHeartbeats 1600000 in
theorem digLaw_any (d : List UInt8) (h i : Int) (w : World) (hd : d.length = 16) (HY : Lay w) :
    Calls Tryd.prog 3 #[.agg (d.map B8).toArray, .int .i64 h, .int .i64 i] w fun e w' => e = .returned (.bool true) ∧ Below w.heap.size w w' := by
  have HD := Lib.hid hd
  obtain ⟨ds, hds⟩ : ∃ ds, Hid (SG.digits d = ds) := ⟨_, rfl⟩
  have hdl : Hid (ds.length = 35) := by rw [← hds.out]; exact SG.digits_length _ hd
  have hd15 : Hid (∀ n ∈ ds, n ≤ 15) := by rw [← hds.out]; exact SG.digits_15 _ hd
  have hNl : Hid ((ds.map N8).length = 35) := by
    have : (ds.map N8).length = 35 := by rw [List.length_map]; exact hdl.out
    exact this
  obtain ⟨q, hq⟩ : ∃ q, cnt h = q := ⟨_, rfl⟩
  obtain ⟨z, hz⟩ : ∃ z, siz h i = z := ⟨_, rfl⟩
  have HQ := Lib.hid hq
  have HZ := Lib.hid hz
  clear hd hq hz
  go_enter Tryd.func3, Tryd.ntmps3
  go_wp2_with (with_reducible refine wpList_box (o := ⟨some 3, .box 23 (.tmp 0), _, _, _, _⟩) ?g1 23 (.tmp 0) ?o1 (.agg (d.map B8).toArray) (d.map B8) ?x1 ?c1 ?_)
  try (case g1 => rfl)
  try (case o1 => rfl)
  try (case x1 => rfl)
  try (case c1 => rfl)
  intro gp w1 hgp hs1 hb1 hB1
  have hbel1 : Below w.heap.size w w1 := hb1.mono (Nat.le_of_eq hgp.out.symm)
  clear hgp hs1 hb1
  go_wp2_with fail
  (with_reducible refine (sanity_any _ (HY.next hbel1)).mono ?_)
  rintro e w2 ⟨rfl, hb2⟩
  have hB2 := hB1.next hb2 hB1.lt
  have hbel2 := below_join hbel1 hb2
  clear hB1 hbel1 hb2
  go_wp2_with (with_reducible refine wpList_get (o := ⟨some 11, .load 23 (.tmp 3), _, _, _, _⟩) (by with_unfolding_all rfl) 23 (.tmp 3) (by with_unfolding_all rfl) gp 0 (by with_unfolding_all rfl) hB2 (d.map B8) (cs_all _) (.array 16 5) (by exact Tryd.underlying23) (by with_unfolding_all rfl) (by rw [List.length_map, HD.out]; exact Tryd.size44) ?_)
  (with_reducible refine (sdigits_any d _ HD.out).mono ?_)
  rintro e w3 ⟨rfl, hb3⟩
  rw [hds.out]
  have hB3 := hB2.next hb3 hB2.lt
  have hbel3 := below_join hbel2 hb3
  clear hB2 hbel2 hb3
  go_wp2_with (with_reducible refine wpList_alloc (o := ⟨some 8, .alloc 25, _, _, _, _⟩) (by with_unfolding_all rfl) 25 (by with_unfolding_all rfl) (.agg ((List.replicate 35 0).map N8).toArray) ((List.replicate 35 0).map N8) (by exact Tryd.zero51) (by with_unfolding_all rfl) ?_)
  intro gd w4 hgd hs4 hb4 hB4
  have hle : w3.heap.size ≤ gd := Nat.le_of_eq hgd.out.symm
  go_wp2_with (with_reducible refine wpList_put (o := ⟨none, .store 25 (.tmp 8) (.tmp 12), _, _, _, _⟩) (by with_unfolding_all rfl) 25 (.tmp 8) (.tmp 12) (by with_unfolding_all rfl) gd 0 (by with_unfolding_all rfl) (.agg (ds.map N8).toArray) (by with_unfolding_all rfl) hB4 (ds.map N8) (by with_unfolding_all rfl) (by rw [hNl.out]; exact Tryd.size51) (by with_unfolding_all (rw [hNl.out]; exact Nat.le_refl _)) (N8_one _) ?_)
  intro w5 hu5 hBd
  rw [splice_all _ _ (by rw [hNl.out]; rfl)] at hBd
  have hb5 : Below w3.heap.size w3 w5 := (hb4.mono hle).trans (hu5.below (B := w3.heap.size) hle)
  have hB5 := hB3.next hb5 hB3.lt
  have hbel5 := below_join hbel3 hb5
  clear hB3 hbel3 hb5 hb4 hB4 hu5 hgd hs4 hle
  go_wp2
  go_loop [9] (fun i => ∃ j : Nat, j ≤ 35 ∧ i = .int .i64 j) (fun i => 35 - (intOf i).toNat)
  case atStart => exact ⟨0, by omega, rfl⟩
  case round =>
    obtain ⟨j, hj, rfl⟩ := hrel
    by_cases hlt : j < 35
    · obtain ⟨x, hx⟩ : ∃ x, ds[j]? = some x := ⟨_, List.getElem?_eq_getElem (by rw [hdl.out]; exact hlt)⟩
      have hxle : x ≤ 15 := hd15.out x (List.mem_of_getElem? hx)
      have hdx : (ds.map N8)[j]? = some (.int .i64 (x : Int)) := by rw [List.getElem?_map, hx]; rfl
      have hcell := hBd.cell hdx
      have hji : (j : Int) < 35 := by omega
      have hx0 : (0 : Int) ≤ (x : Int) := by omega
      have hx15 : (x : Int) ≤ 15 := by omega
      clear hx hdx
      go_wp2
      go_round
      case rel => exact ⟨j + 1, by omega, by go_num⟩
      case measure => simp [intOf]; omega
    · obtain rfl : j = 35 := by omega
      clear hlt hj
      have hun := Tryd.underlying23
      have hu35 := Tryd.underlying25
      have hzp : (Tryd.prog.info? 23).map (·.size) = some (d.map B8).length := by rw [List.length_map, HD.out]; exact Tryd.size44
      have hz35 : (Tryd.prog.info? 25).map (·.size) = some (ds.map N8).length := by rw [hNl.out]; exact Tryd.size51
      have hS : ∀ w', Below w5.heap.size w5 w' → (Below w.heap.size w w' ∧ w'.rangeAt gd 0 (ds.map N8) ∧ w'.rangeAt gp 0 (d.map B8)) := fun w' h => ⟨below_join hbel5 h, blk_range (hBd.next h hBd.lt), blk_range (hB5.next h hB5.lt)⟩
      have hd5 := below_drew w5
      have hg35 := Tryd.guard35
      have heq35 := run_eql35 ds hdl.out
      go_wp2
      refine wp_region_held_drew (S := fun w' => Below w.heap.size w w' ∧ w'.rangeAt gd 0 (ds.map N8) ∧ w'.rangeAt gp 0 (d.map B8)) (by kernel_rfl) (hS _ hd5) (fun hHeld => ?_)
      generalize w5.drew = wd at hd5 hHeld ⊢
      refine wpAnyH_take (i := 0) (v := ?vv0) rfl (by kernel_rfl) (by kernel_rfl) (by kernel_rfl) (fun _ _ _ h => h) (Or.inl ⟨by rfl, ?yv0⟩) (by assumption) ?rv0
      case yv0 => intro w hSw; (try dsimp only at hSw); go_simp <;> (try with_reducible rfl)
      (try simp only [List.getElem_toArray, List.getElem_cons_zero, Act.put, List.setIfInBounds_toArray, List.set_cons_zero, List.set_cons_succ])
      refine wpAnyH_take (i := 1) (v := ?vv1) rfl (by kernel_rfl) (by kernel_rfl) (by kernel_rfl) (fun _ _ _ h => h) (Or.inl ⟨by rfl, ?yv1⟩) (by assumption) ?rv1
      case yv1 => intro w hSw; (try dsimp only at hSw); go_simp <;> (try with_reducible rfl)
      (try simp only [List.getElem_toArray, List.getElem_cons_succ, List.getElem_cons_zero, Act.put, List.setIfInBounds_toArray, List.set_cons_zero, List.set_cons_succ])
      refine' wpAnyH_take (i := 2) (v := _) rfl (by kernel_rfl) (by kernel_rfl) (by kernel_rfl) (fun _ _ _ h => h) (yieldsIf_load_mid (by rfl) _ _ (by rfl) _ _ (by rfl) _ _ ?Sv2 ?uv2 ?dv2 ?iv2) (by assumption) ?rv2
      case Sv2 => exact (by intro w h; exact h.2.1)
      case uv2 => exact hu35
      case dv2 => rfl
      case iv2 => exact hz35
      (try simp only [List.getElem_toArray, List.getElem_cons_succ, List.getElem_cons_zero, Act.put, List.setIfInBounds_toArray, List.set_cons_zero, List.set_cons_succ])
      refine' wpAnyH_take (i := 3) (v := _) rfl (by kernel_rfl) (by kernel_rfl) (by kernel_rfl) (fun _ _ _ h => h) (yieldsIf_load_mid (by rfl) _ _ (by rfl) _ _ (by rfl) _ _ ?Sv3 ?uv3 ?dv3 ?iv3) (by assumption) ?rv3
      case Sv3 => exact (by intro w h; exact h.2.2)
      case uv3 => exact hun
      case dv3 => rfl
      case iv3 => exact hzp
      (try simp only [List.getElem_toArray, List.getElem_cons_succ, List.getElem_cons_zero, Act.put, List.setIfInBounds_toArray, List.set_cons_zero, List.set_cons_succ])
      refine wpAnyH_ready (rs := [4]) (by kernel_rfl) (by simp) ?_
      refine AllReadyH.cons rfl (fun K hK => ?_) AllReadyH.nil
      go_simp
      go_wp2_with fail
      (with_reducible refine (rdigits_any d _ HD.out).mono ?_)
      rintro e w6 ⟨rfl, hb6⟩
      rw [hds.out]
      have hk6 := below_join hd5 hb6
      clear hb6 hHeld
      refine hK.out _ _ (hS _ hk6) (fun hHeld => ?_)
      clear hK K
      refine wpAnyH_take (i := 5) (v := ?vv5) rfl (by kernel_rfl) (by kernel_rfl) (by kernel_rfl) (fun _ _ _ h => h) (Or.inl ⟨by rfl, ?yv5⟩) (by assumption) ?rv5
      case yv5 => intro w hSw; (try dsimp only at hSw); go_simp <;> (try with_reducible rfl)
      (try simp only [List.getElem_toArray, List.getElem_cons_succ, List.getElem_cons_zero, Act.put, List.setIfInBounds_toArray, List.set_cons_zero, List.set_cons_succ])
      refine wpAnyH_take (i := 6) (v := ?vv6) rfl (by kernel_rfl) (by kernel_rfl) (by kernel_rfl) (fun _ _ _ h => h) (Or.inl ⟨by rfl, ?yv6⟩) (by assumption) ?rv6
      case yv6 => intro w hSw; (try dsimp only at hSw); go_simp <;> (try with_reducible rfl)
      (try simp only [List.getElem_toArray, List.getElem_cons_succ, List.getElem_cons_zero, Act.put, List.setIfInBounds_toArray, List.set_cons_zero, List.set_cons_succ])
      refine wpAnyH_take (i := 7) (v := ?vv7) rfl (by kernel_rfl) (by kernel_rfl) (by kernel_rfl) (fun _ _ _ h => h) (Or.inl ⟨by rfl, ?yv7⟩) (by assumption) ?rv7
      case yv7 => intro w hSw; (try dsimp only at hSw); go_simp <;> (try with_reducible rfl)
      (try simp only [List.getElem_toArray, List.getElem_cons_succ, List.getElem_cons_zero, Act.put, List.setIfInBounds_toArray, List.set_cons_zero, List.set_cons_succ])
      refine wpAnyH_take (i := 8) (v := ?vv8) rfl (by kernel_rfl) (by kernel_rfl) (by kernel_rfl) (fun _ _ _ h => h) (Or.inl ⟨by rfl, ?yv8⟩) (by assumption) ?rv8
      case yv8 => intro w hSw; (try dsimp only at hSw); go_simp <;> (try with_reducible rfl)
      (try simp only [List.getElem_toArray, List.getElem_cons_succ, List.getElem_cons_zero, Act.put, List.setIfInBounds_toArray, List.set_cons_zero, List.set_cons_succ])
      refine wpAnyH_take (i := 10) (v := ?vv10) rfl (by kernel_rfl) (by kernel_rfl) (by kernel_rfl) (fun _ _ _ h => h) (Or.inl ⟨by rfl, ?yv10⟩) (by assumption) ?rv10
      case yv10 => intro w hSw; (try dsimp only at hSw); go_simp <;> (try with_reducible rfl)
      (try simp only [List.getElem_toArray, List.getElem_cons_succ, List.getElem_cons_zero, Act.put, List.setIfInBounds_toArray, List.set_cons_zero, List.set_cons_succ])
      refine wpAnyH_ready (rs := [9]) (by kernel_rfl) (by simp) ?_
      refine AllReadyH.cons rfl (fun K hK => ?_) AllReadyH.nil
      go_simp
      go_wp2_with fail
      (with_reducible refine (count_to _ q _ HQ.out).mono ?_)
      rintro e w' ⟨rfl, rfl⟩
      refine hK.out _ _ (hS _ hk6) (fun hHeld => ?_)
      clear hK K
      refine wpAnyH_ready (rs := [11]) (by kernel_rfl) (by simp) ?_
      refine AllReadyH.cons rfl (fun K hK => ?_) AllReadyH.nil
      go_simp
      go_wp2_with fail
      (with_reducible refine (rcount_to _ q _ HQ.out).mono ?_)
      rintro e w' ⟨rfl, rfl⟩
      refine hK.out _ _ (hS _ hk6) (fun hHeld => ?_)
      clear hK K
      refine wpAnyH_take (i := 12) (v := ?vv12) rfl (by kernel_rfl) (by kernel_rfl) (by kernel_rfl) (fun _ _ _ h => h) (Or.inl ⟨by rfl, ?yv12⟩) (by assumption) ?rv12
      case yv12 => intro w hSw; (try dsimp only at hSw); go_simp <;> (try with_reducible rfl)
      (try simp only [List.getElem_toArray, List.getElem_cons_succ, List.getElem_cons_zero, Act.put, List.setIfInBounds_toArray, List.set_cons_zero, List.set_cons_succ])
      refine wpAnyH_take (i := 13) (v := ?vv13) rfl (by kernel_rfl) (by kernel_rfl) (by kernel_rfl) (fun _ _ _ h => h) (Or.inl ⟨by rfl, ?yv13⟩) (by assumption) ?rv13
      case yv13 => intro w hSw; (try dsimp only at hSw); go_simp <;> (try with_reducible rfl)
      (try simp only [List.getElem_toArray, List.getElem_cons_succ, List.getElem_cons_zero, Act.put, List.setIfInBounds_toArray, List.set_cons_zero, List.set_cons_succ])
      refine wpAnyH_take (i := 14) (v := ?vv14) rfl (by kernel_rfl) (by kernel_rfl) (by kernel_rfl) (fun _ _ _ h => h) (Or.inl ⟨by rfl, ?yv14⟩) (by assumption) ?rv14
      case yv14 => intro w hSw; (try dsimp only at hSw); go_simp <;> (try with_reducible rfl)
      (try simp only [List.getElem_toArray, List.getElem_cons_succ, List.getElem_cons_zero, Act.put, List.setIfInBounds_toArray, List.set_cons_zero, List.set_cons_succ])
      refine wpAnyH_take (i := 15) (v := ?vv15) rfl (by kernel_rfl) (by kernel_rfl) (by kernel_rfl) (fun _ _ _ h => h) (Or.inl ⟨by rfl, ?yv15⟩) (by assumption) ?rv15
      case yv15 => intro w hSw; (try dsimp only at hSw); go_simp <;> (try with_reducible rfl)
      (try simp only [List.getElem_toArray, List.getElem_cons_succ, List.getElem_cons_zero, Act.put, List.setIfInBounds_toArray, List.set_cons_zero, List.set_cons_succ])
      refine wpAnyH_take (i := 16) (v := ?vv16) rfl (by kernel_rfl) (by kernel_rfl) (by kernel_rfl) (fun _ _ _ h => h) (Or.inl ⟨by rfl, ?yv16⟩) (by assumption) ?rv16
      case yv16 => intro w hSw; (try dsimp only at hSw); go_simp <;> (try with_reducible rfl)
      (try simp only [List.getElem_toArray, List.getElem_cons_succ, List.getElem_cons_zero, Act.put, List.setIfInBounds_toArray, List.set_cons_zero, List.set_cons_succ])
      refine wpAnyH_take (i := 18) (v := ?vv18) rfl (by kernel_rfl) (by kernel_rfl) (by kernel_rfl) (fun _ _ _ h => h) (Or.inl ⟨by rfl, ?yv18⟩) (by assumption) ?rv18
      case yv18 => intro w hSw; (try dsimp only at hSw); go_simp <;> (try with_reducible rfl)
      (try simp only [List.getElem_toArray, List.getElem_cons_succ, List.getElem_cons_zero, Act.put, List.setIfInBounds_toArray, List.set_cons_zero, List.set_cons_succ])
      refine wpAnyH_take (i := 19) (v := ?vv19) rfl (by kernel_rfl) (by kernel_rfl) (by kernel_rfl) (fun _ _ _ h => h) (Or.inl ⟨by rfl, ?yv19⟩) (by assumption) ?rv19
      case yv19 => intro w hSw; (try dsimp only at hSw); go_simp <;> (try with_reducible rfl)
      (try simp only [List.getElem_toArray, List.getElem_cons_succ, List.getElem_cons_zero, Act.put, List.setIfInBounds_toArray, List.set_cons_zero, List.set_cons_succ])
      refine wpAnyH_ready (rs := [17]) (by kernel_rfl) (by simp) ?_
      refine AllReadyH.cons rfl (fun K hK => ?_) AllReadyH.nil
      go_simp
      go_wp2_with fail
      (with_reducible refine (size_any _ _ z _ HZ.out).mono ?_)
      rintro e w7 ⟨rfl, hb7⟩
      have hk7 := below_join hk6 hb7
      refine hK.out _ _ (hS _ hk7) (fun hHeld => ?_)
      clear hK K hk6 hb7
      refine wpAnyH_ready (rs := [20]) (by kernel_rfl) (by simp) ?_
      refine AllReadyH.cons rfl (fun K hK => ?_) AllReadyH.nil
      go_simp
      go_wp2_with fail
      (with_reducible refine (rsize_any _ _ z _ HZ.out).mono ?_)
      rintro e w8 ⟨rfl, hb8⟩
      have hk8 := below_join hk7 hb8
      refine hK.out _ _ (hS _ hk8) (fun hHeld => ?_)
      clear hK K hk7 hb8
      refine wpAnyH_take (i := 21) (v := ?vv21) rfl (by kernel_rfl) (by kernel_rfl) (by kernel_rfl) (fun _ _ _ h => h) (Or.inl ⟨by rfl, ?yv21⟩) (by assumption) ?rv21
      case yv21 => intro w hSw; (try dsimp only at hSw); go_simp <;> (try with_reducible rfl)
      (try simp only [List.getElem_toArray, List.getElem_cons_succ, List.getElem_cons_zero, Act.put, List.setIfInBounds_toArray, List.set_cons_zero, List.set_cons_succ])
      refine wpAnyH_take (i := 22) (v := ?vv22) rfl (by kernel_rfl) (by kernel_rfl) (by kernel_rfl) (fun _ _ _ h => h) (Or.inl ⟨by rfl, ?yv22⟩) (by assumption) ?rv22
      case yv22 => intro w hSw; (try dsimp only at hSw); go_simp <;> (try with_reducible rfl)
      (try simp only [List.getElem_toArray, List.getElem_cons_succ, List.getElem_cons_zero, Act.put, List.setIfInBounds_toArray, List.set_cons_zero, List.set_cons_succ])
      refine wpAnyH_take (i := 23) (v := ?vv23) rfl (by kernel_rfl) (by kernel_rfl) (by kernel_rfl) (fun _ _ _ h => h) (Or.inl ⟨by rfl, ?yv23⟩) (by assumption) ?rv23
      case yv23 => intro w hSw; (try dsimp only at hSw); go_simp <;> (try with_reducible rfl)
      (try simp only [List.getElem_toArray, List.getElem_cons_succ, List.getElem_cons_zero, Act.put, List.setIfInBounds_toArray, List.set_cons_zero, List.set_cons_succ])
      refine wpAnyH_done (by kernel_rfl) ?_ _
      have hbelZ := below_join hbel5 hk8
      go_wp2
      go_ret
      exact ⟨rfl, hbelZ⟩
end Go.Proofs.YtkakiepaffhhjaaDoor
