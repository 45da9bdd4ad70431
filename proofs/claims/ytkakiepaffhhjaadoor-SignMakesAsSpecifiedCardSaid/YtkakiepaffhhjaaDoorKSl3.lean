/-
  The walk over the statement on public keys, messages and signatures. Conditions: the tables read as the document has them.
-/
import Derived.Test.YtkakiepaffhhjaaDoorJJ
namespace Go.Proofs.YtkakiepaffhhjaaDoor
open Go.RowKit

set_option maxRecDepth 100000 in
set_option maxHeartbeats 3200000 in
theorem makeLaw_any (seed : ByteArray) (h i : Int) (ms : ByteArray) (pub : List UInt8) (w : World) (z0 : seed.size ≤ 140737488351232) (z3 : ms.size ≤ 140737488351232) (hi : WM.okI i) (hp : pub.length = 16) (HY : Lay w) (HC : LayC w) :
    Calls Tryd.prog 4 #[.string seed, .int .i64 h, .int .i64 i, .string ms, .agg (pub.map B8).toArray] w fun e w' => e = .returned (.bool true) ∧ Below w.heap.size w w' := by
  have HP := Lib.hid hp
  obtain ⟨D, hD⟩ : ∃ D, (Unit → pubD seed.data.toList h = D) := ⟨_, fun _ => rfl⟩
  have hDl : Hid (D.length = 16) := by rw [← hD ()]; exact pubD_length _ _
  obtain ⟨e1, he1⟩ : ∃ e1, Hid (pubE h = e1) := ⟨_, rfl⟩
  obtain ⟨R, hR⟩ : ∃ R : ByteArray, (Unit → sgS seed.data.toList h i ms.data.toList = R.data.toList) := ⟨⟨(sgS seed.data.toList h i ms.data.toList).toArray⟩, fun _ => (str_toList _).symm⟩
  obtain ⟨e2, he2⟩ : ∃ e2, Hid (sgE h i = e2) := ⟨_, rfl⟩
  obtain ⟨M, hM⟩ : ∃ M, (Unit → SG.message pub i ms.data.toList = M) := ⟨_, fun _ => rfl⟩
  have hMl : Hid (M.length = 16) := by rw [← hM ()]; exact SG.message_length _ _ _
  have heqD := run_eqlDig D D hDl.out hDl.out
  have heqM := run_eqlDig M M hMl.out hMl.out
  have hdD : decide (D = D) = true := decide_eq_true rfl
  have hdM : decide (M = M) = true := decide_eq_true rfl
  rw [hdD] at heqD
  rw [hdM] at heqM
  clear hp hdD hdM
  go_enter Tryd.func4, Tryd.ntmps4
  go_wp2_with (with_reducible refine wpList_box (o := ⟨some 9, .box 23 (.tmp 4), _, _, _, _⟩) ?g1 23 (.tmp 4) ?o1 (.agg (pub.map B8).toArray) (pub.map B8) ?x1 ?c1 ?_)
  try (case g1 => rfl)
  try (case o1 => rfl)
  try (case x1 => rfl)
  try (case c1 => rfl)
  intro gp w1 hgp hs1 hb1 hB1
  have hbel1 : Below w.heap.size w w1 := hb1.mono (Nat.le_of_eq hgp.out.symm)
  clear hgp hs1 hb1
  go_wp2_with fail
  (with_reducible refine (sanity_any _ (HY.next hbel1)).mono ?_)
  rintro e w2 ⟨rfl, hb2⟩
  have hB2 := hB1.next hb2 hB1.lt
  have hbel2 := below_join hbel1 hb2
  clear hB1 hbel1 hb2
  by_cases h1 : 200 < seed.size
  · go_wp2
    go_ret
    exact ⟨rfl, hbel2⟩
  by_cases h2 : 200 < ms.size
  · go_wp2
    go_ret
    exact ⟨rfl, hbel2⟩
  by_cases h3 : 2 < h ∧ h ≤ 6
  · obtain ⟨h3a, h3b⟩ := h3
    go_wp2
    go_ret
    exact ⟨rfl, hbel2⟩
  have h3' : h ≤ 2 ∨ (2 < h ∧ 6 < h) := by omega
  clear h3
  rcases h3' with h3 | ⟨h3, h4⟩
  · skip
    go_wp2_with fail
    (with_reducible refine (public_any seed h D _ hD (by omega) (HY.next hbel2)).mono ?_)
    rintro e w3 ⟨rfl, hb3⟩
    rw [he1.out]
    have hB3 := hB2.next hb3 hB2.lt
    have hbel3 := below_join hbel2 hb3
    clear hB2 hbel2 hb3
    go_wp2_with (with_reducible refine wpList_alloc (o := ⟨some 12, .alloc 23, _, _, _, _⟩) (by with_unfolding_all rfl) 23 (by with_unfolding_all rfl) (aggB (SM.zeros 16)) zero16 (by exact Tryd.zero44) (by with_unfolding_all rfl) ?_)
    intro ga w4 hga hs4 hb4 hB4
    have hle : w3.heap.size ≤ ga := Nat.le_of_eq hga.out.symm
    go_wp2_with (with_reducible refine wpList_put (o := ⟨none, .store 23 (.tmp 12) (.tmp 42), _, _, _, _⟩) (by with_unfolding_all rfl) 23 (.tmp 12) (.tmp 42) (by with_unfolding_all rfl) ga 0 (by with_unfolding_all rfl) (.agg (D.map B8).toArray) (by with_unfolding_all rfl) hB4 (D.map B8) (by with_unfolding_all rfl) (by rw [List.length_map, hDl.out]; exact Tryd.size44) (by with_unfolding_all (rw [List.length_map, hDl.out]; exact Nat.le_refl _)) (B8_one _) ?_)
    intro w5 hu5 hA5
    rw [splice_all _ _ (by rw [List.length_map, hDl.out]; rfl)] at hA5
    have hb5 : Below w3.heap.size w3 w5 := (hb4.mono hle).trans (hu5.below (B := w3.heap.size) hle)
    have hB5 := hB3.next hb5 hB3.lt
    have hbel5 := below_join hbel3 hb5
    clear hB3 hbel3 hb5 hb4 hB4 hu5 hga hs4 hle
    go_wp2_with fail
    (with_reducible refine (rpublic_any seed h D _ hD (by omega) (HC.next hbel5)).mono ?_)
    rintro e w6 ⟨rfl, hb6⟩
    rw [he1.out]
    have hA6 := hA5.next hb6 hA5.lt
    have hB6 := hB5.next hb6 hB5.lt
    have hbel6 := below_join hbel5 hb6
    clear hA5 hB5 hbel5 hb6
    go_wp2_with (with_reducible refine wpList_alloc (o := ⟨some 14, .alloc 23, _, _, _, _⟩) (by with_unfolding_all rfl) 23 (by with_unfolding_all rfl) (aggB (SM.zeros 16)) zero16 (by exact Tryd.zero44) (by with_unfolding_all rfl) ?_)
    intro gb w7 hgb hs7 hb7 hB7
    have hle : w6.heap.size ≤ gb := Nat.le_of_eq hgb.out.symm
    go_wp2_with (with_reducible refine wpList_put (o := ⟨none, .store 23 (.tmp 14) (.tmp 48), _, _, _, _⟩) (by with_unfolding_all rfl) 23 (.tmp 14) (.tmp 48) (by with_unfolding_all rfl) gb 0 (by with_unfolding_all rfl) (.agg (D.map B8).toArray) (by with_unfolding_all rfl) hB7 (D.map B8) (by with_unfolding_all rfl) (by rw [List.length_map, hDl.out]; exact Tryd.size44) (by with_unfolding_all (rw [List.length_map, hDl.out]; exact Nat.le_refl _)) (B8_one _) ?_)
    intro w8 hu8 hC8
    rw [splice_all _ _ (by rw [List.length_map, hDl.out]; rfl)] at hC8
    have hb8 : Below w6.heap.size w6 w8 := (hb7.mono hle).trans (hu8.below (B := w6.heap.size) hle)
    have hA8 := hA6.next hb8 hA6.lt
    have hB8 := hB6.next hb8 hB6.lt
    have hbel8 := below_join hbel6 hb8
    clear hA6 hB6 hbel6 hb8 hb7 hB7 hu8 hgb hs7 hle
    go_wp2_with fail
    (with_reducible refine (ssign_b seed h i ms R e2 _ hR he2.out (by omega) (by omega) (HY.next hbel8)).mono ?_)
    rintro e w9 ⟨rfl, hb9⟩
    have hA9 := hA8.next hb9 hA8.lt
    have hB9 := hB8.next hb9 hB8.lt
    have hC9 := hC8.next hb9 hC8.lt
    have hbel9 := below_join hbel8 hb9
    clear hA8 hB8 hC8 hbel8 hb9
    go_wp2_with fail
    (with_reducible refine (rsign_b seed h i ms R e2 _ hR he2.out (by omega) (by omega) (HC.next hbel9)).mono ?_)
    rintro e w10 ⟨rfl, hb10⟩
    have hA10 := hA9.next hb10 hA9.lt
    have hB10 := hB9.next hb10 hB9.lt
    have hC10 := hC9.next hb10 hC9.lt
    have hbel10 := below_join hbel9 hb10
    clear hA9 hB9 hC9 hbel9 hb10
    have hun := Tryd.underlying23
    have hzp : (Tryd.prog.info? 23).map (·.size) = some (pub.map B8).length := by rw [List.length_map, HP.out]; exact Tryd.size44
    have hzD : (Tryd.prog.info? 23).map (·.size) = some (D.map B8).length := by rw [List.length_map, hDl.out]; exact Tryd.size44
    have hS : ∀ w', Below w10.heap.size w10 w' → (Below w.heap.size w w' ∧ w'.rangeAt ga 0 (D.map B8) ∧ w'.rangeAt gb 0 (D.map B8) ∧ w'.rangeAt gp 0 (pub.map B8)) := fun w' h => ⟨below_join hbel10 h, blk_range (hA10.next h hA10.lt), blk_range (hC10.next h hC10.lt), blk_range (hB10.next h hB10.lt)⟩
    have hd10 := below_drew w10
    have hgd44 := Tryd.guard44
    go_wp2
    refine wp_region_held_drew (S := fun w' => Below w.heap.size w w' ∧ w'.rangeAt ga 0 (D.map B8) ∧ w'.rangeAt gb 0 (D.map B8) ∧ w'.rangeAt gp 0 (pub.map B8)) (by kernel_rfl) (hS _ hd10) (fun hHeld => ?_)
    generalize w10.drew = wd at hd10 hHeld ⊢
    refine wpAnyH_take (i := 0) (v := ?vva0) rfl (by kernel_rfl) (by kernel_rfl) (by kernel_rfl) (fun _ _ _ h => h) (Or.inl ⟨by rfl, ?yva0⟩) (by assumption) ?rva0
    case yva0 => intro w hSw; (try dsimp only at hSw); go_simp <;> (try with_reducible rfl)
    (try simp only [List.getElem_toArray, List.getElem_cons_zero, Act.put, List.setIfInBounds_toArray, List.set_cons_zero, List.set_cons_succ])
    refine wpAnyH_take (i := 1) (v := ?vva1) rfl (by kernel_rfl) (by kernel_rfl) (by kernel_rfl) (fun _ _ _ h => h) (Or.inl ⟨by rfl, ?yva1⟩) (by assumption) ?rva1
    case yva1 => intro w hSw; (try dsimp only at hSw); go_simp <;> (try with_reducible rfl)
    (try simp only [List.getElem_toArray, List.getElem_cons_succ, List.getElem_cons_zero, Act.put, List.setIfInBounds_toArray, List.set_cons_zero, List.set_cons_succ])
    refine' wpAnyH_take (i := 2) (v := _) rfl (by kernel_rfl) (by kernel_rfl) (by kernel_rfl) (fun _ _ _ h => h) (yieldsIf_load_mid (by rfl) _ _ (by rfl) _ _ (by rfl) _ _ ?Sva2 ?uva2 ?dva2 ?iva2) (by assumption) ?rva2
    case Sva2 => exact (by intro w h; exact h.2.1)
    case uva2 => exact hun
    case dva2 => rfl
    case iva2 => exact hzD
    (try simp only [List.getElem_toArray, List.getElem_cons_succ, List.getElem_cons_zero, Act.put, List.setIfInBounds_toArray, List.set_cons_zero, List.set_cons_succ])
    refine' wpAnyH_take (i := 3) (v := _) rfl (by kernel_rfl) (by kernel_rfl) (by kernel_rfl) (fun _ _ _ h => h) (yieldsIf_load_mid (by rfl) _ _ (by rfl) _ _ (by rfl) _ _ ?Sva3 ?uva3 ?dva3 ?iva3) (by assumption) ?rva3
    case Sva3 => exact (by intro w h; exact h.2.2.1)
    case uva3 => exact hun
    case dva3 => rfl
    case iva3 => exact hzD
    (try simp only [List.getElem_toArray, List.getElem_cons_succ, List.getElem_cons_zero, Act.put, List.setIfInBounds_toArray, List.set_cons_zero, List.set_cons_succ])
    refine wpAnyH_take (i := 4) (v := ?vva4) rfl (by kernel_rfl) (by kernel_rfl) (by kernel_rfl) (fun _ _ _ h => h) (Or.inl ⟨by rfl, ?yva4⟩) (by assumption) ?rva4
    case yva4 => intro w hSw; (try dsimp only at hSw); go_simp <;> (try with_reducible rfl)
    (try simp only [List.getElem_toArray, List.getElem_cons_succ, List.getElem_cons_zero, Act.put, List.setIfInBounds_toArray, List.set_cons_zero, List.set_cons_succ])
    refine wpAnyH_take (i := 5) (v := ?vva5) rfl (by kernel_rfl) (by kernel_rfl) (by kernel_rfl) (fun _ _ _ h => h) (Or.inl ⟨by rfl, ?yva5⟩) (by assumption) ?rva5
    case yva5 => intro w hSw; (try dsimp only at hSw); go_simp <;> (try with_reducible rfl)
    (try simp only [List.getElem_toArray, List.getElem_cons_succ, List.getElem_cons_zero, Act.put, List.setIfInBounds_toArray, List.set_cons_zero, List.set_cons_succ])
    refine wpAnyH_take (i := 6) (v := ?vva6) rfl (by kernel_rfl) (by kernel_rfl) (by kernel_rfl) (fun _ _ _ h => h) (Or.inl ⟨by rfl, ?yva6⟩) (by assumption) ?rva6
    case yva6 => intro w hSw; (try dsimp only at hSw); go_simp <;> (try with_reducible rfl)
    (try simp only [List.getElem_toArray, List.getElem_cons_succ, List.getElem_cons_zero, Act.put, List.setIfInBounds_toArray, List.set_cons_zero, List.set_cons_succ])
    refine wpAnyH_take (i := 7) (v := ?vva7) rfl (by kernel_rfl) (by kernel_rfl) (by kernel_rfl) (fun _ _ _ h => h) (Or.inl ⟨by rfl, ?yva7⟩) (by assumption) ?rva7
    case yva7 => intro w hSw; (try dsimp only at hSw); go_simp <;> (try with_reducible rfl)
    (try simp only [List.getElem_toArray, List.getElem_cons_succ, List.getElem_cons_zero, Act.put, List.setIfInBounds_toArray, List.set_cons_zero, List.set_cons_succ])
    refine wpAnyH_take (i := 8) (v := ?vva8) rfl (by kernel_rfl) (by kernel_rfl) (by kernel_rfl) (fun _ _ _ h => h) (Or.inl ⟨by rfl, ?yva8⟩) (by assumption) ?rva8
    case yva8 => intro w hSw; (try dsimp only at hSw); go_simp <;> (try with_reducible rfl)
    (try simp only [List.getElem_toArray, List.getElem_cons_succ, List.getElem_cons_zero, Act.put, List.setIfInBounds_toArray, List.set_cons_zero, List.set_cons_succ])
    refine wpAnyH_take (i := 9) (v := ?vva9) rfl (by kernel_rfl) (by kernel_rfl) (by kernel_rfl) (fun _ _ _ h => h) (Or.inl ⟨by rfl, ?yva9⟩) (by assumption) ?rva9
    case yva9 => intro w hSw; (try dsimp only at hSw); go_simp <;> (try with_reducible rfl)
    (try simp only [List.getElem_toArray, List.getElem_cons_succ, List.getElem_cons_zero, Act.put, List.setIfInBounds_toArray, List.set_cons_zero, List.set_cons_succ])
    refine wpAnyH_take (i := 10) (v := ?vva10) rfl (by kernel_rfl) (by kernel_rfl) (by kernel_rfl) (fun _ _ _ h => h) (Or.inl ⟨by rfl, ?yva10⟩) (by assumption) ?rva10
    case yva10 => intro w hSw; (try dsimp only at hSw); go_simp <;> (try with_reducible rfl)
    (try simp only [List.getElem_toArray, List.getElem_cons_succ, List.getElem_cons_zero, Act.put, List.setIfInBounds_toArray, List.set_cons_zero, List.set_cons_succ])
    refine wpAnyH_take (i := 11) (v := ?vva11) rfl (by kernel_rfl) (by kernel_rfl) (by kernel_rfl) (fun _ _ _ h => h) (Or.inl ⟨by rfl, ?yva11⟩) (by assumption) ?rva11
    case yva11 => intro w hSw; (try dsimp only at hSw); go_simp <;> (try with_reducible rfl)
    (try simp only [List.getElem_toArray, List.getElem_cons_succ, List.getElem_cons_zero, Act.put, List.setIfInBounds_toArray, List.set_cons_zero, List.set_cons_succ])
    refine wpAnyH_take (i := 12) (v := ?vva12) rfl (by kernel_rfl) (by kernel_rfl) (by kernel_rfl) (fun _ _ _ h => h) (Or.inl ⟨by rfl, ?yva12⟩) (by assumption) ?rva12
    case yva12 => intro w hSw; (try dsimp only at hSw); go_simp <;> (try with_reducible rfl)
    (try simp only [List.getElem_toArray, List.getElem_cons_succ, List.getElem_cons_zero, Act.put, List.setIfInBounds_toArray, List.set_cons_zero, List.set_cons_succ])
    refine wpAnyH_take (i := 13) (v := ?vva13) rfl (by kernel_rfl) (by kernel_rfl) (by kernel_rfl) (fun _ _ _ h => h) (Or.inl ⟨by rfl, ?yva13⟩) (by assumption) ?rva13
    case yva13 => intro w hSw; (try dsimp only at hSw); go_simp <;> (try with_reducible rfl)
    (try simp only [List.getElem_toArray, List.getElem_cons_succ, List.getElem_cons_zero, Act.put, List.setIfInBounds_toArray, List.set_cons_zero, List.set_cons_succ])
    refine wpAnyH_take (i := 14) (v := ?vva14) rfl (by kernel_rfl) (by kernel_rfl) (by kernel_rfl) (fun _ _ _ h => h) (Or.inl ⟨by rfl, ?yva14⟩) (by assumption) ?rva14
    case yva14 => intro w hSw; (try dsimp only at hSw); go_simp <;> (try with_reducible rfl)
    (try simp only [List.getElem_toArray, List.getElem_cons_succ, List.getElem_cons_zero, Act.put, List.setIfInBounds_toArray, List.set_cons_zero, List.set_cons_succ])
    refine wpAnyH_take (i := 15) (v := ?vva15) rfl (by kernel_rfl) (by kernel_rfl) (by kernel_rfl) (fun _ _ _ h => h) (Or.inl ⟨by rfl, ?yva15⟩) (by assumption) ?rva15
    case yva15 => intro w hSw; (try dsimp only at hSw); go_simp <;> (try with_reducible rfl)
    (try simp only [List.getElem_toArray, List.getElem_cons_succ, List.getElem_cons_zero, Act.put, List.setIfInBounds_toArray, List.set_cons_zero, List.set_cons_succ])
    refine wpAnyH_take (i := 16) (v := ?vva16) rfl (by kernel_rfl) (by kernel_rfl) (by kernel_rfl) (fun _ _ _ h => h) (Or.inl ⟨by rfl, ?yva16⟩) (by assumption) ?rva16
    case yva16 => intro w hSw; (try dsimp only at hSw); go_simp <;> (try with_reducible rfl)
    (try simp only [List.getElem_toArray, List.getElem_cons_succ, List.getElem_cons_zero, Act.put, List.setIfInBounds_toArray, List.set_cons_zero, List.set_cons_succ])
    refine wpAnyH_take (i := 17) (v := ?vva17) rfl (by kernel_rfl) (by kernel_rfl) (by kernel_rfl) (fun _ _ _ h => h) (Or.inl ⟨by rfl, ?yva17⟩) (by assumption) ?rva17
    case yva17 => intro w hSw; (try dsimp only at hSw); go_simp <;> (try with_reducible rfl)
    (try simp only [List.getElem_toArray, List.getElem_cons_succ, List.getElem_cons_zero, Act.put, List.setIfInBounds_toArray, List.set_cons_zero, List.set_cons_succ])
    refine wpAnyH_take (i := 18) (v := ?vva18) rfl (by kernel_rfl) (by kernel_rfl) (by kernel_rfl) (fun _ _ _ h => h) (Or.inl ⟨by rfl, ?yva18⟩) (by assumption) ?rva18
    case yva18 => intro w hSw; (try dsimp only at hSw); go_simp <;> (try with_reducible rfl)
    (try simp only [List.getElem_toArray, List.getElem_cons_succ, List.getElem_cons_zero, Act.put, List.setIfInBounds_toArray, List.set_cons_zero, List.set_cons_succ])
    refine wpAnyH_take (i := 19) (v := ?vva19) rfl (by kernel_rfl) (by kernel_rfl) (by kernel_rfl) (fun _ _ _ h => h) (Or.inl ⟨by rfl, ?yva19⟩) (by assumption) ?rva19
    case yva19 => intro w hSw; (try dsimp only at hSw); go_simp <;> (try with_reducible rfl)
    (try simp only [List.getElem_toArray, List.getElem_cons_succ, List.getElem_cons_zero, Act.put, List.setIfInBounds_toArray, List.set_cons_zero, List.set_cons_succ])
    refine wpAnyH_take (i := 20) (v := ?vva20) rfl (by kernel_rfl) (by kernel_rfl) (by kernel_rfl) (fun _ _ _ h => h) (Or.inl ⟨by rfl, ?yva20⟩) (by assumption) ?rva20
    case yva20 => intro w hSw; (try dsimp only at hSw); go_simp <;> (try with_reducible rfl)
    (try simp only [List.getElem_toArray, List.getElem_cons_succ, List.getElem_cons_zero, Act.put, List.setIfInBounds_toArray, List.set_cons_zero, List.set_cons_succ])
    refine wpAnyH_take (i := 21) (v := ?vva21) rfl (by kernel_rfl) (by kernel_rfl) (by kernel_rfl) (fun _ _ _ h => h) (Or.inl ⟨by rfl, ?yva21⟩) (by assumption) ?rva21
    case yva21 => intro w hSw; (try dsimp only at hSw); go_simp <;> (try with_reducible rfl)
    (try simp only [List.getElem_toArray, List.getElem_cons_succ, List.getElem_cons_zero, Act.put, List.setIfInBounds_toArray, List.set_cons_zero, List.set_cons_succ])
    refine' wpAnyH_take (i := 22) (v := _) rfl (by kernel_rfl) (by kernel_rfl) (by kernel_rfl) (fun _ _ _ h => h) (yieldsIf_load_mid (by rfl) _ _ (by rfl) _ _ (by rfl) _ _ ?Sva22 ?uva22 ?dva22 ?iva22) (by assumption) ?rva22
    case Sva22 => exact (by intro w h; exact h.2.2.2)
    case uva22 => exact hun
    case dva22 => rfl
    case iva22 => exact hzp
    (try simp only [List.getElem_toArray, List.getElem_cons_succ, List.getElem_cons_zero, Act.put, List.setIfInBounds_toArray, List.set_cons_zero, List.set_cons_succ])
    refine wpAnyH_take (i := 23) (v := ?vva23) rfl (by kernel_rfl) (by kernel_rfl) (by kernel_rfl) (fun _ _ _ h => h) (Or.inl ⟨by rfl, ?yva23⟩) (by assumption) ?rva23
    case yva23 => intro w hSw; (try dsimp only at hSw); go_simp <;> (try with_reducible rfl)
    (try simp only [List.getElem_toArray, List.getElem_cons_succ, List.getElem_cons_zero, Act.put, List.setIfInBounds_toArray, List.set_cons_zero, List.set_cons_succ])
    refine wpAnyH_take (i := 24) (v := ?vva24) rfl (by kernel_rfl) (by kernel_rfl) (by kernel_rfl) (fun _ _ _ h => h) (Or.inl ⟨by rfl, ?yva24⟩) (by assumption) ?rva24
    case yva24 => intro w hSw; (try dsimp only at hSw); go_simp <;> (try with_reducible rfl)
    (try simp only [List.getElem_toArray, List.getElem_cons_succ, List.getElem_cons_zero, Act.put, List.setIfInBounds_toArray, List.set_cons_zero, List.set_cons_succ])
    refine' wpAnyH_take (i := 26) (v := _) rfl (by kernel_rfl) (by kernel_rfl) (by kernel_rfl) (fun _ _ _ h => h) (yieldsIf_load_mid (by rfl) _ _ (by rfl) _ _ (by rfl) _ _ ?Sva26 ?uva26 ?dva26 ?iva26) (by assumption) ?rva26
    case Sva26 => exact (by intro w h; exact h.2.2.2)
    case uva26 => exact hun
    case dva26 => rfl
    case iva26 => exact hzp
    (try simp only [List.getElem_toArray, List.getElem_cons_succ, List.getElem_cons_zero, Act.put, List.setIfInBounds_toArray, List.set_cons_zero, List.set_cons_succ])
    refine wpAnyH_take (i := 27) (v := ?vva27) rfl (by kernel_rfl) (by kernel_rfl) (by kernel_rfl) (fun _ _ _ h => h) (Or.inl ⟨by rfl, ?yva27⟩) (by assumption) ?rva27
    case yva27 => intro w hSw; (try dsimp only at hSw); go_simp <;> (try with_reducible rfl)
    (try simp only [List.getElem_toArray, List.getElem_cons_succ, List.getElem_cons_zero, Act.put, List.setIfInBounds_toArray, List.set_cons_zero, List.set_cons_succ])
    refine wpAnyH_take (i := 28) (v := ?vva28) rfl (by kernel_rfl) (by kernel_rfl) (by kernel_rfl) (fun _ _ _ h => h) (Or.inl ⟨by rfl, ?yva28⟩) (by assumption) ?rva28
    case yva28 => intro w hSw; (try dsimp only at hSw); go_simp <;> (try with_reducible rfl)
    (try simp only [List.getElem_toArray, List.getElem_cons_succ, List.getElem_cons_zero, Act.put, List.setIfInBounds_toArray, List.set_cons_zero, List.set_cons_succ])
    refine wpAnyH_ready (rs := [25]) (by kernel_rfl) (by simp) ?_
    refine AllReadyH.cons rfl (fun K hK => ?_) AllReadyH.nil
    go_simp
    go_wp2_with fail
    (with_reducible refine (smessage_b pub i ms M _ hM HP.out hi (by omega) (HY.next (below_join hbel10 hd10))).mono ?_)
    rintro e w11 ⟨rfl, hb11⟩
    have hk11 := below_join hd10 hb11
    clear hb11 hHeld
    refine hK.out _ _ (hS _ hk11) (fun hHeld => ?_)
    clear hK K
    refine wpAnyH_ready (rs := [29]) (by kernel_rfl) (by simp) ?_
    refine AllReadyH.cons rfl (fun K hK => ?_) AllReadyH.nil
    go_simp
    go_wp2_with fail
    (with_reducible refine (rmessage_b pub i ms M _ hM HP.out hi (by omega) (HC.next (below_join hbel10 hk11))).mono ?_)
    rintro e w12 ⟨rfl, hb12⟩
    have hk12 := below_join hk11 hb12
    clear hb12 hHeld
    refine hK.out _ _ (hS _ hk12) (fun hHeld => ?_)
    clear hK K
    refine wpAnyH_take (i := 30) (v := ?vva30) rfl (by kernel_rfl) (by kernel_rfl) (by kernel_rfl) (fun _ _ _ h => h) (Or.inl ⟨by rfl, ?yva30⟩) (by assumption) ?rva30
    case yva30 => intro w hSw; (try dsimp only at hSw); go_simp <;> (try with_reducible rfl)
    (try simp only [List.getElem_toArray, List.getElem_cons_succ, List.getElem_cons_zero, Act.put, List.setIfInBounds_toArray, List.set_cons_zero, List.set_cons_succ])
    refine wpAnyH_take (i := 31) (v := ?vva31) rfl (by kernel_rfl) (by kernel_rfl) (by kernel_rfl) (fun _ _ _ h => h) (Or.inl ⟨by rfl, ?yva31⟩) (by assumption) ?rva31
    case yva31 => intro w hSw; (try dsimp only at hSw); go_simp <;> (try with_reducible rfl)
    (try simp only [List.getElem_toArray, List.getElem_cons_succ, List.getElem_cons_zero, Act.put, List.setIfInBounds_toArray, List.set_cons_zero, List.set_cons_succ])
    refine wpAnyH_take (i := 32) (v := ?vva32) rfl (by kernel_rfl) (by kernel_rfl) (by kernel_rfl) (fun _ _ _ h => h) (Or.inl ⟨by rfl, ?yva32⟩) (by assumption) ?rva32
    case yva32 => intro w hSw; (try dsimp only at hSw); go_simp <;> (try with_reducible rfl)
    (try simp only [List.getElem_toArray, List.getElem_cons_succ, List.getElem_cons_zero, Act.put, List.setIfInBounds_toArray, List.set_cons_zero, List.set_cons_succ])
    refine wpAnyH_done (by kernel_rfl) ?_ _
    have hbelZ := below_join hbel10 hk12
    go_wp2
    go_ret
    exact ⟨rfl, hbelZ⟩
  · skip
    go_wp2_with fail
    (with_reducible refine (public_any seed h D _ hD (by omega) (HY.next hbel2)).mono ?_)
    rintro e w3 ⟨rfl, hb3⟩
    rw [he1.out]
    have hB3 := hB2.next hb3 hB2.lt
    have hbel3 := below_join hbel2 hb3
    clear hB2 hbel2 hb3
    go_wp2_with (with_reducible refine wpList_alloc (o := ⟨some 12, .alloc 23, _, _, _, _⟩) (by with_unfolding_all rfl) 23 (by with_unfolding_all rfl) (aggB (SM.zeros 16)) zero16 (by exact Tryd.zero44) (by with_unfolding_all rfl) ?_)
    intro ga w4 hga hs4 hb4 hB4
    have hle : w3.heap.size ≤ ga := Nat.le_of_eq hga.out.symm
    go_wp2_with (with_reducible refine wpList_put (o := ⟨none, .store 23 (.tmp 12) (.tmp 42), _, _, _, _⟩) (by with_unfolding_all rfl) 23 (.tmp 12) (.tmp 42) (by with_unfolding_all rfl) ga 0 (by with_unfolding_all rfl) (.agg (D.map B8).toArray) (by with_unfolding_all rfl) hB4 (D.map B8) (by with_unfolding_all rfl) (by rw [List.length_map, hDl.out]; exact Tryd.size44) (by with_unfolding_all (rw [List.length_map, hDl.out]; exact Nat.le_refl _)) (B8_one _) ?_)
    intro w5 hu5 hA5
    rw [splice_all _ _ (by rw [List.length_map, hDl.out]; rfl)] at hA5
    have hb5 : Below w3.heap.size w3 w5 := (hb4.mono hle).trans (hu5.below (B := w3.heap.size) hle)
    have hB5 := hB3.next hb5 hB3.lt
    have hbel5 := below_join hbel3 hb5
    clear hB3 hbel3 hb5 hb4 hB4 hu5 hga hs4 hle
    go_wp2_with fail
    (with_reducible refine (rpublic_any seed h D _ hD (by omega) (HC.next hbel5)).mono ?_)
    rintro e w6 ⟨rfl, hb6⟩
    rw [he1.out]
    have hA6 := hA5.next hb6 hA5.lt
    have hB6 := hB5.next hb6 hB5.lt
    have hbel6 := below_join hbel5 hb6
    clear hA5 hB5 hbel5 hb6
    go_wp2_with (with_reducible refine wpList_alloc (o := ⟨some 14, .alloc 23, _, _, _, _⟩) (by with_unfolding_all rfl) 23 (by with_unfolding_all rfl) (aggB (SM.zeros 16)) zero16 (by exact Tryd.zero44) (by with_unfolding_all rfl) ?_)
    intro gb w7 hgb hs7 hb7 hB7
    have hle : w6.heap.size ≤ gb := Nat.le_of_eq hgb.out.symm
    go_wp2_with (with_reducible refine wpList_put (o := ⟨none, .store 23 (.tmp 14) (.tmp 48), _, _, _, _⟩) (by with_unfolding_all rfl) 23 (.tmp 14) (.tmp 48) (by with_unfolding_all rfl) gb 0 (by with_unfolding_all rfl) (.agg (D.map B8).toArray) (by with_unfolding_all rfl) hB7 (D.map B8) (by with_unfolding_all rfl) (by rw [List.length_map, hDl.out]; exact Tryd.size44) (by with_unfolding_all (rw [List.length_map, hDl.out]; exact Nat.le_refl _)) (B8_one _) ?_)
    intro w8 hu8 hC8
    rw [splice_all _ _ (by rw [List.length_map, hDl.out]; rfl)] at hC8
    have hb8 : Below w6.heap.size w6 w8 := (hb7.mono hle).trans (hu8.below (B := w6.heap.size) hle)
    have hA8 := hA6.next hb8 hA6.lt
    have hB8 := hB6.next hb8 hB6.lt
    have hbel8 := below_join hbel6 hb8
    clear hA6 hB6 hbel6 hb8 hb7 hB7 hu8 hgb hs7 hle
    go_wp2_with fail
    (with_reducible refine (ssign_b seed h i ms R e2 _ hR he2.out (by omega) (by omega) (HY.next hbel8)).mono ?_)
    rintro e w9 ⟨rfl, hb9⟩
    have hA9 := hA8.next hb9 hA8.lt
    have hB9 := hB8.next hb9 hB8.lt
    have hC9 := hC8.next hb9 hC8.lt
    have hbel9 := below_join hbel8 hb9
    clear hA8 hB8 hC8 hbel8 hb9
    go_wp2_with fail
    (with_reducible refine (rsign_b seed h i ms R e2 _ hR he2.out (by omega) (by omega) (HC.next hbel9)).mono ?_)
    rintro e w10 ⟨rfl, hb10⟩
    have hA10 := hA9.next hb10 hA9.lt
    have hB10 := hB9.next hb10 hB9.lt
    have hC10 := hC9.next hb10 hC9.lt
    have hbel10 := below_join hbel9 hb10
    clear hA9 hB9 hC9 hbel9 hb10
    have hun := Tryd.underlying23
    have hzp : (Tryd.prog.info? 23).map (·.size) = some (pub.map B8).length := by rw [List.length_map, HP.out]; exact Tryd.size44
    have hzD : (Tryd.prog.info? 23).map (·.size) = some (D.map B8).length := by rw [List.length_map, hDl.out]; exact Tryd.size44
    have hS : ∀ w', Below w10.heap.size w10 w' → (Below w.heap.size w w' ∧ w'.rangeAt ga 0 (D.map B8) ∧ w'.rangeAt gb 0 (D.map B8) ∧ w'.rangeAt gp 0 (pub.map B8)) := fun w' h => ⟨below_join hbel10 h, blk_range (hA10.next h hA10.lt), blk_range (hC10.next h hC10.lt), blk_range (hB10.next h hB10.lt)⟩
    have hd10 := below_drew w10
    have hgd44 := Tryd.guard44
    go_wp2
    refine wp_region_held_drew (S := fun w' => Below w.heap.size w w' ∧ w'.rangeAt ga 0 (D.map B8) ∧ w'.rangeAt gb 0 (D.map B8) ∧ w'.rangeAt gp 0 (pub.map B8)) (by kernel_rfl) (hS _ hd10) (fun hHeld => ?_)
    generalize w10.drew = wd at hd10 hHeld ⊢
    refine wpAnyH_take (i := 0) (v := ?vvb0) rfl (by kernel_rfl) (by kernel_rfl) (by kernel_rfl) (fun _ _ _ h => h) (Or.inl ⟨by rfl, ?yvb0⟩) (by assumption) ?rvb0
    case yvb0 => intro w hSw; (try dsimp only at hSw); go_simp <;> (try with_reducible rfl)
    (try simp only [List.getElem_toArray, List.getElem_cons_zero, Act.put, List.setIfInBounds_toArray, List.set_cons_zero, List.set_cons_succ])
    refine wpAnyH_take (i := 1) (v := ?vvb1) rfl (by kernel_rfl) (by kernel_rfl) (by kernel_rfl) (fun _ _ _ h => h) (Or.inl ⟨by rfl, ?yvb1⟩) (by assumption) ?rvb1
    case yvb1 => intro w hSw; (try dsimp only at hSw); go_simp <;> (try with_reducible rfl)
    (try simp only [List.getElem_toArray, List.getElem_cons_succ, List.getElem_cons_zero, Act.put, List.setIfInBounds_toArray, List.set_cons_zero, List.set_cons_succ])
    refine' wpAnyH_take (i := 2) (v := _) rfl (by kernel_rfl) (by kernel_rfl) (by kernel_rfl) (fun _ _ _ h => h) (yieldsIf_load_mid (by rfl) _ _ (by rfl) _ _ (by rfl) _ _ ?Svb2 ?uvb2 ?dvb2 ?ivb2) (by assumption) ?rvb2
    case Svb2 => exact (by intro w h; exact h.2.1)
    case uvb2 => exact hun
    case dvb2 => rfl
    case ivb2 => exact hzD
    (try simp only [List.getElem_toArray, List.getElem_cons_succ, List.getElem_cons_zero, Act.put, List.setIfInBounds_toArray, List.set_cons_zero, List.set_cons_succ])
    refine' wpAnyH_take (i := 3) (v := _) rfl (by kernel_rfl) (by kernel_rfl) (by kernel_rfl) (fun _ _ _ h => h) (yieldsIf_load_mid (by rfl) _ _ (by rfl) _ _ (by rfl) _ _ ?Svb3 ?uvb3 ?dvb3 ?ivb3) (by assumption) ?rvb3
    case Svb3 => exact (by intro w h; exact h.2.2.1)
    case uvb3 => exact hun
    case dvb3 => rfl
    case ivb3 => exact hzD
    (try simp only [List.getElem_toArray, List.getElem_cons_succ, List.getElem_cons_zero, Act.put, List.setIfInBounds_toArray, List.set_cons_zero, List.set_cons_succ])
    refine wpAnyH_take (i := 4) (v := ?vvb4) rfl (by kernel_rfl) (by kernel_rfl) (by kernel_rfl) (fun _ _ _ h => h) (Or.inl ⟨by rfl, ?yvb4⟩) (by assumption) ?rvb4
    case yvb4 => intro w hSw; (try dsimp only at hSw); go_simp <;> (try with_reducible rfl)
    (try simp only [List.getElem_toArray, List.getElem_cons_succ, List.getElem_cons_zero, Act.put, List.setIfInBounds_toArray, List.set_cons_zero, List.set_cons_succ])
    refine wpAnyH_take (i := 5) (v := ?vvb5) rfl (by kernel_rfl) (by kernel_rfl) (by kernel_rfl) (fun _ _ _ h => h) (Or.inl ⟨by rfl, ?yvb5⟩) (by assumption) ?rvb5
    case yvb5 => intro w hSw; (try dsimp only at hSw); go_simp <;> (try with_reducible rfl)
    (try simp only [List.getElem_toArray, List.getElem_cons_succ, List.getElem_cons_zero, Act.put, List.setIfInBounds_toArray, List.set_cons_zero, List.set_cons_succ])
    refine wpAnyH_take (i := 6) (v := ?vvb6) rfl (by kernel_rfl) (by kernel_rfl) (by kernel_rfl) (fun _ _ _ h => h) (Or.inl ⟨by rfl, ?yvb6⟩) (by assumption) ?rvb6
    case yvb6 => intro w hSw; (try dsimp only at hSw); go_simp <;> (try with_reducible rfl)
    (try simp only [List.getElem_toArray, List.getElem_cons_succ, List.getElem_cons_zero, Act.put, List.setIfInBounds_toArray, List.set_cons_zero, List.set_cons_succ])
    refine wpAnyH_take (i := 7) (v := ?vvb7) rfl (by kernel_rfl) (by kernel_rfl) (by kernel_rfl) (fun _ _ _ h => h) (Or.inl ⟨by rfl, ?yvb7⟩) (by assumption) ?rvb7
    case yvb7 => intro w hSw; (try dsimp only at hSw); go_simp <;> (try with_reducible rfl)
    (try simp only [List.getElem_toArray, List.getElem_cons_succ, List.getElem_cons_zero, Act.put, List.setIfInBounds_toArray, List.set_cons_zero, List.set_cons_succ])
    refine wpAnyH_take (i := 8) (v := ?vvb8) rfl (by kernel_rfl) (by kernel_rfl) (by kernel_rfl) (fun _ _ _ h => h) (Or.inl ⟨by rfl, ?yvb8⟩) (by assumption) ?rvb8
    case yvb8 => intro w hSw; (try dsimp only at hSw); go_simp <;> (try with_reducible rfl)
    (try simp only [List.getElem_toArray, List.getElem_cons_succ, List.getElem_cons_zero, Act.put, List.setIfInBounds_toArray, List.set_cons_zero, List.set_cons_succ])
    refine wpAnyH_take (i := 9) (v := ?vvb9) rfl (by kernel_rfl) (by kernel_rfl) (by kernel_rfl) (fun _ _ _ h => h) (Or.inl ⟨by rfl, ?yvb9⟩) (by assumption) ?rvb9
    case yvb9 => intro w hSw; (try dsimp only at hSw); go_simp <;> (try with_reducible rfl)
    (try simp only [List.getElem_toArray, List.getElem_cons_succ, List.getElem_cons_zero, Act.put, List.setIfInBounds_toArray, List.set_cons_zero, List.set_cons_succ])
    refine wpAnyH_take (i := 10) (v := ?vvb10) rfl (by kernel_rfl) (by kernel_rfl) (by kernel_rfl) (fun _ _ _ h => h) (Or.inl ⟨by rfl, ?yvb10⟩) (by assumption) ?rvb10
    case yvb10 => intro w hSw; (try dsimp only at hSw); go_simp <;> (try with_reducible rfl)
    (try simp only [List.getElem_toArray, List.getElem_cons_succ, List.getElem_cons_zero, Act.put, List.setIfInBounds_toArray, List.set_cons_zero, List.set_cons_succ])
    refine wpAnyH_take (i := 11) (v := ?vvb11) rfl (by kernel_rfl) (by kernel_rfl) (by kernel_rfl) (fun _ _ _ h => h) (Or.inl ⟨by rfl, ?yvb11⟩) (by assumption) ?rvb11
    case yvb11 => intro w hSw; (try dsimp only at hSw); go_simp <;> (try with_reducible rfl)
    (try simp only [List.getElem_toArray, List.getElem_cons_succ, List.getElem_cons_zero, Act.put, List.setIfInBounds_toArray, List.set_cons_zero, List.set_cons_succ])
    refine wpAnyH_take (i := 12) (v := ?vvb12) rfl (by kernel_rfl) (by kernel_rfl) (by kernel_rfl) (fun _ _ _ h => h) (Or.inl ⟨by rfl, ?yvb12⟩) (by assumption) ?rvb12
    case yvb12 => intro w hSw; (try dsimp only at hSw); go_simp <;> (try with_reducible rfl)
    (try simp only [List.getElem_toArray, List.getElem_cons_succ, List.getElem_cons_zero, Act.put, List.setIfInBounds_toArray, List.set_cons_zero, List.set_cons_succ])
    refine wpAnyH_take (i := 13) (v := ?vvb13) rfl (by kernel_rfl) (by kernel_rfl) (by kernel_rfl) (fun _ _ _ h => h) (Or.inl ⟨by rfl, ?yvb13⟩) (by assumption) ?rvb13
    case yvb13 => intro w hSw; (try dsimp only at hSw); go_simp <;> (try with_reducible rfl)
    (try simp only [List.getElem_toArray, List.getElem_cons_succ, List.getElem_cons_zero, Act.put, List.setIfInBounds_toArray, List.set_cons_zero, List.set_cons_succ])
    refine wpAnyH_take (i := 14) (v := ?vvb14) rfl (by kernel_rfl) (by kernel_rfl) (by kernel_rfl) (fun _ _ _ h => h) (Or.inl ⟨by rfl, ?yvb14⟩) (by assumption) ?rvb14
    case yvb14 => intro w hSw; (try dsimp only at hSw); go_simp <;> (try with_reducible rfl)
    (try simp only [List.getElem_toArray, List.getElem_cons_succ, List.getElem_cons_zero, Act.put, List.setIfInBounds_toArray, List.set_cons_zero, List.set_cons_succ])
    refine wpAnyH_take (i := 15) (v := ?vvb15) rfl (by kernel_rfl) (by kernel_rfl) (by kernel_rfl) (fun _ _ _ h => h) (Or.inl ⟨by rfl, ?yvb15⟩) (by assumption) ?rvb15
    case yvb15 => intro w hSw; (try dsimp only at hSw); go_simp <;> (try with_reducible rfl)
    (try simp only [List.getElem_toArray, List.getElem_cons_succ, List.getElem_cons_zero, Act.put, List.setIfInBounds_toArray, List.set_cons_zero, List.set_cons_succ])
    refine wpAnyH_take (i := 16) (v := ?vvb16) rfl (by kernel_rfl) (by kernel_rfl) (by kernel_rfl) (fun _ _ _ h => h) (Or.inl ⟨by rfl, ?yvb16⟩) (by assumption) ?rvb16
    case yvb16 => intro w hSw; (try dsimp only at hSw); go_simp <;> (try with_reducible rfl)
    (try simp only [List.getElem_toArray, List.getElem_cons_succ, List.getElem_cons_zero, Act.put, List.setIfInBounds_toArray, List.set_cons_zero, List.set_cons_succ])
    refine wpAnyH_take (i := 17) (v := ?vvb17) rfl (by kernel_rfl) (by kernel_rfl) (by kernel_rfl) (fun _ _ _ h => h) (Or.inl ⟨by rfl, ?yvb17⟩) (by assumption) ?rvb17
    case yvb17 => intro w hSw; (try dsimp only at hSw); go_simp <;> (try with_reducible rfl)
    (try simp only [List.getElem_toArray, List.getElem_cons_succ, List.getElem_cons_zero, Act.put, List.setIfInBounds_toArray, List.set_cons_zero, List.set_cons_succ])
    refine wpAnyH_take (i := 18) (v := ?vvb18) rfl (by kernel_rfl) (by kernel_rfl) (by kernel_rfl) (fun _ _ _ h => h) (Or.inl ⟨by rfl, ?yvb18⟩) (by assumption) ?rvb18
    case yvb18 => intro w hSw; (try dsimp only at hSw); go_simp <;> (try with_reducible rfl)
    (try simp only [List.getElem_toArray, List.getElem_cons_succ, List.getElem_cons_zero, Act.put, List.setIfInBounds_toArray, List.set_cons_zero, List.set_cons_succ])
    refine wpAnyH_take (i := 19) (v := ?vvb19) rfl (by kernel_rfl) (by kernel_rfl) (by kernel_rfl) (fun _ _ _ h => h) (Or.inl ⟨by rfl, ?yvb19⟩) (by assumption) ?rvb19
    case yvb19 => intro w hSw; (try dsimp only at hSw); go_simp <;> (try with_reducible rfl)
    (try simp only [List.getElem_toArray, List.getElem_cons_succ, List.getElem_cons_zero, Act.put, List.setIfInBounds_toArray, List.set_cons_zero, List.set_cons_succ])
    refine wpAnyH_take (i := 20) (v := ?vvb20) rfl (by kernel_rfl) (by kernel_rfl) (by kernel_rfl) (fun _ _ _ h => h) (Or.inl ⟨by rfl, ?yvb20⟩) (by assumption) ?rvb20
    case yvb20 => intro w hSw; (try dsimp only at hSw); go_simp <;> (try with_reducible rfl)
    (try simp only [List.getElem_toArray, List.getElem_cons_succ, List.getElem_cons_zero, Act.put, List.setIfInBounds_toArray, List.set_cons_zero, List.set_cons_succ])
    refine wpAnyH_take (i := 21) (v := ?vvb21) rfl (by kernel_rfl) (by kernel_rfl) (by kernel_rfl) (fun _ _ _ h => h) (Or.inl ⟨by rfl, ?yvb21⟩) (by assumption) ?rvb21
    case yvb21 => intro w hSw; (try dsimp only at hSw); go_simp <;> (try with_reducible rfl)
    (try simp only [List.getElem_toArray, List.getElem_cons_succ, List.getElem_cons_zero, Act.put, List.setIfInBounds_toArray, List.set_cons_zero, List.set_cons_succ])
    refine' wpAnyH_take (i := 22) (v := _) rfl (by kernel_rfl) (by kernel_rfl) (by kernel_rfl) (fun _ _ _ h => h) (yieldsIf_load_mid (by rfl) _ _ (by rfl) _ _ (by rfl) _ _ ?Svb22 ?uvb22 ?dvb22 ?ivb22) (by assumption) ?rvb22
    case Svb22 => exact (by intro w h; exact h.2.2.2)
    case uvb22 => exact hun
    case dvb22 => rfl
    case ivb22 => exact hzp
    (try simp only [List.getElem_toArray, List.getElem_cons_succ, List.getElem_cons_zero, Act.put, List.setIfInBounds_toArray, List.set_cons_zero, List.set_cons_succ])
    refine wpAnyH_take (i := 23) (v := ?vvb23) rfl (by kernel_rfl) (by kernel_rfl) (by kernel_rfl) (fun _ _ _ h => h) (Or.inl ⟨by rfl, ?yvb23⟩) (by assumption) ?rvb23
    case yvb23 => intro w hSw; (try dsimp only at hSw); go_simp <;> (try with_reducible rfl)
    (try simp only [List.getElem_toArray, List.getElem_cons_succ, List.getElem_cons_zero, Act.put, List.setIfInBounds_toArray, List.set_cons_zero, List.set_cons_succ])
    refine wpAnyH_take (i := 24) (v := ?vvb24) rfl (by kernel_rfl) (by kernel_rfl) (by kernel_rfl) (fun _ _ _ h => h) (Or.inl ⟨by rfl, ?yvb24⟩) (by assumption) ?rvb24
    case yvb24 => intro w hSw; (try dsimp only at hSw); go_simp <;> (try with_reducible rfl)
    (try simp only [List.getElem_toArray, List.getElem_cons_succ, List.getElem_cons_zero, Act.put, List.setIfInBounds_toArray, List.set_cons_zero, List.set_cons_succ])
    refine' wpAnyH_take (i := 26) (v := _) rfl (by kernel_rfl) (by kernel_rfl) (by kernel_rfl) (fun _ _ _ h => h) (yieldsIf_load_mid (by rfl) _ _ (by rfl) _ _ (by rfl) _ _ ?Svb26 ?uvb26 ?dvb26 ?ivb26) (by assumption) ?rvb26
    case Svb26 => exact (by intro w h; exact h.2.2.2)
    case uvb26 => exact hun
    case dvb26 => rfl
    case ivb26 => exact hzp
    (try simp only [List.getElem_toArray, List.getElem_cons_succ, List.getElem_cons_zero, Act.put, List.setIfInBounds_toArray, List.set_cons_zero, List.set_cons_succ])
    refine wpAnyH_take (i := 27) (v := ?vvb27) rfl (by kernel_rfl) (by kernel_rfl) (by kernel_rfl) (fun _ _ _ h => h) (Or.inl ⟨by rfl, ?yvb27⟩) (by assumption) ?rvb27
    case yvb27 => intro w hSw; (try dsimp only at hSw); go_simp <;> (try with_reducible rfl)
    (try simp only [List.getElem_toArray, List.getElem_cons_succ, List.getElem_cons_zero, Act.put, List.setIfInBounds_toArray, List.set_cons_zero, List.set_cons_succ])
    refine wpAnyH_take (i := 28) (v := ?vvb28) rfl (by kernel_rfl) (by kernel_rfl) (by kernel_rfl) (fun _ _ _ h => h) (Or.inl ⟨by rfl, ?yvb28⟩) (by assumption) ?rvb28
    case yvb28 => intro w hSw; (try dsimp only at hSw); go_simp <;> (try with_reducible rfl)
    (try simp only [List.getElem_toArray, List.getElem_cons_succ, List.getElem_cons_zero, Act.put, List.setIfInBounds_toArray, List.set_cons_zero, List.set_cons_succ])
    refine wpAnyH_ready (rs := [25]) (by kernel_rfl) (by simp) ?_
    refine AllReadyH.cons rfl (fun K hK => ?_) AllReadyH.nil
    go_simp
    go_wp2_with fail
    (with_reducible refine (smessage_b pub i ms M _ hM HP.out hi (by omega) (HY.next (below_join hbel10 hd10))).mono ?_)
    rintro e w11 ⟨rfl, hb11⟩
    have hk11 := below_join hd10 hb11
    clear hb11 hHeld
    refine hK.out _ _ (hS _ hk11) (fun hHeld => ?_)
    clear hK K
    refine wpAnyH_ready (rs := [29]) (by kernel_rfl) (by simp) ?_
    refine AllReadyH.cons rfl (fun K hK => ?_) AllReadyH.nil
    go_simp
    go_wp2_with fail
    (with_reducible refine (rmessage_b pub i ms M _ hM HP.out hi (by omega) (HC.next (below_join hbel10 hk11))).mono ?_)
    rintro e w12 ⟨rfl, hb12⟩
    have hk12 := below_join hk11 hb12
    clear hb12 hHeld
    refine hK.out _ _ (hS _ hk12) (fun hHeld => ?_)
    clear hK K
    refine wpAnyH_take (i := 30) (v := ?vvb30) rfl (by kernel_rfl) (by kernel_rfl) (by kernel_rfl) (fun _ _ _ h => h) (Or.inl ⟨by rfl, ?yvb30⟩) (by assumption) ?rvb30
    case yvb30 => intro w hSw; (try dsimp only at hSw); go_simp <;> (try with_reducible rfl)
    (try simp only [List.getElem_toArray, List.getElem_cons_succ, List.getElem_cons_zero, Act.put, List.setIfInBounds_toArray, List.set_cons_zero, List.set_cons_succ])
    refine wpAnyH_take (i := 31) (v := ?vvb31) rfl (by kernel_rfl) (by kernel_rfl) (by kernel_rfl) (fun _ _ _ h => h) (Or.inl ⟨by rfl, ?yvb31⟩) (by assumption) ?rvb31
    case yvb31 => intro w hSw; (try dsimp only at hSw); go_simp <;> (try with_reducible rfl)
    (try simp only [List.getElem_toArray, List.getElem_cons_succ, List.getElem_cons_zero, Act.put, List.setIfInBounds_toArray, List.set_cons_zero, List.set_cons_succ])
    refine wpAnyH_take (i := 32) (v := ?vvb32) rfl (by kernel_rfl) (by kernel_rfl) (by kernel_rfl) (fun _ _ _ h => h) (Or.inl ⟨by rfl, ?yvb32⟩) (by assumption) ?rvb32
    case yvb32 => intro w hSw; (try dsimp only at hSw); go_simp <;> (try with_reducible rfl)
    (try simp only [List.getElem_toArray, List.getElem_cons_succ, List.getElem_cons_zero, Act.put, List.setIfInBounds_toArray, List.set_cons_zero, List.set_cons_succ])
    refine wpAnyH_done (by kernel_rfl) ?_ _
    have hbelZ := below_join hbel10 hk12
    go_wp2
    go_ret
    exact ⟨rfl, hbelZ⟩
end Go.Proofs.YtkakiepaffhhjaaDoor
