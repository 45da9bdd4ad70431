/-
  Contracts of the functions that the statements of layer 3 call, part 6 of 10 (merged texts: Sc4, Sc5, Sw5, Sc6, Sc7, Sc8). Conditions: as the head of each part says.
-/
import Derived.Test.YtkakiepaffhhjaaDoorJE

/-
  Contracts of the walks over the reference's climb, digest, start, leaf and node. Conditions: digests of 16 bytes; its table reads as the document has it.
-/
namespace Go.Proofs.YtkakiepaffhhjaaDoor
open Go.RowKit

def RowPost (R : List UInt8) (w : World) (e : Ending) (w' : World) : Prop := ∃ g c, e = .returned (.slice (some ⟨g, 0, none⟩) R.length c) ∧ Holds w' (some ⟨g, 0, none⟩) (R.map B8) ∧ Below w.heap.size w w'
theorem rowPost_of {R : List UInt8} {w : World} {e : Ending} {w' : World} (h0 : 0 < R.length) (h : PutPost R w e w') : RowPost R w e w' := by
  obtain ⟨v, rfl, hown, hb⟩ := h
  obtain ⟨g, c, rfl, hcs⟩ := own_some hown h0
  exact ⟨g, c, rfl, fun j u hu => ⟨_, rfl, hcs j u hu⟩, hb⟩
theorem ints_pos (xs : List Int) : 0 < (SG.ints xs).length := by
  show 0 < (WM.encI (xs.length : Int) ++ xs.flatMap WM.encI).length
  have := WM.encI_pos (xs.length : Int)
  rw [List.length_append]; omega
theorem rints_any (A : Option Addr) (cap n : Nat) (xs : List Int) (R : List UInt8) (w : World) (hR : Unit → SG.ints xs = R) (hn : n = xs.length) (hok : ∀ x ∈ xs, WM.okI x) (h10 : xs.length ≤ 10) (hh : Holds w A (xs.map (Value.int .i64))) :
    Calls Tryd.prog 53 #[.slice A n cap] w (RowPost R w) := by
  subst hn
  rw [← hR ()]
  exact (refInts_any A cap xs w hok (by have := ints_len xs hok h10; show (SG.ints xs).length ≤ _; omega) (by omega) hh).mono fun e w' h => rowPost_of (ints_pos xs) h
theorem rints2_new (a b : Int) (R : List UInt8) (w : World) (g : Nat) (hg : g = w.heap.size) (hR : Unit → SG.ints [a, b] = R) (ha : WM.okI a) (hb : WM.okI b) :
    Calls Tryd.prog 53 #[.slice (some ⟨g, 0, none⟩) 2 2] (w.alloc (.cells #[.int .i64 a, .int .i64 b] 3)) (RowPost R w) := by
  subst hg
  have hb1 := below_new w (.cells #[.int .i64 a, .int .i64 b] 3)
  refine (rints_any _ 2 2 [a, b] R _ hR rfl (fun x hx => by simp at hx; rcases hx with rfl | rfl <;> assumption) (by simp) (holds_alloc w [.int .i64 a, .int .i64 b] 3 (0, 0))).mono ?_
  rintro e w' ⟨g', c, rfl, hh, hb2⟩
  exact ⟨g', c, rfl, hh, below_join hb1 hb2⟩
theorem rints3_new (a b c : Int) (R : List UInt8) (w : World) (g : Nat) (hg : g = w.heap.size) (hR : Unit → SG.ints [a, b, c] = R) (ha : WM.okI a) (hb : WM.okI b) (hc : WM.okI c) :
    Calls Tryd.prog 53 #[.slice (some ⟨g, 0, none⟩) 3 3] (w.alloc (.cells #[.int .i64 a, .int .i64 b, .int .i64 c] 3)) (RowPost R w) := by
  subst hg
  have hb1 := below_new w (.cells #[.int .i64 a, .int .i64 b, .int .i64 c] 3)
  refine (rints_any _ 3 3 [a, b, c] R _ hR rfl (fun x hx => by simp at hx; rcases hx with rfl | rfl | rfl <;> assumption) (by simp) (holds_alloc w [.int .i64 a, .int .i64 b, .int .i64 c] 3 (0, 0))).mono ?_
  rintro e w' ⟨g', c', rfl, hh, hb2⟩
  exact ⟨g', c', rfl, hh, below_join hb1 hb2⟩
theorem rof_new (t : Int) (vs : List ByteArray) (D : List UInt8) (w : World) (hD : Unit → ofD t vs = D) (hl : (ofIn t vs).length ≤ 100000000) (hn : vs.length ≤ 10) (HC : LayC w) :
    Calls Tryd.prog 39 #[.int .i64 t, .slice (some ⟨w.heap.size, 0, none⟩) vs.length vs.length] (w.alloc (.cells (vs.map Value.string).toArray 9)) fun e w' => e = .returned (.agg (D.map B8).toArray) ∧ Below w.heap.size w w' := by
  have hb1 := below_new w (.cells (vs.map Value.string).toArray 9)
  refine (rof_any _ vs.length vs.length t vs D _ hD rfl (by omega) hl (HC.next hb1) (holds_alloc w (vs.map Value.string) 9 (0, 0))).mono ?_
  rintro e w' ⟨rfl, hb2⟩
  exact ⟨rfl, below_join hb1 hb2⟩
theorem rof_parts (t : Nat) (ps : List (List UInt8)) (D : List UInt8) (w : World) (ht : t < 256) (hD : Unit → SG.hof t ps = D) (hl : ∀ l ∈ ps, l.length ≤ 1000000) (hn : ps.length ≤ 10) (HC : LayC w) :
    Calls Tryd.prog 39 #[.int .i64 t, .slice (some ⟨w.heap.size, 0, none⟩) ps.length ps.length] (w.alloc (.cells (ps.map fun l => Value.string ⟨l.toArray⟩).toArray 9)) fun e w' => e = .returned (.agg (D.map B8).toArray) ∧ Below w.heap.size w w' := by
  have h := rof_new (t : Int) (ps.map bs) D w (fun _ => by rw [ofD_hof t _ ht, strs_bs]; exact hD ()) (by have := parts_len (t : Int) ps hl; omega) (by rw [List.length_map]; exact hn) HC
  rw [List.length_map, List.map_map] at h
  exact h
theorem rof1_new (t : Nat) (ti : Int) (a D : List UInt8) (w : World) (g : Nat) (hg : g = w.heap.size) (hti : ti = (t : Int)) (ht : t < 256) (hD : Unit → SG.hof t [a] = D) (ha : a.length ≤ 1000000) (HC : LayC w) :
    Calls Tryd.prog 39 #[.int .i64 ti, .slice (some ⟨g, 0, none⟩) 1 1] (w.alloc (.cells #[.string ⟨a.toArray⟩] 9)) fun e w' => e = .returned (.agg (D.map B8).toArray) ∧ Below w.heap.size w w' := by
  subst hg hti
  exact rof_parts t [a] D w ht hD (fun l hl => by simp at hl; subst hl; exact ha) (by simp) HC
theorem rof2_new (t : Nat) (ti : Int) (a b D : List UInt8) (w : World) (g : Nat) (hg : g = w.heap.size) (hti : ti = (t : Int)) (ht : t < 256) (hD : Unit → SG.hof t [a, b] = D) (ha : a.length ≤ 1000000) (hb : b.length ≤ 1000000) (HC : LayC w) :
    Calls Tryd.prog 39 #[.int .i64 ti, .slice (some ⟨g, 0, none⟩) 2 2] (w.alloc (.cells #[.string ⟨a.toArray⟩, .string ⟨b.toArray⟩] 9)) fun e w' => e = .returned (.agg (D.map B8).toArray) ∧ Below w.heap.size w w' := by
  subst hg hti
  exact rof_parts t [a, b] D w ht hD (fun l hl => by simp at hl; rcases hl with rfl | rfl <;> assumption) (by simp) HC
theorem rof3_new (t : Nat) (ti : Int) (a b c D : List UInt8) (w : World) (g : Nat) (hg : g = w.heap.size) (hti : ti = (t : Int)) (ht : t < 256) (hD : Unit → SG.hof t [a, b, c] = D) (ha : a.length ≤ 1000000) (hb : b.length ≤ 1000000) (hc : c.length ≤ 1000000) (HC : LayC w) :
    Calls Tryd.prog 39 #[.int .i64 ti, .slice (some ⟨g, 0, none⟩) 3 3] (w.alloc (.cells #[.string ⟨a.toArray⟩, .string ⟨b.toArray⟩, .string ⟨c.toArray⟩] 9)) fun e w' => e = .returned (.agg (D.map B8).toArray) ∧ Below w.heap.size w w' := by
  subst hg hti
  exact rof_parts t [a, b, c] D w ht hD (fun l hl => by simp at hl; rcases hl with rfl | rfl | rfl <;> assumption) (by simp) HC

set_option maxRecDepth 100000 in
set_option maxHeartbeats 1600000 in
theorem rclimb_any (i j a b : Nat) (v D : List UInt8) (w : World) (hD : Unit → SG.climb i j v a (b - a) = D) (hi : i ≤ 1000) (hj : j ≤ 1000) (ha : a ≤ b) (hb : b ≤ 1000) (hv : v.length = 16) (HY : LayC w) :
    Calls Tryd.prog 34 #[.int .i64 i, .int .i64 j, .agg (v.map B8).toArray, .int .i64 a, .int .i64 b] w fun e w' => e = .returned (.agg (D.map B8).toArray) ∧ Below w.heap.size w w' := by
  have hiI : WM.okI (i : Int) := ⟨by omega, by omega⟩
  have hjI : WM.okI (j : Int) := ⟨by omega, by omega⟩
  have HV := Lib.hid hv
  clear hv
  go_enter Tryd.func34, Tryd.ntmps34
  go_wp2_with (with_reducible refine wpList_box (o := ⟨some 7, .box 23 (.tmp 2), _, _, _, _⟩) ?g1 23 (.tmp 2) ?o1 (.agg (v.map B8).toArray) (v.map B8) ?x1 ?c1 ?_)
  try (case g1 => rfl)
  try (case o1 => rfl)
  try (case x1 => rfl)
  try (case c1 => rfl)
  intro gv w1 hgv hs1 hb1 hB1
  go_wp2_with (with_reducible refine wpList_alloc (o := ⟨some 10, .alloc 23, _, _, _, _⟩) (by with_unfolding_all rfl) 23 (by with_unfolding_all rfl) (aggB (SM.zeros 16)) zero16 (by exact Tryd.zero44) (by with_unfolding_all rfl) ?_)
  intro gr w2 hgr hs2 hb2 hB2
  have hl1 : gv < gr := by have := hs1.out; have := hgr.out; have := hgv.out; omega
  have hle : w.heap.size ≤ gv := Nat.le_of_eq hgv.out.symm
  have hBv2 := hB1.next hb2 hl1
  have hbel2 : Below w.heap.size w w2 := (hb1.mono hle).trans (hb2.mono (by omega))
  clear hgv hgr hs1 hs2 hb1 hb2 hB1
  go_wp2
  go_loopw [11] (ClRel i j a b v gv gr w1 w) (fun k _ => b + 1 - (intOf k).toNat)
  case atStart => exact ⟨0, Nat.zero_le _, by go_num, hBv2, hB2, hbel2⟩
  case round =>
    clear hBv2 hB2 hbel2
    obtain ⟨n, hn, rfl, hBv0, hBr0, hbel⟩ := hrel
    have HVn : Hid ((SG.climb i j v a n).length = 16) := SG.climb_length i j v a HV.out n
    by_cases hlt : n < b - a
    · obtain ⟨k, hk⟩ : ∃ k, Hid (a + n + 1 = k) := ⟨_, rfl⟩
      have hkb : k ≤ 1000 := by have := hk.out; omega
      have hkb2 : k ≤ b := by have := hk.out; omega
      have hkI : WM.okI (k : Int) := ⟨by omega, by omega⟩
      obtain ⟨R, hR⟩ : ∃ R, (Unit → SG.ints [(i : Int), (j : Int), (k : Int)] = R) := ⟨_, fun _ => rfl⟩
      have hRl : R.length ≤ 110 := by rw [← hR ()]; exact ints_len _ (fun x hx => by simp at hx; rcases hx with rfl | rfl | rfl <;> assumption) (by simp)
      obtain ⟨vm, hvm⟩ : ∃ vm, Hid (SG.climb i j v a (n + 1) = vm) := ⟨_, rfl⟩
      have HVm : Hid (vm.length = 16) := by rw [← hvm.out]; exact SG.climb_length i j v a HV.out (n + 1)
      have hVm : Unit → SG.hof 1 [R, SG.climb i j v a n] = vm := fun _ => by rw [← hvm.out, SG.climb_succ, hk.out, hR ()]
      have HSUC := hvm
      rw [hk.out]
      generalize SG.climb i j v a n = vn at hBv0 HVn hVm
      have hS : ∀ w', Below wr.heap.size wr w' → Below w.heap.size w w' := fun w' h => below_join hbel h
      have hu := Tryd.underlying23
      have hz : (Tryd.prog.info? 23).map (·.size) = some (vn.map B8).length := by rw [List.length_map, HVn.out]; exact Tryd.size44
      have hdd0 := below_drew wr
      go_wp2
      refine wp_region_held_drew (S := fun w' => Below w.heap.size w w') (by kernel_rfl) (hS _ hdd0) (fun hHeld => ?_)
      generalize wr.drew = wd at hdd0 hHeld ⊢
      have hBv := hBv0
      have hBr := hBr0
      have hdd := hdd0
      refine wpAnyH_take (i := 0) (v := ?vc0) rfl (by kernel_rfl) (by kernel_rfl) (by kernel_rfl) (fun _ _ _ h => h) (Or.inl ⟨by rfl, ?yc0⟩) (by assumption) ?rc0
      case yc0 => intro w hSw; (try dsimp only at hSw); go_simp <;> (try with_reducible rfl)
      (try simp only [List.getElem_toArray, List.getElem_cons_zero, Act.put, List.setIfInBounds_toArray, List.set_cons_zero, List.set_cons_succ])
      refine wpAnyH_take (i := 1) (v := ?vc1) rfl (by kernel_rfl) (by kernel_rfl) (by kernel_rfl) (fun _ _ _ h => h) (Or.inl ⟨by rfl, ?yc1⟩) (by assumption) ?rc1
      case yc1 => intro w hSw; (try dsimp only at hSw); go_simp <;> (try with_reducible rfl)
      (try simp only [List.getElem_toArray, List.getElem_cons_succ, List.getElem_cons_zero, Act.put, List.setIfInBounds_toArray, List.set_cons_zero, List.set_cons_succ])
      refine wpAnyH_take (i := 2) (v := ?vc2) rfl (by kernel_rfl) (by kernel_rfl) (by kernel_rfl) (fun _ _ _ h => h) (Or.inl ⟨by rfl, ?yc2⟩) (by assumption) ?rc2
      case yc2 => intro w hSw; (try dsimp only at hSw); go_simp <;> (try with_reducible rfl)
      (try simp only [List.getElem_toArray, List.getElem_cons_succ, List.getElem_cons_zero, Act.put, List.setIfInBounds_toArray, List.set_cons_zero, List.set_cons_succ])
      apply rest3
      · intro hrest
        refine wpAnyH_ready (rs := [3, 6]) (by kernel_rfl) (by simp) ?_
        refine AllReadyH.cons rfl (fun K hK => ?_) (AllReadyH.cons rfl (fun K hK => ?_) AllReadyH.nil)
        · go_simp
          refine hK.out _ _ (hS _ (below_join hdd (below_new _ _))) (fun hHeld => ?_)
          clear hK K
          refine wpAnyH_ready (rs := [4, 6]) (by kernel_rfl) (by simp) ?_
          refine AllReadyH.cons rfl (fun K hK => ?_) (AllReadyH.cons rfl (fun K hK => ?_) AllReadyH.nil)
          · go_simp
            go_wp2_with fail
            (with_reducible refine (rints3_new i j k R wd _ rfl hR hiI hjI hkI).mono ?_)
            rintro e wA ⟨gA, cA, rfl, hhA, hbA⟩
            have hkA := below_join hdd hbA
            clear hHeld
            refine hK.out _ _ (hS _ hkA) (fun hHeld => ?_)
            clear hK K
            refine wpAnyH_ready (rs := [5, 6]) (by kernel_rfl) (by simp) ?_
            refine AllReadyH.cons rfl (fun K hK => ?_) (AllReadyH.cons rfl (fun K hK => ?_) AllReadyH.nil)
            · have hcv := run_conv_later wA (some ⟨gA, 0, none⟩) cA R.length R rfl hhA wA (Below.refl _ _)
              go_simp
              refine hK.out _ _ (hS _ hkA) (fun hHeld => ?_)
              clear hK K hcv
              refine wpAnyH_ready (rs := [6]) (by kernel_rfl) (by simp) ?_
              refine AllReadyH.cons rfl (fun K hK => ?_) AllReadyH.nil
              rw [if_pos (by rfl)]
              refine' wp_load_mid _ _ rfl gv 0 rfl (vn.map B8) _ ?cA4 ?uA4 ?dA4 ?iA4 ?rA4
              case cA4 => exact blk_range (hBv.next hkA hBv.lt)
              case uA4 => exact hu
              case dA4 => rfl
              case iA4 => exact hz
              (try simp only [List.getElem_toArray, List.getElem_cons_succ, List.getElem_cons_zero, Act.put, List.setIfInBounds_toArray, List.set_cons_zero, List.set_cons_succ])
              refine hK.out _ _ (hS _ hkA) (fun hHeld => ?_)
              clear hK K
              refine wpAnyH_ready (rs := [7]) (by kernel_rfl) (by simp) ?_
              refine AllReadyH.cons rfl (fun K hK => ?_) AllReadyH.nil
              go_simp
              go_wp2_with fail
              (with_reducible refine (text_any vn _ HVn.out).mono ?_)
              rintro e wT ⟨rfl, hbT⟩
              have hkT := below_join hkA hbT
              clear hHeld
              refine hK.out _ _ (hS _ hkT) (fun hHeld => ?_)
              clear hK K
              have hBvA := hBv.next hkT hBv.lt
              have hBrA := hBr.next hkT hBr.lt
              (try simp only [List.getElem_toArray, List.getElem_cons_succ, List.getElem_cons_zero, Act.put, List.setIfInBounds_toArray, List.set_cons_zero, List.set_cons_succ])
              generalize Value.slice (some ⟨wd.heap.size, 0, none⟩) 3 3 = v22
              generalize Value.slice (some ⟨gA, 0, none⟩) R.length cA = v23
              revert hBvA hBrA hHeld
              exact hrest v22 v23 wT
            · rw [if_pos (by rfl)]
              refine' wp_load_mid _ _ rfl gv 0 rfl (vn.map B8) _ ?cA3 ?uA3 ?dA3 ?iA3 ?rA3
              case cA3 => exact blk_range (hBv.next hkA hBv.lt)
              case uA3 => exact hu
              case dA3 => rfl
              case iA3 => exact hz
              (try simp only [List.getElem_toArray, List.getElem_cons_succ, List.getElem_cons_zero, Act.put, List.setIfInBounds_toArray, List.set_cons_zero, List.set_cons_succ])
              refine hK.out _ _ (hS _ hkA) (fun hHeld => ?_)
              clear hK K
              refine wpAnyH_ready (rs := [5, 7]) (by kernel_rfl) (by simp) ?_
              refine AllReadyH.cons rfl (fun K hK => ?_) (AllReadyH.cons rfl (fun K hK => ?_) AllReadyH.nil)
              · have hcv := run_conv_later wA (some ⟨gA, 0, none⟩) cA R.length R rfl hhA wA (Below.refl _ _)
                go_simp
                refine hK.out _ _ (hS _ hkA) (fun hHeld => ?_)
                clear hK K hcv
                refine wpAnyH_ready (rs := [7]) (by kernel_rfl) (by simp) ?_
                refine AllReadyH.cons rfl (fun K hK => ?_) AllReadyH.nil
                go_simp
                go_wp2_with fail
                (with_reducible refine (text_any vn _ HVn.out).mono ?_)
                rintro e wT ⟨rfl, hbT⟩
                have hkT := below_join hkA hbT
                clear hHeld
                refine hK.out _ _ (hS _ hkT) (fun hHeld => ?_)
                clear hK K
                have hBvA := hBv.next hkT hBv.lt
                have hBrA := hBr.next hkT hBr.lt
                (try simp only [List.getElem_toArray, List.getElem_cons_succ, List.getElem_cons_zero, Act.put, List.setIfInBounds_toArray, List.set_cons_zero, List.set_cons_succ])
                generalize Value.slice (some ⟨wd.heap.size, 0, none⟩) 3 3 = v22
                generalize Value.slice (some ⟨gA, 0, none⟩) R.length cA = v23
                revert hBvA hBrA hHeld
                exact hrest v22 v23 wT
              · go_simp
                go_wp2_with fail
                (with_reducible refine (text_any vn _ HVn.out).mono ?_)
                rintro e wT ⟨rfl, hbT⟩
                have hkT := below_join hkA hbT
                clear hHeld
                refine hK.out _ _ (hS _ hkT) (fun hHeld => ?_)
                clear hK K
                refine wpAnyH_ready (rs := [5]) (by kernel_rfl) (by simp) ?_
                refine AllReadyH.cons rfl (fun K hK => ?_) AllReadyH.nil
                have hcv := run_conv_later wT (some ⟨gA, 0, none⟩) cA R.length R rfl (hhA.next hbT) wT (Below.refl _ _)
                go_simp
                refine hK.out _ _ (hS _ hkT) (fun hHeld => ?_)
                clear hK K hcv
                have hBvA := hBv.next hkT hBv.lt
                have hBrA := hBr.next hkT hBr.lt
                (try simp only [List.getElem_toArray, List.getElem_cons_succ, List.getElem_cons_zero, Act.put, List.setIfInBounds_toArray, List.set_cons_zero, List.set_cons_succ])
                generalize Value.slice (some ⟨wd.heap.size, 0, none⟩) 3 3 = v22
                generalize Value.slice (some ⟨gA, 0, none⟩) R.length cA = v23
                revert hBvA hBrA hHeld
                exact hrest v22 v23 wT
          · rw [if_pos (by rfl)]
            refine' wp_load_mid _ _ rfl gv 0 rfl (vn.map B8) _ ?cA2 ?uA2 ?dA2 ?iA2 ?rA2
            case cA2 => exact blk_range (hBv.next (below_join hdd (below_new _ _)) hBv.lt)
            case uA2 => exact hu
            case dA2 => rfl
            case iA2 => exact hz
            (try simp only [List.getElem_toArray, List.getElem_cons_succ, List.getElem_cons_zero, Act.put, List.setIfInBounds_toArray, List.set_cons_zero, List.set_cons_succ])
            refine hK.out _ _ (hS _ (below_join hdd (below_new _ _))) (fun hHeld => ?_)
            clear hK K
            refine wpAnyH_ready (rs := [4]) (by kernel_rfl) (by simp) ?_
            refine AllReadyH.cons rfl (fun K hK => ?_) AllReadyH.nil
            go_simp
            go_wp2_with fail
            (with_reducible refine (rints3_new i j k R wd _ rfl hR hiI hjI hkI).mono ?_)
            rintro e wA ⟨gA, cA, rfl, hhA, hbA⟩
            have hkA := below_join hdd hbA
            clear hHeld
            refine hK.out _ _ (hS _ hkA) (fun hHeld => ?_)
            clear hK K
            refine wpAnyH_ready (rs := [5, 7]) (by kernel_rfl) (by simp) ?_
            refine AllReadyH.cons rfl (fun K hK => ?_) (AllReadyH.cons rfl (fun K hK => ?_) AllReadyH.nil)
            · have hcv := run_conv_later wA (some ⟨gA, 0, none⟩) cA R.length R rfl hhA wA (Below.refl _ _)
              go_simp
              refine hK.out _ _ (hS _ hkA) (fun hHeld => ?_)
              clear hK K hcv
              refine wpAnyH_ready (rs := [7]) (by kernel_rfl) (by simp) ?_
              refine AllReadyH.cons rfl (fun K hK => ?_) AllReadyH.nil
              go_simp
              go_wp2_with fail
              (with_reducible refine (text_any vn _ HVn.out).mono ?_)
              rintro e wT ⟨rfl, hbT⟩
              have hkT := below_join hkA hbT
              clear hHeld
              refine hK.out _ _ (hS _ hkT) (fun hHeld => ?_)
              clear hK K
              have hBvA := hBv.next hkT hBv.lt
              have hBrA := hBr.next hkT hBr.lt
              (try simp only [List.getElem_toArray, List.getElem_cons_succ, List.getElem_cons_zero, Act.put, List.setIfInBounds_toArray, List.set_cons_zero, List.set_cons_succ])
              generalize Value.slice (some ⟨wd.heap.size, 0, none⟩) 3 3 = v22
              generalize Value.slice (some ⟨gA, 0, none⟩) R.length cA = v23
              revert hBvA hBrA hHeld
              exact hrest v22 v23 wT
            · go_simp
              go_wp2_with fail
              (with_reducible refine (text_any vn _ HVn.out).mono ?_)
              rintro e wT ⟨rfl, hbT⟩
              have hkT := below_join hkA hbT
              clear hHeld
              refine hK.out _ _ (hS _ hkT) (fun hHeld => ?_)
              clear hK K
              refine wpAnyH_ready (rs := [5]) (by kernel_rfl) (by simp) ?_
              refine AllReadyH.cons rfl (fun K hK => ?_) AllReadyH.nil
              have hcv := run_conv_later wT (some ⟨gA, 0, none⟩) cA R.length R rfl (hhA.next hbT) wT (Below.refl _ _)
              go_simp
              refine hK.out _ _ (hS _ hkT) (fun hHeld => ?_)
              clear hK K hcv
              have hBvA := hBv.next hkT hBv.lt
              have hBrA := hBr.next hkT hBr.lt
              (try simp only [List.getElem_toArray, List.getElem_cons_succ, List.getElem_cons_zero, Act.put, List.setIfInBounds_toArray, List.set_cons_zero, List.set_cons_succ])
              generalize Value.slice (some ⟨wd.heap.size, 0, none⟩) 3 3 = v22
              generalize Value.slice (some ⟨gA, 0, none⟩) R.length cA = v23
              revert hBvA hBrA hHeld
              exact hrest v22 v23 wT
        · rw [if_pos (by rfl)]
          refine' wp_load_mid _ _ rfl gv 0 rfl (vn.map B8) _ ?cB ?uB ?dB ?iB ?rB
          case cB => exact blk_range (hBv.next hdd hBv.lt)
          case uB => exact hu
          case dB => rfl
          case iB => exact hz
          (try simp only [List.getElem_toArray, List.getElem_cons_succ, List.getElem_cons_zero, Act.put, List.setIfInBounds_toArray, List.set_cons_zero, List.set_cons_succ])
          refine hK.out _ _ (hS _ hdd) (fun hHeld => ?_)
          clear hK K
          refine wpAnyH_ready (rs := [3]) (by kernel_rfl) (by simp) ?_
          refine AllReadyH.cons rfl (fun K hK => ?_) AllReadyH.nil
          go_simp
          refine hK.out _ _ (hS _ (below_join hdd (below_new _ _))) (fun hHeld => ?_)
          clear hK K
          refine wpAnyH_ready (rs := [4]) (by kernel_rfl) (by simp) ?_
          refine AllReadyH.cons rfl (fun K hK => ?_) AllReadyH.nil
          go_simp
          go_wp2_with fail
          (with_reducible refine (rints3_new i j k R wd _ rfl hR hiI hjI hkI).mono ?_)
          rintro e wA ⟨gA, cA, rfl, hhA, hbA⟩
          have hkA := below_join hdd hbA
          clear hHeld
          refine hK.out _ _ (hS _ hkA) (fun hHeld => ?_)
          clear hK K
          refine wpAnyH_ready (rs := [5, 7]) (by kernel_rfl) (by simp) ?_
          refine AllReadyH.cons rfl (fun K hK => ?_) (AllReadyH.cons rfl (fun K hK => ?_) AllReadyH.nil)
          · have hcv := run_conv_later wA (some ⟨gA, 0, none⟩) cA R.length R rfl hhA wA (Below.refl _ _)
            go_simp
            refine hK.out _ _ (hS _ hkA) (fun hHeld => ?_)
            clear hK K hcv
            refine wpAnyH_ready (rs := [7]) (by kernel_rfl) (by simp) ?_
            refine AllReadyH.cons rfl (fun K hK => ?_) AllReadyH.nil
            go_simp
            go_wp2_with fail
            (with_reducible refine (text_any vn _ HVn.out).mono ?_)
            rintro e wT ⟨rfl, hbT⟩
            have hkT := below_join hkA hbT
            clear hHeld
            refine hK.out _ _ (hS _ hkT) (fun hHeld => ?_)
            clear hK K
            have hBvA := hBv.next hkT hBv.lt
            have hBrA := hBr.next hkT hBr.lt
            (try simp only [List.getElem_toArray, List.getElem_cons_succ, List.getElem_cons_zero, Act.put, List.setIfInBounds_toArray, List.set_cons_zero, List.set_cons_succ])
            generalize Value.slice (some ⟨wd.heap.size, 0, none⟩) 3 3 = v22
            generalize Value.slice (some ⟨gA, 0, none⟩) R.length cA = v23
            revert hBvA hBrA hHeld
            exact hrest v22 v23 wT
          · go_simp
            go_wp2_with fail
            (with_reducible refine (text_any vn _ HVn.out).mono ?_)
            rintro e wT ⟨rfl, hbT⟩
            have hkT := below_join hkA hbT
            clear hHeld
            refine hK.out _ _ (hS _ hkT) (fun hHeld => ?_)
            clear hK K
            refine wpAnyH_ready (rs := [5]) (by kernel_rfl) (by simp) ?_
            refine AllReadyH.cons rfl (fun K hK => ?_) AllReadyH.nil
            have hcv := run_conv_later wT (some ⟨gA, 0, none⟩) cA R.length R rfl (hhA.next hbT) wT (Below.refl _ _)
            go_simp
            refine hK.out _ _ (hS _ hkT) (fun hHeld => ?_)
            clear hK K hcv
            have hBvA := hBv.next hkT hBv.lt
            have hBrA := hBr.next hkT hBr.lt
            (try simp only [List.getElem_toArray, List.getElem_cons_succ, List.getElem_cons_zero, Act.put, List.setIfInBounds_toArray, List.set_cons_zero, List.set_cons_succ])
            generalize Value.slice (some ⟨wd.heap.size, 0, none⟩) 3 3 = v22
            generalize Value.slice (some ⟨gA, 0, none⟩) R.length cA = v23
            revert hBvA hBrA hHeld
            exact hrest v22 v23 wT
      intro v22 v23 wq hHeld hBq hBrq
      have hkB := hHeld
      have hBvB := hBq
      have hBrB := hBrq
      clear hBq hBrq hHeld
      refine wpAnyH_ready (rs := [8]) (by kernel_rfl) (by simp) ?_
      refine AllReadyH.cons rfl (fun K hK => ?_) AllReadyH.nil
      go_simp
      refine hK.out _ _ (below_join hkB (below_new _ _)) (fun hHeld => ?_)
      clear hK K
      refine wpAnyH_ready (rs := [9]) (by kernel_rfl) (by simp) ?_
      refine AllReadyH.cons rfl (fun K hK => ?_) AllReadyH.nil
      go_simp
      go_wp2_with fail
      (with_reducible refine (rof2_new 1 1 R vn vm wq _ rfl rfl (by decide) hVm (by omega) (by rw [HVn.out]; decide) (HY.next hkB)).mono ?_)
      rintro e wC ⟨rfl, hbC⟩
      have hBvC := hBvB.next hbC hBvB.lt
      have hBrC := hBrB.next hbC hBrB.lt
      have hkC := below_join hkB hbC
      clear hBvB hBrB hkB hbC hHeld
      refine hK.out _ _ hkC (fun hHeld => ?_)
      clear hK K
      refine wpAnyH_ready (rs := [10]) (by kernel_rfl) (by simp) ?_
      refine AllReadyH.cons rfl (fun K hK => ?_) AllReadyH.nil
      rw [if_pos (by rfl)]
      refine wp_put 23 (.tmp 7) (.tmp 28) rfl gv 0 rfl (.agg (vm.map B8).toArray) rfl hBvC (vm.map B8) rfl (by rw [List.length_map, HVm.out]; exact Tryd.size44) (by rw [List.length_map, HVm.out, List.length_map, HVn.out]; exact Nat.le_refl _) (B8_one _) ?_
      intro wD hu_D hBD
      rw [splice_all _ _ (by rw [List.length_map, HVm.out, List.length_map, HVn.out])] at hBD
      have hBrD := hBrC.upd hu_D (by omega)
      have hkD := hkC.trans (hu_D.below (B := w.heap.size) (by omega))
      refine hK.out _ _ hkD (fun hHeld => ?_)
      clear hK K
      refine wpAnyH_done (by kernel_rfl) ?_ _
      go_wp2
      go_roundw
      case rel => exact ⟨n + 1, by omega, by (have := hk.out; congr 1; omega), by rw [HSUC.out]; exact hBD, hBrD, hkD⟩
      case measure => simp [intOf]; omega
    · have hne : n = b - a := by omega
      have hDn : Hid (SG.climb i j v a n = D) := by
        have : SG.climb i j v a n = D := by rw [hne]; exact hD ()
        exact this
      have hDl : Hid (D.length = 16) := by rw [← hDn.out]; exact HVn.out
      rw [hDn.out] at hBv0
      have hgt : ¬ ((a + n + 1 : Nat) : Int) ≤ (b : Int) := by omega
      generalize a + n + 1 = k at hgt
      go_wp2_with (first | (with_reducible refine wpList_get (o := ⟨some 29, .load 23 (.tmp 7), _, _, _, _⟩) (by with_unfolding_all rfl) 23 (.tmp 7) (by with_unfolding_all rfl) gv 0 (by with_unfolding_all rfl) hBv0 (D.map B8) (cs_all _) (.array 16 5) (by exact Tryd.underlying23) (by with_unfolding_all rfl) (by rw [List.length_map, hDl.out]; exact Tryd.size44) ?_) | (with_reducible refine wpList_put (o := ⟨none, .store 23 (.tmp 10) (.tmp 29), _, _, _, _⟩) (by with_unfolding_all rfl) 23 (.tmp 10) (.tmp 29) (by with_unfolding_all rfl) gr 0 (by with_unfolding_all rfl) (.agg (D.map B8).toArray) (by with_unfolding_all rfl) hBr0 (D.map B8) (by with_unfolding_all rfl) (by rw [List.length_map, hDl.out]; exact Tryd.size44) (by with_unfolding_all (rw [List.length_map, hDl.out]; exact Nat.le_refl _)) (B8_one _) ?_))
      intro wE huE hBE
      rw [splice_all _ _ (by rw [List.length_map, hDl.out]; rfl)] at hBE
      have hbelE := hbel.trans (huE.below (B := w.heap.size) (by omega))
      go_wp2
      refine bodyPost_ret (results_cell_row rfl _ _ gr _ _ _ _ rfl hBE Tryd.underlying23 rfl (by rw [List.size_toArray, List.length_map, hDl.out]; exact Tryd.size44)) rfl ⟨rfl, hbelE⟩
end Go.Proofs.YtkakiepaffhhjaaDoor

/-
  Contracts of the walks over the reference's digest, start, leaf and node. Conditions: digests of 16 bytes; its table reads as the document has it.
-/
namespace Go.Proofs.YtkakiepaffhhjaaDoor
open Go.RowKit

def DgRel (D : List UInt8) (gd gr : Nat) (w : World) (i : Value) (wr : World) : Prop :=
  ∃ k : Nat, k ≤ 16 ∧ i = .int .i64 k ∧ Blk wr gd 23 (obRow D k) ∧ Blk wr gr 23 zero16 ∧ Below w.heap.size w wr
set_option maxRecDepth 100000 in
set_option maxHeartbeats 800000 in
theorem rdigest_any (s : ByteArray) (D : List UInt8) (w : World) (hD : Unit → s.data.toList.take 16 = D) (hs : 16 ≤ s.size) (hs2 : s.size ≤ 140737488351232) :
    Calls Tryd.prog 44 #[.string s] w fun e w' => e = .returned (.agg (D.map B8).toArray) ∧ Below w.heap.size w w' := by
  have hDl : Hid (D.length = 16) := by
    have : D.length = 16 := by rw [← hD (), List.length_take, bytes_size]; omega
    exact this
  go_enter Tryd.func44, Tryd.ntmps44
  go_wp2_with (with_reducible refine wpList_alloc (o := ⟨some 2, .alloc 23, _, _, _, _⟩) (by with_unfolding_all rfl) 23 (by with_unfolding_all rfl) (aggB (SM.zeros 16)) zero16 (by exact Tryd.zero44) (by with_unfolding_all rfl) ?_)
  intro gr w1 hgr hs1 hb1 hB1
  go_wp2_with (with_reducible refine wpList_alloc (o := ⟨some 3, .alloc 23, _, _, _, _⟩) (by with_unfolding_all rfl) 23 (by with_unfolding_all rfl) (aggB (SM.zeros 16)) zero16 (by exact Tryd.zero44) (by with_unfolding_all rfl) ?_)
  intro gd w2 hgd hs2 hb2 hB2
  have hl1 : gr < gd := by have := hs1.out; have := hgr.out; have := hgd.out; omega
  have hle : w.heap.size ≤ gr := Nat.le_of_eq hgr.out.symm
  have hBr2 := hB1.next hb2 hl1
  have hbel2 : Below w.heap.size w w2 := (hb1.mono hle).trans (hb2.mono (by omega))
  have hB2' : Blk w2 gd 23 (obRow D 0) := by unfold obRow; rw [hDl.out]; exact hB2
  clear hgr hgd hs1 hs2 hb1 hb2 hB1 hB2
  go_wp2
  go_loopw [4] (DgRel D gd gr w) (fun i _ => 16 - (intOf i).toNat)
  case atStart => exact ⟨0, by omega, rfl, hB2', hBr2, hbel2⟩
  case round =>
    clear hB2' hBr2 hbel2
    obtain ⟨k, hk, rfl, hB, hBr, hbel⟩ := hrel
    by_cases hk16 : k < 16
    · have hsc := Lib.hid (obRow_snoc D k (by rw [hDl.out]; exact hk16))
      have hks : k < s.size := by omega
      have hgd : Unit → D.getD k 0 = s[k] := fun _ => by rw [take_getD s.data.toList D k (hD ()).symm hk16, getD_byte s k hks]
      rw [hgd ()] at hsc
      clear hgd
      go_wp2_with (with_reducible refine wpList_put (o := ⟨none, .store 5 (.tmp 13) (.tmp 12), _, _, _, _⟩) ?g7 5 (.tmp 13) (.tmp 12) ?o7 gd k ?x7 (B8 s[k]) ?y7 hB [B8 s[k]] ?v7 ?i7 ?l7 ?q7 ?_)
      try (case y7 => rfl)
      try (case x7 => rfl)
      try (case g7 => rfl)
      try (case o7 => rfl)
      try (case v7 => rfl)
      try (case i7 => exact Tryd.size5)
      try (case l7 => (rw [obRow_length D k (by rw [hDl.out]; omega), hDl.out]; simp; omega))
      try (case q7 => exact one_cell1 rfl)
      intro w7 hu7 hB7
      have hB7' : Blk w7 gd 23 (obRow D (k + 1)) := by rw [← hsc.out]; exact hB7
      have hBr7 := hBr.upd hu7 (by omega)
      have hbel7 := hbel.trans (hu7.below (B := w.heap.size) (by omega))
      clear hB hBr hbel hu7 hB7 hsc
      go_wp2
      go_roundw
      case rel => exact ⟨k + 1, by omega, by go_num, hB7', hBr7, hbel7⟩
      case measure => simp [intOf]; omega
    · obtain rfl : k = 16 := by omega
      have hob : Unit → obRow D 16 = D.map B8 := fun _ => by have := obRow_all D; rw [hDl.out] at this; exact this
      rw [hob ()] at hB
      clear hob
      go_wp2_with (first | (with_reducible refine wpList_get (o := ⟨some 14, .load 23 (.tmp 3), _, _, _, _⟩) (by with_unfolding_all rfl) 23 (.tmp 3) (by with_unfolding_all rfl) gd 0 (by with_unfolding_all rfl) hB (D.map B8) (cs_all _) (.array 16 5) (by exact Tryd.underlying23) (by with_unfolding_all rfl) (by rw [List.length_map, hDl.out]; exact Tryd.size44) ?_) | (with_reducible refine wpList_put (o := ⟨none, .store 23 (.tmp 2) (.tmp 14), _, _, _, _⟩) (by with_unfolding_all rfl) 23 (.tmp 2) (.tmp 14) (by with_unfolding_all rfl) gr 0 (by with_unfolding_all rfl) (.agg (D.map B8).toArray) (by with_unfolding_all rfl) hBr (D.map B8) (by with_unfolding_all rfl) (by rw [List.length_map, hDl.out]; exact Tryd.size44) (by with_unfolding_all (rw [List.length_map, hDl.out]; exact Nat.le_refl _)) (B8_one _) ?_))
      intro w9 hu9 hB9
      rw [splice_all _ _ (by rw [List.length_map, hDl.out]; rfl)] at hB9
      have hbel9 := hbel.trans (hu9.below (B := w.heap.size) hle)
      go_wp2
      refine bodyPost_ret (results_cell_row rfl _ _ gr _ _ _ _ rfl hB9 Tryd.underlying23 rfl (by rw [List.size_toArray, List.length_map, hDl.out]; exact Tryd.size44)) rfl ⟨rfl, hbel9⟩
theorem rdigest_at (l D : List UInt8) (w : World) (hD : Hid (l.take 16 = D)) (hs : 16 ≤ l.length) (hs2 : l.length ≤ 1000000) :
    Calls Tryd.prog 44 #[.string ⟨l.toArray⟩] w fun e w' => e = .returned (.agg (D.map B8).toArray) ∧ Below w.heap.size w w' :=
  rdigest_any ⟨l.toArray⟩ D w (fun _ => by rw [str_toList]; exact hD.out) (by rw [str_size]; exact hs) (by rw [str_size]; omega)
set_option maxRecDepth 100000 in
set_option maxHeartbeats 800000 in
theorem rstart_any (seed : ByteArray) (i j : Nat) (D : List UInt8) (w : World) (hD : Unit → SG.start seed.data.toList i j = D) (hs : seed.size ≤ 10000000) (hi : i ≤ 1000) (hj : j ≤ 1000) (HY : LayC w) :
    Calls Tryd.prog 35 #[.string seed, .int .i64 i, .int .i64 j] w fun e w' => e = .returned (.agg (D.map B8).toArray) ∧ Below w.heap.size w w' := by
  obtain ⟨R, hR⟩ : ∃ R, (Unit → SG.ints [(i : Int), (j : Int)] = R) := ⟨_, fun _ => rfl⟩
  have hiI : WM.okI (i : Int) := ⟨by omega, by omega⟩
  have hjI : WM.okI (j : Int) := ⟨by omega, by omega⟩
  have hRl : R.length ≤ 110 := by rw [← hR ()]; exact ints_len _ (fun x hx => by simp at hx; rcases hx with rfl | rfl <;> assumption) (by simp)
  obtain ⟨M, hM⟩ : ∃ M, (Unit → mac seed.data.toList (⟨R.toArray⟩ : ByteArray).data.toList = M) := ⟨_, fun _ => rfl⟩
  have hMl : Hid (M.length = 32) := by rw [← hM ()]; exact mac_length _ _
  have HEX : Hid ((⟨M.toArray⟩ : ByteArray).extract 0 16 = ⟨D.toArray⟩) := by
    have : (⟨M.toArray⟩ : ByteArray).extract 0 16 = ⟨D.toArray⟩ := by rw [take_extract, ← hD (), ← hM (), str_toList, ← hR ()]; rfl
    exact this
  have HMS : Hid ((⟨M.toArray⟩ : ByteArray).size = 32) := by
    have : (⟨M.toArray⟩ : ByteArray).size = 32 := by rw [str_size, hMl.out]
    exact this
  have hDl : Hid (D.length = 16) := by rw [← hD ()]; exact SG.start_length _ _ _
  have HDT : Hid (D.take 16 = D) := by
    have : D.take 16 = D := List.take_of_length_le (by rw [hDl.out]; exact Nat.le_refl _)
    exact this
  clear hD
  go_enter Tryd.func35, Tryd.ntmps35
  go_wp2_with (with_reducible refine wpList_alloc (o := ⟨some 6, .alloc 23, _, _, _, _⟩) (by with_unfolding_all rfl) 23 (by with_unfolding_all rfl) (aggB (SM.zeros 16)) zero16 (by exact Tryd.zero44) (by with_unfolding_all rfl) ?_)
  intro gr w1 hgr hs1 hb1 hB1
  have hle : w.heap.size ≤ gr := Nat.le_of_eq hgr.out.symm
  have hbel1 : Below w.heap.size w w1 := hb1.mono hle
  clear hgr hs1 hb1
  go_wp2_with fail
  (with_reducible refine (rints2_new i j R w1 _ rfl hR hiI hjI).mono ?_)
  rintro e w2 ⟨g2, c2, rfl, hh2, hb2⟩
  have hB2 := hB1.next hb2 hB1.lt
  have hbel2 := below_join hbel1 hb2
  have hcv := run_conv_later w2 (some ⟨g2, 0, none⟩) c2 R.length R rfl hh2 w2 (Below.refl _ _)
  clear hB1 hbel1 hb2 hh2
  have hRs : (⟨R.toArray⟩ : ByteArray).size ≤ 10000000 := by rw [str_size]; omega
  go_wp2_with fail
  (with_reducible refine (rmac_any seed ⟨R.toArray⟩ M _ hM hs hRs (HY.next hbel2)).mono ?_)
  rintro e w3 ⟨rfl, hb3⟩
  have hex := HEX.out
  have hMs := HMS.out
  generalize (⟨M.toArray⟩ : ByteArray) = ms at hMs hex ⊢
  have hB3 := hB2.next hb3 hB2.lt
  have hbel3 := below_join hbel2 hb3
  clear hB2 hbel2 hb3 hcv HEX HMS
  go_wp2_with fail
  (with_reducible refine (rdigest_at D D _ HDT (by rw [hDl.out]; exact Nat.le_refl _) (by rw [hDl.out]; decide)).mono ?_)
  rintro e w4 ⟨rfl, hb4⟩
  have hB4 := hB3.next hb4 hB3.lt
  have hbel4 := below_join hbel3 hb4
  clear hB3 hbel3 hb4
  go_wp2_with (with_reducible refine wpList_put (o := ⟨none, .store 23 (.tmp 6) (.tmp 15), _, _, _, _⟩) (by with_unfolding_all rfl) 23 (.tmp 6) (.tmp 15) (by with_unfolding_all rfl) gr 0 (by with_unfolding_all rfl) (.agg (D.map B8).toArray) (by with_unfolding_all rfl) hB4 (D.map B8) (by with_unfolding_all rfl) (by rw [List.length_map, hDl.out]; exact Tryd.size44) (by with_unfolding_all (rw [List.length_map, hDl.out]; exact Nat.le_refl _)) (B8_one _) ?_)
  intro w9 hu9 hB9
  rw [splice_all _ _ (by rw [List.length_map, hDl.out]; rfl)] at hB9
  have hbel9 := hbel4.trans (hu9.below (B := w.heap.size) hle)
  go_wp2
  refine bodyPost_ret (results_cell_row rfl _ _ gr _ _ _ _ rfl hB9 Tryd.underlying23 rfl (by rw [List.size_toArray, List.length_map, hDl.out]; exact Tryd.size44)) rfl ⟨rfl, hbel9⟩
set_option maxRecDepth 100000 in
set_option maxHeartbeats 400000 in
theorem rleaf_any (A : Option Addr) (cap n : Nat) (xs : List (List UInt8)) (D : List UInt8) (w : World) (hD : Unit → SG.leaf xs = D) (hn : n = xs.length) (h35 : xs.length ≤ 100) (h16 : ∀ d ∈ xs, d.length = 16) (hh : Holds w A (digCells xs)) (HY : LayC w) :
    Calls Tryd.prog 45 #[.slice A n cap] w fun e w' => e = .returned (.agg (D.map B8).toArray) ∧ Below w.heap.size w w' := by
  have hel : (WM.encI (xs.length : Int)).length ≤ 10 := WM.encI_le ⟨by omega, by omega⟩
  have hep := WM.encI_pos (xs.length : Int)
  have hlen : (WM.encAll (fun d => d) xs).length = (WM.encI (xs.length : Int)).length + 16 * xs.length := by
    show (WM.encI (xs.length : Int) ++ xs.flatMap fun d => d).length = _
    rw [List.length_append, digs_len xs h16]
  have hdg := fun w1 (h1 : Holds w1 A (digCells xs)) => refDigests_any A cap xs w1 h16 (by omega) (by omega) h1
  obtain ⟨R, hR⟩ : ∃ R, Hid (WM.encAll (fun d => d) xs = R) := ⟨_, rfl⟩
  have hRl : R.length ≤ 2000 := by rw [← hR.out]; omega
  have hR0 : 0 < R.length := by rw [← hR.out]; omega
  have hDh : Unit → SG.hof 1 [R] = D := fun _ => by rw [← hD (), ← hR.out]; rfl
  have hDl : Hid (D.length = 16) := by rw [← hDh ()]; exact SG.hof_length _ _
  rw [hR.out, ← hn] at hdg
  clear hD hn h16 hlen hR
  go_enter Tryd.func45, Tryd.ntmps45
  go_wp2_with (with_reducible refine wpList_alloc (o := ⟨some 2, .alloc 23, _, _, _, _⟩) (by with_unfolding_all rfl) 23 (by with_unfolding_all rfl) (aggB (SM.zeros 16)) zero16 (by exact Tryd.zero44) (by with_unfolding_all rfl) ?_)
  intro gr w1 hgr hs1 hb1 hB1
  have hle : w.heap.size ≤ gr := Nat.le_of_eq hgr.out.symm
  have hbel1 : Below w.heap.size w w1 := hb1.mono hle
  have hh1 := hh.next hbel1
  clear hgr hs1 hb1 hh
  go_wp2_with fail
  (with_reducible refine (hdg _ hh1).mono ?_)
  rintro e w2 ⟨v2, rfl, hown2, hb2⟩
  obtain ⟨g2, c2, rfl, hcs2⟩ := own_some hown2 hR0
  have hB2 := hB1.next hb2 hB1.lt
  have hbel2 := below_join hbel1 hb2
  have hcv := run_conv_later w2 (some ⟨g2, 0, none⟩) c2 R.length R rfl (fun j u hu => ⟨_, rfl, hcs2 j u hu⟩) w2 (Below.refl _ _)
  have HY2 := HY.next hbel2
  clear hown2 hcs2 hB1 hbel1 hb2 hh1 hdg
  go_wp2_with fail
  (with_reducible refine (rof1_new 1 1 R D w2 _ rfl rfl (by decide) hDh (by omega) HY2).mono ?_)
  rintro e w3 ⟨rfl, hb3⟩
  have hB3 := hB2.next hb3 hB2.lt
  have hbel3 := below_join hbel2 hb3
  clear hB2 hbel2 hb3 hcv HY2
  go_wp2_with (with_reducible refine wpList_put (o := ⟨none, .store 23 (.tmp 2) (.tmp 7), _, _, _, _⟩) (by with_unfolding_all rfl) 23 (.tmp 2) (.tmp 7) (by with_unfolding_all rfl) gr 0 (by with_unfolding_all rfl) (.agg (D.map B8).toArray) (by with_unfolding_all rfl) hB3 (D.map B8) (by with_unfolding_all rfl) (by rw [List.length_map, hDl.out]; exact Tryd.size44) (by with_unfolding_all (rw [List.length_map, hDl.out]; exact Nat.le_refl _)) (B8_one _) ?_)
  intro w4 hu4 hB4
  rw [splice_all _ _ (by rw [List.length_map, hDl.out]; rfl)] at hB4
  have hbel4 := hbel3.trans (hu4.below (B := w.heap.size) hle)
  go_wp2
  refine bodyPost_ret (results_cell_row rfl _ _ gr _ _ _ _ rfl hB4 Tryd.underlying23 rfl (by rw [List.size_toArray, List.length_map, hDl.out]; exact Tryd.size44)) rfl ⟨rfl, hbel4⟩
set_option maxRecDepth 100000 in
set_option maxHeartbeats 800000 in
theorem rnode_any (lv n : Nat) (a b D : List UInt8) (w : World) (hD : Unit → SG.node lv n a b = D) (hlv : lv ≤ 1000) (hn : n ≤ 1000000) (ha : a.length = 16) (hb : b.length = 16) (HY : LayC w) :
    Calls Tryd.prog 46 #[.int .i64 lv, .int .i64 n, .agg (a.map B8).toArray, .agg (b.map B8).toArray] w fun e w' => e = .returned (.agg (D.map B8).toArray) ∧ Below w.heap.size w w' := by
  have HA := Lib.hid ha
  have HB := Lib.hid hb
  obtain ⟨R, hR⟩ : ∃ R, (Unit → SG.ints [(lv : Int), (n : Int)] = R) := ⟨_, fun _ => rfl⟩
  have hRl : R.length ≤ 110 := by rw [← hR ()]; exact ints_len _ (fun x hx => by simp at hx; rcases hx with rfl | rfl <;> exact ⟨by omega, by omega⟩) (by simp)
  have hDh : Unit → SG.hof 2 [R, a, b] = D := fun _ => by rw [← hD (), ← hR ()]; rfl
  have hDl : Hid (D.length = 16) := by rw [← hDh ()]; exact SG.hof_length _ _
  clear hD ha hb
  go_enter Tryd.func46, Tryd.ntmps46
  go_wp2_with (with_reducible refine wpList_box (o := ⟨some 6, .box 23 (.tmp 2), _, _, _, _⟩) ?g1 23 (.tmp 2) ?o1 (.agg (a.map B8).toArray) (a.map B8) ?x1 ?c1 ?_)
  try (case g1 => rfl)
  try (case o1 => rfl)
  try (case x1 => rfl)
  try (case c1 => rfl)
  intro ga w1 hga hs1 hb1 hB1
  go_wp2_with (with_reducible refine wpList_box (o := ⟨some 7, .box 23 (.tmp 3), _, _, _, _⟩) ?g2 23 (.tmp 3) ?o2 (.agg (b.map B8).toArray) (b.map B8) ?x2 ?c2 ?_)
  try (case g2 => rfl)
  try (case o2 => rfl)
  try (case x2 => rfl)
  try (case c2 => rfl)
  intro gb w2 hgb hs2 hb2 hB2
  go_wp2_with (with_reducible refine wpList_alloc (o := ⟨some 8, .alloc 23, _, _, _, _⟩) ?g3 23 ?o3 (aggB (SM.zeros 16)) zero16 ?z3 ?c3 ?_)
  try (case g3 => rfl)
  try (case o3 => rfl)
  try (case z3 => first | exact Tryd.zero44 | simpa using Tryd.zero44)
  try (case c3 => rfl)
  intro gr w3 hgr hs3 hb3 hB3
  have hl1 : ga < gb := by have := hs1.out; have := hgb.out; have := hga.out; omega
  have hl2 : gb < gr := by have := hs2.out; have := hgr.out; have := hgb.out; omega
  have hle : w.heap.size ≤ ga := Nat.le_of_eq hga.out.symm
  have hBa := (hB1.next hb2 hl1).next hb3 (by omega)
  have hBb := hB2.next hb3 hl2
  have hbel : Below w.heap.size w w3 := ((hb1.mono hle).trans (hb2.mono (by omega))).trans (hb3.mono (by omega))
  clear hga hgb hgr hs1 hs2 hs3 hb1 hb2 hb3 hB1 hB2
  have hlvI : WM.okI (lv : Int) := ⟨by omega, by omega⟩
  have hnI : WM.okI (n : Int) := ⟨by omega, by omega⟩
  have hS : ∀ w', Below w3.heap.size w3 w' → (Below w.heap.size w w' ∧ w'.rangeAt ga 0 (a.map B8) ∧ w'.rangeAt gb 0 (b.map B8)) := fun w' h => ⟨below_join hbel h, blk_range (hBa.next h hBa.lt), blk_range (hBb.next h hBb.lt)⟩
  have hu := Tryd.underlying23
  have hza : (Tryd.prog.info? 23).map (·.size) = some (a.map B8).length := by rw [List.length_map, HA.out]; exact Tryd.size44
  have hzb : (Tryd.prog.info? 23).map (·.size) = some (b.map B8).length := by rw [List.length_map, HB.out]; exact Tryd.size44
  have hd3 := below_drew w3
  go_wp2
  refine wp_region_held_drew (S := fun w' => Below w.heap.size w w' ∧ w'.rangeAt ga 0 (a.map B8) ∧ w'.rangeAt gb 0 (b.map B8)) (by kernel_rfl) (hS _ hd3) (fun hHeld => ?_)
  generalize w3.drew = wd at hd3 hHeld ⊢
  refine wpAnyH_take (i := 0) (v := ?vj0) rfl (by kernel_rfl) (by kernel_rfl) (by kernel_rfl) (fun _ _ _ h => h) (Or.inl ⟨by rfl, ?yj0⟩) (by assumption) ?rj0
  case yj0 => intro w hSw; (try dsimp only at hSw); go_simp <;> (try with_reducible rfl)
  (try simp only [List.getElem_toArray, List.getElem_cons_zero, Act.put, List.setIfInBounds_toArray, List.set_cons_zero, List.set_cons_succ])
  refine wpAnyH_take (i := 1) (v := ?vj1) rfl (by kernel_rfl) (by kernel_rfl) (by kernel_rfl) (fun _ _ _ h => h) (Or.inl ⟨by rfl, ?yj1⟩) (by assumption) ?rj1
  case yj1 => intro w hSw; (try dsimp only at hSw); go_simp <;> (try with_reducible rfl)
  (try simp only [List.getElem_toArray, List.getElem_cons_succ, List.getElem_cons_zero, Act.put, List.setIfInBounds_toArray, List.set_cons_zero, List.set_cons_succ])
  refine' wpAnyH_take (i := 5) (v := _) rfl (by kernel_rfl) (by kernel_rfl) (by kernel_rfl) (fun _ _ _ h => h) (yieldsIf_load_mid (by rfl) _ _ (by rfl) _ _ (by rfl) _ _ ?Sj5 ?uj5 ?dj5 ?ij5) (by assumption) ?rj5
  case Sj5 => exact (by intro w h; exact h.2.1)
  case uj5 => exact hu
  case dj5 => rfl
  case ij5 => exact hza
  (try simp only [List.getElem_toArray, List.getElem_cons_succ, List.getElem_cons_zero, Act.put, List.setIfInBounds_toArray, List.set_cons_zero, List.set_cons_succ])
  refine' wpAnyH_take (i := 7) (v := _) rfl (by kernel_rfl) (by kernel_rfl) (by kernel_rfl) (fun _ _ _ h => h) (yieldsIf_load_mid (by rfl) _ _ (by rfl) _ _ (by rfl) _ _ ?Sj7 ?uj7 ?dj7 ?ij7) (by assumption) ?rj7
  case Sj7 => exact (by intro w h; exact h.2.2)
  case uj7 => exact hu
  case dj7 => rfl
  case ij7 => exact hzb
  (try simp only [List.getElem_toArray, List.getElem_cons_succ, List.getElem_cons_zero, Act.put, List.setIfInBounds_toArray, List.set_cons_zero, List.set_cons_succ])
  apply rest3
  · intro hrest
    refine wpAnyH_ready (rs := [2]) (by kernel_rfl) (by simp) ?_
    refine AllReadyH.cons rfl (fun K hK => ?_) AllReadyH.nil
    go_simp
    refine hK.out _ _ (hS _ (below_join hd3 (below_new _ _))) (fun hHeld => ?_)
    clear hK K
    refine wpAnyH_ready (rs := [3]) (by kernel_rfl) (by simp) ?_
    refine AllReadyH.cons rfl (fun K hK => ?_) AllReadyH.nil
    go_simp
    go_wp2_with fail
    (with_reducible refine (rints2_new lv n R wd _ rfl hR hlvI hnI).mono ?_)
    rintro e w4 ⟨gA, cA, rfl, hhw4, hbw4⟩
    have hkw4 := below_join hd3 hbw4
    clear hHeld
    refine hK.out _ _ (hS _ hkw4) (fun hHeld => ?_)
    clear hK K
    refine wpAnyH_ready (rs := [4, 6]) (by kernel_rfl) (by simp) ?_
    refine AllReadyH.cons rfl (fun K hK => ?_) (AllReadyH.cons rfl (fun K hK => ?_) AllReadyH.nil)
    · have hcv := run_conv_later w4 (some ⟨gA, 0, none⟩) cA R.length R rfl hhw4 w4 (Below.refl _ _)
      go_simp
      refine hK.out _ _ (hS _ hkw4) (fun hHeld => ?_)
      clear hK K hcv
      refine wpAnyH_ready (rs := [6]) (by kernel_rfl) (by simp) ?_
      refine AllReadyH.cons rfl (fun K hK => ?_) AllReadyH.nil
      go_simp
      go_wp2_with fail
      (with_reducible refine (text_any a _ HA.out).mono ?_)
      rintro e w5 ⟨rfl, hbw5⟩
      have hkw5 := below_join hkw4 hbw5
      have hhw5 := hhw4.next hbw5
      clear hHeld
      refine hK.out _ _ (hS _ hkw5) (fun hHeld => ?_)
      clear hK K
      refine wpAnyH_ready (rs := [8]) (by kernel_rfl) (by simp) ?_
      refine AllReadyH.cons rfl (fun K hK => ?_) AllReadyH.nil
      go_simp
      go_wp2_with fail
      (with_reducible refine (text_any b _ HB.out).mono ?_)
      rintro e w6 ⟨rfl, hbw6⟩
      have hkw6 := below_join hkw5 hbw6
      have hhw6 := hhw5.next hbw6
      clear hHeld
      refine hK.out _ _ (hS _ hkw6) (fun hHeld => ?_)
      clear hK K
      (try simp only [List.getElem_toArray, List.getElem_cons_succ, List.getElem_cons_zero, Act.put, List.setIfInBounds_toArray, List.set_cons_zero, List.set_cons_succ])
      generalize Value.slice (some ⟨wd.heap.size, 0, none⟩) 2 2 = v11
      generalize Value.slice (some ⟨gA, 0, none⟩) R.length cA = v12
      have hkE := hkw6
      revert hkE hHeld
      exact hrest v11 v12 w6
    · go_simp
      go_wp2_with fail
      (with_reducible refine (text_any a _ HA.out).mono ?_)
      rintro e w5 ⟨rfl, hbw5⟩
      have hkw5 := below_join hkw4 hbw5
      have hhw5 := hhw4.next hbw5
      clear hHeld
      refine hK.out _ _ (hS _ hkw5) (fun hHeld => ?_)
      clear hK K
      refine wpAnyH_ready (rs := [4, 8]) (by kernel_rfl) (by simp) ?_
      refine AllReadyH.cons rfl (fun K hK => ?_) (AllReadyH.cons rfl (fun K hK => ?_) AllReadyH.nil)
      · have hcv := run_conv_later w5 (some ⟨gA, 0, none⟩) cA R.length R rfl hhw5 w5 (Below.refl _ _)
        go_simp
        refine hK.out _ _ (hS _ hkw5) (fun hHeld => ?_)
        clear hK K hcv
        refine wpAnyH_ready (rs := [8]) (by kernel_rfl) (by simp) ?_
        refine AllReadyH.cons rfl (fun K hK => ?_) AllReadyH.nil
        go_simp
        go_wp2_with fail
        (with_reducible refine (text_any b _ HB.out).mono ?_)
        rintro e w6 ⟨rfl, hbw6⟩
        have hkw6 := below_join hkw5 hbw6
        have hhw6 := hhw5.next hbw6
        clear hHeld
        refine hK.out _ _ (hS _ hkw6) (fun hHeld => ?_)
        clear hK K
        (try simp only [List.getElem_toArray, List.getElem_cons_succ, List.getElem_cons_zero, Act.put, List.setIfInBounds_toArray, List.set_cons_zero, List.set_cons_succ])
        generalize Value.slice (some ⟨wd.heap.size, 0, none⟩) 2 2 = v11
        generalize Value.slice (some ⟨gA, 0, none⟩) R.length cA = v12
        have hkE := hkw6
        revert hkE hHeld
        exact hrest v11 v12 w6
      · go_simp
        go_wp2_with fail
        (with_reducible refine (text_any b _ HB.out).mono ?_)
        rintro e w6 ⟨rfl, hbw6⟩
        have hkw6 := below_join hkw5 hbw6
        have hhw6 := hhw5.next hbw6
        clear hHeld
        refine hK.out _ _ (hS _ hkw6) (fun hHeld => ?_)
        clear hK K
        refine wpAnyH_ready (rs := [4]) (by kernel_rfl) (by simp) ?_
        refine AllReadyH.cons rfl (fun K hK => ?_) AllReadyH.nil
        have hcv := run_conv_later w6 (some ⟨gA, 0, none⟩) cA R.length R rfl hhw6 w6 (Below.refl _ _)
        go_simp
        refine hK.out _ _ (hS _ hkw6) (fun hHeld => ?_)
        clear hK K hcv
        (try simp only [List.getElem_toArray, List.getElem_cons_succ, List.getElem_cons_zero, Act.put, List.setIfInBounds_toArray, List.set_cons_zero, List.set_cons_succ])
        generalize Value.slice (some ⟨wd.heap.size, 0, none⟩) 2 2 = v11
        generalize Value.slice (some ⟨gA, 0, none⟩) R.length cA = v12
        have hkE := hkw6
        revert hkE hHeld
        exact hrest v11 v12 w6
  intro v11 v12 w6 hHeld hk6
  refine wpAnyH_ready (rs := [9]) (by kernel_rfl) (by simp) ?_
  refine AllReadyH.cons rfl (fun K hK => ?_) AllReadyH.nil
  go_simp
  refine hK.out _ _ (hS _ (below_join hk6 (below_new _ _))) (fun hHeld => ?_)
  clear hK K
  refine wpAnyH_ready (rs := [10]) (by kernel_rfl) (by simp) ?_
  refine AllReadyH.cons rfl (fun K hK => ?_) AllReadyH.nil
  go_simp
  go_wp2_with fail
  (with_reducible refine (rof3_new 2 2 R a b D w6 _ rfl rfl (by decide) hDh (by omega) (by rw [HA.out]; decide) (by rw [HB.out]; decide) (HY.next (below_join hbel hk6))).mono ?_)
  rintro e w7 ⟨rfl, hb7⟩
  have hk7 := below_join hk6 hb7
  have hBr := hB3.next hk7 hB3.lt
  clear hb7 hHeld hk6
  refine hK.out _ _ (hS _ hk7) (fun hHeld => ?_)
  clear hK K
  refine wpAnyH_ready (rs := [11]) (by kernel_rfl) (by simp) ?_
  refine AllReadyH.cons rfl (fun K hK => ?_) AllReadyH.nil
  rw [if_pos (by rfl)]
  refine wp_put 23 (.tmp 8) (.tmp 19) rfl gr 0 rfl (.agg (D.map B8).toArray) rfl hBr (D.map B8) rfl (by rw [List.length_map, hDl.out]; exact Tryd.size44) (by rw [List.length_map, hDl.out]; exact Nat.le_refl _) (B8_one _) ?_
  intro w8 hu8 hB8
  rw [splice_all _ _ (by rw [List.length_map, hDl.out]; rfl)] at hB8
  have hk8 : Below w.heap.size w w8 := (below_join hbel hk7).trans (hu8.below (by omega))
  have hBa8 := (hBa.next hk7 hBa.lt).upd hu8 (by omega)
  have hBb8 := (hBb.next hk7 hBb.lt).upd hu8 (by omega)
  refine hK.out _ _ ⟨hk8, blk_range hBa8, blk_range hBb8⟩ (fun hHeld => ?_)
  clear hK K
  refine wpAnyH_done (by kernel_rfl) ?_ _
  go_wp2
  refine bodyPost_ret (results_cell_row rfl _ _ gr _ _ _ _ rfl hB8 Tryd.underlying23 rfl (by rw [List.size_toArray, List.length_map, hDl.out]; exact Tryd.size44)) rfl ⟨rfl, hk8⟩
end Go.Proofs.YtkakiepaffhhjaaDoor

/-
  Laws on arrays of sixteen bytes as elements: a slice literal of one, a store of one, a new one of one's own. Conditions: none.
-/
namespace Go.Proofs.YtkakiepaffhhjaaDoor
open Go.RowKit

/-- A digest stored into a row of the call's own. -/
theorem own_store16 {P : Program} {W : World} {base n cap g : Nat} {E : TypeId} {xs : List Value} (h : W.ownsRow base E 16 (.slice (some ⟨g, 0, none⟩) n cap) n xs) (k : Nat) (hk : k < n) (vs : List Value) (hv : vs.length = 16) (h1 : ∀ v ∈ vs, v.oneCell' = true) :
    ∃ W', (storeCells ⟨g, k * 16, none⟩ vs).run P W = .ok () W' ∧ W'.ownsRow base E 16 (.slice (some ⟨g, 0, none⟩) n cap) n (xs.take (k * 16) ++ vs ++ xs.drop (k * 16 + 16)) ∧ W.grownBy W' (some g) := by
  have hxl := h.1
  rcases h.2 with ⟨h0, _⟩ | ⟨g', cap', cur, hv', hb, hg, hnc, hcm, hcs, htake⟩
  · cases h0
  · cases hv'
    have hst := run_storeCells_at P g (k * 16) E vs 0 cur W hg (by omega) h1
    simp only [Nat.add_zero] at hst
    refine ⟨_, hst, ⟨by simp [hxl, hv]; omega, .inr ⟨g, cap, _, rfl, hb, setRow_heap W g cur _ E _ hg, hnc, hcm, ?_, ?_⟩⟩, ⟨rfl, rfl, rfl, by simp, fun j _ hj => setRow_other W g j _ (fun e => hj (by rw [e]))⟩⟩
    · simp [hv]; omega
    · have hcl : cur.toList.length = cap * 16 := by simpa using hcs
      subst htake
      rw [hv]
      simp only [List.take_append, List.length_append, List.length_take, hv, hcl]
      rw [List.take_of_length_le (l := cur.toList.take (k * 16)) (by simp; omega), List.take_of_length_le (l := vs) (by simp; omega), List.take_take, List.drop_take,
        show min (k * 16) (n * 16) = k * 16 by omega, show n * 16 - (min (k * 16) (cap * 16) + 16) = n * 16 - (k * 16 + 16) by omega]
theorem wpList_own57 {ops : Array Oper} {rest : List Oper} {o : Oper} {a : Act} {W : World} {Q : Exit → Act → World → Prop} (hgd : o.guard = none) (x y : Operand) (ho : o.op = .store 23 x y)
    (base n cap g k : Nat) (xs vs : List Value) (hx : a.eval x = .pointer (some ⟨g, k * 16, none⟩)) (hy : a.eval y = .agg vs.toArray) (hown : W.ownsRow base 23 16 (.slice (some ⟨g, 0, none⟩) n cap) n xs) (hk : k < n) (hv : vs.length = 16) (h1 : ∀ v ∈ vs, v.oneCell' = true)
    (h : ∀ W', W'.ownsRow base 23 16 (.slice (some ⟨g, 0, none⟩) n cap) n (xs.take (k * 16) ++ vs ++ xs.drop (k * 16 + 16)) → W.grownBy W' (some g) → wpList Tryd.prog ops Q rest (a.put o.dst undef) W') : wpList Tryd.prog ops Q (o :: rest) a W := by
  refine wpList_plain hgd fun K hK => ?_
  obtain ⟨i0, hi, _, hz1, _⟩ := info_parts Tryd.info57
  obtain ⟨W', hst, r1, r2⟩ := own_store16 (P := Tryd.prog) hown k hk vs hv h1
  have hrun : (storeVar 23 ⟨g, k * 16, none⟩ (.agg vs.toArray)).run Tryd.prog W = .ok () W' := by
    simp [storeVar, sizeOf, typeInfo, hi, Value.cells, hz1, hv, hst]
  unfold Oper.wp execOp
  simp only [ho, hx, hy, Instr.storeAt, Instr.sureAddr, Sem.run_bind, Sem.run_pure, Result.andThen_ok, hrun]
  exact hK _ _ (h W' r1 r2)
theorem made_rep (m n : Nat) (v : Value) (hm : 0 < m) : (madeCells (List.replicate m v).toArray n).toList = List.replicate n v := by
  apply List.ext_getElem?
  intro j
  by_cases hj : j < n
  · have hjm : j % m < m := Nat.mod_lt _ hm
    simp only [madeCells, List.size_toArray, List.length_replicate, Array.toList_map, List.getElem?_map, Array.toList_range, List.getElem?_range hj, Option.map_some, List.getElem?_replicate, if_pos hj]
    simp [hjm]
  · rw [List.getElem?_eq_none (by simp [madeCells]; omega), List.getElem?_eq_none (by simp; omega)]
theorem digCells_length : ∀ (xs : List (List UInt8)), (∀ d ∈ xs, d.length = 16) → (digCells xs).length = xs.length * 16
  | [], _ => rfl
  | d :: xs, h => by
    have ih := digCells_length xs (fun x hx => h x (by simp [hx]))
    have hd := h d (by simp)
    simp only [digCells, List.flatMap_cons, List.length_append, List.length_map, hd, List.length_cons] at ih ⊢
    omega
theorem digCells_snoc (xs : List (List UInt8)) (d : List UInt8) : digCells (xs ++ [d]) = digCells xs ++ d.map B8 := by simp [digCells]
theorem next16 {acc : List (List UInt8)} {d : List UInt8} {n k : Nat} (ha : ∀ d ∈ acc, d.length = 16) (hk : acc.length = k) (hlt : k < n) :
    (digCells acc ++ List.replicate ((n - k) * 16) (Value.int .u8 0)).take (k * 16) ++ d.map B8 ++ (digCells acc ++ List.replicate ((n - k) * 16) (Value.int .u8 0)).drop (k * 16 + 16) = digCells (acc ++ [d]) ++ List.replicate ((n - (k + 1)) * 16) (Value.int .u8 0) := by
  have hl := digCells_length acc ha
  rw [hk] at hl
  rw [← hl, List.take_left, digCells_snoc, List.drop_append, Nat.add_sub_cancel_left, List.drop_of_length_le (by omega), List.nil_append, List.drop_replicate, show (n - k) * 16 - 16 = (n - (k + 1)) * 16 by omega]
theorem wpList_put57 {ops : Array Oper} {rest : List Oper} {o : Oper} {a : Act} {W : World} {Q : Exit → Act → World → Prop} (hgd : o.guard = none) (x y : Operand) (ho : o.op = .store 5 x y)
    (cs : List Value) (i : Nat) (v : Value) (hx : a.eval x = .pointer (some ⟨W.heap.size, i, none⟩)) (hy : a.eval y = v) (hv : ∃ c, v = .int .u8 c) (hi : i < cs.length)
    (h : wpList Tryd.prog ops Q rest (a.put o.dst undef) (W.alloc (.cells (cs.set i v).toArray 23))) : wpList Tryd.prog ops Q (o :: rest) a (W.alloc (.cells cs.toArray 23)) := by
  obtain ⟨c, rfl⟩ := hv
  refine wpList_plain hgd fun K hK => ?_
  obtain ⟨i0, hif, _, hz1, _⟩ := info_parts Tryd.info8
  have hst := run_storeCells_at Tryd.prog W.heap.size i 23 [.int .u8 c] 0 cs.toArray (W.alloc (.cells cs.toArray 23)) (heap_alloc_new W _) (by simp; omega) (by intro u hu; simp at hu; subst hu; rfl)
  rw [World.setRow_alloc_new] at hst
  have e : (cs.toArray.toList.take (i + 0) ++ [Value.int .u8 c] ++ cs.toArray.toList.drop (i + 0 + [Value.int .u8 c].length)) = cs.set i (.int .u8 c) := by
    simp [List.set_eq_take_append_cons_drop, hi]
  rw [e] at hst
  have hrun : (storeVar 5 ⟨W.heap.size, i, none⟩ (.int .u8 c)).run Tryd.prog (W.alloc (.cells cs.toArray 23)) = .ok () (W.alloc (.cells (cs.set i (.int .u8 c)).toArray 23)) := by
    simp [storeVar, sizeOf, typeInfo, hif, Value.cells, hz1, hst]
  unfold Oper.wp execOp
  simp only [ho, hx, hy, Instr.storeAt, Instr.sureAddr, Sem.run_bind, Sem.run_pure, Result.andThen_ok, hrun]
  exact hK _ _ h
theorem run_slice57 (W : World) : ∀ (l : List Value), l.length = 16 →
    (Instr.buildSlice 55 1 #[(0, .agg l.toArray)]).run Tryd.prog W = .ok (.slice (some ⟨W.heap.size, 0, none⟩) 1 1) (W.alloc (.cells l.toArray 23))
  | [_, _, _, _, _, _, _, _, _, _, _, _, _, _, _, _], _ => by kernel_rfl
theorem wpList_slice57 {ops : Array Oper} {rest : List Oper} {o : Oper} {a : Act} {W : World} {Q : Exit → Act → World → Prop} (hgd : o.guard = none) (x : Operand) (ho : o.op = .buildSlice 55 1 #[(0, x)])
    (l : List Value) (hx : a.eval x = .agg l.toArray) (hl : l.length = 16)
    (h : wpList Tryd.prog ops Q rest (a.put o.dst (.slice (some ⟨W.heap.size, 0, none⟩) 1 1)) (W.alloc (.cells l.toArray 23))) : wpList Tryd.prog ops Q (o :: rest) a W := by
  refine wpList_plain hgd fun K hK => ?_
  have hrun := run_slice57 W l hl
  unfold Oper.wp execOp
  simp only [ho, List.map_toArray, List.map_cons, List.map_nil, hx, Sem.run_bind, Sem.run_pure, Result.andThen_ok, hrun]
  exact hK _ _ h
end Go.Proofs.YtkakiepaffhhjaaDoor

/-
  Contract of the walk over the reference's value, a function that calls itself. Conditions: a seed of at most 10^7 bytes; at most 1000 leaves; its table reads as the document has it.
-/
namespace Go.Proofs.YtkakiepaffhhjaaDoor
open Go.RowKit

theorem SG.lasts_take (seed : List UInt8) (i k : Nat) (hk : k < 35) : (SG.lasts seed i).take (k + 1) = (SG.lasts seed i).take k ++ [SG.climb i k (SG.start seed i k) 0 15] := by
  have hl : (SG.lasts seed i).length = 35 := by unfold SG.lasts; simp
  rw [List.take_succ_eq_append_getElem (by omega)]
  unfold SG.lasts
  simp
theorem SG.lasts_length (seed : List UInt8) (i : Nat) : (SG.lasts seed i).length = 35 := by unfold SG.lasts; simp
theorem SG.lasts_16 (seed : List UInt8) (i : Nat) : ∀ d ∈ SG.lasts seed i, d.length = 16 := by
  intro d hd
  unfold SG.lasts at hd
  obtain ⟨j, _, rfl⟩ := List.mem_map.1 hd
  exact SG.climb_length _ _ _ _ (SG.start_length _ _ _) _
theorem rclimb_at (i j a b : Nat) (ai bi : Int) (v D : List UInt8) (w : World) (hai : ai = (a : Int)) (hbi : bi = (b : Int)) (hD : Unit → SG.climb i j v a (b - a) = D) (hi : i ≤ 1000) (hj : j ≤ 1000) (ha : a ≤ b) (hb : b ≤ 1000) (hv : v.length = 16) (HY : LayC w) :
    Calls Tryd.prog 34 #[.int .i64 i, .int .i64 j, .agg (v.map B8).toArray, .int .i64 ai, .int .i64 bi] w fun e w' => e = .returned (.agg (D.map B8).toArray) ∧ Below w.heap.size w w' := by
  subst hai hbi; exact rclimb_any i j a b v D w hD hi hj ha hb hv HY
theorem climb_at (gi : Nat) (i j a b : Nat) (ai bi : Int) (v D : List UInt8) (w : World) (hai : ai = (a : Int)) (hbi : bi = (b : Int)) (hD : Unit → SG.climb i j v a (b - a) = D) (hi : i ≤ 1000) (hj : j ≤ 1000) (ha : a ≤ b) (hb : b ≤ 1000) (hv : v.length = 16) (hc : w.cell? ⟨gi, 0, none⟩ = some (.int .i64 i)) (HY : Lay w) :
    Calls Tryd.prog 50 #[.int .i64 j, .agg (v.map B8).toArray, .int .i64 ai, .int .i64 bi, .pointer (some ⟨gi, 0, none⟩)] w fun e w' => e = .returned (.agg (D.map B8).toArray) ∧ Below w.heap.size w w' := by
  subst hai hbi; exact climb_any gi i j a b v D w hD hi hj ha hb hv hc HY
def VlRel (seed : List UInt8) (i : Nat) (w1 : World) (v k : Value) (wr : World) : Prop :=
  ∃ j : Nat, j ≤ 35 ∧ k = .int .i64 j ∧ wr.ownsRow w1.heap.size 23 16 v j (digCells ((SG.lasts seed i).take j)) ∧ Below w1.heap.size w1 wr
set_option maxRecDepth 100000 in
set_option maxHeartbeats 1600000 in
theorem rvalue_leaf (seed : ByteArray) (n : Nat) (D : List UInt8) (w : World) (hD : Unit → SG.leaf (SG.lasts seed.data.toList n) = D) (hs : seed.size ≤ 10000000) (hn : n ≤ 1000) (HY : LayC w) :
    Calls Tryd.prog 31 #[.string seed, .int .i64 0, .int .i64 n] w fun e w' => e = .returned (.agg (D.map B8).toArray) ∧ Below w.heap.size w w' := by
  obtain ⟨i0, hi, hz0, hz1, hz2⟩ := info_parts Tryd.info57
  have hDl : Hid (D.length = 16) := by rw [← hD ()]; exact SG.hof_length _ _
  obtain ⟨L, hL⟩ : ∃ L, Hid (SG.lasts seed.data.toList n = L) := ⟨_, rfl⟩
  have hL35 : Hid (L.length = 35) := by rw [← hL.out]; exact SG.lasts_length _ _
  have hL16 := Lib.hid (SG.lasts_16 seed.data.toList n)
  rw [hL.out] at hD hL16
  go_enter Tryd.func31, Tryd.ntmps31
  go_wp2_with (with_reducible refine wpList_alloc (o := ⟨some 6, .alloc 23, _, _, _, _⟩) (by with_unfolding_all rfl) 23 (by with_unfolding_all rfl) (aggB (SM.zeros 16)) zero16 (by exact Tryd.zero44) (by with_unfolding_all rfl) ?_)
  intro gr w1 hgr hs1 hb1 hB1
  have hle : w.heap.size ≤ gr := Nat.le_of_eq hgr.out.symm
  have hbel1 : Below w.heap.size w w1 := hb1.mono hle
  clear hgr hs1 hb1
  go_wp2
  go_loopw [7, 8] (VlRel seed.data.toList n w1) (fun _ k _ => 35 - (intOf k).toNat)
  case atStart => exact ⟨0, by omega, rfl, World.ownsRow_nil _ _ _ _, Below.refl _ _⟩
  case round =>
    obtain ⟨j, hj, rfl, hown, hbel⟩ := hrel
    by_cases hlt : j < 35
    · have hsn := Lib.hid (SG.lasts_take seed.data.toList n j hlt)
      obtain ⟨s0, hs0⟩ : ∃ s0, (Unit → SG.start seed.data.toList n j = s0) := ⟨_, fun _ => rfl⟩
      have hs0l : Hid (s0.length = 16) := by rw [← hs0 ()]; exact SG.start_length _ _ _
      obtain ⟨v0, hv0⟩ : ∃ v0, (Unit → SG.climb n j s0 0 (15 - 0) = v0) := ⟨_, fun _ => rfl⟩
      have hv0l : Hid (v0.length = 16) := by rw [← hv0 ()]; exact SG.climb_length _ _ _ _ hs0l.out _
      rw [hs0 (), show SG.climb n j s0 0 15 = v0 from hv0 ()] at hsn
      have hbelw := below_join hbel1 hbel
      go_wp2_with fail
      (with_reducible refine (rstart_any seed n j s0 _ hs0 hs hn (by omega) (HY.next hbelw)).mono ?_)
      rintro e w2 ⟨rfl, hb2⟩
      have hown2 := own_next hown hb2
      have hbel2 := below_join hbel hb2
      clear hown hb2 hbel hbelw
      have hbelw := below_join hbel1 hbel2
      go_wp2_with fail
      (with_reducible refine (rclimb_at n j 0 15 0 15 s0 v0 _ rfl rfl hv0 hn (by omega) (by decide) (by decide) hs0l.out (HY.next hbelw)).mono ?_)
      rintro e w3 ⟨rfl, hb3⟩
      have hown3 := own_next hown2 hb3
      have hbel3 := below_join hbel2 hb3
      have hlt3 := hown3.lt
      have hsz3 := hbel3.size
      clear hown2 hb3 hbel2 hbelw
      go_wp2_with (first | (with_reducible refine wpList_slice57 (o := ⟨some 39, _, _, _, _, _⟩) ?g6 (.tmp 38) ?o6 (v0.map B8) ?x6 ?l6 ?_) | (at_builtin; refine wpList_append_own _ rfl _ _ 55 rfl w1.heap.size 23 i0 _ 16 16 Tryd.underlying55 hi hz0 hz1 hz2 rfl (by decide) _ _ _ rfl (hown3.alloc _) ⟨w3.heap.size, 0, none⟩ 1 1 (v0.map B8) ?x5 ?l5 ?c5 ?o5 ?m5 ?n5 ?b5 ?_))
      case g6 => rfl
      case o6 => rfl
      try (case x6 => rfl)
      case l6 => rw [List.length_map]; exact hv0l.out
      try (case x5 => rfl)
      case l5 => rw [List.length_map]; exact hv0l.out
      case c5 => exact fun q u hu => block_cells rfl hu
      case o5 => exact B8_one _
      case m5 => unfold maxLen; omega
      case n5 => omega
      case b5 => simp; omega
      intro v4 w4 hown4 hgrow _
      have hbel4 := (hbel3.alloc hsz3 (.cells (v0.map B8).toArray 23)).grown hgrow (by simp; omega) (fun q hq => (hlt3 q hq).1)
      have hown4' : w4.ownsRow w1.heap.size 23 16 v4 (j + 1) (digCells ((SG.lasts seed.data.toList n).take (j + 1))) := by
        rw [hsn.out, digCells_snoc]; exact hown4
      clear hown3 hown4 hgrow hlt3 hbel3
      go_wp2
      go_roundw
      case rel => exact ⟨j + 1, by omega, by go_num, hown4', hbel4⟩
      case measure => simp [intOf]; omega
    · obtain rfl : j = 35 := by omega
      rw [hL.out, List.take_of_length_le (by rw [hL35.out]; exact Nat.le_refl _)] at hown
      obtain ⟨A, c, rfl, hc35, hh⟩ := holds_own hown
      have hBr := hB1.next hbel hB1.lt
      have hbelw := below_join hbel1 hbel
      clear hown hB1 hbel1 hbel
      go_wp2_with fail
      (with_reducible refine (rleaf_any A c 35 L D _ hD hL35.out.symm (by rw [hL35.out]; decide) hL16.out hh (HY.next hbelw)).mono ?_)
      rintro e w5 ⟨rfl, hb5⟩
      have hB5 := hBr.next hb5 hBr.lt
      have hbel5 := below_join hbelw hb5
      clear hBr hb5 hbelw hh
      go_wp2_with (with_reducible refine wpList_put (o := ⟨none, .store 23 (.tmp 6) (.tmp 42), _, _, _, _⟩) (by with_unfolding_all rfl) 23 (.tmp 6) (.tmp 42) (by with_unfolding_all rfl) gr 0 (by with_unfolding_all rfl) (.agg (D.map B8).toArray) (by with_unfolding_all rfl) hB5 (D.map B8) (by with_unfolding_all rfl) (by rw [List.length_map, hDl.out]; exact Tryd.size44) (by with_unfolding_all (rw [List.length_map, hDl.out]; exact Nat.le_refl _)) (B8_one _) ?_)
      intro w9 hu9 hB9
      rw [splice_all _ _ (by rw [List.length_map, hDl.out]; rfl)] at hB9
      have hbel9 := hbel5.trans (hu9.below (B := w.heap.size) hle)
      go_wp2
      refine bodyPost_ret (results_cell_row rfl _ _ gr _ _ _ _ rfl hB9 Tryd.underlying23 rfl (by rw [List.size_toArray, List.length_map, hDl.out]; exact Tryd.size44)) rfl ⟨rfl, hbel9⟩
set_option maxRecDepth 100000 in
set_option maxHeartbeats 1600000 in
theorem rvalue_any (seed : ByteArray) (hs : seed.size ≤ 10000000) : ∀ (lv n : Nat) (li ni : Int) (D : List UInt8) (w : World) (_ : li = (lv : Int)) (_ : ni = (n : Int)) (_ : Unit → SG.value seed.data.toList lv n = D) (_ : (n + 1) * 2 ^ lv ≤ 1000) (_ : LayC w),
    Calls Tryd.prog 31 #[.string seed, .int .i64 li, .int .i64 ni] w fun e w' => e = .returned (.agg (D.map B8).toArray) ∧ Below w.heap.size w w'
  | 0, n, li, ni, D, w, hl, hn, hD, hb, HY => by
    subst hl hn
    exact rvalue_leaf seed n D w hD hs (by omega) HY
  | lv + 1, n, li, ni, D, w, hl, hn, hD, hb, HY => by
    have hb1 : (2 * n + 1 + 1) * 2 ^ lv ≤ 1000 := by rw [Nat.pow_succ, Nat.mul_comm (2 ^ lv) 2, ← Nat.mul_assoc] at hb; rw [show 2 * n + 1 + 1 = (n + 1) * 2 by omega]; exact hb
    have hb0 : (2 * n + 1) * 2 ^ lv ≤ 1000 := Nat.le_trans (Nat.mul_le_mul_right _ (by omega)) hb1
    have hlv : lv + 1 ≤ 1000 := by
      have h1 : lv + 1 < 2 ^ (lv + 1) := Nat.lt_two_pow_self
      have h2 : 1 * 2 ^ (lv + 1) ≤ (n + 1) * 2 ^ (lv + 1) := Nat.mul_le_mul_right _ (by omega)
      omega
    have hnb : n ≤ 1000 := by
      have h2 : (n + 1) * 1 ≤ (n + 1) * 2 ^ (lv + 1) := Nat.mul_le_mul_left _ (Nat.one_le_two_pow)
      omega
    obtain ⟨X, hX⟩ : ∃ X, (Unit → SG.value seed.data.toList lv (2 * n) = X) := ⟨_, fun _ => rfl⟩
    obtain ⟨Y, hY⟩ : ∃ X, (Unit → SG.value seed.data.toList lv (2 * n + 1) = X) := ⟨_, fun _ => rfl⟩
    have hXl : Hid (X.length = 16) := by rw [← hX ()]; exact SG.value_length _ _ _
    have hYl : Hid (Y.length = 16) := by rw [← hY ()]; exact SG.value_length _ _ _
    have hDn : Unit → SG.node (lv + 1) n X Y = D := fun _ => by rw [← hD (), ← hX (), ← hY ()]; rfl
    have hDl : Hid (D.length = 16) := by rw [← hDn ()]; exact SG.hof_length _ _
    have ih := rvalue_any seed hs lv
    clear hD hb
    obtain ⟨m, hm⟩ : ∃ m, Hid (lv + 1 = m) := ⟨_, rfl⟩
    rw [hm.out] at hDn hlv hl
    have hm0 : 0 < m := by have := hm.out; omega
    subst hl hn
    go_enter Tryd.func31, Tryd.ntmps31
    go_wp2_with (with_reducible refine wpList_alloc (o := ⟨some 6, .alloc 23, _, _, _, _⟩) (by with_unfolding_all rfl) 23 (by with_unfolding_all rfl) (aggB (SM.zeros 16)) zero16 (by exact Tryd.zero44) (by with_unfolding_all rfl) ?_)
    intro gr w1 hgr hs1 hb1' hB1
    have hle : w.heap.size ≤ gr := Nat.le_of_eq hgr.out.symm
    have hbel1 : Below w.heap.size w w1 := hb1'.mono hle
    clear hgr hs1 hb1'
    go_wp2_with fail
    (with_reducible refine (ih (2 * n) _ _ X _ (by have := hm.out; omega) (by omega) hX hb0 (HY.next hbel1)).mono ?_)
    rintro e w2 ⟨rfl, hb2⟩
    have hB2 := hB1.next hb2 hB1.lt
    have hbel2 := below_join hbel1 hb2
    clear hB1 hbel1 hb2
    go_wp2_with fail
    (with_reducible refine (ih (2 * n + 1) _ _ Y _ (by have := hm.out; omega) (by omega) hY hb1 (HY.next hbel2)).mono ?_)
    rintro e w3 ⟨rfl, hb3⟩
    have hB3 := hB2.next hb3 hB2.lt
    have hbel3 := below_join hbel2 hb3
    clear hB2 hbel2 hb3
    go_wp2_with fail
    (with_reducible refine (rnode_any m n X Y D _ hDn hlv (by omega) hXl.out hYl.out (HY.next hbel3)).mono ?_)
    rintro e w4 ⟨rfl, hb4⟩
    have hB4 := hB3.next hb4 hB3.lt
    have hbel4 := below_join hbel3 hb4
    clear hB3 hbel3 hb4
    go_wp2_with (with_reducible refine wpList_put (o := ⟨none, .store 23 (.tmp 6) (.tmp 26), _, _, _, _⟩) (by with_unfolding_all rfl) 23 (.tmp 6) (.tmp 26) (by with_unfolding_all rfl) gr 0 (by with_unfolding_all rfl) (.agg (D.map B8).toArray) (by with_unfolding_all rfl) hB4 (D.map B8) (by with_unfolding_all rfl) (by rw [List.length_map, hDl.out]; exact Tryd.size44) (by with_unfolding_all (rw [List.length_map, hDl.out]; exact Nat.le_refl _)) (B8_one _) ?_)
    intro w9 hu9 hB9
    rw [splice_all _ _ (by rw [List.length_map, hDl.out]; rfl)] at hB9
    have hbel9 := hbel4.trans (hu9.below (B := w.heap.size) hle)
    go_wp2
    refine bodyPost_ret (results_cell_row rfl _ _ gr _ _ _ _ rfl hB9 Tryd.underlying23 rfl (by rw [List.size_toArray, List.length_map, hDl.out]; exact Tryd.size44)) rfl ⟨rfl, hbel9⟩
end Go.Proofs.YtkakiepaffhhjaaDoor

/-
  Contracts of the walks over sign.permitted, sign.Count, sign.climber and sign.leaves. Conditions: heights from 0 to 6; a seed of at most 10^7 bytes; the tables read as the document has them.
-/
namespace Go.Proofs.YtkakiepaffhhjaaDoor
open Go.RowKit

def okH (h : Int) : Bool := decide (0 ≤ h ∧ h ≤ 6)
theorem permitted_any (h : Int) (w : World) :
    Calls Tryd.prog 26 #[.int .i64 h] w fun e w' => e = .returned (.bool (okH h)) ∧ w = w' := by
  by_cases h0 : 0 ≤ h
  · by_cases h6 : h ≤ 6
    · have ho : okH h = true := decide_eq_true ⟨h0, h6⟩
      rw [ho]
      go_enter Tryd.func26, Tryd.ntmps26
      go_wp2
      go_ret
      exact ⟨rfl, rfl⟩
    · have ho : okH h = false := decide_eq_false (fun x => h6 x.2)
      rw [ho]
      go_enter Tryd.func26, Tryd.ntmps26
      go_wp2
      go_ret
      exact ⟨rfl, rfl⟩
  · have ho : okH h = false := decide_eq_false (fun x => h0 x.1)
    rw [ho]
    go_enter Tryd.func26, Tryd.ntmps26
    go_wp2
    go_ret
    exact ⟨rfl, rfl⟩
theorem permitted_to (h : Int) (b : Bool) (w : World) (hb : okH h = b) :
    Calls Tryd.prog 26 #[.int .i64 h] w fun e w' => e = .returned (.bool b) ∧ w = w' := by
  rw [← hb]; exact permitted_any h w
/-- How many one-time keys a height has. -/
def cnt (h : Int) : Nat := if okH h then 2 ^ h.toNat else 0
theorem cnt_le (h : Int) : cnt h ≤ 64 := by
  unfold cnt
  split
  · rename_i ho
    have := of_decide_eq_true ho
    have h7 : h.toNat ≤ 6 := by omega
    exact Nat.le_trans (Nat.pow_le_pow_right (by decide) h7) (by decide)
  · exact Nat.zero_le _
theorem count_any (h : Int) (w : World) :
    Calls Tryd.prog 12 #[.int .i64 h] w fun e w' => e = .returned (.int .i64 (cnt h : Nat)) ∧ w = w' := by
  by_cases ho : okH h = true
  · have hb := of_decide_eq_true ho
    have hc : cnt h = 2 ^ h.toNat := by unfold cnt; rw [ho]; rfl
    have e : h = 0 ∨ h = 1 ∨ h = 2 ∨ h = 3 ∨ h = 4 ∨ h = 5 ∨ h = 6 := by omega
    rcases e with rfl | rfl | rfl | rfl | rfl | rfl | rfl <;>
    · go_enter Tryd.func12, Tryd.ntmps12
      go_wp2_with fail
      (with_reducible refine (permitted_to _ true _ rfl).mono ?_)
      rintro e w' ⟨rfl, rfl⟩
      go_wp2
      go_ret
      exact ⟨rfl, rfl⟩
  · have hof : okH h = false := by simpa using ho
    have hc : cnt h = 0 := by unfold cnt; rw [hof]; rfl
    rw [hc]
    go_enter Tryd.func12, Tryd.ntmps12
    go_wp2_with fail
    (with_reducible refine (permitted_to _ false _ hof).mono ?_)
    rintro e w' ⟨rfl, rfl⟩
    go_wp2
    go_ret
    exact ⟨rfl, rfl⟩
theorem count_to (h : Int) (n : Nat) (w : World) (hn : cnt h = n) :
    Calls Tryd.prog 12 #[.int .i64 h] w fun e w' => e = .returned (.int .i64 (n : Int)) ∧ w = w' := by
  rw [← hn]; exact count_any h w
theorem climber_any (i : Int) (w : World) :
    Calls Tryd.prog 32 #[.int .i64 i] w fun e w' => e = .returned (.func (.func 50) #[] #[.pointer (some ⟨w.heap.size, 0, none⟩)]) ∧ w'.cell? ⟨w.heap.size, 0, none⟩ = some (.int .i64 i) ∧ Below w.heap.size w w' := by
  go_enter Tryd.func32, Tryd.ntmps32
  go_wp2
  go_ret
  exact ⟨rfl, by rw [cell_of_row _ _ _ _ _ _ (heap_alloc_new w _)]; rfl, below_new w _⟩
/-- A row of n digests whose first j are those of a list. -/
def fillD (L : List (List UInt8)) (n j : Nat) : List Value := digCells (L.take j) ++ List.replicate ((n - j) * 16) (.int .u8 0)
theorem fillD_zero (L : List (List UInt8)) (n : Nat) : fillD L n 0 = List.replicate (n * 16) (.int .u8 0) := by unfold fillD; simp [digCells]
theorem fillD_all (L : List (List UInt8)) (n : Nat) (h : L.length = n) : fillD L n n = digCells L := by unfold fillD; rw [List.take_of_length_le (by omega), Nat.sub_self]; simp
theorem fillD_next (L : List (List UInt8)) (n j : Nat) (d : List UInt8) (h16 : ∀ d ∈ L, d.length = 16) (hl : L.length = n) (hj : j < n) (hd : L[j]? = some d) : (fillD L n j).take (j * 16) ++ d.map B8 ++ (fillD L n j).drop (j * 16 + 16) = fillD L n (j + 1) := by
  unfold fillD
  rw [next16 (fun x hx => h16 x (List.mem_of_mem_take hx)) (by rw [List.length_take]; omega) hj, List.take_add_one, hd]
  rfl
def LfRel (L : List (List UInt8)) (n : Nat) (g c : Nat) (B : Nat) (w : World) (i : Value) (wr : World) : Prop :=
  ∃ j : Nat, j ≤ n ∧ i = .int .i64 j ∧ wr.ownsRow B 23 16 (.slice (some ⟨g, 0, none⟩) n c) n (fillD L n j) ∧ Below B w wr
end Go.Proofs.YtkakiepaffhhjaaDoor

/-
  Contract of the walk over sign.leaves. Conditions: heights from 0 to 6; a seed of at most 10^7 bytes; the tables read as the document has them.
-/
namespace Go.Proofs.YtkakiepaffhhjaaDoor
open Go.RowKit

def SG.row (seed : List UInt8) (lv n : Nat) : List (List UInt8) := (List.range n).map fun k => SG.value seed lv k
theorem SG.row_length (seed : List UInt8) (lv n : Nat) : (SG.row seed lv n).length = n := by unfold SG.row; simp
theorem SG.row_16 (seed : List UInt8) (lv n : Nat) : ∀ d ∈ SG.row seed lv n, d.length = 16 := by
  intro d hd
  unfold SG.row at hd
  obtain ⟨j, _, rfl⟩ := List.mem_map.1 hd
  exact SG.value_length _ _ _
theorem SG.row_at (seed : List UInt8) (lv n k : Nat) (h : k < n) : (SG.row seed lv n)[k]? = some (SG.value seed lv k) := by
  unfold SG.row; rw [List.getElem?_map, List.getElem?_range h]; rfl
theorem SG.lasts_at (seed : List UInt8) (i k : Nat) (h : k < 35) : (SG.lasts seed i)[k]? = some (SG.climb i k (SG.start seed i k) 0 15) := by
  unfold SG.lasts; rw [List.getElem?_map, List.getElem?_range h]; rfl
def LsRel (L : List (List UInt8)) (w2 : World) (i : Value) (wr : World) : Prop :=
  ∃ j : Nat, j ≤ 35 ∧ i = .int .i64 j ∧ wr.ownsRow w2.heap.size 23 16 (.slice (some ⟨w2.heap.size, 0, none⟩) 35 35) 35 (fillD L 35 j) ∧ Below w2.heap.size w2 wr
set_option maxRecDepth 100000 in
set_option maxHeartbeats 3200000 in
theorem leaves_any (seed : ByteArray) (h : Int) (n : Nat) (w : World) (hn : cnt h = n) (hs : seed.size ≤ 10000000) (HY : Lay w) :
    Calls Tryd.prog 48 #[.string seed, .int .i64 h] w fun e w' => ∃ g, e = .returned (.slice (some ⟨g, 0, none⟩) n n) ∧ w'.ownsRow w.heap.size 23 16 (.slice (some ⟨g, 0, none⟩) n n) n (digCells (SG.row seed.data.toList 0 n)) ∧ Below w.heap.size w w' := by
  obtain ⟨i0, hi, hz0, hz1, hz2⟩ := info_parts Tryd.info57
  have hn64 : n ≤ 64 := by rw [← hn]; exact cnt_le h
  obtain ⟨Rw, hRw⟩ : ∃ L, Hid (SG.row seed.data.toList 0 n = L) := ⟨_, rfl⟩
  have hRl : Hid (Rw.length = n) := by rw [← hRw.out]; exact SG.row_length _ _ _
  have hR16 : Hid (∀ d ∈ Rw, d.length = 16) := by rw [← hRw.out]; exact SG.row_16 _ _ _
  have hRa : Hid (∀ k, k < n → Rw[k]? = some (SG.leaf (SG.lasts seed.data.toList k))) := by rw [← hRw.out]; exact fun k hk => SG.row_at _ _ _ _ hk
  rw [hRw.out]
  clear hRw
  go_enter Tryd.func48, Tryd.ntmps48
  go_wp2_with fail
  (with_reducible refine (count_to h n _ hn).mono ?_)
  rintro e w' ⟨rfl, rfl⟩
  go_wp2_with (at_make; refine wpList_make_full _ rfl _ _ 55 rfl w.heap.size 23 i0 _ 16 Tryd.underlying55 hi hz0 hz1 _ _ _ _ n rfl rfl rfl rfl ?b2 ?b3 ?b4 ?_)
  case b2 => rw [hz2]; omega
  case b3 => unfold maxLen; omega
  case b4 => omega
  intro w1 hown1 hg1
  have hown1' : w1.ownsRow w.heap.size 23 16 (.slice (some ⟨w.heap.size, 0, none⟩) n n) n (fillD Rw n 0) := by
    have hown2 : w1.ownsRow w.heap.size 23 16 (.slice (some ⟨w.heap.size, 0, none⟩) n n) n (madeCells (List.replicate 16 (Value.int .u8 0)).toArray (n * 16)).toList := hown1
    rw [made_rep 16 _ _ (by decide)] at hown2
    rw [fillD_zero]; exact hown2
  have hbel1 := (Below.refl w.heap.size w).grown hg1 (Nat.le_refl _) (fun k hk => by cases hk)
  clear hown1 hg1
  go_wp2
  go_loopw [15] (LfRel Rw n w.heap.size n w.heap.size w) (fun i _ => n - (intOf i).toNat)
  case atStart => exact ⟨0, Nat.zero_le _, rfl, hown1', hbel1⟩
  case round =>
    clear hown1' hbel1
    obtain ⟨k, hk, rfl, hown, hbel⟩ := hrel
    by_cases hlt : k < n
    · obtain ⟨L, hL⟩ : ∃ L, Hid (SG.lasts seed.data.toList k = L) := ⟨_, rfl⟩
      have hLl : Hid (L.length = 35) := by rw [← hL.out]; exact SG.lasts_length _ _
      have hL16 : Hid (∀ d ∈ L, d.length = 16) := by rw [← hL.out]; exact SG.lasts_16 _ _
      have hLa : Hid (∀ j, j < 35 → L[j]? = some (SG.climb k j (SG.start seed.data.toList k j) 0 15)) := by rw [← hL.out]; exact fun j hj => SG.lasts_at _ _ _ hj
      obtain ⟨D, hD⟩ : ∃ D, Hid (SG.leaf L = D) := ⟨_, rfl⟩
      have hDl : Hid (D.length = 16) := by rw [← hD.out]; exact SG.hof_length _ _
      have hRk : Hid (Rw[k]? = some D) := by
        have := hRa.out k hlt
        rw [hL.out, hD.out] at this
        exact this
      go_wp2_with fail
      (with_reducible refine (climber_any k _).mono ?_)
      rintro e w2 ⟨rfl, hcl, hb2⟩
      have hown2 := own_next hown hb2
      have hbel2 := below_join hbel hb2
      have hgi := World.block_lt_of_cell? w2 _ hcl
      obtain ⟨gi, hge⟩ : ∃ gi, Hid (wr.heap.size = gi) := ⟨_, rfl⟩
      rw [hge.out] at hcl hgi ⊢
      clear hown hb2 hbel hge
      go_wp2_with (at_make; refine wpList_make_full _ rfl _ _ 55 rfl w2.heap.size 23 i0 _ 16 Tryd.underlying55 hi hz0 hz1 _ _ _ _ 35 rfl rfl rfl rfl ?d2 ?d3 ?d4 ?_)
      case d2 => rw [hz2]; decide
      case d3 => unfold maxLen; omega
      case d4 => omega
      intro w3 hown3 hg3
      have hown3' : w3.ownsRow w2.heap.size 23 16 (.slice (some ⟨w2.heap.size, 0, none⟩) 35 35) 35 (fillD L 35 0) := by
        have hownx : w3.ownsRow w2.heap.size 23 16 (.slice (some ⟨w2.heap.size, 0, none⟩) 35 35) 35 (madeCells (List.replicate 16 (Value.int .u8 0)).toArray (35 * 16)).toList := hown3
        rw [made_rep 16 _ _ (by decide)] at hownx
        rw [fillD_zero]; exact hownx
      have hbel3 := (Below.refl w2.heap.size w2).grown hg3 (Nat.le_refl _) (fun k hk => by cases hk)
      clear hown3 hg3
      go_wp2
      go_loopw [23] (LsRel L w2) (fun i _ => 35 - (intOf i).toNat)
      case atStart => exact ⟨0, by omega, rfl, hown3', hbel3⟩
      case round =>
        clear hown3' hbel3
        obtain ⟨j, hj, rfl, hownj, hbelj⟩ := hrel
        have hbelw := below_join hbel2 hbelj
        by_cases hj35 : j < 35
        · obtain ⟨s0, hs0⟩ : ∃ s0, (Unit → SG.start seed.data.toList k j = s0) := ⟨_, fun _ => rfl⟩
          have hs0l : Hid (s0.length = 16) := by rw [← hs0 ()]; exact SG.start_length _ _ _
          obtain ⟨v0, hv0⟩ : ∃ v0, (Unit → SG.climb k j s0 0 (15 - 0) = v0) := ⟨_, fun _ => rfl⟩
          have hv0l : Hid (v0.length = 16) := by rw [← hv0 ()]; exact SG.climb_length _ _ _ _ hs0l.out _
          have hLj : Hid (L[j]? = some v0) := by
            have := hLa.out j hj35
            rw [hs0 (), show SG.climb k j s0 0 15 = v0 from hv0 ()] at this
            exact this
          go_wp2_with fail
          (with_reducible refine (secret_any seed k j s0 _ hs0 (by omega) (by omega) (by omega) (HY.next hbelw)).mono ?_)
          rintro e w4 ⟨rfl, hb4⟩
          have hown4 := own_next hownj hb4
          have hbel4 := below_join hbelj hb4
          have hbw4 := below_join hbel2 hbel4
          have hc4 : w4.cell? ⟨gi, 0, none⟩ = some (.int .i64 k) := by rw [hbel4.cell hgi]; exact hcl
          clear hownj hb4 hbelj hbelw
          go_wp2_with fail
          (with_reducible refine (climb_at gi k j 0 15 0 15 s0 v0 _ rfl rfl hv0 (by omega) (by omega) (by decide) (by decide) hs0l.out hc4 (HY.next hbw4)).mono ?_)
          rintro e w5 ⟨rfl, hb5⟩
          have hown5 := own_next hown4 hb5
          have hbel5 := below_join hbel4 hb5
          have hsz5 := hbel5.size
          clear hown4 hb5 hbel4 hbw4 hc4
          go_wp2_with (with_reducible refine wpList_own57 (o := ⟨none, .store 23 (.tmp 35) (.tmp 34), _, _, _, _⟩) ?g4 (.tmp 35) (.tmp 34) ?o4 w2.heap.size 35 35 w2.heap.size j (fillD L 35 j) (v0.map B8) ?x4 ?y4 hown5 hj35 ?v4 (B8_one v0) ?_)
          case g4 => rfl
          case o4 => rfl
          try (case x4 => rfl)
          try (case y4 => rfl)
          case v4 => rw [List.length_map]; exact hv0l.out
          intro w6 hown6 hg6
          rw [← List.append_assoc, fillD_next L 35 j v0 hL16.out hLl.out hj35 hLj.out] at hown6
          have hbel6 := hbel5.grown hg6 hsz5 (fun q hq => by cases hq; exact Nat.le_refl _)
          clear hown5 hg6 hbel5
          go_wp2
          go_roundw
          case rel => exact ⟨j + 1, by omega, by go_num, hown6, hbel6⟩
          case measure => simp [intOf]; omega
        · obtain rfl : j = 35 := by omega
          rw [fillD_all L 35 hLl.out] at hownj
          obtain ⟨A, c, hv, hc35, hh⟩ := holds_own hownj
          cases hv
          clear hj35 hj
          go_wp2_with fail
          (with_reducible refine (sleaf_any _ _ 35 L D _ (fun _ => hD.out) hLl.out.symm (by rw [hLl.out]; decide) hL16.out hh (HY.next hbelw)).mono ?_)
          rintro e w7 ⟨rfl, hb7⟩
          have hown7 := own_next (own_next hown2 hbelj) hb7
          have hbel7 := below_join hbelw hb7
          have hsz7 := hbel7.size
          clear hownj hb7 hbelj hbelw hh hown2
          go_wp2_with (with_reducible refine wpList_own57 (o := ⟨none, .store 23 (.tmp 41) (.tmp 40), _, _, _, _⟩) ?g5 (.tmp 41) (.tmp 40) ?o5 w.heap.size n n w.heap.size k (fillD Rw n k) (D.map B8) ?x5 ?y5 hown7 hlt ?v5 (B8_one D) ?_)
          case g5 => rfl
          case o5 => rfl
          try (case x5 => rfl)
          try (case y5 => rfl)
          case v5 => rw [List.length_map]; exact hDl.out
          intro w8 hown8 hg8
          rw [← List.append_assoc, fillD_next Rw n k D hR16.out hRl.out hlt hRk.out] at hown8
          have hbel8 := hbel7.grown hg8 hsz7 (fun q hq => by cases hq; exact Nat.le_refl _)
          clear hown7 hg8 hbel7
          go_wp2
          go_roundw
          case rel => exact ⟨k + 1, by omega, by go_num, hown8, hbel8⟩
          case measure => simp [intOf]; omega
    · obtain rfl : k = n := by omega
      rw [fillD_all Rw k hRl.out] at hown
      clear hlt hk
      go_wp2
      go_ret
      exact ⟨_, rfl, hown, hbel⟩
end Go.Proofs.YtkakiepaffhhjaaDoor
