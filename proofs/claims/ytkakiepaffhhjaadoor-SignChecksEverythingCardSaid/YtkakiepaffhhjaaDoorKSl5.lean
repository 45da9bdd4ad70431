/-
  The walk over the statement on signatures that are accepted. Conditions: the tables read as the document has them.
-/
import Derived.Test.YtkakiepaffhhjaaDoorKSv2
namespace Go.Proofs.YtkakiepaffhhjaaDoor
open Go.RowKit

set_option maxRecDepth 100000 in
set_option maxHeartbeats 3200000 in
theorem acceptLaw_any (seed : ByteArray) (hh ii : Nat) (ms : ByteArray) (cc : Nat) (mo : ByteArray) (w : World) (z0 : seed.size ≤ 140737488351232) (hhb : hh < 256) (hib : ii < 256) (z3 : ms.size ≤ 140737488351232) (hcb : cc < 65536) (z5 : mo.size ≤ 140737488351232) (HY : Lay w) :
    Calls Tryd.prog 6 #[.string seed, .int .u8 hh, .int .u8 ii, .string ms, .int .u16 cc, .string mo] w fun e w' => e = .returned (.bool true) ∧ Below w.heap.size w w' := by
  obtain ⟨m, hm⟩ : ∃ m, hh % 3 = m := ⟨_, rfl⟩
  have hm2 : m ≤ 2 := by omega
  have h6 : m ≤ 6 := by omega
  obtain ⟨q, hq⟩ : ∃ q, (2 : Nat) ^ m = q := ⟨_, rfl⟩
  have hq1 : 1 ≤ q := by rw [← hq]; exact Nat.one_le_two_pow
  have hq4 : q ≤ 4 := by rw [← hq]; exact Nat.pow_le_pow_right (by omega) hm2
  obtain ⟨k, hk⟩ : ∃ k, ii % q = k := ⟨_, rfl⟩
  have hkq : k < q := by rw [← hk]; exact Nat.mod_lt _ (by omega)
  have hk2 : k < 2 ^ m := by rw [hq]; exact hkq
  have h64 := k64_of hk2 h6
  obtain ⟨D, hDv⟩ : ∃ D, (Unit → SG.value seed.data.toList m 0 = D) := ⟨_, fun _ => rfl⟩
  have hD : Unit → pubD seed.data.toList (m : Int) = D := fun _ => by rw [pubD_of _ h6]; exact hDv ()
  have hDl : Hid (D.length = 16) := by rw [← hDv ()]; exact SG.value_length _ _ _
  obtain ⟨R, hRv⟩ : ∃ R : ByteArray, (Unit → SG.sig seed.data.toList m k ms.data.toList = R.data.toList) := ⟨⟨(SG.sig seed.data.toList m k ms.data.toList).toArray⟩, fun _ => (str_toList _).symm⟩
  have hR : Unit → sgS seed.data.toList (m : Int) (k : Int) ms.data.toList = R.data.toList := fun _ => by rw [sgS_of _ _ hk2 h6]; exact hRv ()
  have hRz : R.size = 1 + (35 + m) * 16 := by rw [← bytes_size, ← hRv ()]; exact SG.sig_length _ _ _ _ h64
  have hZ : Hid (siz (m : Int) (k : Int) = R.size) := by
    have : siz (m : Int) (k : Int) = R.size := by rw [hRz]; exact siz_at hk2 h6
    exact this
  obtain ⟨j, hj⟩ : ∃ j, cc % R.size = j := ⟨_, rfl⟩
  have hjl : j < R.size := by rw [← hj]; exact Nat.mod_lt _ (by omega)
  have hv1 : Unit → vfy D (m : Int) ms.data.toList R.data.toList = ((k : Int), 0) := fun _ => by rw [← hDv (), ← hRv ()]; exact vfy_sig _ _ m k hk2 h6
  have hv2 : Unit → vfy D (m : Int) ms.data.toList (R.extract 0 j).data.toList = (0, 5) := fun _ => by rw [ext_take, ← hDv (), ← hRv ()]; exact vfy_cut _ _ m k j hk2 h6 (by omega)
  have hE1 : Hid (pubE (m : Int) = 0) := Lib.hid (pubE_of h6)
  have hE2 : Hid (sgE (m : Int) (k : Int) = 0) := Lib.hid (sgE_of hk2 h6)
  have hC : Hid (cnt (m : Int) = q) := by
    have : cnt (m : Int) = q := by rw [cnt_of h6]; exact hq
    exact this
  have hR17 : 1 ≤ R.size := by omega
  have hR1k : R.size ≤ 1000 := by omega
  have ht1 : (hh : Int).tmod 3 = (m : Int) := by rw [Int.tmod_eq_emod_of_nonneg (by omega)]; omega
  have ht2 : (ii : Int).tmod (q : Int) = (k : Int) := by rw [Int.tmod_eq_emod_of_nonneg (by omega), ← hk]; rfl
  have ht3 : (cc : Int).tmod (R.size : Int) = (j : Int) := by rw [Int.tmod_eq_emod_of_nonneg (by omega), ← hj]; rfl
  have hq0 : ((q : Int) == 0) = false := beq_eq_false_iff_ne.2 (by omega)
  have hR0 : ((R.size : Int) == 0) = false := beq_eq_false_iff_ne.2 (by omega)
  have hji : (j : Int) ≤ (R.size : Int) := by omega
  have hj0 : (0 : Int) ≤ (j : Int) := by omega
  obtain ⟨l0, hl0⟩ : ∃ l0 : Bool, decide (0 < mo.size) = l0 := ⟨_, rfl⟩
  obtain ⟨⟨n3, e3⟩, hv3⟩ : ∃ p, (Unit → vfy D (m : Int) ms.data.toList (R ++ mo).data.toList = p) := ⟨_, fun _ => rfl⟩
  have he3 : (e3 == 6) = l0 := by
    have h3 := hv3 ()
    by_cases hmo : mo.size = 0
    · rw [app_empty _ _ hmo, hv1 ()] at h3
      injection h3 with _ h3e
      rw [← h3e, ← hl0, hmo]; rfl
    · rw [app_list, ← hDv (), ← hRv (), vfy_more _ _ mo.data.toList m k hk2 h6 (fun e => hmo (by rw [← bytes_size, e]; rfl))] at h3
      injection h3 with _ h3e
      rw [← h3e, ← hl0, decide_eq_true (by omega : 0 < mo.size)]; rfl
  have hi0 : decide ((0 : Int) < (mo.size : Int)) = l0 := by rw [← hl0]; exact decide_eq_decide.2 Int.ofNat_lt
  clear hm hq hk hk2 hRv hDv hRz hj
  go_enter Tryd.func6, Tryd.ntmps6
  go_wp2_with fail
  (with_reducible refine (sanity_any _ HY).mono ?_)
  rintro e w2 ⟨rfl, hb2⟩
  have hbel2 := hb2
  clear hb2
  by_cases h1 : 200 < seed.size
  · go_wp2
    go_ret
    exact ⟨rfl, hbel2⟩
  by_cases h2 : 200 < ms.size
  · go_wp2
    go_ret
    exact ⟨rfl, hbel2⟩
  by_cases h3 : 50 < mo.size
  · go_wp2
    go_ret
    exact ⟨rfl, hbel2⟩
  have h3' : mo.size ≤ 50 := by omega
  clear z5
  go_wp2_with fail
  (with_reducible refine (rcount_to _ q _ hC.out).mono ?_)
  rintro e w' ⟨rfl, rfl⟩
  go_wp2_with fail
  (with_reducible refine (public_any seed _ D _ hD (by omega) (HY.next hbel2)).mono ?_)
  rintro e w3 ⟨rfl, hb3⟩
  rw [hE1.out]
  have hbel3 := below_join hbel2 hb3
  clear hbel2 hb3
  go_wp2_with (with_reducible refine wpList_alloc (o := ⟨some 16, .alloc 23, _, _, _, _⟩) (by with_unfolding_all rfl) 23 (by with_unfolding_all rfl) (aggB (SM.zeros 16)) zero16 (by exact Tryd.zero44) (by with_unfolding_all rfl) ?_)
  intro ga w4 hga hs4 hb4 hB4
  have hle : w3.heap.size ≤ ga := Nat.le_of_eq hga.out.symm
  go_wp2_with (with_reducible refine wpList_put (o := ⟨none, .store 23 (.tmp 16) (.tmp 53), _, _, _, _⟩) (by with_unfolding_all rfl) 23 (.tmp 16) (.tmp 53) (by with_unfolding_all rfl) ga 0 (by with_unfolding_all rfl) (.agg (D.map B8).toArray) (by with_unfolding_all rfl) hB4 (D.map B8) (by with_unfolding_all rfl) (by rw [List.length_map, hDl.out]; exact Tryd.size44) (by with_unfolding_all (rw [List.length_map, hDl.out]; exact Nat.le_refl _)) (B8_one _) ?_)
  intro w5 hu5 hA5
  rw [splice_all _ _ (by rw [List.length_map, hDl.out]; rfl)] at hA5
  have hbel5 := below_join hbel3 ((hb4.mono hle).trans (hu5.below (B := w3.heap.size) hle))
  clear hbel3 hb4 hB4 hu5 hga hs4 hle
  go_wp2_with fail
  (with_reducible refine (ssign_b seed _ _ ms R 0 _ hR hE2.out (by omega) (by omega) (HY.next hbel5)).mono ?_)
  rintro e w6 ⟨rfl, hb6⟩
  have hA6 := hA5.next hb6 hA5.lt
  have hbel6 := below_join hbel5 hb6
  clear hA5 hbel5 hb6
  go_wp2_with (with_reducible refine wpList_get (o := ⟨some 64, .load 23 (.tmp 16), _, _, _, _⟩) (by with_unfolding_all rfl) 23 (.tmp 16) (by with_unfolding_all rfl) ga 0 (by with_unfolding_all rfl) hA6 (D.map B8) (cs_all _) (.array 16 5) (by exact Tryd.underlying23) (by with_unfolding_all rfl) (by rw [List.length_map, hDl.out]; exact Tryd.size44) ?_)
  (with_reducible refine (sverify_b D _ (k : Int) 0 ms R _ hv1 hDl.out (by omega) (by omega) (HY.next hbel6)).mono ?_)
  rintro e w7 ⟨rfl, hb7⟩
  have hA7 := hA6.next hb7 hA6.lt
  have hbel7 := below_join hbel6 hb7
  clear hA6 hbel6 hb7
  go_wp2_with fail
  (with_reducible refine (size_any _ _ R.size _ hZ.out).mono ?_)
  rintro e w8 ⟨rfl, hb8⟩
  have hA8 := hA7.next hb8 hA7.lt
  have hbel8 := below_join hbel7 hb8
  clear hA7 hbel7 hb8
  have hun := Tryd.underlying23
  have hzD : (Tryd.prog.info? 23).map (·.size) = some (D.map B8).length := by rw [List.length_map, hDl.out]; exact Tryd.size44
  have hS : ∀ w', Below w8.heap.size w8 w' → (Below w.heap.size w w' ∧ w'.rangeAt ga 0 (D.map B8)) := fun w' h => ⟨below_join hbel8 h, blk_range (hA8.next h hA8.lt)⟩
  have hd8 := below_drew w8
  have hRne : ¬ R = ByteArray.empty := fun e => by rw [e] at hR17; exact absurd hR17 (by decide)
  have hwcc : IntKind.i64.wrap (cc : Int) = (cc : Int) := by simp only [IntKind.wrap_i64]; omega
  go_wp2
  refine wp_region_held_drew (S := fun w' => Below w.heap.size w w' ∧ w'.rangeAt ga 0 (D.map B8)) (by kernel_rfl) (hS _ hd8) (fun hHeld => ?_)
  generalize w8.drew = wd at hd8 hHeld ⊢
  refine' wpAnyH_take (i := 0) (v := _) rfl (by kernel_rfl) (by kernel_rfl) (by kernel_rfl) (fun _ _ _ h => h) (yieldsIf_load_mid (by rfl) _ _ (by rfl) _ _ (by rfl) _ _ ?Sv0 ?uv0 ?dv0 ?iv0) (by assumption) ?rv0
  case Sv0 => exact (by intro w h; exact h.2)
  case uv0 => exact hun
  case dv0 => rfl
  case iv0 => exact hzD
  (try simp only [List.getElem_toArray, List.getElem_cons_zero, Act.put, List.setIfInBounds_toArray, List.set_cons_zero, List.set_cons_succ])
  refine wpAnyH_take (i := 1) (v := ?vv1) rfl (by kernel_rfl) (by kernel_rfl) (by kernel_rfl) (fun _ _ _ h => h) (Or.inl ⟨by rfl, ?yv1⟩) (by assumption) ?rv1
  case yv1 => intro w hSw; (try dsimp only at hSw); go_simp <;> (try with_reducible rfl)
  (try simp only [List.getElem_toArray, List.getElem_cons_succ, List.getElem_cons_zero, Act.put, List.setIfInBounds_toArray, List.set_cons_zero, List.set_cons_succ])
  refine wpAnyH_take (i := 2) (v := ?vv2) rfl (by kernel_rfl) (by kernel_rfl) (by kernel_rfl) (fun _ _ _ h => h) (Or.inl ⟨by rfl, ?yv2⟩) (by assumption) ?rv2
  case yv2 => intro w hSw; (try dsimp only at hSw); go_simp <;> (try with_reducible rfl)
  (try simp only [List.getElem_toArray, List.getElem_cons_succ, List.getElem_cons_zero, Act.put, List.setIfInBounds_toArray, List.set_cons_zero, List.set_cons_succ])
  refine wpAnyH_take (i := 3) (v := ?vv3) rfl (by kernel_rfl) (by kernel_rfl) (by kernel_rfl) (fun _ _ _ h => h) (Or.inl ⟨by rfl, ?yv3⟩) (by assumption) ?rv3
  case yv3 => intro w hSw; (try dsimp only at hSw); go_simp <;> (try with_reducible rfl)
  (try simp only [List.getElem_toArray, List.getElem_cons_succ, List.getElem_cons_zero, Act.put, List.setIfInBounds_toArray, List.set_cons_zero, List.set_cons_succ])
  refine wpAnyH_take (i := 4) (v := ?vv4) rfl (by kernel_rfl) (by kernel_rfl) (by kernel_rfl) (fun _ _ _ h => h) (Or.inl ⟨by rfl, ?yv4⟩) (by assumption) ?rv4
  case yv4 => intro w hSw; (try dsimp only at hSw); go_simp <;> (try with_reducible rfl)
  (try simp only [List.getElem_toArray, List.getElem_cons_succ, List.getElem_cons_zero, Act.put, List.setIfInBounds_toArray, List.set_cons_zero, List.set_cons_succ])
  refine wpAnyH_take (i := 5) (v := ?vv5) rfl (by kernel_rfl) (by kernel_rfl) (by kernel_rfl) (fun _ _ _ h => h) (Or.inl ⟨by rfl, ?yv5⟩) (by assumption) ?rv5
  case yv5 => intro w hSw; (try dsimp only at hSw); go_simp <;> (try with_reducible rfl)
  (try simp only [List.getElem_toArray, List.getElem_cons_succ, List.getElem_cons_zero, Act.put, List.setIfInBounds_toArray, List.set_cons_zero, List.set_cons_succ])
  refine wpAnyH_take (i := 6) (v := ?vv6) rfl (by kernel_rfl) (by kernel_rfl) (by kernel_rfl) (fun _ _ _ h => h) (Or.inl ⟨by rfl, ?yv6⟩) (by assumption) ?rv6
  case yv6 => intro w hSw; (try dsimp only at hSw); go_simp <;> (try with_reducible rfl)
  (try simp only [List.getElem_toArray, List.getElem_cons_succ, List.getElem_cons_zero, Act.put, List.setIfInBounds_toArray, List.set_cons_zero, List.set_cons_succ])
  refine wpAnyH_take (i := 7) (v := ?vv7) rfl (by kernel_rfl) (by kernel_rfl) (by kernel_rfl) (fun _ _ _ h => h) (Or.inl ⟨by rfl, ?yv7⟩) (by assumption) ?rv7
  case yv7 => intro w hSw; (try dsimp only at hSw); go_simp <;> (try with_reducible rfl)
  (try simp only [List.getElem_toArray, List.getElem_cons_succ, List.getElem_cons_zero, Act.put, List.setIfInBounds_toArray, List.set_cons_zero, List.set_cons_succ])
  refine wpAnyH_take (i := 8) (v := ?vv8) rfl (by kernel_rfl) (by kernel_rfl) (by kernel_rfl) (fun _ _ _ h => h) (Or.inl ⟨by rfl, ?yv8⟩) (by assumption) ?rv8
  case yv8 => intro w hSw; (try dsimp only at hSw); go_simp <;> (try with_reducible rfl)
  (try simp only [List.getElem_toArray, List.getElem_cons_succ, List.getElem_cons_zero, Act.put, List.setIfInBounds_toArray, List.set_cons_zero, List.set_cons_succ])
  refine wpAnyH_take (i := 9) (v := ?vv9) rfl (by kernel_rfl) (by kernel_rfl) (by kernel_rfl) (fun _ _ _ h => h) (Or.inl ⟨by rfl, ?yv9⟩) (by assumption) ?rv9
  case yv9 => intro w hSw; (try dsimp only at hSw); go_simp <;> (try with_reducible rfl)
  (try simp only [List.getElem_toArray, List.getElem_cons_succ, List.getElem_cons_zero, Act.put, List.setIfInBounds_toArray, List.set_cons_zero, List.set_cons_succ])
  refine wpAnyH_ready (rs := [10]) (by kernel_rfl) (by simp) ?_
  refine AllReadyH.cons rfl (fun K hK => ?_) AllReadyH.nil
  go_simp
  go_wp2_with fail
  (with_reducible refine (sverify_b D _ 0 5 ms _ _ hv2 hDl.out (by omega) (by rw [← bytes_size, ext_take, List.length_take]; omega) (HY.next (below_join hbel8 hd8))).mono ?_)
  rintro e w9 ⟨rfl, hb9⟩
  have hk9 := below_join hd8 hb9
  clear hb9 hHeld
  refine hK.out _ _ (hS _ hk9) (fun hHeld => ?_)
  clear hK K
  refine wpAnyH_take (i := 11) (v := ?vv11) rfl (by kernel_rfl) (by kernel_rfl) (by kernel_rfl) (fun _ _ _ h => h) (Or.inl ⟨by rfl, ?yv11⟩) (by assumption) ?rv11
  case yv11 => intro w hSw; (try dsimp only at hSw); go_simp <;> (try with_reducible rfl)
  (try simp only [List.getElem_toArray, List.getElem_cons_succ, List.getElem_cons_zero, Act.put, List.setIfInBounds_toArray, List.set_cons_zero, List.set_cons_succ])
  refine wpAnyH_take (i := 12) (v := ?vv12) rfl (by kernel_rfl) (by kernel_rfl) (by kernel_rfl) (fun _ _ _ h => h) (Or.inl ⟨by rfl, ?yv12⟩) (by assumption) ?rv12
  case yv12 => intro w hSw; (try dsimp only at hSw); go_simp <;> (try with_reducible rfl)
  (try simp only [List.getElem_toArray, List.getElem_cons_succ, List.getElem_cons_zero, Act.put, List.setIfInBounds_toArray, List.set_cons_zero, List.set_cons_succ])
  refine wpAnyH_take (i := 13) (v := ?vv13) rfl (by kernel_rfl) (by kernel_rfl) (by kernel_rfl) (fun _ _ _ h => h) (Or.inl ⟨by rfl, ?yv13⟩) (by assumption) ?rv13
  case yv13 => intro w hSw; (try dsimp only at hSw); go_simp <;> (try with_reducible rfl)
  (try simp only [List.getElem_toArray, List.getElem_cons_succ, List.getElem_cons_zero, Act.put, List.setIfInBounds_toArray, List.set_cons_zero, List.set_cons_succ])
  refine wpAnyH_take (i := 14) (v := ?vv14) rfl (by kernel_rfl) (by kernel_rfl) (by kernel_rfl) (fun _ _ _ h => h) (Or.inl ⟨by rfl, ?yv14⟩) (by assumption) ?rv14
  case yv14 => intro w hSw; (try dsimp only at hSw); go_simp <;> (try with_reducible rfl)
  (try simp only [List.getElem_toArray, List.getElem_cons_succ, List.getElem_cons_zero, Act.put, List.setIfInBounds_toArray, List.set_cons_zero, List.set_cons_succ])
  refine wpAnyH_take (i := 15) (v := ?vv15) rfl (by kernel_rfl) (by kernel_rfl) (by kernel_rfl) (fun _ _ _ h => h) (Or.inl ⟨by rfl, ?yv15⟩) (by assumption) ?rv15
  case yv15 => intro w hSw; (try dsimp only at hSw); go_simp <;> (try with_reducible rfl)
  (try simp only [List.getElem_toArray, List.getElem_cons_succ, List.getElem_cons_zero, Act.put, List.setIfInBounds_toArray, List.set_cons_zero, List.set_cons_succ])
  refine wpAnyH_done (by kernel_rfl) ?_ _
  have hA9 := hA8.next hk9 hA8.lt
  have hbel9 := below_join hbel8 hk9
  clear hA8 hbel8 hk9 hS hd8 hHeld
  go_wp2_with (with_reducible refine wpList_get (o := ⟨some 114, .load 23 (.tmp 16), _, _, _, _⟩) (by with_unfolding_all rfl) 23 (.tmp 16) (by with_unfolding_all rfl) ga 0 (by with_unfolding_all rfl) hA9 (D.map B8) (cs_all _) (.array 16 5) (by exact Tryd.underlying23) (by with_unfolding_all rfl) (by rw [List.length_map, hDl.out]; exact Tryd.size44) ?_)
  (with_reducible refine (sverify_b D _ n3 e3 ms _ _ hv3 hDl.out (by omega) (by rw [← bytes_size, app_list, List.length_append, bytes_size, bytes_size]; omega) (HY.next hbel9)).mono ?_)
  rintro e w10 ⟨rfl, hb10⟩
  have hbel10 := below_join hbel9 hb10
  clear hA9 hbel9 hb10
  go_wp2
  go_ret
  exact ⟨rfl, hbel10⟩
end Go.Proofs.YtkakiepaffhhjaaDoor
