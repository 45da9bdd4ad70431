/-
  The walk over the statement that Verify checks everything. Conditions: the tables read as the document has them.
-/
import Derived.Test.YtkakiepaffhhjaaDoorKSb1
namespace Go.Proofs.YtkakiepaffhhjaaDoor
open Go.RowKit

theorem root_str (_D : List UInt8) (T : List UInt8) (s : ByteArray) (h : s.data.toList = T) (n : Nat) (hT : T.length = n) : s.size = n := by rw [← bytes_size, h, hT]
theorem u8_add (x b : UInt8) : IntKind.u8.wrap ((x.toNat : Int) + (b.toNat : Int)) = (((x + b).toNat : Nat) : Int) := by
  simp only [IntKind.wrap_u8]
  rw [UInt8.toNat_add]
  omega
theorem set_tail (E T : List UInt8) (hE : E.length = 1) (n : Nat) (hn : 1 ≤ n) (b : UInt8) : (E ++ T).set n b = E ++ T.set (n - 1) b := by
  rw [List.set_append_right _ _ (by omega), hE]
set_option maxRecDepth 100000 in
set_option maxHeartbeats 3200000 in
theorem checkLaw_any (seed : ByteArray) (hh ii : Nat) (ms os : ByteArray) (aa : Nat) (bb : UInt8) (w : World) (z0 : seed.size ≤ 140737488351232) (hhb : hh < 256) (hib : ii < 256) (z3 : ms.size ≤ 140737488351232) (z4 : os.size ≤ 140737488351232) (hab : aa < 65536) (HY : Lay w) (HC : LayC w) :
    Calls Tryd.prog 8 #[.string seed, .int .u8 hh, .int .u8 ii, .string ms, .string os, .int .u16 aa, .int .u8 (bb.toNat : Int)] w fun e w' => e = .returned (.bool true) ∧ Below w.heap.size w w' := by
  obtain ⟨m, hm⟩ : ∃ m, hh % 3 = m := ⟨_, rfl⟩
  have hm2 : m ≤ 2 := by omega
  have h6 : m ≤ 6 := by omega
  obtain ⟨q, hq⟩ : ∃ q, (2 : Nat) ^ m = q := ⟨_, rfl⟩
  have hq1 : 1 ≤ q := by rw [← hq]; exact Nat.one_le_two_pow
  have hq4 : q ≤ 4 := by rw [← hq]; exact Nat.pow_le_pow_right (by omega) hm2
  obtain ⟨k, hk⟩ : ∃ k, ii % q = k := ⟨_, rfl⟩
  have hkq : k < q := by rw [← hk]; exact Nat.mod_lt _ (by omega)
  obtain ⟨k', hk'⟩ : ∃ k', (k + 1) % q = k' := ⟨_, rfl⟩
  have hkq' : k' < q := by rw [← hk']; exact Nat.mod_lt _ (by omega)
  have hk2 : k < 2 ^ m := by rw [hq]; exact hkq
  have hk2' : k' < 2 ^ m := by rw [hq]; exact hkq'
  have h64 := k64_of hk2 h6
  have h64' := k64_of hk2' h6
  obtain ⟨D, hDv⟩ : ∃ D, (Unit → SG.value seed.data.toList m 0 = D) := ⟨_, fun _ => rfl⟩
  have hD : Unit → pubD seed.data.toList (m : Int) = D := fun _ => by rw [pubD_of _ h6]; exact hDv ()
  have hDl : Hid (D.length = 16) := by rw [← hDv ()]; exact SG.value_length _ _ _
  obtain ⟨R, hRv⟩ : ∃ R : ByteArray, (Unit → SG.sig seed.data.toList m k ms.data.toList = R.data.toList) := ⟨⟨(SG.sig seed.data.toList m k ms.data.toList).toArray⟩, fun _ => (str_toList _).symm⟩
  have hR : Unit → sgS seed.data.toList (m : Int) (k : Int) ms.data.toList = R.data.toList := fun _ => by rw [sgS_of _ _ hk2 h6]; exact hRv ()
  have hRz : R.size = 1 + (35 + m) * 16 := by rw [← bytes_size, ← hRv ()]; exact SG.sig_length _ _ _ _ h64
  obtain ⟨ds, _, hsp⟩ := SG.sig_split seed.data.toList m k ms.data.toList
  obtain ⟨T, hT⟩ : ∃ T, SG.chains seed.data.toList k ds 35 ++ SG.beside seed.data.toList k m = T := ⟨_, rfl⟩
  obtain ⟨E, hE⟩ : ∃ E, WM.encI (k : Int) = E := ⟨_, rfl⟩
  have hEl : E.length = 1 := by rw [← hE]; exact encI_one h64
  have hRd : R.data.toList = E ++ T := by rw [← hRv (), hsp, hT, hE]
  have hTl : T.length = 16 * (35 + m) := by
    have := congrArg List.length hRd
    rw [bytes_size, List.length_append, hEl, hRz] at this; omega
  obtain ⟨E2, hE2⟩ : ∃ E, WM.encI (k' : Int) = E := ⟨_, rfl⟩
  have hE2l : E2.length = 1 := by rw [← hE2]; exact encI_one h64'
  obtain ⟨sT, hsT⟩ : ∃ s : ByteArray, R.extract 1 R.size = s := ⟨_, rfl⟩
  have hsTd : sT.data.toList = T := by rw [← hsT, drop_extract, hRd, List.drop_append, List.drop_eq_nil_of_le (by omega), hEl]; rfl
  have hsTz : sT.size = 16 * (35 + m) := root_str D T sT hsTd _ hTl
  obtain ⟨r, hr⟩ : ∃ r, aa % (R.size - 1) = r := ⟨_, rfl⟩
  have hrl : r < R.size - 1 := by rw [← hr]; exact Nat.mod_lt _ (by omega)
  obtain ⟨n, hn⟩ : ∃ n, r + 1 = n := ⟨_, rfl⟩
  have hn1 : 1 ≤ n := by omega
  have hnR : n < R.size := by omega
  have hnl : n < R.data.toList.length := by rw [bytes_size]; exact hnR
  obtain ⟨x, hx⟩ : ∃ x, R.data.toList[n]? = some x := ⟨_, List.getElem?_eq_getElem hnl⟩
  obtain ⟨y, hy⟩ : ∃ y, x + bb = y := ⟨_, rfl⟩
  have hwy : IntKind.u8.wrap ((x.toNat : Int) + (bb.toNat : Int)) = (y.toNat : Int) := by rw [u8_add, hy]
  obtain ⟨T2, hT2⟩ : ∃ T2, T.set (n - 1) y = T2 := ⟨_, rfl⟩
  have hT2l : T2.length = 16 * (35 + m) := by rw [← hT2, List.length_set]; exact hTl
  have hset : R.data.toList.set n y = E ++ T2 := by rw [hRd, set_tail E T hEl n hn1 y, hT2]
  obtain ⟨sB, hsB⟩ : ∃ s : ByteArray, (⟨(E ++ T2).toArray⟩ : ByteArray) = s := ⟨_, rfl⟩
  have hsBd : sB.data.toList = E ++ T2 := by rw [← hsB, str_toList]
  have hsBz : sB.size = R.size := by rw [← bytes_size, hsBd, List.length_append, hEl, hT2l, hRz]; omega
  obtain ⟨sU, hsU⟩ : ∃ s : ByteArray, sB.extract 1 sB.size = s := ⟨_, rfl⟩
  have hsUd : sU.data.toList = T2 := by rw [← hsU, drop_extract, hsBd, List.drop_append, List.drop_eq_nil_of_le (by omega), hEl]; rfl
  have hsUz : sU.size = 16 * (35 + m) := root_str D T2 sU hsUd _ hT2l
  obtain ⟨D1, hD1⟩ : ∃ D1, (Unit → SG.root D k os.data.toList sT.data.toList m = D1) := ⟨_, fun _ => rfl⟩
  obtain ⟨D2, hD2⟩ : ∃ D2, (Unit → SG.root D k' ms.data.toList sT.data.toList m = D2) := ⟨_, fun _ => rfl⟩
  obtain ⟨D3, hD3⟩ : ∃ D3, (Unit → SG.root D k ms.data.toList sU.data.toList m = D3) := ⟨_, fun _ => rfl⟩
  have hD1l : Hid (D1.length = 16) := by rw [← hD1 ()]; exact SG.root_length _ _ _ _ _
  have hD2l : Hid (D2.length = 16) := by rw [← hD2 ()]; exact SG.root_length _ _ _ _ _
  have hD3l : Hid (D3.length = 16) := by rw [← hD3 ()]; exact SG.root_length _ _ _ _ _
  obtain ⟨b1, hb1⟩ : ∃ b1 : Bool, decide (D1 = D) = b1 := ⟨_, rfl⟩
  obtain ⟨b2, hb2⟩ : ∃ b2 : Bool, decide (D2 = D) = b2 := ⟨_, rfl⟩
  obtain ⟨b3, hb3⟩ : ∃ b3 : Bool, decide (D3 = D) = b3 := ⟨_, rfl⟩
  have hq1' := run_eqlDig D1 D hD1l.out hDl.out
  have hq2' := run_eqlDig D2 D hD2l.out hDl.out
  have hq3' := run_eqlDig D3 D hD3l.out hDl.out
  rw [hb1] at hq1'
  rw [hb2] at hq2'
  rw [hb3] at hq3'
  have hE3 : ∀ (X : List UInt8) (b : Bool), decide (X = D) = b → ((if X = D then (0 : Int) else 8) == 0) = b := fun X b hb => by
    by_cases hX : X = D
    · rw [if_pos hX, ← hb, decide_eq_true hX]; rfl
    · rw [if_neg hX, ← hb, decide_eq_false hX]; rfl
  obtain ⟨⟨n1, e1⟩, hv1⟩ : ∃ p, (Unit → vfy D (m : Int) os.data.toList R.data.toList = p) := ⟨_, fun _ => rfl⟩
  have he1 : (e1 == 0) = b1 := by
    have h := hv1 ()
    rw [hRd, ← hE, vfy_tail D _ T m k hk2 h6 hTl, ← hsTd, hD1 ()] at h
    injection h with _ he
    rw [← he]; exact hE3 D1 b1 hb1
  obtain ⟨sM, hsM⟩ : ∃ s : ByteArray, (⟨E2.toArray⟩ : ByteArray) ++ sT = s := ⟨_, rfl⟩
  have hsMd : sM.data.toList = E2 ++ T := by rw [← hsM, app_list, str_toList, hsTd]
  have hsMz : sM.size ≤ 1000 := by rw [← bytes_size, hsMd, List.length_append, hE2l, hTl]; omega
  obtain ⟨⟨n2, e2⟩, hv2⟩ : ∃ p, (Unit → vfy D (m : Int) ms.data.toList sM.data.toList = p) := ⟨_, fun _ => rfl⟩
  have he2 : (e2 == 0) = b2 := by
    have h := hv2 ()
    rw [hsMd, ← hE2, vfy_tail D _ T m k' hk2' h6 hTl, ← hsTd, hD2 ()] at h
    injection h with _ he
    rw [← he]; exact hE3 D2 b2 hb2
  obtain ⟨⟨n3, e3⟩, hv3⟩ : ∃ p, (Unit → vfy D (m : Int) ms.data.toList sB.data.toList = p) := ⟨_, fun _ => rfl⟩
  have he3 : (e3 == 0) = b3 := by
    have h := hv3 ()
    rw [hsBd, ← hE, vfy_tail D _ T2 m k hk2 h6 hT2l, ← hsUd, hD3 ()] at h
    injection h with _ he
    rw [← he]; exact hE3 D3 b3 hb3
  have hPE : Hid (pubE (m : Int) = 0) := Lib.hid (pubE_of h6)
  have hSE : Hid (sgE (m : Int) (k : Int) = 0) := Lib.hid (sgE_of hk2 h6)
  have hCn : Hid (cnt (m : Int) = q) := by
    have : cnt (m : Int) = q := by rw [cnt_of h6]; exact hq
    exact this
  have hR17 : 17 ≤ R.size := by omega
  have hR1k : R.size ≤ 1000 := by omega
  have ht1 : (hh : Int).tmod 3 = (m : Int) := by rw [Int.tmod_eq_emod_of_nonneg (by omega)]; omega
  have ht2 : (ii : Int).tmod (q : Int) = (k : Int) := by rw [Int.tmod_eq_emod_of_nonneg (by omega), ← hk]; rfl
  have ht3 : ((k : Int) + 1).tmod (q : Int) = (k' : Int) := by rw [Int.tmod_eq_emod_of_nonneg (by omega), ← hk']; rfl
  have ht4 : (aa : Int).tmod ((R.size : Int) - 1) = (r : Int) := by
    have : ((R.size : Int) - 1) = ((R.size - 1 : Nat) : Int) := by omega
    rw [this, Int.tmod_eq_emod_of_nonneg (by omega), ← hr]; rfl
  have ht5 : (1 : Int) + (r : Int) = (n : Int) := by omega
  have hq0 : ((q : Int) == 0) = false := beq_eq_false_iff_ne.2 (by omega)
  have hR0 : ((R.size : Int) - 1 == 0) = false := beq_eq_false_iff_ne.2 (by omega)
  have hnI : (n : Int) < (R.size : Int) := by omega
  have hn0 : (0 : Int) ≤ (n : Int) := by omega
  have h1R : (1 : Int) ≤ (R.size : Int) := by omega
  have h1B : (1 : Int) ≤ (sB.size : Int) := by omega
  have HX := Lib.hid hx
  have HSET := Lib.hid hset
  have HSB := Lib.hid hsB
  have HSTZ := Lib.hid hsTz
  have HSUZ := Lib.hid hsUz
  have HSBZ := Lib.hid hsBz
  have HE2 := Lib.hid hE2
  have HSM := Lib.hid hsM
  have HE2L := Lib.hid hE2l
  have HI := fun w => refInt_any (k' : Int) w (by omega) (by omega)
  rw [hE2] at HI
  have hE2p : 0 < E2.length := by omega
  have hE2z : (⟨E2.toArray⟩ : ByteArray).size ≤ 10 := by rw [str_size]; omega
  have hsTz' : sT.size ≤ 1000 := by omega
  have hsBz' : sB.size ≤ 1000 := by omega
  have hbx : x.toNat < 256 := x.toNat_lt
  have hby : bb.toNat < 256 := bb.toNat_lt
  clear hm hq hk hk' hk2 hk2' hRv hDv hRz hr hsp hT hE hEl hRd hTl hE2 hE2l hsTd hsTz hn hnl hx hy hT2 hT2l hset hsB hsBd hsBz hsUd hsUz hb1 hb2 hb3 hE3 hsMd hrl hsM
  go_enter Tryd.func8, Tryd.ntmps8
  go_wp2_with fail
  (with_reducible refine (sanity_any _ HY).mono ?_)
  rintro e w2 ⟨rfl, hb2⟩
  have hbel2 := hb2
  clear hb2
  by_cases h1 : 200 < seed.size
  · go_wp2
    go_ret
    exact ⟨rfl, hbel2⟩
  by_cases h2 : 200 < ms.size
  · go_wp2
    go_ret
    exact ⟨rfl, hbel2⟩
  by_cases h3 : 200 < os.size
  · go_wp2
    go_ret
    exact ⟨rfl, hbel2⟩
  go_wp2_with fail
  (with_reducible refine (rcount_to _ q _ hCn.out).mono ?_)
  rintro e w' ⟨rfl, rfl⟩
  go_wp2_with fail
  (with_reducible refine (rcount_to _ q _ hCn.out).mono ?_)
  rintro e w' ⟨rfl, rfl⟩
  go_wp2_with fail
  (with_reducible refine (public_any seed _ D _ hD (by omega) (HY.next hbel2)).mono ?_)
  rintro e w3 ⟨rfl, hb3⟩
  rw [hPE.out]
  have hbel3 := below_join hbel2 hb3
  clear hbel2 hb3
  go_wp2_with (with_reducible refine wpList_alloc (o := ⟨some 19, .alloc 23, _, _, _, _⟩) (by with_unfolding_all rfl) 23 (by with_unfolding_all rfl) (aggB (SM.zeros 16)) zero16 (by exact Tryd.zero44) (by with_unfolding_all rfl) ?_)
  intro ga w4 hga hs4 hb4 hB4
  have hle : w3.heap.size ≤ ga := Nat.le_of_eq hga.out.symm
  go_wp2_with (with_reducible refine wpList_put (o := ⟨none, .store 23 (.tmp 19) (.tmp 67), _, _, _, _⟩) (by with_unfolding_all rfl) 23 (.tmp 19) (.tmp 67) (by with_unfolding_all rfl) ga 0 (by with_unfolding_all rfl) (.agg (D.map B8).toArray) (by with_unfolding_all rfl) hB4 (D.map B8) (by with_unfolding_all rfl) (by rw [List.length_map, hDl.out]; exact Tryd.size44) (by with_unfolding_all (rw [List.length_map, hDl.out]; exact Nat.le_refl _)) (B8_one _) ?_)
  intro w5 hu5 hA5
  rw [splice_all _ _ (by rw [List.length_map, hDl.out]; rfl)] at hA5
  have hbel5 := below_join hbel3 ((hb4.mono hle).trans (hu5.below (B := w3.heap.size) hle))
  clear hbel3 hb4 hB4 hu5 hga hs4 hle
  go_wp2_with fail
  (with_reducible refine (ssign_b seed _ _ ms R 0 _ hR hSE.out (by omega) (by omega) (HY.next hbel5)).mono ?_)
  rintro e w6 ⟨rfl, hb6⟩
  have hA6 := hA5.next hb6 hA5.lt
  have hbel6 := below_join hbel5 hb6
  clear hA5 hbel5 hb6
  go_wp2_with (with_reducible refine wpList_get (o := ⟨some 85, .load 23 (.tmp 19), _, _, _, _⟩) (by with_unfolding_all rfl) 23 (.tmp 19) (by with_unfolding_all rfl) ga 0 (by with_unfolding_all rfl) hA6 (D.map B8) (cs_all _) (.array 16 5) (by exact Tryd.underlying23) (by with_unfolding_all rfl) (by rw [List.length_map, hDl.out]; exact Tryd.size44) ?_)
  (with_reducible refine (sverify_b D _ n1 e1 os R _ hv1 hDl.out (by omega) (by omega) (HY.next hbel6)).mono ?_)
  rintro e w7 ⟨rfl, hb7⟩
  have hA7 := hA6.next hb7 hA6.lt
  have hbel7 := below_join hbel6 hb7
  clear hA6 hbel6 hb7
  -- the other index
  have hd7 := below_drew w7
  have hcat : ¬ 9223372036854775807 < E2.length + sT.size := by have := HE2L.out; omega
  go_wp2
  refine wp_region_held_drew (S := fun w' => Below w.heap.size w w') (by kernel_rfl) (below_join hbel7 hd7) (fun hHeld => ?_)
  generalize w7.drew = wd at hd7 hHeld ⊢
  refine wpAnyH_take (i := 0) (v := ?va0) rfl (by kernel_rfl) (by kernel_rfl) (by kernel_rfl) (fun _ _ _ h => h) (Or.inl ⟨by rfl, ?ya0⟩) (by assumption) ?ra0
  case ya0 => intro w hSw; (try dsimp only at hSw); go_simp <;> (try with_reducible rfl)
  (try simp only [List.getElem_toArray, List.getElem_cons_zero, Act.put, List.setIfInBounds_toArray, List.set_cons_zero, List.set_cons_succ])
  refine wpAnyH_take (i := 3) (v := ?va3) rfl (by kernel_rfl) (by kernel_rfl) (by kernel_rfl) (fun _ _ _ h => h) (Or.inl ⟨by rfl, ?ya3⟩) (by assumption) ?ra3
  case ya3 => intro w hSw; (try dsimp only at hSw); go_simp <;> (try with_reducible rfl)
  (try simp only [List.getElem_toArray, List.getElem_cons_succ, List.getElem_cons_zero, Act.put, List.setIfInBounds_toArray, List.set_cons_zero, List.set_cons_succ])
  refine wpAnyH_take (i := 4) (v := ?va4) rfl (by kernel_rfl) (by kernel_rfl) (by kernel_rfl) (fun _ _ _ h => h) (Or.inl ⟨by rfl, ?ya4⟩) (by assumption) ?ra4
  case ya4 => intro w hSw; (try dsimp only at hSw); go_simp <;> (try with_reducible rfl)
  (try simp only [List.getElem_toArray, List.getElem_cons_succ, List.getElem_cons_zero, Act.put, List.setIfInBounds_toArray, List.set_cons_zero, List.set_cons_succ])
  refine wpAnyH_ready (rs := [1]) (by kernel_rfl) (by simp) ?_
  refine AllReadyH.cons rfl (fun K hK => ?_) AllReadyH.nil
  go_simp
  go_wp2_with fail
  (with_reducible refine (HI _).mono ?_)
  rintro e w8 ⟨v8, rfl, hown8, hb8⟩
  obtain ⟨g8, c8, rfl, hcs8⟩ := own_some hown8 hE2p
  have hk8 := below_join hd7 hb8
  have hcv8 := run_conv_later w8 (some ⟨g8, 0, none⟩) c8 E2.length E2 rfl (fun j u hu => ⟨_, rfl, hcs8 j u hu⟩) w8 (Below.refl _ _)
  clear hb8 hHeld hown8 hcs8
  refine hK.out _ _ (below_join hbel7 hk8) (fun hHeld => ?_)
  clear hK K
  refine wpAnyH_ready (rs := [2]) (by kernel_rfl) (by simp) ?_
  refine AllReadyH.cons rfl (fun K hK => ?_) AllReadyH.nil
  go_simp
  refine hK.out _ _ (below_join hbel7 hk8) (fun hHeld => ?_)
  clear hK K hcv8
  refine wpAnyH_take (i := 5) (v := ?va5) rfl (by kernel_rfl) (by kernel_rfl) (by kernel_rfl) (fun _ _ _ h => h) (Or.inl ⟨by rfl, ?ya5⟩) (by assumption) ?ra5
  case ya5 => intro w hSw; (try dsimp only at hSw); go_simp <;> (try with_reducible rfl)
  (try simp only [List.getElem_toArray, List.getElem_cons_succ, List.getElem_cons_zero, Act.put, List.setIfInBounds_toArray, List.set_cons_zero, List.set_cons_succ])
  refine wpAnyH_take (i := 6) (v := ?va6) rfl (by kernel_rfl) (by kernel_rfl) (by kernel_rfl) (fun _ _ _ h => h) (Or.inl ⟨by rfl, ?ya6⟩) (by assumption) ?ra6
  case ya6 => intro w hSw; (try dsimp only at hSw); go_simp <;> (try with_reducible rfl)
  (try simp only [List.getElem_toArray, List.getElem_cons_succ, List.getElem_cons_zero, Act.put, List.setIfInBounds_toArray, List.set_cons_zero, List.set_cons_succ])
  refine wpAnyH_done (by kernel_rfl) ?_ _
  have hA8 := hA7.next hk8 hA7.lt
  have hbel8 := below_join hbel7 hk8
  clear hA7 hbel7 hk8 hd7 hHeld
  clear hcat
  (try rw [hsT])
  rw [HSM.out]
  go_wp2_with (with_reducible refine wpList_get (o := ⟨some 99, .load 23 (.tmp 19), _, _, _, _⟩) (by with_unfolding_all rfl) 23 (.tmp 19) (by with_unfolding_all rfl) ga 0 (by with_unfolding_all rfl) hA8 (D.map B8) (cs_all _) (.array 16 5) (by exact Tryd.underlying23) (by with_unfolding_all rfl) (by rw [List.length_map, hDl.out]; exact Tryd.size44) ?_)
  (with_reducible refine (sverify_b D _ n2 e2 ms sM _ hv2 hDl.out (by omega) (by omega) (HY.next hbel8)).mono ?_)
  rintro e w9 ⟨rfl, hb9⟩
  have hA9 := hA8.next hb9 hA8.lt
  have hbel9 := below_join hbel8 hb9
  clear hA8 hbel8 hb9
  -- one byte changed
  go_wp2_with (with_reducible refine wpList_bytesRow (o := ⟨some 107, .convert 9 43 (.tmp 106), _, _, _, _⟩) (by with_unfolding_all rfl) (.tmp 106) (by with_unfolding_all rfl) R (by with_unfolding_all rfl) ?_)
  intro gb cb w10 hgb hb10 hrow10
  have hA10 := hA9.next hb10 hA9.lt
  have hne : ga ≠ gb := by have := hA9.lt; omega
  have hbel10 := below_join hbel9 hb10
  have hgw : w.heap.size ≤ gb := Nat.le_trans hbel9.size hgb
  clear hA9 hbel9 hb10
  have hcell := hrow10.cell HX.out
  go_wp2_with (with_reducible refine wpList_setB (o := ⟨none, .store 5 (.tmp 123) (.tmp 122), _, _, _, _⟩) (by with_unfolding_all rfl) (.tmp 123) (.tmp 122) (by with_unfolding_all rfl) gb n ?ad y ?va R.data.toList hrow10 (by rw [bytes_size]; exact hnR) ?_)
  case ad => rfl
  case va => rfl
  intro w11 hu11 hrow11
  rw [HSET.out] at hrow11
  have hA11 := hA10.upd hu11 hne
  have hbel11 := hbel10.trans (hu11.below (B := w.heap.size) hgw)
  have hE2T : R.size = (E ++ T2).length := by rw [← HSET.out, List.length_set, bytes_size]
  have hcv := run_conv_later w11 (some ⟨gb, 0, none⟩) cb R.size (E ++ T2) hE2T hrow11.holds
  rw [HSB.out] at hcv
  have hcv11 := hcv w11 (Below.refl _ _)
  have hE2H := Lib.hid hE2T
  clear hA10 hbel10 hu11 hrow10 hcell hE2T
  go_wp2_with (with_reducible refine wpList_get (o := ⟨some 125, .load 23 (.tmp 19), _, _, _, _⟩) (by with_unfolding_all rfl) 23 (.tmp 19) (by with_unfolding_all rfl) ga 0 (by with_unfolding_all rfl) hA11 (D.map B8) (cs_all _) (.array 16 5) (by exact Tryd.underlying23) (by with_unfolding_all rfl) (by rw [List.length_map, hDl.out]; exact Tryd.size44) ?_)
  (with_reducible refine (sverify_b D _ n3 e3 ms sB _ hv3 hDl.out (by omega) (by omega) (HY.next hbel11)).mono ?_)
  rintro e w12 ⟨rfl, hb12⟩
  have hA12 := hA11.next hb12 hA11.lt
  have hrow12 := hrow11.next hb12 hrow11.lt
  have hbel12 := below_join hbel11 hb12
  clear hA11 hbel11 hb12 hcv hcv11 hrow11
  have hun := Tryd.underlying23
  have hzD : (Tryd.prog.info? 23).map (·.size) = some (D.map B8).length := by rw [List.length_map, hDl.out]; exact Tryd.size44
  have hgd44 := Tryd.guard44
  -- one
  have hS : ∀ w', Below w12.heap.size w12 w' → (Below w.heap.size w w' ∧ w'.rangeAt ga 0 (D.map B8)) := fun w' h => ⟨below_join hbel12 h, blk_range (hA12.next h hA12.lt)⟩
  have hd12 := below_drew w12
  go_wp2
  refine wp_region_held_drew (S := fun w' => Below w.heap.size w w' ∧ w'.rangeAt ga 0 (D.map B8)) (by kernel_rfl) (hS _ hd12) (fun hHeld => ?_)
  generalize w12.drew = we at hd12 hHeld ⊢
  refine' wpAnyH_take (i := 0) (v := _) rfl (by kernel_rfl) (by kernel_rfl) (by kernel_rfl) (fun _ _ _ h => h) (yieldsIf_load_mid (by rfl) _ _ (by rfl) _ _ (by rfl) _ _ ?Sb0 ?ub0 ?db0 ?ib0) (by assumption) ?rb0
  case Sb0 => exact (by intro w h; exact h.2)
  case ub0 => exact hun
  case db0 => rfl
  case ib0 => exact hzD
  (try simp only [List.getElem_toArray, List.getElem_cons_zero, Act.put, List.setIfInBounds_toArray, List.set_cons_zero, List.set_cons_succ])
  refine wpAnyH_take (i := 1) (v := ?vb1) rfl (by kernel_rfl) (by kernel_rfl) (by kernel_rfl) (fun _ _ _ h => h) (Or.inl ⟨by rfl, ?yb1⟩) (by assumption) ?rb1
  case yb1 => intro w hSw; (try dsimp only at hSw); go_simp <;> (try with_reducible rfl)
  (try simp only [List.getElem_toArray, List.getElem_cons_succ, List.getElem_cons_zero, Act.put, List.setIfInBounds_toArray, List.set_cons_zero, List.set_cons_succ])
  refine wpAnyH_take (i := 2) (v := ?vb2) rfl (by kernel_rfl) (by kernel_rfl) (by kernel_rfl) (fun _ _ _ h => h) (Or.inl ⟨by rfl, ?yb2⟩) (by assumption) ?rb2
  case yb2 => intro w hSw; (try dsimp only at hSw); go_simp <;> (try with_reducible rfl)
  (try simp only [List.getElem_toArray, List.getElem_cons_succ, List.getElem_cons_zero, Act.put, List.setIfInBounds_toArray, List.set_cons_zero, List.set_cons_succ])
  refine wpAnyH_take (i := 3) (v := ?vb3) rfl (by kernel_rfl) (by kernel_rfl) (by kernel_rfl) (fun _ _ _ h => h) (Or.inl ⟨by rfl, ?yb3⟩) (by assumption) ?rb3
  case yb3 => intro w hSw; (try dsimp only at hSw); go_simp <;> (try with_reducible rfl)
  (try simp only [List.getElem_toArray, List.getElem_cons_succ, List.getElem_cons_zero, Act.put, List.setIfInBounds_toArray, List.set_cons_zero, List.set_cons_succ])
  refine wpAnyH_take (i := 4) (v := ?vb4) rfl (by kernel_rfl) (by kernel_rfl) (by kernel_rfl) (fun _ _ _ h => h) (Or.inl ⟨by rfl, ?yb4⟩) (by assumption) ?rb4
  case yb4 => intro w hSw; (try dsimp only at hSw); go_simp <;> (try with_reducible rfl)
  (try simp only [List.getElem_toArray, List.getElem_cons_succ, List.getElem_cons_zero, Act.put, List.setIfInBounds_toArray, List.set_cons_zero, List.set_cons_succ])
  refine wpAnyH_take (i := 5) (v := ?vb5) rfl (by kernel_rfl) (by kernel_rfl) (by kernel_rfl) (fun _ _ _ h => h) (Or.inl ⟨by rfl, ?yb5⟩) (by assumption) ?rb5
  case yb5 => intro w hSw; (try dsimp only at hSw); go_simp <;> (try with_reducible rfl)
  (try simp only [List.getElem_toArray, List.getElem_cons_succ, List.getElem_cons_zero, Act.put, List.setIfInBounds_toArray, List.set_cons_zero, List.set_cons_succ])
  refine' wpAnyH_take (i := 7) (v := _) rfl (by kernel_rfl) (by kernel_rfl) (by kernel_rfl) (fun _ _ _ h => h) (yieldsIf_load_mid (by rfl) _ _ (by rfl) _ _ (by rfl) _ _ ?Sb7 ?ub7 ?db7 ?ib7) (by assumption) ?rb7
  case Sb7 => exact (by intro w h; exact h.2)
  case ub7 => exact hun
  case db7 => rfl
  case ib7 => exact hzD
  (try simp only [List.getElem_toArray, List.getElem_cons_succ, List.getElem_cons_zero, Act.put, List.setIfInBounds_toArray, List.set_cons_zero, List.set_cons_succ])
  (try rw [hsT])
  refine wpAnyH_ready (rs := [6]) (by kernel_rfl) (by simp) ?_
  refine AllReadyH.cons rfl (fun K hK => ?_) AllReadyH.nil
  go_simp
  go_wp2_with fail
  (with_reducible refine (rroot_b D m k os sT D1 _ hD1 h6 h64 hDl.out (by omega) HSTZ.out (HC.next (below_join hbel12 hd12))).mono ?_)
  rintro e w13 ⟨rfl, hb13⟩
  have hk13 := below_join hd12 hb13
  clear hb13 hHeld
  refine hK.out _ _ (hS _ hk13) (fun hHeld => ?_)
  clear hK K
  refine wpAnyH_take (i := 8) (v := ?vb8) rfl (by kernel_rfl) (by kernel_rfl) (by kernel_rfl) (fun _ _ _ h => h) (Or.inl ⟨by rfl, ?yb8⟩) (by assumption) ?rb8
  case yb8 => intro w hSw; (try dsimp only at hSw); go_simp <;> (try with_reducible rfl)
  (try simp only [List.getElem_toArray, List.getElem_cons_succ, List.getElem_cons_zero, Act.put, List.setIfInBounds_toArray, List.set_cons_zero, List.set_cons_succ])
  refine wpAnyH_take (i := 9) (v := ?vb9) rfl (by kernel_rfl) (by kernel_rfl) (by kernel_rfl) (fun _ _ _ h => h) (Or.inl ⟨by rfl, ?yb9⟩) (by assumption) ?rb9
  case yb9 => intro w hSw; (try dsimp only at hSw); go_simp <;> (try with_reducible rfl)
  (try simp only [List.getElem_toArray, List.getElem_cons_succ, List.getElem_cons_zero, Act.put, List.setIfInBounds_toArray, List.set_cons_zero, List.set_cons_succ])
  refine wpAnyH_done (by kernel_rfl) ?_ _
  have hA13 := hA12.next hk13 hA12.lt
  have hrow13 := hrow12.next hk13 hrow12.lt
  have hbel13 := below_join hbel12 hk13
  clear hA12 hbel12 hk13 hd12 hHeld hS hrow12
  -- two
  have hS : ∀ w', Below w13.heap.size w13 w' → (Below w.heap.size w w' ∧ w'.rangeAt ga 0 (D.map B8)) := fun w' h => ⟨below_join hbel13 h, blk_range (hA13.next h hA13.lt)⟩
  have hd13 := below_drew w13
  go_wp2
  refine wp_region_held_drew (S := fun w' => Below w.heap.size w w' ∧ w'.rangeAt ga 0 (D.map B8)) (by kernel_rfl) (hS _ hd13) (fun hHeld => ?_)
  generalize w13.drew = wf at hd13 hHeld ⊢
  refine' wpAnyH_take (i := 0) (v := _) rfl (by kernel_rfl) (by kernel_rfl) (by kernel_rfl) (fun _ _ _ h => h) (yieldsIf_load_mid (by rfl) _ _ (by rfl) _ _ (by rfl) _ _ ?Sc0 ?uc0 ?dc0 ?ic0) (by assumption) ?rc0
  case Sc0 => exact (by intro w h; exact h.2)
  case uc0 => exact hun
  case dc0 => rfl
  case ic0 => exact hzD
  (try simp only [List.getElem_toArray, List.getElem_cons_zero, Act.put, List.setIfInBounds_toArray, List.set_cons_zero, List.set_cons_succ])
  refine wpAnyH_take (i := 1) (v := ?vc1) rfl (by kernel_rfl) (by kernel_rfl) (by kernel_rfl) (fun _ _ _ h => h) (Or.inl ⟨by rfl, ?yc1⟩) (by assumption) ?rc1
  case yc1 => intro w hSw; (try dsimp only at hSw); go_simp <;> (try with_reducible rfl)
  (try simp only [List.getElem_toArray, List.getElem_cons_succ, List.getElem_cons_zero, Act.put, List.setIfInBounds_toArray, List.set_cons_zero, List.set_cons_succ])
  refine wpAnyH_take (i := 2) (v := ?vc2) rfl (by kernel_rfl) (by kernel_rfl) (by kernel_rfl) (fun _ _ _ h => h) (Or.inl ⟨by rfl, ?yc2⟩) (by assumption) ?rc2
  case yc2 => intro w hSw; (try dsimp only at hSw); go_simp <;> (try with_reducible rfl)
  (try simp only [List.getElem_toArray, List.getElem_cons_succ, List.getElem_cons_zero, Act.put, List.setIfInBounds_toArray, List.set_cons_zero, List.set_cons_succ])
  refine wpAnyH_take (i := 3) (v := ?vc3) rfl (by kernel_rfl) (by kernel_rfl) (by kernel_rfl) (fun _ _ _ h => h) (Or.inl ⟨by rfl, ?yc3⟩) (by assumption) ?rc3
  case yc3 => intro w hSw; (try dsimp only at hSw); go_simp <;> (try with_reducible rfl)
  (try simp only [List.getElem_toArray, List.getElem_cons_succ, List.getElem_cons_zero, Act.put, List.setIfInBounds_toArray, List.set_cons_zero, List.set_cons_succ])
  refine wpAnyH_take (i := 4) (v := ?vc4) rfl (by kernel_rfl) (by kernel_rfl) (by kernel_rfl) (fun _ _ _ h => h) (Or.inl ⟨by rfl, ?yc4⟩) (by assumption) ?rc4
  case yc4 => intro w hSw; (try dsimp only at hSw); go_simp <;> (try with_reducible rfl)
  (try simp only [List.getElem_toArray, List.getElem_cons_succ, List.getElem_cons_zero, Act.put, List.setIfInBounds_toArray, List.set_cons_zero, List.set_cons_succ])
  refine wpAnyH_take (i := 5) (v := ?vc5) rfl (by kernel_rfl) (by kernel_rfl) (by kernel_rfl) (fun _ _ _ h => h) (Or.inl ⟨by rfl, ?yc5⟩) (by assumption) ?rc5
  case yc5 => intro w hSw; (try dsimp only at hSw); go_simp <;> (try with_reducible rfl)
  (try simp only [List.getElem_toArray, List.getElem_cons_succ, List.getElem_cons_zero, Act.put, List.setIfInBounds_toArray, List.set_cons_zero, List.set_cons_succ])
  refine' wpAnyH_take (i := 7) (v := _) rfl (by kernel_rfl) (by kernel_rfl) (by kernel_rfl) (fun _ _ _ h => h) (yieldsIf_load_mid (by rfl) _ _ (by rfl) _ _ (by rfl) _ _ ?Sc7 ?uc7 ?dc7 ?ic7) (by assumption) ?rc7
  case Sc7 => exact (by intro w h; exact h.2)
  case uc7 => exact hun
  case dc7 => rfl
  case ic7 => exact hzD
  (try simp only [List.getElem_toArray, List.getElem_cons_succ, List.getElem_cons_zero, Act.put, List.setIfInBounds_toArray, List.set_cons_zero, List.set_cons_succ])
  (try rw [hsT])
  refine wpAnyH_ready (rs := [6]) (by kernel_rfl) (by simp) ?_
  refine AllReadyH.cons rfl (fun K hK => ?_) AllReadyH.nil
  go_simp
  go_wp2_with fail
  (with_reducible refine (rroot_b D m k' ms sT D2 _ hD2 h6 h64' hDl.out (by omega) HSTZ.out (HC.next (below_join hbel13 hd13))).mono ?_)
  rintro e w14 ⟨rfl, hb14⟩
  have hk14 := below_join hd13 hb14
  clear hb14 hHeld
  refine hK.out _ _ (hS _ hk14) (fun hHeld => ?_)
  clear hK K
  refine wpAnyH_take (i := 8) (v := ?vc8) rfl (by kernel_rfl) (by kernel_rfl) (by kernel_rfl) (fun _ _ _ h => h) (Or.inl ⟨by rfl, ?yc8⟩) (by assumption) ?rc8
  case yc8 => intro w hSw; (try dsimp only at hSw); go_simp <;> (try with_reducible rfl)
  (try simp only [List.getElem_toArray, List.getElem_cons_succ, List.getElem_cons_zero, Act.put, List.setIfInBounds_toArray, List.set_cons_zero, List.set_cons_succ])
  refine wpAnyH_take (i := 9) (v := ?vc9) rfl (by kernel_rfl) (by kernel_rfl) (by kernel_rfl) (fun _ _ _ h => h) (Or.inl ⟨by rfl, ?yc9⟩) (by assumption) ?rc9
  case yc9 => intro w hSw; (try dsimp only at hSw); go_simp <;> (try with_reducible rfl)
  (try simp only [List.getElem_toArray, List.getElem_cons_succ, List.getElem_cons_zero, Act.put, List.setIfInBounds_toArray, List.set_cons_zero, List.set_cons_succ])
  refine wpAnyH_done (by kernel_rfl) ?_ _
  have hA14 := hA13.next hk14 hA13.lt
  have hrow14 := hrow13.next hk14 hrow13.lt
  have hbel14 := below_join hbel13 hk14
  clear hA13 hbel13 hk14 hd13 hHeld hS hrow13
  -- three
  have hS : ∀ w', Below w14.heap.size w14 w' → (Below w.heap.size w w' ∧ w'.rangeAt ga 0 (D.map B8)) := fun w' h => ⟨below_join hbel14 h, blk_range (hA14.next h hA14.lt)⟩
  have hd14 := below_drew w14
  have hcv := run_conv_later w14 (some ⟨gb, 0, none⟩) cb R.size (E ++ T2) hE2H.out hrow14.holds
  rw [HSB.out] at hcv
  go_wp2
  refine wp_region_held_drew (S := fun w' => Below w.heap.size w w' ∧ w'.rangeAt ga 0 (D.map B8)) (by kernel_rfl) (hS _ hd14) (fun hHeld => ?_)
  have hcvd := hcv _ hd14
  clear hcv
  generalize w14.drew = wg at hd14 hHeld hcvd ⊢
  refine' wpAnyH_take (i := 0) (v := _) rfl (by kernel_rfl) (by kernel_rfl) (by kernel_rfl) (fun _ _ _ h => h) (yieldsIf_load_mid (by rfl) _ _ (by rfl) _ _ (by rfl) _ _ ?Sd0 ?ud0 ?dd0 ?id0) (by assumption) ?rd0
  case Sd0 => exact (by intro w h; exact h.2)
  case ud0 => exact hun
  case dd0 => rfl
  case id0 => exact hzD
  (try simp only [List.getElem_toArray, List.getElem_cons_zero, Act.put, List.setIfInBounds_toArray, List.set_cons_zero, List.set_cons_succ])
  refine wpAnyH_take (i := 1) (v := ?vd1) rfl (by kernel_rfl) (by kernel_rfl) (by kernel_rfl) (fun _ _ _ h => h) (Or.inl ⟨by rfl, ?yd1⟩) (by assumption) ?rd1
  case yd1 => intro w hSw; (try dsimp only at hSw); go_simp <;> (try with_reducible rfl)
  (try simp only [List.getElem_toArray, List.getElem_cons_succ, List.getElem_cons_zero, Act.put, List.setIfInBounds_toArray, List.set_cons_zero, List.set_cons_succ])
  refine wpAnyH_take (i := 2) (v := ?vd2) rfl (by kernel_rfl) (by kernel_rfl) (by kernel_rfl) (fun _ _ _ h => h) (Or.inl ⟨by rfl, ?yd2⟩) (by assumption) ?rd2
  case yd2 => intro w hSw; (try dsimp only at hSw); go_simp <;> (try with_reducible rfl)
  (try simp only [List.getElem_toArray, List.getElem_cons_succ, List.getElem_cons_zero, Act.put, List.setIfInBounds_toArray, List.set_cons_zero, List.set_cons_succ])
  refine wpAnyH_take (i := 3) (v := ?vd3) rfl (by kernel_rfl) (by kernel_rfl) (by kernel_rfl) (fun _ _ _ h => h) (Or.inl ⟨by rfl, ?yd3⟩) (by assumption) ?rd3
  case yd3 => intro w hSw; (try dsimp only at hSw); go_simp <;> (try with_reducible rfl)
  (try simp only [List.getElem_toArray, List.getElem_cons_succ, List.getElem_cons_zero, Act.put, List.setIfInBounds_toArray, List.set_cons_zero, List.set_cons_succ])
  refine wpAnyH_take (i := 4) (v := ?vd4) rfl (by kernel_rfl) (by kernel_rfl) (by kernel_rfl) (fun _ _ _ h => h) (Or.inl ⟨by rfl, ?yd4⟩) (by assumption) ?rd4
  case yd4 => intro w hSw; (try dsimp only at hSw); go_simp <;> (try with_reducible rfl)
  (try simp only [List.getElem_toArray, List.getElem_cons_succ, List.getElem_cons_zero, Act.put, List.setIfInBounds_toArray, List.set_cons_zero, List.set_cons_succ])
  refine' wpAnyH_take (i := 8) (v := _) rfl (by kernel_rfl) (by kernel_rfl) (by kernel_rfl) (fun _ _ _ h => h) (yieldsIf_load_mid (by rfl) _ _ (by rfl) _ _ (by rfl) _ _ ?Sd8 ?ud8 ?dd8 ?id8) (by assumption) ?rd8
  case Sd8 => exact (by intro w h; exact h.2)
  case ud8 => exact hun
  case dd8 => rfl
  case id8 => exact hzD
  (try simp only [List.getElem_toArray, List.getElem_cons_succ, List.getElem_cons_zero, Act.put, List.setIfInBounds_toArray, List.set_cons_zero, List.set_cons_succ])
  refine wpAnyH_ready (rs := [5]) (by kernel_rfl) (by simp) ?_
  refine AllReadyH.cons rfl (fun K hK => ?_) AllReadyH.nil
  go_simp
  refine hK.out _ _ (hS _ hd14) (fun hHeld => ?_)
  clear hK K hcvd
  refine wpAnyH_take (i := 6) (v := ?vd6) rfl (by kernel_rfl) (by kernel_rfl) (by kernel_rfl) (fun _ _ _ h => h) (Or.inl ⟨by rfl, ?yd6⟩) (by assumption) ?rd6
  case yd6 => intro w hSw; (try dsimp only at hSw); go_simp <;> (try with_reducible rfl)
  (try simp only [List.getElem_toArray, List.getElem_cons_succ, List.getElem_cons_zero, Act.put, List.setIfInBounds_toArray, List.set_cons_zero, List.set_cons_succ])
  (try rw [hsU])
  refine wpAnyH_ready (rs := [7]) (by kernel_rfl) (by simp) ?_
  refine AllReadyH.cons rfl (fun K hK => ?_) AllReadyH.nil
  go_simp
  go_wp2_with fail
  (with_reducible refine (rroot_b D m k ms sU D3 _ hD3 h6 h64 hDl.out (by omega) HSUZ.out (HC.next (below_join hbel14 hd14))).mono ?_)
  rintro e w15 ⟨rfl, hb15⟩
  have hk15 := below_join hd14 hb15
  clear hb15 hHeld
  refine hK.out _ _ (hS _ hk15) (fun hHeld => ?_)
  clear hK K
  refine wpAnyH_take (i := 9) (v := ?vd9) rfl (by kernel_rfl) (by kernel_rfl) (by kernel_rfl) (fun _ _ _ h => h) (Or.inl ⟨by rfl, ?yd9⟩) (by assumption) ?rd9
  case yd9 => intro w hSw; (try dsimp only at hSw); go_simp <;> (try with_reducible rfl)
  (try simp only [List.getElem_toArray, List.getElem_cons_succ, List.getElem_cons_zero, Act.put, List.setIfInBounds_toArray, List.set_cons_zero, List.set_cons_succ])
  refine wpAnyH_take (i := 10) (v := ?vd10) rfl (by kernel_rfl) (by kernel_rfl) (by kernel_rfl) (fun _ _ _ h => h) (Or.inl ⟨by rfl, ?yd10⟩) (by assumption) ?rd10
  case yd10 => intro w hSw; (try dsimp only at hSw); go_simp <;> (try with_reducible rfl)
  (try simp only [List.getElem_toArray, List.getElem_cons_succ, List.getElem_cons_zero, Act.put, List.setIfInBounds_toArray, List.set_cons_zero, List.set_cons_succ])
  refine wpAnyH_done (by kernel_rfl) ?_ _
  have hbel15 := below_join hbel14 hk15
  clear hA14 hbel14 hk15 hd14 hHeld hS hrow14
  go_wp2
  go_ret
  exact ⟨rfl, hbel15⟩
end Go.Proofs.YtkakiepaffhhjaaDoor
