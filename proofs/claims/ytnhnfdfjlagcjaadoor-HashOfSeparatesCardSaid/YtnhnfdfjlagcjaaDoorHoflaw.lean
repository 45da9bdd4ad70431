/-
  The walk over the statement on Of. Conditions: the tables read as the document has them.
-/
import Derived.Test.YtnhnfdfjlagcjaaDoorHshort
import Derived.Test.YtnhnfdfjlagcjaaDoorHsumlaw
import Derived.Deep.RegionHeld3
import Derived.Laws.Bits128
namespace Go.Proofs.YtnhnfdfjlagcjaaDoor
open Go.RowKit

theorem eqIn_dig (l : List UInt8) (hl : l.length = 16) : ∀ w : World, (Op.equalIn 10000 44 (.agg (l.map B8).toArray) (.agg (l.map B8).toArray)).run Tryd.prog w = .ok true w := fun w => by
  obtain ⟨i0, hi, _, _, _⟩ := info_parts Tryd.info8
  rw [run_equalIn_array (P := Tryd.prog) (w := w) 9999 _ _ Tryd.underlying44 hi, Tryd.cells5, eqItems_dec w l l rfl _ (fun i h => by have := List.mem_range.1 h; omega), ← hl, all_range_eq l l rfl]
  simp
theorem i64_and255 (n : Int) : bits .and .i64 n 255 = n % 256 := by
  have h255 : (BitVec.ofInt 64 255).toNat = 2 ^ 8 - 1 := by decide
  have key : (BitVec.ofInt 64 n &&& BitVec.ofInt 64 255).toNat = (n % ((2 ^ 64 : Nat) : Int)).toNat % 2 ^ 8 := by
    rw [BitVec.toNat_and, BitVec.toNat_ofInt, h255, Nat.and_two_pow_sub_one_eq_mod]
  show IntKind.i64.wrap ((BitVec.ofInt 64 n &&& BitVec.ofInt 64 255).toNat : Nat) = n % 256
  rw [key, IntKind.wrap_i64]
  omega
theorem and255 (t : Int) : tagB (bits .and .i64 t 255) = tagB t := by
  rw [i64_and255]
  unfold tagB
  rw [Int.emod_emod_of_dvd t (Int.dvd_refl 256)]
theorem fewB_len (xs : List ByteArray) (h : fewB xs = true) : xs.length ≤ 12 ∧ ∀ s ∈ xs, s.size ≤ 400 := by
  unfold fewB at h
  rw [Bool.and_eq_true, decide_eq_true_eq, List.all_eq_true] at h
  exact ⟨h.1, fun s hs => by simpa using h.2 s hs⟩
theorem ofIn_small (t : Int) (xs : List ByteArray) (h : fewB xs = true) : (ofIn t xs).length ≤ 10000 := by
  obtain ⟨h1, h2⟩ := fewB_len xs h
  have key : ∀ (ys : List ByteArray), (∀ s ∈ ys, s.size ≤ 400) → ((strsOf ys).flatMap WM.encB).length ≤ 410 * ys.length := by
    intro ys
    induction ys with
    | nil => intro _; simp [strsOf]
    | cons y r ih =>
      intro hy
      have h3 := ih (fun s hs => hy s (by simp [hs]))
      have h4 := hy y (by simp)
      have h5 : (WM.encB y.data.toList).length ≤ 410 := by
        show (WM.encI (y.data.toList.length : Int) ++ y.data.toList).length ≤ 410
        have : (WM.encI (y.data.toList.length : Int)).length ≤ 10 := WM.encI_le ⟨by omega, by rw [bytes_size]; omega⟩
        rw [List.length_append, bytes_size] at *
        omega
      show ((WM.encB y.data.toList) ++ ((strsOf r).flatMap WM.encB)).length ≤ _
      rw [List.length_append, List.length_cons]
      omega
  have := key xs h2
  unfold ofIn
  rw [List.length_cons]
  omega
theorem of_to (A : Option Addr) (cap n : Nat) (t : Int) (xs : List ByteArray) (D : List UInt8) (w : World) (hD : Unit → ofD t xs = D) (hn : n = xs.length) (hn1 : n ≤ 1000000) (hl : (ofIn t xs).length ≤ 100000000) (HY : Lay w) (hh : Holds w A (xs.map Value.string)) :
    Calls Tryd.prog 26 #[.int .i64 t, .slice A n cap] w fun e w' => e = .returned (.agg (D.map B8).toArray) ∧ Below w.heap.size w w' := by
  rw [← hD ()]; exact of_any A cap n t xs w hn hn1 (by omega) HY hh
theorem ofD_and (t u : Int) (xs : List ByteArray) (h : tagB u = tagB t) : ofD u xs = ofD t xs := by unfold ofD ofIn; rw [h]

set_option maxRecDepth 100000 in
set_option maxHeartbeats 800000 in
theorem ofLaw_any (t : Int) (A : Option Addr) (cap n : Nat) (xs : List ByteArray) (w : World) (hn : n = xs.length) (hz : n * 16 ≤ 140737488351232) (hb : ∀ s ∈ xs, s.size ≤ 140737488351232) (hh : Holds w A (xs.map Value.string)) (HY : Lay w) (HC : LayC w) :
    Calls Tryd.prog 7 #[.int .i64 t, .slice A n cap] w fun e w' => e = .returned (.bool true) ∧ Below w.heap.size w w' := by
  have HN := Lib.hid hn
  have HB := Lib.hid hb
  clear hn hb
  go_enter Tryd.func7, Tryd.ntmps7
  go_wp2_with fail
  (with_reducible refine (sanity_any _ HY).mono ?_)
  rintro e w1 ⟨rfl, hb1⟩
  have hh1 := hh.next hb1
  go_wp2_with fail
  (with_reducible refine (few_any A cap n xs _ HN.out hz hh1 HB.out).mono ?_)
  rintro e w2 ⟨rfl, hb2⟩
  have hbel2 := below_join hb1 hb2
  have hh2 := hh1.next hb2
  clear hb1 hb2 hh1
  by_cases hfew : fewB xs = true
  · have h12 := (fewB_len xs hfew).1
    have hsm := ofIn_small t xs hfew
    have hsm2 := ofIn_small (bits .and .i64 t 255) xs hfew
    have HN2 : Hid (n ≤ 12) := by have : n ≤ 12 := by rw [HN.out]; exact h12
                                  exact this
    obtain ⟨D, hD⟩ : ∃ D, (Unit → ofD t xs = D) := ⟨_, fun _ => rfl⟩
    have hDl : Hid (D.length = 16) := by rw [← hD ()]; exact ofD_length _ _
    have hD2 : Unit → ofD (bits .and .i64 t 255) xs = D := fun _ => by rw [ofD_and _ _ _ (and255 t), hD ()]
    have HY2 := HY.next hbel2
    rw [hfew]
    go_wp2_with fail
    (with_reducible refine (of_to A cap n t xs D _ hD HN.out (by have := HN2.out; omega) (by omega) HY2 hh2).mono ?_)
    rintro e w3 ⟨rfl, hb3⟩
    have hbel3 := below_join hbel2 hb3
    have hh3 := hh2.next hb3
    clear hb3 hbel2 hh2 HY2
    go_wp2_with (with_reducible refine wpList_alloc (o := ⟨some 6, .alloc 44, _, _, _, _⟩) ?g1 44 ?o1 (aggB (SM.zeros 16)) zero16 ?z1 ?c1 ?_)
    try (case g1 => rfl)
    try (case o1 => rfl)
    try (case z1 => exact Tryd.zero44)
    try (case c1 => rfl)
    intro g w4 hg hs4 hb4 hB4
    have hle : w.heap.size ≤ g := by have := hbel3.size; have := hg.out; omega
    have hbel4 := hbel3.trans (hb4.mono hle)
    clear hbel3 hb4 hg hs4
    go_wp2_with (with_reducible refine wpList_put (o := ⟨none, .store 44 (.tmp 6) (.tmp 14), _, _, _, _⟩) ?g2 44 (.tmp 6) (.tmp 14) ?o2 g 0 ?x2 (.agg (D.map B8).toArray) ?y2 hB4 (D.map B8) ?v2 ?i2 ?l2 ?q2 ?_)
    try (case y2 => rfl)
    try (case x2 => rfl)
    try (case g2 => rfl)
    try (case o2 => rfl)
    try (case v2 => rfl)
    try (case i2 => exact (by rw [List.length_map, hDl.out]; exact Tryd.size44))
    try (case l2 => (rw [List.length_map, hDl.out]; exact Nat.le_refl _))
    try (case q2 => exact B8_one _)
    intro w5 hu5 hB5
    rw [splice_all _ _ (by rw [List.length_map, hDl.out]; rfl)] at hB5
    have hbel5 := hbel4.trans (hu5.below (B := w.heap.size) hle)
    have HY5 := HY.next hbel5
    have HC5 := HC.next hbel5
    have hh5 := hh.next hbel5
    clear hbel4 hB4 hu5 hh3 HY HC hh
    have hld : ∀ w', Below w5.heap.size w5 w' → (loadVar 44 ⟨g, 0, none⟩).run Tryd.prog w' = .ok (.agg (D.map B8).toArray) w' := fun w' hw => run_get w' g 0 _ _ _ _ (hB5.next hw hB5.lt) (cs_all _) _ Tryd.underlying44 rfl (by rw [List.length_map, hDl.out]; exact Tryd.size44)
    have heq := eqIn_dig D hDl.out
    have hgd := Tryd.guard44
    have hrg : ∀ w', Below w5.heap.size w5 w' → w'.rangeAt g 0 (D.map B8) := fun w' hw => blk_range (hB5.next hw hB5.lt)
    have hsz44 : (Tryd.prog.info? 44).map (·.size) = some (D.map B8).length := by rw [List.length_map, hDl.out]; exact Tryd.size44
    have hun44 := Tryd.underlying44
    have hn12 : n ≤ 1000000 := by have := HN2.out; omega
    have hsm' : (ofIn t xs).length ≤ 100000000 := by omega
    have hsm2' : (ofIn (bits .and .i64 t 255) xs).length ≤ 100000000 := by omega
    obtain ⟨u, hu⟩ : ∃ u, Hid (bits .and .i64 t 255 = u) := ⟨_, rfl⟩
    have hbu : bits .and .i64 t 255 = u := hu.out
    rw [hu.out] at hD2 hsm2'
    clear hsm hsm2 hfew h12
    go_wp2
    have hd := below_drew w5
    refine wp_region_held_drew (S := fun w' => Below w5.heap.size w5 w' ∧ w'.rangeAt g 0 (D.map B8)) (by kernel_rfl) ⟨hd, hrg _ hd⟩ (fun hHeld => ?_)
    refine wpAnyH_take (i := 0) (v := ?va0) rfl (by kernel_rfl) (by kernel_rfl) (by kernel_rfl) (fun _ _ _ h => h) (Or.inl ⟨by rfl, ?ya0⟩) (by assumption) ?ra0
    case ya0 => intro w hSw; (try dsimp only at hSw); go_simp <;> (try with_reducible rfl)
    (try simp only [List.getElem_toArray, List.getElem_cons_zero, Act.put, List.setIfInBounds_toArray, List.set_cons_zero, List.set_cons_succ])
    refine wpAnyH_take (i := 1) (v := ?va1) rfl (by kernel_rfl) (by kernel_rfl) (by kernel_rfl) (fun _ _ _ h => h) (Or.inl ⟨by rfl, ?ya1⟩) (by assumption) ?ra1
    case ya1 => intro w hSw; (try dsimp only at hSw); go_simp <;> (try with_reducible rfl)
    (try simp only [List.getElem_toArray, List.getElem_cons_succ, List.getElem_cons_zero, Act.put, List.setIfInBounds_toArray, List.set_cons_zero, List.set_cons_succ])
    refine' wpAnyH_take (i := 2) (v := _) rfl (by kernel_rfl) (by kernel_rfl) (by kernel_rfl) (fun _ _ _ h => h) (yieldsIf_load_mid (by rfl) _ _ (by rfl) _ _ (by rfl) _ _ ?Sa2 ?ua2 ?da2 ?ia2) (by assumption) ?ra2
    case Sa2 => exact (by intro w h; exact h.2)
    case ua2 => exact hun44
    case da2 => rfl
    case ia2 => exact hsz44
    (try simp only [List.getElem_toArray, List.getElem_cons_succ, List.getElem_cons_zero, Act.put, List.setIfInBounds_toArray, List.set_cons_zero, List.set_cons_succ])
    refine wpAnyH_take (i := 3) (v := ?va3) rfl (by kernel_rfl) (by kernel_rfl) (by kernel_rfl) (fun _ _ _ h => h) (Or.inl ⟨by rfl, ?ya3⟩) (by assumption) ?ra3
    case ya3 => intro w hSw; (try dsimp only at hSw); go_simp <;> (try with_reducible rfl)
    (try simp only [List.getElem_toArray, List.getElem_cons_succ, List.getElem_cons_zero, Act.put, List.setIfInBounds_toArray, List.set_cons_zero, List.set_cons_succ])
    refine wpAnyH_take (i := 4) (v := ?va4) rfl (by kernel_rfl) (by kernel_rfl) (by kernel_rfl) (fun _ _ _ h => h) (Or.inl ⟨by rfl, ?ya4⟩) (by assumption) ?ra4
    case ya4 => intro w hSw; (try dsimp only at hSw); go_simp <;> (try with_reducible rfl)
    (try simp only [List.getElem_toArray, List.getElem_cons_succ, List.getElem_cons_zero, Act.put, List.setIfInBounds_toArray, List.set_cons_zero, List.set_cons_succ])
    refine wpAnyH_ready (rs := [5]) (by kernel_rfl) (by simp) ?_
    refine AllReadyH.cons rfl (fun K hK => ?_) AllReadyH.nil
    go_simp
    go_wp2_with fail
    (with_reducible refine (rof_any A cap n t xs D _ hD HN.out hn12 hsm' (HC5.next hHeld.1) (hh5.next hHeld.1)).mono ?_)
    rintro e w6 ⟨rfl, hb6⟩
    have hk6 := below_join hHeld.1 hb6
    clear hb6 hHeld
    refine hK.out _ _ ⟨hk6, hrg _ hk6⟩ (fun hHeld => ?_)
    clear hK K hk6
    refine wpAnyH_take (i := 6) (v := ?va6) rfl (by kernel_rfl) (by kernel_rfl) (by kernel_rfl) (fun _ _ _ h => h) (Or.inl ⟨by rfl, ?ya6⟩) (by assumption) ?ra6
    case ya6 => intro w hSw; (try dsimp only at hSw); go_simp <;> (try with_reducible rfl)
    (try simp only [List.getElem_toArray, List.getElem_cons_succ, List.getElem_cons_zero, Act.put, List.setIfInBounds_toArray, List.set_cons_zero, List.set_cons_succ])
    refine wpAnyH_take (i := 7) (v := ?va7) rfl (by kernel_rfl) (by kernel_rfl) (by kernel_rfl) (fun _ _ _ h => h) (Or.inl ⟨by rfl, ?ya7⟩) (by assumption) ?ra7
    case ya7 => intro w hSw; (try dsimp only at hSw); go_simp <;> (try with_reducible rfl)
    (try simp only [List.getElem_toArray, List.getElem_cons_succ, List.getElem_cons_zero, Act.put, List.setIfInBounds_toArray, List.set_cons_zero, List.set_cons_succ])
    refine wpAnyH_take (i := 8) (v := ?va8) rfl (by kernel_rfl) (by kernel_rfl) (by kernel_rfl) (fun _ _ _ h => h) (Or.inl ⟨by rfl, ?ya8⟩) (by assumption) ?ra8
    case ya8 => intro w hSw; (try dsimp only at hSw); go_simp <;> (try with_reducible rfl)
    (try simp only [List.getElem_toArray, List.getElem_cons_succ, List.getElem_cons_zero, Act.put, List.setIfInBounds_toArray, List.set_cons_zero, List.set_cons_succ])
    refine' wpAnyH_take (i := 9) (v := _) rfl (by kernel_rfl) (by kernel_rfl) (by kernel_rfl) (fun _ _ _ h => h) (yieldsIf_load_mid (by rfl) _ _ (by rfl) _ _ (by rfl) _ _ ?Sa9 ?ua9 ?da9 ?ia9) (by assumption) ?ra9
    case Sa9 => exact (by intro w h; exact h.2)
    case ua9 => exact hun44
    case da9 => rfl
    case ia9 => exact hsz44
    (try simp only [List.getElem_toArray, List.getElem_cons_succ, List.getElem_cons_zero, Act.put, List.setIfInBounds_toArray, List.set_cons_zero, List.set_cons_succ])
    refine wpAnyH_take (i := 10) (v := ?va10) rfl (by kernel_rfl) (by kernel_rfl) (by kernel_rfl) (fun _ _ _ h => h) (Or.inl ⟨by rfl, ?ya10⟩) (by assumption) ?ra10
    case ya10 => intro w hSw; (try dsimp only at hSw); go_simp <;> (try with_reducible rfl)
    (try simp only [List.getElem_toArray, List.getElem_cons_succ, List.getElem_cons_zero, Act.put, List.setIfInBounds_toArray, List.set_cons_zero, List.set_cons_succ])
    refine wpAnyH_take (i := 11) (v := ?va11) rfl (by kernel_rfl) (by kernel_rfl) (by kernel_rfl) (fun _ _ _ h => h) (Or.inl ⟨by rfl, ?ya11⟩) (by assumption) ?ra11
    case ya11 => intro w hSw; (try dsimp only at hSw); go_simp <;> (try with_reducible rfl)
    (try simp only [List.getElem_toArray, List.getElem_cons_succ, List.getElem_cons_zero, Act.put, List.setIfInBounds_toArray, List.set_cons_zero, List.set_cons_succ])
    refine wpAnyH_take (i := 12) (v := ?va12) rfl (by kernel_rfl) (by kernel_rfl) (by kernel_rfl) (fun _ _ _ h => h) (Or.inl ⟨by rfl, ?ya12⟩) (by assumption) ?ra12
    case ya12 => intro w hSw; (try dsimp only at hSw); go_simp <;> (try with_reducible rfl)
    (try simp only [List.getElem_toArray, List.getElem_cons_succ, List.getElem_cons_zero, Act.put, List.setIfInBounds_toArray, List.set_cons_zero, List.set_cons_succ])
    refine wpAnyH_ready (rs := [13]) (by kernel_rfl) (by simp) ?_
    refine AllReadyH.cons rfl (fun K hK => ?_) AllReadyH.nil
    go_simp
    go_wp2_with fail
    (with_reducible refine (of_to A cap n u xs D _ hD2 HN.out hn12 hsm2' (HY5.next hHeld.1) (hh5.next hHeld.1)).mono ?_)
    rintro e w7 ⟨rfl, hb7⟩
    have hk7 := below_join hHeld.1 hb7
    clear hb7 hHeld
    refine hK.out _ _ ⟨hk7, hrg _ hk7⟩ (fun hHeld => ?_)
    clear hK K
    refine wpAnyH_take (i := 14) (v := ?va14) rfl (by kernel_rfl) (by kernel_rfl) (by kernel_rfl) (fun _ _ _ h => h) (Or.inl ⟨by rfl, ?ya14⟩) (by assumption) ?ra14
    case ya14 => intro w hSw; (try dsimp only at hSw); go_simp <;> (try with_reducible rfl)
    (try simp only [List.getElem_toArray, List.getElem_cons_succ, List.getElem_cons_zero, Act.put, List.setIfInBounds_toArray, List.set_cons_zero, List.set_cons_succ])
    refine wpAnyH_take (i := 15) (v := ?va15) rfl (by kernel_rfl) (by kernel_rfl) (by kernel_rfl) (fun _ _ _ h => h) (Or.inl ⟨by rfl, ?ya15⟩) (by assumption) ?ra15
    case ya15 => intro w hSw; (try dsimp only at hSw); go_simp <;> (try with_reducible rfl)
    (try simp only [List.getElem_toArray, List.getElem_cons_succ, List.getElem_cons_zero, Act.put, List.setIfInBounds_toArray, List.set_cons_zero, List.set_cons_succ])
    refine wpAnyH_take (i := 16) (v := ?va16) rfl (by kernel_rfl) (by kernel_rfl) (by kernel_rfl) (fun _ _ _ h => h) (Or.inl ⟨by rfl, ?ya16⟩) (by assumption) ?ra16
    case ya16 => intro w hSw; (try dsimp only at hSw); go_simp <;> (try with_reducible rfl)
    (try simp only [List.getElem_toArray, List.getElem_cons_succ, List.getElem_cons_zero, Act.put, List.setIfInBounds_toArray, List.set_cons_zero, List.set_cons_succ])
    refine wpAnyH_done (by kernel_rfl) ?_ _
    go_wp2
    go_ret
    exact ⟨rfl, hbel5.trans (hk7.mono hbel5.size)⟩
  · have hf : fewB xs = false := by simpa using hfew
    rw [hf]
    go_wp2
    go_ret
    exact ⟨rfl, hbel2⟩
end Go.Proofs.YtnhnfdfjlagcjaaDoor
