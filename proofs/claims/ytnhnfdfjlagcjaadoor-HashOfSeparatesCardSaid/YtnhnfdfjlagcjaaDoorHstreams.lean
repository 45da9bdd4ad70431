/-
  The walk over the statement on streams. Conditions: the tables read as the document has them.
-/
import Derived.Test.YtnhnfdfjlagcjaaDoorHjoin
import Derived.Test.YtnhnfdfjlagcjaaDoorHreg
import Derived.Deep.RegionHeld
namespace Go.Proofs.YtnhnfdfjlagcjaaDoor
open Go.RowKit

def St1Rel (xs : List ByteArray) (kk gs : Nat) (w : World) (i : Value) (wr : World) : Prop :=
  ∃ j : Nat, j ≤ kk ∧ i = .int .i64 j ∧ Blk wr gs 34 (SVc (joinK xs j)) ∧ Below w.heap.size w wr
def St2Rel (xs : List ByteArray) (kk gs ge : Nat) (w : World) (i : Value) (wr : World) : Prop :=
  ∃ j : Nat, j ≤ xs.length ∧ i = .int .i64 j ∧ Blk wr gs 34 (SVc (joinK xs j)) ∧ Blk wr ge 34 (SVc (joinK xs kk)) ∧ Below w.heap.size w wr
theorem SVc_one (m : List UInt8) : ∀ u ∈ SVc m, u.oneCell' = true := strm_one _ _ _
theorem add_toJ (m m2 : List UInt8) (s : ByteArray) (w : World) (hm : Hid (m2 = m ++ s.data.toList)) (hl : m.length ≤ 100000000) (hs : s.size ≤ 400) (HY : Lay w) :
    Calls Tryd.prog 20 #[.agg (SVc m).toArray, .string s] w fun e w' => e = .returned (.agg (SVc m2).toArray) ∧ Below w.heap.size w w' := by
  rw [hm.out]; exact add_any m s w (by omega) HY
theorem rem_at (a n : Nat) : ((a : Int).tmod ((n : Int) + 1)) = ((a % (n + 1) : Nat) : Int) := by
  rw [Int.tmod_eq_emod_of_nonneg (by omega)]
  rfl

theorem sum_at (ad : Addr) (cap n : Nat) (l S : List UInt8) (w : World) (hS : Unit → SM.sum l = S) (hn : n = l.length) (hl : l.length ≤ 100000000) (HY : Lay w) (hh : Holds w (some ad) (l.map B8)) :
    Calls Tryd.prog 16 #[.slice (some ad) n cap] w fun e w' => e = .returned (.agg (S.map B8).toArray) ∧ Below w.heap.size w w' := by
  rw [← hS ()]; exact sum_any (some ad) cap n l w hn (by omega) HY hh
theorem holds_str (w : World) (e : TypeId) (l : List UInt8) : Holds (Lib.bytesWorld w e ⟨l.toArray⟩) (some ⟨w.heap.size, 0, none⟩) (l.map B8) := by
  have := holds_bytesWorld w e ⟨l.toArray⟩
  rw [str_toList] at this
  exact this
theorem sum_toW (w1 : World) (e : TypeId) (b n : Nat) (l S : List UInt8) (cap : Nat) (hS : Unit → SM.sum l = S) (hb : b = w1.heap.size) (hn : n = l.length) (hl : l.length ≤ 100000000) (HY : Lay w1) :
    Calls Tryd.prog 16 #[.slice (some ⟨b, 0, none⟩) n cap] (Lib.bytesWorld w1 e ⟨l.toArray⟩) fun e w' => e = .returned (.agg (S.map B8).toArray) ∧ Below w1.heap.size w1 w' := by
  subst hb
  have hb := below_bytesWorld w1 e ⟨l.toArray⟩
  refine (sum_at _ cap _ l S _ hS hn hl (HY.next hb) (holds_str w1 e l)).mono ?_
  rintro e w' ⟨rfl, hb'⟩
  exact ⟨rfl, hb.trans (hb'.mono hb.size)⟩
theorem str_sum : True := trivial

set_option maxRecDepth 100000 in
set_option maxHeartbeats 1600000 in
theorem streamsLaw_any (A : Option Addr) (cap n : Nat) (xs : List ByteArray) (other : ByteArray) (a : Nat) (w : World) (hn : n = xs.length) (hnc : n ≤ cap) (hz : n * 16 ≤ 140737488351232) (hb : ∀ s ∈ xs, s.size ≤ 140737488351232) (ho : other.size ≤ 140737488351232) (ha : a < 256) (hh : Holds w A (xs.map Value.string)) (HY : Lay w) (HC : LayC w) :
    Calls Tryd.prog 4 #[.slice A n cap, .string other, .int .u8 a] w fun e w' => e = .returned (.bool true) ∧ Below w.heap.size w w' := by
  have HN := Lib.hid hn
  have HB := Lib.hid hb
  clear hn hb
  go_enter Tryd.func4, Tryd.ntmps4
  go_wp2_with fail
  (with_reducible refine (sanity_any _ HY).mono ?_)
  rintro e w1 ⟨rfl, hb1⟩
  have hh1 := hh.next hb1
  go_wp2_with fail
  (with_reducible refine (few_any A cap n xs _ HN.out hz hh1 HB.out).mono ?_)
  rintro e w2 ⟨rfl, hb2⟩
  have hbel2 := below_join hb1 hb2
  have hh2 := hh1.next hb2
  clear hb1 hb2 hh1
  by_cases hfew : fewB xs = true
  · by_cases ho4 : 400 < other.size
    · rw [hfew]
      go_wp2
      go_ret
      exact ⟨rfl, hbel2⟩
    · have h12 := (fewB_len xs hfew).1
      have HS := Lib.hid (fewB_len xs hfew).2
      have hn12 : n ≤ 12 := by rw [HN.out]; exact h12
      have HJ := Lib.hid (joinK_le xs HS.out)
      have ho5 : other.size ≤ 400 := by omega
      have HY2 := HY.next hbel2
      rw [hfew]
      have hrem := rem_at a n
      obtain ⟨kk, hkk⟩ : ∃ kk, Hid (a % (n + 1) = kk) := ⟨_, rfl⟩
      rw [hkk.out] at hrem
      have hkn : kk ≤ n := by have := hkk.out; have := Nat.mod_lt a (show n + 1 > 0 by omega); omega
      clear hkk hfew h12
      go_wp2_with fail
      (with_reducible refine (begin_any _ HY2).mono ?_)
      rintro e w3 ⟨rfl, hb3⟩
      have hbel3 := below_join hbel2 hb3
      clear hb3 hbel2 hh2 HY2
      obtain ⟨d34, HD34, hd34⟩ := Tryd.under34
      go_wp2_with (with_reducible refine wpList_alloc (o := ⟨some 9, .alloc 34, _, _, _, _⟩) ?g1 34 ?o1 (strmV ⟨0, 0, 0, 0, 0, 0, 0, 0⟩ (SM.zeros 64) 0) zeroS ?z1 ?c1 ?_)
      try (case g1 => rfl)
      try (case o1 => rfl)
      try (case z1 => exact Tryd.zero34)
      try (case c1 => rfl)
      intro gs w4 hgs hs4 hb4 hB4
      have hle4 : w.heap.size ≤ gs := by have := hbel3.size; have := hgs.out; omega
      have hbel4 := hbel3.trans (hb4.mono hle4)
      clear hbel3 hb4 hgs hs4
      go_wp2_with (with_reducible refine wpList_put (o := ⟨none, .store 34 (.tmp 9) (.tmp 32), _, _, _, _⟩) ?g2 34 (.tmp 9) (.tmp 32) ?o2 gs 0 ?x2 (.agg (strmC SM.start (SM.zeros 64) 0).toArray) ?y2 hB4 (strmC SM.start (SM.zeros 64) 0) ?v2 ?i2 ?l2 ?q2 ?_)
      try (case y2 => rfl)
      try (case x2 => rfl)
      try (case g2 => rfl)
      try (case o2 => rfl)
      try (case v2 => rfl)
      try (case i2 => exact Tryd.size34)
      try (case l2 => exact Nat.le_refl _)
      try (case q2 => exact strm_one _ _ _)
      intro w5 hu5 hB5
      rw [splice_all _ _ (by rfl)] at hB5
      have hB5' : Blk w5 gs 34 (SVc (joinK xs 0)) := by rw [show joinK xs 0 = [] from by simp [joinK, strsOf], SVc_nil]; exact hB5
      have hbel5 := hbel4.trans (hu5.below (B := w.heap.size) hle4)
      clear hbel4 hB4 hu5 hB5
      go_wp2
      go_loopw [10] (St1Rel xs kk gs w) (fun i _ => kk - (intOf i).toNat)
      case atStart => exact ⟨0, Nat.zero_le _, rfl, hB5', hbel5⟩
      case round =>
        clear hB5' hbel5
        obtain ⟨j, hj, rfl, hBs, hbel⟩ := hrel
        by_cases hlt : j < kk
        · have hjn : j < n := by omega
          have hjx : j < xs.length := by have := HN.out; omega
          obtain ⟨ad, rfl, hcell⟩ := str_at (hh.next hbel) hjx
          have hsn := Lib.hid (joinK_succ xs j hjx)
          have hJl := HJ.out j (by omega)
          have hsz : xs[j].size ≤ 400 := HS.out _ (List.getElem_mem hjx)
          have HCELL : Hid ((xs.map Value.string)[j]? = some (.string xs[j])) := by
            have : (xs.map Value.string)[j]? = some (.string xs[j]) := by rw [List.getElem?_map, List.getElem?_eq_getElem hjx]; rfl
            exact this
          generalize xs[j] = sk at hcell hsn hsz HCELL
          have hS : ∀ w', Below w.heap.size w w' → (Below w.heap.size w w' ∧ w'.cell? (ad.add j) = some (.string sk)) := fun w' h => ⟨h, by
            obtain ⟨ad', e', hc'⟩ := hh j (.string sk) HCELL.out
            cases e'
            rw [h.cell (World.block_lt_of_cell? w _ hc')]; exact hc'⟩
          have hbelD : Below w.heap.size w wr.drew := hbel.drew
          have hBsD := hBs.next (below_drew wr) hBs.lt
          have hHd := HD34.out
          have hsz34 : (Tryd.prog.info? 34).map (·.size) = some (SVc (joinK xs j)).length := by rw [SVc_length]; exact Tryd.size34
          clear hcell
          go_wp2
          refine wp_region_held_drew (S := fun w' => Below w.heap.size w w' ∧ w'.cell? (ad.add j) = some (.string sk)) (by kernel_rfl) (hS _ hbelD) (fun hHeld => ?_)
          refine wpAnyH_take (i := 1) (v := ?vL11) rfl (by kernel_rfl) (by kernel_rfl) (by kernel_rfl) (fun _ _ _ h => h) (Or.inl ⟨by rfl, ?yL11⟩) (by assumption) ?rL11
          case yL11 => intro w hSw; (try dsimp only at hSw); go_simp <;> (try with_reducible rfl)
          (try simp only [List.getElem_toArray, List.getElem_cons_succ, List.getElem_cons_zero, Act.put, List.setIfInBounds_toArray, List.set_cons_zero, List.set_cons_succ])
          refine wpAnyH_take (i := 2) (v := ?vL12) rfl (by kernel_rfl) (by kernel_rfl) (by kernel_rfl) (fun _ _ _ h => h) (Or.inl ⟨by rfl, ?yL12⟩) (by assumption) ?rL12
          case yL12 => intro w hSw; (try dsimp only at hSw); go_simp <;> (try with_reducible rfl)
          (try simp only [List.getElem_toArray, List.getElem_cons_succ, List.getElem_cons_zero, Act.put, List.setIfInBounds_toArray, List.set_cons_zero, List.set_cons_succ])
          refine wpAnyH_take (i := 3) (v := ?vL13) rfl (by kernel_rfl) (by kernel_rfl) (by kernel_rfl) (fun _ _ _ h => h) (Or.inl ⟨by rfl, ?yL13⟩) (by assumption) ?rL13
          case yL13 => intro w hSw; (try dsimp only at hSw); go_simp <;> (try with_reducible rfl)
          (try simp only [List.getElem_toArray, List.getElem_cons_succ, List.getElem_cons_zero, Act.put, List.setIfInBounds_toArray, List.set_cons_zero, List.set_cons_succ])
          refine wpAnyH_take (i := 4) (v := ?vL14) rfl (by kernel_rfl) (by kernel_rfl) (by kernel_rfl) (fun _ _ _ h => h) (Or.inl ⟨by rfl, ?yL14⟩) (by assumption) ?rL14
          case yL14 => intro w hSw; (try dsimp only at hSw); go_simp <;> (try with_reducible rfl)
          (try simp only [List.getElem_toArray, List.getElem_cons_succ, List.getElem_cons_zero, Act.put, List.setIfInBounds_toArray, List.set_cons_zero, List.set_cons_succ])
          refine wpAnyH_ready (rs := [0]) (by kernel_rfl) (by simp) ?_
          refine AllReadyH.cons rfl (fun K hK => ?_) AllReadyH.nil
          rw [if_pos (by rfl)]
          refine' wp_load_mid _ _ rfl _ _ rfl (SVc (joinK xs j)) _ ?cL10 ?uL10 ?dL10 ?iL10 ?rL10
          case cL10 => exact blk_range hBsD
          case uL10 => exact hHd
          case dL10 => exact hd34
          case iL10 => exact hsz34
          (try simp only [List.getElem_toArray, List.getElem_cons_zero, Act.put, List.setIfInBounds_toArray, List.set_cons_zero, List.set_cons_succ])
          refine hK.out _ _ (hS _ hbelD) (fun hHeld => ?_)
          clear hK K
          refine wpAnyH_ready (rs := [5]) (by kernel_rfl) (by simp) ?_
          refine AllReadyH.cons rfl (fun K hK => ?_) AllReadyH.nil
          go_simp
          go_wp2_with fail
          (with_reducible refine (add_toJ (joinK xs j) (joinK xs (j + 1)) sk _ hsn (by omega) hsz (HY.next hbelD)).mono ?_)
          rintro e w6 ⟨rfl, hb6⟩
          have hk6 := hbelD.trans (hb6.mono hbelD.size)
          have hBs6 := hBsD.next hb6 hBsD.lt
          clear hb6 hHeld
          refine hK.out _ _ (hS _ hk6) (fun hHeld => ?_)
          clear hK K
          refine wpAnyH_ready (rs := [6]) (by kernel_rfl) (by simp) ?_
          refine AllReadyH.cons rfl (fun K hK => ?_) AllReadyH.nil
          rw [if_pos (by rfl)]
          refine wp_put 34 (.tmp 9) (.tmp 43) rfl gs 0 rfl (.agg (SVc (joinK xs (j + 1))).toArray) rfl hBs6 (SVc (joinK xs (j + 1))) rfl (by rw [SVc_length]; exact Tryd.size34) (by rw [SVc_length, SVc_length]; exact Nat.le_refl _) (SVc_one _) ?_
          intro w7 hu7 hB7
          rw [splice_all _ _ (by rw [SVc_length, SVc_length])] at hB7
          have hk7 := hk6.trans (hu7.below (B := w.heap.size) hle4)
          refine hK.out _ _ (hS _ hk7) (fun hHeld => ?_)
          clear hK K
          refine wpAnyH_done (by kernel_rfl) ?_ _
          go_wp2
          go_roundw
          case rel => exact ⟨j + 1, by omega, by go_num, hB7, hk7⟩
          case measure => simp [intOf]; omega
        · obtain rfl : j = kk := by omega
          have hHd := HD34.out
          have hsz34 : ∀ m : List UInt8, (Tryd.prog.info? 34).map (·.size) = some (SVc m).length := fun m => by rw [SVc_length]; exact Tryd.size34
          obtain ⟨H, hH⟩ : ∃ H, Hid (joinK xs j = H) := ⟨_, rfl⟩
          go_wp2_with (first | (with_reducible refine wpList_get (o := ⟨some 44, .load 34 (.tmp 9), _, _, _, _⟩) ?g3 34 (.tmp 9) ?o3 gs 0 ?x3 hBs (SVc (joinK xs j)) ?c3 d34 ?u3 ?d3 ?i3 ?_) | (with_reducible refine wpList_alloc (o := ⟨some 11, .alloc 34, _, _, _, _⟩) ?g4 34 ?o4 (strmV ⟨0, 0, 0, 0, 0, 0, 0, 0⟩ (SM.zeros 64) 0) zeroS ?z4 ?c4 ?_))
          case c3 => exact cs_all _
          case d3 => exact hd34
          try (case x3 => rfl)
          try (case g3 => rfl)
          try (case o3 => rfl)
          try (case c3 => (exact cs_all _))
          try (case u3 => exact hHd)
          try (case d3 => first | rfl | assumption)
          try (case i3 => exact hsz34 _)
          try (case g4 => rfl)
          try (case o4 => rfl)
          try (case z4 => exact Tryd.zero34)
          try (case c4 => rfl)
          intro ge w5 hge hs5 hb5 hB5
          have hlt5 : gs < ge := by have := hBs.lt; have := hge.out; omega
          have hBs5 := hBs.next hb5 hlt5
          have hbel5 := hbel.trans (hb5.mono (by have := hbel.size; have := hge.out; omega))
          clear hBs hbel hb5 hge hs5
          go_wp2_with (with_reducible refine wpList_put (o := ⟨none, .store 34 (.tmp 11) (.tmp 44), _, _, _, _⟩) ?g5 34 (.tmp 11) (.tmp 44) ?o5 ge 0 ?x5 (.agg (SVc (joinK xs j)).toArray) ?y5 hB5 (SVc (joinK xs j)) ?v5 ?i5 ?l5 ?q5 ?_)
          try (case y5 => rfl)
          try (case x5 => rfl)
          try (case g5 => rfl)
          try (case o5 => rfl)
          try (case v5 => rfl)
          try (case i5 => exact hsz34 _)
          try (case l5 => (rw [SVc_length]; exact Nat.le_refl _))
          try (case q5 => exact SVc_one _)
          intro w6 hu6 hB6
          rw [splice_all _ _ (by rw [SVc_length]; rfl)] at hB6
          have hBs6 := hBs5.upd hu6 (by omega)
          have hbel6 := hbel5.trans (hu6.below (B := w.heap.size) (by omega))
          clear hBs5 hbel5 hB5 hu6
          obtain ⟨kk, hkk⟩ : ∃ kk, Hid (j = kk) := ⟨_, rfl⟩
          have hkn' : kk ≤ n := by have := hkk.out; omega
          rw [hkk.out] at hBs6 hB6 hH
          rw [hkk.out]
          clear hlt hj hkn hrem
          go_wp2
          go_loopw [12] (St2Rel xs kk gs ge w) (fun i _ => xs.length - (intOf i).toNat)
          case atStart => exact ⟨kk, by have := HN.out; omega, rfl, hBs6, hB6, hbel6⟩
          case round =>
            clear hBs6 hB6 hbel6 hkk
            obtain ⟨j, hj, rfl, hBs, hBe, hbel⟩ := hrel
            have hN1 : xs.length = n := HN.out.symm
            by_cases hjx : j < xs.length
            · have hjn : j < n := by omega
              obtain ⟨ad, rfl, hcell⟩ := str_at (hh.next hbel) hjx
              have hsn := Lib.hid (joinK_succ xs j hjx)
              have hJl := HJ.out j (by omega)
              have hsz : xs[j].size ≤ 400 := HS.out _ (List.getElem_mem hjx)
              have HCELL : Hid ((xs.map Value.string)[j]? = some (.string xs[j])) := by
                have : (xs.map Value.string)[j]? = some (.string xs[j]) := by rw [List.getElem?_map, List.getElem?_eq_getElem hjx]; rfl
                exact this
              generalize xs[j] = sk at hcell hsn hsz HCELL
              have hS : ∀ w', Below w.heap.size w w' → (Below w.heap.size w w' ∧ w'.cell? (ad.add j) = some (.string sk)) := fun w' h => ⟨h, by
                obtain ⟨ad', e', hc'⟩ := hh j (.string sk) HCELL.out
                cases e'
                rw [h.cell (World.block_lt_of_cell? w _ hc')]; exact hc'⟩
              have hbelD : Below w.heap.size w wr.drew := hbel.drew
              have hBsD := hBs.next (below_drew wr) hBs.lt
              have hBeD := hBe.next (below_drew wr) hBe.lt
              have hHd := HD34.out
              have hsz34 : (Tryd.prog.info? 34).map (·.size) = some (SVc (joinK xs j)).length := by rw [SVc_length]; exact Tryd.size34
              clear hcell
              go_wp2
              refine wp_region_held_drew (S := fun w' => Below w.heap.size w w' ∧ w'.cell? (ad.add j) = some (.string sk)) (by kernel_rfl) (hS _ hbelD) (fun hHeld => ?_)
              refine wpAnyH_take (i := 1) (v := ?vL21) rfl (by kernel_rfl) (by kernel_rfl) (by kernel_rfl) (fun _ _ _ h => h) (Or.inl ⟨by rfl, ?yL21⟩) (by assumption) ?rL21
              case yL21 => intro w hSw; (try dsimp only at hSw); go_simp <;> (try with_reducible rfl)
              (try simp only [List.getElem_toArray, List.getElem_cons_succ, List.getElem_cons_zero, Act.put, List.setIfInBounds_toArray, List.set_cons_zero, List.set_cons_succ])
              refine wpAnyH_take (i := 2) (v := ?vL22) rfl (by kernel_rfl) (by kernel_rfl) (by kernel_rfl) (fun _ _ _ h => h) (Or.inl ⟨by rfl, ?yL22⟩) (by assumption) ?rL22
              case yL22 => intro w hSw; (try dsimp only at hSw); go_simp <;> (try with_reducible rfl)
              (try simp only [List.getElem_toArray, List.getElem_cons_succ, List.getElem_cons_zero, Act.put, List.setIfInBounds_toArray, List.set_cons_zero, List.set_cons_succ])
              refine wpAnyH_take (i := 3) (v := ?vL23) rfl (by kernel_rfl) (by kernel_rfl) (by kernel_rfl) (fun _ _ _ h => h) (Or.inl ⟨by rfl, ?yL23⟩) (by assumption) ?rL23
              case yL23 => intro w hSw; (try dsimp only at hSw); go_simp <;> (try with_reducible rfl)
              (try simp only [List.getElem_toArray, List.getElem_cons_succ, List.getElem_cons_zero, Act.put, List.setIfInBounds_toArray, List.set_cons_zero, List.set_cons_succ])
              refine wpAnyH_take (i := 4) (v := ?vL24) rfl (by kernel_rfl) (by kernel_rfl) (by kernel_rfl) (fun _ _ _ h => h) (Or.inl ⟨by rfl, ?yL24⟩) (by assumption) ?rL24
              case yL24 => intro w hSw; (try dsimp only at hSw); go_simp <;> (try with_reducible rfl)
              (try simp only [List.getElem_toArray, List.getElem_cons_succ, List.getElem_cons_zero, Act.put, List.setIfInBounds_toArray, List.set_cons_zero, List.set_cons_succ])
              refine wpAnyH_ready (rs := [0]) (by kernel_rfl) (by simp) ?_
              refine AllReadyH.cons rfl (fun K hK => ?_) AllReadyH.nil
              rw [if_pos (by rfl)]
              refine' wp_load_mid _ _ rfl _ _ rfl (SVc (joinK xs j)) _ ?cL20 ?uL20 ?dL20 ?iL20 ?rL20
              case cL20 => exact blk_range hBsD
              case uL20 => exact hHd
              case dL20 => exact hd34
              case iL20 => exact hsz34
              (try simp only [List.getElem_toArray, List.getElem_cons_zero, Act.put, List.setIfInBounds_toArray, List.set_cons_zero, List.set_cons_succ])
              refine hK.out _ _ (hS _ hbelD) (fun hHeld => ?_)
              clear hK K
              refine wpAnyH_ready (rs := [5]) (by kernel_rfl) (by simp) ?_
              refine AllReadyH.cons rfl (fun K hK => ?_) AllReadyH.nil
              go_simp
              go_wp2_with fail
              (with_reducible refine (add_toJ (joinK xs j) (joinK xs (j + 1)) sk _ hsn (by omega) hsz (HY.next hbelD)).mono ?_)
              rintro e w6 ⟨rfl, hb6⟩
              have hk6 := hbelD.trans (hb6.mono hbelD.size)
              have hBs6 := hBsD.next hb6 hBsD.lt
              have hBe6 := hBeD.next hb6 hBeD.lt
              clear hb6 hHeld
              refine hK.out _ _ (hS _ hk6) (fun hHeld => ?_)
              clear hK K
              refine wpAnyH_ready (rs := [6]) (by kernel_rfl) (by simp) ?_
              refine AllReadyH.cons rfl (fun K hK => ?_) AllReadyH.nil
              rw [if_pos (by rfl)]
              refine wp_put 34 (.tmp 9) (.tmp 57) rfl gs 0 rfl (.agg (SVc (joinK xs (j + 1))).toArray) rfl hBs6 (SVc (joinK xs (j + 1))) rfl (by rw [SVc_length]; exact Tryd.size34) (by rw [SVc_length, SVc_length]; exact Nat.le_refl _) (SVc_one _) ?_
              intro w7 hu7 hB7
              rw [splice_all _ _ (by rw [SVc_length, SVc_length])] at hB7
              have hk7 := hk6.trans (hu7.below (B := w.heap.size) hle4)
              have hBe7 := hBe6.upd hu7 (by omega)
              refine hK.out _ _ (hS _ hk7) (fun hHeld => ?_)
              clear hK K
              refine wpAnyH_done (by kernel_rfl) ?_ _
              go_wp2
              go_roundw
              case rel => exact ⟨j + 1, by omega, by go_num, hB7, hBe7, hk7⟩
              case measure => simp [intOf]; omega
            · have hjn : j = n := by omega
              subst hjn
              obtain ⟨X, hX⟩ : ∃ X, Hid (joinK xs j = X) := ⟨_, rfl⟩
              have hXl : X.length ≤ 4800 := by rw [← hX.out]; have := HJ.out j (by omega); omega
              have hHl : H.length ≤ 4800 := by rw [← hH.out]; have := HJ.out kk (by omega); omega
              have hJX : Unit → joinK xs xs.length = X := fun _ => by rw [hN1]; exact hX.out
              have hJH : Unit → joinK (xs.take kk) (xs.take kk).length = H := fun _ => by
                have e : (xs.take kk).length = kk := by rw [List.length_take]; omega
                rw [e, joinK_take xs kk kk (Nat.le_refl _)]; exact hH.out
              rw [hX.out] at hBs
              rw [hH.out] at hBe
              obtain ⟨F, hF⟩ : ∃ F, Hid (F = H ++ other.data.toList) := ⟨_, rfl⟩
              have hFl : F.length ≤ 5200 := by rw [hF.out, List.length_append, bytes_size]; omega
              clear hX hH hjx hj
              go_wp2_with (with_reducible refine wpList_get (o := ⟨some 58, .load 34 (.tmp 11), _, _, _, _⟩) ?g6 34 (.tmp 11) ?o6 ge 0 ?x6 hBe (SVc H) ?c6 d34 ?u6 ?d6 ?i6 ?_)
              case c6 => exact cs_all _
              case d6 => exact hd34
              try (case x6 => rfl)
              try (case g6 => rfl)
              try (case o6 => rfl)
              try (case c6 => (exact cs_all _))
              try (case u6 => exact hHd)
              try (case d6 => first | rfl | assumption)
              try (case i6 => exact hsz34 _)
              go_wp2_with fail
              (with_reducible refine (add_toJ H F other _ hF (by omega) ho5 (HY.next hbel)).mono ?_)
              rintro e w7 ⟨rfl, hb7⟩
              have hBs7 := hBs.next hb7 hBs.lt
              have hBe7 := hBe.next hb7 hBe.lt
              have hbel7 := below_join hbel hb7
              clear hBs hBe hbel hb7
              go_wp2_with (with_reducible refine wpList_alloc (o := ⟨some 13, .alloc 34, _, _, _, _⟩) ?g7 34 ?o7 (strmV ⟨0, 0, 0, 0, 0, 0, 0, 0⟩ (SM.zeros 64) 0) zeroS ?z7 ?c7 ?_)
              try (case g7 => rfl)
              try (case o7 => rfl)
              try (case z7 => exact Tryd.zero34)
              try (case c7 => rfl)
              intro gf w8 hgf hs8 hb8 hB8
              have hlt8 : ge < gf := by have := hBe7.lt; have := hgf.out; omega
              have hBs8 := hBs7.next hb8 (by omega)
              have hBe8 := hBe7.next hb8 hlt8
              have hbel8 := hbel7.trans (hb8.mono (by have := hbel7.size; have := hgf.out; omega))
              clear hBs7 hBe7 hbel7 hb8 hgf hs8
              go_wp2_with (with_reducible refine wpList_put (o := ⟨none, .store 34 (.tmp 13) (.tmp 60), _, _, _, _⟩) ?g8 34 (.tmp 13) (.tmp 60) ?o8 gf 0 ?x8 (.agg (SVc F).toArray) ?y8 hB8 (SVc F) ?v8 ?i8 ?l8 ?q8 ?_)
              try (case y8 => rfl)
              try (case x8 => rfl)
              try (case g8 => rfl)
              try (case o8 => rfl)
              try (case v8 => rfl)
              try (case i8 => exact hsz34 _)
              try (case l8 => (rw [SVc_length]; exact Nat.le_refl _))
              try (case q8 => exact SVc_one _)
              intro w9 hu9 hB9
              rw [splice_all _ _ (by rw [SVc_length]; rfl)] at hB9
              have hBs9 := hBs8.upd hu9 (by omega)
              have hBe9 := hBe8.upd hu9 (by omega)
              have hbel9 := hbel8.trans (hu9.below (B := w.heap.size) (by omega))
              have hh9 := hh.next hbel9
              clear hBs8 hBe8 hbel8 hB8 hu9
              go_wp2_with fail
              (with_reducible refine (joined_any A cap j xs X _ hJX hN1.symm hn12 HS.out hh9).mono ?_)
              rintro e w10 ⟨rfl, hb10⟩
              have hBs10 := hBs9.next hb10 hBs9.lt
              have hBe10 := hBe9.next hb10 hBe9.lt
              have hBf10 := hB9.next hb10 hB9.lt
              have hbel10 := below_join hbel9 hb10
              have hh10 := hh.next hbel10
              clear hBs9 hBe9 hB9 hbel9 hb10 hh9
              have hh10' : Holds w10 A ((xs.take kk).map Value.string) := fun q u hu => hh10 q u (by
                rw [List.map_take] at hu
                rw [List.getElem?_take] at hu
                split at hu
                · exact hu
                · cases hu)
              go_wp2_with fail
              (with_reducible refine (joined_any A cap kk (xs.take kk) H _ hJH (by rw [List.length_take]; omega) (by omega) (fun s hs => HS.out s (List.mem_of_mem_take hs)) hh10').mono ?_)
              rintro e w11 ⟨rfl, hb11⟩
              have hBs := hBs10.next hb11 hBs10.lt
              have hBe := hBe10.next hb11 hBe10.lt
              have hBf := hBf10.next hb11 hBf10.lt
              have hbel := below_join hbel10 hb11
              clear hBs10 hBe10 hBf10 hbel10 hb11 hh10 hh10' hh hJX hJH HJ HS hsz34
              obtain ⟨S1, hS1⟩ : ∃ S, (Unit → SM.sum X = S) := ⟨_, fun _ => rfl⟩
              obtain ⟨S2, hS2⟩ : ∃ S, (Unit → SM.sum H = S) := ⟨_, fun _ => rfl⟩
              obtain ⟨S3, hS3⟩ : ∃ S, (Unit → SM.sum F = S) := ⟨_, fun _ => rfl⟩
              have hl1 : Hid (S1.length = 32) := by rw [← hS1 ()]; exact SM.sum_length _
              have hl2 : Hid (S2.length = 32) := by rw [← hS2 ()]; exact SM.sum_length _
              have hl3 : Hid (S3.length = 32) := by rw [← hS3 ()]; exact SM.sum_length _
              have happ : (⟨H.toArray⟩ : ByteArray) ++ other = ⟨F.toArray⟩ := by rw [str_app, hF.out]
              have hHs : (⟨H.toArray⟩ : ByteArray).size ≤ 4800 := by rw [str_size]; exact hHl
              have heq1 := eqIn_arr S1 hl1.out
              have heq2 := eqIn_arr S2 hl2.out
              have heq3 := eqIn_arr S3 hl3.out
              have hgd := Tryd.guard24
              have hcs := fun w' s => Lib.run_convert_string_bytes (P := Tryd.prog) w' 9 22 5 s Tryd.underlying9 Tryd.underlying22 Tryd.underlying5
              have hsz34 : ∀ m : List UInt8, (Tryd.prog.info? 34).map (·.size) = some (SVc m).length := fun m => by rw [SVc_length]; exact Tryd.size34
              go_wp2_with (with_reducible refine wpList_getg (o := ⟨some 69, .load 34 (.tmp 9), _, _, _, _⟩) ?gg1 34 (.tmp 9) ?og1 gs 0 ?xg1 hBs (SVc X) ?cg1 d34 ?ug1 ?dg1 ?ig1 ?_)
              try (case xg1 => rfl)
              try (case gg1 => rfl)
              try (case og1 => rfl)
              try (case cg1 => (exact cs_all _))
              try (case ug1 => exact hHd)
              try (case dg1 => first | rfl | assumption)
              try (case ig1 => exact hsz34 _)
              (with_reducible refine (ssum_to X S1 _ (Lib.hid (hS1 ())) (by omega) (HY.next hbel)).mono ?_)
              rintro e w1a ⟨rfl, hb1a⟩
              have hbel1a := below_join hbel hb1a
              go_wp2_with fail
              (with_reducible refine (rsum_toS w1a _ _ _ X S1 _ hS1 rfl (by first | exact str_size _ | simp) (by omega) (HC.next hbel1a)).mono ?_)
              rintro e w1c ⟨rfl, hb1c⟩
              have hk1 := below_join hb1a hb1c
              have hBs1 := hBs.next hk1 hBs.lt
              have hBe1 := hBe.next hk1 hBe.lt
              have hBf1 := hBf.next hk1 hBf.lt
              have hbel1 := below_join hbel hk1
              clear hBs hBe hBf hbel hk1 hb1a hb1c hbel1a
              go_wp2_with (first | (with_reducible refine wpList_eqArr (o := ⟨some 74, .binOp .eql 24 (.tmp 70) (.tmp 73) 24, _, _, _, _⟩) ?gq1 24 (.tmp 70) (.tmp 73) ?oq1 32 ?uq1 ?eq1 S1 S1 ?xq1 ?yq1 ?lq1 ?rq1 ?_) | (with_reducible refine wpList_getg (o := ⟨some 77, .load 34 (.tmp 11), _, _, _, _⟩) ?gg2 34 (.tmp 11) ?og2 ge 0 ?xg2 hBe1 (SVc H) ?cg2 d34 ?ug2 ?dg2 ?ig2 ?_))
              try (case xq1 => rfl)
              try (case yq1 => rfl)
              try (case gq1 => rfl)
              try (case oq1 => rfl)
              try (case uq1 => exact Tryd.underlying24)
              try (case eq1 => exact Tryd.guard24)
              try (case lq1 => exact hl1.out)
              try (case rq1 => exact hl1.out)
              try (case xg2 => rfl)
              try (case gg2 => rfl)
              try (case og2 => rfl)
              try (case cg2 => (exact cs_all _))
              try (case ug2 => exact hHd)
              try (case dg2 => first | rfl | assumption)
              try (case ig2 => exact hsz34 _)
              (with_reducible refine (ssum_to H S2 _ (Lib.hid (hS2 ())) (by omega) (HY.next hbel1)).mono ?_)
              rintro e w2a ⟨rfl, hb2a⟩
              have hbel2a := below_join hbel1 hb2a
              go_wp2_with fail
              (with_reducible refine (rsum_toS w2a _ _ _ H S2 _ hS2 rfl (by first | exact str_size _ | simp) (by omega) (HC.next hbel2a)).mono ?_)
              rintro e w2c ⟨rfl, hb2c⟩
              have hk2 := below_join hb2a hb2c
              have hBs2 := hBs1.next hk2 hBs1.lt
              have hBe2 := hBe1.next hk2 hBe1.lt
              have hBf2 := hBf1.next hk2 hBf1.lt
              have hbel2 := below_join hbel1 hk2
              clear hBs1 hBe1 hBf1 hbel1 hk2 hb2a hb2c hbel2a
              go_wp2_with (first | (with_reducible refine wpList_eqArr (o := ⟨some 82, .binOp .eql 24 (.tmp 78) (.tmp 81) 24, _, _, _, _⟩) ?gq2 24 (.tmp 78) (.tmp 81) ?oq2 32 ?uq2 ?eq2 S2 S2 ?xq2 ?yq2 ?lq2 ?rq2 ?_) | (with_reducible refine wpList_getg (o := ⟨some 85, .load 34 (.tmp 13), _, _, _, _⟩) ?gg3 34 (.tmp 13) ?og3 gf 0 ?xg3 hBf2 (SVc F) ?cg3 d34 ?ug3 ?dg3 ?ig3 ?_))
              try (case xq2 => rfl)
              try (case yq2 => rfl)
              try (case gq2 => rfl)
              try (case oq2 => rfl)
              try (case uq2 => exact Tryd.underlying24)
              try (case eq2 => exact Tryd.guard24)
              try (case lq2 => exact hl2.out)
              try (case rq2 => exact hl2.out)
              try (case xg3 => rfl)
              try (case gg3 => rfl)
              try (case og3 => rfl)
              try (case cg3 => (exact cs_all _))
              try (case ug3 => exact hHd)
              try (case dg3 => first | rfl | assumption)
              try (case ig3 => exact hsz34 _)
              (with_reducible refine (ssum_to F S3 _ (Lib.hid (hS3 ())) (by omega) (HY.next hbel2)).mono ?_)
              rintro e w3a ⟨rfl, hb3a⟩
              have hbel3a := below_join hbel2 hb3a
              go_wp2_with fail
              (with_reducible refine (rsum_toS w3a _ _ _ F S3 _ hS3 rfl (by first | exact str_size _ | simp) (by omega) (HC.next hbel3a)).mono ?_)
              rintro e w3c ⟨rfl, hb3c⟩
              have hk3 := below_join hb3a hb3c
              have hBs3 := hBs2.next hk3 hBs2.lt
              have hBe3 := hBe2.next hk3 hBe2.lt
              have hBf3 := hBf2.next hk3 hBf2.lt
              have hbel3 := below_join hbel2 hk3
              clear hBs2 hBe2 hBf2 hbel2 hk3 hb3a hb3c hbel3a
              go_wp2_with (first | (with_reducible refine wpList_eqArr (o := ⟨some 92, .binOp .eql 24 (.tmp 86) (.tmp 91) 24, _, _, _, _⟩) ?gq3 24 (.tmp 86) (.tmp 91) ?oq3 32 ?uq3 ?eq3 S3 S3 ?xq3 ?yq3 ?lq3 ?rq3 ?_) | (with_reducible refine wpList_getg (o := ⟨some 95, .load 34 (.tmp 9), _, _, _, _⟩) ?gg4 34 (.tmp 9) ?og4 gs 0 ?xg4 hBs3 (SVc X) ?cg4 d34 ?ug4 ?dg4 ?ig4 ?_))
              try (case xq3 => rfl)
              try (case yq3 => rfl)
              try (case gq3 => rfl)
              try (case oq3 => rfl)
              try (case uq3 => exact Tryd.underlying24)
              try (case eq3 => exact Tryd.guard24)
              try (case lq3 => exact hl3.out)
              try (case rq3 => exact hl3.out)
              try (case xg4 => rfl)
              try (case gg4 => rfl)
              try (case og4 => rfl)
              try (case cg4 => (exact cs_all _))
              try (case ug4 => exact hHd)
              try (case dg4 => first | rfl | assumption)
              try (case ig4 => exact hsz34 _)
              (with_reducible refine (ssum_to X S1 _ (Lib.hid (hS1 ())) (by omega) (HY.next hbel3)).mono ?_)
              rintro e w4a ⟨rfl, hb4a⟩
              have hbel4a := below_join hbel3 hb4a
              go_wp2_with fail
              (with_reducible refine (sum_toW w4a _ _ _ X S1 _ hS1 rfl (by first | exact str_size _ | simp) (by omega) (HY.next hbel4a)).mono ?_)
              rintro e w4c ⟨rfl, hb4c⟩
              have hk4 := below_join hb4a hb4c
              have hBs4 := hBs3.next hk4 hBs3.lt
              have hBe4 := hBe3.next hk4 hBe3.lt
              have hBf4 := hBf3.next hk4 hBf3.lt
              have hbel4 := below_join hbel3 hk4
              clear hBs3 hBe3 hBf3 hbel3 hk4 hb4a hb4c hbel4a
              go_wp2_with (with_reducible refine wpList_eqArr (o := ⟨some 100, .binOp .eql 24 (.tmp 96) (.tmp 99) 24, _, _, _, _⟩) ?gq4 24 (.tmp 96) (.tmp 99) ?oq4 32 ?uq4 ?eq4 S1 S1 ?xq4 ?yq4 ?lq4 ?rq4 ?_)
              try (case xq4 => rfl)
              try (case yq4 => rfl)
              try (case gq4 => rfl)
              try (case oq4 => rfl)
              try (case uq4 => exact Tryd.underlying24)
              try (case eq4 => exact Tryd.guard24)
              try (case lq4 => exact hl1.out)
              try (case rq4 => exact hl1.out)
              go_ret
              exact ⟨rfl, hbel4⟩
  · rw [show fewB xs = false by simpa using hfew]
    go_wp2
    go_ret
    exact ⟨rfl, hbel2⟩
end Go.Proofs.YtnhnfdfjlagcjaaDoor
