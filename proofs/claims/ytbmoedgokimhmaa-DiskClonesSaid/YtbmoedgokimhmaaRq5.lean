/-
  Contract of the walk over the reference's Mount. Conditions: the record holds the disk, the picks lie elsewhere.
-/
import Derived.Test.YtbmoedgokimhmaaRq4
namespace Go.Proofs.Ytbmoedgokimhmaa
open Go.RowKit

def mtTo (M : DM) (picks : List Int) (j : Nat) : DM := { M with ps := DM.mountTo M.ps M.pending picks j }
theorem mtTo_len (M : DM) (picks : List Int) : ∀ j, (mtTo M picks j).ps.length = M.ps.length
  | 0 => rfl
  | j + 1 => by
    have := mtTo_len M picks j
    unfold mtTo at this ⊢
    simp only [DM.mountTo, List.length_set]
    exact this
theorem mtTo_next (M : DM) (picks : List Int) (j i : Nat) (h : M.pending[j]? = some i) : (mtTo M picks j).set i (((mtTo M picks j).page i).settle (DM.pick picks j)) = mtTo M picks (j + 1) := by
  have e : M.pending.getD j 0 = i := by rw [List.getD_eq_getElem?_getD, h]; rfl
  unfold mtTo DM.set DM.page
  simp only [DM.mountTo, e]
theorem mtTo_ok {M : DM} (hM : M.ok) (picks : List Int) : ∀ j, j ≤ M.pending.length → (mtTo M picks j).ok
  | 0, _ => hM
  | j + 1, hj => by
    have ih := mtTo_ok hM picks j (by omega)
    obtain ⟨i, hi⟩ : ∃ i, M.pending[j]? = some i := ⟨_, List.getElem?_eq_getElem (by omega)⟩
    rw [← mtTo_next M picks j i hi]
    refine DM.set_ok ih i (Pg.settle_ok (DM.page_ok ih ?_) _)
    rw [mtTo_len]
    exact pending_lt (List.mem_of_getElem? hi)
theorem pick_at (picks : List Int) (k : Nat) (x : Int) (h : picks[k]? = some x) : clampN x = DM.pick picks k := by unfold DM.pick clampN; rw [h]
theorem pick_past (picks : List Int) (k : Nat) (h : picks.length ≤ k) : clampN 128 = DM.pick picks k := by
  unfold DM.pick
  rw [List.getElem?_eq_none h]
  decide
theorem own_only {L : List Nat} {w w' : World} {base size n : Nat} {E : TypeId} {v : Value} {xs : List Value} (h : w.ownsRow base E size v n xs) (ho : Only L w w') (hL : ∀ k ∈ L, k < base) : w'.ownsRow base E size v n xs := by
  refine ⟨h.1, ?_⟩
  rcases h.2 with hn | ⟨g, cap, cur, rfl, hb, hgg, rest⟩
  · exact .inl hn
  · refine .inr ⟨g, cap, cur, rfl, hb, ?_, rest⟩
    rw [ho.block g (Array.getElem?_eq_some_iff.1 hgg).1 (fun hm => by have := hL g hm; omega)]
    exact hgg
theorem own_cell {w : World} {base n c : Nat} {E : TypeId} {A : Option Addr} {xs : List Value} (h : w.ownsRow base E 1 (.slice A n c) n xs) {j : Nat} {u : Value} (hu : xs[j]? = some u) : ∃ g, A = some ⟨g, 0, none⟩ ∧ w.cell? ⟨g, j, none⟩ = some u := by
  have hl := h.1
  have hj : j < xs.length := (List.getElem?_eq_some_iff.1 hu).1
  rcases h.2 with ⟨hv, h0⟩ | ⟨g, cap, cur, hv, _⟩
  · omega
  · injection hv with e1 e2 e3
    subst e1
    have := h.cells rfl j u hu
    refine ⟨g, rfl, ?_⟩
    rw [show (⟨g, 0, none⟩ : Addr).add j = ⟨g, j, none⟩ by simp [Addr.add]; omega] at this
    exact this
/-- Where the picks are held. -/
def PkAt (w : World) (A : Option Addr) (picks : List Int) : Prop := ∀ k x, picks[k]? = some x → ∃ p : Addr, A = some p ∧ w.cell? (p.add k) = some (.int .i64 x)
def RMtRel (M : DM) (picks : List Int) (gr ga cap : Nat) (X : List Value) (w : World) (i : Value) (wr : World) : Prop :=
  ∃ j : Nat, j ≤ M.pending.length ∧ i = .int .i64 j ∧ RRep wr gr ga cap X (mtTo M picks j) ∧ Only [gr, ga] w wr
set_option maxRecDepth 100000 in
set_option maxHeartbeats 1600000 in
theorem rmount_any (gr ga cap : Nat) (X : List Value) (M : DM) (A : Option Addr) (pc : Nat) (picks : List Int) (w : World) (hM : M.ok) (h : RRep w gr ga cap X M) (hpl : picks.length ≤ 1000000) (hpk : ∀ w', Only [gr, ga] w w' → PkAt w' A picks) :
    Calls Try.prog 61 #[.pointer (some ⟨gr, 0, none⟩), .slice A picks.length pc] w fun x w' => x = .returned (.tuple #[]) ∧ RRep w' gr ga cap X (M.mount picks) ∧ Only [gr, ga] w w' := by
  have hn4 : M.ps.length ≤ 4096 := hM.2.2.2
  have hple := pending_le M
  have hgl := h.d.lt
  have hal := h.p.lt
  have HPK := Lib.hid hpk
  have HM := Lib.hid hM
  obtain ⟨q, hq⟩ : ∃ q, Hid (picks.length = q) := ⟨_, rfl⟩
  rw [hq.out] at hpl ⊢
  clear hpk hM
  go_enter Try.func61, Try.ntmps61
  go_wp2_with fail
  (with_reducible refine (rpending_any gr ga cap X M _ hn4 h).mono ?_)
  rintro e w1 ⟨v, rfl, hown, hb1⟩
  rw [pendZ_length] at hown
  obtain ⟨N, hN⟩ : ∃ N, Hid (M.pending.length = N) := ⟨_, rfl⟩
  rw [hN.out] at hown hple
  have h1 := h.next hb1
  have ho1 : Only [gr, ga] w w1 := Only.of_below hb1
  obtain ⟨B, c, rfl⟩ := own_shape hown
  obtain ⟨base, hbase⟩ : ∃ base, Hid (w.heap.size = base) := ⟨_, rfl⟩
  rw [hbase.out] at hown hgl hal
  have hoz : Hid (∀ w', Only [gr, ga] w1 w' → w'.ownsRow base 3 1 (.slice B N c) N ((pendZ M).map Z8)) := by
    have : ∀ w', Only [gr, ga] w1 w' → w'.ownsRow base 3 1 (.slice B N c) N ((pendZ M).map Z8) := fun w' ho => own_only hown ho (by simp; omega)
    exact this
  clear h hown hb1
  go_wp2
  go_loopw [5] (fun i wr => RMtRel M picks gr ga cap X w i wr ∧ Only [gr, ga] w1 wr) (fun i _ => N - natOf i)
  case atStart => exact ⟨⟨0, Nat.zero_le _, rfl, h1, ho1⟩, Only.refl _ _⟩
  case round =>
    clear h1 ho1
    obtain ⟨⟨j, hj, rfl, hR, ho⟩, ho1⟩ := hrel
    rw [hN.out] at hj
    by_cases hjn : j < N
    · obtain ⟨i, hi⟩ : ∃ i, M.pending[j]? = some i := ⟨_, List.getElem?_eq_getElem (by rw [hN.out]; exact hjn)⟩
      have hil := pending_lt (List.mem_of_getElem? hi)
      obtain ⟨g, rfl, hcell⟩ := own_cell (hoz.out wr ho1) (j := j) (u := .int .i64 (i : Int)) (by unfold pendZ; rw [List.map_map, List.getElem?_map, hi]; rfl)
      have hji : (j : Int) < (N : Int) := by omega
      have hnx := Lib.hid (mtTo_next M picks j i hi)
      have HIL : Hid (i < (mtTo M picks j).ps.length) := by
        have : i < (mtTo M picks j).ps.length := by rw [mtTo_len]; exact hil
        exact this
      have HO := Lib.hid (mtTo_ok HM.out picks j (by rw [hN.out]; exact hj))
      have HJ := Lib.hid hj
      clear hi hil hj
      by_cases hjq : j < q
      · obtain ⟨x, hx⟩ : ∃ x, picks[j]? = some x := ⟨_, List.getElem?_eq_getElem (by rw [hq.out]; exact hjq)⟩
        obtain ⟨pa, rfl, hpc⟩ := HPK.out wr ho j x hx
        have hjqi : (j : Int) < (q : Int) := by omega
        have HX := Lib.hid (pick_at picks j x hx)
        clear hx
        go_wp2_with fail
        (with_reducible refine (rsettle_any gr ga cap X (mtTo M picks j) i _ x _ HIL.out HX.out HO.out hR).mono ?_)
        rintro e w2 ⟨rfl, h2, ho2⟩
        rw [hnx.out] at h2
        have ho3 := ho.trans (ho2.mono (by simp))
        have ho4 := ho1.trans (ho2.mono (by simp))
        clear hR ho ho1 ho2 HO hcell hpc
        go_wp2
        go_roundw
        case rel => exact ⟨⟨j + 1, by rw [hN.out]; omega, by go_num, h2, ho3⟩, ho4⟩
        case measure => simp [natOf]; omega
      · have hjqi : (q : Int) ≤ (j : Int) := by omega
        have HX := Lib.hid (pick_past picks j (by rw [hq.out]; omega))
        go_wp2_with fail
        (with_reducible refine (rsettle_any gr ga cap X (mtTo M picks j) i _ 128 _ HIL.out HX.out HO.out hR).mono ?_)
        rintro e w2 ⟨rfl, h2, ho2⟩
        rw [hnx.out] at h2
        have ho3 := ho.trans (ho2.mono (by simp))
        have ho4 := ho1.trans (ho2.mono (by simp))
        clear hR ho ho1 ho2 HO hcell
        go_wp2
        go_roundw
        case rel => exact ⟨⟨j + 1, by rw [hN.out]; omega, by go_num, h2, ho3⟩, ho4⟩
        case measure => simp [natOf]; omega
    · obtain rfl : j = N := by omega
      have hB := hR.d
      have hP := hR.p
      have hne := hR.n1
      rw [mtTo_len] at hB
      have hfin : Hid ((mtTo M picks j).ps = (M.mount picks).ps) := by
        have : (mtTo M picks j).ps = (M.mount picks).ps := by rw [← hN.out]; rfl
        exact this
      rw [hfin.out] at hP
      have hml : Hid (M.ps.length = (M.mount picks).ps.length) := by
        have : M.ps.length = (M.mount picks).ps.length := by rw [← hfin.out, mtTo_len]
        exact this
      rw [hml.out] at hB
      obtain ⟨s, hs⟩ : ∃ s, Hid ((M.mount picks).ps.length = s) := ⟨_, rfl⟩
      rw [hs.out] at hB
      obtain ⟨u, hu⟩ : ∃ u, (mtTo M picks j).up = u := ⟨_, rfl⟩
      obtain ⟨t, ht⟩ : ∃ t, (mtTo M picks j).trip = t := ⟨_, rfl⟩
      rw [hu, ht] at hB
      clear hR hjn hj hoz hu ht ho1
      go_wp2_with (with_reducible refine wpList_put (o := ⟨none, .store 4 (.tmp 32) (.const (.bool false)), _, _, _, _⟩) (by with_unfolding_all rfl) 4 (.tmp 32) (.const (.bool false)) (by with_unfolding_all rfl) gr 1 (by with_unfolding_all rfl) (.bool false) (by with_unfolding_all rfl) hB [(.bool false)] (by with_unfolding_all rfl) (by with_unfolding_all exact Try.sz4) (by with_unfolding_all simp) (by with_unfolding_all exact one_cell1 rfl) ?_)
      intro w2 hu2 hB2
      have hB2' : Blk w2 gr 56 [.slice (some ⟨ga, 0, none⟩) s cap, .bool false, .int .i64 t] := hB2
      clear hB hB2
      go_wp2_with (with_reducible refine wpList_put (o := ⟨none, .store 3 (.tmp 35) (.const (.int .i64 (-1))), _, _, _, _⟩) (by with_unfolding_all rfl) 3 (.tmp 35) (.const (.int .i64 (-1))) (by with_unfolding_all rfl) gr 2 (by with_unfolding_all rfl) (.int .i64 (-1)) (by with_unfolding_all rfl) hB2' [(.int .i64 (-1))] (by with_unfolding_all rfl) (by with_unfolding_all exact Try.sz3) (by with_unfolding_all simp) (by with_unfolding_all exact one_cell1 rfl) ?_)
      intro w3 hu3 hB3
      have hou := hu2.trans hu3
      have h3 : RRep w3 gr ga cap X (M.mount picks) := ⟨by rw [hs.out]; exact hB3, hP.upd hou hne.symm, hne⟩
      have ho3 := ho.trans (Only.of_upd (L := [gr, ga]) hou (by simp))
      clear hB2' hB3 hP hu2 hu3 hou ho
      go_wp2
      go_end0
      exact ⟨rfl, h3, ho3⟩
end Go.Proofs.Ytbmoedgokimhmaa
