/-
  The walk over the statement on digits that cross. Conditions: the tables read as the document has them.
-/
import Derived.Test.YtkakiepaffhhjaaDoorJJ
namespace Go.Proofs.YtkakiepaffhhjaaDoor
open Go.RowKit

def CrRel (x y : List Nat) (w : World) (l g i : Value) (wr : World) : Prop :=
  ∃ k : Nat, k ≤ 35 ∧ i = .int .i64 k ∧ l = .bool (anyTo (ltAt x y) k) ∧ g = .bool (anyTo (ltAt y x) k) ∧ Below w.heap.size w wr
set_option maxRecDepth 100000 in
set_option maxHeartbeats 3200000 in
theorem crossLaw_any (a b : List UInt8) (w : World) (ha : a.length = 16) (hb : b.length = 16) (HY : Lay w) :
    Calls Tryd.prog 7 #[.agg (a.map B8).toArray, .agg (b.map B8).toArray] w fun e w' => e = .returned (.bool true) ∧ Below w.heap.size w w' := by
  have HA := Lib.hid ha
  have HB := Lib.hid hb
  obtain ⟨x, hx⟩ : ∃ x, Hid (SG.digits a = x) := ⟨_, rfl⟩
  obtain ⟨y, hy⟩ : ∃ y, Hid (SG.digits b = y) := ⟨_, rfl⟩
  have hxl : Hid (x.length = 35) := by rw [← hx.out]; exact SG.digits_length _ ha
  have hyl : Hid (y.length = 35) := by rw [← hy.out]; exact SG.digits_length _ hb
  have hxN : Hid ((x.map N8).length = 35) := by
    have : (x.map N8).length = 35 := by rw [List.length_map]; exact hxl.out
    exact this
  have hyN : Hid ((y.map N8).length = 35) := by
    have : (y.map N8).length = 35 := by rw [List.length_map]; exact hyl.out
    exact this
  have hc1 : Hid (anyTo (ltAt x y) 35 = !decide (a = b)) := by rw [← hx.out, ← hy.out]; exact SG.cross a b ha hb
  have hc2 : Hid (anyTo (ltAt y x) 35 = !decide (a = b)) := by
    have : anyTo (ltAt y x) 35 = !decide (a = b) := by
      rw [← hx.out, ← hy.out, SG.cross b a hb ha]
      congr 1
      exact decide_eq_decide.2 ⟨Eq.symm, Eq.symm⟩
    exact this
  have hneq := run_neqDig a b ha hb
  clear ha hb
  go_enter Tryd.func7, Tryd.ntmps7
  go_wp2_with (with_reducible refine wpList_box (o := ⟨some 2, .box 23 (.tmp 0), _, _, _, _⟩) ?g1 23 (.tmp 0) ?o1 (.agg (a.map B8).toArray) (a.map B8) ?x1 ?c1 ?_)
  try (case g1 => rfl)
  try (case o1 => rfl)
  try (case x1 => rfl)
  try (case c1 => rfl)
  intro ga w1 hga hs1 hb1 hB1
  go_wp2_with (with_reducible refine wpList_box (o := ⟨some 3, .box 23 (.tmp 1), _, _, _, _⟩) ?g2 23 (.tmp 1) ?o2 (.agg (b.map B8).toArray) (b.map B8) ?x2 ?c2 ?_)
  try (case g2 => rfl)
  try (case o2 => rfl)
  try (case x2 => rfl)
  try (case c2 => rfl)
  intro gb w2 hgb hs2 hb2 hB2
  have hl1 : ga < gb := by have := hs1.out; have := hgb.out; have := hga.out; omega
  have hle : w.heap.size ≤ ga := Nat.le_of_eq hga.out.symm
  have hA2 := hB1.next hb2 hl1
  have hbel2 : Below w.heap.size w w2 := (hb1.mono hle).trans (hb2.mono (by omega))
  clear hga hgb hs1 hs2 hb1 hb2 hB1 hl1 hle
  go_wp2_with fail
  (with_reducible refine (sanity_any _ (HY.next hbel2)).mono ?_)
  rintro e w3 ⟨rfl, hb3⟩
  have hA3 := hA2.next hb3 hA2.lt
  have hB3 := hB2.next hb3 hB2.lt
  have hbel3 := below_join hbel2 hb3
  clear hA2 hB2 hbel2 hb3
  go_wp2_with (with_reducible refine wpList_get (o := ⟨some 12, .load 23 (.tmp 2), _, _, _, _⟩) (by with_unfolding_all rfl) 23 (.tmp 2) (by with_unfolding_all rfl) ga 0 (by with_unfolding_all rfl) hA3 (a.map B8) (cs_all _) (.array 16 5) (by exact Tryd.underlying23) (by with_unfolding_all rfl) (by rw [List.length_map, HA.out]; exact Tryd.size44) ?_)
  (with_reducible refine (sdigits_any a _ HA.out).mono ?_)
  rintro e w4 ⟨rfl, hb4⟩
  rw [hx.out]
  have hA4 := hA3.next hb4 hA3.lt
  have hB4 := hB3.next hb4 hB3.lt
  have hbel4 := below_join hbel3 hb4
  clear hA3 hB3 hbel3 hb4
  go_wp2_with (with_reducible refine wpList_alloc (o := ⟨some 6, .alloc 25, _, _, _, _⟩) (by with_unfolding_all rfl) 25 (by with_unfolding_all rfl) (.agg ((List.replicate 35 0).map N8).toArray) ((List.replicate 35 0).map N8) (by exact Tryd.zero51) (by with_unfolding_all rfl) ?_)
  intro gx w5 hgx hs5 hb5 hX5
  have hle : w4.heap.size ≤ gx := Nat.le_of_eq hgx.out.symm
  go_wp2_with (with_reducible refine wpList_put (o := ⟨none, .store 25 (.tmp 6) (.tmp 13), _, _, _, _⟩) (by with_unfolding_all rfl) 25 (.tmp 6) (.tmp 13) (by with_unfolding_all rfl) gx 0 (by with_unfolding_all rfl) (.agg (x.map N8).toArray) (by with_unfolding_all rfl) hX5 (x.map N8) (by with_unfolding_all rfl) (by rw [hxN.out]; exact Tryd.size51) (by with_unfolding_all (rw [hxN.out]; exact Nat.le_refl _)) (N8_one _) ?_)
  intro w6 hu6 hX6
  rw [splice_all _ _ (by rw [hxN.out]; rfl)] at hX6
  have hb6 : Below w4.heap.size w4 w6 := (hb5.mono hle).trans (hu6.below (B := w4.heap.size) hle)
  have hA6 := hA4.next hb6 hA4.lt
  have hB6 := hB4.next hb6 hB4.lt
  have hbel6 := below_join hbel4 hb6
  clear hA4 hB4 hbel4 hb6 hb5 hX5 hu6 hgx hs5 hle
  go_wp2_with (with_reducible refine wpList_get (o := ⟨some 14, .load 23 (.tmp 3), _, _, _, _⟩) (by with_unfolding_all rfl) 23 (.tmp 3) (by with_unfolding_all rfl) gb 0 (by with_unfolding_all rfl) hB6 (b.map B8) (cs_all _) (.array 16 5) (by exact Tryd.underlying23) (by with_unfolding_all rfl) (by rw [List.length_map, HB.out]; exact Tryd.size44) ?_)
  (with_reducible refine (sdigits_any b _ HB.out).mono ?_)
  rintro e w7 ⟨rfl, hb7⟩
  rw [hy.out]
  have hA7 := hA6.next hb7 hA6.lt
  have hB7 := hB6.next hb7 hB6.lt
  have hX7 := hX6.next hb7 hX6.lt
  have hbel7 := below_join hbel6 hb7
  clear hA6 hB6 hX6 hbel6 hb7
  go_wp2_with (with_reducible refine wpList_alloc (o := ⟨some 7, .alloc 25, _, _, _, _⟩) (by with_unfolding_all rfl) 25 (by with_unfolding_all rfl) (.agg ((List.replicate 35 0).map N8).toArray) ((List.replicate 35 0).map N8) (by exact Tryd.zero51) (by with_unfolding_all rfl) ?_)
  intro gy w8 hgy hs8 hb8 hY8
  have hle : w7.heap.size ≤ gy := Nat.le_of_eq hgy.out.symm
  go_wp2_with (with_reducible refine wpList_put (o := ⟨none, .store 25 (.tmp 7) (.tmp 15), _, _, _, _⟩) (by with_unfolding_all rfl) 25 (.tmp 7) (.tmp 15) (by with_unfolding_all rfl) gy 0 (by with_unfolding_all rfl) (.agg (y.map N8).toArray) (by with_unfolding_all rfl) hY8 (y.map N8) (by with_unfolding_all rfl) (by rw [hyN.out]; exact Tryd.size51) (by with_unfolding_all (rw [hyN.out]; exact Nat.le_refl _)) (N8_one _) ?_)
  intro w9 hu9 hY9
  rw [splice_all _ _ (by rw [hyN.out]; rfl)] at hY9
  have hb9 : Below w7.heap.size w7 w9 := (hb8.mono hle).trans (hu9.below (B := w7.heap.size) hle)
  have hA9 := hA7.next hb9 hA7.lt
  have hB9 := hB7.next hb9 hB7.lt
  have hX9 := hX7.next hb9 hX7.lt
  have hbel9 := below_join hbel7 hb9
  clear hA7 hB7 hX7 hbel7 hb9 hb8 hY8 hu9 hgy hs8 hle
  go_wp2
  go_loopw [8, 9, 10] (CrRel x y w9) (fun _ _ i _ => 35 - (intOf i).toNat)
  case atStart => exact ⟨0, by omega, rfl, rfl, rfl, Below.refl _ _⟩
  case round =>
    obtain ⟨k, hk, rfl, rfl, rfl, hbel⟩ := hrel
    by_cases hlt : k < 35
    · obtain ⟨p, hp⟩ : ∃ p, x[k]? = some p := ⟨_, List.getElem?_eq_getElem (by rw [hxl.out]; exact hlt)⟩
      obtain ⟨q, hq⟩ : ∃ q, y[k]? = some q := ⟨_, List.getElem?_eq_getElem (by rw [hyl.out]; exact hlt)⟩
      have hcx := (hX9.next hbel hX9.lt).cell (k := k) (v := .int .i64 (p : Int)) (by rw [List.getElem?_map, hp]; rfl)
      have hcy := (hY9.next hbel hY9.lt).cell (k := k) (v := .int .i64 (q : Int)) (by rw [List.getElem?_map, hq]; rfl)
      have ex : x.getD k 0 = p := by rw [List.getD_eq_getElem?_getD, hp]; rfl
      have ey : y.getD k 0 = q := by rw [List.getD_eq_getElem?_getD, hq]; rfl
      obtain ⟨l0, hl0⟩ : ∃ l0, Hid (anyTo (ltAt x y) k = l0) := ⟨_, rfl⟩
      obtain ⟨g0, hg0⟩ : ∃ g0, Hid (anyTo (ltAt y x) k = g0) := ⟨_, rfl⟩
      have hL : Hid (anyTo (ltAt x y) (k + 1) = (l0 || decide (p < q))) := by
        have : anyTo (ltAt x y) (k + 1) = (l0 || decide (p < q)) := by rw [← hl0.out, ← ex, ← ey]; rfl
        exact this
      have hG : Hid (anyTo (ltAt y x) (k + 1) = (g0 || decide (q < p))) := by
        have : anyTo (ltAt y x) (k + 1) = (g0 || decide (q < p)) := by rw [← hg0.out, ← ex, ← ey]; rfl
        exact this
      rw [hl0.out, hg0.out]
      clear hl0 hg0 hp hq ex ey
      have hki : (k : Int) < 35 := by omega
      have hk0 : (0 : Int) ≤ (k : Int) := by omega
      obtain ⟨c1, hc1⟩ : ∃ c : Bool, decide (p < q) = c := ⟨_, rfl⟩
      obtain ⟨c2, hc2⟩ : ∃ c : Bool, decide (q < p) = c := ⟨_, rfl⟩
      have hL2 : Hid (anyTo (ltAt x y) (k + 1) = (l0 || c1)) := by rw [hc1] at hL; exact hL
      have hG2 : Hid (anyTo (ltAt y x) (k + 1) = (g0 || c2)) := by rw [hc2] at hG; exact hG
      have hi1 : decide ((p : Int) < (q : Int)) = c1 := by rw [← hc1]; exact decide_eq_decide.2 Int.ofNat_lt
      have hi2 : decide ((q : Int) < (p : Int)) = c2 := by rw [← hc2]; exact decide_eq_decide.2 Int.ofNat_lt
      clear hL hG
      cases l0 <;> cases g0
      all_goals
        go_wp2
        go_quiet (fail)
        go_wp2
        go_quiet (fail)
        go_wp2
        go_roundw
        case rel => exact ⟨k + 1, by omega, by go_num, by rw [hL2.out]; first | rfl | simp, by rw [hG2.out]; first | rfl | simp, by first | exact hbel | exact Below.drewN hbel _ | exact below_drewN hbel _⟩
        case measure => simp [intOf]; omega
    · obtain rfl : k = 35 := by omega
      rw [hc1.out, hc2.out]
      obtain ⟨c, hc⟩ : ∃ c : Bool, Hid ((!decide (a = b)) = c) := ⟨_, rfl⟩
      rw [hc.out] at hneq ⊢
      have hA := hA9.next hbel hA9.lt
      have hB := hB9.next hbel hB9.lt
      have hbelw := below_join hbel9 hbel
      have hgd44 := Tryd.guard44
      clear hlt hk hA9 hB9 hX9 hY9 hbel hbel9 hc1 hc2
      go_wp2_with (first | (with_reducible refine wpList_getg (o := ⟨some 43, .load 23 (.tmp 2), _, _, _, _⟩) ?g11 23 (.tmp 2) ?o11 ga 0 ?x11 hA (a.map B8) ?c11 (.array 16 5) ?u11 ?d11 ?i11 ?_) | (with_reducible refine wpList_getg (o := ⟨some 44, .load 23 (.tmp 3), _, _, _, _⟩) ?g12 23 (.tmp 3) ?o12 gb 0 ?x12 hB (b.map B8) ?c12 (.array 16 5) ?u12 ?d12 ?i12 ?_) | (with_reducible refine wpList_getg (o := ⟨some 50, .load 23 (.tmp 2), _, _, _, _⟩) ?g13 23 (.tmp 2) ?o13 ga 0 ?x13 hA (a.map B8) ?c13 (.array 16 5) ?u13 ?d13 ?i13 ?_) | (with_reducible refine wpList_getg (o := ⟨some 51, .load 23 (.tmp 3), _, _, _, _⟩) ?g14 23 (.tmp 3) ?o14 gb 0 ?x14 hB (b.map B8) ?c14 (.array 16 5) ?u14 ?d14 ?i14 ?_))
      try (case x11 => rfl)
      try (case g11 => rfl)
      try (case o11 => rfl)
      try (case c11 => (exact cs_all _))
      try (case u11 => exact Tryd.underlying23)
      try (case d11 => first | rfl | assumption)
      try (case i11 => (rw [List.length_map, HA.out]; exact Tryd.size44))
      try (case x12 => rfl)
      try (case g12 => rfl)
      try (case o12 => rfl)
      try (case c12 => (exact cs_all _))
      try (case u12 => exact Tryd.underlying23)
      try (case d12 => first | rfl | assumption)
      try (case i12 => (rw [List.length_map, HB.out]; exact Tryd.size44))
      try (case x13 => rfl)
      try (case g13 => rfl)
      try (case o13 => rfl)
      try (case c13 => (exact cs_all _))
      try (case u13 => exact Tryd.underlying23)
      try (case d13 => first | rfl | assumption)
      try (case i13 => (rw [List.length_map, HA.out]; exact Tryd.size44))
      try (case x14 => rfl)
      try (case g14 => rfl)
      try (case o14 => rfl)
      try (case c14 => (exact cs_all _))
      try (case u14 => exact Tryd.underlying23)
      try (case d14 => first | rfl | assumption)
      try (case i14 => (rw [List.length_map, HB.out]; exact Tryd.size44))
      go_ret
      exact ⟨rfl, hbelw⟩
end Go.Proofs.YtkakiepaffhhjaaDoor
