/-
  The walk over the statement on Sum. Conditions: the tables read as the document has them.
-/
import Derived.Test.YtnhnfdfjlagcjaaDoorHrt
import Derived.Test.YtnhnfdfjlagcjaaDoorHsane
import Derived.Test.YtnhnfdfjlagcjaaDoorHstr
import Derived.Deep.RegionHeld
namespace Go.Proofs.YtnhnfdfjlagcjaaDoor
open Go.RowKit

theorem eqIn_arr (l : List UInt8) (hl : l.length = 32) : ∀ w : World, (Op.equalIn 10000 24 (.agg (l.map B8).toArray) (.agg (l.map B8).toArray)).run Tryd.prog w = .ok true w := fun w => by
  obtain ⟨i0, hi, _, _, _⟩ := info_parts Tryd.info8
  rw [run_equalIn_array (P := Tryd.prog) (w := w) 9999 _ _ Tryd.underlying24 hi, Tryd.cells5, eqItems_dec w l l rfl _ (fun i h => by have := List.mem_range.1 h; omega), ← hl, all_range_eq l l rfl]
  simp
theorem sum_toS (A : Option Addr) (cap n : Nat) (l S : List UInt8) (w : World) (hS : Unit → SM.sum l = S) (hn : n = l.length) (hl : l.length ≤ 1000000000) (HY : Lay w) (hh : Holds w A (l.map B8)) :
    Calls Tryd.prog 16 #[.slice A n cap] w fun e w' => e = .returned (.agg (S.map B8).toArray) ∧ Below w.heap.size w w' := by
  rw [← hS ()]; exact sum_any A cap n l w hn hl HY hh
theorem rsum_toS (w1 : World) (e : TypeId) (b n : Nat) (l S : List UInt8) (cap : Nat) (hS : Unit → SM.sum l = S) (hb : b = w1.heap.size) (hn : n = l.length) (hl : l.length ≤ 100000000) (HC : LayC w1) :
    Calls Tryd.prog 17 #[.slice (some ⟨b, 0, none⟩) n cap] (Lib.bytesWorld w1 e ⟨l.toArray⟩) fun e w' => e = .returned (.agg (S.map B8).toArray) ∧ Below w1.heap.size w1 w' := by
  subst hb
  rw [← hS ()]
  have hb := below_bytesWorld w1 e ⟨l.toArray⟩
  have hh := holds_bytesWorld w1 e ⟨l.toArray⟩
  rw [str_toList] at hh
  refine (rsum_any _ cap _ l _ hn hl hh (HC.next hb)).mono ?_
  rintro e w' ⟨rfl, hb'⟩
  exact ⟨rfl, hb.trans (hb'.mono hb.size)⟩

set_option maxRecDepth 100000 in
set_option maxHeartbeats 800000 in
theorem sumLaw_any (A : Option Addr) (cap n : Nat) (l : List UInt8) (w : World) (hn : n = l.length) (hz : n ≤ 140737488351232) (hh : Holds w A (l.map B8)) (HY : Lay w) (HC : LayC w) :
    Calls Tryd.prog 3 #[.slice A n cap] w fun e w' => e = .returned (.bool true) ∧ Below w.heap.size w w' := by
  have hnl := Lib.hid hn
  clear hn
  go_enter Tryd.func3, Tryd.ntmps3
  go_wp2_with fail
  (with_reducible refine (sanity_any _ HY).mono ?_)
  rintro e w1 ⟨rfl, hb1⟩
  by_cases h1 : 1000 < n
  · go_wp2
    go_ret
    exact ⟨rfl, hb1⟩
  · have hl : l.length ≤ 1000 := by have := hnl.out; omega
    have HY1 := HY.next hb1
    have hh1 := hh.next hb1
    have hcv := run_conv_later w1 A cap n l hnl.out hh1
    obtain ⟨S, hS⟩ : ∃ S, (Unit → SM.sum l = S) := ⟨_, fun _ => rfl⟩
    have hSl : Hid (S.length = 32) := by rw [← hS ()]; exact SM.sum_length _
    have hr1 := hcv w1 (Below.refl _ _)
    go_wp2_with fail
    (with_reducible refine (sum_toS A cap n l S _ hS hnl.out (by omega) HY1 hh1).mono ?_)
    rintro e w2 ⟨rfl, hb2⟩
    clear hr1
    go_wp2_with (with_reducible refine wpList_alloc (o := ⟨some 5, .alloc 24, _, _, _, _⟩) ?g1 24 ?o1 (aggB (SM.zeros 32)) zero32 ?z1 ?c1 ?_)
    try (case g1 => rfl)
    try (case o1 => rfl)
    try (case z1 => exact Tryd.zero24)
    try (case c1 => rfl)
    intro g w3 hg hs3 hb3 hB3
    have hk3 : Below w1.heap.size w1 w3 := hb2.trans (hb3.mono (by have := hb2.size; have := hg.out; omega))
    have hg1 : w1.heap.size ≤ g := by have := hb2.size; have := hg.out; omega
    go_wp2_with (with_reducible refine wpList_put (o := ⟨none, .store 24 (.tmp 5) (.tmp 14), _, _, _, _⟩) ?g2 24 (.tmp 5) (.tmp 14) ?o2 g 0 ?x2 (.agg (S.map B8).toArray) ?y2 hB3 (S.map B8) ?v2 ?i2 ?l2 ?q2 ?_)
    try (case y2 => rfl)
    try (case x2 => rfl)
    try (case g2 => rfl)
    try (case o2 => rfl)
    try (case v2 => rfl)
    try (case i2 => exact (by rw [List.length_map, hSl.out]; exact Tryd.size24))
    try (case l2 => (rw [List.length_map, hSl.out]; exact Nat.le_refl _))
    try (case q2 => exact B8_one _)
    intro w4 hu4 hB4
    rw [splice_all _ _ (by rw [List.length_map, hSl.out]; rfl)] at hB4
    have hk4 : Below w1.heap.size w1 w4 := hk3.trans (hu4.below hg1)
    have hb4 : Below w.heap.size w w4 := hb1.trans (hk4.mono hb1.size)
    have HC4 := HC.next hb4
    have hh4 := hh.next hb4
    have hc4 := run_conv_later w4 A cap n l hnl.out hh4
    clear hk3 hu4 hB3 hb3 hb2 hs3 hg HY1 hh1 hcv hk4
    have hld : ∀ w', Below w4.heap.size w4 w' → (loadVar 24 ⟨g, 0, none⟩).run Tryd.prog w' = .ok (.agg (S.map B8).toArray) w' := fun w' hw => run_get w' g 0 _ _ _ _ (hB4.next hw hB4.lt) (cs_all _) _ Tryd.underlying24 rfl (by rw [List.length_map, hSl.out]; exact Tryd.size24)
    have heq := eqIn_arr S hSl.out
    have hcs := fun w' => Lib.run_convert_string_bytes (P := Tryd.prog) w' 9 22 5 ⟨l.toArray⟩ Tryd.underlying9 Tryd.underlying22 Tryd.underlying5
    have hd := below_drew w4
    have hld1 := hld _ hd
    have hc1 := hc4 _ hd
    have hgd := Tryd.guard24
    go_wp2
    have hrg : ∀ w', Below w4.heap.size w4 w' → w'.rangeAt g 0 (S.map B8) := fun w' hw => blk_range (hB4.next hw hB4.lt)
    have hsz24 : (Tryd.prog.info? 24).map (·.size) = some (S.map B8).length := by rw [List.length_map, hSl.out]; exact Tryd.size24
    have hun24 := Tryd.underlying24
    go_region_held (fun w' => Below w4.heap.size w4 w' ∧ w'.rangeAt g 0 (S.map B8))
      (first | assumption | exact ⟨by (first | assumption | exact below_join (by first | assumption | exact below_drew _) (below_bytesWorld _ _ _) | exact below_bytesWorld _ _ _ | exact below_drew _ | exact Below.refl _ _), hrg _ (by (first | assumption | exact below_join (by first | assumption | exact below_drew _) (below_bytesWorld _ _ _) | exact below_bytesWorld _ _ _ | exact below_drew _ | exact Below.refl _ _))⟩)
      (first
      | (go_at_call 17; with_reducible refine (rsum_toS _ _ _ _ l S _ hS (by first | (with_unfolding_all rfl) | simp [World.drew]) (by first | (with_unfolding_all rfl) | simp) (by omega) (HC4.next (by (first | assumption | exact below_join (by first | assumption | exact below_drew _) (below_bytesWorld _ _ _) | exact below_bytesWorld _ _ _ | exact below_drew _ | exact Below.refl _ _)))).mono ?_; rintro e w5 ⟨rfl, hb5⟩; have hk5 : Below w4.heap.size w4 w5 := below_join (by (first | assumption | exact below_join (by first | assumption | exact below_drew _) (below_bytesWorld _ _ _) | exact below_bytesWorld _ _ _ | exact below_drew _ | exact Below.refl _ _)) hb5; clear hb5))
    go_wp2
    go_ret
    exact ⟨rfl, hb4.trans (Below.mono (by first | assumption | exact (Below.drew (by assumption))) hb4.size)⟩
end Go.Proofs.YtnhnfdfjlagcjaaDoor
