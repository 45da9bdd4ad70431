/-
  The walk over the statement on Verify. Conditions: the tables read as the document has them.
-/
import Derived.Test.YtkakiepaffhhjaaDoorJJ
namespace Go.Proofs.YtkakiepaffhhjaaDoor
open Go.RowKit

set_option maxRecDepth 100000 in
set_option maxHeartbeats 1600000 in
theorem vfyLaw_any (pub : List UInt8) (h : Int) (ms t : ByteArray) (w : World) (hp : pub.length = 16) (z1 : ms.size ≤ 140737488351232) (z2 : t.size ≤ 140737488351232) (HY : Lay w) (HC : LayC w) :
    Calls Tryd.prog 5 #[.agg (pub.map B8).toArray, .int .i64 h, .string ms, .string t] w fun e w' => e = .returned (.bool true) ∧ Below w.heap.size w w' := by
  have HP := Lib.hid hp
  obtain ⟨⟨n, e⟩, hv⟩ : ∃ p, (Unit → vfy pub h ms.data.toList t.data.toList = p) := ⟨_, fun _ => rfl⟩
  clear hp
  go_enter Tryd.func5, Tryd.ntmps5
  go_wp2_with (with_reducible refine wpList_box (o := ⟨some 4, .box 23 (.tmp 0), _, _, _, _⟩) ?g1 23 (.tmp 0) ?o1 (.agg (pub.map B8).toArray) (pub.map B8) ?x1 ?c1 ?_)
  try (case g1 => rfl)
  try (case o1 => rfl)
  try (case x1 => rfl)
  try (case c1 => rfl)
  intro gp w1 hgp hs1 hb1 hB1
  have hbel1 : Below w.heap.size w w1 := hb1.mono (Nat.le_of_eq hgp.out.symm)
  clear hgp hs1 hb1
  go_wp2_with fail
  (with_reducible refine (sanity_any _ (HY.next hbel1)).mono ?_)
  rintro e w2 ⟨rfl, hb2⟩
  have hB2 := hB1.next hb2 hB1.lt
  have hbel2 := below_join hbel1 hb2
  clear hB1 hbel1 hb2
  by_cases h1 : 200 < ms.size
  · go_wp2
    go_ret
    exact ⟨rfl, hbel2⟩
  · by_cases h2 : 800 < t.size
    · go_wp2
      go_ret
      exact ⟨rfl, hbel2⟩
    · go_wp2_with (with_reducible refine wpList_get (o := ⟨some 25, .load 23 (.tmp 4), _, _, _, _⟩) (by with_unfolding_all rfl) 23 (.tmp 4) (by with_unfolding_all rfl) gp 0 (by with_unfolding_all rfl) hB2 (pub.map B8) (cs_all _) (.array 16 5) (by exact Tryd.underlying23) (by with_unfolding_all rfl) (by rw [List.length_map, HP.out]; exact Tryd.size44) ?_)
      (with_reducible refine (sverify_b pub h n e ms t _ hv HP.out (by omega) (by omega) (HY.next hbel2)).mono ?_)
      rintro x w3 ⟨rfl, hb3⟩
      have hB3 := hB2.next hb3 hB2.lt
      have hbel3 := below_join hbel2 hb3
      clear hB2 hbel2 hb3
      go_wp2_with (with_reducible refine wpList_get (o := ⟨some 33, .load 23 (.tmp 4), _, _, _, _⟩) (by with_unfolding_all rfl) 23 (.tmp 4) (by with_unfolding_all rfl) gp 0 (by with_unfolding_all rfl) hB3 (pub.map B8) (cs_all _) (.array 16 5) (by exact Tryd.underlying23) (by with_unfolding_all rfl) (by rw [List.length_map, HP.out]; exact Tryd.size44) ?_)
      (with_reducible refine (rverify_b pub h n e ms t _ hv HP.out (by omega) (by omega) (HC.next hbel3)).mono ?_)
      rintro x w4 ⟨rfl, hb4⟩
      have hbel4 := below_join hbel3 hb4
      clear hB3 hbel3 hb4
      go_wp2
      go_ret
      exact ⟨rfl, hbel4⟩
end Go.Proofs.YtkakiepaffhhjaaDoor
