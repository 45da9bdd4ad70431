/-
  The walk over the statement on Mac. Conditions: the tables read as the document has them.
-/
import Derived.Test.YtnhnfdfjlagcjaaDoorHpk
namespace Go.Proofs.YtnhnfdfjlagcjaaDoor
open Go.RowKit

set_option maxRecDepth 100000 in
set_option maxHeartbeats 800000 in
theorem macLaw_any (key text : ByteArray) (w : World) (ha : key.size ≤ 140737488351232) (hb : text.size ≤ 140737488351232) (HY : Lay w) (HC : LayC w) :
    Calls Tryd.prog 5 #[.string key, .string text] w fun e w' => e = .returned (.bool true) ∧ Below w.heap.size w w' := by
  go_enter Tryd.func5, Tryd.ntmps5
  go_wp2_with fail
  (with_reducible refine (sanity_any _ HY).mono ?_)
  rintro e w1 ⟨rfl, hb1⟩
  by_cases h1 : 400 < key.size
  · go_wp2
    go_ret
    exact ⟨rfl, hb1⟩
  · by_cases h2 : 400 < text.size
    · go_wp2
      go_ret
      exact ⟨rfl, hb1⟩
    · have HY1 := HY.next hb1
      obtain ⟨M, hM⟩ : ∃ M, Hid (mac key.data.toList text.data.toList = M) := ⟨_, rfl⟩
      go_wp2_with fail
      (with_reducible refine (mac_to key text M _ hM (by omega) (by omega) HY1).mono ?_)
      rintro e w2 ⟨rfl, hb2⟩
      have hk2 := below_join hb1 hb2
      have HC2 := HC.next hk2
      clear hb2 HY1
      go_wp2_with fail
      (with_reducible refine (rmac_any key text M _ (fun _ => hM.out) (by omega) (by omega) HC2).mono ?_)
      rintro e w3 ⟨rfl, hb3⟩
      have hk3 := below_join hk2 hb3
      clear hb3 HC2 hk2
      go_wp2
      go_ret
      exact ⟨rfl, hk3⟩
end Go.Proofs.YtnhnfdfjlagcjaaDoor
