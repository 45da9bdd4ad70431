/-
  The walk over the statement on the keys of Mac. Conditions: the tables read as the document has them.
-/
import Derived.Test.YtnhnfdfjlagcjaaDoorHeqlaw
import Derived.Test.YtnhnfdfjlagcjaaDoorHstr
namespace Go.Proofs.YtnhnfdfjlagcjaaDoor
open Go.RowKit

theorem keyBlk_sum (key : List UInt8) (h : 64 < key.length) : keyBlk (SM.sum key) = keyBlk key := by
  unfold keyBlk
  rw [if_pos h, if_neg (by rw [SM.sum_length]; decide)]
  rfl
theorem keyBlk_zero (key : List UInt8) (h : key.length < 64) : keyBlk (key ++ [0]) = keyBlk key := by
  unfold keyBlk
  have h2 : (key ++ [0]).length = key.length + 1 := by simp
  rw [if_neg (by rw [h2]; omega), if_neg (by omega), List.append_assoc, h2]
  congr 1
  show 0 :: SM.zeros (64 - (key.length + 1)) = SM.zeros (64 - key.length)
  unfold SM.zeros
  rw [show 64 - key.length = (64 - (key.length + 1)) + 1 by omega, List.replicate_succ]
theorem mac_key {k1 k2 : List UInt8} (t : List UInt8) (h : keyBlk k1 = keyBlk k2) : mac k1 t = mac k2 t := by unfold mac; rw [h]
theorem mac_length (k t : List UInt8) : (mac k t).length = 32 := SM.sum_length _
theorem mac_to (key text : ByteArray) (M : List UInt8) (w : World) (hM : Hid (mac key.data.toList text.data.toList = M)) (hk : key.size ≤ 900000000) (ht : text.size ≤ 900000000) (HY : Lay w) :
    Calls Tryd.prog 23 #[.string key, .string text] w fun e w' => e = .returned (.string ⟨M.toArray⟩) ∧ Below w.heap.size w w' := by
  rw [← hM.out]; exact mac_any key text w hk ht HY
theorem sum_str (A : Option Addr) (cap : Nat) (s : ByteArray) (S : List UInt8) (w : World) (hS : Hid (SM.sum s.data.toList = S)) (hl : s.size ≤ 1000000000) (HY : Lay w) (hh : Holds w A (s.data.toList.map B8)) :
    Calls Tryd.prog 16 #[.slice A s.size cap] w fun e w' => e = .returned (.agg (S.map B8).toArray) ∧ Below w.heap.size w w' := by
  rw [← hS.out]; exact sum_any A cap s.size s.data.toList w (bytes_size s).symm (by rw [bytes_size]; exact hl) HY hh

set_option maxRecDepth 100000 in
set_option maxHeartbeats 800000 in
theorem keysLaw_any (key text : ByteArray) (w : World) (ha : key.size ≤ 140737488351232) (hb : text.size ≤ 140737488351232) (HY : Lay w) :
    Calls Tryd.prog 6 #[.string key, .string text] w fun e w' => e = .returned (.bool true) ∧ Below w.heap.size w w' := by
  go_enter Tryd.func6, Tryd.ntmps6
  go_wp2_with fail
  (with_reducible refine (sanity_any _ HY).mono ?_)
  rintro e w1 ⟨rfl, hb1⟩
  by_cases h1 : 400 < key.size
  · go_wp2
    go_ret
    exact ⟨rfl, hb1⟩
  · by_cases h2 : 400 < text.size
    · go_wp2
      go_ret
      exact ⟨rfl, hb1⟩
    · have hkl : Hid (key.data.toList.length = key.size) := bytes_size key
      have HY1 := HY.next hb1
      obtain ⟨M, hM⟩ : ∃ M, Hid (mac key.data.toList text.data.toList = M) := ⟨_, rfl⟩
      have hMl : Hid (M.length = 32) := by rw [← hM.out]; exact mac_length _ _
      by_cases h3 : 64 < key.size
      · obtain ⟨S, hS⟩ : ∃ S, Hid (SM.sum key.data.toList = S) := ⟨_, rfl⟩
        have hSl : Hid (S.length = 32) := by rw [← hS.out]; exact SM.sum_length _
        have hM2 : Hid (mac (⟨S.toArray⟩ : ByteArray).data.toList text.data.toList = M) := by
          have : mac (⟨S.toArray⟩ : ByteArray).data.toList text.data.toList = M := by
            rw [str_toList, ← hM.out, ← hS.out]
            exact mac_key _ (keyBlk_sum _ (by rw [hkl.out]; exact h3))
          exact this
        go_wp2_with fail
        (with_reducible refine (mac_to key text M _ hM (by omega) (by omega) HY1).mono ?_)
        rintro e w2 ⟨rfl, hb2⟩
        have hk2 := below_join hb1 hb2
        have HY2 := HY1.next hb2
        clear hb2 HY1
        go_wp2_with (with_reducible refine wpList_bytesOf (o := ⟨some 25, .convert 9 22 (.tmp 24), _, _, _, _⟩) ?g1 (.tmp 24) ?o1 key ?x1 ?_)
        try (case x1 => rfl)
        try (case g1 => rfl)
        try (case o1 => rfl)
        intro A cap w3 hb3 hh3
        have hk3 := below_join hk2 hb3
        have HY3 := HY2.next hb3
        clear hb3 HY2 hk2
        go_wp2_with fail
        (with_reducible refine (sum_str A cap key S _ hS (by omega) HY3 hh3).mono ?_)
        rintro e w4 ⟨rfl, hb4⟩
        have hk4 := below_join hk3 hb4
        have HY4 := HY3.next hb4
        clear hb4 HY3 hk3 hh3
        go_wp2_with fail
        (with_reducible refine (bytes32_any S _ hSl.out).mono ?_)
        rintro e w5 ⟨rfl, hb5⟩
        have hk5 := below_join hk4 hb5
        have HY5 := HY4.next hb5
        clear hb5 HY4 hk4
        go_wp2_with fail
        (with_reducible refine (mac_to ⟨S.toArray⟩ text M _ hM2 (by rw [str_size, hSl.out]; decide) (by omega) HY5).mono ?_)
        rintro e w6 ⟨rfl, hb6⟩
        have hk6 := below_join hk5 hb6
        clear hb6 HY5 hk5
        go_wp2
        go_ret
        exact ⟨rfl, hk6⟩
      · by_cases h4 : key.size < 64
        · have hk0 : Hid ((key ++ ({ data := #[0] } : ByteArray)).data.toList = key.data.toList ++ [0]) := by
            have : (key ++ ({ data := #[0] } : ByteArray)).data.toList = key.data.toList ++ [0] := by rw [ByteArray.data_append]; simp
            exact this
          have hks : Hid ((key ++ ({ data := #[0] } : ByteArray)).size ≤ 65) := by
            have := congrArg List.length hk0.out
            rw [Array.length_toList, List.length_append, hkl.out] at this
            have h5 : (key ++ ({ data := #[0] } : ByteArray)).size ≤ 65 := by
              show (key ++ ({ data := #[0] } : ByteArray)).data.size ≤ 65
              rw [this]; simp; omega
            exact h5
          have hM2 : Hid (mac (key ++ ({ data := #[0] } : ByteArray)).data.toList text.data.toList = M) := by
            have : mac (key ++ ({ data := #[0] } : ByteArray)).data.toList text.data.toList = M := by
              rw [hk0.out, ← hM.out]
              exact mac_key _ (keyBlk_zero _ (by rw [hkl.out]; exact h4))
            exact this
          clear hk0
          go_wp2_with fail
          (with_reducible refine (mac_to key text M _ hM (by omega) (by omega) HY1).mono ?_)
          rintro e w2 ⟨rfl, hb2⟩
          have hk2 := below_join hb1 hb2
          have HY2 := HY1.next hb2
          clear hb2 HY1
          go_wp2_with fail
          (with_reducible refine (mac_to _ text M _ hM2 (by have := hks.out; omega) (by omega) HY2).mono ?_)
          rintro e w3 ⟨rfl, hb3⟩
          have hk3 := below_join hk2 hb3
          clear hb3 HY2 hk2
          go_wp2
          go_ret
          exact ⟨rfl, hk3⟩
        · have hMs : (⟨M.toArray⟩ : ByteArray).size = 32 := by rw [← hMl.out]; exact str_size M
          have hMs' : M.length = 32 := hMl.out
          go_wp2_with fail
          (with_reducible refine (mac_to key text M _ hM (by omega) (by omega) HY1).mono ?_)
          rintro e w2 ⟨rfl, hb2⟩
          have hk2 := below_join hb1 hb2
          clear hb2 HY1
          go_wp2

          go_ret
          exact ⟨rfl, hk2⟩
end Go.Proofs.YtnhnfdfjlagcjaaDoor
