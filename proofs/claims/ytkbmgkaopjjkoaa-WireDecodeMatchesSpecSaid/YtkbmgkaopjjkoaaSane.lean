/-
  The contract of the walk over the statements' examples (sanity): true. Conditions: none.
-/
import Derived.Test.YtkbmgkaopjjkoaaUse
namespace Go.Proofs.Ytkbmgkaopjjkoaa
open Go.RowKit

def tx : List ByteArray := [⟨#[]⟩, ⟨#[97]⟩]
theorem okdz : ∀ x ∈ [dz], x.length = 16 := by intro x hx; rw [List.mem_singleton.1 hx]; rfl
theorem ok12 : ∀ x ∈ ([1, -1] : List Int), WM.okI x := by simp [WM.okI]
theorem tx_strs : strs tx = [[], [97]] := rfl
theorem lenc (l : List UInt8) (h : l.length ≤ 100) : l.length ≤ 1000000000 := by omega
set_option maxRecDepth 100000 in
set_option maxHeartbeats 1600000 in
theorem sanity_any (w : World) : Calls Try.prog 12 #[] w (TruePost w) := by
  go_enter Try.func12, Try.ntmps12
  go_wp2_with fail
  refine (use_getInt _ 3 3 _ (by rfl) (by decide) (by exact holds_new _ _ _ _ l1) g1).mono ?_
  rintro e w1 ⟨rfl, hq1⟩
  have hs1 : Below w.heap.size w w1 := below_then hq1
  clear hq1
  have hb1 := hs1
  go_wp2_with fail
  refine (use_getInt _ 1 1 _ (by rfl) (by decide) (by exact holds_new _ _ _ _ l2) g2).mono ?_
  rintro e w2 ⟨rfl, hq2⟩
  have hs2 : Below w1.heap.size w1 w2 := below_then hq2
  clear hq2
  have hb2 := below_join hb1 hs2
  go_wp2_with fail
  refine (use_getInt _ 2 2 _ (by rfl) (by decide) (by exact holds_new _ _ _ _ l3) g3).mono ?_
  rintro e w3 ⟨rfl, hq3⟩
  have hs3 : Below w2.heap.size w2 w3 := below_then hq3
  clear hq3
  have hb3 := below_join hb2 hs3
  go_wp2_with fail
  refine (use_getBytes _ 4 4 _ (by rfl) (by decide) (by decide) (by exact holds_new _ _ _ _ l4) g4).mono ?_
  rintro e w4 ⟨rfl, hq4⟩
  have hs4 : Below w3.heap.size w3 w4 := below_then hq4
  clear hq4
  have hb4 := below_join hb3 hs4
  go_wp2_with fail
  refine (use_getInts _ 3 3 _ (by rfl) (by decide) (by decide) (by exact holds_new _ _ _ _ l5) g5).mono ?_
  rintro e w5 ⟨AL, cAL, rfl, hcAL, HL, hq5⟩
  have hs5 : Below w4.heap.size w4 w5 := below_then hq5
  clear hq5
  have hb5 := below_join hb4 hs5
  go_wp2_with (first | (with_reducible refine wpList_new57 (o := ⟨none, .store 57 (.tmp 16) (.tmp 54), _, _, _, _⟩) ?g2 (.tmp 16) (.tmp 54) ?o2 _ (dz.map B8).toArray ?x2 ?y2 ?l2 ?l3 (B8_all dz) ?_) | (with_reducible refine wpList_load57 (o := ⟨some 56, _, _, _, _, _⟩) ?g3 (.tmp 16) ?o3 ⟨w5.heap.size, 0, none⟩ ?x3 (dz.map B8) ?l4 ?c3 ?_))
  case g2 => rfl
  case o2 => rfl
  case x2 => rfl
  case y2 => rfl
  case l2 => rfl
  case l3 => rfl
  case g3 => rfl
  case o3 => rfl
  case x3 => rfl
  case l4 => rfl
  case c3 => exact fun j u hu => block_cells rfl hu
  refine (BytesPost.eq e6 (use_digests _ 1 1 [dz] _ (by rfl) okdz (by rw [e6]; decide) (by decide) (by exact holds_at _ _ _ _ _ (by simp) rfl))).mono ?_
  rintro e w6 ⟨AB6, cB6, rfl, hcB6, HB6, hq6⟩
  have hs6 : Below w5.heap.size w5 w6 := below_then (below_then hq6)
  have HZ := ((holds_new w5 (dz.map B8).toArray 57 (dz.map B8) rfl).alloc _).next hq6
  clear hq6
  have hb6 := below_join hb5 hs6
  replace HL := HL.next hs6
  go_wp2_with fail
  refine (use_getDigests _ _ _ _ (by rfl) (by decide) hcB6 (by exact HB6) g7).mono ?_
  rintro e w7 ⟨AD, cAD, rfl, hcAD, HD, hq7⟩
  have hs7 : Below w6.heap.size w6 w7 := hq7
  clear hq7
  have hb7 := below_join hb6 hs7
  replace HL := HL.next hs7
  replace HZ := HZ.next hs7
  go_wp2_with fail
  refine (use_getStrings _ 5 5 _ (by rfl) (by decide) (by decide) (by exact holds_new _ _ _ _ l6) g6).mono ?_
  rintro e w8 ⟨AY, cAY, rfl, hcAY, HY, hq8⟩
  have hs8 : Below w7.heap.size w7 w8 := below_then hq8
  clear hq8
  have hb8 := below_join hb7 hs8
  replace HL := HL.next hs8
  replace HZ := HZ.next hs8
  replace HD := HD.next hs8
  go_wp2_with fail
  refine (sameTexts_any _ _ _ _ _ _ tx _ (by rfl) (by rfl) (by decide) (by exact HY.alloc _) (by exact holds_new _ _ _ _ rfl)).mono ?_
  rintro e w9 ⟨rfl, hq9⟩
  have hs9 : Below w8.heap.size w8 w9 := below_then hq9
  clear hq9
  have hb9 := below_join hb8 hs9
  replace HL := HL.next hs9
  replace HZ := HZ.next hs9
  replace HD := HD.next hs9
  replace HY := HY.next hs9
  go_wp2_with fail
  refine (BytesPost.eq e5 (use_strings _ 2 2 tx _ (by rfl) (by rw [tx_strs, e5]; decide) (by decide) (by exact holds_new _ _ _ _ rfl))).mono ?_
  rintro e w10 ⟨AB10, cB10, rfl, hcB10, HB10, hq10⟩
  have hs10 : Below w9.heap.size w9 w10 := below_then hq10
  clear hq10
  have hb10 := below_join hb9 hs10
  replace HL := HL.next hs10
  replace HZ := HZ.next hs10
  replace HD := HD.next hs10
  go_wp2_with fail
  refine (same_any _ _ _ _ _ _ [4, 0, 2, 97] _ (by rfl) (by rfl) (by exact HB10.alloc _) (by exact holds_new _ _ _ _ l7)).mono ?_
  rintro e w11 ⟨rfl, hq11⟩
  have hs11 : Below w10.heap.size w10 w11 := below_then hq11
  clear hq11
  have hb11 := below_join hb10 hs11
  replace HL := HL.next hs11
  replace HZ := HZ.next hs11
  replace HD := HD.next hs11
  go_wp2_with fail
  refine (BytesPost.eq e1 (use_int (-65) _ ⟨by decide, by decide⟩)).mono ?_
  rintro e w12 ⟨AB12, cB12, rfl, hcB12, HB12, hq12⟩
  have hs12 : Below w11.heap.size w11 w12 := hq12
  clear hq12
  have hb12 := below_join hb11 hs12
  replace HL := HL.next hs12
  replace HZ := HZ.next hs12
  replace HD := HD.next hs12
  go_wp2_with fail
  refine (same_any _ _ _ _ _ _ [129, 1] _ (by rfl) (by rfl) (by exact HB12.alloc _) (by exact holds_new _ _ _ _ l8)).mono ?_
  rintro e w13 ⟨rfl, hq13⟩
  have hs13 : Below w12.heap.size w12 w13 := below_then hq13
  clear hq13
  have hb13 := below_join hb12 hs13
  replace HL := HL.next hs13
  replace HZ := HZ.next hs13
  replace HD := HD.next hs13
  go_wp2_with fail
  refine (sameInts_any _ _ _ _ _ _ [1, -1] _ (by rfl) (by rfl) (by decide) (by exact HL.alloc _) (by exact holds_new _ _ _ _ rfl)).mono ?_
  rintro e w14 ⟨rfl, hq14⟩
  have hs14 : Below w13.heap.size w13 w14 := below_then hq14
  clear hq14
  have hb14 := below_join hb13 hs14
  replace HL := HL.next hs14
  replace HZ := HZ.next hs14
  replace HD := HD.next hs14
  go_wp2_with fail
  refine (BytesPost.eq e3 (use_bytes ⟨#[97, 98]⟩ _ (by decide))).mono ?_
  rintro e w15 ⟨AB15, cB15, rfl, hcB15, HB15, hq15⟩
  have hs15 : Below w14.heap.size w14 w15 := hq15
  clear hq15
  have hb15 := below_join hb14 hs15
  replace HZ := HZ.next hs15
  replace HD := HD.next hs15
  go_wp2_with fail
  refine (same_any _ _ _ _ _ _ [4, 97, 98] _ (by rfl) (by rfl) (by exact HB15.alloc _) (by exact holds_new _ _ _ _ l9)).mono ?_
  rintro e w16 ⟨rfl, hq16⟩
  have hs16 : Below w15.heap.size w15 w16 := below_then hq16
  clear hq16
  have hb16 := below_join hb15 hs16
  replace HZ := HZ.next hs16
  replace HD := HD.next hs16
  go_wp2_with fail
  refine (BytesPost.eq e4 (use_ints _ 2 2 [1, -1] _ (by rfl) ok12 (by rw [e4]; decide) (by decide) (by exact holds_new _ _ _ _ rfl))).mono ?_
  rintro e w17 ⟨AB17, cB17, rfl, hcB17, HB17, hq17⟩
  have hs17 : Below w16.heap.size w16 w17 := below_then hq17
  clear hq17
  have hb17 := below_join hb16 hs17
  replace HZ := HZ.next hs17
  replace HD := HD.next hs17
  go_wp2_with fail
  refine (same_any _ _ _ _ _ _ [4, 2, 1] _ (by rfl) (by rfl) (by exact HB17.alloc _) (by exact holds_new _ _ _ _ l5)).mono ?_
  rintro e w18 ⟨rfl, hq18⟩
  have hs18 : Below w17.heap.size w17 w18 := below_then hq18
  clear hq18
  have hb18 := below_join hb17 hs18
  replace HZ := HZ.next hs18
  replace HD := HD.next hs18
  go_wp2_with (with_reducible refine wpList_load57g (o := ⟨some 150, _, _, _, _, _⟩) ?g5 (.tmp 16) ?o5 ⟨w5.heap.size, 0, none⟩ ?x5 (dz.map B8) ?l5 ?c5 ?_)
  case o5 => rfl
  case x5 => rfl
  case l5 => rfl
  case c5 => exact HZ.cells
  refine (sameDigests_any _ _ _ _ _ _ [dz] _ (by rfl) (by rfl) (by decide) okdz (by exact HD.alloc _) (by exact holds_new _ _ _ _ rfl)).mono ?_
  rintro e w19 ⟨rfl, hq19⟩
  have hs19 : Below w18.heap.size w18 w19 := below_then hq19
  clear hq19
  have hb19 := below_join hb18 hs19
  go_wp2_with fail
  go_ret
  exact ⟨rfl, hb19⟩
end Go.Proofs.Ytkbmgkaopjjkoaa
