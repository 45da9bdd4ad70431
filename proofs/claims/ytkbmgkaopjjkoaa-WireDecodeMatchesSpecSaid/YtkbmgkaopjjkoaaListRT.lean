/-
  The statement WireListRoundTrip of layer 1, its walk. Conditions: the strings' lengths and number add up to at most 2^20, and so do the other arguments' (in all).
-/
import Derived.Test.YtkbmgkaopjjkoaaFew
namespace Go.Proofs.Ytkbmgkaopjjkoaa
open Go.RowKit

theorem encDigs_le {xs : List (List UInt8)} (hok : ∀ x ∈ xs, WM.okD x) (h : xs.length ≤ 1000000) : (WM.encAll (fun d => d) xs).length ≤ 10 + xs.length * 16 := by
  have h1 := lenN_le xs.length (by omega)
  have h2 := flat_le 16 (fun d => d) xs (fun x hx => by have := hok x hx; unfold WM.okD at this; omega)
  unfold WM.encAll; rw [List.length_append]; omega

set_option maxRecDepth 100000 in
set_option maxHeartbeats 3200000 in
theorem listRT_any (s : ByteArray) (a1 : Option Addr) (len1 cap1 : Nat) (l1 : List Int) (a2 : Option Addr) (len2 cap2 : Nat) (l2 : List ByteArray) (a3 : Option Addr) (len3 cap3 : Nat) (l3 : List (List UInt8)) (a4 : Option Addr) (len4 cap4 : Nat) (l4 : List UInt8) (w : World)
    (hb : s.size + len1 + len3 + len4 ≤ 4611686018427387904) (e1 : len1 = l1.length) (ok1 : ∀ z ∈ l1, WM.okI z) (H1 : Holds w a1 (l1.map (Value.int .i64))) (e2 : len2 = l2.length) (t2 : l2.length + total l2 ≤ 4611686018427387904) (H2 : Holds w a2 (l2.map Value.string))
    (e3 : len3 = l3.length) (ok3 : ∀ x ∈ l3, WM.okD x) (H3 : Holds w a3 (digCells l3)) (e4 : len4 = l4.length) (H4 : Holds w a4 (l4.map B8)) :
    Calls Try.prog 8 #[.string s, .slice a1 len1 cap1, .slice a2 len2 cap2, .slice a3 len3 cap3, .slice a4 len4 cap4] w (TruePost w) := by
  have E1 := Lib.hid e1
  have E2 := Lib.hid e2
  have E3 := Lib.hid e3
  have E4 := Lib.hid e4
  clear e1 e2 e3 e4
  by_cases hbig : 2000 < s.size + len1 + len3 + len4
  · go_enter Try.func8, Try.ntmps8
    go_wp2_with fail
    refine (sanity_any _).mono ?_
    rintro e w1 ⟨rfl, hb1⟩
    go_wp2_with fail
    go_ret
    exact ⟨rfl, hb1⟩
  · by_cases hfew : l2.length + total l2 ≤ 2000
    · have q1 : l1.length ≤ 2000 := by rw [← E1.out]; omega
      have q3 : l3.length ≤ 2000 := by rw [← E3.out]; omega
      have q4 : l4.length ≤ 2000 := by rw [← E4.out]; omega
      have qs : s.data.toList.length ≤ 2000 := by rw [bytes_size]; omega
      have m1 := encB_le (s := s.data.toList) (by omega)
      have m2 := encInts_le ok1 (by omega)
      have m3 := encDigs_le ok3 (by omega)
      have m4 := encStrings_le (xs := l2) (by omega)
      have p1 := WM.encB_pos s.data.toList
      have p2 := encAll_pos WM.encI l1
      have p3 := encAll_pos (fun d => d) l3
      have p4 := encAll_pos WM.encB (strs l2)
      have G1 := Lib.hid (WM.codeB.back s.data.toList l4 (by unfold WM.okB; omega))
      have G2 := Lib.hid (WM.codeInts.back l1 l4 ⟨ok1, by omega⟩)
      have G3 := Lib.hid (WM.codeDigests.back l3 l4 ⟨ok3, by omega⟩)
      have G4 := Lib.hid (WM.codeStrings.back (strs l2) l4 (strs_ok (by omega)))
      have O1 := Lib.hid ok1
      have O3 := Lib.hid ok3
      clear ok1 ok3
      go_enter Try.func8, Try.ntmps8
      go_wp2_with fail
      refine (few_is true a2 len2 cap2 l2 _ E2.out (by omega) H2 (by simp; omega)).mono ?_
      rintro e w' ⟨rfl, rfl⟩
      go_wp2_with fail
      refine (use_bytes s _ (by rw [← bytes_size]; omega)).mono ?_
      rintro e w1 ⟨B1, d1, rfl, hd1, K1, hs1⟩
      have hb1 := hs1
      replace H1 := H1.next hs1
      replace H2 := H2.next hs1
      replace H3 := H3.next hs1
      replace H4 := H4.next hs1
      go_wp2_with fail
      refine (use_ints a1 len1 cap1 l1 _ E1.out O1.out (by omega) (by omega) H1).mono ?_
      rintro e w2 ⟨B2, d2, rfl, hd2, K2, hs2⟩
      have hb2 := below_join hb1 hs2
      replace H1 := H1.next hs2
      replace H2 := H2.next hs2
      replace H3 := H3.next hs2
      replace H4 := H4.next hs2
      replace K1 := K1.next hs2
      go_wp2_with fail
      refine (use_digests a3 len3 cap3 l3 _ E3.out O3.out (by omega) (by omega) H3).mono ?_
      rintro e w3 ⟨B3, d3, rfl, hd3, K3, hs3⟩
      have hb3 := below_join hb2 hs3
      replace H1 := H1.next hs3
      replace H2 := H2.next hs3
      replace H3 := H3.next hs3
      replace H4 := H4.next hs3
      replace K1 := K1.next hs3
      replace K2 := K2.next hs3
      go_wp2_with fail
      refine (use_strings a2 len2 cap2 l2 _ E2.out (by omega) (by omega) H2).mono ?_
      rintro e w4 ⟨B4, d4, rfl, hd4, K4, hs4⟩
      have hb4 := below_join hb3 hs4
      replace H1 := H1.next hs4
      replace H2 := H2.next hs4
      replace H3 := H3.next hs4
      replace H4 := H4.next hs4
      replace K1 := K1.next hs4
      replace K2 := K2.next hs4
      replace K3 := K3.next hs4
      generalize hx1 : WM.encB s.data.toList = b1 at *
      clear hx1
      obtain ⟨ad1, rfl⟩ := K1.some_ p1
      generalize hx2 : WM.encAll WM.encI l1 = b2 at *
      clear hx2
      obtain ⟨ad2, rfl⟩ := K2.some_ p2
      generalize hx3 : WM.encAll (fun d => d) l3 = b3 at *
      clear hx3
      obtain ⟨ad3, rfl⟩ := K3.some_ p3
      generalize hx4 : WM.encAll WM.encB (strs l2) = b4 at *
      clear hx4
      obtain ⟨ad4, rfl⟩ := K4.some_ p4
      go_wp2_with (at_builtin; refine wpList_app rfl _ _ rfl ad1 b1.length b1 rfl ?n1 a4 len4 cap4 l4 rfl ?m1 K1 H4 ?l1 ?_)
      case n1 => rfl
      case m1 => exact E4.out
      case l1 => omega
      intro v w5 hp
      obtain ⟨C1, f1, rfl, hf1, J1, hs5⟩ := hp
      have hb5 := below_join hb4 hs5
      replace H1 := H1.next hs5
      replace H2 := H2.next hs5
      replace H3 := H3.next hs5
      replace H4 := H4.next hs5
      replace K1 := K1.next hs5
      replace K2 := K2.next hs5
      replace K3 := K3.next hs5
      replace K4 := K4.next hs5
      go_wp2_with fail
      refine (use_getBytes C1 _ f1 _ (by rw [List.length_append, ← E4.out]) (by rw [List.length_append, ← E4.out]; omega) (by rw [List.length_append, ← E4.out]; omega) J1 G1.out).mono ?_
      rw [ba_eq]
      rintro e w6 ⟨rfl, hs6⟩
      have hb6 := below_join hb5 hs6
      replace H1 := H1.next hs6
      replace H2 := H2.next hs6
      replace H3 := H3.next hs6
      replace H4 := H4.next hs6
      replace K1 := K1.next hs6
      replace K2 := K2.next hs6
      replace K3 := K3.next hs6
      replace K4 := K4.next hs6
      go_wp2_with (at_builtin; refine wpList_app rfl _ _ rfl ad2 b2.length b2 rfl ?n2 a4 len4 cap4 l4 rfl ?m2 K2 H4 ?l2 ?_)
      case n2 => rfl
      case m2 => exact E4.out
      case l2 => omega
      intro v w7 hp
      obtain ⟨C2, f2, rfl, hf2, J2, hs7⟩ := hp
      have hb7 := below_join hb6 hs7
      replace H1 := H1.next hs7
      replace H2 := H2.next hs7
      replace H3 := H3.next hs7
      replace H4 := H4.next hs7
      replace K1 := K1.next hs7
      replace K2 := K2.next hs7
      replace K3 := K3.next hs7
      replace K4 := K4.next hs7
      go_wp2_with fail
      refine (use_getInts C2 _ f2 _ (by rw [List.length_append, ← E4.out]) (by rw [List.length_append, ← E4.out]; omega) (by rw [List.length_append, ← E4.out]; omega) J2 G2.out).mono ?_
      rintro e w8 ⟨R2, g2, rfl, hg2, L2, hs8⟩
      have hb8 := below_join hb7 hs8
      replace H1 := H1.next hs8
      replace H2 := H2.next hs8
      replace H3 := H3.next hs8
      replace H4 := H4.next hs8
      replace K1 := K1.next hs8
      replace K2 := K2.next hs8
      replace K3 := K3.next hs8
      replace K4 := K4.next hs8
      go_wp2_with (at_builtin; refine wpList_app rfl _ _ rfl ad3 b3.length b3 rfl ?n3 a4 len4 cap4 l4 rfl ?m3 K3 H4 ?l3 ?_)
      case n3 => rfl
      case m3 => exact E4.out
      case l3 => omega
      intro v w9 hp
      obtain ⟨C3, f3, rfl, hf3, J3, hs9⟩ := hp
      have hb9 := below_join hb8 hs9
      replace H1 := H1.next hs9
      replace H2 := H2.next hs9
      replace H3 := H3.next hs9
      replace H4 := H4.next hs9
      replace K1 := K1.next hs9
      replace K2 := K2.next hs9
      replace K3 := K3.next hs9
      replace K4 := K4.next hs9
      replace L2 := L2.next hs9
      go_wp2_with fail
      refine (use_getDigests C3 _ f3 _ (by rw [List.length_append, ← E4.out]) (by rw [List.length_append, ← E4.out]; omega) (by rw [List.length_append, ← E4.out]; omega) J3 G3.out).mono ?_
      rintro e w10 ⟨R3, g3, rfl, hg3, L3, hs10⟩
      have hb10 := below_join hb9 hs10
      replace H1 := H1.next hs10
      replace H2 := H2.next hs10
      replace H3 := H3.next hs10
      replace H4 := H4.next hs10
      replace K1 := K1.next hs10
      replace K2 := K2.next hs10
      replace K3 := K3.next hs10
      replace K4 := K4.next hs10
      replace L2 := L2.next hs10
      go_wp2_with (at_builtin; refine wpList_app rfl _ _ rfl ad4 b4.length b4 rfl ?n4 a4 len4 cap4 l4 rfl ?m4 K4 H4 ?l4 ?_)
      case n4 => rfl
      case m4 => exact E4.out
      case l4 => omega
      intro v w11 hp
      obtain ⟨C4, f4, rfl, hf4, J4, hs11⟩ := hp
      have hb11 := below_join hb10 hs11
      replace H1 := H1.next hs11
      replace H2 := H2.next hs11
      replace H3 := H3.next hs11
      replace H4 := H4.next hs11
      replace K1 := K1.next hs11
      replace K2 := K2.next hs11
      replace K3 := K3.next hs11
      replace K4 := K4.next hs11
      replace L2 := L2.next hs11
      replace L3 := L3.next hs11
      go_wp2_with fail
      refine (use_getStrings C4 _ f4 _ (by rw [List.length_append, ← E4.out]) (by rw [List.length_append, ← E4.out]; omega) (by rw [List.length_append, ← E4.out]; omega) J4 G4.out).mono ?_
      rintro e w12 ⟨R4, g4, rfl, hg4, L4, hs12⟩
      have hb12 := below_join hb11 hs12
      replace H1 := H1.next hs12
      replace H2 := H2.next hs12
      replace H3 := H3.next hs12
      replace H4 := H4.next hs12
      replace K1 := K1.next hs12
      replace K2 := K2.next hs12
      replace K3 := K3.next hs12
      replace K4 := K4.next hs12
      replace L2 := L2.next hs12
      replace L3 := L3.next hs12
      rw [strs_strV] at L4
      go_wp2_with fail
      refine (sanity_any _).mono ?_
      rintro e w13 ⟨rfl, hs13⟩
      have hb13 := below_join hb12 hs13
      replace H1 := H1.next hs13
      replace H2 := H2.next hs13
      replace H3 := H3.next hs13
      replace H4 := H4.next hs13
      replace K1 := K1.next hs13
      replace K2 := K2.next hs13
      replace K3 := K3.next hs13
      replace K4 := K4.next hs13
      replace L2 := L2.next hs13
      replace L3 := L3.next hs13
      replace L4 := L4.next hs13
      go_wp2_with fail
      refine (sameTexts_any _ _ _ _ _ _ l2 _ (by rw [strs_length]) E2.out (by omega) L4 H2).mono ?_
      rintro e w14 ⟨rfl, hs14⟩
      have hb14 := below_join hb13 hs14
      replace H1 := H1.next hs14
      replace H2 := H2.next hs14
      replace H3 := H3.next hs14
      replace H4 := H4.next hs14
      replace K1 := K1.next hs14
      replace K2 := K2.next hs14
      replace K3 := K3.next hs14
      replace K4 := K4.next hs14
      replace L2 := L2.next hs14
      replace L3 := L3.next hs14
      replace L4 := L4.next hs14
      go_wp2_with fail
      refine (sameInts_any _ _ _ _ _ _ l1 _ (by rfl) E1.out (by omega) L2 H1).mono ?_
      rintro e w15 ⟨rfl, hs15⟩
      have hb15 := below_join hb14 hs15
      replace H1 := H1.next hs15
      replace H2 := H2.next hs15
      replace H3 := H3.next hs15
      replace H4 := H4.next hs15
      replace K1 := K1.next hs15
      replace K2 := K2.next hs15
      replace K3 := K3.next hs15
      replace K4 := K4.next hs15
      replace L2 := L2.next hs15
      replace L3 := L3.next hs15
      replace L4 := L4.next hs15
      go_wp2_with fail
      refine (sameDigests_any _ _ _ _ _ _ l3 _ (by rfl) E3.out (by omega) O3.out L3 H3).mono ?_
      rintro e w16 ⟨rfl, hs16⟩
      have hb16 := below_join hb15 hs16
      replace H1 := H1.next hs16
      replace H2 := H2.next hs16
      replace H3 := H3.next hs16
      replace H4 := H4.next hs16
      replace K1 := K1.next hs16
      replace K2 := K2.next hs16
      replace K3 := K3.next hs16
      replace K4 := K4.next hs16
      replace L2 := L2.next hs16
      replace L3 := L3.next hs16
      replace L4 := L4.next hs16
      go_wp2_with fail
      go_ret
      exact ⟨by simp, hb16⟩
    · go_enter Try.func8, Try.ntmps8
      go_wp2_with fail
      refine (few_is false a2 len2 cap2 l2 _ E2.out (by omega) H2 (by simp; omega)).mono ?_
      rintro e w' ⟨rfl, rfl⟩
      go_wp2_with fail
      refine (sanity_any _).mono ?_
      rintro e w1 ⟨rfl, hb1⟩
      go_wp2_with fail
      go_ret
      exact ⟨rfl, hb1⟩
end Go.Proofs.Ytkbmgkaopjjkoaa
