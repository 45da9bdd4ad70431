/-
  The statement WireEncodeMatchesSpec of layer 1, its walk. Conditions: lengths below 2^60.
-/
import Derived.Test.YtkbmgkaopjjkoaaRefPut
namespace Go.Proofs.Ytkbmgkaopjjkoaa
open Go.RowKit

set_option maxRecDepth 100000 in
set_option maxHeartbeats 3200000 in
theorem encode_any (n : Int) (s : ByteArray) (a2 : Option Addr) (len2 cap2 : Nat) (l2 : List Int) (a3 : Option Addr) (len3 cap3 : Nat) (l3 : List ByteArray) (a4 : Option Addr) (len4 cap4 : Nat) (l4 : List (List UInt8)) (w : World) (hn : WM.okI n)
    (hb : s.size + len2 + len4 ≤ 4611686018427387904) (e2 : len2 = l2.length) (ok2 : ∀ z ∈ l2, WM.okI z) (H2 : Holds w a2 (l2.map (Value.int .i64))) (e3 : len3 = l3.length) (t3 : l3.length + total l3 ≤ 4611686018427387904) (H3 : Holds w a3 (l3.map Value.string))
    (e4 : len4 = l4.length) (ok4 : ∀ x ∈ l4, WM.okD x) (H4 : Holds w a4 (digCells l4)) :
    Calls Try.prog 3 #[.int .i64 n, .string s, .slice a2 len2 cap2, .slice a3 len3 cap3, .slice a4 len4 cap4] w (TruePost w) := by
  subst e2 e3 e4
  by_cases hbig : 2000 < s.size + l2.length + l4.length
  · go_enter Try.func3, Try.ntmps3
    go_wp2_with fail
    refine (sanity_any _).mono ?_
    rintro e w1 ⟨rfl, hb1⟩
    go_wp2_with fail
    go_ret
    exact ⟨rfl, hb1⟩
  · by_cases hfew : l3.length + total l3 ≤ 2000
    · have qs : s.data.toList.length ≤ 2000 := by rw [bytes_size]; omega
      have m0 := WM.encI_le hn
      have m1 := encB_le (s := s.data.toList) (by omega)
      have m2 := encInts_le ok2 (by omega)
      have m3 := encStrings_le (xs := l3) (by omega)
      have m4 := encDigs_le ok4 (by omega)
      have O2 := Lib.hid ok2
      have O4 := Lib.hid ok4
      clear ok2 ok4
      go_enter Try.func3, Try.ntmps3
      go_wp2_with fail
      refine (few_is true a3 l3.length cap3 l3 _ rfl (by omega) H3 (by simp; omega)).mono ?_
      rintro e w' ⟨rfl, rfl⟩
      go_wp2_with fail
      refine (sanity_any _).mono ?_
      rintro e w0 ⟨rfl, hs0⟩
      have hb0 := hs0
      replace H2 := H2.next hs0
      replace H3 := H3.next hs0
      replace H4 := H4.next hs0
      go_wp2_with fail
      refine (use_int n _ hn).mono ?_
      rintro e w1 ⟨B1, d1, rfl, hd1, K1, hs1⟩
      have hb1 := below_join hb0 hs1
      replace H2 := H2.next hs1
      replace H3 := H3.next hs1
      replace H4 := H4.next hs1
      go_wp2_with fail
      refine ((refInt_any n _ hn.1 hn.2).mono fun _ _ h => BytesPost.of h).mono ?_
      rintro e w2 ⟨B2, d2, rfl, hd2, K2, hs2⟩
      have hb2 := below_join hb1 hs2
      replace H2 := H2.next hs2
      replace H3 := H3.next hs2
      replace H4 := H4.next hs2
      replace K1 := K1.next hs2
      go_wp2_with fail
      refine (same_any B1 B2 _ _ d1 d2 (WM.encI n) _ (by rfl) (by rfl) K1 K2).mono ?_
      rintro e w3 ⟨rfl, hs3⟩
      have hb3 := below_join hb2 hs3
      replace H2 := H2.next hs3
      replace H3 := H3.next hs3
      replace H4 := H4.next hs3
      go_wp2_with fail
      refine (use_bytes s _ (by rw [← bytes_size]; omega)).mono ?_
      rintro e w4 ⟨B4, d4, rfl, hd4, K4, hs4⟩
      have hb4 := below_join hb3 hs4
      replace H2 := H2.next hs4
      replace H3 := H3.next hs4
      replace H4 := H4.next hs4
      go_wp2_with fail
      refine ((refBytes_any s _ (by rw [← bytes_size]; omega)).mono fun _ _ h => BytesPost.of h).mono ?_
      rintro e w5 ⟨B5, d5, rfl, hd5, K5, hs5⟩
      have hb5 := below_join hb4 hs5
      replace H2 := H2.next hs5
      replace H3 := H3.next hs5
      replace H4 := H4.next hs5
      replace K4 := K4.next hs5
      go_wp2_with fail
      refine (same_any B4 B5 _ _ d4 d5 (WM.encB s.data.toList) _ (by rfl) (by rfl) K4 K5).mono ?_
      rintro e w6 ⟨rfl, hs6⟩
      have hb6 := below_join hb5 hs6
      replace H2 := H2.next hs6
      replace H3 := H3.next hs6
      replace H4 := H4.next hs6
      go_wp2_with fail
      refine (use_ints a2 _ cap2 l2 _ rfl O2.out (by omega) (by omega) H2).mono ?_
      rintro e w7 ⟨B7, d7, rfl, hd7, K7, hs7⟩
      have hb7 := below_join hb6 hs7
      replace H2 := H2.next hs7
      replace H3 := H3.next hs7
      replace H4 := H4.next hs7
      go_wp2_with fail
      refine ((refInts_any a2 cap2 l2 _ O2.out (by omega) (by omega) H2).mono fun _ _ h => BytesPost.of h).mono ?_
      rintro e w8 ⟨B8, d8, rfl, hd8, K8, hs8⟩
      have hb8 := below_join hb7 hs8
      replace H2 := H2.next hs8
      replace H3 := H3.next hs8
      replace H4 := H4.next hs8
      replace K7 := K7.next hs8
      go_wp2_with fail
      refine (same_any B7 B8 _ _ d7 d8 (WM.encAll WM.encI l2) _ (by rfl) (by rfl) K7 K8).mono ?_
      rintro e w9 ⟨rfl, hs9⟩
      have hb9 := below_join hb8 hs9
      replace H2 := H2.next hs9
      replace H3 := H3.next hs9
      replace H4 := H4.next hs9
      go_wp2_with fail
      refine (use_strings a3 _ cap3 l3 _ rfl (by omega) (by omega) H3).mono ?_
      rintro e w10 ⟨B10, d10, rfl, hd10, K10, hs10⟩
      have hb10 := below_join hb9 hs10
      replace H2 := H2.next hs10
      replace H3 := H3.next hs10
      replace H4 := H4.next hs10
      go_wp2_with fail
      refine ((refStrings_any a3 cap3 l3 _ (by omega) (by omega) H3).mono fun _ _ h => BytesPost.of h).mono ?_
      rintro e w11 ⟨B11, d11, rfl, hd11, K11, hs11⟩
      have hb11 := below_join hb10 hs11
      replace H2 := H2.next hs11
      replace H3 := H3.next hs11
      replace H4 := H4.next hs11
      replace K10 := K10.next hs11
      go_wp2_with fail
      refine (same_any B10 B11 _ _ d10 d11 (WM.encAll WM.encB (strs l3)) _ (by rfl) (by rfl) K10 K11).mono ?_
      rintro e w12 ⟨rfl, hs12⟩
      have hb12 := below_join hb11 hs12
      replace H2 := H2.next hs12
      replace H3 := H3.next hs12
      replace H4 := H4.next hs12
      go_wp2_with fail
      refine (use_digests a4 _ cap4 l4 _ rfl O4.out (by omega) (by omega) H4).mono ?_
      rintro e w13 ⟨B13, d13, rfl, hd13, K13, hs13⟩
      have hb13 := below_join hb12 hs13
      replace H2 := H2.next hs13
      replace H3 := H3.next hs13
      replace H4 := H4.next hs13
      go_wp2_with fail
      refine ((refDigests_any a4 cap4 l4 _ O4.out (by omega) (by omega) H4).mono fun _ _ h => BytesPost.of h).mono ?_
      rintro e w14 ⟨B14, d14, rfl, hd14, K14, hs14⟩
      have hb14 := below_join hb13 hs14
      replace H2 := H2.next hs14
      replace H3 := H3.next hs14
      replace H4 := H4.next hs14
      replace K13 := K13.next hs14
      go_wp2_with fail
      refine (same_any B13 B14 _ _ d13 d14 (WM.encAll (fun d => d) l4) _ (by rfl) (by rfl) K13 K14).mono ?_
      rintro e w15 ⟨rfl, hs15⟩
      have hb15 := below_join hb14 hs15
      replace H2 := H2.next hs15
      replace H3 := H3.next hs15
      replace H4 := H4.next hs15
      go_wp2_with fail
      go_ret
      exact ⟨rfl, hb15⟩
    · go_enter Try.func3, Try.ntmps3
      go_wp2_with fail
      refine (few_is false a3 l3.length cap3 l3 _ rfl (by omega) H3 (by simp; omega)).mono ?_
      rintro e w' ⟨rfl, rfl⟩
      go_wp2_with fail
      refine (sanity_any _).mono ?_
      rintro e w1 ⟨rfl, hb1⟩
      go_wp2_with fail
      go_ret
      exact ⟨rfl, hb1⟩
end Go.Proofs.Ytkbmgkaopjjkoaa
