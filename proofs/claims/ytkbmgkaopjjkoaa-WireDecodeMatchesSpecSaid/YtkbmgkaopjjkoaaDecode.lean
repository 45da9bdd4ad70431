/-
  The statement WireDecodeMatchesSpec of layer 1, its walk. Conditions: none.
-/
import Derived.Test.YtkbmgkaopjjkoaaCanon
import Derived.Test.YtkbmgkaopjjkoaaRefLists
import Derived.Test.YtkbmgkaopjjkoaaRefDig
namespace Go.Proofs.Ytkbmgkaopjjkoaa
open Go.RowKit

section
variable (A : Option Addr) (m cap : Nat) (w : World) {l : List UInt8} (hm : m = l.length) (hl : l.length ≤ 1000000000) (hcap : l.length ≤ cap) (hh : Holds w A (l.map B8))
include hm hl hh
theorem use_refInt {n : Int} {u : Nat} {x : Int} (h : WM.getI l = (n, u, x)) : Calls Try.prog 25 #[.slice A m cap] w (ValPost (.tuple #[.int .i64 n, .int .i64 (u : Int), .int .i64 x]) w) :=
  (refInt_n h A m cap w hm hl hh).mono fun _ _ h => .of h
include hcap
theorem use_refBytes {s : List UInt8} {u : Nat} {x : Int} (h : WM.getB l = (s, u, x)) : Calls Try.prog 27 #[.slice A m cap] w (ValPost (.tuple #[.string ⟨s.toArray⟩, .int .i64 (u : Int), .int .i64 x]) w) :=
  (refBytes_n h A m cap w hm hl (by omega) hh).mono fun _ _ h => .of h
theorem use_refInts {xs : List Int} {u : Nat} {x : Int} (h : WM.getAll WM.getI 1 l = (xs, u, x)) : Calls Try.prog 29 #[.slice A m cap] w (ListPost xs.length (xs.map (Value.int .i64)) u x w) := by
  subst hm
  refine (refGetInts_any A cap l w hl hcap hh).mono fun e w' hp => ?_
  rw [h] at hp
  obtain ⟨v, rfl, hown, hb⟩ := hp
  obtain ⟨A, c, rfl, hc, hh⟩ := holds_own hown
  exact ⟨A, c, rfl, hc, hh, hb⟩
theorem use_refStrings {xs : List (List UInt8)} {u : Nat} {x : Int} (h : WM.getAll WM.getB 1 l = (xs, u, x)) : Calls Try.prog 32 #[.slice A m cap] w (ListPost xs.length (xs.map strV) u x w) := by
  subst hm
  refine (refGetStrings_any A cap l w hl hcap hh).mono fun e w' hp => ?_
  rw [h] at hp
  obtain ⟨v, rfl, hown, hb⟩ := hp
  obtain ⟨A, c, rfl, hc, hh⟩ := holds_own hown
  exact ⟨A, c, rfl, hc, hh, hb⟩
theorem use_refDigests {xs : List (List UInt8)} {u : Nat} {x : Int} (h : WM.getAll WM.getD 16 l = (xs, u, x)) : Calls Try.prog 35 #[.slice A m cap] w (ListPost xs.length (digCells xs) u x w) := by
  subst hm
  refine (refGetDigests_any A cap l w hl hcap hh).mono fun e w' hp => ?_
  rw [h] at hp
  obtain ⟨v, rfl, hown, hb⟩ := hp
  obtain ⟨A, c, rfl, hc, hh⟩ := holds_own hown
  exact ⟨A, c, rfl, hc, hh, hb⟩
end

set_option maxRecDepth 100000 in
set_option maxHeartbeats 1600000 in
theorem decode_any (A : Option Addr) (m cap : Nat) (l : List UInt8) (w : World) (hm : m = l.length) (hmc : m ≤ cap) (hml : m ≤ 9223372036854775807) (hA : Holds w A (l.map B8)) :
    Calls Try.prog 4 #[.slice A m cap] w (TruePost w) := by
  have HM := Lib.hid hm
  clear hm
  by_cases hbig : 2000 < m
  · go_enter Try.func4, Try.ntmps4
    go_wp2_with fail
    refine (sanity_any _).mono ?_
    rintro e w1 ⟨rfl, hb1⟩
    go_wp2_with fail
    go_ret
    exact ⟨rfl, hb1⟩
  · have hl2 : l.length ≤ 2000 := by rw [← HM.out]; omega
    obtain ⟨n1, i1, e1, g1⟩ : ∃ n i e, WM.getI l = (n, i, e) := ⟨_, _, _, rfl⟩
    obtain ⟨n2, i2, e2, g2⟩ : ∃ n i e, WM.getB l = (n, i, e) := ⟨_, _, _, rfl⟩
    obtain ⟨n3, i3, e3, g3⟩ : ∃ n i e, WM.getAll WM.getI 1 l = (n, i, e) := ⟨_, _, _, rfl⟩
    obtain ⟨n4, i4, e4, g4⟩ : ∃ n i e, WM.getAll WM.getB 1 l = (n, i, e) := ⟨_, _, _, rfl⟩
    obtain ⟨n5, i5, e5, g5⟩ : ∃ n i e, WM.getAll WM.getD 16 l = (n, i, e) := ⟨_, _, _, rfl⟩
    obtain ⟨⟨ok3, k3⟩, _, _⟩ := code_facts WM.codeInts ⟨by simp, by simp⟩ (by omega) g3
    obtain ⟨⟨_, k4⟩, _, _⟩ := code_facts WM.codeStrings ⟨by simp, by simp⟩ (by omega) g4
    obtain ⟨⟨ok5, k5⟩, _, _⟩ := code_facts WM.codeDigests ⟨by simp, by simp⟩ (by omega) g5
    have G1 := Lib.hid g1
    have G2 := Lib.hid g2
    have G3 := Lib.hid g3
    have G4 := Lib.hid g4
    have G5 := Lib.hid g5
    have O5 := Lib.hid ok5
    clear g1 g2 g3 g4 g5 ok3 ok5
    have q1 : (n1 != n1) = false := by simp
    go_enter Try.func4, Try.ntmps4
    go_wp2_with fail
    refine (use_getInt A m cap _ HM.out (by omega) hA G1.out).mono ?_
    rintro e w1 ⟨rfl, hs1⟩
    have hb1 : Below w.heap.size w w1 := hs1
    replace hA := hA.next hs1
    go_wp2_with fail
    refine (use_refInt A m cap _ HM.out (by omega) hA G1.out).mono ?_
    rintro e w2 ⟨rfl, hs2⟩
    have hb2 : Below w.heap.size w w2 := below_join hb1 hs2
    replace hA := hA.next hs2
    go_wp2_with fail
    refine (use_getBytes A m cap _ HM.out (by omega) (by rw [← HM.out]; exact hmc) hA G2.out).mono ?_
    rintro e w3 ⟨rfl, hs3⟩
    have hb3 : Below w.heap.size w w3 := below_join hb2 hs3
    replace hA := hA.next hs3
    go_wp2_with fail
    refine (use_refBytes A m cap _ HM.out (by omega) (by rw [← HM.out]; exact hmc) hA G2.out).mono ?_
    rintro e w4 ⟨rfl, hs4⟩
    have hb4 : Below w.heap.size w w4 := below_join hb3 hs4
    replace hA := hA.next hs4
    go_wp2_with fail
    refine (use_getInts A m cap _ HM.out (by omega) (by rw [← HM.out]; exact hmc) hA G3.out).mono ?_
    rintro e w5 ⟨A3, cA3, rfl, hcA3, H3, hs5⟩
    have hb5 : Below w.heap.size w w5 := below_join hb4 hs5
    replace hA := hA.next hs5
    go_wp2_with fail
    refine (use_refInts A m cap _ HM.out (by omega) (by rw [← HM.out]; exact hmc) hA G3.out).mono ?_
    rintro e w6 ⟨B3, cB3, rfl, hcB3, K3, hs6⟩
    have hb6 : Below w.heap.size w w6 := below_join hb5 hs6
    replace hA := hA.next hs6
    replace H3 := H3.next hs6
    go_wp2_with fail
    refine (sameInts_any A3 B3 _ _ cA3 cB3 n3 _ (by rfl) (by rfl) (by omega) H3 K3).mono ?_
    rintro e w7 ⟨rfl, hs7⟩
    have hb7 : Below w.heap.size w w7 := below_join hb6 hs7
    replace hA := hA.next hs7
    go_wp2_with fail
    refine (use_getStrings A m cap _ HM.out (by omega) (by rw [← HM.out]; exact hmc) hA G4.out).mono ?_
    rintro e w8 ⟨A4, cA4, rfl, hcA4, H4, hs8⟩
    have hb8 : Below w.heap.size w w8 := below_join hb7 hs8
    replace hA := hA.next hs8
    go_wp2_with fail
    refine (use_refStrings A m cap _ HM.out (by omega) (by rw [← HM.out]; exact hmc) hA G4.out).mono ?_
    rintro e w9 ⟨B4, cB4, rfl, hcB4, K4, hs9⟩
    have hb9 : Below w.heap.size w w9 := below_join hb8 hs9
    replace hA := hA.next hs9
    replace H4 := H4.next hs9
    go_wp2_with fail
    refine (sameTexts_any A4 B4 _ _ cA4 cB4 (n4.map fun s => (⟨s.toArray⟩ : ByteArray)) _ (by rw [List.length_map]) (by rw [List.length_map]) (by rw [List.length_map]; omega) (by rw [strV_toList]; exact H4) (by rw [strV_toList]; exact K4)).mono ?_
    rintro e w10 ⟨rfl, hs10⟩
    have hb10 : Below w.heap.size w w10 := below_join hb9 hs10
    replace hA := hA.next hs10
    go_wp2_with fail
    refine (use_getDigests A m cap _ HM.out (by omega) (by rw [← HM.out]; exact hmc) hA G5.out).mono ?_
    rintro e w11 ⟨A5, cA5, rfl, hcA5, H5, hs11⟩
    have hb11 : Below w.heap.size w w11 := below_join hb10 hs11
    replace hA := hA.next hs11
    go_wp2_with fail
    refine (use_refDigests A m cap _ HM.out (by omega) (by rw [← HM.out]; exact hmc) hA G5.out).mono ?_
    rintro e w12 ⟨B5, cB5, rfl, hcB5, K5, hs12⟩
    have hb12 : Below w.heap.size w w12 := below_join hb11 hs12
    replace hA := hA.next hs12
    replace H5 := H5.next hs12
    go_wp2_with fail
    refine (sanity_any _).mono ?_
    rintro e w13 ⟨rfl, hs13⟩
    have hb13 : Below w.heap.size w w13 := below_join hb12 hs13
    replace hA := hA.next hs13
    replace H5 := H5.next hs13
    replace K5 := K5.next hs13
    go_wp2_with fail
    refine (sameDigests_any A5 B5 _ _ cA5 cB5 n5 _ (by rfl) (by rfl) (by omega) O5.out H5 K5).mono ?_
    rintro e w14 ⟨rfl, hs14⟩
    have hb14 : Below w.heap.size w w14 := below_join hb13 hs14
    replace hA := hA.next hs14
    go_wp2_with fail
    go_ret
    exact ⟨rfl, hb14⟩
end Go.Proofs.Ytkbmgkaopjjkoaa
