/-
  The statement WireTruncated of layer 1, its walk. Conditions: lengths below 2^60.
-/
import Derived.Test.YtkbmgkaopjjkoaaListRT
namespace Go.Proofs.Ytkbmgkaopjjkoaa
open Go.RowKit

theorem Holds.pre {w : World} {A : Option Addr} {l : List UInt8} (h : Holds w A (l.map B8)) (k : Nat) : Holds w A ((l.take k).map B8) := fun j u hu => by
  rw [List.map_take, List.getElem?_take] at hu
  split at hu
  · exact h j u hu
  · cases hu
def OutRel (W : World) (i : Value) (wr : World) : Prop := (i = .int .i64 0 ∨ i = .int .i64 1 ∨ i = .int .i64 2 ∨ i = .int .i64 3 ∨ i = .int .i64 4 ∨ i = .int .i64 5) ∧ Below W.heap.size W wr
def InRel (q : Nat) (W : World) (i : Value) (wr : World) : Prop := ∃ k : Nat, k ≤ q ∧ i = .int .i64 k ∧ Below W.heap.size W wr

set_option maxRecDepth 100000 in
set_option maxHeartbeats 6400000 in
theorem trunc_any (n : Int) (s : ByteArray) (a2 : Option Addr) (len2 cap2 : Nat) (l2 : List Int) (a3 : Option Addr) (len3 cap3 : Nat) (l3 : List ByteArray) (a4 : Option Addr) (len4 cap4 : Nat) (l4 : List (List UInt8)) (w : World) (hn : WM.okI n)
    (hb : s.size + 10 * len2 + 16 * len4 ≤ 4611686018427387904) (e2 : len2 = l2.length) (ok2 : ∀ z ∈ l2, WM.okI z) (H2 : Holds w a2 (l2.map (Value.int .i64))) (e3 : len3 = l3.length) (h3 : len3 ≤ 4611686018427387904) (t3 : len3 ≤ 40 → l3.length + total l3 ≤ 4611686018427387904) (H3 : Holds w a3 (l3.map Value.string))
    (e4 : len4 = l4.length) (ok4 : ∀ x ∈ l4, WM.okD x) (H4 : Holds w a4 (digCells l4)) :
    Calls Try.prog 9 #[.int .i64 n, .string s, .slice a2 len2 cap2, .slice a3 len3 cap3, .slice a4 len4 cap4] w (TruePost w) := by
  have E2 := Lib.hid e2
  have E3 := Lib.hid e3
  have E4 := Lib.hid e4
  clear e2 e3 e4
  by_cases hbig : 400 < s.size + 10 * len2 + 16 * len4
  · clear t3
    go_enter Try.func9, Try.ntmps9
    go_wp2_with fail
    refine (sanity_any _).mono ?_
    rintro e w1 ⟨rfl, hb1⟩
    go_wp2_with fail
    go_ret
    exact ⟨rfl, hb1⟩
  · by_cases h40 : 40 < len3
    · clear t3
      go_enter Try.func9, Try.ntmps9
      go_wp2_with fail
      refine (sanity_any _).mono ?_
      rintro e w1 ⟨rfl, hb1⟩
      go_wp2_with fail
      go_ret
      exact ⟨rfl, hb1⟩
    · have t3' := t3 (by omega)
      clear t3
      by_cases hfew : l3.length + total l3 ≤ 2000
      · have q2 : l2.length ≤ 40 := by rw [← E2.out]; omega
        have q4 : l4.length ≤ 25 := by rw [← E4.out]; omega
        have q3 : l3.length ≤ 40 := by rw [← E3.out]; omega
        have qs : s.data.toList.length ≤ 400 := by rw [bytes_size]; omega
        have m0 := WM.encI_le hn
        have m1 := encB_le (s := s.data.toList) (by omega)
        have m2 := encInts_le ok2 (by omega)
        have m3 := encStrings_le (xs := l3) (by omega)
        have m4 := encDigs_le ok4 (by omega)
        have T0 := Lib.hid (fun j hj => WM.codeI.short n j hn hj)
        have T1 := Lib.hid (fun j hj => WM.codeB.short s.data.toList j (by unfold WM.okB; omega) hj)
        have T2 := Lib.hid (fun j hj => WM.codeInts.short l2 j ⟨ok2, by omega⟩ hj)
        have T3 := Lib.hid (fun j hj => WM.codeStrings.short (strs l3) j (strs_ok (by omega)) hj)
        have T4 := Lib.hid (fun j hj => WM.codeDigests.short l4 j ⟨ok4, by omega⟩ hj)
        have O2 := Lib.hid ok2
        have O4 := Lib.hid ok4
        clear ok2 ok4
        go_enter Try.func9, Try.ntmps9
        go_wp2_with fail
        refine (few_is true a3 len3 cap3 l3 _ E3.out (by omega) H3 (by simp; omega)).mono ?_
        rintro e w' ⟨rfl, rfl⟩
        go_wp2_with fail
        refine (use_int n _ hn).mono ?_
        rintro e w1 ⟨B0, d0, rfl, hd0, K0, hs1⟩
        have hb1 := hs1
        replace H2 := H2.next hs1
        replace H3 := H3.next hs1
        replace H4 := H4.next hs1
        go_wp2_with fail
        refine (use_bytes s _ (by rw [← bytes_size]; omega)).mono ?_
        rintro e w2 ⟨B1, d1, rfl, hd1, K1, hs2⟩
        have hb2 := below_join hb1 hs2
        replace H2 := H2.next hs2
        replace H3 := H3.next hs2
        replace H4 := H4.next hs2
        replace K0 := K0.next hs2
        go_wp2_with fail
        refine (use_ints a2 len2 cap2 l2 _ E2.out O2.out (by omega) (by omega) H2).mono ?_
        rintro e w3 ⟨B2, d2, rfl, hd2, K2, hs3⟩
        have hb3 := below_join hb2 hs3
        replace H2 := H2.next hs3
        replace H3 := H3.next hs3
        replace H4 := H4.next hs3
        replace K0 := K0.next hs3
        replace K1 := K1.next hs3
        go_wp2_with fail
        refine (use_strings a3 len3 cap3 l3 _ E3.out (by omega) (by omega) H3).mono ?_
        rintro e w4 ⟨B3, d3, rfl, hd3, K3, hs4⟩
        have hb4 := below_join hb3 hs4
        replace H2 := H2.next hs4
        replace H3 := H3.next hs4
        replace H4 := H4.next hs4
        replace K0 := K0.next hs4
        replace K1 := K1.next hs4
        replace K2 := K2.next hs4
        go_wp2_with fail
        refine (use_digests a4 len4 cap4 l4 _ E4.out O4.out (by omega) (by omega) H4).mono ?_
        rintro e w5 ⟨B4, d4, rfl, hd4, K4, hs5⟩
        have hb5 := below_join hb4 hs5
        replace H2 := H2.next hs5
        replace H3 := H3.next hs5
        replace H4 := H4.next hs5
        replace K0 := K0.next hs5
        replace K1 := K1.next hs5
        replace K2 := K2.next hs5
        replace K3 := K3.next hs5
        generalize hx0 : WM.encI n = b0 at *
        clear hx0
        generalize hx1 : WM.encB s.data.toList = b1 at *
        clear hx1
        generalize hx2 : WM.encAll WM.encI l2 = b2 at *
        clear hx2
        generalize hx3 : WM.encAll WM.encB (strs l3) = b3 at *
        clear hx3
        generalize hx4 : WM.encAll (fun d => d) l4 = b4 at *
        clear hx4
        replace K0 := K0.alloc (.cells #[.slice B0 b0.length d0, .slice B1 b1.length d1, .slice B2 b2.length d2, .slice B3 b3.length d3, .slice B4 b4.length d4] 28)
        have c0 : (w5.alloc (.cells #[.slice B0 b0.length d0, .slice B1 b1.length d1, .slice B2 b2.length d2, .slice B3 b3.length d3, .slice B4 b4.length d4] 28)).cell? ⟨w5.heap.size, 0, none⟩ = some (.slice B0 b0.length d0) := by rw [World.cell?_alloc_at _ _ _ _ rfl]; rfl
        replace K1 := K1.alloc (.cells #[.slice B0 b0.length d0, .slice B1 b1.length d1, .slice B2 b2.length d2, .slice B3 b3.length d3, .slice B4 b4.length d4] 28)
        have c1 : (w5.alloc (.cells #[.slice B0 b0.length d0, .slice B1 b1.length d1, .slice B2 b2.length d2, .slice B3 b3.length d3, .slice B4 b4.length d4] 28)).cell? ⟨w5.heap.size, 1, none⟩ = some (.slice B1 b1.length d1) := by rw [World.cell?_alloc_at _ _ _ _ rfl]; rfl
        replace K2 := K2.alloc (.cells #[.slice B0 b0.length d0, .slice B1 b1.length d1, .slice B2 b2.length d2, .slice B3 b3.length d3, .slice B4 b4.length d4] 28)
        have c2 : (w5.alloc (.cells #[.slice B0 b0.length d0, .slice B1 b1.length d1, .slice B2 b2.length d2, .slice B3 b3.length d3, .slice B4 b4.length d4] 28)).cell? ⟨w5.heap.size, 2, none⟩ = some (.slice B2 b2.length d2) := by rw [World.cell?_alloc_at _ _ _ _ rfl]; rfl
        replace K3 := K3.alloc (.cells #[.slice B0 b0.length d0, .slice B1 b1.length d1, .slice B2 b2.length d2, .slice B3 b3.length d3, .slice B4 b4.length d4] 28)
        have c3 : (w5.alloc (.cells #[.slice B0 b0.length d0, .slice B1 b1.length d1, .slice B2 b2.length d2, .slice B3 b3.length d3, .slice B4 b4.length d4] 28)).cell? ⟨w5.heap.size, 3, none⟩ = some (.slice B3 b3.length d3) := by rw [World.cell?_alloc_at _ _ _ _ rfl]; rfl
        replace K4 := K4.alloc (.cells #[.slice B0 b0.length d0, .slice B1 b1.length d1, .slice B2 b2.length d2, .slice B3 b3.length d3, .slice B4 b4.length d4] 28)
        have c4 : (w5.alloc (.cells #[.slice B0 b0.length d0, .slice B1 b1.length d1, .slice B2 b2.length d2, .slice B3 b3.length d3, .slice B4 b4.length d4] 28)).cell? ⟨w5.heap.size, 4, none⟩ = some (.slice B4 b4.length d4) := by rw [World.cell?_alloc_at _ _ _ _ rfl]; rfl
        have hb6 : Below w.heap.size w (w5.alloc (.cells #[.slice B0 b0.length d0, .slice B1 b1.length d1, .slice B2 b2.length d2, .slice B3 b3.length d3, .slice B4 b4.length d4] 28)) := hb5.alloc hb5.size _
        go_wp2_with fail
        generalize hW : w5.alloc (.cells #[.slice B0 b0.length d0, .slice B1 b1.length d1, .slice B2 b2.length d2, .slice B3 b3.length d3, .slice B4 b4.length d4] 28) = W at *
        clear hW
        go_loopw [49] (OutRel W) (fun i _ => 5 - (intOf i).toNat)
        case atStart => exact ⟨.inl rfl, Below.refl _ _⟩
        case round =>
          obtain ⟨hk6, hbk⟩ := hrel
          obtain ⟨wo, rfl⟩ : ∃ wo : World, wo = wr := ⟨_, rfl⟩
          rcases hk6 with rfl | rfl | rfl | rfl | rfl | rfl
          · have hck := Keeps.of hbk _ _ c0
            go_wp2_with fail
            go_loopw [57] (InRel b0.length W) (fun i _ => b0.length - (intOf i).toNat)
            case atStart => exact ⟨0, by omega, rfl, hbk⟩
            case round =>
              obtain ⟨i, hi, rfl, hbi⟩ := hrel
              by_cases hlt : i < b0.length
              · have hKi := (K0.next hbi).pre i
                have hT := Lib.hid (T0.out i (by omega))
                have hid : i ≤ d0 := by omega
                go_wp2_with fail
                refine (use_getInt B0 i d0 _ (by rw [List.length_take]; omega) (by rw [List.length_take]; omega) hKi hT.out).mono ?_
                rintro e w7 ⟨rfl, hs7⟩
                go_wp2_with fail
                go_roundw
                case rel => exact ⟨i + 1, by omega, by go_num, below_join hbi hs7⟩
                case measure => simp [intOf]; omega
              · go_wp2_with fail
                go_roundw
                case rel => exact ⟨by simp, hbi⟩
                case measure => first | (simp [intOf]; done) | (simp [intOf]; omega)
          · have hck := Keeps.of hbk _ _ c1
            go_wp2_with fail
            go_loopw [57] (InRel b1.length W) (fun i _ => b1.length - (intOf i).toNat)
            case atStart => exact ⟨0, by omega, rfl, hbk⟩
            case round =>
              obtain ⟨i, hi, rfl, hbi⟩ := hrel
              by_cases hlt : i < b1.length
              · have hKi := (K1.next hbi).pre i
                have hT := Lib.hid (T1.out i (by omega))
                have hid : i ≤ d1 := by omega
                go_wp2_with fail
                refine (use_getBytes B1 i d1 _ (by rw [List.length_take]; omega) (by rw [List.length_take]; omega) (by rw [List.length_take]; omega) hKi hT.out).mono ?_
                rintro e w7 ⟨rfl, hs7⟩
                go_wp2_with fail
                go_roundw
                case rel => exact ⟨i + 1, by omega, by go_num, below_join hbi hs7⟩
                case measure => simp [intOf]; omega
              · go_wp2_with fail
                go_roundw
                case rel => exact ⟨by simp, hbi⟩
                case measure => first | (simp [intOf]; done) | (simp [intOf]; omega)
          · have hck := Keeps.of hbk _ _ c2
            go_wp2_with fail
            go_loopw [57] (InRel b2.length W) (fun i _ => b2.length - (intOf i).toNat)
            case atStart => exact ⟨0, by omega, rfl, hbk⟩
            case round =>
              obtain ⟨i, hi, rfl, hbi⟩ := hrel
              by_cases hlt : i < b2.length
              · have hKi := (K2.next hbi).pre i
                have hT := Lib.hid (T2.out i (by omega))
                have hid : i ≤ d2 := by omega
                go_wp2_with fail
                refine (use_getInts B2 i d2 _ (by rw [List.length_take]; omega) (by rw [List.length_take]; omega) (by rw [List.length_take]; omega) hKi hT.out).mono ?_
                rintro e w7 ⟨R, g, rfl, hg, HR, hs7⟩
                go_wp2_with fail
                go_roundw
                case rel => exact ⟨i + 1, by omega, by go_num, below_join hbi hs7⟩
                case measure => simp [intOf]; omega
              · go_wp2_with fail
                go_roundw
                case rel => exact ⟨by simp, hbi⟩
                case measure => first | (simp [intOf]; done) | (simp [intOf]; omega)
          · have hck := Keeps.of hbk _ _ c3
            by_cases h500 : 500 < b3.length
            · go_wp2_with fail
              go_loopw [57] (InRel 500 W) (fun i _ => 500 - (intOf i).toNat)
              case atStart => exact ⟨0, by omega, rfl, hbk⟩
              case round =>
                obtain ⟨i, hi, rfl, hbi⟩ := hrel
                by_cases hlt : i < 500
                · have hKi := (K3.next hbi).pre i
                  have hT := Lib.hid (T3.out i (by omega))
                  have hid : i ≤ d3 := by omega
                  go_wp2_with fail
                  refine (use_getStrings B3 i d3 _ (by rw [List.length_take]; omega) (by rw [List.length_take]; omega) (by rw [List.length_take]; omega) hKi hT.out).mono ?_
                  rintro e w7 ⟨R, g, rfl, hg, HR, hs7⟩
                  go_wp2_with fail
                  go_roundw
                  case rel => exact ⟨i + 1, by omega, by go_num, below_join hbi hs7⟩
                  case measure => simp [intOf]; omega
                · go_wp2_with fail
                  go_roundw
                  case rel => exact ⟨by simp, hbi⟩
                  case measure => first | (simp [intOf]; done) | (simp [intOf]; omega)
            · go_wp2_with fail
              go_loopw [57] (InRel b3.length W) (fun i _ => b3.length - (intOf i).toNat)
              case atStart => exact ⟨0, by omega, rfl, hbk⟩
              case round =>
                obtain ⟨i, hi, rfl, hbi⟩ := hrel
                by_cases hlt : i < b3.length
                · have hKi := (K3.next hbi).pre i
                  have hT := Lib.hid (T3.out i (by omega))
                  have hid : i ≤ d3 := by omega
                  go_wp2_with fail
                  refine (use_getStrings B3 i d3 _ (by rw [List.length_take]; omega) (by rw [List.length_take]; omega) (by rw [List.length_take]; omega) hKi hT.out).mono ?_
                  rintro e w7 ⟨R, g, rfl, hg, HR, hs7⟩
                  go_wp2_with fail
                  go_roundw
                  case rel => exact ⟨i + 1, by omega, by go_num, below_join hbi hs7⟩
                  case measure => simp [intOf]; omega
                · go_wp2_with fail
                  go_roundw
                  case rel => exact ⟨by simp, hbi⟩
                  case measure => first | (simp [intOf]; done) | (simp [intOf]; omega)
          · have hck := Keeps.of hbk _ _ c4
            go_wp2_with fail
            go_loopw [57] (InRel b4.length W) (fun i _ => b4.length - (intOf i).toNat)
            case atStart => exact ⟨0, by omega, rfl, hbk⟩
            case round =>
              obtain ⟨i, hi, rfl, hbi⟩ := hrel
              by_cases hlt : i < b4.length
              · have hKi := (K4.next hbi).pre i
                have hT := Lib.hid (T4.out i (by omega))
                have hid : i ≤ d4 := by omega
                go_wp2_with fail
                refine (use_getDigests B4 i d4 _ (by rw [List.length_take]; omega) (by rw [List.length_take]; omega) (by rw [List.length_take]; omega) hKi hT.out).mono ?_
                rintro e w7 ⟨R, g, rfl, hg, HR, hs7⟩
                go_wp2_with fail
                go_roundw
                case rel => exact ⟨i + 1, by omega, by go_num, below_join hbi hs7⟩
                case measure => simp [intOf]; omega
              · go_wp2_with fail
                go_roundw
                case rel => exact ⟨by simp, hbi⟩
                case measure => first | (simp [intOf]; done) | (simp [intOf]; omega)
          · go_wp2_with fail
            refine (sanity_any _).mono ?_
            rintro e w8 ⟨rfl, hs8⟩
            go_wp2_with fail
            go_ret
            exact ⟨rfl, below_join (hb6.trans (hbk.mono hb6.size)) hs8⟩
      · go_enter Try.func9, Try.ntmps9
        go_wp2_with fail
        refine (few_is false a3 len3 cap3 l3 _ E3.out (by omega) H3 (by simp; omega)).mono ?_
        rintro e w' ⟨rfl, rfl⟩
        go_wp2_with fail
        refine (sanity_any _).mono ?_
        rintro e w1 ⟨rfl, hb1⟩
        go_wp2_with fail
        go_ret
        exact ⟨rfl, hb1⟩
end Go.Proofs.Ytkbmgkaopjjkoaa
