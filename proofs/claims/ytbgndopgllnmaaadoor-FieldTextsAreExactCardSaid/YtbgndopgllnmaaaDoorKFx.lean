/-
  Contract of the walk over the reference's Text. Conditions: none.
-/
import Derived.Test.YtbgndopgllnmaaaDoorKFq
import Derived.Laws.DeepStrings4
namespace Go.Proofs.YtbgndopgllnmaaaDoor
set_option linter.unusedVariables false
set_option linter.unusedSimpArgs false
open Go.RowKit Go.Shelf

theorem dig_cut (r : Nat) (h : r < 16) : (({ data := #[48, 49, 50, 51, 52, 53, 54, 55, 56, 57, 97, 98, 99, 100, 101, 102] } : ByteArray).extract r (r + 1)).data.toList = [digs.getD r 0] := by
  have : ∀ k : Fin 16, (({ data := #[48, 49, 50, 51, 52, 53, 54, 55, 56, 57, 97, 98, 99, 100, 101, 102] } : ByteArray).extract k.1 (k.1 + 1)).data.toList = [digs.getD k.1 0] := by decide +kernel
  exact this ⟨r, h⟩
def RtRel (f : Nat → Bool) (g1 : Nat) (w : World) (o i : Value) (wr : World) : Prop :=
  ∃ (k : Nat) (S : ByteArray), k ≤ 10 ∧ i = .int .i64 (k : Int) ∧ o = .string S ∧ S.data.toList = textH f k ∧ Blk wr g1 30 (H f) ∧ Below w.heap.size w wr
def dvv : Nat → Int
  | 0 => 4096 | 1 => 256 | 2 => 16 | 3 => 1 | _ => 0
def RdRel (L : List UInt8) (x : Nat) (w0 : World) (o d : Value) (wr : World) : Prop :=
  ∃ (j : Nat) (T : ByteArray), j ≤ 4 ∧ d = .int .i64 (dvv j) ∧ o = .string T ∧ T.data.toList = L ++ (hexL x).take j ∧ Below w0.heap.size w0 wr
set_option maxRecDepth 100000 in
set_option maxHeartbeats 3200000 in
theorem rtext8_any (f : Nat → Bool) (w : World) :
    Calls Tryd.prog 42 #[.agg (H f).toArray] w fun e w' => e = .returned (.string ⟨(textH f 10).toArray⟩) ∧ Below w.heap.size w w' := by
  go_enter Tryd.func42, Tryd.ntmps42
  go_wp2_with (with_reducible refine wpList_box (o := ⟨some 1, .box 30 (.tmp 0), _, _, _, _⟩) ?g1qaa 30 (.tmp 0) ?o1qaa (.agg (H f).toArray) (H f) ?x1qaa ?c1qaa ?_)
  try (case g1qaa => rfl)
  try (case o1qaa => rfl)
  try (case x1qaa => rfl)
  try (case c1qaa => rfl)
  intro g1 w1 hg1 hs1 hb1 B1
  have hl1 : w.heap.size ≤ g1 := Nat.le_of_eq hg1.out.symm
  have hb1 := hb1.mono (Nat.le_of_eq hg1.out.symm)
  have hbe : Below w.heap.size w w1 := hb1
  clear hb1 hg1 hs1
  have HH := Lib.hid (fun v (hv : v < 10) => H_get f hv)
  go_wp2
  go_loopw [3, 4] (RtRel f g1 w) (fun _ i _ => 10 - (intOf i).toNat)
  case atStart => exact ⟨0, _, Nat.zero_le _, rfl, rfl, rfl, B1, hbe⟩
  case round =>
    clear B1 hbe
    obtain ⟨k, S, hk, rfl, rfl, hS, B1, hbe⟩ := hrel
    have hlen := textH_length f k
    have hSs : S.size ≤ 50 := by
      have h := congrArg List.length hS
      rw [bytes_size] at h
      omega
    have hSz : (S.size : Int) ≤ 8388608 := by omega
    by_cases hlt : k < 10
    · have hki : (k : Int) < 10 := by omega
      have hk0 : (0 : Int) ≤ (k : Int) := by omega
      have e2 : IntKind.i64.wrap ((k : Int) + 1) = (k : Int) + 1 := by simp only [IntKind.wrap_i64]; omega
      obtain ⟨x, hx⟩ : ∃ x, word f k = x := ⟨_, rfl⟩
      have hx6 := word_lt f k
      have cx := B1.cell (HH.out k hlt)
      rw [hx] at cx hx6
      have HX := Lib.hid hx
      have HCX := Lib.hid cx
      clear hx hlen cx
      by_cases hk0 : k = 0
      · have hk0i : decide (0 < k) = false := decide_eq_false (by omega)
        have hk0j : decide ((k : Int) > 0) = false := decide_eq_false (by omega)
        have hk0l : decide ((0 : Int) < (k : Int)) = false := decide_eq_false (by omega)
        obtain ⟨L, hLd⟩ : ∃ L, textH f k = L := ⟨_, rfl⟩
        have HLT : Hid (L ++ hexL (word f k) = textH f (k + 1)) := by
          have : L ++ hexL (word f k) = textH f (k + 1) := by rw [← hLd]; show _ = (textH f k ++ if k = 0 then [] else [46]) ++ hexL (word f k); rw [if_pos hk0, List.append_nil]
          exact this
        obtain ⟨S1, hS1⟩ : ∃ X, S = X := ⟨_, rfl⟩
        have hL : S1.data.toList = L := by rw [← hS1, hS, hLd]
        rw [hS1]
        have hlL : L.length ≤ 50 := by rw [← hLd]; have := textH_length f k; omega
        clear hS hLd hS1 hk0
        have hS1z : S1.size ≤ 51 := by
          have h := congrArg List.length hL
          rw [bytes_size] at h
          omega
        have HL := Lib.hid hL
        clear hL
        go_wp2
        go_loopw [3, 5] (RdRel L x wr) (fun _ d _ => (intOf d).toNat)
        case atStart => exact ⟨0, S1, Nat.zero_le _, rfl, rfl, by rw [HL.out, List.take_zero, List.append_nil], Below.refl _ _⟩
        case round =>
          obtain ⟨j, T, hj, rfl, rfl, hT, hbL⟩ := hrel
          have hTs : T.size ≤ 60 := by
            have h := congrArg List.length hT
            rw [bytes_size, List.length_append, List.length_take, ← HL.out, bytes_size] at h
            omega
          have hTz : (T.size : Int) ≤ 8388608 := by omega
          have cx := cellf_below hbL HCX.out
          rcases (by omega : j = 0 ∨ j = 1 ∨ j = 2 ∨ j = 3 ∨ j = 4) with rfl | rfl | rfl | rfl | rfl
          · show Code.wp _ _ _ _ _
            have hdv : dvv 0 = 4096 := rfl
            rw [hdv]
            obtain ⟨q, hq⟩ : ∃ q, x / 4096 = q := ⟨_, rfl⟩
            obtain ⟨r, hr⟩ : ∃ r, q % 16 = r := ⟨_, rfl⟩
            have hr16 : r < 16 := by omega
            have hqx : q ≤ 65536 := by have := Nat.div_le_self x 4096; omega
            have hd1 : (x : Int).tdiv 4096 = (q : Int) := by rw [Int.tdiv_eq_ediv_of_nonneg (by omega), ← hq]; rfl
            have hm1 : (q : Int).tmod 16 = (r : Int) := by rw [Int.tmod_eq_emod_of_nonneg (by omega), ← hr]; rfl
            have hwq : IntKind.i64.wrap (q : Int) = (q : Int) := by simp only [IntKind.wrap_i64]; omega
            have hwr : IntKind.i64.wrap (r : Int) = (r : Int) := by simp only [IntKind.wrap_i64]; omega
            have hwr1 : IntKind.i64.wrap ((r : Int) + 1) = (r : Int) + 1 := by simp only [IntKind.wrap_i64]; omega
            have hr0 : (0 : Int) ≤ (r : Int) := by omega
            have hri : (r : Int) < 16 := by omega
            have hri1 : (r : Int) + 1 ≤ 16 := by omega
            obtain ⟨SL, hSL⟩ : ∃ Y, ({ data := #[48, 49, 50, 51, 52, 53, 54, 55, 56, 57, 97, 98, 99, 100, 101, 102] } : ByteArray).extract r (r + 1) = Y := ⟨_, rfl⟩
            have hcut := dig_cut r hr16
            rw [hSL] at hcut
            have hSLs : SL.size = 1 := by have h := congrArg List.length hcut; rw [bytes_size] at h; exact h
            have hsl : ∀ w, (Instr.slice 9 (.string ({ data := #[48, 49, 50, 51, 52, 53, 54, 55, 56, 57, 97, 98, 99, 100, 101, 102] } : ByteArray)) (some (.int .i64 (r : Int))) (some (.int .i64 ((r : Int) + 1))) none).run Tryd.prog w = .ok (.string SL) w := fun w => by
              rw [run_slice_string_if w 9 ({ data := #[48, 49, 50, 51, 52, 53, 54, 55, 56, 57, 97, 98, 99, 100, 101, 102] } : ByteArray) .i64 .i64 (r : Int) ((r : Int) + 1) Tryd.underlying9, if_pos ⟨by omega, (show (r : Int) + 1 ≤ 16 by omega)⟩, if_pos ⟨by omega, by omega⟩, show ((r : Int) + 1).toNat = r + 1 by omega, show ((r : Int)).toNat = r by omega, hSL]
            obtain ⟨T2, hT2⟩ : ∃ Y, T ++ SL = Y := ⟨_, rfl⟩
            have r1 : ¬ (9223372036854775807 < T.size + SL.size) := by omega
            have r2 : ¬ (9223372036854775807 < T.size + 1) := by omega
            have hN : Hid (T2.data.toList = L ++ (hexL x).take 1) := by
              have : T2.data.toList = L ++ (hexL x).take 1 := by
                rw [← hT2, ByteArray.data_append, Array.toList_append, hT, hcut, ← hr, ← hq, List.append_assoc]
                rfl
              exact this
            clear hT hcut hq hr hdv
            go_wp2
            go_roundw
            case rel => exact ⟨1, T2, by omega, rfl, rfl, hN.out, hbL⟩
            case measure => decide
          · show Code.wp _ _ _ _ _
            have hdv : dvv 1 = 256 := rfl
            rw [hdv]
            obtain ⟨q, hq⟩ : ∃ q, x / 256 = q := ⟨_, rfl⟩
            obtain ⟨r, hr⟩ : ∃ r, q % 16 = r := ⟨_, rfl⟩
            have hr16 : r < 16 := by omega
            have hqx : q ≤ 65536 := by have := Nat.div_le_self x 256; omega
            have hd1 : (x : Int).tdiv 256 = (q : Int) := by rw [Int.tdiv_eq_ediv_of_nonneg (by omega), ← hq]; rfl
            have hm1 : (q : Int).tmod 16 = (r : Int) := by rw [Int.tmod_eq_emod_of_nonneg (by omega), ← hr]; rfl
            have hwq : IntKind.i64.wrap (q : Int) = (q : Int) := by simp only [IntKind.wrap_i64]; omega
            have hwr : IntKind.i64.wrap (r : Int) = (r : Int) := by simp only [IntKind.wrap_i64]; omega
            have hwr1 : IntKind.i64.wrap ((r : Int) + 1) = (r : Int) + 1 := by simp only [IntKind.wrap_i64]; omega
            have hr0 : (0 : Int) ≤ (r : Int) := by omega
            have hri : (r : Int) < 16 := by omega
            have hri1 : (r : Int) + 1 ≤ 16 := by omega
            obtain ⟨SL, hSL⟩ : ∃ Y, ({ data := #[48, 49, 50, 51, 52, 53, 54, 55, 56, 57, 97, 98, 99, 100, 101, 102] } : ByteArray).extract r (r + 1) = Y := ⟨_, rfl⟩
            have hcut := dig_cut r hr16
            rw [hSL] at hcut
            have hSLs : SL.size = 1 := by have h := congrArg List.length hcut; rw [bytes_size] at h; exact h
            have hsl : ∀ w, (Instr.slice 9 (.string ({ data := #[48, 49, 50, 51, 52, 53, 54, 55, 56, 57, 97, 98, 99, 100, 101, 102] } : ByteArray)) (some (.int .i64 (r : Int))) (some (.int .i64 ((r : Int) + 1))) none).run Tryd.prog w = .ok (.string SL) w := fun w => by
              rw [run_slice_string_if w 9 ({ data := #[48, 49, 50, 51, 52, 53, 54, 55, 56, 57, 97, 98, 99, 100, 101, 102] } : ByteArray) .i64 .i64 (r : Int) ((r : Int) + 1) Tryd.underlying9, if_pos ⟨by omega, (show (r : Int) + 1 ≤ 16 by omega)⟩, if_pos ⟨by omega, by omega⟩, show ((r : Int) + 1).toNat = r + 1 by omega, show ((r : Int)).toNat = r by omega, hSL]
            obtain ⟨T2, hT2⟩ : ∃ Y, T ++ SL = Y := ⟨_, rfl⟩
            have r1 : ¬ (9223372036854775807 < T.size + SL.size) := by omega
            have r2 : ¬ (9223372036854775807 < T.size + 1) := by omega
            have hN : Hid (T2.data.toList = L ++ (hexL x).take 2) := by
              have : T2.data.toList = L ++ (hexL x).take 2 := by
                rw [← hT2, ByteArray.data_append, Array.toList_append, hT, hcut, ← hr, ← hq, List.append_assoc]
                rfl
              exact this
            clear hT hcut hq hr hdv
            go_wp2
            go_roundw
            case rel => exact ⟨2, T2, by omega, rfl, rfl, hN.out, hbL⟩
            case measure => decide
          · show Code.wp _ _ _ _ _
            have hdv : dvv 2 = 16 := rfl
            rw [hdv]
            obtain ⟨q, hq⟩ : ∃ q, x / 16 = q := ⟨_, rfl⟩
            obtain ⟨r, hr⟩ : ∃ r, q % 16 = r := ⟨_, rfl⟩
            have hr16 : r < 16 := by omega
            have hqx : q ≤ 65536 := by have := Nat.div_le_self x 16; omega
            have hd1 : (x : Int).tdiv 16 = (q : Int) := by rw [Int.tdiv_eq_ediv_of_nonneg (by omega), ← hq]; rfl
            have hm1 : (q : Int).tmod 16 = (r : Int) := by rw [Int.tmod_eq_emod_of_nonneg (by omega), ← hr]; rfl
            have hwq : IntKind.i64.wrap (q : Int) = (q : Int) := by simp only [IntKind.wrap_i64]; omega
            have hwr : IntKind.i64.wrap (r : Int) = (r : Int) := by simp only [IntKind.wrap_i64]; omega
            have hwr1 : IntKind.i64.wrap ((r : Int) + 1) = (r : Int) + 1 := by simp only [IntKind.wrap_i64]; omega
            have hr0 : (0 : Int) ≤ (r : Int) := by omega
            have hri : (r : Int) < 16 := by omega
            have hri1 : (r : Int) + 1 ≤ 16 := by omega
            obtain ⟨SL, hSL⟩ : ∃ Y, ({ data := #[48, 49, 50, 51, 52, 53, 54, 55, 56, 57, 97, 98, 99, 100, 101, 102] } : ByteArray).extract r (r + 1) = Y := ⟨_, rfl⟩
            have hcut := dig_cut r hr16
            rw [hSL] at hcut
            have hSLs : SL.size = 1 := by have h := congrArg List.length hcut; rw [bytes_size] at h; exact h
            have hsl : ∀ w, (Instr.slice 9 (.string ({ data := #[48, 49, 50, 51, 52, 53, 54, 55, 56, 57, 97, 98, 99, 100, 101, 102] } : ByteArray)) (some (.int .i64 (r : Int))) (some (.int .i64 ((r : Int) + 1))) none).run Tryd.prog w = .ok (.string SL) w := fun w => by
              rw [run_slice_string_if w 9 ({ data := #[48, 49, 50, 51, 52, 53, 54, 55, 56, 57, 97, 98, 99, 100, 101, 102] } : ByteArray) .i64 .i64 (r : Int) ((r : Int) + 1) Tryd.underlying9, if_pos ⟨by omega, (show (r : Int) + 1 ≤ 16 by omega)⟩, if_pos ⟨by omega, by omega⟩, show ((r : Int) + 1).toNat = r + 1 by omega, show ((r : Int)).toNat = r by omega, hSL]
            obtain ⟨T2, hT2⟩ : ∃ Y, T ++ SL = Y := ⟨_, rfl⟩
            have r1 : ¬ (9223372036854775807 < T.size + SL.size) := by omega
            have r2 : ¬ (9223372036854775807 < T.size + 1) := by omega
            have hN : Hid (T2.data.toList = L ++ (hexL x).take 3) := by
              have : T2.data.toList = L ++ (hexL x).take 3 := by
                rw [← hT2, ByteArray.data_append, Array.toList_append, hT, hcut, ← hr, ← hq, List.append_assoc]
                rfl
              exact this
            clear hT hcut hq hr hdv
            go_wp2
            go_roundw
            case rel => exact ⟨3, T2, by omega, rfl, rfl, hN.out, hbL⟩
            case measure => decide
          · show Code.wp _ _ _ _ _
            have hdv : dvv 3 = 1 := rfl
            rw [hdv]
            obtain ⟨q, hq⟩ : ∃ q, x / 1 = q := ⟨_, rfl⟩
            obtain ⟨r, hr⟩ : ∃ r, q % 16 = r := ⟨_, rfl⟩
            have hr16 : r < 16 := by omega
            have hqx : q ≤ 65536 := by have := Nat.div_le_self x 1; omega
            have hd1 : (x : Int).tdiv 1 = (q : Int) := by rw [Int.tdiv_eq_ediv_of_nonneg (by omega), ← hq]; rfl
            have hm1 : (q : Int).tmod 16 = (r : Int) := by rw [Int.tmod_eq_emod_of_nonneg (by omega), ← hr]; rfl
            have hwq : IntKind.i64.wrap (q : Int) = (q : Int) := by simp only [IntKind.wrap_i64]; omega
            have hwr : IntKind.i64.wrap (r : Int) = (r : Int) := by simp only [IntKind.wrap_i64]; omega
            have hwr1 : IntKind.i64.wrap ((r : Int) + 1) = (r : Int) + 1 := by simp only [IntKind.wrap_i64]; omega
            have hr0 : (0 : Int) ≤ (r : Int) := by omega
            have hri : (r : Int) < 16 := by omega
            have hri1 : (r : Int) + 1 ≤ 16 := by omega
            obtain ⟨SL, hSL⟩ : ∃ Y, ({ data := #[48, 49, 50, 51, 52, 53, 54, 55, 56, 57, 97, 98, 99, 100, 101, 102] } : ByteArray).extract r (r + 1) = Y := ⟨_, rfl⟩
            have hcut := dig_cut r hr16
            rw [hSL] at hcut
            have hSLs : SL.size = 1 := by have h := congrArg List.length hcut; rw [bytes_size] at h; exact h
            have hsl : ∀ w, (Instr.slice 9 (.string ({ data := #[48, 49, 50, 51, 52, 53, 54, 55, 56, 57, 97, 98, 99, 100, 101, 102] } : ByteArray)) (some (.int .i64 (r : Int))) (some (.int .i64 ((r : Int) + 1))) none).run Tryd.prog w = .ok (.string SL) w := fun w => by
              rw [run_slice_string_if w 9 ({ data := #[48, 49, 50, 51, 52, 53, 54, 55, 56, 57, 97, 98, 99, 100, 101, 102] } : ByteArray) .i64 .i64 (r : Int) ((r : Int) + 1) Tryd.underlying9, if_pos ⟨by omega, (show (r : Int) + 1 ≤ 16 by omega)⟩, if_pos ⟨by omega, by omega⟩, show ((r : Int) + 1).toNat = r + 1 by omega, show ((r : Int)).toNat = r by omega, hSL]
            obtain ⟨T2, hT2⟩ : ∃ Y, T ++ SL = Y := ⟨_, rfl⟩
            have r1 : ¬ (9223372036854775807 < T.size + SL.size) := by omega
            have r2 : ¬ (9223372036854775807 < T.size + 1) := by omega
            have hN : Hid (T2.data.toList = L ++ (hexL x).take 4) := by
              have : T2.data.toList = L ++ (hexL x).take 4 := by
                rw [← hT2, ByteArray.data_append, Array.toList_append, hT, hcut, ← hr, ← hq, List.append_assoc]
                rfl
              exact this
            clear hT hcut hq hr hdv
            go_wp2
            go_roundw
            case rel => exact ⟨4, T2, by omega, rfl, rfl, hN.out, hbL⟩
            case measure => decide
          · show Code.wp _ _ _ _ _
            have hdv : dvv 4 = 0 := rfl
            rw [hdv]
            have hN : Hid (T.data.toList = textH f (k + 1)) := by
              have : T.data.toList = textH f (k + 1) := by
                rw [hT, ← HLT.out, HX.out]
                rfl
              exact this
            have B5 := B1.next hbL B1.lt
            have hbe5 := below_join hbe hbL
            clear hT hdv cx
            go_wp2
            go_roundw
            case rel => exact ⟨k + 1, T, by omega, by go_num, rfl, hN.out, B5, hbe5⟩
            case measure => simp [intOf]; omega
      · have hk0i : decide (0 < k) = true := decide_eq_true (by omega)
        have hk0j : decide ((k : Int) > 0) = true := decide_eq_true (by omega)
        have hk0l : decide ((0 : Int) < (k : Int)) = true := decide_eq_true (by omega)
        obtain ⟨L, hLd⟩ : ∃ L, textH f k ++ [46] = L := ⟨_, rfl⟩
        have HLT : Hid (L ++ hexL (word f k) = textH f (k + 1)) := by
          have : L ++ hexL (word f k) = textH f (k + 1) := by rw [← hLd]; show _ = (textH f k ++ if k = 0 then [] else [46]) ++ hexL (word f k); rw [if_neg hk0]
          exact this
        obtain ⟨S1, hS1⟩ : ∃ X, S ++ ({ data := #[46] } : ByteArray) = X := ⟨_, rfl⟩
        have hL : S1.data.toList = L := by rw [← hS1, ByteArray.data_append, Array.toList_append, hS, ← hLd]
        have r0 : ¬ (9223372036854775807 < S.size + 1) := by omega
        have hlL : L.length ≤ 51 := by rw [← hLd]; have := textH_length f k; rw [List.length_append]; show _ + 1 ≤ _; omega
        clear hS hLd
        have hS1z : S1.size ≤ 51 := by
          have h := congrArg List.length hL
          rw [bytes_size] at h
          omega
        have HL := Lib.hid hL
        clear hL
        go_wp2
        go_loopw [3, 5] (RdRel L x wr) (fun _ d _ => (intOf d).toNat)
        case atStart => exact ⟨0, S1, Nat.zero_le _, rfl, rfl, by rw [HL.out, List.take_zero, List.append_nil], Below.refl _ _⟩
        case round =>
          obtain ⟨j, T, hj, rfl, rfl, hT, hbL⟩ := hrel
          have hTs : T.size ≤ 60 := by
            have h := congrArg List.length hT
            rw [bytes_size, List.length_append, List.length_take, ← HL.out, bytes_size] at h
            omega
          have hTz : (T.size : Int) ≤ 8388608 := by omega
          have cx := cellf_below hbL HCX.out
          rcases (by omega : j = 0 ∨ j = 1 ∨ j = 2 ∨ j = 3 ∨ j = 4) with rfl | rfl | rfl | rfl | rfl
          · show Code.wp _ _ _ _ _
            have hdv : dvv 0 = 4096 := rfl
            rw [hdv]
            obtain ⟨q, hq⟩ : ∃ q, x / 4096 = q := ⟨_, rfl⟩
            obtain ⟨r, hr⟩ : ∃ r, q % 16 = r := ⟨_, rfl⟩
            have hr16 : r < 16 := by omega
            have hqx : q ≤ 65536 := by have := Nat.div_le_self x 4096; omega
            have hd1 : (x : Int).tdiv 4096 = (q : Int) := by rw [Int.tdiv_eq_ediv_of_nonneg (by omega), ← hq]; rfl
            have hm1 : (q : Int).tmod 16 = (r : Int) := by rw [Int.tmod_eq_emod_of_nonneg (by omega), ← hr]; rfl
            have hwq : IntKind.i64.wrap (q : Int) = (q : Int) := by simp only [IntKind.wrap_i64]; omega
            have hwr : IntKind.i64.wrap (r : Int) = (r : Int) := by simp only [IntKind.wrap_i64]; omega
            have hwr1 : IntKind.i64.wrap ((r : Int) + 1) = (r : Int) + 1 := by simp only [IntKind.wrap_i64]; omega
            have hr0 : (0 : Int) ≤ (r : Int) := by omega
            have hri : (r : Int) < 16 := by omega
            have hri1 : (r : Int) + 1 ≤ 16 := by omega
            obtain ⟨SL, hSL⟩ : ∃ Y, ({ data := #[48, 49, 50, 51, 52, 53, 54, 55, 56, 57, 97, 98, 99, 100, 101, 102] } : ByteArray).extract r (r + 1) = Y := ⟨_, rfl⟩
            have hcut := dig_cut r hr16
            rw [hSL] at hcut
            have hSLs : SL.size = 1 := by have h := congrArg List.length hcut; rw [bytes_size] at h; exact h
            have hsl : ∀ w, (Instr.slice 9 (.string ({ data := #[48, 49, 50, 51, 52, 53, 54, 55, 56, 57, 97, 98, 99, 100, 101, 102] } : ByteArray)) (some (.int .i64 (r : Int))) (some (.int .i64 ((r : Int) + 1))) none).run Tryd.prog w = .ok (.string SL) w := fun w => by
              rw [run_slice_string_if w 9 ({ data := #[48, 49, 50, 51, 52, 53, 54, 55, 56, 57, 97, 98, 99, 100, 101, 102] } : ByteArray) .i64 .i64 (r : Int) ((r : Int) + 1) Tryd.underlying9, if_pos ⟨by omega, (show (r : Int) + 1 ≤ 16 by omega)⟩, if_pos ⟨by omega, by omega⟩, show ((r : Int) + 1).toNat = r + 1 by omega, show ((r : Int)).toNat = r by omega, hSL]
            obtain ⟨T2, hT2⟩ : ∃ Y, T ++ SL = Y := ⟨_, rfl⟩
            have r1 : ¬ (9223372036854775807 < T.size + SL.size) := by omega
            have r2 : ¬ (9223372036854775807 < T.size + 1) := by omega
            have hN : Hid (T2.data.toList = L ++ (hexL x).take 1) := by
              have : T2.data.toList = L ++ (hexL x).take 1 := by
                rw [← hT2, ByteArray.data_append, Array.toList_append, hT, hcut, ← hr, ← hq, List.append_assoc]
                rfl
              exact this
            clear hT hcut hq hr hdv
            go_wp2
            go_roundw
            case rel => exact ⟨1, T2, by omega, rfl, rfl, hN.out, hbL⟩
            case measure => decide
          · show Code.wp _ _ _ _ _
            have hdv : dvv 1 = 256 := rfl
            rw [hdv]
            obtain ⟨q, hq⟩ : ∃ q, x / 256 = q := ⟨_, rfl⟩
            obtain ⟨r, hr⟩ : ∃ r, q % 16 = r := ⟨_, rfl⟩
            have hr16 : r < 16 := by omega
            have hqx : q ≤ 65536 := by have := Nat.div_le_self x 256; omega
            have hd1 : (x : Int).tdiv 256 = (q : Int) := by rw [Int.tdiv_eq_ediv_of_nonneg (by omega), ← hq]; rfl
            have hm1 : (q : Int).tmod 16 = (r : Int) := by rw [Int.tmod_eq_emod_of_nonneg (by omega), ← hr]; rfl
            have hwq : IntKind.i64.wrap (q : Int) = (q : Int) := by simp only [IntKind.wrap_i64]; omega
            have hwr : IntKind.i64.wrap (r : Int) = (r : Int) := by simp only [IntKind.wrap_i64]; omega
            have hwr1 : IntKind.i64.wrap ((r : Int) + 1) = (r : Int) + 1 := by simp only [IntKind.wrap_i64]; omega
            have hr0 : (0 : Int) ≤ (r : Int) := by omega
            have hri : (r : Int) < 16 := by omega
            have hri1 : (r : Int) + 1 ≤ 16 := by omega
            obtain ⟨SL, hSL⟩ : ∃ Y, ({ data := #[48, 49, 50, 51, 52, 53, 54, 55, 56, 57, 97, 98, 99, 100, 101, 102] } : ByteArray).extract r (r + 1) = Y := ⟨_, rfl⟩
            have hcut := dig_cut r hr16
            rw [hSL] at hcut
            have hSLs : SL.size = 1 := by have h := congrArg List.length hcut; rw [bytes_size] at h; exact h
            have hsl : ∀ w, (Instr.slice 9 (.string ({ data := #[48, 49, 50, 51, 52, 53, 54, 55, 56, 57, 97, 98, 99, 100, 101, 102] } : ByteArray)) (some (.int .i64 (r : Int))) (some (.int .i64 ((r : Int) + 1))) none).run Tryd.prog w = .ok (.string SL) w := fun w => by
              rw [run_slice_string_if w 9 ({ data := #[48, 49, 50, 51, 52, 53, 54, 55, 56, 57, 97, 98, 99, 100, 101, 102] } : ByteArray) .i64 .i64 (r : Int) ((r : Int) + 1) Tryd.underlying9, if_pos ⟨by omega, (show (r : Int) + 1 ≤ 16 by omega)⟩, if_pos ⟨by omega, by omega⟩, show ((r : Int) + 1).toNat = r + 1 by omega, show ((r : Int)).toNat = r by omega, hSL]
            obtain ⟨T2, hT2⟩ : ∃ Y, T ++ SL = Y := ⟨_, rfl⟩
            have r1 : ¬ (9223372036854775807 < T.size + SL.size) := by omega
            have r2 : ¬ (9223372036854775807 < T.size + 1) := by omega
            have hN : Hid (T2.data.toList = L ++ (hexL x).take 2) := by
              have : T2.data.toList = L ++ (hexL x).take 2 := by
                rw [← hT2, ByteArray.data_append, Array.toList_append, hT, hcut, ← hr, ← hq, List.append_assoc]
                rfl
              exact this
            clear hT hcut hq hr hdv
            go_wp2
            go_roundw
            case rel => exact ⟨2, T2, by omega, rfl, rfl, hN.out, hbL⟩
            case measure => decide
          · show Code.wp _ _ _ _ _
            have hdv : dvv 2 = 16 := rfl
            rw [hdv]
            obtain ⟨q, hq⟩ : ∃ q, x / 16 = q := ⟨_, rfl⟩
            obtain ⟨r, hr⟩ : ∃ r, q % 16 = r := ⟨_, rfl⟩
            have hr16 : r < 16 := by omega
            have hqx : q ≤ 65536 := by have := Nat.div_le_self x 16; omega
            have hd1 : (x : Int).tdiv 16 = (q : Int) := by rw [Int.tdiv_eq_ediv_of_nonneg (by omega), ← hq]; rfl
            have hm1 : (q : Int).tmod 16 = (r : Int) := by rw [Int.tmod_eq_emod_of_nonneg (by omega), ← hr]; rfl
            have hwq : IntKind.i64.wrap (q : Int) = (q : Int) := by simp only [IntKind.wrap_i64]; omega
            have hwr : IntKind.i64.wrap (r : Int) = (r : Int) := by simp only [IntKind.wrap_i64]; omega
            have hwr1 : IntKind.i64.wrap ((r : Int) + 1) = (r : Int) + 1 := by simp only [IntKind.wrap_i64]; omega
            have hr0 : (0 : Int) ≤ (r : Int) := by omega
            have hri : (r : Int) < 16 := by omega
            have hri1 : (r : Int) + 1 ≤ 16 := by omega
            obtain ⟨SL, hSL⟩ : ∃ Y, ({ data := #[48, 49, 50, 51, 52, 53, 54, 55, 56, 57, 97, 98, 99, 100, 101, 102] } : ByteArray).extract r (r + 1) = Y := ⟨_, rfl⟩
            have hcut := dig_cut r hr16
            rw [hSL] at hcut
            have hSLs : SL.size = 1 := by have h := congrArg List.length hcut; rw [bytes_size] at h; exact h
            have hsl : ∀ w, (Instr.slice 9 (.string ({ data := #[48, 49, 50, 51, 52, 53, 54, 55, 56, 57, 97, 98, 99, 100, 101, 102] } : ByteArray)) (some (.int .i64 (r : Int))) (some (.int .i64 ((r : Int) + 1))) none).run Tryd.prog w = .ok (.string SL) w := fun w => by
              rw [run_slice_string_if w 9 ({ data := #[48, 49, 50, 51, 52, 53, 54, 55, 56, 57, 97, 98, 99, 100, 101, 102] } : ByteArray) .i64 .i64 (r : Int) ((r : Int) + 1) Tryd.underlying9, if_pos ⟨by omega, (show (r : Int) + 1 ≤ 16 by omega)⟩, if_pos ⟨by omega, by omega⟩, show ((r : Int) + 1).toNat = r + 1 by omega, show ((r : Int)).toNat = r by omega, hSL]
            obtain ⟨T2, hT2⟩ : ∃ Y, T ++ SL = Y := ⟨_, rfl⟩
            have r1 : ¬ (9223372036854775807 < T.size + SL.size) := by omega
            have r2 : ¬ (9223372036854775807 < T.size + 1) := by omega
            have hN : Hid (T2.data.toList = L ++ (hexL x).take 3) := by
              have : T2.data.toList = L ++ (hexL x).take 3 := by
                rw [← hT2, ByteArray.data_append, Array.toList_append, hT, hcut, ← hr, ← hq, List.append_assoc]
                rfl
              exact this
            clear hT hcut hq hr hdv
            go_wp2
            go_roundw
            case rel => exact ⟨3, T2, by omega, rfl, rfl, hN.out, hbL⟩
            case measure => decide
          · show Code.wp _ _ _ _ _
            have hdv : dvv 3 = 1 := rfl
            rw [hdv]
            obtain ⟨q, hq⟩ : ∃ q, x / 1 = q := ⟨_, rfl⟩
            obtain ⟨r, hr⟩ : ∃ r, q % 16 = r := ⟨_, rfl⟩
            have hr16 : r < 16 := by omega
            have hqx : q ≤ 65536 := by have := Nat.div_le_self x 1; omega
            have hd1 : (x : Int).tdiv 1 = (q : Int) := by rw [Int.tdiv_eq_ediv_of_nonneg (by omega), ← hq]; rfl
            have hm1 : (q : Int).tmod 16 = (r : Int) := by rw [Int.tmod_eq_emod_of_nonneg (by omega), ← hr]; rfl
            have hwq : IntKind.i64.wrap (q : Int) = (q : Int) := by simp only [IntKind.wrap_i64]; omega
            have hwr : IntKind.i64.wrap (r : Int) = (r : Int) := by simp only [IntKind.wrap_i64]; omega
            have hwr1 : IntKind.i64.wrap ((r : Int) + 1) = (r : Int) + 1 := by simp only [IntKind.wrap_i64]; omega
            have hr0 : (0 : Int) ≤ (r : Int) := by omega
            have hri : (r : Int) < 16 := by omega
            have hri1 : (r : Int) + 1 ≤ 16 := by omega
            obtain ⟨SL, hSL⟩ : ∃ Y, ({ data := #[48, 49, 50, 51, 52, 53, 54, 55, 56, 57, 97, 98, 99, 100, 101, 102] } : ByteArray).extract r (r + 1) = Y := ⟨_, rfl⟩
            have hcut := dig_cut r hr16
            rw [hSL] at hcut
            have hSLs : SL.size = 1 := by have h := congrArg List.length hcut; rw [bytes_size] at h; exact h
            have hsl : ∀ w, (Instr.slice 9 (.string ({ data := #[48, 49, 50, 51, 52, 53, 54, 55, 56, 57, 97, 98, 99, 100, 101, 102] } : ByteArray)) (some (.int .i64 (r : Int))) (some (.int .i64 ((r : Int) + 1))) none).run Tryd.prog w = .ok (.string SL) w := fun w => by
              rw [run_slice_string_if w 9 ({ data := #[48, 49, 50, 51, 52, 53, 54, 55, 56, 57, 97, 98, 99, 100, 101, 102] } : ByteArray) .i64 .i64 (r : Int) ((r : Int) + 1) Tryd.underlying9, if_pos ⟨by omega, (show (r : Int) + 1 ≤ 16 by omega)⟩, if_pos ⟨by omega, by omega⟩, show ((r : Int) + 1).toNat = r + 1 by omega, show ((r : Int)).toNat = r by omega, hSL]
            obtain ⟨T2, hT2⟩ : ∃ Y, T ++ SL = Y := ⟨_, rfl⟩
            have r1 : ¬ (9223372036854775807 < T.size + SL.size) := by omega
            have r2 : ¬ (9223372036854775807 < T.size + 1) := by omega
            have hN : Hid (T2.data.toList = L ++ (hexL x).take 4) := by
              have : T2.data.toList = L ++ (hexL x).take 4 := by
                rw [← hT2, ByteArray.data_append, Array.toList_append, hT, hcut, ← hr, ← hq, List.append_assoc]
                rfl
              exact this
            clear hT hcut hq hr hdv
            go_wp2
            go_roundw
            case rel => exact ⟨4, T2, by omega, rfl, rfl, hN.out, hbL⟩
            case measure => decide
          · show Code.wp _ _ _ _ _
            have hdv : dvv 4 = 0 := rfl
            rw [hdv]
            have hN : Hid (T.data.toList = textH f (k + 1)) := by
              have : T.data.toList = textH f (k + 1) := by
                rw [hT, ← HLT.out, HX.out]
                rfl
              exact this
            have B5 := B1.next hbL B1.lt
            have hbe5 := below_join hbe hbL
            clear hT hdv cx
            go_wp2
            go_roundw
            case rel => exact ⟨k + 1, T, by omega, by go_num, rfl, hN.out, B5, hbe5⟩
            case measure => simp [intOf]; omega
    · have h10 : k = 10 := by omega
      subst h10
      have he : Hid (S = ⟨(textH f 10).toArray⟩) := by
        have : S = ⟨(textH f 10).toArray⟩ := by
          apply ByteArray.ext
          apply Array.ext'
          rw [hS]
        exact this
      clear hS
      go_wp2
      go_ret
      exact ⟨by rw [← he.out]; rfl, hbe⟩
end Go.Proofs.YtbgndopgllnmaaaDoor
