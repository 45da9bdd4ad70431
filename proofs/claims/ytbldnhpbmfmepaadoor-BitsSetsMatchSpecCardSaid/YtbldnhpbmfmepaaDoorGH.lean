/-
  Contracts of the functions that the statement calls, part 8 of 26 (merged texts: Cb, Ra, Rb, Rc, Rd, Re). Conditions: as the head of each part says.
-/
import Derived.Test.YtbldnhpbmfmepaaDoorGG
import Derived.Test.YtbldnhpbmfmepaaDoorGE

/-
  Contracts of the walks over slices.Compare, CompareHeads, cmp.Or and Compare; Bit. Conditions: none.
-/
namespace Go.Proofs.YtbldnhpbmfmepaaDoor
set_option linter.unusedVariables false
set_option linter.unusedSimpArgs false
open Go.RowKit

theorem cmpI_nat (a b : Nat) : cmpI (a : Int) (b : Int) = if a < b then -1 else if b < a then 1 else 0 := by
  unfold cmpI
  by_cases h : a < b
  · rw [if_pos h, if_pos (by omega)]
  · rw [if_neg h, if_neg (by omega)]
    by_cases h2 : b < a
    · rw [if_pos h2, if_pos (by omega)]
    · rw [if_neg h2, if_neg (by omega)]
def CmpRel (l r : List Nat) (i : Value) : Prop := ∃ k : Nat, k ≤ 10 ∧ i = .int .i64 k ∧ l.take k = r.take k
set_option maxRecDepth 100000 in
set_option maxHeartbeats 1600000 in
theorem scompare_any (l r : List Nat) (ga gb : Nat) (w : World) (hl : l.length = 10) (hr : r.length = 10) (hp : w.rangeAt ga 0 (l.map nV)) (hq : w.rangeAt gb 0 (r.map nV)) :
    Calls Tryd.prog 77 #[.slice (some ⟨ga, 0, none⟩) 10 10, .slice (some ⟨gb, 0, none⟩) 10 10] w fun e w' => e = .returned (.int .i64 (cmpL l r)) ∧ w = w' := by
  obtain ⟨C, hC⟩ : ∃ C, Hid (cmpL l r = C) := ⟨_, rfl⟩
  rw [hC.out]
  have HL := Lib.hid hl
  have HR := Lib.hid hr
  have HP := Lib.hid hp
  have HQ := Lib.hid hq
  clear hl hr hp hq
  go_enter Tryd.func77, Tryd.ntmps77
  go_wp2
  go_loop [11] (CmpRel l r) (fun i => 10 - (intOf i).toNat)
  case atStart => exact ⟨0, by omega, rfl, rfl⟩
  case round =>
    obtain ⟨k, hk, rfl, ht⟩ := hrel
    have HT := Lib.hid ht
    clear ht
    by_cases hlt : k < 10
    · obtain ⟨a, ha⟩ : ∃ a, l[k]? = some a := ⟨_, List.getElem?_eq_getElem (by rw [HL.out]; exact hlt)⟩
      obtain ⟨b, hb⟩ : ∃ b, r[k]? = some b := ⟨_, List.getElem?_eq_getElem (by rw [HR.out]; exact hlt)⟩
      have ca : w.cell? ⟨ga, k, none⟩ = some (.int .i64 (a : Int)) := by
        have := HP.out k (nV a) (by rw [List.getElem?_map, ha]; rfl)
        rwa [Nat.zero_add] at this
      have cb : w.cell? ⟨gb, k, none⟩ = some (.int .i64 (b : Int)) := by
        have := HQ.out k (nV b) (by rw [List.getElem?_map, hb]; rfl)
        rwa [Nat.zero_add] at this
      have HA := Lib.hid ha
      have HB := Lib.hid hb
      clear ha hb
      go_wp2_with fail
      (with_reducible refine (cmpI_any (a : Int) (b : Int) _).mono ?_)
      rintro e w' ⟨rfl, rfl⟩
      rw [cmpI_nat]
      by_cases h1 : a < b
      · have hcv : Hid (C = -1) := by
          have : C = -1 := by rw [← hC.out, cmpL_skip HT.out HA.out HB.out (by omega), if_pos h1]
          exact this
        rw [if_pos h1]
        clear h1
        go_wp2
        go_ret
        exact ⟨by rw [hcv.out]; rfl, rfl⟩
      · by_cases h2 : b < a
        · have hcv : Hid (C = 1) := by
            have : C = 1 := by rw [← hC.out, cmpL_skip HT.out HA.out HB.out (by omega), if_neg h1]
            exact this
          rw [if_neg h1, if_pos h2]
          clear h1 h2
          go_wp2
          go_ret
          exact ⟨by rw [hcv.out]; rfl, rfl⟩
        · obtain rfl : a = b := by omega
          have hnx : Hid (l.take (k + 1) = r.take (k + 1)) := by
            have : l.take (k + 1) = r.take (k + 1) := by
              obtain ⟨k1, e1⟩ := List.getElem?_eq_some_iff.1 HA.out
              obtain ⟨k2, e2⟩ := List.getElem?_eq_some_iff.1 HB.out
              rw [List.take_succ_eq_append_getElem k1, List.take_succ_eq_append_getElem k2, HT.out, e1, e2]
            exact this
          rw [if_neg h1, if_neg h2]
          clear h1 h2
          go_wp2
          go_round
          case rel => exact ⟨k + 1, by omega, by go_num, hnx.out⟩
          case measure => simp [intOf]; omega
    · obtain rfl : k = 10 := by omega
      have hcv : Hid (C = 0) := by
        have : C = 0 := by
          have h := HT.out
          rw [List.take_of_length_le (by rw [HL.out]; exact Nat.le_refl _), List.take_of_length_le (by rw [HR.out]; exact Nat.le_refl _)] at h
          rw [← hC.out, h]
          exact cmpL_self r
        exact this
      go_wp2
      go_ret
      exact ⟨by rw [hcv.out]; rfl, rfl⟩
theorem run_cutH (g : Nat) (w : World) : (Instr.sliceAt 23 (.pointer (some ⟨g, 0, none⟩)) none none none).run Tryd.prog w = .ok (.slice (some ⟨g, 0, none⟩) 10 10) w := by
  have hu := Tryd.underlying23
  obtain ⟨e1, e2⟩ := arrayLen_of hu
  have hrun := run_sliceAt_array_all (P := Tryd.prog) w 23 ⟨g, 0, none⟩ (by rw [e1, e2]; exact hu)
  have hs := Tryd.szI
  cases hq : Tryd.prog.info? 3 with
  | none => simp [hq] at hs
  | some i =>
    have hz : i.size = 1 := by simpa [hq] using hs
    rw [e1, e2] at hrun
    simp [sizeOf, typeInfo, hq, hz, slicedAt, addr_mid] at hrun
    exact hrun
set_option maxRecDepth 100000 in
set_option maxHeartbeats 1600000 in
theorem compareHeads_any (f g : Nat → Bool) (w : World) :
    Calls Tryd.prog 23 #[.agg (H f).toArray, .agg (H g).toArray] w fun e w' => e = .returned (.int .i64 (cmpH f g)) ∧ Below w.heap.size w w' := by
  obtain ⟨C, hC⟩ : ∃ C, Hid (cmpH f g = C) := ⟨_, rfl⟩
  rw [hC.out]
  have hC2 : Hid (cmpL (HN f) (HN g) = C) := by
    have : cmpL (HN f) (HN g) = C := by rw [cmpL_head, hC.out]
    exact this
  clear hC
  go_enter Tryd.func23, Tryd.ntmps23
  go_wp2_with (with_reducible refine wpList_box (o := ⟨some 2, .box 23 (.tmp 0), _, _, _, _⟩) ?g1 23 (.tmp 0) ?o1 (.agg (H f).toArray) (H f) ?x1 ?c1 ?_)
  try (case g1 => rfl)
  try (case o1 => rfl)
  try (case x1 => rfl)
  try (case c1 => rfl)
  intro gp w1 hgp hs1 hb1 hP1
  go_wp2_with (with_reducible refine wpList_box (o := ⟨some 3, .box 23 (.tmp 1), _, _, _, _⟩) ?g2 23 (.tmp 1) ?o2 (.agg (H g).toArray) (H g) ?x2 ?c2 ?_)
  try (case g2 => rfl)
  try (case o2 => rfl)
  try (case x2 => rfl)
  try (case c2 => rfl)
  intro gq w2 hgq hs2 hb2 hQ2
  have hle : w.heap.size ≤ gp := Nat.le_of_eq hgp.out.symm
  have hab : gp < gq := by have := hgp.out; have := hs1.out; have := hgq.out; omega
  have hP2 := hP1.next hb2 hab
  have hbel := (hb1.mono hle).trans (hb2.mono (by omega))
  clear hgp hs1 hb1 hP1 hgq hs2 hb2
  have hcut : ∀ (g : Nat) (w : World), (Instr.sliceAt 23 (.pointer (some ⟨g, 0, none⟩)) none none none).run Tryd.prog w = .ok (.slice (some ⟨g, 0, none⟩) 10 10) w := fun g w => run_cutH g w
  go_wp2
  go_quiet ((go_at_call 77; exact (scompare_any (HN f) (HN g) gp gq _ (HN_length f) (HN_length g) (blk_range (hP2.drewN _)) (blk_range (hQ2.drewN _))).mono fun _ _ h => ⟨h.1, _, h.2.symm⟩))
  rw [hC2.out]
  have hfin := hbel.trans ((below_drewN w2 nq).mono hbel.size)
  go_wp2
  go_ret
  exact ⟨rfl, hfin⟩
/-- The first of two numbers that is not 0. -/
def orI (a b : Int) : Int := if a = 0 then b else a
def OrRel (a b : Int) (i : Value) : Prop := ∃ k : Nat, k ≤ 2 ∧ i = .int .i64 k ∧ (1 ≤ k → a = 0) ∧ (k = 2 → b = 0)
set_option maxRecDepth 100000 in
set_option maxHeartbeats 1600000 in
theorem or2_any (a b : Int) (g : Nat) (w : World) (h : w.rangeAt g 0 [.int .i64 a, .int .i64 b]) :
    Calls Tryd.prog 78 #[.slice (some ⟨g, 0, none⟩) 2 2] w fun e w' => e = .returned (.int .i64 (orI a b)) ∧ w = w' := by
  have c0 : w.cell? ⟨g, 0, none⟩ = some (.int .i64 a) := h 0 _ rfl
  have c1 : w.cell? ⟨g, 1, none⟩ = some (.int .i64 b) := h 1 _ rfl
  obtain ⟨C, hC⟩ : ∃ C, Hid (orI a b = C) := ⟨_, rfl⟩
  rw [hC.out]
  clear h
  go_enter Tryd.func78, Tryd.ntmps78
  go_wp2
  go_loop [8] (OrRel a b) (fun i => 2 - (intOf i).toNat)
  case atStart => exact ⟨0, by omega, rfl, fun h => absurd h (by omega), fun h => absurd h (by omega)⟩
  case round =>
    obtain ⟨k, hk, rfl, ha, hb⟩ := hrel
    rcases (by omega : k = 0 ∨ k = 1 ∨ k = 2) with rfl | rfl | rfl
    · by_cases h0 : a = 0
      · have hne : (a != 0) = false := by rw [h0]; rfl
        clear ha hb
        have H0 := Lib.hid h0
        clear h0
        go_wp2
        go_round
        case rel => exact ⟨1, by omega, rfl, fun _ => H0.out, fun h => absurd h (by omega)⟩
        case measure => simp [intOf]
      · have hne : (a != 0) = true := bne_iff_ne.2 h0
        have hcv : Hid (C = a) := by
          have : C = a := by rw [← hC.out]; unfold orI; rw [if_neg h0]
          exact this
        clear ha hb h0
        go_wp2
        go_ret
        exact ⟨by rw [hcv.out]; rfl, rfl⟩
    · have H0 := Lib.hid (ha (by omega))
      clear ha hb
      by_cases h0 : b = 0
      · have hne : (b != 0) = false := by rw [h0]; rfl
        have H1 := Lib.hid h0
        clear h0
        go_wp2
        go_round
        case rel => exact ⟨2, by omega, rfl, fun _ => H0.out, fun _ => H1.out⟩
        case measure => simp [intOf]
      · have hne : (b != 0) = true := bne_iff_ne.2 h0
        have hcv : Hid (C = b) := by
          have : C = b := by rw [← hC.out]; unfold orI; rw [if_pos H0.out]
          exact this
        clear h0
        go_wp2
        go_ret
        exact ⟨by rw [hcv.out]; rfl, rfl⟩
    · have hcv : Hid (C = 0) := by
        have : C = 0 := by rw [← hC.out]; unfold orI; rw [if_pos (ha (by omega))]; exact hb rfl
        exact this
      clear ha hb
      go_wp2
      go_ret
      exact ⟨by rw [hcv.out]; rfl, rfl⟩
theorem mul_pow_lt {x q : Nat} (h : x < 65536) : x / 2 ^ q < 65536 := Nat.lt_of_le_of_lt (Nat.div_le_self _ _) h
theorem and_one (n : Nat) (h : n < 65536) : bits .and .i64 (n : Int) 1 = ((n % 2 : Nat) : Int) := by
  have := and_nat n 1 h (by decide)
  rw [Nat.and_one_is_mod] at this
  exact this
set_option maxRecDepth 100000 in
set_option maxHeartbeats 1600000 in
theorem bit_any (f : Nat → Bool) (i : Nat) (w : World) (hi : i < 160) :
    Calls Tryd.prog 21 #[.agg (H f).toArray, .int .i64 (i : Int)] w fun e w' => e = .returned (.int .i64 ((f i).toNat : Int)) ∧ Below w.heap.size w w' := by
  obtain ⟨q, hq⟩ : ∃ q, i / 16 = q := ⟨_, rfl⟩
  obtain ⟨s, hs⟩ : ∃ s, 15 - i % 16 = s := ⟨_, rfl⟩
  obtain ⟨x, hx⟩ : ∃ x, word f q = x := ⟨_, rfl⟩
  have hx6 := word_lt f q
  have hHk := H_get f (w := q) (by omega)
  have hb : (f i).toNat = x / 2 ^ s % 2 := by
    have h1 := word_test f q s
    rw [hx, decide_eq_true (show s < 16 by omega), Bool.true_and, show 16 * q + (15 - s) = i by omega] at h1
    rw [← h1, Nat.testBit_eq_decide_div_mod_eq]
    have h2 : x / 2 ^ s % 2 < 2 := Nat.mod_lt _ (by decide)
    rcases (by omega : x / 2 ^ s % 2 = 0 ∨ x / 2 ^ s % 2 = 1) with h3 | h3 <;> rw [h3] <;> rfl
  rw [hx] at hx6 hHk
  rw [hb]
  have han := and_one (x / 2 ^ s) (mul_pow_lt hx6)
  obtain ⟨y, hy⟩ : ∃ y, x / 2 ^ s = y := ⟨_, rfl⟩
  rw [hy] at han ⊢
  have hdv : (x : Int) / 2 ^ s = (y : Int) := by rw [← hy, Int.natCast_ediv]; simp
  have hq16 : (i : Int) / 16 = (q : Int) := by omega
  have hs15 : 15 - (i : Int) % 16 = (s : Int) := by omega
  have hi0 : (0 : Int) ≤ (i : Int) := by omega
  have hi1 : (i : Int) < 160 := by omega
  have hq10 : q < 10 := by omega
  have hs16 : s ≤ 15 := by omega
  have HHk := Lib.hid hHk
  clear hx hq hs hb hHk hy
  go_enter Tryd.func21, Tryd.ntmps21
  go_wp2_with (with_reducible refine wpList_box (o := ⟨some 2, .box 23 (.tmp 0), _, _, _, _⟩) ?g1 23 (.tmp 0) ?o1 (.agg (H f).toArray) (H f) ?x1 ?c1 ?_)
  try (case g1 => rfl)
  try (case o1 => rfl)
  try (case x1 => rfl)
  try (case c1 => rfl)
  intro gp w1 hgp hs1 hb1 hP1
  have hbel : Below w.heap.size w w1 := hb1.mono (Nat.le_of_eq hgp.out.symm)
  have cq : w1.cell? ⟨gp, q, none⟩ = some (.int .i64 (x : Int)) := hP1.cell HHk.out
  clear hgp hs1 hb1
  go_wp2
  go_ret
  exact ⟨rfl, hbel⟩
end Go.Proofs.YtbldnhpbmfmepaaDoor

/-
  Contracts of the walks over the reference's value, Bit and set. Conditions: the bit is one of a head.
-/
namespace Go.Proofs.YtbldnhpbmfmepaaDoor
set_option linter.unusedVariables false
set_option linter.unusedSimpArgs false
open Go.RowKit

def ValRel (m : Nat) (v i : Value) : Prop := ∃ k : Nat, k ≤ m ∧ i = .int .i64 k ∧ v = .int .i64 ((2 ^ (15 - k) : Nat) : Int)
theorem pow_half {k : Nat} (h : k < 15) : 2 ^ (15 - k) / 2 = 2 ^ (15 - (k + 1)) := by
  rw [show 15 - k = 15 - (k + 1) + 1 by omega, Nat.pow_succ, Nat.mul_div_cancel _ (by decide)]
set_option maxRecDepth 100000 in
set_option maxHeartbeats 1600000 in
theorem rvalue_any (i : Nat) (w : World) (hi : i < 160) :
    Calls Tryd.prog 76 #[.int .i64 (i : Int)] w fun e w' => e = .returned (.int .i64 ((2 ^ (15 - i % 16) : Nat) : Int)) ∧ w = w' := by
  obtain ⟨m, hm⟩ : ∃ m, i % 16 = m := ⟨_, rfl⟩
  have hm16 : m < 16 := by omega
  have hmi : (i : Int) % 16 = (m : Int) := by omega
  have hi0 : (0 : Int) ≤ (i : Int) := by omega
  rw [hm]
  obtain ⟨V, hV⟩ : ∃ V : Nat, Hid (2 ^ (15 - m) = V) := ⟨_, rfl⟩
  rw [hV.out]
  clear hm
  go_enter Tryd.func76, Tryd.ntmps76
  go_wp2
  go_loop [3, 4] (ValRel m) (fun _ i => m - (intOf i).toNat)
  case atStart => exact ⟨0, by omega, rfl, rfl⟩
  case round =>
    obtain ⟨k, hk, rfl, rfl⟩ := hrel
    by_cases hlt : k < m
    · have hki : (k : Int) < (m : Int) := by omega
      have hp := pow_half (k := k) (by omega)
      obtain ⟨x, hx⟩ : ∃ x : Nat, 2 ^ (15 - k) = x := ⟨_, rfl⟩
      obtain ⟨y, hy⟩ : ∃ y : Nat, 2 ^ (15 - (k + 1)) = y := ⟨_, rfl⟩
      have hx6 : x ≤ 32768 := by rw [← hx]; exact Nat.pow_le_pow_right (by decide) (by omega : 15 - k ≤ 15)
      rw [hx, hy] at hp
      rw [hx]
      have hdv : (x : Int) / 2 = (y : Int) := by omega
      have HY := Lib.hid hy
      clear hx hy hp
      go_wp2
      go_round
      case rel => exact ⟨k + 1, by omega, by go_num, by rw [HY.out]⟩
      case measure => simp [intOf]; omega
    · obtain rfl : k = m := by omega
      rw [hV.out]
      clear hV
      go_wp2
      go_ret
      exact ⟨rfl, rfl⟩
theorem rbit_eq {f : Nat → Bool} {i q s x : Nat} (_hi : i < 160) (hq : i / 16 = q) (hs : 15 - i % 16 = s) (hx : word f q = x) : (f i).toNat = x / 2 ^ s % 2 := by
  have h1 := word_test f q s
  rw [hx, decide_eq_true (show s < 16 by omega), Bool.true_and, show 16 * q + (15 - s) = i by omega] at h1
  rw [← h1, Nat.testBit_eq_decide_div_mod_eq]
  have h2 : x / 2 ^ s % 2 < 2 := Nat.mod_lt _ (by decide)
  rcases (by omega : x / 2 ^ s % 2 = 0 ∨ x / 2 ^ s % 2 = 1) with h3 | h3 <;> rw [h3] <;> rfl
set_option maxRecDepth 100000 in
set_option maxHeartbeats 1600000 in
theorem rbit_any (f : Nat → Bool) (i : Nat) (w : World) (hi : i < 160) :
    Calls Tryd.prog 22 #[.agg (H f).toArray, .int .i64 (i : Int)] w fun e w' => e = .returned (.int .i64 ((f i).toNat : Int)) ∧ Below w.heap.size w w' := by
  obtain ⟨q, hq⟩ : ∃ q, i / 16 = q := ⟨_, rfl⟩
  obtain ⟨s, hs⟩ : ∃ s, 15 - i % 16 = s := ⟨_, rfl⟩
  obtain ⟨x, hx⟩ : ∃ x, word f q = x := ⟨_, rfl⟩
  have hx6 := word_lt f q
  have hHk := H_get f (w := q) (by omega)
  have hb := rbit_eq hi hq hs hx
  have hval := rvalue_any i
  rw [hx] at hx6 hHk
  rw [hs] at hval
  obtain ⟨P, hP⟩ : ∃ P : Nat, 2 ^ s = P := ⟨_, rfl⟩
  have hP0 : 0 < P := by rw [← hP]; exact Nat.two_pow_pos s
  have hP1 : P ≤ 32768 := by rw [← hP]; exact Nat.pow_le_pow_right (by decide) (by omega : s ≤ 15)
  rw [hP] at hval hb
  obtain ⟨y, hy⟩ : ∃ y, x / P = y := ⟨_, rfl⟩
  have hyx : y ≤ x := by rw [← hy]; exact Nat.div_le_self _ _
  have hdv : (x : Int) / (P : Int) = (y : Int) := by rw [← hy, Int.natCast_ediv]
  rw [hy] at hb
  have hB : Hid (((f i).toNat : Int) = (y : Int) % 2) := by
    have : ((f i).toNat : Int) = (y : Int) % 2 := by rw [hb]; omega
    exact this
  rw [hB.out]
  have hq16 : (i : Int) / 16 = (q : Int) := by omega
  have hi0 : (0 : Int) ≤ (i : Int) := by omega
  have hi1 : (i : Int) < 160 := by omega
  have hq10 : q < 10 := by omega
  have HHk := Lib.hid hHk
  have HV := Lib.hid hval
  clear hx hq hs hb hHk hy hval hP hB
  go_enter Tryd.func22, Tryd.ntmps22
  go_wp2_with (with_reducible refine wpList_box (o := ⟨some 2, .box 23 (.tmp 0), _, _, _, _⟩) ?g1 23 (.tmp 0) ?o1 (.agg (H f).toArray) (H f) ?x1 ?c1 ?_)
  try (case g1 => rfl)
  try (case o1 => rfl)
  try (case x1 => rfl)
  try (case c1 => rfl)
  intro gp w1 hgp hs1 hb1 hP2
  have hbel : Below w.heap.size w w1 := hb1.mono (Nat.le_of_eq hgp.out.symm)
  have cq : w1.cell? ⟨gp, q, none⟩ = some (.int .i64 (x : Int)) := hP2.cell HHk.out
  clear hgp hs1 hb1
  go_wp2
  go_quiet ((go_at_call 76; exact Calls.quiet_of_same ((HV.out _ hi).mono fun _ _ h => ⟨h.1, h.2.symm⟩)))
  have hfin := hbel.trans ((below_drewN w1 nq).mono hbel.size)
  go_wp2
  go_ret
  exact ⟨rfl, hfin⟩
/-- A head with one bit turned. -/
def upd (f : Nat → Bool) (i : Nat) (b : Bool) : Nat → Bool := fun j => if j = i then b else f j
theorem upd_word {f : Nat → Bool} {i q s : Nat} (_hi : i < 160) (hq : i / 16 = q) (hs : 15 - i % 16 = s) (b : Bool) : (word (upd f i b) q : Int) = (word f q : Int) + ((b.toNat : Int) - ((f i).toNat : Int)) * ((2 ^ s : Nat) : Int) := by
  have key : ∀ g : Nat → Bool, (∀ j, j ≠ i → g j = f j) → word g q = wordB f (16 * q) (15 - s) * 2 ^ (s + 1) + (g i).toNat * 2 ^ s + wordB f (i + 1) s := by
    intro g hg
    have h1 := wordB_add g (16 * q) (15 - s + 1) s
    rw [show 15 - s + 1 + s = 16 by omega] at h1
    have h2 : wordB g (16 * q) (15 - s + 1) = 2 * wordB g (16 * q) (15 - s) + (g (16 * q + (15 - s))).toNat := rfl
    rw [show 16 * q + (15 - s) = i by omega] at h2
    have h3 : wordB g (16 * q) (15 - s) = wordB f (16 * q) (15 - s) := wordB_congr fun j hj => hg _ (by omega)
    have h4 : wordB g (16 * q + (15 - s + 1)) s = wordB f (i + 1) s := by
      rw [show 16 * q + (15 - s + 1) = i + 1 by omega]
      exact wordB_congr fun j hj => hg _ (by omega)
    show wordB g (16 * q) 16 = _
    rw [h1, h2, h3, h4, Nat.add_mul, Nat.pow_succ, Nat.mul_comm (2 ^ s) 2, ← Nat.mul_assoc, Nat.mul_comm _ 2]
  have e1 := key f (fun _ _ => rfl)
  have e2 := key (upd f i b) (fun j hj => by unfold upd; rw [if_neg hj])
  have e3 : upd f i b i = b := by unfold upd; rw [if_pos rfl]
  rw [e3] at e2
  have c1 : (word f q : Int) = (wordB f (16 * q) (15 - s) * 2 ^ (s + 1) : Nat) + ((f i).toNat : Int) * ((2 ^ s : Nat) : Int) + (wordB f (i + 1) s : Int) := by rw [e1, Int.natCast_add, Int.natCast_add, Int.natCast_mul (f i).toNat]
  have c2 : (word (upd f i b) q : Int) = (wordB f (16 * q) (15 - s) * 2 ^ (s + 1) : Nat) + (b.toNat : Int) * ((2 ^ s : Nat) : Int) + (wordB f (i + 1) s : Int) := by rw [e2, Int.natCast_add, Int.natCast_add, Int.natCast_mul b.toNat]
  rw [c1, c2, Int.sub_mul]
  omega
theorem upd_H {f : Nat → Bool} {i q : Nat} (hi : i < 160) (hq : i / 16 = q) (b : Bool) : (H f).set q (.int .i64 (word (upd f i b) q : Int)) = H (upd f i b) := by
  rw [H_set f _ (by omega)]
  refine H_congr fun j _ => ?_
  by_cases h : j / 16 = q
  · rw [if_pos h]
  · rw [if_neg h]
    unfold upd
    rw [if_neg (by omega)]
set_option maxRecDepth 100000 in
set_option maxHeartbeats 1600000 in
theorem rset_any (f : Nat → Bool) (i : Nat) (b : Bool) (w : World) (hi : i < 160) :
    Calls Tryd.prog 84 #[.agg (H f).toArray, .int .i64 (i : Int), .int .i64 (b.toNat : Int)] w fun e w' => e = .returned (.agg (H (upd f i b)).toArray) ∧ Below w.heap.size w w' := by
  obtain ⟨R, hR⟩ : ∃ R, Hid (H (upd f i b) = R) := ⟨_, rfl⟩
  have hRl : Hid (R.length = 10) := by rw [← hR.out]; exact H_length _
  have hR1 : Hid (∀ u ∈ R, u.oneCell' = true) := by rw [← hR.out]; exact H_one _
  rw [hR.out]
  obtain ⟨q, hq⟩ : ∃ q, i / 16 = q := ⟨_, rfl⟩
  obtain ⟨s, hs⟩ : ∃ s, 15 - i % 16 = s := ⟨_, rfl⟩
  have hu := upd_word (f := f) hi hq hs b
  have hU := upd_H (f := f) hi hq b
  have hHk := H_get f (w := q) (by omega)
  have hx6 := word_lt f q
  have hv6 := word_lt (upd f i b) q
  rw [hR.out] at hU
  obtain ⟨x, hx⟩ : ∃ x, word f q = x := ⟨_, rfl⟩
  obtain ⟨v, hv⟩ : ∃ v, word (upd f i b) q = v := ⟨_, rfl⟩
  rw [hx] at hu hHk hx6
  rw [hv] at hu hU hv6
  obtain ⟨P, hP⟩ : ∃ P : Nat, 2 ^ s = P := ⟨_, rfl⟩
  have hP1 : P ≤ 32768 := by rw [← hP]; exact Nat.pow_le_pow_right (by decide) (by omega : s ≤ 15)
  have hval := rvalue_any i
  rw [hs, hP] at hval
  rw [hP] at hu
  obtain ⟨B, hB⟩ : ∃ B : Nat, b.toNat = B := ⟨_, rfl⟩
  obtain ⟨C, hC⟩ : ∃ C : Nat, (f i).toNat = C := ⟨_, rfl⟩
  have hB1 : B ≤ 1 := by rw [← hB]; exact Bool.toNat_le b
  have hC1 : C ≤ 1 := by rw [← hC]; exact Bool.toNat_le _
  have hbit := rbit_any f i
  rw [hC] at hbit hu
  rw [hB] at hu ⊢
  have hmul : ((B : Int) - (C : Int)) * (P : Int) = (v : Int) - (x : Int) := by omega
  have hq16 : (i : Int) / 16 = (q : Int) := by omega
  have hi0 : (0 : Int) ≤ (i : Int) := by omega
  have hi1 : (i : Int) < 160 := by omega
  have hq10 : q < 10 := by omega
  have HHk := Lib.hid hHk
  have HV := Lib.hid hval
  have HBT := Lib.hid hbit
  have HU := Lib.hid hU
  clear hx hq hs hHk hval hP hU hv hbit hB hC hu
  have hwq : IntKind.i64.wrap (q : Int) = (q : Int) := by simp only [IntKind.wrap_i64]; omega
  have hq0 : (0 : Int) ≤ (q : Int) := by omega
  have hq10i : (q : Int) < 10 := by omega
  have hwd : IntKind.i64.wrap ((B : Int) - (C : Int)) = (B : Int) - (C : Int) := by simp only [IntKind.wrap_i64]; omega
  have hwm : IntKind.i64.wrap (((B : Int) - (C : Int)) * (P : Int)) = (v : Int) - (x : Int) := by rw [hmul]; simp only [IntKind.wrap_i64]; omega
  have hwa : IntKind.i64.wrap ((x : Int) + ((v : Int) - (x : Int))) = (v : Int) := by simp only [IntKind.wrap_i64]; omega
  clear hmul
  go_enter Tryd.func84, Tryd.ntmps84
  go_wp2_with (with_reducible refine wpList_box (o := ⟨some 3, .box 23 (.tmp 0), _, _, _, _⟩) ?g1 23 (.tmp 0) ?o1 (.agg (H f).toArray) (H f) ?x1 ?c1 ?_)
  try (case g1 => rfl)
  try (case o1 => rfl)
  try (case x1 => rfl)
  try (case c1 => rfl)
  intro gp w1 hgp hs1 hb1 hP1'
  go_wp2_with (with_reducible refine wpList_alloc (o := ⟨some 6, .alloc 23, _, _, _, _⟩) (by with_unfolding_all rfl) 23 (by with_unfolding_all rfl) (.agg (H no).toArray) (H no) (by exact Tryd.zeroH) (by with_unfolding_all rfl) ?_)
  intro gr w2 hgr hs2 hb2 hR2
  have hle : w.heap.size ≤ gp := Nat.le_of_eq hgp.out.symm
  have hab : gp < gr := by have := hgp.out; have := hs1.out; have := hgr.out; omega
  have hP2 := hP1'.next hb2 hab
  have hbel := (hb1.mono hle).trans (hb2.mono (by omega : w.heap.size ≤ gr))
  clear hgp hs1 hb1 hP1' hgr hs2 hb2
  go_wp2
  have hun := Tryd.underlying23
  have hz1 : (Tryd.prog.info? 23).map (·.size) = some (H f).length := by rw [H_length]; exact Tryd.szH
  have hdd := below_drew w2
  refine wp_region_held_drew (S := fun _ => True) (by kernel_rfl) trivial (fun hHeld => ?_)
  have hB := hP2.next hdd hP2.lt
  have hR := hR2.next hdd hR2.lt
  have hbw := hdd
  clear hP2 hR2
  generalize w2.drew = wd at hB hR hbw ⊢
  clear hdd
  refine wpAnyH_take (i := 0) (v := ?vv0) rfl (by kernel_rfl) (by kernel_rfl) (by kernel_rfl) (fun _ _ _ h => h) (Or.inl ⟨by rfl, ?yv0⟩) (by assumption) ?rv0
  case yv0 => intro w hSw; (try dsimp only at hSw); go_simp <;> (try with_reducible rfl)
  (try simp only [List.getElem_toArray, List.getElem_cons_zero, Act.put, List.setIfInBounds_toArray, List.set_cons_zero, List.set_cons_succ])
  refine wpAnyH_take (i := 1) (v := ?vv1) rfl (by kernel_rfl) (by kernel_rfl) (by kernel_rfl) (fun _ _ _ h => h) (Or.inl ⟨by rfl, ?yv1⟩) (by assumption) ?rv1
  case yv1 => intro w hSw; (try dsimp only at hSw); go_simp <;> (try with_reducible rfl)
  (try simp only [List.getElem_toArray, List.getElem_cons_succ, List.getElem_cons_zero, Act.put, List.setIfInBounds_toArray, List.set_cons_zero, List.set_cons_succ])
  refine wpAnyH_take (i := 2) (v := ?vv2) rfl (by kernel_rfl) (by kernel_rfl) (by kernel_rfl) (fun _ _ _ h => h) (Or.inl ⟨by rfl, ?yv2⟩) (by assumption) ?rv2
  case yv2 => intro w hSw; (try dsimp only at hSw); go_simp <;> (try with_reducible rfl)
  (try simp only [List.getElem_toArray, List.getElem_cons_succ, List.getElem_cons_zero, Act.put, List.setIfInBounds_toArray, List.set_cons_zero, List.set_cons_succ])
  refine wpAnyH_take (i := 3) (v := ?vv3) rfl (by kernel_rfl) (by kernel_rfl) (by kernel_rfl) (fun _ _ _ h => h) (Or.inl ⟨by rfl, ?yv3⟩) (by assumption) ?rv3
  case yv3 => intro w hSw; (try dsimp only at hSw); go_simp <;> (try with_reducible rfl)
  (try simp only [List.getElem_toArray, List.getElem_cons_succ, List.getElem_cons_zero, Act.put, List.setIfInBounds_toArray, List.set_cons_zero, List.set_cons_succ])
  refine wpAnyH_take (i := 4) (v := ?vv4) rfl (by kernel_rfl) (by kernel_rfl) (by kernel_rfl) (fun _ _ _ h => h) (Or.inl ⟨by rfl, ?yv4⟩) (by assumption) ?rv4
  case yv4 => intro w hSw; (try dsimp only at hSw); go_simp <;> (try with_reducible rfl)
  (try simp only [List.getElem_toArray, List.getElem_cons_succ, List.getElem_cons_zero, Act.put, List.setIfInBounds_toArray, List.set_cons_zero, List.set_cons_succ])
  refine wpAnyH_take (i := 6) (v := ?vv6) rfl (by kernel_rfl) (by kernel_rfl) (by kernel_rfl) (fun _ _ _ h => h) (Or.inl ⟨by rfl, ?yv6⟩) (by assumption) ?rv6
  case yv6 => intro w hSw; (try dsimp only at hSw); go_simp <;> (try with_reducible rfl)
  (try simp only [List.getElem_toArray, List.getElem_cons_succ, List.getElem_cons_zero, Act.put, List.setIfInBounds_toArray, List.set_cons_zero, List.set_cons_succ])
  refine wpAnyH_take (i := 8) (v := ?vv8) rfl (by kernel_rfl) (by kernel_rfl) (by kernel_rfl) (fun _ _ _ h => h) (Or.inl ⟨by rfl, ?yv8⟩) (by assumption) ?rv8
  case yv8 => intro w hSw; (try dsimp only at hSw); go_simp <;> (try with_reducible rfl)
  (try simp only [List.getElem_toArray, List.getElem_cons_succ, List.getElem_cons_zero, Act.put, List.setIfInBounds_toArray, List.set_cons_zero, List.set_cons_succ])
  refine wpAnyH_take (i := 11) (v := ?vv11) rfl (by kernel_rfl) (by kernel_rfl) (by kernel_rfl) (fun _ _ _ h => h) (Or.inl ⟨by rfl, ?yv11⟩) (by assumption) ?rv11
  case yv11 => intro w hSw; (try dsimp only at hSw); go_simp <;> (try with_reducible rfl)
  (try simp only [List.getElem_toArray, List.getElem_cons_succ, List.getElem_cons_zero, Act.put, List.setIfInBounds_toArray, List.set_cons_zero, List.set_cons_succ])
  apply rest1
  · intro hrest
    refine wpAnyH_ready (rs := [5, 7]) (by kernel_rfl) (by simp) ?_
    refine AllReadyH.cons rfl (fun K hK => ?_) (AllReadyH.cons rfl (fun K hK => ?_) AllReadyH.nil)
    · skip
      have cq := hB.cell HHk.out
      go_simp
      refine hK.out _ _ trivial (fun hHeld => ?_)
      clear hK K cq
      refine wpAnyH_ready (rs := [7]) (by kernel_rfl) (by simp) ?_
      refine AllReadyH.cons rfl (fun K hK => ?_) AllReadyH.nil
      rw [if_pos (by rfl)]
      refine' wp_load_mid _ _ rfl gp 0 rfl (H f) _ ?ca1 ?ua1 ?da1 ?ia1 ?ra1
      case ca1 => exact blk_range hB
      case ua1 => exact hun
      case da1 => rfl
      case ia1 => exact hz1
      (try simp only [List.getElem_toArray, List.getElem_cons_succ, List.getElem_cons_zero, Act.put, List.setIfInBounds_toArray, List.set_cons_zero, List.set_cons_succ])
      refine hK.out _ _ trivial (fun hHeld => ?_)
      clear hK K
      refine wpAnyH_ready (rs := [9]) (by kernel_rfl) (by simp) ?_
      refine AllReadyH.cons rfl (fun K hK => ?_) AllReadyH.nil
      go_simp
      go_wp2_with fail
      (with_reducible refine (HBT.out _ hi).mono ?_)
      rintro e wa ⟨rfl, hbz⟩
      replace hB := hB.next hbz hB.lt
      replace hR := hR.next hbz hR.lt
      replace hbw := below_join hbw hbz
      clear hbz
      refine hK.out _ _ trivial (fun hHeld => ?_)
      clear hK K
      refine wpAnyH_take (i := 10) (v := ?vta10) rfl (by kernel_rfl) (by kernel_rfl) (by kernel_rfl) (fun _ _ _ h => h) (Or.inl ⟨by rfl, ?yta10⟩) (by assumption) ?rta10
      case yta10 => intro w hSw; (try dsimp only at hSw); go_simp <;> (try with_reducible rfl)
      (try simp only [List.getElem_toArray, List.getElem_cons_succ, List.getElem_cons_zero, Act.put, List.setIfInBounds_toArray, List.set_cons_zero, List.set_cons_succ])
      refine wpAnyH_ready (rs := [12]) (by kernel_rfl) (by simp) ?_
      refine AllReadyH.cons rfl (fun K hK => ?_) AllReadyH.nil
      go_simp
      go_wp2_with fail
      (with_reducible refine (HV.out _ hi).mono ?_)
      rintro e wv ⟨rfl, hwv⟩
      subst hwv
      refine hK.out _ _ trivial (fun hHeld => ?_)
      clear hK K
      refine wpAnyH_take (i := 13) (v := ?vm0x13) rfl (by kernel_rfl) (by kernel_rfl) (by kernel_rfl) (fun _ _ _ h => h) (Or.inl ⟨by rfl, ?ym0x13⟩) (by assumption) ?rm0x13
      case ym0x13 => intro w hSw; (try dsimp only at hSw); go_simp <;> (try with_reducible rfl)
      (try simp only [List.getElem_toArray, List.getElem_cons_succ, List.getElem_cons_zero, Act.put, List.setIfInBounds_toArray, List.set_cons_zero, List.set_cons_succ])
      revert hB hR hbw
      exact hrest wa
    · skip
      rw [if_pos (by rfl)]
      refine' wp_load_mid _ _ rfl gp 0 rfl (H f) _ ?ca2 ?ua2 ?da2 ?ia2 ?ra2
      case ca2 => exact blk_range hB
      case ua2 => exact hun
      case da2 => rfl
      case ia2 => exact hz1
      (try simp only [List.getElem_toArray, List.getElem_cons_succ, List.getElem_cons_zero, Act.put, List.setIfInBounds_toArray, List.set_cons_zero, List.set_cons_succ])
      refine hK.out _ _ trivial (fun hHeld => ?_)
      clear hK K
      refine wpAnyH_ready (rs := [5, 9]) (by kernel_rfl) (by simp) ?_
      refine AllReadyH.cons rfl (fun K hK => ?_) (AllReadyH.cons rfl (fun K hK => ?_) AllReadyH.nil)
      · skip
        have cq := hB.cell HHk.out
        go_simp
        refine hK.out _ _ trivial (fun hHeld => ?_)
        clear hK K cq
        refine wpAnyH_ready (rs := [9]) (by kernel_rfl) (by simp) ?_
        refine AllReadyH.cons rfl (fun K hK => ?_) AllReadyH.nil
        go_simp
        go_wp2_with fail
        (with_reducible refine (HBT.out _ hi).mono ?_)
        rintro e wa ⟨rfl, hbz⟩
        replace hB := hB.next hbz hB.lt
        replace hR := hR.next hbz hR.lt
        replace hbw := below_join hbw hbz
        clear hbz
        refine hK.out _ _ trivial (fun hHeld => ?_)
        clear hK K
        refine wpAnyH_take (i := 10) (v := ?vtb10) rfl (by kernel_rfl) (by kernel_rfl) (by kernel_rfl) (fun _ _ _ h => h) (Or.inl ⟨by rfl, ?ytb10⟩) (by assumption) ?rtb10
        case ytb10 => intro w hSw; (try dsimp only at hSw); go_simp <;> (try with_reducible rfl)
        (try simp only [List.getElem_toArray, List.getElem_cons_succ, List.getElem_cons_zero, Act.put, List.setIfInBounds_toArray, List.set_cons_zero, List.set_cons_succ])
        refine wpAnyH_ready (rs := [12]) (by kernel_rfl) (by simp) ?_
        refine AllReadyH.cons rfl (fun K hK => ?_) AllReadyH.nil
        go_simp
        go_wp2_with fail
        (with_reducible refine (HV.out _ hi).mono ?_)
        rintro e wv ⟨rfl, hwv⟩
        subst hwv
        refine hK.out _ _ trivial (fun hHeld => ?_)
        clear hK K
        refine wpAnyH_take (i := 13) (v := ?vm1x13) rfl (by kernel_rfl) (by kernel_rfl) (by kernel_rfl) (fun _ _ _ h => h) (Or.inl ⟨by rfl, ?ym1x13⟩) (by assumption) ?rm1x13
        case ym1x13 => intro w hSw; (try dsimp only at hSw); go_simp <;> (try with_reducible rfl)
        (try simp only [List.getElem_toArray, List.getElem_cons_succ, List.getElem_cons_zero, Act.put, List.setIfInBounds_toArray, List.set_cons_zero, List.set_cons_succ])
        revert hB hR hbw
        exact hrest wa
      · skip
        go_simp
        go_wp2_with fail
        (with_reducible refine (HBT.out _ hi).mono ?_)
        rintro e wa ⟨rfl, hbz⟩
        replace hB := hB.next hbz hB.lt
        replace hR := hR.next hbz hR.lt
        replace hbw := below_join hbw hbz
        clear hbz
        refine hK.out _ _ trivial (fun hHeld => ?_)
        clear hK K
        refine wpAnyH_take (i := 10) (v := ?vtc10) rfl (by kernel_rfl) (by kernel_rfl) (by kernel_rfl) (fun _ _ _ h => h) (Or.inl ⟨by rfl, ?ytc10⟩) (by assumption) ?rtc10
        case ytc10 => intro w hSw; (try dsimp only at hSw); go_simp <;> (try with_reducible rfl)
        (try simp only [List.getElem_toArray, List.getElem_cons_succ, List.getElem_cons_zero, Act.put, List.setIfInBounds_toArray, List.set_cons_zero, List.set_cons_succ])
        refine wpAnyH_ready (rs := [5, 12]) (by kernel_rfl) (by simp) ?_
        refine AllReadyH.cons rfl (fun K hK => ?_) (AllReadyH.cons rfl (fun K hK => ?_) AllReadyH.nil)
        · skip
          have cq := hB.cell HHk.out
          go_simp
          refine hK.out _ _ trivial (fun hHeld => ?_)
          clear hK K cq
          refine wpAnyH_ready (rs := [12]) (by kernel_rfl) (by simp) ?_
          refine AllReadyH.cons rfl (fun K hK => ?_) AllReadyH.nil
          go_simp
          go_wp2_with fail
          (with_reducible refine (HV.out _ hi).mono ?_)
          rintro e wv ⟨rfl, hwv⟩
          subst hwv
          refine hK.out _ _ trivial (fun hHeld => ?_)
          clear hK K
          refine wpAnyH_take (i := 13) (v := ?vm2x13) rfl (by kernel_rfl) (by kernel_rfl) (by kernel_rfl) (fun _ _ _ h => h) (Or.inl ⟨by rfl, ?ym2x13⟩) (by assumption) ?rm2x13
          case ym2x13 => intro w hSw; (try dsimp only at hSw); go_simp <;> (try with_reducible rfl)
          (try simp only [List.getElem_toArray, List.getElem_cons_succ, List.getElem_cons_zero, Act.put, List.setIfInBounds_toArray, List.set_cons_zero, List.set_cons_succ])
          revert hB hR hbw
          exact hrest wa
        · skip
          go_simp
          go_wp2_with fail
          (with_reducible refine (HV.out _ hi).mono ?_)
          rintro e wv ⟨rfl, hwv⟩
          subst hwv
          refine hK.out _ _ trivial (fun hHeld => ?_)
          clear hK K
          refine wpAnyH_take (i := 13) (v := ?vm3x13) rfl (by kernel_rfl) (by kernel_rfl) (by kernel_rfl) (fun _ _ _ h => h) (Or.inl ⟨by rfl, ?ym3x13⟩) (by assumption) ?rm3x13
          case ym3x13 => intro w hSw; (try dsimp only at hSw); go_simp <;> (try with_reducible rfl)
          (try simp only [List.getElem_toArray, List.getElem_cons_succ, List.getElem_cons_zero, Act.put, List.setIfInBounds_toArray, List.set_cons_zero, List.set_cons_succ])
          refine wpAnyH_ready (rs := [5]) (by kernel_rfl) (by simp) ?_
          refine AllReadyH.cons rfl (fun K hK => ?_) AllReadyH.nil
          have cq := hB.cell HHk.out
          go_simp
          refine hK.out _ _ trivial (fun hHeld => ?_)
          clear hK K cq
          revert hB hR hbw
          exact hrest wa
  intro wq hB hR hbw
  refine wpAnyH_take (i := 14) (v := ?vz14) rfl (by kernel_rfl) (by kernel_rfl) (by kernel_rfl) (fun _ _ _ h => h) (Or.inl ⟨by rfl, ?yz14⟩) (by assumption) ?rz14
  case yz14 => intro w hSw; (try dsimp only at hSw); go_simp <;> (try with_reducible rfl)
  (try simp only [List.getElem_toArray, List.getElem_cons_succ, List.getElem_cons_zero, Act.put, List.setIfInBounds_toArray, List.set_cons_zero, List.set_cons_succ])
  refine wpAnyH_take (i := 15) (v := ?vz15) rfl (by kernel_rfl) (by kernel_rfl) (by kernel_rfl) (fun _ _ _ h => h) (Or.inl ⟨by rfl, ?yz15⟩) (by assumption) ?rz15
  case yz15 => intro w hSw; (try dsimp only at hSw); go_simp <;> (try with_reducible rfl)
  (try simp only [List.getElem_toArray, List.getElem_cons_succ, List.getElem_cons_zero, Act.put, List.setIfInBounds_toArray, List.set_cons_zero, List.set_cons_succ])
  refine wpAnyH_ready (rs := [16]) (by kernel_rfl) (by simp) ?_
  refine AllReadyH.cons rfl (fun K hK => ?_) AllReadyH.nil
  rw [if_pos (by rfl)]
  refine wp_put 3 (.tmp 22) (.tmp 21) rfl gp q rfl (.int .i64 (v : Int)) rfl hB [.int .i64 (v : Int)] rfl Tryd.szI (by rw [H_length]; exact hq10) (one_cell1 rfl) ?_
  intro wz huz hBz
  have e4 : splice (H f) q [.int .i64 (v : Int)] = R := by rw [splice_set _ _ _ (by rw [H_length]; exact hq10)]; exact HU.out
  rw [e4] at hBz
  have hRz := hR.upd huz (by omega)
  have hbz := (hbel.trans (hbw.mono hbel.size)).trans (huz.below (B := w.heap.size) hle)
  refine hK.out _ _ trivial (fun hHeld => ?_)
  clear hK K hB hR hbw huz e4
  refine wpAnyH_done (by kernel_rfl) ?_ _
  go_wp2_with (first | (with_reducible refine wpList_get (o := ⟨some 23, .load 23 (.tmp 3), _, _, _, _⟩) (by with_unfolding_all rfl) 23 (.tmp 3) (by with_unfolding_all rfl) gp 0 (by with_unfolding_all rfl) hBz R (cs_all _) _ (by exact Tryd.underlying23) (by with_unfolding_all rfl) (by rw [hRl.out]; exact Tryd.szH) ?_) | (with_reducible refine wpList_put (o := ⟨none, .store 23 (.tmp 6) (.tmp 23), _, _, _, _⟩) (by with_unfolding_all rfl) 23 (.tmp 6) (.tmp 23) (by with_unfolding_all rfl) gr 0 (by with_unfolding_all rfl) (.agg R.toArray) (by with_unfolding_all rfl) hRz R (by with_unfolding_all rfl) (by with_unfolding_all (rw [hRl.out]; exact Tryd.szH)) (by with_unfolding_all (rw [hRl.out, H_length]; omega)) (by with_unfolding_all (exact hR1.out)) ?_))
  intro w4 hu4 hR4
  rw [splice_all _ _ (by rw [hRl.out, H_length])] at hR4
  have hb4 := hbz.trans (hu4.below (B := w.heap.size) (by omega))
  go_wp2
  refine bodyPost_ret (results_cell_row rfl _ _ gr _ _ _ _ rfl hR4 Tryd.underlying23 rfl (by rw [List.size_toArray, hRl.out]; exact Tryd.szH)) rfl ⟨rfl, hb4⟩
end Go.Proofs.YtbldnhpbmfmepaaDoor

/-
  Contracts of the walks over the reference's RightHead, within, Right, CompareHeads. Conditions: none.
-/
namespace Go.Proofs.YtbldnhpbmfmepaaDoor
set_option linter.unusedVariables false
set_option linter.unusedSimpArgs false
open Go.RowKit

set_option maxRecDepth 100000 in
set_option maxHeartbeats 1600000 in
theorem rrightHead_any (l : List Int) (w : World) (hl : l.length = 10) :
    Calls Tryd.prog 16 #[.agg (l.map iV).toArray] w fun e w' => e = .returned (.bool (decide (rightI l))) ∧ Below w.heap.size w w' := by
  have HL := Lib.hid hl
  clear hl
  go_enter Tryd.func16, Tryd.ntmps16
  go_wp2_with (with_reducible refine wpList_box (o := ⟨some 1, .box 23 (.tmp 0), _, _, _, _⟩) ?g1 23 (.tmp 0) ?o1 (.agg (l.map iV).toArray) (l.map iV) ?x1 ?c1 ?_)
  try (case g1 => rfl)
  try (case o1 => rfl)
  try (case x1 => rfl)
  try (case c1 => rfl)
  intro ga w1 hga hs1 hb1 hA1
  have hbel : Below w.heap.size w w1 := hb1.mono (Nat.le_of_eq hga.out.symm)
  clear hb1 hga hs1
  go_wp2
  go_loop [3] (RightRel l) (fun i => 10 - (intOf i).toNat)
  case atStart => exact ⟨0, by omega, rfl, fun x hx => by simp at hx⟩
  case round =>
    obtain ⟨k, hk, rfl, hr⟩ := hrel
    have HR := Lib.hid hr
    clear hr
    by_cases hlt : k < 10
    · obtain ⟨x, hx⟩ : ∃ x, l[k]? = some x := ⟨_, List.getElem?_eq_getElem (by rw [HL.out]; exact hlt)⟩
      have cx : w1.cell? ⟨ga, k, none⟩ = some (.int .i64 x) := hA1.cell (by rw [List.getElem?_map, hx]; rfl)
      have HX := Lib.hid hx
      clear hx
      have hst : Hid (x ∈ l) := List.mem_of_getElem? HX.out
      by_cases h0 : x < 0
      · have hno : Hid (decide (rightI l) = false) := by
          have : decide (rightI l) = false := decide_eq_false fun h => by have := (h x hst.out).1; omega
          exact this
        go_wp2
        go_ret
        exact ⟨(by rw [hno.out]; rfl), hbel⟩
      · by_cases h1 : 65535 < x
        · have hno : Hid (decide (rightI l) = false) := by
            have : decide (rightI l) = false := decide_eq_false fun h => by have := (h x hst.out).2; omega
            exact this
          have h0' : 0 ≤ x := by omega
          go_wp2
          go_ret
          exact ⟨(by rw [hno.out]; rfl), hbel⟩
        · have h0' : 0 ≤ x := by omega
          have h1' : x ≤ 65535 := by omega
          go_wp2
          go_round
          case rel => exact ⟨k + 1, by omega, by go_num, right_step HR.out HX.out h0' h1'⟩
          case measure => simp [intOf]; omega
    · obtain rfl : k = 10 := by omega
      have hyes : Hid (decide (rightI l) = true) := by
        have : decide (rightI l) = true := decide_eq_true (by have := HR.out; rwa [List.take_of_length_le (by rw [HL.out]; exact Nat.le_refl _)] at this)
        exact this
      go_wp2
      go_ret
      exact ⟨(by rw [hyes.out]; rfl), hbel⟩
def WithinRel (l r : List Int) (_ga _gb : Nat) (w : World) (i : Value) (wr : World) : Prop :=
  ∃ k : Nat, k ≤ 10 ∧ i = .int .i64 k ∧ (zipA l r).take k = l.take k ∧ ∃ n, wr = w.drewN n
set_option maxRecDepth 100000 in
set_option maxHeartbeats 1600000 in
theorem rwithin_any (l r : List Int) (w : World) (hl : l.length = 10) (hr : r.length = 10) :
    Calls Tryd.prog 75 #[.agg (l.map iV).toArray, .agg (r.map iV).toArray] w fun e w' => e = .returned (.bool (decide (zipA l r = l))) ∧ Below w.heap.size w w' := by
  have HL := Lib.hid hl
  have HR := Lib.hid hr
  clear hl hr
  go_enter Tryd.func75, Tryd.ntmps75
  go_wp2_with (with_reducible refine wpList_box (o := ⟨some 2, .box 23 (.tmp 0), _, _, _, _⟩) ?g1 23 (.tmp 0) ?o1 (.agg (l.map iV).toArray) (l.map iV) ?x1 ?c1 ?_)
  try (case g1 => rfl)
  try (case o1 => rfl)
  try (case x1 => rfl)
  try (case c1 => rfl)
  intro ga w1 hga hs1 hb1 hA1
  go_wp2_with (with_reducible refine wpList_box (o := ⟨some 3, .box 23 (.tmp 1), _, _, _, _⟩) ?g2 23 (.tmp 1) ?o2 (.agg (r.map iV).toArray) (r.map iV) ?x2 ?c2 ?_)
  try (case g2 => rfl)
  try (case o2 => rfl)
  try (case x2 => rfl)
  try (case c2 => rfl)
  intro gb w2 hgb hs2 hb2 hB2
  have hle : w.heap.size ≤ ga := Nat.le_of_eq hga.out.symm
  have hab : ga < gb := by have := hga.out; have := hs1.out; have := hgb.out; omega
  have hA2 := hA1.next hb2 hab
  have hbel := (hb1.mono hle).trans (hb2.mono (by omega : w.heap.size ≤ gb))
  have HA := Lib.hid hA2
  have HB := Lib.hid hB2
  clear hga hs1 hb1 hA1 hgb hs2 hb2 hA2 hB2
  go_wp2
  go_loopw [5] (WithinRel l r ga gb w2) (fun i _ => 10 - (intOf i).toNat)
  case atStart => exact ⟨0, by omega, rfl, rfl, 0, rfl⟩
  case round =>
    obtain ⟨k, hk, rfl, ht, n, rfl⟩ := hrel
    have HT := Lib.hid ht
    clear ht
    by_cases hlt : k < 10
    · obtain ⟨a, ha⟩ : ∃ a, l[k]? = some a := ⟨_, List.getElem?_eq_getElem (by rw [HL.out]; exact hlt)⟩
      obtain ⟨b, hb⟩ : ∃ b, r[k]? = some b := ⟨_, List.getElem?_eq_getElem (by rw [HR.out]; exact hlt)⟩
      have ca : w2.cell? ⟨ga, k, none⟩ = some (.int .i64 a) := HA.out.cell (by rw [List.getElem?_map, ha]; rfl)
      have cb : w2.cell? ⟨gb, k, none⟩ = some (.int .i64 b) := HB.out.cell (by rw [List.getElem?_map, hb]; rfl)
      have HZ := Lib.hid (zipA_get ha hb)
      have HX := Lib.hid ha
      clear ha hb
      go_wp2
      go_quiet (fail)
      obtain ⟨c, hc⟩ : ∃ c, bits .and .i64 a b = c := ⟨_, rfl⟩
      rw [hc] at HZ ⊢
      clear hc ca cb
      by_cases h0 : c = a
      · subst h0
        have hnx : Hid ((zipA l r).take (k + 1) = l.take (k + 1)) := by
          have : (zipA l r).take (k + 1) = l.take (k + 1) := by
            obtain ⟨k1, e1⟩ := List.getElem?_eq_some_iff.1 HZ.out
            obtain ⟨k2, e2⟩ := List.getElem?_eq_some_iff.1 HX.out
            rw [List.take_succ_eq_append_getElem k1, List.take_succ_eq_append_getElem k2, HT.out, e1, e2]
          exact this
        go_wp2
        go_roundw
        case rel => exact ⟨k + 1, by omega, by go_num, hnx.out, _, rfl⟩
        case measure => simp [intOf]; omega
      · have h0' : (c != a) = true := bne_iff_ne.2 h0
        have hno : Hid (decide (zipA l r = l) = false) := by
          have : decide (zipA l r = l) = false := decide_eq_false fun h => h0 (by
            have e := HZ.out
            rw [h, HX.out] at e
            injection e with e; exact e.symm)
          exact this
        clear h0
        go_wp2
        go_ret
        refine ⟨(by rw [hno.out]; rfl), ?_⟩
        rw [World.drewN_drewN]
        exact hbel.trans ((below_drewN w2 _).mono hbel.size)
    · obtain rfl : k = 10 := by omega
      have hyes : Hid (decide (zipA l r = l) = true) := by
        have : decide (zipA l r = l) = true := decide_eq_true (by
          have := HT.out
          rwa [List.take_of_length_le (by rw [zipA_length HL.out HR.out]; exact Nat.le_refl _), List.take_of_length_le (by rw [HL.out]; exact Nat.le_refl _)] at this)
        exact this
      go_wp2
      go_ret
      exact ⟨(by rw [hyes.out]; rfl), hbel.trans ((below_drewN w2 _).mono hbel.size)⟩
def RCmpRel (l r : List Nat) (w : World) (i : Value) (wr : World) : Prop := ∃ k : Nat, k ≤ 10 ∧ i = .int .i64 k ∧ l.take k = r.take k ∧ ∃ n, wr = w.drewN n
set_option maxRecDepth 100000 in
set_option maxHeartbeats 1600000 in
theorem rcompareHeads_any (f g : Nat → Bool) (w : World) :
    Calls Tryd.prog 24 #[.agg (H f).toArray, .agg (H g).toArray] w fun e w' => e = .returned (.int .i64 (cmpH f g)) ∧ Below w.heap.size w w' := by
  obtain ⟨C, hC⟩ : ∃ C, Hid (cmpH f g = C) := ⟨_, rfl⟩
  rw [hC.out]
  have hC2 : Hid (cmpL (HN f) (HN g) = C) := by
    have : cmpL (HN f) (HN g) = C := by rw [cmpL_head, hC.out]
    exact this
  clear hC
  go_enter Tryd.func24, Tryd.ntmps24
  go_wp2_with (with_reducible refine wpList_box (o := ⟨some 2, .box 23 (.tmp 0), _, _, _, _⟩) ?g1 23 (.tmp 0) ?o1 (.agg (H f).toArray) (H f) ?x1 ?c1 ?_)
  try (case g1 => rfl)
  try (case o1 => rfl)
  try (case x1 => rfl)
  try (case c1 => rfl)
  intro ga w1 hga hs1 hb1 hA1
  go_wp2_with (with_reducible refine wpList_box (o := ⟨some 3, .box 23 (.tmp 1), _, _, _, _⟩) ?g2 23 (.tmp 1) ?o2 (.agg (H g).toArray) (H g) ?x2 ?c2 ?_)
  try (case g2 => rfl)
  try (case o2 => rfl)
  try (case x2 => rfl)
  try (case c2 => rfl)
  intro gb w2 hgb hs2 hb2 hB2
  have hle : w.heap.size ≤ ga := Nat.le_of_eq hga.out.symm
  have hab : ga < gb := by have := hga.out; have := hs1.out; have := hgb.out; omega
  have hA2 := hA1.next hb2 hab
  have hbel := (hb1.mono hle).trans (hb2.mono (by omega : w.heap.size ≤ gb))
  have HA := Lib.hid hA2
  have HB := Lib.hid hB2
  clear hga hs1 hb1 hA1 hgb hs2 hb2 hA2 hB2
  go_wp2
  go_loopw [5] (RCmpRel (HN f) (HN g) w2) (fun i _ => 10 - (intOf i).toNat)
  case atStart => exact ⟨0, by omega, rfl, rfl, 0, rfl⟩
  case round =>
    obtain ⟨k, hk, rfl, ht, n, rfl⟩ := hrel
    have HT := Lib.hid ht
    clear ht
    by_cases hlt : k < 10
    · obtain ⟨a, ha⟩ : ∃ a, word f k = a := ⟨_, rfl⟩
      obtain ⟨b, hb⟩ : ∃ b, word g k = b := ⟨_, rfl⟩
      have ca : w2.cell? ⟨ga, k, none⟩ = some (.int .i64 (a : Int)) := by rw [← ha]; exact HA.out.cell (H_get f hlt)
      have cb : w2.cell? ⟨gb, k, none⟩ = some (.int .i64 (b : Int)) := by rw [← hb]; exact HB.out.cell (H_get g hlt)
      have HX := Lib.hid (HN_get f hlt)
      have HY := Lib.hid (HN_get g hlt)
      rw [ha] at HX
      rw [hb] at HY
      clear ha hb
      go_wp2
      go_quiet (fail)
      by_cases h1 : a < b
      · have hcv : Hid (C = -1) := by
          have : C = -1 := by rw [← hC2.out, cmpL_skip HT.out HX.out HY.out (by omega), if_pos h1]
          exact this
        have h1' : (a : Int) < (b : Int) := by omega
        clear h1
        go_wp2
        go_ret
        refine ⟨by rw [hcv.out]; rfl, ?_⟩
        rw [World.drewN_drewN]
        exact hbel.trans ((below_drewN w2 _).mono hbel.size)
      · have h1' : ¬ (a : Int) < (b : Int) := by omega
        go_wp2
        go_quiet (fail)
        by_cases h2 : b < a
        · have hcv : Hid (C = 1) := by
            have : C = 1 := by rw [← hC2.out, cmpL_skip HT.out HX.out HY.out (by omega), if_neg h1]
            exact this
          have h2' : (b : Int) < (a : Int) := by omega
          clear h1 h2
          go_wp2
          go_ret
          refine ⟨by rw [hcv.out]; rfl, ?_⟩
          simp only [World.drewN_drewN]
          exact hbel.trans ((below_drewN w2 _).mono hbel.size)
        · obtain rfl : a = b := by omega
          have hnx : Hid ((HN f).take (k + 1) = (HN g).take (k + 1)) := by
            have : (HN f).take (k + 1) = (HN g).take (k + 1) := by
              obtain ⟨k1, e1⟩ := List.getElem?_eq_some_iff.1 HX.out
              obtain ⟨k2, e2⟩ := List.getElem?_eq_some_iff.1 HY.out
              rw [List.take_succ_eq_append_getElem k1, List.take_succ_eq_append_getElem k2, HT.out, e1, e2]
            exact this
          clear h1 h2
          go_wp2
          go_roundw
          case rel => exact ⟨k + 1, by omega, by go_num, hnx.out, _, rfl⟩
          case measure => simp [intOf]; omega
    · obtain rfl : k = 10 := by omega
      have hcv : Hid (C = 0) := by
        have : C = 0 := by
          have h := HT.out
          rw [List.take_of_length_le (by rw [HN_length]; exact Nat.le_refl _), List.take_of_length_le (by rw [HN_length]; exact Nat.le_refl _)] at h
          rw [← hC2.out, h]
          exact cmpL_self _
        exact this
      go_wp2
      go_ret
      exact ⟨by rw [hcv.out]; rfl, hbel.trans ((below_drewN w2 _).mono hbel.size)⟩
end Go.Proofs.YtbldnhpbmfmepaaDoor

/-
  Contracts of the walks over the reference's Right, RightMod, Compare and the law's heads. Conditions: none.
-/
namespace Go.Proofs.YtbldnhpbmfmepaaDoor
set_option linter.unusedVariables false
set_option linter.unusedSimpArgs false
open Go.RowKit

theorem and_right (x y : Int) (h0 : 0 ≤ y) (h1 : y ≤ 65535) : 0 ≤ bits .and .i64 x y ∧ bits .and .i64 x y ≤ 65535 := by
  obtain ⟨n, rfl⟩ := Int.eq_ofNat_of_zero_le h0
  have e : (BitVec.ofInt 64 x &&& BitVec.ofInt 64 (n : Int)).toNat ≤ n := by
    rw [BitVec.toNat_and, ofInt_nat, BitVec.toNat_ofNat, Nat.mod_eq_of_lt (by omega)]
    exact Nat.and_le_right
  have e2 : bits .and .i64 x (n : Int) = (((BitVec.ofInt 64 x &&& BitVec.ofInt 64 (n : Int)).toNat : Nat) : Int) := i64_nat ((BitVec.ofInt 64 x &&& BitVec.ofInt 64 (n : Int)).toNat) (by omega)
  rw [e2]
  omega
/-- Bits within a right mask are right. -/
theorem right_within {m b : List Int} (hm : m.length = 10) (hb : b.length = 10) (h : rightI m) (hz : zipA b m = b) : rightI b := by
  intro x hx
  obtain ⟨k, hk⟩ := List.getElem?_of_mem hx
  have hk10 : k < 10 := by rw [← hb]; exact (List.getElem?_eq_some_iff.1 hk).1
  obtain ⟨y, hy⟩ : ∃ y, m[k]? = some y := ⟨_, List.getElem?_eq_getElem (by rw [hm]; exact hk10)⟩
  have e := zipA_get hk hy
  rw [hz, hk] at e
  injection e with e
  rw [e]
  obtain ⟨h0, h1⟩ := h y (List.mem_of_getElem? hy)
  exact and_right x y h0 h1
theorem pairI_eq {m b : List Int} (hm : m.length = 10) (hb : b.length = 10) : ((decide (rightI m) && decide (rightI b)) && decide (zipA b m = b)) = pairI m b := by
  unfold pairI
  by_cases h1 : rightI m
  · by_cases h2 : zipA b m = b
    · rw [decide_eq_true h1, decide_eq_true h2, decide_eq_true (right_within hm hb h1 h2)]; rfl
    · rw [decide_eq_false h2, Bool.and_false, Bool.and_false]
  · rw [decide_eq_false h1]; rfl
set_option maxRecDepth 100000 in
set_option maxHeartbeats 1600000 in
theorem rright_any (m b : List Int) (w : World) (hm : m.length = 10) (hb : b.length = 10) :
    Calls Tryd.prog 18 #[.agg (m.map iV ++ b.map iV).toArray] w fun e w' => e = .returned (.bool (pairI m b)) ∧ Below w.heap.size w w' := by
  obtain ⟨D1, hD1⟩ : ∃ D, Hid (decide (rightI m) = D) := ⟨_, rfl⟩
  obtain ⟨D2, hD2⟩ : ∃ D, Hid (decide (rightI b) = D) := ⟨_, rfl⟩
  obtain ⟨D3, hD3⟩ : ∃ D, Hid (decide (zipA b m = b) = D) := ⟨_, rfl⟩
  obtain ⟨D, hD⟩ : ∃ D, Hid (pairI m b = D) := ⟨_, rfl⟩
  have hDv : Hid (((D1 && D2) && D3) = D) := by
    have : ((D1 && D2) && D3) = D := by rw [← hD.out, ← hD1.out, ← hD2.out, ← hD3.out]; exact pairI_eq hm hb
    exact this
  rw [hD.out]
  clear hD
  have HM := Lib.hid hm
  have HB := Lib.hid hb
  have HL : Hid ((m.map iV ++ b.map iV).length = 20) := by
    have : (m.map iV ++ b.map iV).length = 20 := by rw [List.length_append, List.length_map, List.length_map, hm, hb]
    exact this
  have e1 : ((m.map iV ++ b.map iV).drop 0).take (m.map iV).length = m.map iV := by rw [List.drop_zero, List.take_left' rfl]
  have e2 : ((m.map iV ++ b.map iV).drop 10).take (b.map iV).length = b.map iV := by rw [List.drop_left' (by rw [List.length_map]; exact hm), List.take_of_length_le (Nat.le_refl _)]
  have E1 := Lib.hid e1
  have E2 := Lib.hid e2
  have hz1 : (Tryd.prog.info? 23).map (·.size) = some (m.map iV).length := by rw [List.length_map, hm]; exact Tryd.szH
  have hz2 : (Tryd.prog.info? 23).map (·.size) = some (b.map iV).length := by rw [List.length_map, hb]; exact Tryd.szH
  clear hm hb e1 e2
  go_enter Tryd.func18, Tryd.ntmps18
  go_wp2_with (with_reducible refine wpList_box (o := ⟨some 1, .box 25 (.tmp 0), _, _, _, _⟩) ?g1 25 (.tmp 0) ?o1 (.agg (m.map iV ++ b.map iV).toArray) (m.map iV ++ b.map iV) ?x1 ?c1 ?_)
  try (case g1 => rfl)
  try (case o1 => rfl)
  try (case x1 => rfl)
  try (case c1 => rfl)
  intro gp w1 hgp hs1 hb1 hP1
  have hbel : Below w.heap.size w w1 := hb1.mono (Nat.le_of_eq hgp.out.symm)
  clear hgp hs1 hb1
  go_wp2_with (with_reducible refine wpList_get (o := ⟨some 6, .load 23 (.tmp 5), _, _, _, _⟩) (by with_unfolding_all rfl) 23 (.tmp 5) (by with_unfolding_all rfl) gp 0 (by with_unfolding_all rfl) hP1 (m.map iV) E1.out _ (by exact Tryd.underlying23) (by with_unfolding_all rfl) hz1 ?_)
  (with_reducible refine (rrightHead_any m _ HM.out).mono ?_)
  rintro e w2 ⟨rfl, hb2⟩
  rw [hD1.out]
  have hP2 := hP1.next hb2 hP1.lt
  have hbel2 := hbel.trans (hb2.mono hbel.size)
  clear hP1 hb2 hbel
  go_wp2_with (with_reducible refine wpList_get (o := ⟨some 9, .load 23 (.tmp 8), _, _, _, _⟩) (by with_unfolding_all rfl) 23 (.tmp 8) (by with_unfolding_all rfl) gp 10 (by with_unfolding_all rfl) hP2 (b.map iV) E2.out _ (by exact Tryd.underlying23) (by with_unfolding_all rfl) hz2 ?_)
  (with_reducible refine (rrightHead_any b _ HB.out).mono ?_)
  rintro e w3 ⟨rfl, hb3⟩
  rw [hD2.out]
  have hP3 := hP2.next hb3 hP2.lt
  have hbel3 := hbel2.trans (hb3.mono hbel2.size)
  clear hP2 hb3 hbel2 hD1 hD2
  rcases D1 with _ | _
  · obtain rfl : false = D := hDv.out
    go_wp2
    go_ret
    exact ⟨rfl, hbel3⟩
  · rcases D2 with _ | _
    · obtain rfl : false = D := hDv.out
      go_wp2
      go_ret
      exact ⟨rfl, hbel3⟩
    · obtain rfl : D3 = D := hDv.out
      go_wp2_with (first | (with_reducible refine wpList_getg (o := ⟨some 17, .load 23 (.tmp 16), _, _, _, _⟩) (by with_unfolding_all rfl) 23 (.tmp 16) (by with_unfolding_all rfl) gp 10 (by with_unfolding_all rfl) hP3 (b.map iV) E2.out _ (by exact Tryd.underlying23) (by with_unfolding_all rfl) hz2 ?_) | (with_reducible refine wpList_getg (o := ⟨some 19, .load 23 (.tmp 18), _, _, _, _⟩) (by with_unfolding_all rfl) 23 (.tmp 18) (by with_unfolding_all rfl) gp 0 (by with_unfolding_all rfl) hP3 (m.map iV) E1.out _ (by exact Tryd.underlying23) (by with_unfolding_all rfl) hz1 ?_))
      (with_reducible refine (rwithin_any b m _ HB.out HM.out).mono ?_)
      rintro e w4 ⟨rfl, hb4⟩
      rw [hD3.out]
      have hbel4 := hbel3.trans (hb4.mono hbel3.size)
      go_wp2
      go_ret
      exact ⟨rfl, hbel4⟩
set_option maxRecDepth 100000 in
set_option maxHeartbeats 1600000 in
theorem rrightMod_any (m b : List Int) (w : World) (hm : m.length = 10) (hb : b.length = 10) :
    Calls Tryd.prog 42 #[.agg (m.map iV ++ b.map iV).toArray] w fun e w' => e = .returned (.bool (pairI m b)) ∧ Below w.heap.size w w' := by
  have hbd : ∀ w, (Instr.build 25 #[(0, .agg (m.map iV).toArray), (1, .agg (b.map iV).toArray)]).run Tryd.prog w = .ok (.agg (m.map iV ++ b.map iV).toArray) w := fun w => run_buildP w _ _ (by rw [List.length_map]; exact hm) (by rw [List.length_map]; exact hb)
  have HM := Lib.hid hm
  have HB := Lib.hid hb
  have HL : Hid ((m.map iV ++ b.map iV).length = 20) := by
    have : (m.map iV ++ b.map iV).length = 20 := by rw [List.length_append, List.length_map, List.length_map, hm, hb]
    exact this
  have e1 : ((m.map iV ++ b.map iV).drop 0).take (m.map iV).length = m.map iV := by rw [List.drop_zero, List.take_left' rfl]
  have e2 : ((m.map iV ++ b.map iV).drop 10).take (b.map iV).length = b.map iV := by rw [List.drop_left' (by rw [List.length_map]; exact hm), List.take_of_length_le (Nat.le_refl _)]
  have E1 := Lib.hid e1
  have E2 := Lib.hid e2
  have hz1 : (Tryd.prog.info? 23).map (·.size) = some (m.map iV).length := by rw [List.length_map, hm]; exact Tryd.szH
  have hz2 : (Tryd.prog.info? 23).map (·.size) = some (b.map iV).length := by rw [List.length_map, hb]; exact Tryd.szH
  clear hm hb e1 e2
  go_enter Tryd.func42, Tryd.ntmps42
  go_wp2_with (with_reducible refine wpList_box (o := ⟨some 1, .box 43 (.tmp 0), _, _, _, _⟩) ?g1 43 (.tmp 0) ?o1 (.agg (m.map iV ++ b.map iV).toArray) (m.map iV ++ b.map iV) ?x1 ?c1 ?_)
  try (case g1 => rfl)
  try (case o1 => rfl)
  try (case x1 => rfl)
  try (case c1 => rfl)
  intro gp w1 hgp hs1 hb1 hP1
  have hbel : Below w.heap.size w w1 := hb1.mono (Nat.le_of_eq hgp.out.symm)
  clear hgp hs1 hb1
  go_wp2_with (first | (with_reducible refine wpList_get (o := ⟨some 4, .load 23 (.tmp 3), _, _, _, _⟩) (by with_unfolding_all rfl) 23 (.tmp 3) (by with_unfolding_all rfl) gp 0 (by with_unfolding_all rfl) hP1 (m.map iV) E1.out _ (by exact Tryd.underlying23) (by with_unfolding_all rfl) hz1 ?_) | (with_reducible refine wpList_get (o := ⟨some 6, .load 23 (.tmp 5), _, _, _, _⟩) (by with_unfolding_all rfl) 23 (.tmp 5) (by with_unfolding_all rfl) gp 10 (by with_unfolding_all rfl) hP1 (b.map iV) E2.out _ (by exact Tryd.underlying23) (by with_unfolding_all rfl) hz2 ?_) | (with_reducible refine wpList_build (o := ⟨some 7, .build 25 #[(0, .tmp 4), (1, .tmp 6)], _, _, _, _⟩) (by with_unfolding_all rfl) 25 #[(0, .tmp 4), (1, .tmp 6)] (by with_unfolding_all rfl) #[(0, .agg (m.map iV).toArray), (1, .agg (b.map iV).toArray)] (by with_unfolding_all rfl) (.agg (m.map iV ++ b.map iV).toArray) hbd ?_))
  (with_reducible refine (rright_any m b _ HM.out HB.out).mono ?_)
  rintro e w2 ⟨rfl, hb2⟩
  have hfin := hbel.trans (hb2.mono hbel.size)
  go_wp2
  go_ret
  exact ⟨rfl, hfin⟩
end Go.Proofs.YtbldnhpbmfmepaaDoor

/-
  Contracts of the walks over the reference's Compare, Match, Free and the law's heads. Conditions: none.
-/
namespace Go.Proofs.YtbldnhpbmfmepaaDoor
set_option linter.unusedVariables false
set_option linter.unusedSimpArgs false
open Go.RowKit

theorem cmpH_cases (f g : Nat → Bool) : cmpH f g = -1 ∨ cmpH f g = 0 ∨ cmpH f g = 1 := by
  unfold cmpH
  split
  · exact .inl rfl
  · split
    · exact .inr (.inr rfl)
    · exact .inr (.inl rfl)
/-- How two patterns compare. -/
def Pat.cmp (p q : Pat) : Int := orI (cmpH p.m q.m) (cmpH p.b q.b)
set_option maxRecDepth 100000 in
set_option maxHeartbeats 1600000 in
theorem rcompare_any (p q : Pat) (w : World) :
    Calls Tryd.prog 26 #[.agg p.cells.toArray, .agg q.cells.toArray] w fun e w' => e = .returned (.int .i64 (p.cmp q)) ∧ Below w.heap.size w w' := by
  obtain ⟨C, hC⟩ : ∃ C, Hid (p.cmp q = C) := ⟨_, rfl⟩
  rw [hC.out]
  obtain ⟨A, hA⟩ : ∃ A, Hid (cmpH p.m q.m = A) := ⟨_, rfl⟩
  obtain ⟨B, hB⟩ : ∃ B, Hid (cmpH p.b q.b = B) := ⟨_, rfl⟩
  have hCv : Hid (orI A B = C) := by
    have : orI A B = C := by rw [← hA.out, ← hB.out, ← hC.out]; rfl
    exact this
  clear hC
  go_enter Tryd.func26, Tryd.ntmps26
  go_wp2_with (with_reducible refine wpList_box (o := ⟨some 2, .box 25 (.tmp 0), _, _, _, _⟩) ?g1 25 (.tmp 0) ?o1 (.agg p.cells.toArray) p.cells ?x1 ?c1 ?_)
  try (case g1 => rfl)
  try (case o1 => rfl)
  try (case x1 => rfl)
  try (case c1 => rfl)
  intro gp w1 hgp hs1 hb1 hP1
  go_wp2_with (with_reducible refine wpList_box (o := ⟨some 3, .box 25 (.tmp 1), _, _, _, _⟩) ?g2 25 (.tmp 1) ?o2 (.agg q.cells.toArray) q.cells ?x2 ?c2 ?_)
  try (case g2 => rfl)
  try (case o2 => rfl)
  try (case x2 => rfl)
  try (case c2 => rfl)
  intro gq w2 hgq hs2 hb2 hQ2
  have hle : w.heap.size ≤ gp := Nat.le_of_eq hgp.out.symm
  have hab : gp < gq := by have := hgp.out; have := hs1.out; have := hgq.out; omega
  have hP2 := hP1.next hb2 hab
  have hbel := (hb1.mono hle).trans (hb2.mono (by omega : w.heap.size ≤ gq))
  clear hgp hs1 hb1 hP1 hgq hs2 hb2
  go_wp2_with (first | (with_reducible refine wpList_get (o := ⟨some 7, .load 23 (.tmp 6), _, _, _, _⟩) (by with_unfolding_all rfl) 23 (.tmp 6) (by with_unfolding_all rfl) gp 0 (by with_unfolding_all rfl) hP2 (H p.m) (cells_take_m p) _ (by exact Tryd.underlying23) (by with_unfolding_all rfl) (by rw [H_length]; exact Tryd.szH) ?_) | (with_reducible refine wpList_get (o := ⟨some 9, .load 23 (.tmp 8), _, _, _, _⟩) (by with_unfolding_all rfl) 23 (.tmp 8) (by with_unfolding_all rfl) gq 0 (by with_unfolding_all rfl) hQ2 (H q.m) (cells_take_m q) _ (by exact Tryd.underlying23) (by with_unfolding_all rfl) (by rw [H_length]; exact Tryd.szH) ?_))
  (with_reducible refine (rcompareHeads_any p.m q.m _).mono ?_)
  rintro e w3 ⟨rfl, hb3⟩
  rw [hA.out]
  have hP3 := hP2.next hb3 hP2.lt
  have hQ3 := hQ2.next hb3 hQ2.lt
  have hbel3 := hbel.trans (hb3.mono hbel.size)
  clear hP2 hQ2 hb3 hbel hA
  by_cases h0 : A = 0
  · have h0' : (A != 0) = false := by rw [h0]; rfl
    have hcv : Hid (B = C) := by
      have : B = C := by rw [← hCv.out]; unfold orI; rw [if_pos h0]
      exact this
    clear h0
    go_wp2_with (first | (with_reducible refine wpList_get (o := ⟨some 15, .load 23 (.tmp 14), _, _, _, _⟩) (by with_unfolding_all rfl) 23 (.tmp 14) (by with_unfolding_all rfl) gp 10 (by with_unfolding_all rfl) hP3 (H p.b) (cells_take_b p) _ (by exact Tryd.underlying23) (by with_unfolding_all rfl) (by rw [H_length]; exact Tryd.szH) ?_) | (with_reducible refine wpList_get (o := ⟨some 17, .load 23 (.tmp 16), _, _, _, _⟩) (by with_unfolding_all rfl) 23 (.tmp 16) (by with_unfolding_all rfl) gq 10 (by with_unfolding_all rfl) hQ3 (H q.b) (cells_take_b q) _ (by exact Tryd.underlying23) (by with_unfolding_all rfl) (by rw [H_length]; exact Tryd.szH) ?_))
    (with_reducible refine (rcompareHeads_any p.b q.b _).mono ?_)
    rintro e w4 ⟨rfl, hb4⟩
    rw [hB.out]
    have hbel4 := hbel3.trans (hb4.mono hbel3.size)
    go_wp2
    go_ret
    exact ⟨by rw [hcv.out]; rfl, hbel4⟩
  · have h0' : (A != 0) = true := bne_iff_ne.2 h0
    have hcv : Hid (A = C) := by
      have : A = C := by rw [← hCv.out]; unfold orI; rw [if_neg h0]
      exact this
    clear h0
    go_wp2
    go_ret
    exact ⟨by rw [hcv.out]; rfl, hbel3⟩
set_option maxRecDepth 100000 in
set_option maxHeartbeats 1600000 in
theorem heads_any (l r : List Int) (w : World) (hl : l.length = 10) (hr : r.length = 10) :
    Calls Tryd.prog 19 #[.agg (l.map iV).toArray, .agg (r.map iV).toArray] w fun e w' => e = .returned (.bool (decide (rightI l) && decide (rightI r))) ∧ Below w.heap.size w w' := by
  obtain ⟨D1, hD1⟩ : ∃ D, Hid (decide (rightI l) = D) := ⟨_, rfl⟩
  obtain ⟨D2, hD2⟩ : ∃ D, Hid (decide (rightI r) = D) := ⟨_, rfl⟩
  rw [hD1.out, hD2.out]
  have HL := Lib.hid hl
  have HR := Lib.hid hr
  have hz1 : (Tryd.prog.info? 23).map (·.size) = some (l.map iV).length := by rw [List.length_map, hl]; exact Tryd.szH
  have hz2 : (Tryd.prog.info? 23).map (·.size) = some (r.map iV).length := by rw [List.length_map, hr]; exact Tryd.szH
  clear hl hr
  go_enter Tryd.func19, Tryd.ntmps19
  go_wp2_with (with_reducible refine wpList_box (o := ⟨some 2, .box 23 (.tmp 0), _, _, _, _⟩) ?g1 23 (.tmp 0) ?o1 (.agg (l.map iV).toArray) (l.map iV) ?x1 ?c1 ?_)
  try (case g1 => rfl)
  try (case o1 => rfl)
  try (case x1 => rfl)
  try (case c1 => rfl)
  intro ga w1 hga hs1 hb1 hA1
  go_wp2_with (with_reducible refine wpList_box (o := ⟨some 3, .box 23 (.tmp 1), _, _, _, _⟩) ?g2 23 (.tmp 1) ?o2 (.agg (r.map iV).toArray) (r.map iV) ?x2 ?c2 ?_)
  try (case g2 => rfl)
  try (case o2 => rfl)
  try (case x2 => rfl)
  try (case c2 => rfl)
  intro gb w2 hgb hs2 hb2 hB2
  have hle : w.heap.size ≤ ga := Nat.le_of_eq hga.out.symm
  have hab : ga < gb := by have := hga.out; have := hs1.out; have := hgb.out; omega
  have hA2 := hA1.next hb2 hab
  have hbel := (hb1.mono hle).trans (hb2.mono (by omega : w.heap.size ≤ gb))
  clear hga hs1 hb1 hA1 hgb hs2 hb2
  go_wp2_with (with_reducible refine wpList_get (o := ⟨some 7, .load 23 (.tmp 2), _, _, _, _⟩) (by with_unfolding_all rfl) 23 (.tmp 2) (by with_unfolding_all rfl) ga 0 (by with_unfolding_all rfl) hA2 (l.map iV) (cs_all _) _ (by exact Tryd.underlying23) (by with_unfolding_all rfl) hz1 ?_)
  (with_reducible refine (rrightHead_any l _ HL.out).mono ?_)
  rintro e w3 ⟨rfl, hb3⟩
  rw [hD1.out]
  have hB3 := hB2.next hb3 hB2.lt
  have hbel3 := hbel.trans (hb3.mono hbel.size)
  clear hA2 hB2 hb3 hbel
  go_wp2_with (with_reducible refine wpList_get (o := ⟨some 9, .load 23 (.tmp 3), _, _, _, _⟩) (by with_unfolding_all rfl) 23 (.tmp 3) (by with_unfolding_all rfl) gb 0 (by with_unfolding_all rfl) hB3 (r.map iV) (cs_all _) _ (by exact Tryd.underlying23) (by with_unfolding_all rfl) hz2 ?_)
  (with_reducible refine (rrightHead_any r _ HR.out).mono ?_)
  rintro e w4 ⟨rfl, hb4⟩
  rw [hD2.out]
  have hbel4 := hbel3.trans (hb4.mono hbel3.size)
  clear hB3 hb4 hbel3 hD1 hD2
  rcases D1 with _ | _
  · go_wp2
    go_ret
    exact ⟨rfl, hbel4⟩
  · go_wp2
    go_ret
    exact ⟨rfl, hbel4⟩
def RFreeRel (p : Pat) (gp : Nat) (w : World) (v i : Value) (wr : World) : Prop :=
  ∃ k : Nat, k ≤ 160 ∧ i = .int .i64 k ∧ v = .int .i64 ((k - cnt p.m 0 k : Nat) : Int) ∧ Blk wr gp 25 p.cells ∧ Below w.heap.size w wr
set_option maxRecDepth 100000 in
set_option maxHeartbeats 1600000 in
theorem rfree_any (p : Pat) (w : World) :
    Calls Tryd.prog 33 #[.agg p.cells.toArray] w fun e w' => e = .returned (.int .i64 ((160 - cnt p.m 0 160 : Nat) : Int)) ∧ Below w.heap.size w w' := by
  obtain ⟨N, hN⟩ : ∃ N : Nat, Hid (160 - cnt p.m 0 160 = N) := ⟨_, rfl⟩
  rw [hN.out]
  go_enter Tryd.func33, Tryd.ntmps33
  go_wp2_with (with_reducible refine wpList_box (o := ⟨some 1, .box 25 (.tmp 0), _, _, _, _⟩) ?g1 25 (.tmp 0) ?o1 (.agg p.cells.toArray) p.cells ?x1 ?c1 ?_)
  try (case g1 => rfl)
  try (case o1 => rfl)
  try (case x1 => rfl)
  try (case c1 => rfl)
  intro gp w1 hgp hs1 hb1 hP1
  have hbel : Below w.heap.size w w1 := hb1.mono (Nat.le_of_eq hgp.out.symm)
  clear hgp hs1 hb1
  go_wp2
  go_loopw [3, 4] (fun v i wr => RFreeRel p gp w v i wr) (fun _ i _ => 160 - (intOf i).toNat)
  case atStart => exact ⟨0, by omega, rfl, rfl, hP1, hbel⟩
  case round =>
    clear hP1 hbel
    obtain ⟨k, hk, rfl, rfl, hP, hbel⟩ := hrel
    by_cases hlt : k < 160
    · obtain ⟨c, hc⟩ : ∃ c : Nat, k - cnt p.m 0 k = c := ⟨_, rfl⟩
      obtain ⟨b, hb⟩ : ∃ b : Nat, (p.m k).toNat = b := ⟨_, rfl⟩
      have hb1 : b ≤ 1 := by rw [← hb]; exact Bool.toNat_le _
      have hcl := cnt_le p.m 0 k
      have hc2 : k + 1 - cnt p.m 0 (k + 1) = c + 1 - b := by
        have e : cnt p.m 0 (k + 1) = cnt p.m 0 k + (p.m (0 + k)).toNat := rfl
        rw [Nat.zero_add] at e
        omega
      have hck : c ≤ 160 := by omega
      have HC2 := Lib.hid hc2
      have hbit := rbit_any p.m k
      rw [hb] at hbit
      have HBIT := Lib.hid hbit
      rw [hc]
      clear hc hb hcl hc2 hbit
      go_wp2_with (with_reducible refine wpList_get (o := ⟨some 12, .load 23 (.tmp 11), _, _, _, _⟩) (by with_unfolding_all rfl) 23 (.tmp 11) (by with_unfolding_all rfl) gp 0 (by with_unfolding_all rfl) hP (H p.m) (cells_take_m p) _ (by exact Tryd.underlying23) (by with_unfolding_all rfl) (by rw [H_length]; exact Tryd.szH) ?_)
      (with_reducible refine (HBIT.out _ hlt).mono ?_)
      rintro e w3 ⟨rfl, hb3⟩
      have hP3 := hP.next hb3 hP.lt
      have hbel3 := hbel.trans (hb3.mono hbel.size)
      clear hP hb3 hbel
      go_wp2
      go_roundw
      case rel => exact ⟨k + 1, by omega, by go_num, by rw [HC2.out]; congr 1; omega, hP3, hbel3⟩
      case measure => simp [intOf]; omega
    · obtain rfl : k = 160 := by omega
      rw [hN.out]
      go_wp2
      go_ret
      exact ⟨rfl, hbel⟩
end Go.Proofs.YtbldnhpbmfmepaaDoor

/-
  Contract of the walk over the reference's Match. Conditions: none.
-/
namespace Go.Proofs.YtbldnhpbmfmepaaDoor
set_option linter.unusedVariables false
set_option linter.unusedSimpArgs false
open Go.RowKit

theorem toNat_ne {b c : Bool} (h : ¬ b = c) : (b.toNat : Int) ≠ (c.toNat : Int) := by
  cases b <;> cases c <;> first | exact absurd rfl h | decide
instance (p : Pat) (h : Nat → Bool) : Decidable (p.hit h) := by unfold Pat.hit; exact inferInstance
def RMatchRel (p : Pat) (h : Nat → Bool) (gp gh : Nat) (w : World) (i : Value) (wr : World) : Prop :=
  ∃ k : Nat, k ≤ 160 ∧ i = .int .i64 k ∧ (∀ j, j < k → p.m j = true → p.b j = h j) ∧ Blk wr gp 25 p.cells ∧ Blk wr gh 23 (H h) ∧ Below w.heap.size w wr
set_option maxRecDepth 100000 in
set_option maxHeartbeats 1600000 in
theorem rmatch_any (p : Pat) (h : Nat → Bool) (w : World) :
    Calls Tryd.prog 30 #[.agg p.cells.toArray, .agg (H h).toArray] w fun e w' => e = .returned (.bool (decide (p.hit h))) ∧ Below w.heap.size w w' := by
  obtain ⟨D, hD⟩ : ∃ D, Hid (decide (p.hit h) = D) := ⟨_, rfl⟩
  rw [hD.out]
  go_enter Tryd.func30, Tryd.ntmps30
  go_wp2_with (with_reducible refine wpList_box (o := ⟨some 2, .box 25 (.tmp 0), _, _, _, _⟩) ?g1 25 (.tmp 0) ?o1 (.agg p.cells.toArray) p.cells ?x1 ?c1 ?_)
  try (case g1 => rfl)
  try (case o1 => rfl)
  try (case x1 => rfl)
  try (case c1 => rfl)
  intro gp w1 hgp hs1 hb1 hP1
  go_wp2_with (with_reducible refine wpList_box (o := ⟨some 3, .box 23 (.tmp 1), _, _, _, _⟩) ?g2 23 (.tmp 1) ?o2 (.agg (H h).toArray) (H h) ?x2 ?c2 ?_)
  try (case g2 => rfl)
  try (case o2 => rfl)
  try (case x2 => rfl)
  try (case c2 => rfl)
  intro gh w2 hgh hs2 hb2 hH2
  have hle : w.heap.size ≤ gp := Nat.le_of_eq hgp.out.symm
  have hab : gp < gh := by have := hgp.out; have := hs1.out; have := hgh.out; omega
  have hP2 := hP1.next hb2 hab
  have hbel := (hb1.mono hle).trans (hb2.mono (by omega : w.heap.size ≤ gh))
  clear hgp hs1 hb1 hP1 hgh hs2 hb2
  go_wp2
  go_loopw [5] (RMatchRel p h gp gh w) (fun i _ => 160 - (intOf i).toNat)
  case atStart => exact ⟨0, by omega, rfl, fun j hj => absurd hj (by omega), hP2, hH2, hbel⟩
  case round =>
    clear hP2 hH2 hbel
    obtain ⟨k, hk, rfl, hz, hP, hH, hbel⟩ := hrel
    have HZ := Lib.hid hz
    clear hz
    by_cases hlt : k < 160
    · obtain ⟨m, hm⟩ : ∃ m, p.m k = m := ⟨_, rfl⟩
      obtain ⟨b, hb⟩ : ∃ b, p.b k = b := ⟨_, rfl⟩
      obtain ⟨c, hc⟩ : ∃ c, h k = c := ⟨_, rfl⟩
      have hbm := rbit_any p.m k
      have hbb := rbit_any p.b k
      have hbc := rbit_any h k
      rw [hm] at hbm
      rw [hb] at hbb
      rw [hc] at hbc
      have HBM := Lib.hid hbm
      have HBB := Lib.hid hbb
      have HBC := Lib.hid hbc
      have HM := Lib.hid hm
      have HB := Lib.hid hb
      have HC := Lib.hid hc
      clear hm hb hc hbm hbb hbc
      go_wp2
      have hrg : ∀ w', Below wr.heap.size wr w' → Below wr.heap.size wr w' ∧ w'.rangeAt gp 0 (H p.m) ∧ w'.rangeAt gp 10 (H p.b) ∧ w'.rangeAt gh 0 (H h) := fun w' hw => ⟨hw, at_m (hP.next hw hP.lt), at_b (hP.next hw hP.lt), blk_range (hH.next hw hH.lt)⟩
      have hun := Tryd.underlying23
      have hz1 : (Tryd.prog.info? 23).map (·.size) = some (H p.m).length := by rw [H_length]; exact Tryd.szH
      have hz2 : (Tryd.prog.info? 23).map (·.size) = some (H p.b).length := by rw [H_length]; exact Tryd.szH
      have hz3 : (Tryd.prog.info? 23).map (·.size) = some (H h).length := by rw [H_length]; exact Tryd.szH
      have HRG := Lib.hid hrg
      clear hrg
      have hdd := below_drew wr
      refine wp_region_held_drew (S := fun w' => Below wr.heap.size wr w' ∧ w'.rangeAt gp 0 (H p.m) ∧ w'.rangeAt gp 10 (H p.b) ∧ w'.rangeAt gh 0 (H h)) (by kernel_rfl) (HRG.out _ hdd) (fun hHeld => ?_)
      generalize wr.drew = wd at hdd hHeld ⊢
      refine wpAnyH_take (i := 0) (v := ?vv0) rfl (by kernel_rfl) (by kernel_rfl) (by kernel_rfl) (fun _ _ _ h => h) (Or.inl ⟨by rfl, ?yv0⟩) (by assumption) ?rv0
      case yv0 => intro w hSw; (try dsimp only at hSw); go_simp <;> (try with_reducible rfl)
      (try simp only [List.getElem_toArray, List.getElem_cons_zero, Act.put, List.setIfInBounds_toArray, List.set_cons_zero, List.set_cons_succ])
      refine' wpAnyH_take (i := 1) (v := _) rfl (by kernel_rfl) (by kernel_rfl) (by kernel_rfl) (fun _ _ _ h => h) (yieldsIf_load_mid (by rfl) _ _ (by rfl) _ _ (by rfl) _ _ ?Sv1 ?uv1 ?dv1 ?iv1) (by assumption) ?rv1
      case Sv1 => exact (by intro w h; exact h.2.1)
      case uv1 => exact hun
      case dv1 => rfl
      case iv1 => exact hz1
      (try simp only [List.getElem_toArray, List.getElem_cons_succ, List.getElem_cons_zero, Act.put, List.setIfInBounds_toArray, List.set_cons_zero, List.set_cons_succ])
      refine wpAnyH_take (i := 2) (v := ?vv2) rfl (by kernel_rfl) (by kernel_rfl) (by kernel_rfl) (fun _ _ _ h => h) (Or.inl ⟨by rfl, ?yv2⟩) (by assumption) ?rv2
      case yv2 => intro w hSw; (try dsimp only at hSw); go_simp <;> (try with_reducible rfl)
      (try simp only [List.getElem_toArray, List.getElem_cons_succ, List.getElem_cons_zero, Act.put, List.setIfInBounds_toArray, List.set_cons_zero, List.set_cons_succ])
      refine wpAnyH_ready (rs := [3]) (by kernel_rfl) (by simp) ?_
      refine AllReadyH.cons rfl (fun K hK => ?_) AllReadyH.nil
      go_simp
      go_wp2_with fail
      (with_reducible refine (HBM.out _ hlt).mono ?_)
      rintro e wA ⟨rfl, hbA⟩
      have hkA := below_join hdd hbA
      refine hK.out _ _ (HRG.out _ hkA) (fun hHeld => ?_)
      clear hK K hdd hbA
      rcases m with _ | _
      · rw [show ((false.toNat : Nat) : Int) = 0 from rfl] at *
        refine wpAnyH_take (i := 4) (v := ?vv4) rfl (by kernel_rfl) (by kernel_rfl) (by kernel_rfl) (fun _ _ _ h => h) (Or.inl ⟨by rfl, ?yv4⟩) (by assumption) ?rv4
        case yv4 => intro w hSw; (try dsimp only at hSw); go_simp <;> (try with_reducible rfl)
        (try simp only [List.getElem_toArray, List.getElem_cons_succ, List.getElem_cons_zero, Act.put, List.setIfInBounds_toArray, List.set_cons_zero, List.set_cons_succ])
        refine wpAnyH_take (i := 5) (v := ?vv5) rfl (by kernel_rfl) (by kernel_rfl) (by kernel_rfl) (fun _ _ _ h => h) (Or.inl ⟨by rfl, ?yv5⟩) (by assumption) ?rv5
        case yv5 => intro w hSw; (try dsimp only at hSw); go_simp <;> (try with_reducible rfl)
        (try simp only [List.getElem_toArray, List.getElem_cons_succ, List.getElem_cons_zero, Act.put, List.setIfInBounds_toArray, List.set_cons_zero, List.set_cons_succ])
        refine wpAnyH_take (i := 6) (v := undef) rfl (by kernel_rfl) (by kernel_rfl) (by kernel_rfl) (fun _ _ _ h => h) (Or.inr ⟨by rfl, rfl⟩) (by assumption) ?rs6
        (try simp only [List.getElem_toArray, List.getElem_cons_succ, List.getElem_cons_zero, Act.put, List.setIfInBounds_toArray, List.set_cons_zero, List.set_cons_succ])
        refine wpAnyH_take (i := 7) (v := undef) rfl (by kernel_rfl) (by kernel_rfl) (by kernel_rfl) (fun _ _ _ h => h) (Or.inr ⟨by rfl, rfl⟩) (by assumption) ?rs7
        (try simp only [List.getElem_toArray, List.getElem_cons_succ, List.getElem_cons_zero, Act.put, List.setIfInBounds_toArray, List.set_cons_zero, List.set_cons_succ])
        refine wpAnyH_take (i := 8) (v := undef) rfl (by kernel_rfl) (by kernel_rfl) (by kernel_rfl) (fun _ _ _ h => h) (Or.inr ⟨by rfl, rfl⟩) (by assumption) ?rs8
        (try simp only [List.getElem_toArray, List.getElem_cons_succ, List.getElem_cons_zero, Act.put, List.setIfInBounds_toArray, List.set_cons_zero, List.set_cons_succ])
        refine wpAnyH_take (i := 9) (v := undef) rfl (by kernel_rfl) (by kernel_rfl) (by kernel_rfl) (fun _ _ _ h => h) (Or.inr ⟨by rfl, rfl⟩) (by assumption) ?rs9
        (try simp only [List.getElem_toArray, List.getElem_cons_succ, List.getElem_cons_zero, Act.put, List.setIfInBounds_toArray, List.set_cons_zero, List.set_cons_succ])
        refine wpAnyH_take (i := 10) (v := undef) rfl (by kernel_rfl) (by kernel_rfl) (by kernel_rfl) (fun _ _ _ h => h) (Or.inr ⟨by rfl, rfl⟩) (by assumption) ?rs10
        (try simp only [List.getElem_toArray, List.getElem_cons_succ, List.getElem_cons_zero, Act.put, List.setIfInBounds_toArray, List.set_cons_zero, List.set_cons_succ])
        refine wpAnyH_take (i := 11) (v := undef) rfl (by kernel_rfl) (by kernel_rfl) (by kernel_rfl) (fun _ _ _ h => h) (Or.inr ⟨by rfl, rfl⟩) (by assumption) ?rs11
        (try simp only [List.getElem_toArray, List.getElem_cons_succ, List.getElem_cons_zero, Act.put, List.setIfInBounds_toArray, List.set_cons_zero, List.set_cons_succ])
        refine wpAnyH_take (i := 12) (v := undef) rfl (by kernel_rfl) (by kernel_rfl) (by kernel_rfl) (fun _ _ _ h => h) (Or.inr ⟨by rfl, rfl⟩) (by assumption) ?rs12
        (try simp only [List.getElem_toArray, List.getElem_cons_succ, List.getElem_cons_zero, Act.put, List.setIfInBounds_toArray, List.set_cons_zero, List.set_cons_succ])
        refine wpAnyH_take (i := 13) (v := undef) rfl (by kernel_rfl) (by kernel_rfl) (by kernel_rfl) (fun _ _ _ h => h) (Or.inr ⟨by rfl, rfl⟩) (by assumption) ?rs13
        (try simp only [List.getElem_toArray, List.getElem_cons_succ, List.getElem_cons_zero, Act.put, List.setIfInBounds_toArray, List.set_cons_zero, List.set_cons_succ])
        refine wpAnyH_take (i := 14) (v := ?vs14) rfl (by kernel_rfl) (by kernel_rfl) (by kernel_rfl) (fun _ _ _ h => h) (Or.inl ⟨by rfl, ?ys14⟩) (by assumption) ?rs14
        case ys14 => intro w hSw; (try dsimp only at hSw); go_simp <;> (try with_reducible rfl)
        (try simp only [List.getElem_toArray, List.getElem_cons_succ, List.getElem_cons_zero, Act.put, List.setIfInBounds_toArray, List.set_cons_zero, List.set_cons_succ])
        refine wpAnyH_done (by kernel_rfl) ?_ _
        have hP3 := hP.next hkA hP.lt
        have hH3 := hH.next hkA hH.lt
        have hbel3 := hbel.trans (hkA.mono hbel.size)
        clear hP hH hbel hkA
        go_wp2
        go_roundw
        case rel => exact ⟨k + 1, by omega, by go_num, fun j hj hjm => by
          by_cases e : j = k
          · rw [e, HM.out] at hjm; cases hjm
          · exact HZ.out j (by omega) hjm, hP3, hH3, hbel3⟩
        case measure => simp [intOf]; omega
      · rw [show ((true.toNat : Nat) : Int) = 1 from rfl] at *
        refine wpAnyH_take (i := 4) (v := ?vt4) rfl (by kernel_rfl) (by kernel_rfl) (by kernel_rfl) (fun _ _ _ h => h) (Or.inl ⟨by rfl, ?yt4⟩) (by assumption) ?rt4
        case yt4 => intro w hSw; (try dsimp only at hSw); go_simp <;> (try with_reducible rfl)
        (try simp only [List.getElem_toArray, List.getElem_cons_succ, List.getElem_cons_zero, Act.put, List.setIfInBounds_toArray, List.set_cons_zero, List.set_cons_succ])
        refine wpAnyH_take (i := 5) (v := ?vt5) rfl (by kernel_rfl) (by kernel_rfl) (by kernel_rfl) (fun _ _ _ h => h) (Or.inl ⟨by rfl, ?yt5⟩) (by assumption) ?rt5
        case yt5 => intro w hSw; (try dsimp only at hSw); go_simp <;> (try with_reducible rfl)
        (try simp only [List.getElem_toArray, List.getElem_cons_succ, List.getElem_cons_zero, Act.put, List.setIfInBounds_toArray, List.set_cons_zero, List.set_cons_succ])
        refine wpAnyH_take (i := 6) (v := ?vt6) rfl (by kernel_rfl) (by kernel_rfl) (by kernel_rfl) (fun _ _ _ h => h) (Or.inl ⟨by rfl, ?yt6⟩) (by assumption) ?rt6
        case yt6 => intro w hSw; (try dsimp only at hSw); go_simp <;> (try with_reducible rfl)
        (try simp only [List.getElem_toArray, List.getElem_cons_succ, List.getElem_cons_zero, Act.put, List.setIfInBounds_toArray, List.set_cons_zero, List.set_cons_succ])
        refine' wpAnyH_take (i := 7) (v := _) rfl (by kernel_rfl) (by kernel_rfl) (by kernel_rfl) (fun _ _ _ h => h) (yieldsIf_load_mid (by rfl) _ _ (by rfl) _ _ (by rfl) _ _ ?St7 ?ut7 ?dt7 ?it7) (by assumption) ?rt7
        case St7 => exact (by intro w h; exact h.2.2.1)
        case ut7 => exact hun
        case dt7 => rfl
        case it7 => exact hz2
        (try simp only [List.getElem_toArray, List.getElem_cons_succ, List.getElem_cons_zero, Act.put, List.setIfInBounds_toArray, List.set_cons_zero, List.set_cons_succ])
        refine wpAnyH_take (i := 8) (v := ?vt8) rfl (by kernel_rfl) (by kernel_rfl) (by kernel_rfl) (fun _ _ _ h => h) (Or.inl ⟨by rfl, ?yt8⟩) (by assumption) ?rt8
        case yt8 => intro w hSw; (try dsimp only at hSw); go_simp <;> (try with_reducible rfl)
        (try simp only [List.getElem_toArray, List.getElem_cons_succ, List.getElem_cons_zero, Act.put, List.setIfInBounds_toArray, List.set_cons_zero, List.set_cons_succ])
        refine' wpAnyH_take (i := 10) (v := _) rfl (by kernel_rfl) (by kernel_rfl) (by kernel_rfl) (fun _ _ _ h => h) (yieldsIf_load_mid (by rfl) _ _ (by rfl) _ _ (by rfl) _ _ ?St10 ?ut10 ?dt10 ?it10) (by assumption) ?rt10
        case St10 => exact (by intro w h; exact h.2.2.2)
        case ut10 => exact hun
        case dt10 => rfl
        case it10 => exact hz3
        (try simp only [List.getElem_toArray, List.getElem_cons_succ, List.getElem_cons_zero, Act.put, List.setIfInBounds_toArray, List.set_cons_zero, List.set_cons_succ])
        refine wpAnyH_take (i := 11) (v := ?vt11) rfl (by kernel_rfl) (by kernel_rfl) (by kernel_rfl) (fun _ _ _ h => h) (Or.inl ⟨by rfl, ?yt11⟩) (by assumption) ?rt11
        case yt11 => intro w hSw; (try dsimp only at hSw); go_simp <;> (try with_reducible rfl)
        (try simp only [List.getElem_toArray, List.getElem_cons_succ, List.getElem_cons_zero, Act.put, List.setIfInBounds_toArray, List.set_cons_zero, List.set_cons_succ])
        refine wpAnyH_ready (rs := [9]) (by kernel_rfl) (by simp) ?_
        refine AllReadyH.cons rfl (fun K hK => ?_) AllReadyH.nil
        go_simp
        go_wp2_with fail
        (with_reducible refine (HBB.out _ hlt).mono ?_)
        rintro e wB ⟨rfl, hbB⟩
        have hkB := below_join hkA hbB
        refine hK.out _ _ (HRG.out _ hkB) (fun hHeld => ?_)
        clear hK K hkA hbB
        refine wpAnyH_ready (rs := [12]) (by kernel_rfl) (by simp) ?_
        refine AllReadyH.cons rfl (fun K hK => ?_) AllReadyH.nil
        go_simp
        go_wp2_with fail
        (with_reducible refine (HBC.out _ hlt).mono ?_)
        rintro e wC ⟨rfl, hbC⟩
        have hkC := below_join hkB hbC
        refine hK.out _ _ (HRG.out _ hkC) (fun hHeld => ?_)
        clear hK K hkB hbC
        have hP3 := hP.next hkC hP.lt
        have hH3 := hH.next hkC hH.lt
        have hbel3 := hbel.trans (hkC.mono hbel.size)
        clear hP hH hbel
        by_cases hbc : b = c
        · subst hbc
          refine wpAnyH_take (i := 13) (v := ?vu13) rfl (by kernel_rfl) (by kernel_rfl) (by kernel_rfl) (fun _ _ _ h => h) (Or.inl ⟨by rfl, ?yu13⟩) (by assumption) ?ru13
          case yu13 => intro w hSw; (try dsimp only at hSw); go_simp <;> (try with_reducible rfl)
          (try simp only [List.getElem_toArray, List.getElem_cons_succ, List.getElem_cons_zero, Act.put, List.setIfInBounds_toArray, List.set_cons_zero, List.set_cons_succ])
          refine wpAnyH_take (i := 14) (v := ?vu14) rfl (by kernel_rfl) (by kernel_rfl) (by kernel_rfl) (fun _ _ _ h => h) (Or.inl ⟨by rfl, ?yu14⟩) (by assumption) ?ru14
          case yu14 => intro w hSw; (try dsimp only at hSw); go_simp <;> (try with_reducible rfl)
          (try simp only [List.getElem_toArray, List.getElem_cons_succ, List.getElem_cons_zero, Act.put, List.setIfInBounds_toArray, List.set_cons_zero, List.set_cons_succ])
          refine wpAnyH_done (by kernel_rfl) ?_ _
          go_wp2
          go_roundw
          case rel => exact ⟨k + 1, by omega, by go_num, fun j hj hjm => by
            by_cases e : j = k
            · rw [e, HB.out, HC.out]
            · exact HZ.out j (by omega) hjm, hP3, hH3, hbel3⟩
          case measure => simp [intOf]; omega
        · have hne : ((b.toNat : Int) != (c.toNat : Int)) = true := bne_iff_ne.2 (toNat_ne hbc)
          have hno : Hid (false = D) := by
            have : false = D := by rw [← hD.out]; exact (decide_eq_false fun hh => hbc (by rw [← HB.out, ← HC.out]; exact hh k hlt HM.out)).symm
            exact this
          clear hbc
          refine wpAnyH_take (i := 13) (v := ?vx13) rfl (by kernel_rfl) (by kernel_rfl) (by kernel_rfl) (fun _ _ _ h => h) (Or.inl ⟨by rfl, ?yx13⟩) (by assumption) ?rx13
          case yx13 => intro w hSw; (try dsimp only at hSw); go_simp <;> (try with_reducible rfl)
          (try simp only [List.getElem_toArray, List.getElem_cons_succ, List.getElem_cons_zero, Act.put, List.setIfInBounds_toArray, List.set_cons_zero, List.set_cons_succ])
          refine wpAnyH_take (i := 14) (v := ?vx14) rfl (by kernel_rfl) (by kernel_rfl) (by kernel_rfl) (fun _ _ _ h => h) (Or.inl ⟨by rfl, ?yx14⟩) (by assumption) ?rx14
          case yx14 => intro w hSw; (try dsimp only at hSw); go_simp <;> (try with_reducible rfl)
          (try simp only [List.getElem_toArray, List.getElem_cons_succ, List.getElem_cons_zero, Act.put, List.setIfInBounds_toArray, List.set_cons_zero, List.set_cons_succ])
          refine wpAnyH_done (by kernel_rfl) ?_ _
          go_wp2
          go_ret
          exact ⟨by rw [← hno.out]; rfl, hbel3⟩
    · obtain rfl : k = 160 := by omega
      have hyes : Hid (true = D) := by
        have : true = D := by rw [← hD.out]; exact (decide_eq_true fun i hi => HZ.out i hi).symm
        exact this
      go_wp2
      go_ret
      exact ⟨by rw [← hyes.out]; rfl, hbel⟩
end Go.Proofs.YtbldnhpbmfmepaaDoor
