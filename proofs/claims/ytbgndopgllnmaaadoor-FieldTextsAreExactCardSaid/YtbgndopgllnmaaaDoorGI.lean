/-
  Contracts of the functions that the statement calls, part 9 of 25 (merged texts: Id, Rn, Ro, Rp, Rq, Rs, Sk, Rv). Conditions: as the head of each part says.
-/
import Derived.BigQuiet
import Derived.ChangeKeysEq
import Derived.Deep.MidRow
import Derived.Deep.QuietTactic
import Derived.Deep.RegionHeld
import Derived.Deep.RegionHeld3
import Derived.Great.BuildSlice
import Derived.Laws.BytesArg
import Derived.Laws.CopyOwn
import Derived.Laws.CopyRow
import Derived.Laws.Rows
import Derived.Laws.StructEq
import Derived.Laws.World
import Derived.Lib.BitFns
import Derived.Lib.BufferWrite
import Derived.Lib.Hide
import Derived.Outline
import Derived.StillTailTactics
import Derived.Test.YtbgndopgllnmaaaDoorRows
import Derived.WalkKit
import Derived.WalkMore
import Derived.Test.YtbgndopgllnmaaaDoorGH

/-
  The difference of two patterns in plain words: its pieces, and how many of them a head lies in. Conditions: right patterns that overlap.
-/

namespace Go.Proofs.YtbgndopgllnmaaaDoor
set_option linter.unusedVariables false
set_option linter.unusedSimpArgs false
open Go.RowKit

namespace Pat
/-- The bits that only q fixes. -/
def only (p q : Pat) : Nat → Bool := fun i => q.m i && !p.m i
/-- p with those bits of q below k. -/
def rest (p q : Pat) (k : Nat) : Pat := ⟨fun i => p.m i || (decide (i < k) && q.m i), fun i => if i < k ∧ p.only q i = true then q.b i else p.b i⟩
end Pat
end Go.Proofs.YtbgndopgllnmaaaDoor

/-
  Contracts of the walks over the reference's power and prefix. Conditions: small numbers.
-/

namespace Go.Proofs.YtbgndopgllnmaaaDoor
set_option linter.unusedVariables false
set_option linter.unusedSimpArgs false
open Go.RowKit

def PowRel (n : Nat) (v i : Value) : Prop := ∃ k : Nat, k ≤ n ∧ i = .int .i64 k ∧ v = .int .i64 ((2 ^ k : Nat) : Int)
set_option maxRecDepth 100000 in
set_option maxHeartbeats 1600000 in
theorem rpower_any (n : Nat) (w : World) (hn : n ≤ 16) :
    Calls Tryd.prog 68 #[.int .i64 (n : Int)] w fun e w' => e = .returned (.int .i64 ((2 ^ n : Nat) : Int)) ∧ w = w' := by
  obtain ⟨V, hV⟩ : ∃ V : Nat, Hid (2 ^ n = V) := ⟨_, rfl⟩
  rw [hV.out]
  go_enter Tryd.func68, Tryd.ntmps68
  go_wp2
  go_loop [3, 4] (PowRel n) (fun _ i => n - (intOf i).toNat)
  case atStart => exact ⟨0, by omega, rfl, rfl⟩
  case round =>
    obtain ⟨k, hk, rfl, rfl⟩ := hrel
    by_cases hlt : k < n
    · have hki : (k : Int) < (n : Int) := by omega
      obtain ⟨x, hx⟩ : ∃ x : Nat, 2 ^ k = x := ⟨_, rfl⟩
      have hx6 : x ≤ 65536 := by rw [← hx]; exact Nat.pow_le_pow_right (by decide) (by omega : k ≤ 16)
      have hy : Hid (((2 ^ (k + 1) : Nat) : Int) = 2 * (x : Int)) := by
        have : ((2 ^ (k + 1) : Nat) : Int) = 2 * (x : Int) := by rw [← hx, Nat.pow_succ]; omega
        exact this
      rw [hx]
      clear hx
      go_wp2
      go_round
      case rel => exact ⟨k + 1, by omega, by go_num, by rw [hy.out]⟩
      case measure => simp [intOf]; omega
    · obtain rfl : k = n := by omega
      rw [hV.out]
      clear hV
      go_wp2
      go_ret
      exact ⟨rfl, rfl⟩
end Go.Proofs.YtbgndopgllnmaaaDoor

/-
  Contract of the walk over the reference's prefix. Conditions: the field lies in a head, the number fits in it.
-/

namespace Go.Proofs.YtbgndopgllnmaaaDoor
set_option linter.unusedVariables false
set_option linter.unusedSimpArgs false
open Go.RowKit

/-- The pattern that fixes the first bits of a field as in a number. -/
def Pat.pre (at_ wd n k : Nat) : Pat := ⟨fun i => decide (at_ ≤ i) && decide (i < at_ + k), fun i => (decide (at_ ≤ i) && decide (i < at_ + k)) && n.testBit (wd - 1 - (i - at_))⟩
theorem Pat.pre_zero (at_ wd n : Nat) : (Pat.pre at_ wd n 0).cells = Pat.zero.cells := by
  have h : ∀ i, (decide (at_ ≤ i) && decide (i < at_ + 0)) = false := fun i => by
    rw [Bool.and_eq_false_iff, decide_eq_false_iff_not, decide_eq_false_iff_not]; omega
  refine cells_congr ⟨fun i _ => h i, fun i _ => ?_⟩
  show ((decide (at_ ≤ i) && decide (i < at_ + 0)) && _) = false
  rw [h i, Bool.false_and]
theorem Pat.pre_next (at_ wd n k : Nat) : (⟨upd (Pat.pre at_ wd n k).m (at_ + k) true, upd (Pat.pre at_ wd n k).b (at_ + k) (n.testBit (wd - 1 - k))⟩ : Pat).cells = (Pat.pre at_ wd n (k + 1)).cells := by
  have h : ∀ i, i ≠ at_ + k → (decide (at_ ≤ i) && decide (i < at_ + k)) = (decide (at_ ≤ i) && decide (i < at_ + (k + 1))) := fun i hi => by
    rw [Bool.eq_iff_iff, Bool.and_eq_true, Bool.and_eq_true, decide_eq_true_eq, decide_eq_true_eq, decide_eq_true_eq]; omega
  have h2 : (decide (at_ ≤ at_ + k) && decide (at_ + k < at_ + (k + 1))) = true := by
    rw [Bool.and_eq_true, decide_eq_true_eq, decide_eq_true_eq]; omega
  refine cells_congr ⟨fun i _ => ?_, fun i _ => ?_⟩
  · show upd (Pat.pre at_ wd n k).m (at_ + k) true i = (decide (at_ ≤ i) && decide (i < at_ + (k + 1)))
    unfold upd
    by_cases e : i = at_ + k
    · rw [if_pos e, e, h2]
    · rw [if_neg e, ← h i e]; rfl
  · show upd (Pat.pre at_ wd n k).b (at_ + k) _ i = ((decide (at_ ≤ i) && decide (i < at_ + (k + 1))) && n.testBit (wd - 1 - (i - at_)))
    unfold upd
    by_cases e : i = at_ + k
    · rw [if_pos e, e, h2, Bool.true_and, Nat.add_sub_cancel_left]
    · rw [if_neg e, ← h i e]; rfl
def PrefixRel (at_ wd n fx gp gr : Nat) (w : World) (i : Value) (wr : World) : Prop :=
  ∃ k : Nat, k ≤ fx ∧ i = .int .i64 (k : Int) ∧ Blk wr gp 48 (Pat.pre at_ wd n k).cells ∧ Blk wr gr 48 Pat.zero.cells ∧ Below w.heap.size w wr
set_option maxRecDepth 100000 in
set_option maxHeartbeats 3200000 in
theorem rprefix_any (at_ wd fx n : Nat) (w : World) (h1 : fx ≤ wd) (h2 : wd ≤ 16) (h3 : at_ + fx ≤ 160) (h4 : n < 65536) :
    Calls Tryd.prog 69 #[.int .i64 (at_ : Int), .int .i64 (wd : Int), .int .i64 (fx : Int), .int .i64 (n : Int)] w fun e w' => e = .returned (.agg (Pat.pre at_ wd n fx).cells.toArray) ∧ Below w.heap.size w w' := by
  obtain ⟨X, hX⟩ : ∃ X, Hid (Pat.pre at_ wd n fx = X) := ⟨_, rfl⟩
  rw [hX.out]
  go_enter Tryd.func69, Tryd.ntmps69
  go_wp2_with (with_reducible refine wpList_alloc (o := ⟨some 8, .alloc 48, _, _, _, _⟩) (by with_unfolding_all rfl) 48 (by with_unfolding_all rfl) (.agg (H no ++ H no).toArray) (H no ++ H no) (by exact Tryd.zeroPt) (by with_unfolding_all rfl) ?_)
  intro gr w1 hgr hs1 hb1 hR1
  rw [cells_zero] at hR1
  have hle : w.heap.size ≤ gr := Nat.le_of_eq hgr.out.symm
  have hbel1 := hb1.mono hle
  clear hgr hs1 hb1
  go_wp2_with (first | (with_reducible refine wpList_build (o := ⟨some 11, .build 48 #[], _, _, _, _⟩) (by with_unfolding_all rfl) 48 #[] (by with_unfolding_all rfl) #[] (by with_unfolding_all rfl) (.agg Pat.zero.cells.toArray) (by with_unfolding_all exact fun w => run_buildP0 w) ?_) | (with_reducible refine wpList_alloc (o := ⟨some 9, .alloc 48, _, _, _, _⟩) (by with_unfolding_all rfl) 48 (by with_unfolding_all rfl) (.agg (H no ++ H no).toArray) (H no ++ H no) (by exact Tryd.zeroPt) (by with_unfolding_all rfl) ?_))
  intro gp w2 hgp hs2 hb2 hP2
  rw [cells_zero] at hP2
  have hrp : gr < gp := by have := hR1.lt; have := hgp.out; omega
  have hlep : w.heap.size ≤ gp := by omega
  have hR2 := hR1.next hb2 hrp
  have hbel2 := hbel1.trans (hb2.mono hlep)
  clear hgp hs2 hb2 hR1 hbel1
  go_wp2_with (with_reducible refine wpList_put (o := ⟨none, .store 48 (.tmp 9) (.tmp 11), _, _, _, _⟩) (by with_unfolding_all rfl) 48 (.tmp 9) (.tmp 11) (by with_unfolding_all rfl) gp 0 (by with_unfolding_all rfl) (.agg Pat.zero.cells.toArray) (by with_unfolding_all rfl) hP2 Pat.zero.cells (by with_unfolding_all rfl) (by with_unfolding_all (rw [Pat.cells_length]; exact Tryd.szP)) (by with_unfolding_all (rw [Pat.cells_length]; omega)) (by with_unfolding_all (exact cells_one _)) ?_)
  intro w3 hu3 hP3
  rw [splice_all _ _ rfl] at hP3
  have hR3 := hR2.upd hu3 (by omega)
  have hbel3 := hbel2.trans (hu3.below (B := w.heap.size) hlep)
  clear hP2 hR2 hbel2 hu3
  go_wp2
  go_loopw [10] (PrefixRel at_ wd n fx gp gr w) (fun i _ => fx - (intOf i).toNat)
  case atStart => exact ⟨0, by omega, rfl, by rw [Pat.pre_zero]; exact hP3, hR3, hbel3⟩
  case round =>
    clear hP3 hR3 hbel3
    obtain ⟨k, hk, rfl, hP, hR, hbel⟩ := hrel
    by_cases hlt : k < fx
    · have hki : (k : Int) < (fx : Int) := by omega
      obtain ⟨P, hPe⟩ : ∃ P, Pat.pre at_ wd n k = P := ⟨_, rfl⟩
      obtain ⟨m, hm⟩ : ∃ m, wd - 1 - k = m := ⟨_, rfl⟩
      obtain ⟨s, hs⟩ : ∃ s, at_ + k = s := ⟨_, rfl⟩
      obtain ⟨V, hV⟩ : ∃ V : Nat, 2 ^ m = V := ⟨_, rfl⟩
      obtain ⟨c, hc⟩ : ∃ c, n.testBit m = c := ⟨_, rfl⟩
      obtain ⟨y, hy⟩ : ∃ y, n / V = y := ⟨_, rfl⟩
      have hs160 : s < 160 := by omega
      have hsI : (at_ : Int) + (k : Int) = (s : Int) := by omega
      have hmI : (wd : Int) - 1 - (k : Int) = (m : Int) := by omega
      have hV0 : 0 < V := by rw [← hV]; exact Nat.two_pow_pos m
      have hV6 : V ≤ 65536 := by rw [← hV]; exact Nat.pow_le_pow_right (by decide) (by omega : m ≤ 16)
      have hyn : y ≤ n := by rw [← hy]; exact Nat.div_le_self _ _
      have hdv : (n : Int) / (V : Int) = (y : Int) := by rw [← hy, Int.natCast_ediv]
      have hmod : (y : Int) % 2 = (c.toNat : Int) := by
        rw [← hc, ← hy, ← hV, Nat.testBit_eq_decide_div_mod_eq]
        have h2 : n / 2 ^ m % 2 < 2 := Nat.mod_lt _ (by decide)
        rcases (by omega : n / 2 ^ m % 2 = 0 ∨ n / 2 ^ m % 2 = 1) with h3 | h3
        · rw [h3]; show _ = ((0 : Nat) : Int); omega
        · rw [h3]; show _ = ((1 : Nat) : Int); omega
      obtain ⟨M, hM⟩ : ∃ M, upd P.m s true = M := ⟨_, rfl⟩
      obtain ⟨N, hN⟩ : ∃ N, upd P.b s c = N := ⟨_, rfl⟩
      have HN : Hid ((⟨M, N⟩ : Pat).cells = (Pat.pre at_ wd n (k + 1)).cells) := by
        have : (⟨M, N⟩ : Pat).cells = (Pat.pre at_ wd n (k + 1)).cells := by rw [← Pat.pre_next, hPe, hm, hs, hc, hM, hN]
        exact this
      have hsm := fun w => rset_any P.m s true w hs160
      have hsb := fun w => rset_any P.b s c w hs160
      have hpw := fun w => rpower_any m w (by omega)
      rw [hM, show ((true.toNat : Nat) : Int) = 1 from rfl] at hsm
      rw [hN] at hsb
      rw [hV] at hpw
      have HSM := Lib.hid hsm
      have HSB := Lib.hid hsb
      have HPW := Lib.hid hpw
      rw [hPe] at hP
      clear hsm hsb hpw hM hN hPe hm hs hV hc hy
      have hw1 : IntKind.i64.wrap ((at_ : Int) + (k : Int)) = (s : Int) := by rw [hsI]; simp only [IntKind.wrap_i64]; omega
      have hw2 : IntKind.i64.wrap ((wd : Int) - 1) = (wd : Int) - 1 := by simp only [IntKind.wrap_i64]; omega
      have hw3 : IntKind.i64.wrap ((wd : Int) - 1 - (k : Int)) = (m : Int) := by rw [hmI]; simp only [IntKind.wrap_i64]; omega
      have hmt : Hid ((y : Int).tmod 2 = (c.toNat : Int)) := by
        have : (y : Int).tmod 2 = (c.toNat : Int) := by rw [Int.tmod_eq_emod_of_nonneg (by omega)]; exact hmod
        exact this
      have hVn : V ≠ 0 := by omega
      have hwy : IntKind.i64.wrap (y : Int) = (y : Int) := by simp only [IntKind.wrap_i64]; omega
      have hwc : IntKind.i64.wrap (c.toNat : Int) = (c.toNat : Int) := by have := Bool.toNat_le c; simp only [IntKind.wrap_i64]; omega
      have hc1 : (c.toNat : Int) ≤ 1 := by have := Bool.toNat_le c; omega
      clear hsI hmI
      go_wp2_with (with_reducible refine wpList_get (o := ⟨some 18, .load 30 (.tmp 17), _, _, _, _⟩) (by with_unfolding_all rfl) 30 (.tmp 17) (by with_unfolding_all rfl) gp 0 (by with_unfolding_all rfl) hP (H P.m) (cells_take_m P) _ (by exact Tryd.underlying30) (by with_unfolding_all rfl) (by rw [H_length]; exact Tryd.szH) ?_)
      (with_reducible refine (HSM.out _).mono ?_)
      rintro e w4 ⟨rfl, hb4⟩
      have hP4 := hP.next hb4 hP.lt
      have hR4 := hR.next hb4 hR.lt
      have hbel4 := hbel.trans (hb4.mono hbel.size)
      clear hP hR hb4 hbel
      go_wp2_with (with_reducible refine wpList_put (o := ⟨none, .store 30 (.tmp 23) (.tmp 22), _, _, _, _⟩) (by with_unfolding_all rfl) 30 (.tmp 23) (.tmp 22) (by with_unfolding_all rfl) gp 0 (by with_unfolding_all rfl) (.agg (H M).toArray) (by with_unfolding_all rfl) hP4 (H M) (by with_unfolding_all rfl) (by with_unfolding_all (rw [H_length]; exact Tryd.szH)) (by with_unfolding_all (rw [H_length, Pat.cells_length]; omega)) (by with_unfolding_all (exact H_one _)) ?_)
      intro w5 hu5 hP5
      rw [splice_m] at hP5
      have hR5 := hR4.upd hu5 (by omega)
      have hbel5 := hbel4.trans (hu5.below (B := w.heap.size) hlep)
      clear hP4 hR4 hu5 hbel4
      go_wp2
      have hun := Tryd.underlying30
      have hz2 : (Tryd.prog.info? 30).map (·.size) = some (H P.b).length := by rw [H_length]; exact Tryd.szH
      have hbw := below_drew w5
      have hP6 := hP5.next hbw hP5.lt
      have hR6 := hR5.next hbw hR5.lt
      clear hP5 hR5
      refine wp_region_held_drew (S := fun _ => True) (by kernel_rfl) trivial (fun hHeld => ?_)
      generalize w5.drew = wd5 at hP6 hR6 hbw hHeld ⊢
      refine wpAnyH_take (i := 0) (v := ?vn0) rfl (by kernel_rfl) (by kernel_rfl) (by kernel_rfl) (fun _ _ _ h => h) (Or.inl ⟨by rfl, ?yn0⟩) (by assumption) ?rn0
      case yn0 => intro w hSw; (try dsimp only at hSw); go_simp <;> (try with_reducible rfl)
      (try simp only [List.getElem_toArray, List.getElem_cons_zero, Act.put, List.setIfInBounds_toArray, List.set_cons_zero, List.set_cons_succ])
      refine wpAnyH_take (i := 2) (v := ?vn2) rfl (by kernel_rfl) (by kernel_rfl) (by kernel_rfl) (fun _ _ _ h => h) (Or.inl ⟨by rfl, ?yn2⟩) (by assumption) ?rn2
      case yn2 => intro w hSw; (try dsimp only at hSw); go_simp <;> (try with_reducible rfl)
      (try simp only [List.getElem_toArray, List.getElem_cons_succ, List.getElem_cons_zero, Act.put, List.setIfInBounds_toArray, List.set_cons_zero, List.set_cons_succ])
      refine wpAnyH_take (i := 3) (v := ?vn3) rfl (by kernel_rfl) (by kernel_rfl) (by kernel_rfl) (fun _ _ _ h => h) (Or.inl ⟨by rfl, ?yn3⟩) (by assumption) ?rn3
      case yn3 => intro w hSw; (try dsimp only at hSw); go_simp <;> (try with_reducible rfl)
      (try simp only [List.getElem_toArray, List.getElem_cons_succ, List.getElem_cons_zero, Act.put, List.setIfInBounds_toArray, List.set_cons_zero, List.set_cons_succ])
      refine wpAnyH_take (i := 4) (v := ?vn4) rfl (by kernel_rfl) (by kernel_rfl) (by kernel_rfl) (fun _ _ _ h => h) (Or.inl ⟨by rfl, ?yn4⟩) (by assumption) ?rn4
      case yn4 => intro w hSw; (try dsimp only at hSw); go_simp <;> (try with_reducible rfl)
      (try simp only [List.getElem_toArray, List.getElem_cons_succ, List.getElem_cons_zero, Act.put, List.setIfInBounds_toArray, List.set_cons_zero, List.set_cons_succ])
      refine wpAnyH_take (i := 5) (v := ?vn5) rfl (by kernel_rfl) (by kernel_rfl) (by kernel_rfl) (fun _ _ _ h => h) (Or.inl ⟨by rfl, ?yn5⟩) (by assumption) ?rn5
      case yn5 => intro w hSw; (try dsimp only at hSw); go_simp <;> (try with_reducible rfl)
      (try simp only [List.getElem_toArray, List.getElem_cons_succ, List.getElem_cons_zero, Act.put, List.setIfInBounds_toArray, List.set_cons_zero, List.set_cons_succ])
      refine wpAnyH_take (i := 6) (v := ?vn6) rfl (by kernel_rfl) (by kernel_rfl) (by kernel_rfl) (fun _ _ _ h => h) (Or.inl ⟨by rfl, ?yn6⟩) (by assumption) ?rn6
      case yn6 => intro w hSw; (try dsimp only at hSw); go_simp <;> (try with_reducible rfl)
      (try simp only [List.getElem_toArray, List.getElem_cons_succ, List.getElem_cons_zero, Act.put, List.setIfInBounds_toArray, List.set_cons_zero, List.set_cons_succ])
      refine wpAnyH_take (i := 7) (v := ?vn7) rfl (by kernel_rfl) (by kernel_rfl) (by kernel_rfl) (fun _ _ _ h => h) (Or.inl ⟨by rfl, ?yn7⟩) (by assumption) ?rn7
      case yn7 => intro w hSw; (try dsimp only at hSw); go_simp <;> (try with_reducible rfl)
      (try simp only [List.getElem_toArray, List.getElem_cons_succ, List.getElem_cons_zero, Act.put, List.setIfInBounds_toArray, List.set_cons_zero, List.set_cons_succ])
      refine wpAnyH_take (i := 8) (v := ?vn8) rfl (by kernel_rfl) (by kernel_rfl) (by kernel_rfl) (fun _ _ _ h => h) (Or.inl ⟨by rfl, ?yn8⟩) (by assumption) ?rn8
      case yn8 => intro w hSw; (try dsimp only at hSw); go_simp <;> (try with_reducible rfl)
      (try simp only [List.getElem_toArray, List.getElem_cons_succ, List.getElem_cons_zero, Act.put, List.setIfInBounds_toArray, List.set_cons_zero, List.set_cons_succ])
      refine wpAnyH_take (i := 9) (v := ?vn9) rfl (by kernel_rfl) (by kernel_rfl) (by kernel_rfl) (fun _ _ _ h => h) (Or.inl ⟨by rfl, ?yn9⟩) (by assumption) ?rn9
      case yn9 => intro w hSw; (try dsimp only at hSw); go_simp <;> (try with_reducible rfl)
      (try simp only [List.getElem_toArray, List.getElem_cons_succ, List.getElem_cons_zero, Act.put, List.setIfInBounds_toArray, List.set_cons_zero, List.set_cons_succ])
      apply rest1
      · intro hrest
        refine wpAnyH_ready (rs := [1, 10]) (by kernel_rfl) (by simp) ?_
        refine AllReadyH.cons rfl (fun K hK => ?_) (AllReadyH.cons rfl (fun K hK => ?_) AllReadyH.nil)
        · rw [if_pos (by rfl)]
          refine' wp_load_mid _ _ rfl gp 10 rfl (H P.b) _ ?ca1 ?ua1 ?da1 ?ia1 ?ra1
          case ca1 => exact at_b (p := ⟨M, P.b⟩) hP6
          case ua1 => exact hun
          case da1 => rfl
          case ia1 => exact hz2
          (try simp only [List.getElem_toArray, List.getElem_cons_succ, List.getElem_cons_zero, Act.put, List.setIfInBounds_toArray, List.set_cons_zero, List.set_cons_succ])
          refine hK.out _ _ trivial (fun hHeld => ?_)
          clear hK K
          refine wpAnyH_ready (rs := [10]) (by kernel_rfl) (by simp) ?_
          refine AllReadyH.cons rfl (fun K hK => ?_) AllReadyH.nil
          go_simp
          go_wp2_with fail
          (with_reducible refine (HPW.out _).mono ?_)
          rintro e wa ⟨rfl, hwa⟩
          have hbz : Below wd5.heap.size wd5 wa := by rw [← hwa]; exact Below.refl _ _
          replace hP6 := hP6.next hbz hP6.lt
          replace hR6 := hR6.next hbz hR6.lt
          replace hbw := below_join hbw hbz
          clear hbz hwa
          refine hK.out _ _ trivial (fun hHeld => ?_)
          clear hK K
          refine wpAnyH_take (i := 11) (v := ?vza11) rfl (by kernel_rfl) (by kernel_rfl) (by kernel_rfl) (fun _ _ _ h => h) (Or.inl ⟨by rfl, ?yza11⟩) (by assumption) ?rza11
          case yza11 => intro w hSw; (try dsimp only at hSw); go_simp <;> (try with_reducible rfl)
          (try simp only [List.getElem_toArray, List.getElem_cons_succ, List.getElem_cons_zero, Act.put, List.setIfInBounds_toArray, List.set_cons_zero, List.set_cons_succ])
          refine wpAnyH_take (i := 12) (v := ?vza12) rfl (by kernel_rfl) (by kernel_rfl) (by kernel_rfl) (fun _ _ _ h => h) (Or.inl ⟨by rfl, ?yza12⟩) (by assumption) ?rza12
          case yza12 => intro w hSw; (try dsimp only at hSw); go_simp <;> (try with_reducible rfl)
          (try simp only [List.getElem_toArray, List.getElem_cons_succ, List.getElem_cons_zero, Act.put, List.setIfInBounds_toArray, List.set_cons_zero, List.set_cons_succ])
          revert hP6 hR6 hbw
          exact hrest wa
        · go_simp
          go_wp2_with fail
          (with_reducible refine (HPW.out _).mono ?_)
          rintro e wa ⟨rfl, hwa⟩
          have hbz : Below wd5.heap.size wd5 wa := by rw [← hwa]; exact Below.refl _ _
          replace hP6 := hP6.next hbz hP6.lt
          replace hR6 := hR6.next hbz hR6.lt
          replace hbw := below_join hbw hbz
          clear hbz hwa
          refine hK.out _ _ trivial (fun hHeld => ?_)
          clear hK K
          refine wpAnyH_take (i := 11) (v := ?vzb11) rfl (by kernel_rfl) (by kernel_rfl) (by kernel_rfl) (fun _ _ _ h => h) (Or.inl ⟨by rfl, ?yzb11⟩) (by assumption) ?rzb11
          case yzb11 => intro w hSw; (try dsimp only at hSw); go_simp <;> (try with_reducible rfl)
          (try simp only [List.getElem_toArray, List.getElem_cons_succ, List.getElem_cons_zero, Act.put, List.setIfInBounds_toArray, List.set_cons_zero, List.set_cons_succ])
          refine wpAnyH_take (i := 12) (v := ?vzb12) rfl (by kernel_rfl) (by kernel_rfl) (by kernel_rfl) (fun _ _ _ h => h) (Or.inl ⟨by rfl, ?yzb12⟩) (by assumption) ?rzb12
          case yzb12 => intro w hSw; (try dsimp only at hSw); go_simp <;> (try with_reducible rfl)
          (try simp only [List.getElem_toArray, List.getElem_cons_succ, List.getElem_cons_zero, Act.put, List.setIfInBounds_toArray, List.set_cons_zero, List.set_cons_succ])
          refine wpAnyH_ready (rs := [1]) (by kernel_rfl) (by simp) ?_
          refine AllReadyH.cons rfl (fun K hK => ?_) AllReadyH.nil
          rw [if_pos (by rfl)]
          refine' wp_load_mid _ _ rfl gp 10 rfl (H P.b) _ ?ca2 ?ua2 ?da2 ?ia2 ?ra2
          case ca2 => exact at_b (p := ⟨M, P.b⟩) hP6
          case ua2 => exact hun
          case da2 => rfl
          case ia2 => exact hz2
          (try simp only [List.getElem_toArray, List.getElem_cons_succ, List.getElem_cons_zero, Act.put, List.setIfInBounds_toArray, List.set_cons_zero, List.set_cons_succ])
          refine hK.out _ _ trivial (fun hHeld => ?_)
          clear hK K
          revert hP6 hR6 hbw
          exact hrest wa
      intro wq hP6 hR6 hbw
      refine wpAnyH_ready (rs := [13]) (by kernel_rfl) (by simp) ?_
      refine AllReadyH.cons rfl (fun K hK => ?_) AllReadyH.nil
      go_simp
      go_wp2_with fail
      rw [hmt.out]
      (with_reducible refine (HSB.out _).mono ?_)
      rintro e wv ⟨rfl, hbv⟩
      replace hP6 := hP6.next hbv hP6.lt
      replace hR6 := hR6.next hbv hR6.lt
      replace hbw := below_join hbw hbv
      refine hK.out _ _ trivial (fun hHeld => ?_)
      clear hK K hbv
      refine wpAnyH_take (i := 14) (v := ?vz14) rfl (by kernel_rfl) (by kernel_rfl) (by kernel_rfl) (fun _ _ _ h => h) (Or.inl ⟨by rfl, ?yz14⟩) (by assumption) ?rz14
      case yz14 => intro w hSw; (try dsimp only at hSw); go_simp <;> (try with_reducible rfl)
      (try simp only [List.getElem_toArray, List.getElem_cons_succ, List.getElem_cons_zero, Act.put, List.setIfInBounds_toArray, List.set_cons_zero, List.set_cons_succ])
      refine wpAnyH_ready (rs := [15]) (by kernel_rfl) (by simp) ?_
      refine AllReadyH.cons rfl (fun K hK => ?_) AllReadyH.nil
      rw [if_pos (by rfl)]
      refine wp_put 30 (.tmp 38) (.tmp 37) rfl gp 10 rfl (.agg (H N).toArray) rfl hP6 (H N) rfl (by rw [H_length]; exact Tryd.szH) (by rw [H_length, Pat.cells_length]; omega) (H_one _) ?_
      intro wz huz hPz
      rw [splice_b, HN.out] at hPz
      have hRz := hR6.upd huz (by omega)
      have hbz := (hbel5.trans (hbw.mono hbel5.size)).trans (huz.below (B := w.heap.size) hlep)
      refine hK.out _ _ trivial (fun hHeld => ?_)
      clear hK K hP6 hR6 hbw huz hbel5
      refine wpAnyH_done (by kernel_rfl) ?_ _
      go_wp2
      go_roundw
      case rel => exact ⟨k + 1, by omega, by go_num, hPz, hRz, hbz⟩
      case measure => simp [intOf]; omega
    · obtain rfl : k = fx := by omega
      have hPx : Blk wr gp 48 X.cells := by rw [← hX.out]; exact hP
      clear hP hk
      go_wp2_with (first | (with_reducible refine wpList_get (o := ⟨some 39, .load 48 (.tmp 9), _, _, _, _⟩) (by with_unfolding_all rfl) 48 (.tmp 9) (by with_unfolding_all rfl) gp 0 (by with_unfolding_all rfl) hPx X.cells (cs_all _) _ (by exact Tryd.underlying48) (by with_unfolding_all rfl) (by rw [Pat.cells_length]; exact Tryd.szP) ?_) | (with_reducible refine wpList_put (o := ⟨none, .store 48 (.tmp 8) (.tmp 39), _, _, _, _⟩) (by with_unfolding_all rfl) 48 (.tmp 8) (.tmp 39) (by with_unfolding_all rfl) gr 0 (by with_unfolding_all rfl) (.agg X.cells.toArray) (by with_unfolding_all rfl) hR X.cells (by with_unfolding_all rfl) (by with_unfolding_all (rw [Pat.cells_length]; exact Tryd.szP)) (by with_unfolding_all (rw [Pat.cells_length, Pat.cells_length]; omega)) (by with_unfolding_all (exact cells_one _)) ?_))
      intro w5 hu5 hR5
      rw [splice_all _ _ (by rw [Pat.cells_length, Pat.cells_length])] at hR5
      have hb5 := hbel.trans (hu5.below (B := w.heap.size) (by omega))
      go_wp2
      refine bodyPost_ret (results_cell_row rfl _ _ gr _ _ _ _ rfl hR5 Tryd.underlying48 rfl (by rw [List.size_toArray, Pat.cells_length]; exact Tryd.szP)) rfl ⟨rfl, hb5⟩
end Go.Proofs.YtbgndopgllnmaaaDoor

/-
  Contract of the walk over the law's first. Conditions: words.
-/

namespace Go.Proofs.YtbgndopgllnmaaaDoor
set_option linter.unusedVariables false
set_option linter.unusedSimpArgs false
open Go.RowKit

/-- A word and nine empty ones. -/
def word0 (n : Nat) : List Nat := [n, 0, 0, 0, 0, 0, 0, 0, 0, 0]
end Go.Proofs.YtbgndopgllnmaaaDoor

/-
  Contract of the walk over the reference's RightAll. Conditions: rows of words lie there.
-/

namespace Go.Proofs.YtbgndopgllnmaaaDoor
set_option linter.unusedVariables false
set_option linter.unusedSimpArgs false
open Go.RowKit

/-- The cells of a pattern of whatever words. -/
def rawCells (r : List Int × List Int) : List Value := r.1.map iV ++ r.2.map iV
/-- A slice of patterns of whatever words. -/
def RawAt (w : World) (A : Option Addr) (l : List (List Int × List Int)) : Prop := ∀ k r, l[k]? = some r → ∃ ad, A = some ad ∧ ∀ q u, (rawCells r)[q]? = some u → w.cell? ((ad.add (k * 20)).add q) = some u
theorem RawAt.next {w w' : World} {A : Option Addr} {l : List (List Int × List Int)} (h : RawAt w A l) (hb : Below w.heap.size w w') : RawAt w' A l := fun k r hr => by
  obtain ⟨ad, e, hc⟩ := h k r hr
  exact ⟨ad, e, fun q u hu => by rw [hb.cell (World.block_lt_of_cell? w _ (hc q u hu))]; exact hc q u hu⟩
/-- A pattern has ten words in its mask and ten in its bits. -/
def Tens (l : List (List Int × List Int)) : Prop := ∀ r ∈ l, r.1.length = 10 ∧ r.2.length = 10
end Go.Proofs.YtbgndopgllnmaaaDoor

/-
  Contract of the walk over the reference's Same. Conditions: rows of patterns lie there.
-/

namespace Go.Proofs.YtbgndopgllnmaaaDoor
set_option linter.unusedVariables false
set_option linter.unusedSimpArgs false
open Go.RowKit

/-- A slice of patterns. -/
def PatsAt (w : World) (A : Option Addr) (l : List Pat) : Prop := ∀ k p, l[k]? = some p → ∃ g o, A = some ⟨g, o, none⟩ ∧ w.rangeAt g (o + k * 20) p.cells
theorem PatsAt.next {w w' : World} {A : Option Addr} {l : List Pat} (h : PatsAt w A l) (hb : Below w.heap.size w w') : PatsAt w' A l := fun k p hp => by
  obtain ⟨g, o, e, hc⟩ := h k p hp
  exact ⟨g, o, e, fun q u hu => by rw [hb.cell (World.block_lt_of_cell? w _ (hc q u hu))]; exact hc q u hu⟩
def samePs : List Pat → List Pat → Bool
  | [], [] => true
  | p :: l, q :: r => p.same q && samePs l r
  | _, _ => false
theorem samePs_len : ∀ {l r : List Pat}, samePs l r = true → l.length = r.length
  | [], [], _ => rfl
  | _ :: l, _ :: r, h => by
    unfold samePs at h
    rw [Bool.and_eq_true] at h
    rw [List.length_cons, List.length_cons, samePs_len h.2]
  | [], _ :: _, h => by cases h
  | _ :: _, [], h => by cases h
theorem samePs_iff : ∀ {l r : List Pat}, l.length = r.length → (samePs l r = true ↔ ∀ (k : Nat) (p q : Pat), l[k]? = some p → r[k]? = some q → p.same q = true)
  | [], [], _ => ⟨fun _ k p q h => by simp at h, fun _ => rfl⟩
  | p :: l, q :: r, h => by
    have hl : l.length = r.length := by simpa using h
    unfold samePs
    rw [Bool.and_eq_true, samePs_iff hl]
    constructor
    · rintro ⟨h1, h2⟩ k a b ha hb
      cases k with
      | zero =>
        simp at ha hb
        rw [← ha, ← hb]; exact h1
      | succ k =>
        simp at ha hb
        exact h2 k a b ha hb
    · intro h1
      exact ⟨h1 0 p q rfl rfl, fun k a b ha hb => h1 (k + 1) a b (by simpa using ha) (by simpa using hb)⟩
  | [], _ :: _, h => by simp at h
  | _ :: _, [], h => by simp at h
def RSameRel (l r : List Pat) (n : Nat) (w : World) (i : Value) (wr : World) : Prop :=
  ∃ k : Nat, k ≤ n ∧ i = .int .i64 (k : Int) ∧ (∀ j p q, j < k → l[j]? = some p → r[j]? = some q → p.same q = true) ∧ Below w.heap.size w wr
end Go.Proofs.YtbgndopgllnmaaaDoor

/-
  Why a pattern has no head outside a list of patterns, and how the least head outside is found, in plain words. Conditions: right patterns.
-/

namespace Go.Proofs.YtbgndopgllnmaaaDoor
set_option linter.unusedVariables false
set_option linter.unusedSimpArgs false
open Go.RowKit

namespace Pat
/-- x is a part of p that no element overlaps. -/
def clear (l : List Pat) (p x : Pat) : Prop := x.ok ∧ (∀ i, i < 160 → p.m i = true → x.m i = true ∧ x.b i = p.b i) ∧ ∀ q, q ∈ l → ¬ q.over x
end Pat
end Go.Proofs.YtbgndopgllnmaaaDoor

/-
  Words that are right are those of a right pattern. Conditions: ten words in the mask, ten in the bits.
-/

namespace Go.Proofs.YtbgndopgllnmaaaDoor
set_option linter.unusedVariables false
set_option linter.unusedSimpArgs false
open Go.RowKit

theorem right_head {l : List Int} (hl : l.length = 10) (h : rightI l) : ∃ f, HI f = l := by
  refine ⟨bitsOf (l.map Int.toNat), ?_⟩
  unfold HI
  rw [HN_bitsOf (by rw [List.length_map]; exact hl) (fun x hx => by
    obtain ⟨y, hy, rfl⟩ := List.mem_map.1 hx
    have := h y hy
    omega), List.map_map]
  have : ∀ x ∈ l, ((fun n : Nat => (n : Int)) ∘ Int.toNat) x = id x := fun x hx => by
    have := h x hx
    show ((x.toNat : Nat) : Int) = x
    omega
  rw [List.map_congr_left this, List.map_id]
end Go.Proofs.YtbgndopgllnmaaaDoor
