/-
  Contracts of the functions that the statement calls, part 8 of 25 (merged texts: Bu, Bw, Ca, Ra, Rb, Re, Rf, Rk). Conditions: as the head of each part says.
-/
import Derived.BigQuiet
import Derived.ChangeKeysEq
import Derived.Deep.MidRow
import Derived.Deep.QuietTactic
import Derived.Deep.RegionHeld
import Derived.Deep.RegionHeld3
import Derived.Laws.BytesArg
import Derived.Laws.CopyOwn
import Derived.Laws.CopyRow
import Derived.Laws.Rows
import Derived.Laws.StructEq
import Derived.Laws.World
import Derived.Lib.BitFns
import Derived.Lib.BufferWrite
import Derived.Lib.Hide
import Derived.Outline
import Derived.StillTailTactics
import Derived.Test.YtbgndopgllnmaaaDoorRows
import Derived.WalkKit
import Derived.WalkMore
import Derived.Test.YtbgndopgllnmaaaDoorGG
import Derived.Test.YtbgndopgllnmaaaDoorGF

/-
  Contract of the walk over math/bits.OnesCount16. Conditions: none.
-/

namespace Go.Proofs.YtbgndopgllnmaaaDoor
set_option linter.unusedVariables false
set_option linter.unusedSimpArgs false
open Go.RowKit

/-- How many of the k bits from b on a head has. -/
def cnt (f : Nat → Bool) (b : Nat) : Nat → Nat
  | 0 => 0
  | k + 1 => cnt f b k + (f (b + k)).toNat
end Go.Proofs.YtbgndopgllnmaaaDoor

/-
  Contracts of the walks over Join, Exact, Free, Covers and the tests of right patterns. Conditions: none.
-/

namespace Go.Proofs.YtbgndopgllnmaaaDoor
set_option linter.unusedVariables false
set_option linter.unusedSimpArgs false
open Go.RowKit

theorem neqH (w : World) (f g : Nat → Bool) : (binOp .neq 30 (.agg (H f).toArray) (.agg (H g).toArray)).run Tryd.prog w = .ok (.bool (!decide (HI f = HI g))) w := by
  rw [H_iV, H_iV]; exact neq_head w _ _ (HI_length _) (HI_length _)
theorem eqlH (w : World) (f g : Nat → Bool) : (binOp .eql 30 (.agg (H f).toArray) (.agg (H g).toArray)).run Tryd.prog w = .ok (.bool (decide (HI f = HI g))) w := by
  rw [H_iV, H_iV]; exact eql_head w _ _ (HI_length _) (HI_length _)
end Go.Proofs.YtbgndopgllnmaaaDoor

/-
  Contracts of the walks over Bit, cmp.Compare, slices.Compare and CompareHeads. Conditions: none.
-/

namespace Go.Proofs.YtbgndopgllnmaaaDoor
set_option linter.unusedVariables false
set_option linter.unusedSimpArgs false
open Go.RowKit

def val : List Nat → Nat
  | [] => 0
  | a :: l => a * 65536 ^ l.length + val l
theorem HN_lt (f : Nat → Bool) : ∀ x ∈ HN f, x < 65536 := by
  intro x hx
  obtain ⟨w, _, rfl⟩ := List.mem_map.1 hx
  exact word_lt f w
end Go.Proofs.YtbgndopgllnmaaaDoor

/-
  Contracts of the walks over the reference's value, Bit and set. Conditions: the bit is one of a head.
-/

namespace Go.Proofs.YtbgndopgllnmaaaDoor
set_option linter.unusedVariables false
set_option linter.unusedSimpArgs false
open Go.RowKit

def ValRel (m : Nat) (v i : Value) : Prop := ∃ k : Nat, k ≤ m ∧ i = .int .i64 k ∧ v = .int .i64 ((2 ^ (15 - k) : Nat) : Int)
theorem pow_half {k : Nat} (h : k < 15) : 2 ^ (15 - k) / 2 = 2 ^ (15 - (k + 1)) := by
  rw [show 15 - k = 15 - (k + 1) + 1 by omega, Nat.pow_succ, Nat.mul_div_cancel _ (by decide)]
set_option maxRecDepth 100000 in
set_option maxHeartbeats 1600000 in
theorem rvalue_any (i : Nat) (w : World) (hi : i < 160) :
    Calls Tryd.prog 86 #[.int .i64 (i : Int)] w fun e w' => e = .returned (.int .i64 ((2 ^ (15 - i % 16) : Nat) : Int)) ∧ w = w' := by
  obtain ⟨m, hm⟩ : ∃ m, i % 16 = m := ⟨_, rfl⟩
  have hm16 : m < 16 := by omega
  have hmi : (i : Int) % 16 = (m : Int) := by omega
  have hi0 : (0 : Int) ≤ (i : Int) := by omega
  rw [hm]
  obtain ⟨V, hV⟩ : ∃ V : Nat, Hid (2 ^ (15 - m) = V) := ⟨_, rfl⟩
  rw [hV.out]
  clear hm
  go_enter Tryd.func86, Tryd.ntmps86
  go_wp2
  go_loop [3, 4] (ValRel m) (fun _ i => m - (intOf i).toNat)
  case atStart => exact ⟨0, by omega, rfl, rfl⟩
  case round =>
    obtain ⟨k, hk, rfl, rfl⟩ := hrel
    by_cases hlt : k < m
    · have hki : (k : Int) < (m : Int) := by omega
      have hp := pow_half (k := k) (by omega)
      obtain ⟨x, hx⟩ : ∃ x : Nat, 2 ^ (15 - k) = x := ⟨_, rfl⟩
      obtain ⟨y, hy⟩ : ∃ y : Nat, 2 ^ (15 - (k + 1)) = y := ⟨_, rfl⟩
      have hx6 : x ≤ 32768 := by rw [← hx]; exact Nat.pow_le_pow_right (by decide) (by omega : 15 - k ≤ 15)
      rw [hx, hy] at hp
      rw [hx]
      have hdv : (x : Int) / 2 = (y : Int) := by omega
      have HY := Lib.hid hy
      clear hx hy hp
      go_wp2
      go_round
      case rel => exact ⟨k + 1, by omega, by go_num, by rw [HY.out]⟩
      case measure => simp [intOf]; omega
    · obtain rfl : k = m := by omega
      rw [hV.out]
      clear hV
      go_wp2
      go_ret
      exact ⟨rfl, rfl⟩
theorem rbit_eq {f : Nat → Bool} {i q s x : Nat} (_hi : i < 160) (hq : i / 16 = q) (hs : 15 - i % 16 = s) (hx : word f q = x) : (f i).toNat = x / 2 ^ s % 2 := by
  have h1 := word_test f q s
  rw [hx, decide_eq_true (show s < 16 by omega), Bool.true_and, show 16 * q + (15 - s) = i by omega] at h1
  rw [← h1, Nat.testBit_eq_decide_div_mod_eq]
  have h2 : x / 2 ^ s % 2 < 2 := Nat.mod_lt _ (by decide)
  rcases (by omega : x / 2 ^ s % 2 = 0 ∨ x / 2 ^ s % 2 = 1) with h3 | h3 <;> rw [h3] <;> rfl
set_option maxRecDepth 100000 in
set_option maxHeartbeats 1600000 in
theorem rbit_any (f : Nat → Bool) (i : Nat) (w : World) (hi : i < 160) :
    Calls Tryd.prog 85 #[.agg (H f).toArray, .int .i64 (i : Int)] w fun e w' => e = .returned (.int .i64 ((f i).toNat : Int)) ∧ Below w.heap.size w w' := by
  obtain ⟨q, hq⟩ : ∃ q, i / 16 = q := ⟨_, rfl⟩
  obtain ⟨s, hs⟩ : ∃ s, 15 - i % 16 = s := ⟨_, rfl⟩
  obtain ⟨x, hx⟩ : ∃ x, word f q = x := ⟨_, rfl⟩
  have hx6 := word_lt f q
  have hHk := H_get f (w := q) (by omega)
  have hb := rbit_eq hi hq hs hx
  have hval := rvalue_any i
  rw [hx] at hx6 hHk
  rw [hs] at hval
  obtain ⟨P, hP⟩ : ∃ P : Nat, 2 ^ s = P := ⟨_, rfl⟩
  have hP0 : 0 < P := by rw [← hP]; exact Nat.two_pow_pos s
  have hP1 : P ≤ 32768 := by rw [← hP]; exact Nat.pow_le_pow_right (by decide) (by omega : s ≤ 15)
  rw [hP] at hval hb
  obtain ⟨y, hy⟩ : ∃ y, x / P = y := ⟨_, rfl⟩
  have hyx : y ≤ x := by rw [← hy]; exact Nat.div_le_self _ _
  have hdv : (x : Int) / (P : Int) = (y : Int) := by rw [← hy, Int.natCast_ediv]
  rw [hy] at hb
  have hB : Hid (((f i).toNat : Int) = (y : Int) % 2) := by
    have : ((f i).toNat : Int) = (y : Int) % 2 := by rw [hb]; omega
    exact this
  rw [hB.out]
  have hq16 : (i : Int) / 16 = (q : Int) := by omega
  have hi0 : (0 : Int) ≤ (i : Int) := by omega
  have hi1 : (i : Int) < 160 := by omega
  have hq10 : q < 10 := by omega
  have HHk := Lib.hid hHk
  have HV := Lib.hid hval
  clear hx hq hs hb hHk hy hval hP hB
  go_enter Tryd.func85, Tryd.ntmps85
  go_wp2_with (with_reducible refine wpList_box (o := ⟨some 2, .box 30 (.tmp 0), _, _, _, _⟩) ?g1 30 (.tmp 0) ?o1 (.agg (H f).toArray) (H f) ?x1 ?c1 ?_)
  try (case g1 => rfl)
  try (case o1 => rfl)
  try (case x1 => rfl)
  try (case c1 => rfl)
  intro gp w1 hgp hs1 hb1 hP2
  have hbel : Below w.heap.size w w1 := hb1.mono (Nat.le_of_eq hgp.out.symm)
  have cq : w1.cell? ⟨gp, q, none⟩ = some (.int .i64 (x : Int)) := hP2.cell HHk.out
  clear hgp hs1 hb1
  go_wp2
  go_quiet ((go_at_call 86; exact Calls.quiet_of_same ((HV.out _ hi).mono fun _ _ h => ⟨h.1, h.2.symm⟩)))
  have hfin := hbel.trans ((below_drewN w1 nq).mono hbel.size)
  go_wp2
  go_ret
  exact ⟨rfl, hfin⟩
/-- A head with one bit turned. -/
def upd (f : Nat → Bool) (i : Nat) (b : Bool) : Nat → Bool := fun j => if j = i then b else f j
theorem upd_word {f : Nat → Bool} {i q s : Nat} (_hi : i < 160) (hq : i / 16 = q) (hs : 15 - i % 16 = s) (b : Bool) : (word (upd f i b) q : Int) = (word f q : Int) + ((b.toNat : Int) - ((f i).toNat : Int)) * ((2 ^ s : Nat) : Int) := by
  have key : ∀ g : Nat → Bool, (∀ j, j ≠ i → g j = f j) → word g q = wordB f (16 * q) (15 - s) * 2 ^ (s + 1) + (g i).toNat * 2 ^ s + wordB f (i + 1) s := by
    intro g hg
    have h1 := wordB_add g (16 * q) (15 - s + 1) s
    rw [show 15 - s + 1 + s = 16 by omega] at h1
    have h2 : wordB g (16 * q) (15 - s + 1) = 2 * wordB g (16 * q) (15 - s) + (g (16 * q + (15 - s))).toNat := rfl
    rw [show 16 * q + (15 - s) = i by omega] at h2
    have h3 : wordB g (16 * q) (15 - s) = wordB f (16 * q) (15 - s) := wordB_congr fun j hj => hg _ (by omega)
    have h4 : wordB g (16 * q + (15 - s + 1)) s = wordB f (i + 1) s := by
      rw [show 16 * q + (15 - s + 1) = i + 1 by omega]
      exact wordB_congr fun j hj => hg _ (by omega)
    show wordB g (16 * q) 16 = _
    rw [h1, h2, h3, h4, Nat.add_mul, Nat.pow_succ, Nat.mul_comm (2 ^ s) 2, ← Nat.mul_assoc, Nat.mul_comm _ 2]
  have e1 := key f (fun _ _ => rfl)
  have e2 := key (upd f i b) (fun j hj => by unfold upd; rw [if_neg hj])
  have e3 : upd f i b i = b := by unfold upd; rw [if_pos rfl]
  rw [e3] at e2
  have c1 : (word f q : Int) = (wordB f (16 * q) (15 - s) * 2 ^ (s + 1) : Nat) + ((f i).toNat : Int) * ((2 ^ s : Nat) : Int) + (wordB f (i + 1) s : Int) := by rw [e1, Int.natCast_add, Int.natCast_add, Int.natCast_mul (f i).toNat]
  have c2 : (word (upd f i b) q : Int) = (wordB f (16 * q) (15 - s) * 2 ^ (s + 1) : Nat) + (b.toNat : Int) * ((2 ^ s : Nat) : Int) + (wordB f (i + 1) s : Int) := by rw [e2, Int.natCast_add, Int.natCast_add, Int.natCast_mul b.toNat]
  rw [c1, c2, Int.sub_mul]
  omega
theorem upd_H {f : Nat → Bool} {i q : Nat} (hi : i < 160) (hq : i / 16 = q) (b : Bool) : (H f).set q (.int .i64 (word (upd f i b) q : Int)) = H (upd f i b) := by
  rw [H_set f _ (by omega)]
  refine H_congr fun j _ => ?_
  by_cases h : j / 16 = q
  · rw [if_pos h]
  · rw [if_neg h]
    unfold upd
    rw [if_neg (by omega)]
set_option maxRecDepth 100000 in
set_option maxHeartbeats 1600000 in
theorem rset_any (f : Nat → Bool) (i : Nat) (b : Bool) (w : World) (hi : i < 160) :
    Calls Tryd.prog 75 #[.agg (H f).toArray, .int .i64 (i : Int), .int .i64 (b.toNat : Int)] w fun e w' => e = .returned (.agg (H (upd f i b)).toArray) ∧ Below w.heap.size w w' := by
  obtain ⟨R, hR⟩ : ∃ R, Hid (H (upd f i b) = R) := ⟨_, rfl⟩
  have hRl : Hid (R.length = 10) := by rw [← hR.out]; exact H_length _
  have hR1 : Hid (∀ u ∈ R, u.oneCell' = true) := by rw [← hR.out]; exact H_one _
  rw [hR.out]
  obtain ⟨q, hq⟩ : ∃ q, i / 16 = q := ⟨_, rfl⟩
  obtain ⟨s, hs⟩ : ∃ s, 15 - i % 16 = s := ⟨_, rfl⟩
  have hu := upd_word (f := f) hi hq hs b
  have hU := upd_H (f := f) hi hq b
  have hHk := H_get f (w := q) (by omega)
  have hx6 := word_lt f q
  have hv6 := word_lt (upd f i b) q
  rw [hR.out] at hU
  obtain ⟨x, hx⟩ : ∃ x, word f q = x := ⟨_, rfl⟩
  obtain ⟨v, hv⟩ : ∃ v, word (upd f i b) q = v := ⟨_, rfl⟩
  rw [hx] at hu hHk hx6
  rw [hv] at hu hU hv6
  obtain ⟨P, hP⟩ : ∃ P : Nat, 2 ^ s = P := ⟨_, rfl⟩
  have hP1 : P ≤ 32768 := by rw [← hP]; exact Nat.pow_le_pow_right (by decide) (by omega : s ≤ 15)
  have hval := rvalue_any i
  rw [hs, hP] at hval
  rw [hP] at hu
  obtain ⟨B, hB⟩ : ∃ B : Nat, b.toNat = B := ⟨_, rfl⟩
  obtain ⟨C, hC⟩ : ∃ C : Nat, (f i).toNat = C := ⟨_, rfl⟩
  have hB1 : B ≤ 1 := by rw [← hB]; exact Bool.toNat_le b
  have hC1 : C ≤ 1 := by rw [← hC]; exact Bool.toNat_le _
  have hbit := rbit_any f i
  rw [hC] at hbit hu
  rw [hB] at hu ⊢
  have hmul : ((B : Int) - (C : Int)) * (P : Int) = (v : Int) - (x : Int) := by omega
  have hq16 : (i : Int) / 16 = (q : Int) := by omega
  have hi0 : (0 : Int) ≤ (i : Int) := by omega
  have hi1 : (i : Int) < 160 := by omega
  have hq10 : q < 10 := by omega
  have HHk := Lib.hid hHk
  have HV := Lib.hid hval
  have HBT := Lib.hid hbit
  have HU := Lib.hid hU
  clear hx hq hs hHk hval hP hU hv hbit hB hC hu
  have hwq : IntKind.i64.wrap (q : Int) = (q : Int) := by simp only [IntKind.wrap_i64]; omega
  have hq0 : (0 : Int) ≤ (q : Int) := by omega
  have hq10i : (q : Int) < 10 := by omega
  have hwd : IntKind.i64.wrap ((B : Int) - (C : Int)) = (B : Int) - (C : Int) := by simp only [IntKind.wrap_i64]; omega
  have hwm : IntKind.i64.wrap (((B : Int) - (C : Int)) * (P : Int)) = (v : Int) - (x : Int) := by rw [hmul]; simp only [IntKind.wrap_i64]; omega
  have hwa : IntKind.i64.wrap ((x : Int) + ((v : Int) - (x : Int))) = (v : Int) := by simp only [IntKind.wrap_i64]; omega
  clear hmul
  go_enter Tryd.func75, Tryd.ntmps75
  go_wp2_with (with_reducible refine wpList_box (o := ⟨some 3, .box 30 (.tmp 0), _, _, _, _⟩) ?g1 30 (.tmp 0) ?o1 (.agg (H f).toArray) (H f) ?x1 ?c1 ?_)
  try (case g1 => rfl)
  try (case o1 => rfl)
  try (case x1 => rfl)
  try (case c1 => rfl)
  intro gp w1 hgp hs1 hb1 hP1'
  go_wp2_with (with_reducible refine wpList_alloc (o := ⟨some 6, .alloc 30, _, _, _, _⟩) (by with_unfolding_all rfl) 30 (by with_unfolding_all rfl) (.agg (H no).toArray) (H no) (by exact Tryd.zeroH) (by with_unfolding_all rfl) ?_)
  intro gr w2 hgr hs2 hb2 hR2
  have hle : w.heap.size ≤ gp := Nat.le_of_eq hgp.out.symm
  have hab : gp < gr := by have := hgp.out; have := hs1.out; have := hgr.out; omega
  have hP2 := hP1'.next hb2 hab
  have hbel := (hb1.mono hle).trans (hb2.mono (by omega : w.heap.size ≤ gr))
  clear hgp hs1 hb1 hP1' hgr hs2 hb2
  go_wp2
  have hun := Tryd.underlying30
  have hz1 : (Tryd.prog.info? 30).map (·.size) = some (H f).length := by rw [H_length]; exact Tryd.szH
  have hdd := below_drew w2
  refine wp_region_held_drew (S := fun _ => True) (by kernel_rfl) trivial (fun hHeld => ?_)
  have hB := hP2.next hdd hP2.lt
  have hR := hR2.next hdd hR2.lt
  have hbw := hdd
  clear hP2 hR2
  generalize w2.drew = wd at hB hR hbw ⊢
  clear hdd
  refine wpAnyH_take (i := 0) (v := ?vv0) rfl (by kernel_rfl) (by kernel_rfl) (by kernel_rfl) (fun _ _ _ h => h) (Or.inl ⟨by rfl, ?yv0⟩) (by assumption) ?rv0
  case yv0 => intro w hSw; (try dsimp only at hSw); go_simp <;> (try with_reducible rfl)
  (try simp only [List.getElem_toArray, List.getElem_cons_zero, Act.put, List.setIfInBounds_toArray, List.set_cons_zero, List.set_cons_succ])
  refine wpAnyH_take (i := 1) (v := ?vv1) rfl (by kernel_rfl) (by kernel_rfl) (by kernel_rfl) (fun _ _ _ h => h) (Or.inl ⟨by rfl, ?yv1⟩) (by assumption) ?rv1
  case yv1 => intro w hSw; (try dsimp only at hSw); go_simp <;> (try with_reducible rfl)
  (try simp only [List.getElem_toArray, List.getElem_cons_succ, List.getElem_cons_zero, Act.put, List.setIfInBounds_toArray, List.set_cons_zero, List.set_cons_succ])
  refine wpAnyH_take (i := 2) (v := ?vv2) rfl (by kernel_rfl) (by kernel_rfl) (by kernel_rfl) (fun _ _ _ h => h) (Or.inl ⟨by rfl, ?yv2⟩) (by assumption) ?rv2
  case yv2 => intro w hSw; (try dsimp only at hSw); go_simp <;> (try with_reducible rfl)
  (try simp only [List.getElem_toArray, List.getElem_cons_succ, List.getElem_cons_zero, Act.put, List.setIfInBounds_toArray, List.set_cons_zero, List.set_cons_succ])
  refine wpAnyH_take (i := 3) (v := ?vv3) rfl (by kernel_rfl) (by kernel_rfl) (by kernel_rfl) (fun _ _ _ h => h) (Or.inl ⟨by rfl, ?yv3⟩) (by assumption) ?rv3
  case yv3 => intro w hSw; (try dsimp only at hSw); go_simp <;> (try with_reducible rfl)
  (try simp only [List.getElem_toArray, List.getElem_cons_succ, List.getElem_cons_zero, Act.put, List.setIfInBounds_toArray, List.set_cons_zero, List.set_cons_succ])
  refine wpAnyH_take (i := 4) (v := ?vv4) rfl (by kernel_rfl) (by kernel_rfl) (by kernel_rfl) (fun _ _ _ h => h) (Or.inl ⟨by rfl, ?yv4⟩) (by assumption) ?rv4
  case yv4 => intro w hSw; (try dsimp only at hSw); go_simp <;> (try with_reducible rfl)
  (try simp only [List.getElem_toArray, List.getElem_cons_succ, List.getElem_cons_zero, Act.put, List.setIfInBounds_toArray, List.set_cons_zero, List.set_cons_succ])
  refine wpAnyH_take (i := 6) (v := ?vv6) rfl (by kernel_rfl) (by kernel_rfl) (by kernel_rfl) (fun _ _ _ h => h) (Or.inl ⟨by rfl, ?yv6⟩) (by assumption) ?rv6
  case yv6 => intro w hSw; (try dsimp only at hSw); go_simp <;> (try with_reducible rfl)
  (try simp only [List.getElem_toArray, List.getElem_cons_succ, List.getElem_cons_zero, Act.put, List.setIfInBounds_toArray, List.set_cons_zero, List.set_cons_succ])
  refine wpAnyH_take (i := 8) (v := ?vv8) rfl (by kernel_rfl) (by kernel_rfl) (by kernel_rfl) (fun _ _ _ h => h) (Or.inl ⟨by rfl, ?yv8⟩) (by assumption) ?rv8
  case yv8 => intro w hSw; (try dsimp only at hSw); go_simp <;> (try with_reducible rfl)
  (try simp only [List.getElem_toArray, List.getElem_cons_succ, List.getElem_cons_zero, Act.put, List.setIfInBounds_toArray, List.set_cons_zero, List.set_cons_succ])
  refine wpAnyH_take (i := 11) (v := ?vv11) rfl (by kernel_rfl) (by kernel_rfl) (by kernel_rfl) (fun _ _ _ h => h) (Or.inl ⟨by rfl, ?yv11⟩) (by assumption) ?rv11
  case yv11 => intro w hSw; (try dsimp only at hSw); go_simp <;> (try with_reducible rfl)
  (try simp only [List.getElem_toArray, List.getElem_cons_succ, List.getElem_cons_zero, Act.put, List.setIfInBounds_toArray, List.set_cons_zero, List.set_cons_succ])
  apply rest1
  · intro hrest
    refine wpAnyH_ready (rs := [5, 7]) (by kernel_rfl) (by simp) ?_
    refine AllReadyH.cons rfl (fun K hK => ?_) (AllReadyH.cons rfl (fun K hK => ?_) AllReadyH.nil)
    · skip
      have cq := hB.cell HHk.out
      go_simp
      refine hK.out _ _ trivial (fun hHeld => ?_)
      clear hK K cq
      refine wpAnyH_ready (rs := [7]) (by kernel_rfl) (by simp) ?_
      refine AllReadyH.cons rfl (fun K hK => ?_) AllReadyH.nil
      rw [if_pos (by rfl)]
      refine' wp_load_mid _ _ rfl gp 0 rfl (H f) _ ?ca1 ?ua1 ?da1 ?ia1 ?ra1
      case ca1 => exact blk_range hB
      case ua1 => exact hun
      case da1 => rfl
      case ia1 => exact hz1
      (try simp only [List.getElem_toArray, List.getElem_cons_succ, List.getElem_cons_zero, Act.put, List.setIfInBounds_toArray, List.set_cons_zero, List.set_cons_succ])
      refine hK.out _ _ trivial (fun hHeld => ?_)
      clear hK K
      refine wpAnyH_ready (rs := [9]) (by kernel_rfl) (by simp) ?_
      refine AllReadyH.cons rfl (fun K hK => ?_) AllReadyH.nil
      go_simp
      go_wp2_with fail
      (with_reducible refine (HBT.out _ hi).mono ?_)
      rintro e wa ⟨rfl, hbz⟩
      replace hB := hB.next hbz hB.lt
      replace hR := hR.next hbz hR.lt
      replace hbw := below_join hbw hbz
      clear hbz
      refine hK.out _ _ trivial (fun hHeld => ?_)
      clear hK K
      refine wpAnyH_take (i := 10) (v := ?vta10) rfl (by kernel_rfl) (by kernel_rfl) (by kernel_rfl) (fun _ _ _ h => h) (Or.inl ⟨by rfl, ?yta10⟩) (by assumption) ?rta10
      case yta10 => intro w hSw; (try dsimp only at hSw); go_simp <;> (try with_reducible rfl)
      (try simp only [List.getElem_toArray, List.getElem_cons_succ, List.getElem_cons_zero, Act.put, List.setIfInBounds_toArray, List.set_cons_zero, List.set_cons_succ])
      refine wpAnyH_ready (rs := [12]) (by kernel_rfl) (by simp) ?_
      refine AllReadyH.cons rfl (fun K hK => ?_) AllReadyH.nil
      go_simp
      go_wp2_with fail
      (with_reducible refine (HV.out _ hi).mono ?_)
      rintro e wv ⟨rfl, hwv⟩
      subst hwv
      refine hK.out _ _ trivial (fun hHeld => ?_)
      clear hK K
      refine wpAnyH_take (i := 13) (v := ?vm0x13) rfl (by kernel_rfl) (by kernel_rfl) (by kernel_rfl) (fun _ _ _ h => h) (Or.inl ⟨by rfl, ?ym0x13⟩) (by assumption) ?rm0x13
      case ym0x13 => intro w hSw; (try dsimp only at hSw); go_simp <;> (try with_reducible rfl)
      (try simp only [List.getElem_toArray, List.getElem_cons_succ, List.getElem_cons_zero, Act.put, List.setIfInBounds_toArray, List.set_cons_zero, List.set_cons_succ])
      revert hB hR hbw
      exact hrest wa
    · skip
      rw [if_pos (by rfl)]
      refine' wp_load_mid _ _ rfl gp 0 rfl (H f) _ ?ca2 ?ua2 ?da2 ?ia2 ?ra2
      case ca2 => exact blk_range hB
      case ua2 => exact hun
      case da2 => rfl
      case ia2 => exact hz1
      (try simp only [List.getElem_toArray, List.getElem_cons_succ, List.getElem_cons_zero, Act.put, List.setIfInBounds_toArray, List.set_cons_zero, List.set_cons_succ])
      refine hK.out _ _ trivial (fun hHeld => ?_)
      clear hK K
      refine wpAnyH_ready (rs := [5, 9]) (by kernel_rfl) (by simp) ?_
      refine AllReadyH.cons rfl (fun K hK => ?_) (AllReadyH.cons rfl (fun K hK => ?_) AllReadyH.nil)
      · skip
        have cq := hB.cell HHk.out
        go_simp
        refine hK.out _ _ trivial (fun hHeld => ?_)
        clear hK K cq
        refine wpAnyH_ready (rs := [9]) (by kernel_rfl) (by simp) ?_
        refine AllReadyH.cons rfl (fun K hK => ?_) AllReadyH.nil
        go_simp
        go_wp2_with fail
        (with_reducible refine (HBT.out _ hi).mono ?_)
        rintro e wa ⟨rfl, hbz⟩
        replace hB := hB.next hbz hB.lt
        replace hR := hR.next hbz hR.lt
        replace hbw := below_join hbw hbz
        clear hbz
        refine hK.out _ _ trivial (fun hHeld => ?_)
        clear hK K
        refine wpAnyH_take (i := 10) (v := ?vtb10) rfl (by kernel_rfl) (by kernel_rfl) (by kernel_rfl) (fun _ _ _ h => h) (Or.inl ⟨by rfl, ?ytb10⟩) (by assumption) ?rtb10
        case ytb10 => intro w hSw; (try dsimp only at hSw); go_simp <;> (try with_reducible rfl)
        (try simp only [List.getElem_toArray, List.getElem_cons_succ, List.getElem_cons_zero, Act.put, List.setIfInBounds_toArray, List.set_cons_zero, List.set_cons_succ])
        refine wpAnyH_ready (rs := [12]) (by kernel_rfl) (by simp) ?_
        refine AllReadyH.cons rfl (fun K hK => ?_) AllReadyH.nil
        go_simp
        go_wp2_with fail
        (with_reducible refine (HV.out _ hi).mono ?_)
        rintro e wv ⟨rfl, hwv⟩
        subst hwv
        refine hK.out _ _ trivial (fun hHeld => ?_)
        clear hK K
        refine wpAnyH_take (i := 13) (v := ?vm1x13) rfl (by kernel_rfl) (by kernel_rfl) (by kernel_rfl) (fun _ _ _ h => h) (Or.inl ⟨by rfl, ?ym1x13⟩) (by assumption) ?rm1x13
        case ym1x13 => intro w hSw; (try dsimp only at hSw); go_simp <;> (try with_reducible rfl)
        (try simp only [List.getElem_toArray, List.getElem_cons_succ, List.getElem_cons_zero, Act.put, List.setIfInBounds_toArray, List.set_cons_zero, List.set_cons_succ])
        revert hB hR hbw
        exact hrest wa
      · skip
        go_simp
        go_wp2_with fail
        (with_reducible refine (HBT.out _ hi).mono ?_)
        rintro e wa ⟨rfl, hbz⟩
        replace hB := hB.next hbz hB.lt
        replace hR := hR.next hbz hR.lt
        replace hbw := below_join hbw hbz
        clear hbz
        refine hK.out _ _ trivial (fun hHeld => ?_)
        clear hK K
        refine wpAnyH_take (i := 10) (v := ?vtc10) rfl (by kernel_rfl) (by kernel_rfl) (by kernel_rfl) (fun _ _ _ h => h) (Or.inl ⟨by rfl, ?ytc10⟩) (by assumption) ?rtc10
        case ytc10 => intro w hSw; (try dsimp only at hSw); go_simp <;> (try with_reducible rfl)
        (try simp only [List.getElem_toArray, List.getElem_cons_succ, List.getElem_cons_zero, Act.put, List.setIfInBounds_toArray, List.set_cons_zero, List.set_cons_succ])
        refine wpAnyH_ready (rs := [5, 12]) (by kernel_rfl) (by simp) ?_
        refine AllReadyH.cons rfl (fun K hK => ?_) (AllReadyH.cons rfl (fun K hK => ?_) AllReadyH.nil)
        · skip
          have cq := hB.cell HHk.out
          go_simp
          refine hK.out _ _ trivial (fun hHeld => ?_)
          clear hK K cq
          refine wpAnyH_ready (rs := [12]) (by kernel_rfl) (by simp) ?_
          refine AllReadyH.cons rfl (fun K hK => ?_) AllReadyH.nil
          go_simp
          go_wp2_with fail
          (with_reducible refine (HV.out _ hi).mono ?_)
          rintro e wv ⟨rfl, hwv⟩
          subst hwv
          refine hK.out _ _ trivial (fun hHeld => ?_)
          clear hK K
          refine wpAnyH_take (i := 13) (v := ?vm2x13) rfl (by kernel_rfl) (by kernel_rfl) (by kernel_rfl) (fun _ _ _ h => h) (Or.inl ⟨by rfl, ?ym2x13⟩) (by assumption) ?rm2x13
          case ym2x13 => intro w hSw; (try dsimp only at hSw); go_simp <;> (try with_reducible rfl)
          (try simp only [List.getElem_toArray, List.getElem_cons_succ, List.getElem_cons_zero, Act.put, List.setIfInBounds_toArray, List.set_cons_zero, List.set_cons_succ])
          revert hB hR hbw
          exact hrest wa
        · skip
          go_simp
          go_wp2_with fail
          (with_reducible refine (HV.out _ hi).mono ?_)
          rintro e wv ⟨rfl, hwv⟩
          subst hwv
          refine hK.out _ _ trivial (fun hHeld => ?_)
          clear hK K
          refine wpAnyH_take (i := 13) (v := ?vm3x13) rfl (by kernel_rfl) (by kernel_rfl) (by kernel_rfl) (fun _ _ _ h => h) (Or.inl ⟨by rfl, ?ym3x13⟩) (by assumption) ?rm3x13
          case ym3x13 => intro w hSw; (try dsimp only at hSw); go_simp <;> (try with_reducible rfl)
          (try simp only [List.getElem_toArray, List.getElem_cons_succ, List.getElem_cons_zero, Act.put, List.setIfInBounds_toArray, List.set_cons_zero, List.set_cons_succ])
          refine wpAnyH_ready (rs := [5]) (by kernel_rfl) (by simp) ?_
          refine AllReadyH.cons rfl (fun K hK => ?_) AllReadyH.nil
          have cq := hB.cell HHk.out
          go_simp
          refine hK.out _ _ trivial (fun hHeld => ?_)
          clear hK K cq
          revert hB hR hbw
          exact hrest wa
  intro wq hB hR hbw
  refine wpAnyH_take (i := 14) (v := ?vz14) rfl (by kernel_rfl) (by kernel_rfl) (by kernel_rfl) (fun _ _ _ h => h) (Or.inl ⟨by rfl, ?yz14⟩) (by assumption) ?rz14
  case yz14 => intro w hSw; (try dsimp only at hSw); go_simp <;> (try with_reducible rfl)
  (try simp only [List.getElem_toArray, List.getElem_cons_succ, List.getElem_cons_zero, Act.put, List.setIfInBounds_toArray, List.set_cons_zero, List.set_cons_succ])
  refine wpAnyH_take (i := 15) (v := ?vz15) rfl (by kernel_rfl) (by kernel_rfl) (by kernel_rfl) (fun _ _ _ h => h) (Or.inl ⟨by rfl, ?yz15⟩) (by assumption) ?rz15
  case yz15 => intro w hSw; (try dsimp only at hSw); go_simp <;> (try with_reducible rfl)
  (try simp only [List.getElem_toArray, List.getElem_cons_succ, List.getElem_cons_zero, Act.put, List.setIfInBounds_toArray, List.set_cons_zero, List.set_cons_succ])
  refine wpAnyH_ready (rs := [16]) (by kernel_rfl) (by simp) ?_
  refine AllReadyH.cons rfl (fun K hK => ?_) AllReadyH.nil
  rw [if_pos (by rfl)]
  refine wp_put 3 (.tmp 22) (.tmp 21) rfl gp q rfl (.int .i64 (v : Int)) rfl hB [.int .i64 (v : Int)] rfl Tryd.szI (by rw [H_length]; exact hq10) (one_cell1 rfl) ?_
  intro wz huz hBz
  have e4 : splice (H f) q [.int .i64 (v : Int)] = R := by rw [splice_set _ _ _ (by rw [H_length]; exact hq10)]; exact HU.out
  rw [e4] at hBz
  have hRz := hR.upd huz (by omega)
  have hbz := (hbel.trans (hbw.mono hbel.size)).trans (huz.below (B := w.heap.size) hle)
  refine hK.out _ _ trivial (fun hHeld => ?_)
  clear hK K hB hR hbw huz e4
  refine wpAnyH_done (by kernel_rfl) ?_ _
  go_wp2_with (first | (with_reducible refine wpList_get (o := ⟨some 23, .load 30 (.tmp 3), _, _, _, _⟩) (by with_unfolding_all rfl) 30 (.tmp 3) (by with_unfolding_all rfl) gp 0 (by with_unfolding_all rfl) hBz R (cs_all _) _ (by exact Tryd.underlying30) (by with_unfolding_all rfl) (by rw [hRl.out]; exact Tryd.szH) ?_) | (with_reducible refine wpList_put (o := ⟨none, .store 30 (.tmp 6) (.tmp 23), _, _, _, _⟩) (by with_unfolding_all rfl) 30 (.tmp 6) (.tmp 23) (by with_unfolding_all rfl) gr 0 (by with_unfolding_all rfl) (.agg R.toArray) (by with_unfolding_all rfl) hRz R (by with_unfolding_all rfl) (by with_unfolding_all (rw [hRl.out]; exact Tryd.szH)) (by with_unfolding_all (rw [hRl.out, H_length]; omega)) (by with_unfolding_all (exact hR1.out)) ?_))
  intro w4 hu4 hR4
  rw [splice_all _ _ (by rw [hRl.out, H_length])] at hR4
  have hb4 := hbz.trans (hu4.below (B := w.heap.size) (by omega))
  go_wp2
  refine bodyPost_ret (results_cell_row rfl _ _ gr _ _ _ _ rfl hR4 Tryd.underlying30 rfl (by rw [List.size_toArray, hRl.out]; exact Tryd.szH)) rfl ⟨rfl, hb4⟩
end Go.Proofs.YtbgndopgllnmaaaDoor

/-
  Contracts of the walks over the reference's RightHead, within, Right, CompareHeads. Conditions: none.
-/

namespace Go.Proofs.YtbgndopgllnmaaaDoor
set_option linter.unusedVariables false
set_option linter.unusedSimpArgs false
open Go.RowKit

set_option maxRecDepth 100000 in
set_option maxHeartbeats 1600000 in
theorem rrightHead_any (l : List Int) (w : World) (hl : l.length = 10) :
    Calls Tryd.prog 13 #[.agg (l.map iV).toArray] w fun e w' => e = .returned (.bool (decide (rightI l))) ∧ Below w.heap.size w w' := by
  have HL := Lib.hid hl
  clear hl
  go_enter Tryd.func13, Tryd.ntmps13
  go_wp2_with (with_reducible refine wpList_box (o := ⟨some 1, .box 30 (.tmp 0), _, _, _, _⟩) ?g1 30 (.tmp 0) ?o1 (.agg (l.map iV).toArray) (l.map iV) ?x1 ?c1 ?_)
  try (case g1 => rfl)
  try (case o1 => rfl)
  try (case x1 => rfl)
  try (case c1 => rfl)
  intro ga w1 hga hs1 hb1 hA1
  have hbel : Below w.heap.size w w1 := hb1.mono (Nat.le_of_eq hga.out.symm)
  clear hb1 hga hs1
  go_wp2
  go_loop [3] (RightRel l) (fun i => 10 - (intOf i).toNat)
  case atStart => exact ⟨0, by omega, rfl, fun x hx => by simp at hx⟩
  case round =>
    obtain ⟨k, hk, rfl, hr⟩ := hrel
    have HR := Lib.hid hr
    clear hr
    by_cases hlt : k < 10
    · obtain ⟨x, hx⟩ : ∃ x, l[k]? = some x := ⟨_, List.getElem?_eq_getElem (by rw [HL.out]; exact hlt)⟩
      have cx : w1.cell? ⟨ga, k, none⟩ = some (.int .i64 x) := hA1.cell (by rw [List.getElem?_map, hx]; rfl)
      have HX := Lib.hid hx
      clear hx
      have hst : Hid (x ∈ l) := List.mem_of_getElem? HX.out
      by_cases h0 : x < 0
      · have hno : Hid (decide (rightI l) = false) := by
          have : decide (rightI l) = false := decide_eq_false fun h => by have := (h x hst.out).1; omega
          exact this
        go_wp2
        go_ret
        exact ⟨(by rw [hno.out]; rfl), hbel⟩
      · by_cases h1 : 65535 < x
        · have hno : Hid (decide (rightI l) = false) := by
            have : decide (rightI l) = false := decide_eq_false fun h => by have := (h x hst.out).2; omega
            exact this
          have h0' : 0 ≤ x := by omega
          go_wp2
          go_ret
          exact ⟨(by rw [hno.out]; rfl), hbel⟩
        · have h0' : 0 ≤ x := by omega
          have h1' : x ≤ 65535 := by omega
          go_wp2
          go_round
          case rel => exact ⟨k + 1, by omega, by go_num, right_step HR.out HX.out h0' h1'⟩
          case measure => simp [intOf]; omega
    · obtain rfl : k = 10 := by omega
      have hyes : Hid (decide (rightI l) = true) := by
        have : decide (rightI l) = true := decide_eq_true (by have := HR.out; rwa [List.take_of_length_le (by rw [HL.out]; exact Nat.le_refl _)] at this)
        exact this
      go_wp2
      go_ret
      exact ⟨(by rw [hyes.out]; rfl), hbel⟩
end Go.Proofs.YtbgndopgllnmaaaDoor

/-
  Contract of the walk over the reference's Match. Conditions: none.
-/

namespace Go.Proofs.YtbgndopgllnmaaaDoor
set_option linter.unusedVariables false
set_option linter.unusedSimpArgs false
open Go.RowKit

instance (p : Pat) (h : Nat → Bool) : Decidable (p.hit h) := by unfold Pat.hit; exact inferInstance
end Go.Proofs.YtbgndopgllnmaaaDoor

/-
  Contract of the walk over the reference's And. Conditions: right patterns.
-/

namespace Go.Proofs.YtbgndopgllnmaaaDoor
set_option linter.unusedVariables false
set_option linter.unusedSimpArgs false
open Go.RowKit

theorem splice_m (p : Pat) (M : Nat → Bool) : splice p.cells 0 (H M) = (⟨M, p.b⟩ : Pat).cells := by
  unfold splice Pat.cells
  rw [List.take_zero, List.nil_append, Nat.zero_add, List.drop_left' (by rw [H_length, H_length])]
theorem splice_b (p : Pat) (B : Nat → Bool) : splice p.cells 10 (H B) = (⟨p.m, B⟩ : Pat).cells := by
  unfold splice Pat.cells
  rw [List.take_left' (H_length _), List.drop_eq_nil_of_le (by rw [List.length_append, H_length, H_length, H_length]; omega), List.append_nil]
end Go.Proofs.YtbgndopgllnmaaaDoor

/-
  Contract of the walk over the reference's Join. Conditions: none.
-/

namespace Go.Proofs.YtbgndopgllnmaaaDoor
set_option linter.unusedVariables false
set_option linter.unusedSimpArgs false
open Go.RowKit

/-- What is known of the last place that is odd. -/
structure One (o : Nat → Bool) (k : Nat) (a : Int) : Prop where
  zero : cnt o 0 k = 0 → ∀ j, j < k → o j = false
  one : cnt o 0 k = 1 → ∃ s, s < k ∧ a = (s : Int) ∧ o s = true ∧ ∀ j, j < k → j ≠ s → o j = false
theorem cnt_next (o : Nat → Bool) (k : Nat) : cnt o 0 (k + 1) = cnt o 0 k + (o k).toNat := by
  show cnt o 0 k + (o (0 + k)).toNat = _
  rw [Nat.zero_add]
theorem One.take {o : Nat → Bool} {k : Nat} {a : Int} (h : One o k a) (ho : o k = true) : One o (k + 1) (k : Int) := by
  have e := cnt_next o k
  rw [ho] at e
  have e2 : cnt o 0 (k + 1) = cnt o 0 k + 1 := e
  refine ⟨fun hc => by omega, fun hc => ⟨k, by omega, rfl, ho, fun j hj hne => h.zero (by omega) j (by omega)⟩⟩
end Go.Proofs.YtbgndopgllnmaaaDoor
