/-
  Contracts of the functions that the statement calls, part 13 of 25 (merged texts: Mf, Mg, Mi, Mj, Fd, Mh). Conditions: as the head of each part says.
-/
import Derived.BigQuiet
import Derived.ChangeKeysEq
import Derived.Deep.MidRow
import Derived.Deep.QuietTactic
import Derived.Deep.RegionHeld
import Derived.Deep.RegionHeld3
import Derived.Great.BuildSlice
import Derived.Laws.BytesArg
import Derived.Laws.CopyOwn
import Derived.Laws.CopyRow
import Derived.Laws.Rows
import Derived.Laws.Strings
import Derived.Laws.StructEq
import Derived.Laws.World
import Derived.Lib.BitFns
import Derived.Lib.BufferWrite
import Derived.Lib.ConvBytes
import Derived.Lib.Hide
import Derived.LoopIn
import Derived.LoopNIn
import Derived.Outline
import Derived.OwnWalkIn
import Derived.RangeFuncLeaves
import Derived.RangeFuncWrites
import Derived.Shelf.Small.Bits
import Derived.Shelf.Small.Strs
import Derived.Shelf.Strings.Builder1
import Derived.Shelf.Strings.Cut
import Derived.Shelf.Strings.Split
import Derived.StillTailTactics
import Derived.TacticsInMore
import Derived.Test.YtbgndopgllnmaaaDoorRows
import Derived.Test.YtbgndopgllnmaaaDoorGA
import Derived.WalkKit
import Derived.WalkMore
import Derived.Test.YtbgndopgllnmaaaDoorGK
import Derived.Test.YtbgndopgllnmaaaDoorGI
import Derived.Test.YtbgndopgllnmaaaDoorGJ

/-
  Contract of the walk over Parse. Conditions: at most a million bytes; the library's variable lies there.
-/

namespace Go.Proofs.YtbgndopgllnmaaaDoor
set_option linter.unusedVariables false
set_option linter.unusedSimpArgs false
open Go.RowKit Go.Shelf

theorem splitB_size (sep : ByteArray) : ∀ (k : Nat) (s t : ByteArray), t ∈ Lib.splitB sep 0 k s → t.size ≤ s.size
  | 0, s, t, h => by
    rw [List.mem_singleton.1 h]; exact Nat.le_refl _
  | k + 1, s, t, h => by
    unfold Lib.splitB at h
    split at h
    · rw [List.mem_singleton.1 h]; exact Nat.le_refl _
    · rcases List.mem_cons.1 h with h | h
      · rw [h, ByteArray.size_extract]; omega
      · have := splitB_size sep k _ t h
        rw [ByteArray.size_extract] at this
        omega
/-- A row of raw words that is filled to k. -/
def rawK (l : List Int) (k : Nat) : List Int := l.take k ++ List.replicate (10 - k) 0
theorem rawK_put {l : List Int} {x : Int} {R : List Value} (hl : l.length = 10) : ∀ {k : Nat}, k < 10 → l[k]? = some x → splice ((rawK l k).map iV ++ R) k [iV x] = (rawK l (k + 1)).map iV ++ R := by
  obtain ⟨a0, a1, a2, a3, a4, a5, a6, a7, a8, a9, rfl⟩ := list10 hl
  intro k hk hx
  match k, hk with
  | 0, _ => simp at hx; subst hx; rfl
  | 1, _ => simp at hx; subst hx; rfl
  | 2, _ => simp at hx; subst hx; rfl
  | 3, _ => simp at hx; subst hx; rfl
  | 4, _ => simp at hx; subst hx; rfl
  | 5, _ => simp at hx; subst hx; rfl
  | 6, _ => simp at hx; subst hx; rfl
  | 7, _ => simp at hx; subst hx; rfl
  | 8, _ => simp at hx; subst hx; rfl
  | 9, _ => simp at hx; subst hx; rfl
end Go.Proofs.YtbgndopgllnmaaaDoor

/-
  Contract of the walk over Range at arguments that are refused. Conditions: none.
-/

namespace Go.Proofs.YtbgndopgllnmaaaDoor
set_option linter.unusedVariables false
set_option linter.unusedSimpArgs false
open Go.RowKit

/-- What Range accepts. -/
def rangeOk (a wd lo hi : Int) : Prop := 1 ≤ wd ∧ wd ≤ 16 ∧ 0 ≤ a ∧ a ≤ 160 - wd ∧ a % 16 + wd ≤ 16 ∧ 0 ≤ lo ∧ lo ≤ hi ∧ hi < ((2 ^ wd.toNat : Nat) : Int)
set_option maxRecDepth 100000 in
set_option maxHeartbeats 1600000 in
theorem range_bad (a wd lo hi : Int) (w : World) (h : ¬ rangeOk a wd lo hi) :
    Calls Tryd.prog 58 #[.int .i64 a, .int .i64 wd, .int .i64 lo, .int .i64 hi] w fun e w' => e = .returned (.tuple #[.slice none 0 0, .int .i64 1]) ∧ w = w' := by
  have HB := Lib.hid h
  clear h
  by_cases c1 : wd < 1
  ·
    go_enter Tryd.func58, Tryd.ntmps58
    go_wp2
    go_ret2
    exact ⟨rfl, rfl⟩
  by_cases c2 : wd > 16
  ·
    go_enter Tryd.func58, Tryd.ntmps58
    go_wp2
    go_ret2
    exact ⟨rfl, rfl⟩
  by_cases c3 : a < 0
  ·
    go_enter Tryd.func58, Tryd.ntmps58
    go_wp2
    go_ret2
    exact ⟨rfl, rfl⟩
  obtain ⟨n, rfl⟩ : ∃ n : Nat, wd = (n : Int) := ⟨wd.toNat, by omega⟩
  obtain ⟨b, rfl⟩ : ∃ b : Nat, a = (b : Int) := ⟨a.toNat, by omega⟩
  have hw1 : IntKind.i64.wrap (160 - (n : Int)) = 160 - (n : Int) := by simp only [IntKind.wrap_i64]; omega
  by_cases c4 : (b : Int) > 160 - (n : Int)
  ·
    go_enter Tryd.func58, Tryd.ntmps58
    go_wp2
    go_ret2
    exact ⟨rfl, rfl⟩
  obtain ⟨r, hr⟩ : ∃ r : Nat, Hid (b % 16 = r) := ⟨_, rfl⟩
  have hrd : (b : Int).tmod 16 = (r : Int) := by rw [Int.tmod_eq_emod_of_nonneg (by omega), ← hr.out]; rfl
  have hr16 : r < 16 := by have := hr.out; omega
  have hw2 : IntKind.i64.wrap (r : Int) = (r : Int) := by simp only [IntKind.wrap_i64]; omega
  have hw3 : IntKind.i64.wrap ((r : Int) + (n : Int)) = (r : Int) + (n : Int) := by simp only [IntKind.wrap_i64]; omega
  by_cases c5 : (r : Int) + (n : Int) > 16
  ·
    go_enter Tryd.func58, Tryd.ntmps58
    go_wp2
    go_ret2
    exact ⟨rfl, rfl⟩
  by_cases c6 : lo < 0
  ·
    go_enter Tryd.func58, Tryd.ntmps58
    go_wp2
    go_ret2
    exact ⟨rfl, rfl⟩
  by_cases c7 : lo > hi
  ·
    go_enter Tryd.func58, Tryd.ntmps58
    go_wp2
    go_ret2
    exact ⟨rfl, rfl⟩
  obtain ⟨PW, hPW⟩ : ∃ PW : Nat, Hid (2 ^ n = PW) := ⟨_, rfl⟩
  have hsh : ((2 : Int) ^ n) = (PW : Int) := by rw [← hPW.out, Int.natCast_pow]; rfl
  have hPWl : PW ≤ 65536 := by rw [← hPW.out]; exact Nat.pow_le_pow_right (by decide) (show n ≤ 16 by omega)
  have hw4 : IntKind.i64.wrap (PW : Int) = (PW : Int) := by simp only [IntKind.wrap_i64]; omega
  by_cases c8 : hi ≥ (PW : Int)
  ·
    go_enter Tryd.func58, Tryd.ntmps58
    go_wp2
    go_ret2
    exact ⟨rfl, rfl⟩
  refine absurd ?_ HB.out
  have := hr.out
  exact ⟨by omega, by omega, by omega, by omega, by omega, by omega, by omega, by rw [Int.toNat_natCast, hPW.out]; omega⟩
end Go.Proofs.YtbgndopgllnmaaaDoor

/-
  Contract of the walk over the reference's Range at arguments that are refused. Conditions: none.
-/

namespace Go.Proofs.YtbgndopgllnmaaaDoor
set_option linter.unusedVariables false
set_option linter.unusedSimpArgs false
open Go.RowKit

set_option maxRecDepth 100000 in
set_option maxHeartbeats 1600000 in
theorem rrange_bad (a wd lo hi : Int) (w : World) (h : ¬ rangeOk a wd lo hi) :
    Calls Tryd.prog 59 #[.int .i64 a, .int .i64 wd, .int .i64 lo, .int .i64 hi] w fun e w' => e = .returned (.tuple #[.slice none 0 0, .int .i64 1]) ∧ w = w' := by
  have HB := Lib.hid h
  clear h
  by_cases c1 : wd < 1
  ·
    go_enter Tryd.func59, Tryd.ntmps59
    go_wp2
    go_ret2
    exact ⟨rfl, rfl⟩
  by_cases c2 : wd > 16
  ·
    go_enter Tryd.func59, Tryd.ntmps59
    go_wp2
    go_ret2
    exact ⟨rfl, rfl⟩
  by_cases c3 : a < 0
  ·
    go_enter Tryd.func59, Tryd.ntmps59
    go_wp2
    go_ret2
    exact ⟨rfl, rfl⟩
  by_cases c4 : a > 159
  ·
    go_enter Tryd.func59, Tryd.ntmps59
    go_wp2
    go_ret2
    exact ⟨rfl, rfl⟩
  obtain ⟨n, rfl⟩ : ∃ n : Nat, wd = (n : Int) := ⟨wd.toNat, by omega⟩
  obtain ⟨b, rfl⟩ : ∃ b : Nat, a = (b : Int) := ⟨a.toNat, by omega⟩
  obtain ⟨q1, hq1⟩ : ∃ q : Nat, Hid (b / 16 = q) := ⟨_, rfl⟩
  obtain ⟨q2, hq2⟩ : ∃ q : Nat, Hid ((b + n - 1) / 16 = q) := ⟨_, rfl⟩
  have hd1 : (b : Int).tdiv 16 = (q1 : Int) := by rw [Int.tdiv_eq_ediv_of_nonneg (by omega), ← hq1.out]; rfl
  have hd2 : ((b : Int) + (n : Int) - 1).tdiv 16 = (q2 : Int) := by rw [Int.tdiv_eq_ediv_of_nonneg (by omega), ← hq2.out]; omega
  have hl1 : q1 ≤ 20 := by have := hq1.out; omega
  have hl2 : q2 ≤ 20 := by have := hq2.out; omega
  have hw1 : IntKind.i64.wrap ((b : Int) + (n : Int)) = (b : Int) + (n : Int) := by simp only [IntKind.wrap_i64]; omega
  have hw2 : IntKind.i64.wrap ((b : Int) + (n : Int) - 1) = (b : Int) + (n : Int) - 1 := by simp only [IntKind.wrap_i64]; omega
  have hw3 : IntKind.i64.wrap (q1 : Int) = (q1 : Int) := by simp only [IntKind.wrap_i64]; omega
  have hw4 : IntKind.i64.wrap (q2 : Int) = (q2 : Int) := by simp only [IntKind.wrap_i64]; omega
  by_cases c5 : (q1 : Int) ≠ (q2 : Int)
  ·
    have c5' : ¬ ((q1 : Int) = (q2 : Int)) := c5
    have c5'' : ((q1 : Int) == (q2 : Int)) = false := beq_eq_false_iff_ne.2 c5
    have c5n : ¬ (q1 = q2) := fun e => c5 (by rw [e])
    go_enter Tryd.func59, Tryd.ntmps59
    go_wp2
    go_ret2
    exact ⟨rfl, rfl⟩
  have c5e : q2 = q1 := by omega
  rw [c5e] at hd2
  by_cases c6 : lo < 0
  ·
    go_enter Tryd.func59, Tryd.ntmps59
    go_wp2
    go_ret2
    exact ⟨rfl, rfl⟩
  by_cases c7 : lo > hi
  ·
    go_enter Tryd.func59, Tryd.ntmps59
    go_wp2
    go_ret2
    exact ⟨rfl, rfl⟩
  obtain ⟨PW, hPW⟩ : ∃ PW : Nat, Hid (2 ^ n = PW) := ⟨_, rfl⟩
  have hpo := fun w => rpower_any n w (by omega)
  rw [hPW.out] at hpo
  have HPO := Lib.hid hpo
  clear hpo
  by_cases c8 : hi ≥ (PW : Int)
  · go_enter Tryd.func59, Tryd.ntmps59
    go_wp2_with fail
    (with_reducible refine (HPO.out _).mono ?_)
    rintro e w1 ⟨rfl, rfl⟩
    go_wp2
    go_ret2
    exact ⟨rfl, rfl⟩
  refine absurd ?_ HB.out
  have := hq1.out
  have := hq2.out
  exact ⟨by omega, by omega, by omega, by omega, by omega, by omega, by omega, by rw [Int.toNat_natCast, hPW.out]; omega⟩
end Go.Proofs.YtbgndopgllnmaaaDoor

/-
  Contract of the walk over the reference's Range. Conditions: what it accepts.
-/

namespace Go.Proofs.YtbgndopgllnmaaaDoor
set_option linter.unusedVariables false
set_option linter.unusedSimpArgs false
open Go.RowKit

def FrRel (j hi wd : Nat) (w0 : World) (i : Value) (wr : World) : Prop := ∃ f : Nat, f ≤ wd ∧ i = .int .i64 (f : Int) ∧ freeGo j hi (17 - f) f = rfree j hi ∧ wr = w0
set_option maxRecDepth 100000 in
set_option maxHeartbeats 1600000 in
theorem rrange_any (a wd lo hi : Nat) (w : World) (h1 : 1 ≤ wd) (h2 : a % 16 + wd ≤ 16) (h3 : a + wd ≤ 160) (h4 : lo ≤ hi) (h5 : hi < 2 ^ wd) :
    Calls Tryd.prog 59 #[.int .i64 (a : Int), .int .i64 (wd : Int), .int .i64 (lo : Int), .int .i64 (hi : Int)] w fun e w' => ∃ A c, e = .returned (.tuple #[.slice A (rangeL a wd lo hi).length c, .int .i64 0]) ∧ w'.ownsRow w.heap.size 48 20 (.slice A (rangeL a wd lo hi).length c) (rangeL a wd lo hi).length (patCells (rangeL a wd lo hi)) ∧ Below w.heap.size w w' := by
  obtain ⟨i0, hi0, hz0, hz1, hz2⟩ := info_parts Tryd.infoPt
  have HI := Lib.hid hi0
  have HZ0 := Lib.hid hz0
  have HZ1 := Lib.hid hz1
  have HZ2 := Lib.hid hz2
  have hzs : (Value.agg (H no ++ H no).toArray).cells.size = 20 := by
    show (H no ++ H no).toArray.size = 20
    rw [List.size_toArray, List.length_append, H_length]
  have HZS := Lib.hid hzs
  clear hi0 hz0 hz1 hz2 hzs
  obtain ⟨R, hR⟩ : ∃ R, Hid (rangeL a wd lo hi = R) := ⟨_, rfl⟩
  rw [hR.out]
  have hw16 : wd ≤ 16 := by omega
  have hpw : 2 ^ wd ≤ 65536 := Nat.pow_le_pow_right (by decide) hw16
  have hi16 : hi < 65536 := by omega
  obtain ⟨PW, hPW⟩ : ∃ PW : Nat, Hid (2 ^ wd = PW) := ⟨_, rfl⟩
  have hhi : hi < PW := by rw [← hPW.out]; exact h5
  have hpo := fun w => rpower_any wd w hw16
  rw [hPW.out] at hpo
  have HPO := Lib.hid hpo
  obtain ⟨q, hq⟩ : ∃ q : Nat, Hid (a / 16 = q) := ⟨_, rfl⟩
  have hd1 : (a : Int).tdiv 16 = (q : Int) := by rw [Int.tdiv_eq_ediv_of_nonneg (by omega), ← hq.out]; rfl
  have hd2 : ((a : Int) + (wd : Int) - 1).tdiv 16 = (q : Int) := by rw [Int.tdiv_eq_ediv_of_nonneg (by omega), ← hq.out]; omega
  have hql : q ≤ 20 := by have := hq.out; omega
  have hw1 : IntKind.i64.wrap ((a : Int) + (wd : Int)) = (a : Int) + (wd : Int) := by simp only [IntKind.wrap_i64]; omega
  have hw2 : IntKind.i64.wrap ((a : Int) + (wd : Int) - 1) = (a : Int) + (wd : Int) - 1 := by simp only [IntKind.wrap_i64]; omega
  have hw3 : IntKind.i64.wrap (q : Int) = (q : Int) := by simp only [IntKind.wrap_i64]; omega
  have H5 := Lib.hid h5
  clear hpw h5 hpo
  have H0 : Hid (RgI a wd lo hi w lo [] none 0 w) := by
    have : RgI a wd lo hi w lo [] none 0 w := ⟨World.ownsRow_nil _ _ _ _, ⟨65537, by omega, rfl⟩, ⟨Nat.le_refl _, by omega, by simp⟩, Below.refl _ _⟩
    exact this
  go_enter Tryd.func59, Tryd.ntmps59
  have e1 : ¬ ((wd : Int) < 1) := by omega
  have e2 : ¬ ((wd : Int) > 16) := by omega
  have e3 : ¬ ((a : Int) < 0) := by omega
  have e4 : ¬ ((a : Int) > 159) := by omega
  have e6 : ¬ ((lo : Int) < 0) := by omega
  have e7 : ¬ ((lo : Int) > (hi : Int)) := by omega
  have e8 : ¬ ((hi : Int) ≥ (PW : Int)) := by omega
  have e8' : ¬ (PW ≤ hi) := by omega
  have e8d : decide (PW ≤ hi) = false := decide_eq_false e8'
  go_wp2_with fail
  (with_reducible refine (HPO.out _).mono ?_)
  rintro e w1 ⟨rfl, rfl⟩
  go_wp2
  go_loopw [10, 2] (RgRel a wd lo hi w) (fun _ i _ => hi + 1 - (intOf i).toNat)
  case atStart => exact ⟨lo, [], none, 0, rfl, rfl, H0.out⟩
  case round =>
    clear H0
    obtain ⟨j, D, A, c, rfl, rfl, hL⟩ := hrel
    have HL := Lib.hid hL
    clear hL
    by_cases hjh : j ≤ hi
    · have hji : (j : Int) ≤ (hi : Int) := by omega
      obtain ⟨m, hm⟩ : ∃ m, Hid (D.length = m) := ⟨_, rfl⟩
      have hm1 : m + 1 ≤ 65537 := by have := HL.out.lo; rw [hm.out] at this; omega
      obtain ⟨Y, hY⟩ : ∃ Y, Hid (patCells D = Y) := ⟨_, rfl⟩
      have how := HL.out.own
      rw [hm.out, hY.out] at how
      have HOW := Lib.hid how
      have HBE := Lib.hid HL.out.below
      rw [hm.out]
      clear how
      go_wp2
      go_loopw [11] (FrRel j hi wd wr) (fun i _ => wd - (intOf i).toNat)
      case atStart => exact ⟨0, by omega, rfl, rfl, rfl⟩
      case round =>
        obtain ⟨f, hf, rfl, hg, rfl⟩ := hrel
        have hg' : (if j % 2 ^ (f + 1) = 0 ∧ j + 2 ^ (f + 1) ≤ hi + 1 then freeGo j hi (16 - f) (f + 1) else f) = rfree j hi := by
          rw [← hg, show 17 - f = (16 - f) + 1 by omega]; rfl
        by_cases hlt : f < wd
        · have hfi : (f : Int) < (wd : Int) := by omega
          obtain ⟨P, hP⟩ : ∃ P : Nat, 2 ^ (f + 1) = P := ⟨_, rfl⟩
          have hPl : P ≤ 65536 := by rw [← hP]; exact Nat.pow_le_pow_right (by decide) (by omega : f + 1 ≤ 16)
          have hP1 : 1 ≤ P := by rw [← hP]; exact Nat.one_le_two_pow
          have hpo : ∀ w, Calls Tryd.prog 68 #[.int .i64 ((f : Int) + 1)] w fun e w' => e = .returned (.int .i64 (P : Int)) ∧ w = w' := fun w => by
            have := rpower_any (f + 1) w (by omega)
            rw [hP] at this
            exact this
          have HP := Lib.hid hpo
          rw [hP] at hg'
          obtain ⟨r, hr⟩ : ∃ r : Nat, j % P = r := ⟨_, rfl⟩
          have hrd : (j : Int).tmod (P : Int) = (r : Int) := by rw [Int.tmod_eq_emod_of_nonneg (by omega), ← hr]; rfl
          have hrl : r ≤ j := by rw [← hr]; exact Nat.mod_le _ _
          have hwr : IntKind.i64.wrap (r : Int) = (r : Int) := by simp only [IntKind.wrap_i64]; omega
          have hwf : IntKind.i64.wrap ((f : Int) + 1) = (f : Int) + 1 := by simp only [IntKind.wrap_i64]; omega
          have hwa : IntKind.i64.wrap ((j : Int) + (P : Int)) = (j : Int) + (P : Int) := by simp only [IntKind.wrap_i64]; omega
          have hwb : IntKind.i64.wrap ((j : Int) + (P : Int) - 1) = (j : Int) + (P : Int) - 1 := by simp only [IntKind.wrap_i64]; omega
          have hPz : ¬ ((P : Int) = 0) := by omega
          have hPz' : ¬ (P = 0) := by omega
          rw [hr] at hg'
          have HG := Lib.hid hg'
          clear hg' hg hP hpo hr
          by_cases hr0 : r = 0
          · subst hr0
            by_cases hle : j + P ≤ hi + 1
            · have hli : (j : Int) + (P : Int) - 1 ≤ (hi : Int) := by omega
              have HG2 : Hid (freeGo j hi (16 - f) (f + 1) = rfree j hi) := by
                have : freeGo j hi (16 - f) (f + 1) = rfree j hi := by
                  have := HG.out
                  rwa [if_pos ⟨rfl, hle⟩] at this
                exact this
              go_wp2_with fail
              (with_reducible refine (HP.out _).mono ?_)
              rintro e w2 ⟨rfl, rfl⟩
              go_wp2_with fail
              (with_reducible refine (HP.out _).mono ?_)
              rintro e w3 ⟨rfl, rfl⟩
              go_wp2
              go_roundw
              case rel => exact ⟨f + 1, by omega, by go_num, by rw [show 17 - (f + 1) = 16 - f by omega]; exact HG2.out, rfl⟩
              case measure => simp [intOf]; omega
            · have hli : ¬ ((j : Int) + (P : Int) - 1 ≤ (hi : Int)) := by omega
              go_wp2_with fail
              (with_reducible refine (HP.out _).mono ?_)
              rintro e w2 ⟨rfl, rfl⟩
              go_wp2_with fail
              (with_reducible refine (HP.out _).mono ?_)
              rintro e w3 ⟨rfl, rfl⟩
              have hfe1 : rfree j hi = f := by have := HG.out; rw [if_neg (fun hc => hle hc.2)] at this; exact this.symm
              have hfr : Hid (rfree j hi = f) := Lib.hid hfe1
              obtain ⟨fx, hfx⟩ : ∃ fx : Nat, Hid (wd - f = fx) := ⟨_, rfl⟩
              have hfxI : (wd : Int) - (f : Int) = (fx : Int) := by rw [← hfx.out]; omega
              have hwfx : IntKind.i64.wrap (fx : Int) = (fx : Int) := by have := hfx.out; simp only [IntKind.wrap_i64]; omega
              obtain ⟨X, hX⟩ : ∃ X, Hid (Pat.pre a wd j fx = X) := ⟨_, rfl⟩
              obtain ⟨Z, hZ⟩ : ∃ Z : Nat, Hid (2 ^ f = Z) := ⟨_, rfl⟩
              have hpf := fun w => rpower_any f w (by omega)
              rw [hZ.out] at hpf
              have HPF := Lib.hid hpf
              have hpr := fun w => rprefix_any a wd fx j w (by have := hfx.out; omega) (by omega) (by omega) (by omega)
              rw [hX.out] at hpr
              have HPR := Lib.hid hpr
              have hfs := rfree_spec hjh hi16
              rw [hfr.out, hZ.out] at hfs
              have HFS := Lib.hid hfs
              have hjZ : j + Z ≤ hi + 1 := HFS.out.2.2
              have hZ1 : 1 ≤ Z := by rw [← hZ.out]; exact Nat.one_le_two_pow
              have hwj : IntKind.i64.wrap ((j : Int) + (Z : Int)) = (j : Int) + (Z : Int) := by simp only [IntKind.wrap_i64]; omega
              clear hpf hpr hfs
              go_wp2_with fail
              (with_reducible refine (HPR.out _).mono ?_)
              rintro e w5 ⟨rfl, hb5⟩
              have HOW5 := Lib.hid (own_keep HOW.out (fun g hg => hb5.block g (HOW.out.lt g hg).2))
              have HBE5 := Lib.hid (below_join HBE.out hb5)
              clear hb5 HPR
              go_wp2_with (with_reducible refine wpList_slicePat (o := ⟨some 85, .buildSlice 51 1 #[(0, .tmp 84)], _, _, _, _⟩) (by with_unfolding_all rfl) (.tmp 84) (by with_unfolding_all rfl) X.cells (by with_unfolding_all rfl) (Pat.cells_length _) ?_)
              intro g80 w8 hg80 hb8 hB80
              have HOW8 := Lib.hid (own_keep HOW5.out (fun g hg => hb8.block g (HOW5.out.lt g hg).2))
              have HNW := Lib.hid (blk_add hB80)
              have HBE8 := Lib.hid (below_join HBE5.out hb8)
              have hxl : X.cells.length = 1 * 20 := by rw [Pat.cells_length]
              have HXL := Lib.hid hxl
              have hmx : m + 1 ≤ maxLen := by unfold maxLen; omega
              have HMX := Lib.hid hmx
              have hby : (m + 1) * 160 ≤ 140737488355328 := by omega
              have HBY := Lib.hid hby
              have HBC := Lib.hid HBE8.out.size
              clear hxl hmx hby hB80 hg80 hb8
              go_wp2_with (with_reducible refine wpList_appendN w8 (o := ⟨some 86, .call ⟨.builtin .append, #[.tmp 77, .tmp 85], #[51, 51]⟩, _, _, _, _⟩) (by with_unfolding_all rfl) (.tmp 77) (.tmp 85) 51 (by with_unfolding_all rfl) w.heap.size 48 i0 (.agg (H no ++ H no).toArray) 20 160 Tryd.underlying51 HI.out HZ0.out HZ1.out HZ2.out HZS.out (by decide) (.slice A m c) m Y (by with_unfolding_all rfl) HOW8.out ⟨g80, 0, none⟩ 1 1 X.cells (by with_unfolding_all rfl) HXL.out HNW.out (cells_one _) HMX.out HBY.out HBC.out ?_)
              intro v9 w9 hown9 hgr9 hnew9
              obtain ⟨A9, c9, rfl, _⟩ := own_shape hown9
              have hb9 := HBE8.out.grown hgr9 HBC.out (fun g hg => (HOW8.out.lt g hg).1)
              have hDl : (D ++ [X]).length = m + 1 := by rw [List.length_append, List.length_singleton, hm.out]
              have hall : ∃ f, 65536 < f + (j + Z) ∧ (D ++ [X]) ++ rangeGo a wd hi f (j + Z) = rangeL a wd lo hi := by
                obtain ⟨u, hf1, hf2⟩ := HL.out.all
                obtain ⟨u, rfl⟩ : ∃ u', u = u' + 1 := ⟨u - 1, by omega⟩
                refine ⟨u, by omega, ?_⟩
                rw [← hf2]
                show _ = D ++ (if j ≤ hi then Pat.pre a wd j (wd - rfree j hi) :: rangeGo a wd hi u (j + 2 ^ rfree j hi) else [])
                rw [if_pos hjh, hfr.out, hfx.out, hX.out, hZ.out, List.append_assoc]; rfl
              have hI9 : RgI a wd lo hi w (j + Z) (D ++ [X]) A9 c9 w9 := ⟨by rw [hDl, patCells_snoc, hY.out]; exact hown9, hall, by rw [hDl]; have := HL.out.lo; rw [hm.out] at this; omega, hb9⟩
              have HI9 := Lib.hid hI9
              have HDL := Lib.hid hDl
              clear hown9 hgr9 hnew9 hb9 hDl hall hI9 HOW HOW5 HOW8 HL
              go_wp2_with fail
              (with_reducible refine (HPF.out _).mono ?_)
              rintro e w10 ⟨rfl, rfl⟩
              go_wp2
              go_roundw
              case rel => exact ⟨j + Z, D ++ [X], A9, c9, by go_num, by rw [HDL.out], HI9.out⟩
              case measure => simp [intOf]; omega
          · have hri : ¬ ((r : Int) = 0) := by omega
            go_wp2_with fail
            (with_reducible refine (HP.out _).mono ?_)
            rintro e w2 ⟨rfl, rfl⟩
            have hfe2 : rfree j hi = f := by have := HG.out; rw [if_neg (fun hc => hr0 hc.1)] at this; exact this.symm
            have hfr : Hid (rfree j hi = f) := Lib.hid hfe2
            obtain ⟨fx, hfx⟩ : ∃ fx : Nat, Hid (wd - f = fx) := ⟨_, rfl⟩
            have hfxI : (wd : Int) - (f : Int) = (fx : Int) := by rw [← hfx.out]; omega
            have hwfx : IntKind.i64.wrap (fx : Int) = (fx : Int) := by have := hfx.out; simp only [IntKind.wrap_i64]; omega
            obtain ⟨X, hX⟩ : ∃ X, Hid (Pat.pre a wd j fx = X) := ⟨_, rfl⟩
            obtain ⟨Z, hZ⟩ : ∃ Z : Nat, Hid (2 ^ f = Z) := ⟨_, rfl⟩
            have hpf := fun w => rpower_any f w (by omega)
            rw [hZ.out] at hpf
            have HPF := Lib.hid hpf
            have hpr := fun w => rprefix_any a wd fx j w (by have := hfx.out; omega) (by omega) (by omega) (by omega)
            rw [hX.out] at hpr
            have HPR := Lib.hid hpr
            have hfs := rfree_spec hjh hi16
            rw [hfr.out, hZ.out] at hfs
            have HFS := Lib.hid hfs
            have hjZ : j + Z ≤ hi + 1 := HFS.out.2.2
            have hZ1 : 1 ≤ Z := by rw [← hZ.out]; exact Nat.one_le_two_pow
            have hwj : IntKind.i64.wrap ((j : Int) + (Z : Int)) = (j : Int) + (Z : Int) := by simp only [IntKind.wrap_i64]; omega
            clear hpf hpr hfs
            go_wp2_with fail
            (with_reducible refine (HPR.out _).mono ?_)
            rintro e w5 ⟨rfl, hb5⟩
            have HOW5 := Lib.hid (own_keep HOW.out (fun g hg => hb5.block g (HOW.out.lt g hg).2))
            have HBE5 := Lib.hid (below_join HBE.out hb5)
            clear hb5 HPR
            go_wp2_with (with_reducible refine wpList_slicePat (o := ⟨some 85, .buildSlice 51 1 #[(0, .tmp 84)], _, _, _, _⟩) (by with_unfolding_all rfl) (.tmp 84) (by with_unfolding_all rfl) X.cells (by with_unfolding_all rfl) (Pat.cells_length _) ?_)
            intro g80 w8 hg80 hb8 hB80
            have HOW8 := Lib.hid (own_keep HOW5.out (fun g hg => hb8.block g (HOW5.out.lt g hg).2))
            have HNW := Lib.hid (blk_add hB80)
            have HBE8 := Lib.hid (below_join HBE5.out hb8)
            have hxl : X.cells.length = 1 * 20 := by rw [Pat.cells_length]
            have HXL := Lib.hid hxl
            have hmx : m + 1 ≤ maxLen := by unfold maxLen; omega
            have HMX := Lib.hid hmx
            have hby : (m + 1) * 160 ≤ 140737488355328 := by omega
            have HBY := Lib.hid hby
            have HBC := Lib.hid HBE8.out.size
            clear hxl hmx hby hB80 hg80 hb8
            go_wp2_with (with_reducible refine wpList_appendN w8 (o := ⟨some 86, .call ⟨.builtin .append, #[.tmp 77, .tmp 85], #[51, 51]⟩, _, _, _, _⟩) (by with_unfolding_all rfl) (.tmp 77) (.tmp 85) 51 (by with_unfolding_all rfl) w.heap.size 48 i0 (.agg (H no ++ H no).toArray) 20 160 Tryd.underlying51 HI.out HZ0.out HZ1.out HZ2.out HZS.out (by decide) (.slice A m c) m Y (by with_unfolding_all rfl) HOW8.out ⟨g80, 0, none⟩ 1 1 X.cells (by with_unfolding_all rfl) HXL.out HNW.out (cells_one _) HMX.out HBY.out HBC.out ?_)
            intro v9 w9 hown9 hgr9 hnew9
            obtain ⟨A9, c9, rfl, _⟩ := own_shape hown9
            have hb9 := HBE8.out.grown hgr9 HBC.out (fun g hg => (HOW8.out.lt g hg).1)
            have hDl : (D ++ [X]).length = m + 1 := by rw [List.length_append, List.length_singleton, hm.out]
            have hall : ∃ f, 65536 < f + (j + Z) ∧ (D ++ [X]) ++ rangeGo a wd hi f (j + Z) = rangeL a wd lo hi := by
              obtain ⟨u, hf1, hf2⟩ := HL.out.all
              obtain ⟨u, rfl⟩ : ∃ u', u = u' + 1 := ⟨u - 1, by omega⟩
              refine ⟨u, by omega, ?_⟩
              rw [← hf2]
              show _ = D ++ (if j ≤ hi then Pat.pre a wd j (wd - rfree j hi) :: rangeGo a wd hi u (j + 2 ^ rfree j hi) else [])
              rw [if_pos hjh, hfr.out, hfx.out, hX.out, hZ.out, List.append_assoc]; rfl
            have hI9 : RgI a wd lo hi w (j + Z) (D ++ [X]) A9 c9 w9 := ⟨by rw [hDl, patCells_snoc, hY.out]; exact hown9, hall, by rw [hDl]; have := HL.out.lo; rw [hm.out] at this; omega, hb9⟩
            have HI9 := Lib.hid hI9
            have HDL := Lib.hid hDl
            clear hown9 hgr9 hnew9 hb9 hDl hall hI9 HOW HOW5 HOW8 HL
            go_wp2_with fail
            (with_reducible refine (HPF.out _).mono ?_)
            rintro e w10 ⟨rfl, rfl⟩
            go_wp2
            go_roundw
            case rel => exact ⟨j + Z, D ++ [X], A9, c9, by go_num, by rw [HDL.out], HI9.out⟩
            case measure => simp [intOf]; omega
        · have hfw : f = wd := by omega
          have hno : ¬ (j + 2 ^ (f + 1) ≤ hi + 1) := fun hc => by
            have := H5.out
            rw [Nat.pow_succ, hfw] at hc
            omega
          have hfi : ¬ ((f : Int) < (wd : Int)) := by omega
          rw [if_neg (fun hc => hno hc.2)] at hg'
          have HG := Lib.hid hg'
          clear hg' hg hno hfw
          have hfe3 : rfree j hi = f := HG.out.symm
          have hfr : Hid (rfree j hi = f) := Lib.hid hfe3
          obtain ⟨fx, hfx⟩ : ∃ fx : Nat, Hid (wd - f = fx) := ⟨_, rfl⟩
          have hfxI : (wd : Int) - (f : Int) = (fx : Int) := by rw [← hfx.out]; omega
          have hwfx : IntKind.i64.wrap (fx : Int) = (fx : Int) := by have := hfx.out; simp only [IntKind.wrap_i64]; omega
          obtain ⟨X, hX⟩ : ∃ X, Hid (Pat.pre a wd j fx = X) := ⟨_, rfl⟩
          obtain ⟨Z, hZ⟩ : ∃ Z : Nat, Hid (2 ^ f = Z) := ⟨_, rfl⟩
          have hpf := fun w => rpower_any f w (by omega)
          rw [hZ.out] at hpf
          have HPF := Lib.hid hpf
          have hpr := fun w => rprefix_any a wd fx j w (by have := hfx.out; omega) (by omega) (by omega) (by omega)
          rw [hX.out] at hpr
          have HPR := Lib.hid hpr
          have hfs := rfree_spec hjh hi16
          rw [hfr.out, hZ.out] at hfs
          have HFS := Lib.hid hfs
          have hjZ : j + Z ≤ hi + 1 := HFS.out.2.2
          have hZ1 : 1 ≤ Z := by rw [← hZ.out]; exact Nat.one_le_two_pow
          have hwj : IntKind.i64.wrap ((j : Int) + (Z : Int)) = (j : Int) + (Z : Int) := by simp only [IntKind.wrap_i64]; omega
          clear hpf hpr hfs
          go_wp2_with fail
          (with_reducible refine (HPR.out _).mono ?_)
          rintro e w5 ⟨rfl, hb5⟩
          have HOW5 := Lib.hid (own_keep HOW.out (fun g hg => hb5.block g (HOW.out.lt g hg).2))
          have HBE5 := Lib.hid (below_join HBE.out hb5)
          clear hb5 HPR
          go_wp2_with (with_reducible refine wpList_slicePat (o := ⟨some 85, .buildSlice 51 1 #[(0, .tmp 84)], _, _, _, _⟩) (by with_unfolding_all rfl) (.tmp 84) (by with_unfolding_all rfl) X.cells (by with_unfolding_all rfl) (Pat.cells_length _) ?_)
          intro g80 w8 hg80 hb8 hB80
          have HOW8 := Lib.hid (own_keep HOW5.out (fun g hg => hb8.block g (HOW5.out.lt g hg).2))
          have HNW := Lib.hid (blk_add hB80)
          have HBE8 := Lib.hid (below_join HBE5.out hb8)
          have hxl : X.cells.length = 1 * 20 := by rw [Pat.cells_length]
          have HXL := Lib.hid hxl
          have hmx : m + 1 ≤ maxLen := by unfold maxLen; omega
          have HMX := Lib.hid hmx
          have hby : (m + 1) * 160 ≤ 140737488355328 := by omega
          have HBY := Lib.hid hby
          have HBC := Lib.hid HBE8.out.size
          clear hxl hmx hby hB80 hg80 hb8
          go_wp2_with (with_reducible refine wpList_appendN w8 (o := ⟨some 86, .call ⟨.builtin .append, #[.tmp 77, .tmp 85], #[51, 51]⟩, _, _, _, _⟩) (by with_unfolding_all rfl) (.tmp 77) (.tmp 85) 51 (by with_unfolding_all rfl) w.heap.size 48 i0 (.agg (H no ++ H no).toArray) 20 160 Tryd.underlying51 HI.out HZ0.out HZ1.out HZ2.out HZS.out (by decide) (.slice A m c) m Y (by with_unfolding_all rfl) HOW8.out ⟨g80, 0, none⟩ 1 1 X.cells (by with_unfolding_all rfl) HXL.out HNW.out (cells_one _) HMX.out HBY.out HBC.out ?_)
          intro v9 w9 hown9 hgr9 hnew9
          obtain ⟨A9, c9, rfl, _⟩ := own_shape hown9
          have hb9 := HBE8.out.grown hgr9 HBC.out (fun g hg => (HOW8.out.lt g hg).1)
          have hDl : (D ++ [X]).length = m + 1 := by rw [List.length_append, List.length_singleton, hm.out]
          have hall : ∃ f, 65536 < f + (j + Z) ∧ (D ++ [X]) ++ rangeGo a wd hi f (j + Z) = rangeL a wd lo hi := by
            obtain ⟨u, hf1, hf2⟩ := HL.out.all
            obtain ⟨u, rfl⟩ : ∃ u', u = u' + 1 := ⟨u - 1, by omega⟩
            refine ⟨u, by omega, ?_⟩
            rw [← hf2]
            show _ = D ++ (if j ≤ hi then Pat.pre a wd j (wd - rfree j hi) :: rangeGo a wd hi u (j + 2 ^ rfree j hi) else [])
            rw [if_pos hjh, hfr.out, hfx.out, hX.out, hZ.out, List.append_assoc]; rfl
          have hI9 : RgI a wd lo hi w (j + Z) (D ++ [X]) A9 c9 w9 := ⟨by rw [hDl, patCells_snoc, hY.out]; exact hown9, hall, by rw [hDl]; have := HL.out.lo; rw [hm.out] at this; omega, hb9⟩
          have HI9 := Lib.hid hI9
          have HDL := Lib.hid hDl
          clear hown9 hgr9 hnew9 hb9 hDl hall hI9 HOW HOW5 HOW8 HL
          go_wp2_with fail
          (with_reducible refine (HPF.out _).mono ?_)
          rintro e w10 ⟨rfl, rfl⟩
          go_wp2
          go_roundw
          case rel => exact ⟨j + Z, D ++ [X], A9, c9, by go_num, by rw [HDL.out], HI9.out⟩
          case measure => simp [intOf]; omega
    · have hji : ¬ ((j : Int) ≤ (hi : Int)) := by omega
      have hDR : Hid (D = R) := by
        have : D = R := by
          obtain ⟨f, hf1, hf2⟩ := HL.out.all
          rw [rangeGo_none a wd hi (by omega), List.append_nil, hR.out] at hf2
          exact hf2
        exact this
      obtain rfl := hDR.out
      have HO := Lib.hid HL.out.own
      have HBE := Lib.hid HL.out.below
      go_wp2
      go_ret2
      exact ⟨A, c, rfl, HO.out, HBE.out⟩
end Go.Proofs.YtbgndopgllnmaaaDoor

/-
  Contracts of the walks over the specification's power, place, common, Max, last, Get, Set, Prefix, Equal and Mod, and over Range of both sides. Conditions: a field that lies in a word.
-/

namespace Go.Proofs.YtbgndopgllnmaaaDoor
set_option linter.unusedVariables false
set_option linter.unusedSimpArgs false
open Go.RowKit

theorem splice_fst (f g h : Nat → Bool) : splice (H f ++ H g) 0 (H h) = H h ++ H g := by
  unfold splice
  rw [List.take_zero, List.nil_append, Nat.zero_add, List.drop_left' (by rw [H_length, H_length])]
theorem splice_snd (f g h : Nat → Bool) : splice (H f ++ H g) 10 (H h) = H f ++ H h := by
  unfold splice
  rw [List.take_left' (H_length _), List.drop_eq_nil_of_le (by rw [List.length_append, H_length, H_length, H_length]; omega), List.append_nil]
theorem at_fst {w : World} {g : Nat} {t : TypeId} {f h : Nat → Bool} (k : Blk w g t (H f ++ H h)) : w.rangeAt g 0 (H f) := at_m (p := ⟨f, h⟩) k
theorem at_snd {w : World} {g : Nat} {t : TypeId} {f h : Nat → Bool} (k : Blk w g t (H f ++ H h)) : w.rangeAt g 10 (H h) := at_b (p := ⟨f, h⟩) k
def PowF (n : Nat) (v i : Value) : Prop := ∃ k : Nat, k ≤ n ∧ i = .int .i64 (k : Int) ∧ v = .int .i64 ((2 ^ k : Nat) : Int)
set_option maxRecDepth 100000 in
set_option maxHeartbeats 1600000 in
theorem rpow_any (n : Nat) (w : World) (hn : n ≤ 16) :
    Calls Tryd.prog 52 #[.int .i64 (n : Int)] w fun e w' => e = .returned (.int .i64 ((2 ^ n : Nat) : Int)) ∧ w = w' := by
  obtain ⟨V, hV⟩ : ∃ V : Nat, Hid (2 ^ n = V) := ⟨_, rfl⟩
  rw [hV.out]
  go_enter Tryd.func52, Tryd.ntmps52
  go_wp2
  go_loop [3, 4] (PowF n) (fun _ i => n - (intOf i).toNat)
  case atStart => exact ⟨0, by omega, rfl, rfl⟩
  case round =>
    obtain ⟨k, hk, rfl, rfl⟩ := hrel
    by_cases hlt : k < n
    · have hki : (k : Int) < (n : Int) := by omega
      obtain ⟨x, hx⟩ : ∃ x : Nat, 2 ^ k = x := ⟨_, rfl⟩
      have hx6 : x ≤ 65536 := by rw [← hx]; exact Nat.pow_le_pow_right (by decide) (by omega : k ≤ 16)
      have hy : Hid (((2 ^ (k + 1) : Nat) : Int) = (x : Int) * 2) := by
        have : ((2 ^ (k + 1) : Nat) : Int) = (x : Int) * 2 := by rw [← hx, Nat.pow_succ]; omega
        exact this
      rw [hx]
      clear hx
      go_wp2
      go_round
      case rel => exact ⟨k + 1, by omega, by go_num, by rw [hy.out]⟩
      case measure => simp [intOf]; omega
    · obtain rfl : k = n := by omega
      rw [hV.out]
      clear hV
      go_wp2
      go_ret
      exact ⟨rfl, rfl⟩
theorem rpowB_any (n : Nat) (w : World) (hn : n ≤ 16) :
    Calls Tryd.prog 52 #[.int .i64 (n : Int)] w fun e w' => e = .returned (.int .i64 ((2 ^ n : Nat) : Int)) ∧ Below w.heap.size w w' := by
  refine (rpow_any n w hn).mono ?_
  rintro e w' ⟨he, rfl⟩
  exact ⟨he, Below.refl _ _⟩
/-- Whether the bits of a field are such as said. -/
def placeB (a n : Int) : Bool := decide (n ≥ 1) && decide (n ≤ 16) && decide (a ≥ 16) && decide (a ≤ 143) && decide (a % 16 + n ≤ 16)
set_option maxRecDepth 100000 in
set_option maxHeartbeats 3200000 in
theorem rplace_any (s : ByteArray) (a n : Int) (w : World)  :
    Calls Tryd.prog 45 #[.agg #[.string s, .int .i64 a, .int .i64 n]] w fun e w' => e = .returned (.bool (placeB a n)) ∧ Below w.heap.size w w' := by
  obtain ⟨C, hC⟩ : ∃ C, Hid (placeB a n = C) := ⟨_, rfl⟩
  rw [hC.out]
  have HC : Hid ((decide (n ≥ 1) && decide (n ≤ 16) && decide (a ≥ 16) && decide (a ≤ 143) && decide (a % 16 + n ≤ 16)) = C) := hC
  go_enter Tryd.func45, Tryd.ntmps45
  go_wp2_with (with_reducible refine wpList_box (o := ⟨some 1, .box 33 (.tmp 0), _, _, _, _⟩) ?g1 33 (.tmp 0) ?o1 (.agg #[.string s, .int .i64 a, .int .i64 n]) [Value.string s, .int .i64 a, .int .i64 n] ?x1 ?c1 ?_)
  try (case g1 => rfl)
  try (case o1 => rfl)
  try (case x1 => rfl)
  try (case c1 => rfl)
  intro g1 w1 hg1 hs1 hb1 B1
  have hl1 : w.heap.size ≤ g1 := Nat.le_of_eq hg1.out.symm
  have hb1 := hb1.mono (Nat.le_of_eq hg1.out.symm)
  have hbe : Below w.heap.size w w1 := hb1
  clear hb1 hg1 hs1
  have z1_1 := B1.cell (k := 1) rfl
  have z1_2 := B1.cell (k := 2) rfl
  by_cases h1 : n ≥ 1
  · by_cases h2 : n ≤ 16
    · by_cases h3 : a ≥ 16
      · by_cases h4 : a ≤ 143
        · obtain ⟨r, hr⟩ : ∃ r, a % 16 = r := ⟨_, rfl⟩
          have hr0 : 0 ≤ r := by omega
          have hr1 : r < 16 := by omega
          have ht : a.tmod 16 = r := by rw [Int.tmod_eq_emod_of_nonneg (by omega), hr]
          obtain ⟨t, htt⟩ : ∃ t, r + n = t := ⟨_, rfl⟩
          have hwt : IntKind.i64.wrap t = t := by simp only [IntKind.wrap_i64]; omega
          have HE : Hid (decide (t ≤ 16) = C) := by
            have : decide (t ≤ 16) = C := by
              rw [← HC.out, decide_eq_true h1, decide_eq_true h2, decide_eq_true h3, decide_eq_true h4, hr, htt]; rfl
            exact this
          clear hr
          go_wp2
          go_ret
          exact ⟨by rw [← HE.out]; rfl, hbe⟩
        · have hc : C = false := by rw [← HC.out, decide_eq_false h4, Bool.and_false]; rfl
          subst hc
          go_wp2
          go_ret
          exact ⟨rfl, hbe⟩
      · have hc : C = false := by rw [← HC.out, decide_eq_false h3, Bool.and_false]; rfl
        subst hc
        go_wp2
        go_ret
        exact ⟨rfl, hbe⟩
    · have hc : C = false := by rw [← HC.out, decide_eq_false h2, Bool.and_false]; rfl
      subst hc
      go_wp2
      go_ret
      exact ⟨rfl, hbe⟩
  · have hc : C = false := by rw [← HC.out, decide_eq_false h1]; rfl
    subst hc
    go_wp2
    go_ret
    exact ⟨rfl, hbe⟩
set_option maxRecDepth 100000 in
set_option maxHeartbeats 3200000 in
theorem rcommon_any (s t : ByteArray) (a n b m : Nat) (w : World) (h : Lies a n) (k : Lies b m) :
    Calls Tryd.prog 46 #[.agg #[.string s, .int .i64 (a : Int), .int .i64 (n : Int)], .agg #[.string t, .int .i64 (b : Int), .int .i64 (m : Int)]] w fun e w' => e = .returned (.bool (decide (a < b + m) && decide (b < a + n))) ∧ Below w.heap.size w w' := by
  have h1 := h.head
  have h2 := k.head
  have h3 := h.one
  have h4 := k.one
  obtain ⟨X, hX⟩ : ∃ X : Nat, b + m = X := ⟨_, rfl⟩
  obtain ⟨Y, hY⟩ : ∃ Y : Nat, a + n = Y := ⟨_, rfl⟩
  rw [hX] at h2 ⊢
  rw [hY] at h1 ⊢
  have hXi : (b : Int) + (m : Int) = (X : Int) := by omega
  have hYi : (a : Int) + (n : Int) = (Y : Int) := by omega
  have hwX : IntKind.i64.wrap (X : Int) = (X : Int) := by simp only [IntKind.wrap_i64]; omega
  have hwY : IntKind.i64.wrap (Y : Int) = (Y : Int) := by simp only [IntKind.wrap_i64]; omega
  clear hX hY h k
  obtain ⟨C, hC⟩ : ∃ C, Hid ((decide (a < X) && decide (b < Y)) = C) := ⟨_, rfl⟩
  rw [hC.out]
  go_enter Tryd.func46, Tryd.ntmps46
  go_wp2_with (with_reducible refine wpList_box (o := ⟨some 2, .box 33 (.tmp 0), _, _, _, _⟩) ?g2 33 (.tmp 0) ?o2 (.agg #[.string s, .int .i64 (a : Int), .int .i64 (n : Int)]) [Value.string s, .int .i64 (a : Int), .int .i64 (n : Int)] ?x2 ?c2 ?_)
  try (case g2 => rfl)
  try (case o2 => rfl)
  try (case x2 => rfl)
  try (case c2 => rfl)
  intro g2 w1 hg2 hs1 hb1 B2
  have hl2 : w.heap.size ≤ g2 := Nat.le_of_eq hg2.out.symm
  have hb1 := hb1.mono (Nat.le_of_eq hg2.out.symm)
  have hbe : Below w.heap.size w w1 := hb1
  clear hb1 hg2 hs1
  go_wp2_with (with_reducible refine wpList_box (o := ⟨some 3, .box 33 (.tmp 1), _, _, _, _⟩) ?g3 33 (.tmp 1) ?o3 (.agg #[.string t, .int .i64 (b : Int), .int .i64 (m : Int)]) [Value.string t, .int .i64 (b : Int), .int .i64 (m : Int)] ?x3 ?c3 ?_)
  try (case g3 => rfl)
  try (case o3 => rfl)
  try (case x3 => rfl)
  try (case c3 => rfl)
  intro g3 w2 hg3 hs2 hb2 B3
  have hl3 : w.heap.size ≤ g3 := Nat.le_trans hbe.size (Nat.le_of_eq hg3.out.symm)
  have ne2_3 : g2 ≠ g3 := by have := B2.lt; have := hg3.out; omega
  have ne3_2 := ne2_3.symm
  have hb2 := hb2.mono (Nat.le_of_eq hg3.out.symm)
  have B2 := B2.next hb2 B2.lt
  have hbe := below_join hbe hb2
  clear hb2 hg3 hs2
  have z2_1 := B2.cell (k := 1) rfl
  have z2_2 := B2.cell (k := 2) rfl
  have z3_1 := B3.cell (k := 1) rfl
  have z3_2 := B3.cell (k := 2) rfl
  by_cases c1 : a < X
  · have c1i : (a : Int) < (X : Int) := by omega
    have hres : Hid (decide (b < Y) = C) := by
      have : decide (b < Y) = C := by
        rw [← hC.out, decide_eq_true c1, Bool.true_and]
      exact this
    go_wp2
    go_ret
    exact ⟨by rw [← hres.out]; rfl, hbe⟩
  · have c1i : ¬ ((a : Int) < (X : Int)) := by omega
    have hc : C = false := by rw [← hC.out, decide_eq_false c1, Bool.false_and]
    subst hc
    go_wp2
    go_ret
    exact ⟨rfl, hbe⟩
set_option maxRecDepth 100000 in
set_option maxHeartbeats 3200000 in
theorem rmax_any (s : ByteArray) (a n : Nat) (w : World) (h : Lies a n) :
    Calls Tryd.prog 17 #[.agg #[.string s, .int .i64 (a : Int), .int .i64 (n : Int)]] w fun e w' => e = .returned (.int .i64 ((2 ^ n - 1 : Nat) : Int)) ∧ Below w.heap.size w w' := by
  have HP := Lib.hid (fun w => rpow_any n w h.le)
  have hp := h.pow
  have hp0 := Nat.two_pow_pos n
  obtain ⟨P, hP⟩ : ∃ P, 2 ^ n = P := ⟨_, rfl⟩
  rw [hP] at HP hp hp0 ⊢
  obtain ⟨M, hM⟩ : ∃ M, P - 1 = M := ⟨_, rfl⟩
  rw [hM]
  have hMi : (P : Int) - 1 = (M : Int) := by omega
  have hwM : IntKind.i64.wrap (M : Int) = (M : Int) := by simp only [IntKind.wrap_i64]; omega
  clear hP hM h
  go_enter Tryd.func17, Tryd.ntmps17
  go_wp2_with (with_reducible refine wpList_box (o := ⟨some 1, .box 33 (.tmp 0), _, _, _, _⟩) ?g1 33 (.tmp 0) ?o1 (.agg #[.string s, .int .i64 (a : Int), .int .i64 (n : Int)]) [Value.string s, .int .i64 (a : Int), .int .i64 (n : Int)] ?x1 ?c1 ?_)
  try (case g1 => rfl)
  try (case o1 => rfl)
  try (case x1 => rfl)
  try (case c1 => rfl)
  intro g1 w1 hg1 hs1 hb1 B1
  have hl1 : w.heap.size ≤ g1 := Nat.le_of_eq hg1.out.symm
  have hb1 := hb1.mono (Nat.le_of_eq hg1.out.symm)
  have hbe : Below w.heap.size w w1 := hb1
  clear hb1 hg1 hs1
  have z1_1 := B1.cell (k := 1) rfl
  have z1_2 := B1.cell (k := 2) rfl
  go_wp2_with fail
  (with_reducible refine (HP.out _).mono ?_)
  rintro e w2 ⟨rfl, rfl⟩
  go_wp2
  go_ret
  exact ⟨rfl, hbe⟩
set_option maxRecDepth 100000 in
set_option maxHeartbeats 3200000 in
theorem rlast_any (s : ByteArray) (a n : Nat) (w : World) (h : Lies a n) :
    Calls Tryd.prog 54 #[.agg #[.string s, .int .i64 (a : Int), .int .i64 (n : Int)]] w fun e w' => e = .returned (.int .i64 ((2 ^ shiftN a n : Nat) : Int)) ∧ Below w.heap.size w w' := by
  have hn16 := h.word
  have ha := h.at_
  have hr : (a : Int).tmod 16 = ((a % 16 : Nat) : Int) := by rw [Int.tmod_eq_emod_of_nonneg (by omega)]; omega
  have hSb : shiftN a n ≤ 16 := by unfold shiftN; omega
  have HP := Lib.hid (fun w => rpow_any (shiftN a n) w hSb)
  have hs : (16 - ((a % 16 : Nat) : Int)) - (n : Int) = (shiftN a n : Int) := by unfold shiftN; omega
  obtain ⟨S, hS⟩ : ∃ S, shiftN a n = S := ⟨_, rfl⟩
  obtain ⟨r, hr'⟩ : ∃ r, a % 16 = r := ⟨_, rfl⟩
  rw [hS] at hs HP hSb ⊢
  rw [hr'] at hr hs hn16
  obtain ⟨U, hU⟩ : ∃ U : Int, 16 - (r : Int) = U := ⟨_, rfl⟩
  rw [hU] at hs
  have hwU : IntKind.i64.wrap U = U := by simp only [IntKind.wrap_i64]; omega
  have hwS : IntKind.i64.wrap (S : Int) = (S : Int) := by simp only [IntKind.wrap_i64]; omega
  clear hS hr' h
  go_enter Tryd.func54, Tryd.ntmps54
  go_wp2_with (with_reducible refine wpList_box (o := ⟨some 1, .box 33 (.tmp 0), _, _, _, _⟩) ?g1 33 (.tmp 0) ?o1 (.agg #[.string s, .int .i64 (a : Int), .int .i64 (n : Int)]) [Value.string s, .int .i64 (a : Int), .int .i64 (n : Int)] ?x1 ?c1 ?_)
  try (case g1 => rfl)
  try (case o1 => rfl)
  try (case x1 => rfl)
  try (case c1 => rfl)
  intro g1 w1 hg1 hs1 hb1 B1
  have hl1 : w.heap.size ≤ g1 := Nat.le_of_eq hg1.out.symm
  have hb1 := hb1.mono (Nat.le_of_eq hg1.out.symm)
  have hbe : Below w.heap.size w w1 := hb1
  clear hb1 hg1 hs1
  have z1_1 := B1.cell (k := 1) rfl
  have z1_2 := B1.cell (k := 2) rfl
  go_wp2_with fail
  (with_reducible refine (HP.out _).mono ?_)
  rintro e w2 ⟨rfl, rfl⟩
  go_wp2
  go_ret
  exact ⟨rfl, hbe⟩
set_option maxRecDepth 100000 in
set_option maxHeartbeats 3200000 in
theorem rget_any (s : ByteArray) (a n : Nat) (f : Nat → Bool) (w : World) (h : Lies a n) :
    Calls Tryd.prog 19 #[.agg #[.string s, .int .i64 (a : Int), .int .i64 (n : Int)], .agg (H f).toArray] w fun e w' => e = .returned (.int .i64 (fieldN f a n : Int)) ∧ Below w.heap.size w w' := by
  have HLA := Lib.hid (fun w => rlast_any s a n w h)
  have HP := Lib.hid (fun w => rpowB_any n w h.le)
  have hg := get_word f h
  have hqb := h.q
  have hwl := word_lt f (a / 16)
  have hp := h.pow
  have hp0 := Nat.two_pow_pos n
  have hcell := H_get f h.q
  have hqd : (a : Int).tdiv 16 = ((a / 16 : Nat) : Int) := by rw [Int.tdiv_eq_ediv_of_nonneg (by omega)]; omega
  have hL0 := Nat.two_pow_pos (shiftN a n)
  have hL6 : 2 ^ shiftN a n ≤ 65536 := Nat.pow_le_pow_right (n := 2) (by decide) (show shiftN a n ≤ 16 by unfold shiftN; omega)
  obtain ⟨V, hV⟩ : ∃ V, fieldN f a n = V := ⟨_, rfl⟩
  rw [hV] at hg ⊢
  obtain ⟨q, hq⟩ : ∃ q, a / 16 = q := ⟨_, rfl⟩
  obtain ⟨L, hL⟩ : ∃ L, 2 ^ shiftN a n = L := ⟨_, rfl⟩
  rw [hq] at hg hqb hwl hcell hqd
  rw [hL] at hg HLA hL0 hL6
  obtain ⟨x, hx⟩ : ∃ x, word f q = x := ⟨_, rfl⟩
  rw [hx] at hg hwl hcell
  have hdl : x / L < 65536 := Nat.lt_of_le_of_lt (Nat.div_le_self _ _) hwl
  have hdv : (x : Int).tdiv (L : Int) = ((x / L : Nat) : Int) := by rw [Int.tdiv_eq_ediv_of_nonneg (by omega)]; exact (Int.natCast_ediv x L).symm
  obtain ⟨y, hy⟩ : ∃ y, x / L = y := ⟨_, rfl⟩
  rw [hy] at hg hdl hdv
  obtain ⟨P, hP⟩ : ∃ P, 2 ^ n = P := ⟨_, rfl⟩
  rw [hP] at hg HP hp hp0
  have hmd : (y : Int).tmod (P : Int) = (V : Int) := by rw [Int.tmod_eq_emod_of_nonneg (by omega), ← hg]; exact (Int.natCast_emod y P).symm
  have hVl : V < 65536 := by rw [← hg]; exact Nat.lt_of_le_of_lt (Nat.mod_le _ _) hdl
  have hLz : ((L : Int) == 0) = false := beq_eq_false_iff_ne.2 (by omega)
  have hPz : ((P : Int) == 0) = false := beq_eq_false_iff_ne.2 (by omega)
  have hLn : ¬ (L : Int) = 0 := by omega
  have hPn : ¬ (P : Int) = 0 := by omega
  have hLn' : ¬ L = 0 := by omega
  have hPn' : ¬ P = 0 := by omega
  have hwy : IntKind.i64.wrap (y : Int) = (y : Int) := by simp only [IntKind.wrap_i64]; omega
  have hwV : IntKind.i64.wrap (V : Int) = (V : Int) := by simp only [IntKind.wrap_i64]; omega
  have hwq : IntKind.i64.wrap (q : Int) = (q : Int) := by simp only [IntKind.wrap_i64]; omega
  have hq0 : (0 : Int) ≤ (q : Int) := by omega
  have hq10i : (q : Int) < 10 := by omega
  have HC := Lib.hid hcell
  clear hg hV hq hL hx hy hP hp h hcell
  go_enter Tryd.func19, Tryd.ntmps19
  go_wp2_with (with_reducible refine wpList_box (o := ⟨some 2, .box 33 (.tmp 0), _, _, _, _⟩) ?g2 33 (.tmp 0) ?o2 (.agg #[.string s, .int .i64 (a : Int), .int .i64 (n : Int)]) [Value.string s, .int .i64 (a : Int), .int .i64 (n : Int)] ?x2 ?c2 ?_)
  try (case g2 => rfl)
  try (case o2 => rfl)
  try (case x2 => rfl)
  try (case c2 => rfl)
  intro g2 w1 hg2 hs1 hb1 B2
  have hl2 : w.heap.size ≤ g2 := Nat.le_of_eq hg2.out.symm
  have hb1 := hb1.mono (Nat.le_of_eq hg2.out.symm)
  have hbe : Below w.heap.size w w1 := hb1
  clear hb1 hg2 hs1
  go_wp2_with (with_reducible refine wpList_box (o := ⟨some 3, .box 30 (.tmp 1), _, _, _, _⟩) ?g3 30 (.tmp 1) ?o3 (.agg (H f).toArray) (H f) ?x3 ?c3 ?_)
  try (case g3 => rfl)
  try (case o3 => rfl)
  try (case x3 => rfl)
  try (case c3 => rfl)
  intro g3 w2 hg3 hs2 hb2 B3
  have hl3 : w.heap.size ≤ g3 := Nat.le_trans hbe.size (Nat.le_of_eq hg3.out.symm)
  have ne2_3 : g2 ≠ g3 := by have := B2.lt; have := hg3.out; omega
  have ne3_2 := ne2_3.symm
  have hb2 := hb2.mono (Nat.le_of_eq hg3.out.symm)
  have B2 := B2.next hb2 B2.lt
  have hbe := below_join hbe hb2
  clear hb2 hg3 hs2
  go_wp2
  have hdd := below_drew w2
  have B2 := B2.next hdd B2.lt
  have B3 := B3.next hdd B3.lt
  have hbe := below_join hbe hdd
  have zz2_3 : (Tryd.prog.info? 33).map (·.size) = some [Value.string s, .int .i64 (a : Int), .int .i64 (n : Int)].length := (by first | exact Tryd.szF | (simp only [H_length, Pat.cells_length, List.length_append]; exact Tryd.szF))
  refine wp_region_held_drew (S := fun w' => w'.cell? ⟨g3, q, none⟩ = some (.int .i64 (x : Int)) ∧ w'.cell? ⟨g2, 1, none⟩ = some (.int .i64 (a : Int)) ∧ w'.rangeAt g2 0 [Value.string s, .int .i64 (a : Int), .int .i64 (n : Int)] ∧ w'.cell? ⟨g2, 2, none⟩ = some (.int .i64 (n : Int))) (by kernel_rfl) ⟨B3.cell HC.out, B2.cell (k := 1) rfl, blk_range B2, B2.cell (k := 2) rfl⟩ (fun hHeld => ?_)
  clear hdd
  generalize w2.drew = w3 at B2 B3 hbe hHeld  ⊢
  refine wpAnyH_take (i := 0) (v := ?vqaa0) rfl (by kernel_rfl) (by kernel_rfl) (by kernel_rfl) (fun _ _ _ h => h) (Or.inl ⟨by rfl, ?yqaa0⟩) (by assumption) ?rqaa0
  case yqaa0 => intro w hSw; (try dsimp only at hSw); go_simp <;> (try with_reducible rfl)
  (try simp only [List.getElem_toArray, List.getElem_cons_zero, Act.put, List.setIfInBounds_toArray, List.set_cons_zero, List.set_cons_succ])
  refine wpAnyH_take (i := 1) (v := ?vqaa1) rfl (by kernel_rfl) (by kernel_rfl) (by kernel_rfl) (fun _ _ _ h => h) (Or.inl ⟨by rfl, ?yqaa1⟩) (by assumption) ?rqaa1
  case yqaa1 => intro w hSw; have hSc := hSw.2.1; go_simp <;> (try with_reducible rfl)
  (try simp only [List.getElem_toArray, List.getElem_cons_succ, List.getElem_cons_zero, Act.put, List.setIfInBounds_toArray, List.set_cons_zero, List.set_cons_succ])
  refine wpAnyH_take (i := 2) (v := ?vqaa2) rfl (by kernel_rfl) (by kernel_rfl) (by kernel_rfl) (fun _ _ _ h => h) (Or.inl ⟨by rfl, ?yqaa2⟩) (by assumption) ?rqaa2
  case yqaa2 => intro w hSw; (try dsimp only at hSw); go_simp <;> (try with_reducible rfl)
  (try simp only [List.getElem_toArray, List.getElem_cons_succ, List.getElem_cons_zero, Act.put, List.setIfInBounds_toArray, List.set_cons_zero, List.set_cons_succ])
  refine wpAnyH_take (i := 3) (v := ?vqaa3) rfl (by kernel_rfl) (by kernel_rfl) (by kernel_rfl) (fun _ _ _ h => h) (Or.inl ⟨by rfl, ?yqaa3⟩) (by assumption) ?rqaa3
  case yqaa3 => intro w hSw; (try dsimp only at hSw); go_simp <;> (try with_reducible rfl)
  (try simp only [List.getElem_toArray, List.getElem_cons_succ, List.getElem_cons_zero, Act.put, List.setIfInBounds_toArray, List.set_cons_zero, List.set_cons_succ])
  refine wpAnyH_take (i := 4) (v := ?vqaa4) rfl (by kernel_rfl) (by kernel_rfl) (by kernel_rfl) (fun _ _ _ h => h) (Or.inl ⟨by rfl, ?yqaa4⟩) (by assumption) ?rqaa4
  case yqaa4 => intro w hSw; have hSc := hSw.1; go_simp <;> (try with_reducible rfl)
  (try simp only [List.getElem_toArray, List.getElem_cons_succ, List.getElem_cons_zero, Act.put, List.setIfInBounds_toArray, List.set_cons_zero, List.set_cons_succ])
  refine' wpAnyH_take (i := 5) (v := _) rfl (by kernel_rfl) (by kernel_rfl) (by kernel_rfl) (fun _ _ _ h => h) (yieldsIf_load_mid (by rfl) _ _ (by rfl) _ _ (by rfl) _ _ ?Sqaa5 ?uqaa5 ?dqaa5 ?iqaa5) (by assumption) ?rqaa5
  case Sqaa5 => exact (by intro w h; exact h.2.2.1)
  case uqaa5 => exact Tryd.underlying33
  case dqaa5 => rfl
  case iqaa5 => exact zz2_3
  (try simp only [List.getElem_toArray, List.getElem_cons_succ, List.getElem_cons_zero, Act.put, List.setIfInBounds_toArray, List.set_cons_zero, List.set_cons_succ])
  refine wpAnyH_take (i := 8) (v := ?vqaa8) rfl (by kernel_rfl) (by kernel_rfl) (by kernel_rfl) (fun _ _ _ h => h) (Or.inl ⟨by rfl, ?yqaa8⟩) (by assumption) ?rqaa8
  case yqaa8 => intro w hSw; (try dsimp only at hSw); go_simp <;> (try with_reducible rfl)
  (try simp only [List.getElem_toArray, List.getElem_cons_succ, List.getElem_cons_zero, Act.put, List.setIfInBounds_toArray, List.set_cons_zero, List.set_cons_succ])
  refine wpAnyH_take (i := 9) (v := ?vqaa9) rfl (by kernel_rfl) (by kernel_rfl) (by kernel_rfl) (fun _ _ _ h => h) (Or.inl ⟨by rfl, ?yqaa9⟩) (by assumption) ?rqaa9
  case yqaa9 => intro w hSw; have hSc := hSw.2.2.2; go_simp <;> (try with_reducible rfl)
  (try simp only [List.getElem_toArray, List.getElem_cons_succ, List.getElem_cons_zero, Act.put, List.setIfInBounds_toArray, List.set_cons_zero, List.set_cons_succ])
  refine wpAnyH_ready (rs := [6]) (by kernel_rfl) (by simp) ?_
  refine AllReadyH.cons rfl (fun K hK => ?_) AllReadyH.nil
  go_simp
  go_wp2_with fail
  (with_reducible refine (HLA.out _).mono ?_)
  rintro e w4 ⟨rfl, hb4⟩
  have B2 := B2.next hb4 B2.lt
  have B3 := B3.next hb4 B3.lt
  have hbe := below_join hbe hb4
  refine hK.out _ _ ⟨B3.cell HC.out, B2.cell (k := 1) rfl, blk_range B2, B2.cell (k := 2) rfl⟩ (fun hHeld => ?_)
  clear hK K hb4
  refine wpAnyH_take (i := 7) (v := ?vqaa7) rfl (by kernel_rfl) (by kernel_rfl) (by kernel_rfl) (fun _ _ _ h => h) (Or.inl ⟨by rfl, ?yqaa7⟩) (by assumption) ?rqaa7
  case yqaa7 => intro w hSw; (try dsimp only at hSw); go_simp <;> (try with_reducible rfl)
  (try simp only [List.getElem_toArray, List.getElem_cons_succ, List.getElem_cons_zero, Act.put, List.setIfInBounds_toArray, List.set_cons_zero, List.set_cons_succ])
  refine wpAnyH_ready (rs := [10]) (by kernel_rfl) (by simp) ?_
  refine AllReadyH.cons rfl (fun K hK => ?_) AllReadyH.nil
  go_simp
  go_wp2_with fail
  (with_reducible refine (HP.out _).mono ?_)
  rintro e w5 ⟨rfl, hb5⟩
  have B2 := B2.next hb5 B2.lt
  have B3 := B3.next hb5 B3.lt
  have hbe := below_join hbe hb5
  refine hK.out _ _ ⟨B3.cell HC.out, B2.cell (k := 1) rfl, blk_range B2, B2.cell (k := 2) rfl⟩ (fun hHeld => ?_)
  clear hK K hb5
  refine wpAnyH_take (i := 11) (v := ?vqaa11) rfl (by kernel_rfl) (by kernel_rfl) (by kernel_rfl) (fun _ _ _ h => h) (Or.inl ⟨by rfl, ?yqaa11⟩) (by assumption) ?rqaa11
  case yqaa11 => intro w hSw; (try dsimp only at hSw); go_simp <;> (try with_reducible rfl)
  (try simp only [List.getElem_toArray, List.getElem_cons_succ, List.getElem_cons_zero, Act.put, List.setIfInBounds_toArray, List.set_cons_zero, List.set_cons_succ])
  refine wpAnyH_take (i := 12) (v := ?vqaa12) rfl (by kernel_rfl) (by kernel_rfl) (by kernel_rfl) (fun _ _ _ h => h) (Or.inl ⟨by rfl, ?yqaa12⟩) (by assumption) ?rqaa12
  case yqaa12 => intro w hSw; (try dsimp only at hSw); go_simp <;> (try with_reducible rfl)
  (try simp only [List.getElem_toArray, List.getElem_cons_succ, List.getElem_cons_zero, Act.put, List.setIfInBounds_toArray, List.set_cons_zero, List.set_cons_succ])
  refine wpAnyH_done (by kernel_rfl) ?_ _
  clear hHeld zz2_3
  go_wp2
  go_ret
  exact ⟨rfl, hbe⟩
set_option maxRecDepth 100000 in
set_option maxHeartbeats 3200000 in
theorem rset2_any (s : ByteArray) (a n x : Nat) (f : Nat → Bool) (w : World) (h : Lies a n) (hx : x < 2 ^ n) :
    Calls Tryd.prog 27 #[.agg #[.string s, .int .i64 (a : Int), .int .i64 (n : Int)], .agg (H f).toArray, .int .i64 (x : Int)] w fun e w' => e = .returned (.agg (H (setF a n x f)).toArray) ∧ Below w.heap.size w w' := by
  have HG := Lib.hid (fun w => rget_any s a n f w h)
  have HLA := Lib.hid (fun w => rlast_any s a n w h)
  have hsw := set_word f h hx
  have hU := set_words (x := x) f h
  have hcell := H_get f h.q
  have hqb := h.q
  have hp := h.pow
  have hVl := fieldN_lt f a n
  have hwl := word_lt f (a / 16)
  have hzl := word_lt (setF a n x f) (a / 16)
  have hqd : (a : Int).tdiv 16 = ((a / 16 : Nat) : Int) := by rw [Int.tdiv_eq_ediv_of_nonneg (by omega)]; omega
  obtain ⟨F, hF⟩ : ∃ F, setF a n x f = F := ⟨_, rfl⟩
  rw [hF] at hsw hU hzl ⊢
  obtain ⟨V, hV⟩ : ∃ V, fieldN f a n = V := ⟨_, rfl⟩
  rw [hV] at HG hsw hVl
  obtain ⟨L, hL⟩ : ∃ L, 2 ^ shiftN a n = L := ⟨_, rfl⟩
  rw [hL] at HLA hsw
  obtain ⟨q, hq⟩ : ∃ q, a / 16 = q := ⟨_, rfl⟩
  rw [hq] at hsw hU hcell hqb hwl hzl hqd
  obtain ⟨y, hy⟩ : ∃ y, word f q = y := ⟨_, rfl⟩
  rw [hy] at hsw hcell hwl
  obtain ⟨z, hz⟩ : ∃ z, word F q = z := ⟨_, rfl⟩
  rw [hz] at hsw hU hzl
  obtain ⟨D, hD⟩ : ∃ D : Int, (x : Int) - (V : Int) = D := ⟨_, rfl⟩
  rw [hD] at hsw
  obtain ⟨E, hE⟩ : ∃ E : Int, D * (L : Int) = E := ⟨_, rfl⟩
  rw [hE] at hsw
  have hwD : IntKind.i64.wrap D = D := by simp only [IntKind.wrap_i64]; omega
  have hwE : IntKind.i64.wrap E = E := by simp only [IntKind.wrap_i64]; omega
  have hwz : IntKind.i64.wrap (z : Int) = (z : Int) := by simp only [IntKind.wrap_i64]; omega
  have hwq : IntKind.i64.wrap (q : Int) = (q : Int) := by simp only [IntKind.wrap_i64]; omega
  have hq0 : (0 : Int) ≤ (q : Int) := by omega
  have hq10i : (q : Int) < 10 := by omega
  have HC := Lib.hid hcell
  have HU := Lib.hid hU
  clear hcell hU hF hV hL hq hy hz h hx hp hVl
  go_enter Tryd.func27, Tryd.ntmps27
  go_wp2_with (with_reducible refine wpList_box (o := ⟨some 3, .box 33 (.tmp 0), _, _, _, _⟩) ?g3 33 (.tmp 0) ?o3 (.agg #[.string s, .int .i64 (a : Int), .int .i64 (n : Int)]) [Value.string s, .int .i64 (a : Int), .int .i64 (n : Int)] ?x3 ?c3 ?_)
  try (case g3 => rfl)
  try (case o3 => rfl)
  try (case x3 => rfl)
  try (case c3 => rfl)
  intro g3 w1 hg3 hs1 hb1 B3
  have hl3 : w.heap.size ≤ g3 := Nat.le_of_eq hg3.out.symm
  have hb1 := hb1.mono (Nat.le_of_eq hg3.out.symm)
  have hbe : Below w.heap.size w w1 := hb1
  clear hb1 hg3 hs1
  go_wp2_with (with_reducible refine wpList_box (o := ⟨some 4, .box 30 (.tmp 1), _, _, _, _⟩) ?g4 30 (.tmp 1) ?o4 (.agg (H f).toArray) (H f) ?x4 ?c4 ?_)
  try (case g4 => rfl)
  try (case o4 => rfl)
  try (case x4 => rfl)
  try (case c4 => rfl)
  intro g4 w2 hg4 hs2 hb2 B4
  have hl4 : w.heap.size ≤ g4 := Nat.le_trans hbe.size (Nat.le_of_eq hg4.out.symm)
  have ne3_4 : g3 ≠ g4 := by have := B3.lt; have := hg4.out; omega
  have ne4_3 := ne3_4.symm
  have hb2 := hb2.mono (Nat.le_of_eq hg4.out.symm)
  have B3 := B3.next hb2 B3.lt
  have hbe := below_join hbe hb2
  clear hb2 hg4 hs2
  go_wp2_with (with_reducible refine wpList_alloc (o := ⟨some 6, .alloc 30, _, _, _, _⟩) (by with_unfolding_all rfl) 30 (by with_unfolding_all rfl) (.agg (H no).toArray) (H no) (by exact Tryd.zeroH) (by with_unfolding_all rfl) ?_)
  intro g6 w3 hg6 hs3 hb3 B6
  have hl6 : w.heap.size ≤ g6 := Nat.le_trans hbe.size (Nat.le_of_eq hg6.out.symm)
  have ne3_6 : g3 ≠ g6 := by have := B3.lt; have := hg6.out; omega
  have ne6_3 := ne3_6.symm
  have ne4_6 : g4 ≠ g6 := by have := B4.lt; have := hg6.out; omega
  have ne6_4 := ne4_6.symm
  have hb3 := hb3.mono (Nat.le_of_eq hg6.out.symm)
  have B3 := B3.next hb3 B3.lt
  have B4 := B4.next hb3 B4.lt
  have hbe := below_join hbe hb3
  clear hb3 hg6 hs3
  have z3_0 := B3.cell (k := 0) rfl
  have z3_1 := B3.cell (k := 1) rfl
  have z3_2 := B3.cell (k := 2) rfl
  go_wp2_with (first | (with_reducible refine wpList_getg (o := ⟨some 9, .load 30 (.tmp 4), _, _, _, _⟩) (by with_unfolding_all rfl) 30 (.tmp 4) (by with_unfolding_all rfl) g4 0 (by with_unfolding_all rfl) B4 (H f) (cs_all _) _ (by exact Tryd.underlying30) (by with_unfolding_all rfl) (by first | exact Tryd.szH | (simp only [H_length, Pat.cells_length, List.length_append]; exact Tryd.szH)) ?_))
  (with_reducible refine (HG.out _).mono ?_)
  rintro e w4 ⟨rfl, hb4⟩
  clear z3_0 z3_1 z3_2
  have B3 := B3.next hb4 B3.lt
  have B4 := B4.next hb4 B4.lt
  have B6 := B6.next hb4 B6.lt
  have hbe := below_join hbe hb4
  clear hb4
  go_wp2
  have hdd := below_drew w4
  have B3 := B3.next hdd B3.lt
  have B4 := B4.next hdd B4.lt
  have B6 := B6.next hdd B6.lt
  have hbe := below_join hbe hdd
  have zz3_2 : (Tryd.prog.info? 33).map (·.size) = some [Value.string s, .int .i64 (a : Int), .int .i64 (n : Int)].length := (by first | exact Tryd.szF | (simp only [H_length, Pat.cells_length, List.length_append]; exact Tryd.szF))
  refine wp_region_held_drew (S := fun w' => w'.cell? ⟨g3, 1, none⟩ = some (.int .i64 (a : Int)) ∧ w'.rangeAt g3 0 [Value.string s, .int .i64 (a : Int), .int .i64 (n : Int)]) (by kernel_rfl) ⟨B3.cell (k := 1) rfl, blk_range B3⟩ (fun hHeld => ?_)
  clear hdd
  generalize w4.drew = w5 at B3 B4 B6 hbe hHeld  ⊢
  refine wpAnyH_take (i := 0) (v := ?vqab0) rfl (by kernel_rfl) (by kernel_rfl) (by kernel_rfl) (fun _ _ _ h => h) (Or.inl ⟨by rfl, ?yqab0⟩) (by assumption) ?rqab0
  case yqab0 => intro w hSw; (try dsimp only at hSw); go_simp <;> (try with_reducible rfl)
  (try simp only [List.getElem_toArray, List.getElem_cons_zero, Act.put, List.setIfInBounds_toArray, List.set_cons_zero, List.set_cons_succ])
  refine wpAnyH_take (i := 1) (v := ?vqab1) rfl (by kernel_rfl) (by kernel_rfl) (by kernel_rfl) (fun _ _ _ h => h) (Or.inl ⟨by rfl, ?yqab1⟩) (by assumption) ?rqab1
  case yqab1 => intro w hSw; have hSc := hSw.1; go_simp <;> (try with_reducible rfl)
  (try simp only [List.getElem_toArray, List.getElem_cons_succ, List.getElem_cons_zero, Act.put, List.setIfInBounds_toArray, List.set_cons_zero, List.set_cons_succ])
  refine wpAnyH_take (i := 2) (v := ?vqab2) rfl (by kernel_rfl) (by kernel_rfl) (by kernel_rfl) (fun _ _ _ h => h) (Or.inl ⟨by rfl, ?yqab2⟩) (by assumption) ?rqab2
  case yqab2 => intro w hSw; (try dsimp only at hSw); go_simp <;> (try with_reducible rfl)
  (try simp only [List.getElem_toArray, List.getElem_cons_succ, List.getElem_cons_zero, Act.put, List.setIfInBounds_toArray, List.set_cons_zero, List.set_cons_succ])
  refine wpAnyH_take (i := 3) (v := ?vqab3) rfl (by kernel_rfl) (by kernel_rfl) (by kernel_rfl) (fun _ _ _ h => h) (Or.inl ⟨by rfl, ?yqab3⟩) (by assumption) ?rqab3
  case yqab3 => intro w hSw; (try dsimp only at hSw); go_simp <;> (try with_reducible rfl)
  (try simp only [List.getElem_toArray, List.getElem_cons_succ, List.getElem_cons_zero, Act.put, List.setIfInBounds_toArray, List.set_cons_zero, List.set_cons_succ])
  refine wpAnyH_take (i := 4) (v := ?vqab4) rfl (by kernel_rfl) (by kernel_rfl) (by kernel_rfl) (fun _ _ _ h => h) (Or.inl ⟨by rfl, ?yqab4⟩) (by assumption) ?rqab4
  case yqab4 => intro w hSw; have hSc := hSw.1; go_simp <;> (try with_reducible rfl)
  (try simp only [List.getElem_toArray, List.getElem_cons_succ, List.getElem_cons_zero, Act.put, List.setIfInBounds_toArray, List.set_cons_zero, List.set_cons_succ])
  refine wpAnyH_take (i := 5) (v := ?vqab5) rfl (by kernel_rfl) (by kernel_rfl) (by kernel_rfl) (fun _ _ _ h => h) (Or.inl ⟨by rfl, ?yqab5⟩) (by assumption) ?rqab5
  case yqab5 => intro w hSw; (try dsimp only at hSw); go_simp <;> (try with_reducible rfl)
  (try simp only [List.getElem_toArray, List.getElem_cons_succ, List.getElem_cons_zero, Act.put, List.setIfInBounds_toArray, List.set_cons_zero, List.set_cons_succ])
  refine wpAnyH_take (i := 6) (v := ?vqab6) rfl (by kernel_rfl) (by kernel_rfl) (by kernel_rfl) (fun _ _ _ h => h) (Or.inl ⟨by rfl, ?yqab6⟩) (by assumption) ?rqab6
  case yqab6 => intro w hSw; (try dsimp only at hSw); go_simp <;> (try with_reducible rfl)
  (try simp only [List.getElem_toArray, List.getElem_cons_succ, List.getElem_cons_zero, Act.put, List.setIfInBounds_toArray, List.set_cons_zero, List.set_cons_succ])
  refine wpAnyH_take (i := 8) (v := ?vqab8) rfl (by kernel_rfl) (by kernel_rfl) (by kernel_rfl) (fun _ _ _ h => h) (Or.inl ⟨by rfl, ?yqab8⟩) (by assumption) ?rqab8
  case yqab8 => intro w hSw; (try dsimp only at hSw); go_simp <;> (try with_reducible rfl)
  (try simp only [List.getElem_toArray, List.getElem_cons_succ, List.getElem_cons_zero, Act.put, List.setIfInBounds_toArray, List.set_cons_zero, List.set_cons_succ])
  refine wpAnyH_take (i := 9) (v := ?vqab9) rfl (by kernel_rfl) (by kernel_rfl) (by kernel_rfl) (fun _ _ _ h => h) (Or.inl ⟨by rfl, ?yqab9⟩) (by assumption) ?rqab9
  case yqab9 => intro w hSw; (try dsimp only at hSw); go_simp <;> (try with_reducible rfl)
  (try simp only [List.getElem_toArray, List.getElem_cons_succ, List.getElem_cons_zero, Act.put, List.setIfInBounds_toArray, List.set_cons_zero, List.set_cons_succ])
  refine wpAnyH_take (i := 10) (v := ?vqab10) rfl (by kernel_rfl) (by kernel_rfl) (by kernel_rfl) (fun _ _ _ h => h) (Or.inl ⟨by rfl, ?yqab10⟩) (by assumption) ?rqab10
  case yqab10 => intro w hSw; (try dsimp only at hSw); go_simp <;> (try with_reducible rfl)
  (try simp only [List.getElem_toArray, List.getElem_cons_succ, List.getElem_cons_zero, Act.put, List.setIfInBounds_toArray, List.set_cons_zero, List.set_cons_succ])
  refine' wpAnyH_take (i := 11) (v := _) rfl (by kernel_rfl) (by kernel_rfl) (by kernel_rfl) (fun _ _ _ h => h) (yieldsIf_load_mid (by rfl) _ _ (by rfl) _ _ (by rfl) _ _ ?Sqab11 ?uqab11 ?dqab11 ?iqab11) (by assumption) ?rqab11
  case Sqab11 => exact (by intro w h; exact h.2)
  case uqab11 => exact Tryd.underlying33
  case dqab11 => rfl
  case iqab11 => exact zz3_2
  (try simp only [List.getElem_toArray, List.getElem_cons_succ, List.getElem_cons_zero, Act.put, List.setIfInBounds_toArray, List.set_cons_zero, List.set_cons_succ])
  refine wpAnyH_ready (rs := [7, 12]) (by kernel_rfl) (by simp) ?_
  refine AllReadyH.cons rfl (fun K hK => ?_) (AllReadyH.cons rfl (fun K hK => ?_) AllReadyH.nil)
  · skip
    have hcq := B4.cell HC.out
    go_simp
    refine hK.out _ _ ⟨B3.cell (k := 1) rfl, blk_range B3⟩ (fun hHeld => ?_)
    clear hK K hcq
    refine wpAnyH_ready (rs := [12]) (by kernel_rfl) (by simp) ?_
    refine AllReadyH.cons rfl (fun K hK => ?_) AllReadyH.nil
    go_simp
    go_wp2_with fail
    (with_reducible refine (HLA.out _).mono ?_)
    rintro e w6 ⟨rfl, hb6⟩
    have B3 := B3.next hb6 B3.lt
    have B4 := B4.next hb6 B4.lt
    have B6 := B6.next hb6 B6.lt
    have hbe := below_join hbe hb6
    refine hK.out _ _ ⟨B3.cell (k := 1) rfl, blk_range B3⟩ (fun hHeld => ?_)
    clear hK K hb6
    refine wpAnyH_take (i := 13) (v := ?vqac13) rfl (by kernel_rfl) (by kernel_rfl) (by kernel_rfl) (fun _ _ _ h => h) (Or.inl ⟨by rfl, ?yqac13⟩) (by assumption) ?rqac13
    case yqac13 => intro w hSw; (try dsimp only at hSw); go_simp <;> (try with_reducible rfl)
    (try simp only [List.getElem_toArray, List.getElem_cons_succ, List.getElem_cons_zero, Act.put, List.setIfInBounds_toArray, List.set_cons_zero, List.set_cons_succ])
    refine wpAnyH_take (i := 14) (v := ?vqac14) rfl (by kernel_rfl) (by kernel_rfl) (by kernel_rfl) (fun _ _ _ h => h) (Or.inl ⟨by rfl, ?yqac14⟩) (by assumption) ?rqac14
    case yqac14 => intro w hSw; (try dsimp only at hSw); go_simp <;> (try with_reducible rfl)
    (try simp only [List.getElem_toArray, List.getElem_cons_succ, List.getElem_cons_zero, Act.put, List.setIfInBounds_toArray, List.set_cons_zero, List.set_cons_succ])
    refine wpAnyH_take (i := 15) (v := ?vqac15) rfl (by kernel_rfl) (by kernel_rfl) (by kernel_rfl) (fun _ _ _ h => h) (Or.inl ⟨by rfl, ?yqac15⟩) (by assumption) ?rqac15
    case yqac15 => intro w hSw; (try dsimp only at hSw); go_simp <;> (try with_reducible rfl)
    (try simp only [List.getElem_toArray, List.getElem_cons_succ, List.getElem_cons_zero, Act.put, List.setIfInBounds_toArray, List.set_cons_zero, List.set_cons_succ])
    refine wpAnyH_ready (rs := [16]) (by kernel_rfl) (by simp) ?_
    refine AllReadyH.cons rfl (fun K hK => ?_) AllReadyH.nil
    rw [if_pos (by rfl)]
    refine wp_put 3 (.tmp 26) (.tmp 25) rfl g4 q rfl (.int .i64 (z : Int)) rfl B4 [.int .i64 (z : Int)] rfl (by exact Tryd.szI1) (by rw [H_length]; show q + 1 ≤ 10; omega) (one_cell1 rfl) ?_
    intro w7 hu7 C4
    rw [splice_set _ _ _ (by rw [H_length]; exact hqb), HU.out] at C4
    have B3 := B3.upd hu7 ne3_4
    have B6 := B6.upd hu7 ne6_4
    have hbe := hbe.trans (hu7.below (B := w.heap.size) hl4)
    clear B4 hu7
    have B4 := C4
    clear C4
    refine hK.out _ _ ⟨B3.cell (k := 1) rfl, blk_range B3⟩ (fun hHeld => ?_)
    clear hK K
    refine wpAnyH_done (by kernel_rfl) ?_ _
    clear hHeld zz3_2
    go_wp2_with (first | (with_reducible refine wpList_getg (o := ⟨some 27, .load 30 (.tmp 4), _, _, _, _⟩) (by with_unfolding_all rfl) 30 (.tmp 4) (by with_unfolding_all rfl) g4 0 (by with_unfolding_all rfl) B4 (H F) (cs_all _) _ (by exact Tryd.underlying30) (by with_unfolding_all rfl) (by first | exact Tryd.szH | (simp only [H_length, Pat.cells_length, List.length_append]; exact Tryd.szH)) ?_) | (with_reducible refine wpList_put (o := ⟨none, .store 30 (.tmp 6) (.tmp 27), _, _, _, _⟩) (by with_unfolding_all rfl) 30 (.tmp 6) (.tmp 27) (by with_unfolding_all rfl) g6 0 (by with_unfolding_all rfl) (.agg (H F).toArray) (by with_unfolding_all rfl) B6 (H F) (by with_unfolding_all rfl) (by with_unfolding_all (first | exact Tryd.szH | (simp only [H_length, Pat.cells_length, List.length_append]; exact Tryd.szH))) (by with_unfolding_all (first | decide | (simp only [H_length, Pat.cells_length, List.length_append]; omega))) (by with_unfolding_all (exact H_one _)) ?_))
    intro w8 hu8 C6
    rw [splice_all _ _ (by simp only [H_length])] at C6
    have B3 := B3.upd hu8 ne3_6
    have B4 := B4.upd hu8 ne4_6
    have hbe := hbe.trans (hu8.below (B := w.heap.size) hl6)
    clear B6 hu8
    have B6 := C6
    clear C6
    go_wp2
    exact bodyPost_ret (results_cell_row rfl _ _ g6 _ _ _ _ rfl B6 Tryd.underlying30 rfl (by simp only [List.size_toArray, H_length, Pat.cells_length, List.length_append]; exact Tryd.szH)) rfl ⟨rfl, hbe⟩
  · skip
    go_simp
    go_wp2_with fail
    (with_reducible refine (HLA.out _).mono ?_)
    rintro e w6 ⟨rfl, hb6⟩
    have B3 := B3.next hb6 B3.lt
    have B4 := B4.next hb6 B4.lt
    have B6 := B6.next hb6 B6.lt
    have hbe := below_join hbe hb6
    refine hK.out _ _ ⟨B3.cell (k := 1) rfl, blk_range B3⟩ (fun hHeld => ?_)
    clear hK K hb6
    refine wpAnyH_take (i := 13) (v := ?vqad13) rfl (by kernel_rfl) (by kernel_rfl) (by kernel_rfl) (fun _ _ _ h => h) (Or.inl ⟨by rfl, ?yqad13⟩) (by assumption) ?rqad13
    case yqad13 => intro w hSw; (try dsimp only at hSw); go_simp <;> (try with_reducible rfl)
    (try simp only [List.getElem_toArray, List.getElem_cons_succ, List.getElem_cons_zero, Act.put, List.setIfInBounds_toArray, List.set_cons_zero, List.set_cons_succ])
    refine wpAnyH_ready (rs := [7]) (by kernel_rfl) (by simp) ?_
    refine AllReadyH.cons rfl (fun K hK => ?_) AllReadyH.nil
    have hcq := B4.cell HC.out
    go_simp
    refine hK.out _ _ ⟨B3.cell (k := 1) rfl, blk_range B3⟩ (fun hHeld => ?_)
    clear hK K hcq
    refine wpAnyH_take (i := 14) (v := ?vqad14) rfl (by kernel_rfl) (by kernel_rfl) (by kernel_rfl) (fun _ _ _ h => h) (Or.inl ⟨by rfl, ?yqad14⟩) (by assumption) ?rqad14
    case yqad14 => intro w hSw; (try dsimp only at hSw); go_simp <;> (try with_reducible rfl)
    (try simp only [List.getElem_toArray, List.getElem_cons_succ, List.getElem_cons_zero, Act.put, List.setIfInBounds_toArray, List.set_cons_zero, List.set_cons_succ])
    refine wpAnyH_take (i := 15) (v := ?vqad15) rfl (by kernel_rfl) (by kernel_rfl) (by kernel_rfl) (fun _ _ _ h => h) (Or.inl ⟨by rfl, ?yqad15⟩) (by assumption) ?rqad15
    case yqad15 => intro w hSw; (try dsimp only at hSw); go_simp <;> (try with_reducible rfl)
    (try simp only [List.getElem_toArray, List.getElem_cons_succ, List.getElem_cons_zero, Act.put, List.setIfInBounds_toArray, List.set_cons_zero, List.set_cons_succ])
    refine wpAnyH_ready (rs := [16]) (by kernel_rfl) (by simp) ?_
    refine AllReadyH.cons rfl (fun K hK => ?_) AllReadyH.nil
    rw [if_pos (by rfl)]
    refine wp_put 3 (.tmp 26) (.tmp 25) rfl g4 q rfl (.int .i64 (z : Int)) rfl B4 [.int .i64 (z : Int)] rfl (by exact Tryd.szI1) (by rw [H_length]; show q + 1 ≤ 10; omega) (one_cell1 rfl) ?_
    intro w7 hu7 C4
    rw [splice_set _ _ _ (by rw [H_length]; exact hqb), HU.out] at C4
    have B3 := B3.upd hu7 ne3_4
    have B6 := B6.upd hu7 ne6_4
    have hbe := hbe.trans (hu7.below (B := w.heap.size) hl4)
    clear B4 hu7
    have B4 := C4
    clear C4
    refine hK.out _ _ ⟨B3.cell (k := 1) rfl, blk_range B3⟩ (fun hHeld => ?_)
    clear hK K
    refine wpAnyH_done (by kernel_rfl) ?_ _
    clear hHeld zz3_2
    go_wp2_with (first | (with_reducible refine wpList_getg (o := ⟨some 27, .load 30 (.tmp 4), _, _, _, _⟩) (by with_unfolding_all rfl) 30 (.tmp 4) (by with_unfolding_all rfl) g4 0 (by with_unfolding_all rfl) B4 (H F) (cs_all _) _ (by exact Tryd.underlying30) (by with_unfolding_all rfl) (by first | exact Tryd.szH | (simp only [H_length, Pat.cells_length, List.length_append]; exact Tryd.szH)) ?_) | (with_reducible refine wpList_put (o := ⟨none, .store 30 (.tmp 6) (.tmp 27), _, _, _, _⟩) (by with_unfolding_all rfl) 30 (.tmp 6) (.tmp 27) (by with_unfolding_all rfl) g6 0 (by with_unfolding_all rfl) (.agg (H F).toArray) (by with_unfolding_all rfl) B6 (H F) (by with_unfolding_all rfl) (by with_unfolding_all (first | exact Tryd.szH | (simp only [H_length, Pat.cells_length, List.length_append]; exact Tryd.szH))) (by with_unfolding_all (first | decide | (simp only [H_length, Pat.cells_length, List.length_append]; omega))) (by with_unfolding_all (exact H_one _)) ?_))
    intro w8 hu8 C6
    rw [splice_all _ _ (by simp only [H_length])] at C6
    have B3 := B3.upd hu8 ne3_6
    have B4 := B4.upd hu8 ne4_6
    have hbe := hbe.trans (hu8.below (B := w.heap.size) hl6)
    clear B6 hu8
    have B6 := C6
    clear C6
    go_wp2
    exact bodyPost_ret (results_cell_row rfl _ _ g6 _ _ _ _ rfl B6 Tryd.underlying30 rfl (by simp only [List.size_toArray, H_length, Pat.cells_length, List.length_append]; exact Tryd.szH)) rfl ⟨rfl, hbe⟩
/-- What the specification's Prefix sets. -/
theorem ref_mask {a n m : Nat} (x : Nat) (h : Lies a n) (hm : m ≤ n) : H (setF a n ((2 ^ n - 1) / 2 ^ (n - m) * 2 ^ (n - m)) no) = H (Pat.pre a n x m).m := by
  refine H_congr fun i _ => ?_
  rw [all_high (Nat.sub_le _ _)]
  show _ = (decide (a ≤ i) && decide (i < a + m))
  by_cases hi : a ≤ i ∧ i < a + n
  · rw [setF_in _ hi.1 hi.2, show 2 ^ n - 2 ^ (n - m) = 2 ^ (n - m) * (2 ^ m - 1) by
      rw [show 2 ^ n = 2 ^ (n - m) * 2 ^ m by rw [← Nat.pow_add]; congr 1; omega, Nat.mul_sub (2 ^ (n - m)), Nat.mul_one], Nat.testBit_two_pow_mul, Nat.testBit_two_pow_sub_one, decide_eq_true hi.1, Bool.true_and, Bool.eq_iff_iff]
    simp only [Bool.and_eq_true, decide_eq_true_eq]
    omega
  · rw [setF_out _ (by omega)]
    show false = _
    symm
    rw [Bool.and_eq_false_iff, decide_eq_false_iff_not, decide_eq_false_iff_not]; omega
theorem ref_bits {a n m x : Nat} (h : Lies a n) (hm : m ≤ n) (hx : x < 2 ^ n) : H (setF a n (x / 2 ^ (n - m) * 2 ^ (n - m)) no) = H (Pat.pre a n x m).b := by
  refine H_congr fun i hi160 => ?_
  rw [← (pre_cut (a := a) (x := x) hm).2 i hi160]
  show _ = ((decide (a ≤ i) && decide (i < a + m)) && (x / 2 ^ (n - m) * 2 ^ (n - m)).testBit (n - 1 - (i - a)))
  by_cases hi : a ≤ i ∧ i < a + n
  · rw [setF_in _ hi.1 hi.2]
    by_cases hj : i < a + m
    · rw [decide_eq_true hi.1, decide_eq_true hj]; rfl
    · rw [decide_eq_false hj, Bool.and_false, Bool.false_and, Nat.mul_comm, Nat.testBit_two_pow_mul, decide_eq_false (by omega), Bool.false_and]
  · rw [setF_out _ (by omega), show (decide (a ≤ i) && decide (i < a + m)) = false by
      rw [Bool.and_eq_false_iff, decide_eq_false_iff_not, decide_eq_false_iff_not]; omega]
    rfl
set_option maxRecDepth 100000 in
set_option maxHeartbeats 3200000 in
theorem rprefix2_any (s : ByteArray) (a n x m : Nat) (w : World) (h : Lies a n) (hx : x < 2 ^ n) (hm : m ≤ n) :
    Calls Tryd.prog 33 #[.agg #[.string s, .int .i64 (a : Int), .int .i64 (n : Int)], .int .i64 (x : Int), .int .i64 (m : Int)] w fun e w' => e = .returned (.agg (Pat.pre a n x m).cells.toArray) ∧ Below w.heap.size w w' := by
  have hfr16 : n - m ≤ 16 := by have := h.le; omega
  have HP := Lib.hid (fun w => rpowB_any (n - m) w hfr16)
  have HM := Lib.hid (fun w => rmax_any s a n w h)
  have hp0 := Nat.two_pow_pos (n - m)
  have hpn := Nat.two_pow_pos n
  have hp := h.pow
  have hl1 : (2 ^ n - 1) / 2 ^ (n - m) * 2 ^ (n - m) < 2 ^ n := Nat.lt_of_le_of_lt (div_mul_le' _ _) (by omega)
  have hl2 : x / 2 ^ (n - m) * 2 ^ (n - m) < 2 ^ n := Nat.lt_of_le_of_lt (div_mul_le' _ _) hx
  have HS1 := Lib.hid (fun w => rset2_any s a n ((2 ^ n - 1) / 2 ^ (n - m) * 2 ^ (n - m)) no w h hl1)
  have HS2 := Lib.hid (fun w => rset2_any s a n (x / 2 ^ (n - m) * 2 ^ (n - m)) no w h hl2)
  rw [ref_mask x h hm] at HS1
  rw [ref_bits h hm hx] at HS2
  have hcs : (Pat.pre a n x m).cells = H (Pat.pre a n x m).m ++ H (Pat.pre a n x m).b := rfl
  rw [hcs]
  obtain ⟨XM, hXM⟩ : ∃ XM, (Pat.pre a n x m).m = XM := ⟨_, rfl⟩
  obtain ⟨XB, hXB⟩ : ∃ XB, (Pat.pre a n x m).b = XB := ⟨_, rfl⟩
  rw [hXM] at HS1 ⊢
  rw [hXB] at HS2 ⊢
  clear hXM hXB hcs
  obtain ⟨fr, hfr⟩ : ∃ fr, n - m = fr := ⟨_, rfl⟩
  have hfrI : (n : Int) - (m : Int) = (fr : Int) := by omega
  have hwfr : IntKind.i64.wrap (fr : Int) = (fr : Int) := by simp only [IntKind.wrap_i64]; omega
  rw [hfr] at HP HS1 HS2 hp0 hl1 hl2
  obtain ⟨R, hR⟩ : ∃ R, 2 ^ fr = R := ⟨_, rfl⟩
  rw [hR] at HP HS1 HS2 hp0 hl1 hl2
  obtain ⟨P, hP⟩ : ∃ P, 2 ^ n = P := ⟨_, rfl⟩
  rw [hP] at HM HS1 hl1 hl2 hp hpn
  obtain ⟨M, hM⟩ : ∃ M, P - 1 = M := ⟨_, rfl⟩
  rw [hM] at HM HS1 hl1
  have hM6 : M < 65536 := by omega
  have hq1l : M / R ≤ M := Nat.div_le_self _ _
  have hq2l : x / R ≤ x := Nat.div_le_self _ _
  have hd1 : (M : Int).tdiv (R : Int) = ((M / R : Nat) : Int) := by rw [Int.tdiv_eq_ediv_of_nonneg (by omega)]; exact (Int.natCast_ediv M R).symm
  have hd2 : (x : Int).tdiv (R : Int) = ((x / R : Nat) : Int) := by rw [Int.tdiv_eq_ediv_of_nonneg (by omega)]; exact (Int.natCast_ediv x R).symm
  obtain ⟨u, hu⟩ : ∃ u, M / R = u := ⟨_, rfl⟩
  obtain ⟨v, hv⟩ : ∃ v, x / R = v := ⟨_, rfl⟩
  rw [hu] at hd1 HS1 hl1 hq1l
  rw [hv] at hd2 HS2 hl2 hq2l
  obtain ⟨A1, hA1⟩ : ∃ A1, u * R = A1 := ⟨_, rfl⟩
  obtain ⟨A2, hA2⟩ : ∃ A2, v * R = A2 := ⟨_, rfl⟩
  have hm1 : (u : Int) * (R : Int) = (A1 : Int) := by rw [← hA1, Int.natCast_mul]
  have hm2 : (v : Int) * (R : Int) = (A2 : Int) := by rw [← hA2, Int.natCast_mul]
  rw [hA1] at HS1 hl1
  rw [hA2] at HS2 hl2
  have hRz : ((R : Int) == 0) = false := beq_eq_false_iff_ne.2 (by omega)
  have hRn : ¬ (R : Int) = 0 := by omega
  have hRn' : ¬ R = 0 := by omega
  have hx6 : x < 65536 := by omega
  have hwu : IntKind.i64.wrap (u : Int) = (u : Int) := by simp only [IntKind.wrap_i64]; omega
  have hwv : IntKind.i64.wrap (v : Int) = (v : Int) := by simp only [IntKind.wrap_i64]; omega
  have hwA1 : IntKind.i64.wrap (A1 : Int) = (A1 : Int) := by simp only [IntKind.wrap_i64]; omega
  have hwA2 : IntKind.i64.wrap (A2 : Int) = (A2 : Int) := by simp only [IntKind.wrap_i64]; omega
  clear hfr hR hP hM hu hv hA1 hA2 h hx hl1 hl2
  go_enter Tryd.func33, Tryd.ntmps33
  go_wp2_with (with_reducible refine wpList_box (o := ⟨some 3, .box 33 (.tmp 0), _, _, _, _⟩) ?g3 33 (.tmp 0) ?o3 (.agg #[.string s, .int .i64 (a : Int), .int .i64 (n : Int)]) [Value.string s, .int .i64 (a : Int), .int .i64 (n : Int)] ?x3 ?c3 ?_)
  try (case g3 => rfl)
  try (case o3 => rfl)
  try (case x3 => rfl)
  try (case c3 => rfl)
  intro g3 w1 hg3 hs1 hb1 B3
  have hl3 : w.heap.size ≤ g3 := Nat.le_of_eq hg3.out.symm
  have hb1 := hb1.mono (Nat.le_of_eq hg3.out.symm)
  have hbe : Below w.heap.size w w1 := hb1
  clear hb1 hg3 hs1
  go_wp2_with (with_reducible refine wpList_alloc (o := ⟨some 6, .alloc 48, _, _, _, _⟩) (by with_unfolding_all rfl) 48 (by with_unfolding_all rfl) (.agg (H no ++ H no).toArray) (H no ++ H no) (by exact Tryd.zeroPt) (by with_unfolding_all rfl) ?_)
  intro g6 w2 hg6 hs2 hb2 B6
  have hl6 : w.heap.size ≤ g6 := Nat.le_trans hbe.size (Nat.le_of_eq hg6.out.symm)
  have ne3_6 : g3 ≠ g6 := by have := B3.lt; have := hg6.out; omega
  have ne6_3 := ne3_6.symm
  have hb2 := hb2.mono (Nat.le_of_eq hg6.out.symm)
  have B3 := B3.next hb2 B3.lt
  have hbe := below_join hbe hb2
  clear hb2 hg6 hs2
  have z3_1 := B3.cell (k := 1) rfl
  have z3_2 := B3.cell (k := 2) rfl
  go_wp2_with fail
  (with_reducible refine (HP.out _).mono ?_)
  rintro e w3 ⟨rfl, hb3⟩
  clear z3_1 z3_2
  have B3 := B3.next hb3 B3.lt
  have B6 := B6.next hb3 B6.lt
  have hbe := below_join hbe hb3
  clear hb3
  go_wp2_with (with_reducible refine wpList_alloc (o := ⟨some 8, .alloc 48, _, _, _, _⟩) (by with_unfolding_all rfl) 48 (by with_unfolding_all rfl) (.agg (H no ++ H no).toArray) (H no ++ H no) (by exact Tryd.zeroPt) (by with_unfolding_all rfl) ?_)
  intro g8 w4 hg8 hs4 hb4 B8
  have hl8 : w.heap.size ≤ g8 := Nat.le_trans hbe.size (Nat.le_of_eq hg8.out.symm)
  have ne3_8 : g3 ≠ g8 := by have := B3.lt; have := hg8.out; omega
  have ne8_3 := ne3_8.symm
  have ne6_8 : g6 ≠ g8 := by have := B6.lt; have := hg8.out; omega
  have ne8_6 := ne6_8.symm
  have hb4 := hb4.mono (Nat.le_of_eq hg8.out.symm)
  have B3 := B3.next hb4 B3.lt
  have B6 := B6.next hb4 B6.lt
  have hbe := below_join hbe hb4
  clear hb4 hg8 hs4
  go_wp2
  have hdd := below_drew w4
  have B3 := B3.next hdd B3.lt
  have B6 := B6.next hdd B6.lt
  have B8 := B8.next hdd B8.lt
  have hbe := below_join hbe hdd
  have zz3_1 : (Tryd.prog.info? 33).map (·.size) = some [Value.string s, .int .i64 (a : Int), .int .i64 (n : Int)].length := (by first | exact Tryd.szF | (simp only [H_length, Pat.cells_length, List.length_append]; exact Tryd.szF))
  refine wp_region_held_drew (S := fun w' => w'.rangeAt g3 0 [Value.string s, .int .i64 (a : Int), .int .i64 (n : Int)]) (by kernel_rfl) (blk_range B3) (fun hHeld => ?_)
  clear hdd
  generalize w4.drew = w5 at B3 B6 B8 hbe hHeld  ⊢
  refine' wpAnyH_take (i := 0) (v := _) rfl (by kernel_rfl) (by kernel_rfl) (by kernel_rfl) (fun _ _ _ h => h) (yieldsIf_load_mid (by rfl) _ _ (by rfl) _ _ (by rfl) _ _ ?Sqae0 ?uqae0 ?dqae0 ?iqae0) (by assumption) ?rqae0
  case Sqae0 => exact (by intro w h; exact h)
  case uqae0 => exact Tryd.underlying33
  case dqae0 => rfl
  case iqae0 => exact zz3_1
  (try simp only [List.getElem_toArray, List.getElem_cons_zero, Act.put, List.setIfInBounds_toArray, List.set_cons_zero, List.set_cons_succ])
  refine wpAnyH_take (i := 1) (v := ?vqae1) rfl (by kernel_rfl) (by kernel_rfl) (by kernel_rfl) (fun _ _ _ h => h) (Or.inl ⟨by rfl, ?yqae1⟩) (by assumption) ?rqae1
  case yqae1 => intro w hSw; (try dsimp only at hSw); go_simp <;> (try with_reducible rfl)
  (try simp only [List.getElem_toArray, List.getElem_cons_succ, List.getElem_cons_zero, Act.put, List.setIfInBounds_toArray, List.set_cons_zero, List.set_cons_succ])
  refine' wpAnyH_take (i := 3) (v := _) rfl (by kernel_rfl) (by kernel_rfl) (by kernel_rfl) (fun _ _ _ h => h) (yieldsIf_load_mid (by rfl) _ _ (by rfl) _ _ (by rfl) _ _ ?Sqae3 ?uqae3 ?dqae3 ?iqae3) (by assumption) ?rqae3
  case Sqae3 => exact (by intro w h; exact h)
  case uqae3 => exact Tryd.underlying33
  case dqae3 => rfl
  case iqae3 => exact zz3_1
  (try simp only [List.getElem_toArray, List.getElem_cons_succ, List.getElem_cons_zero, Act.put, List.setIfInBounds_toArray, List.set_cons_zero, List.set_cons_succ])
  refine wpAnyH_take (i := 5) (v := ?vqae5) rfl (by kernel_rfl) (by kernel_rfl) (by kernel_rfl) (fun _ _ _ h => h) (Or.inl ⟨by rfl, ?yqae5⟩) (by assumption) ?rqae5
  case yqae5 => intro w hSw; (try dsimp only at hSw); go_simp <;> (try with_reducible rfl)
  (try simp only [List.getElem_toArray, List.getElem_cons_succ, List.getElem_cons_zero, Act.put, List.setIfInBounds_toArray, List.set_cons_zero, List.set_cons_succ])
  refine wpAnyH_take (i := 7) (v := ?vqae7) rfl (by kernel_rfl) (by kernel_rfl) (by kernel_rfl) (fun _ _ _ h => h) (Or.inl ⟨by rfl, ?yqae7⟩) (by assumption) ?rqae7
  case yqae7 => intro w hSw; (try dsimp only at hSw); go_simp <;> (try with_reducible rfl)
  (try simp only [List.getElem_toArray, List.getElem_cons_succ, List.getElem_cons_zero, Act.put, List.setIfInBounds_toArray, List.set_cons_zero, List.set_cons_succ])
  refine wpAnyH_ready (rs := [2, 4]) (by kernel_rfl) (by simp) ?_
  refine AllReadyH.cons rfl (fun K hK => ?_) (AllReadyH.cons rfl (fun K hK => ?_) AllReadyH.nil)
  · skip
    rw [if_pos (by rfl)]
    refine' wp_load_mid _ _ rfl g8 0 rfl (H no) _ ?cqaf ?uqaf ?dqaf ?iqaf ?rqaf
    case cqaf => exact (at_fst B8)
    case uqaf => exact Tryd.underlying30
    case dqaf => rfl
    case iqaf => exact (by first | exact Tryd.szH | (simp only [H_length, Pat.cells_length, List.length_append]; exact Tryd.szH))
    (try simp only [List.getElem_toArray, List.getElem_cons_succ, List.getElem_cons_zero, Act.put, List.setIfInBounds_toArray, List.set_cons_zero, List.set_cons_succ])
    refine hK.out _ _ (blk_range B3) (fun hHeld => ?_)
    clear hK K
    refine wpAnyH_ready (rs := [4]) (by kernel_rfl) (by simp) ?_
    refine AllReadyH.cons rfl (fun K hK => ?_) AllReadyH.nil
    go_simp
    go_wp2_with fail
    (with_reducible refine (HM.out _).mono ?_)
    rintro e w6 ⟨rfl, hb6⟩
    have B3 := B3.next hb6 B3.lt
    have B6 := B6.next hb6 B6.lt
    have B8 := B8.next hb6 B8.lt
    have hbe := below_join hbe hb6
    refine hK.out _ _ (blk_range B3) (fun hHeld => ?_)
    clear hK K hb6
    refine wpAnyH_take (i := 6) (v := ?vqag6) rfl (by kernel_rfl) (by kernel_rfl) (by kernel_rfl) (fun _ _ _ h => h) (Or.inl ⟨by rfl, ?yqag6⟩) (by assumption) ?rqag6
    case yqag6 => intro w hSw; (try dsimp only at hSw); go_simp <;> (try with_reducible rfl)
    (try simp only [List.getElem_toArray, List.getElem_cons_succ, List.getElem_cons_zero, Act.put, List.setIfInBounds_toArray, List.set_cons_zero, List.set_cons_succ])
    refine wpAnyH_take (i := 8) (v := ?vqag8) rfl (by kernel_rfl) (by kernel_rfl) (by kernel_rfl) (fun _ _ _ h => h) (Or.inl ⟨by rfl, ?yqag8⟩) (by assumption) ?rqag8
    case yqag8 => intro w hSw; (try dsimp only at hSw); go_simp <;> (try with_reducible rfl)
    (try simp only [List.getElem_toArray, List.getElem_cons_succ, List.getElem_cons_zero, Act.put, List.setIfInBounds_toArray, List.set_cons_zero, List.set_cons_succ])
    refine wpAnyH_ready (rs := [9]) (by kernel_rfl) (by simp) ?_
    refine AllReadyH.cons rfl (fun K hK => ?_) AllReadyH.nil
    go_simp
    go_wp2_with fail
    (with_reducible refine (HS1.out _).mono ?_)
    rintro e w7 ⟨rfl, hb7⟩
    have B3 := B3.next hb7 B3.lt
    have B6 := B6.next hb7 B6.lt
    have B8 := B8.next hb7 B8.lt
    have hbe := below_join hbe hb7
    refine hK.out _ _ (blk_range B3) (fun hHeld => ?_)
    clear hK K hb7
    refine wpAnyH_take (i := 10) (v := ?vqag10) rfl (by kernel_rfl) (by kernel_rfl) (by kernel_rfl) (fun _ _ _ h => h) (Or.inl ⟨by rfl, ?yqag10⟩) (by assumption) ?rqag10
    case yqag10 => intro w hSw; (try dsimp only at hSw); go_simp <;> (try with_reducible rfl)
    (try simp only [List.getElem_toArray, List.getElem_cons_succ, List.getElem_cons_zero, Act.put, List.setIfInBounds_toArray, List.set_cons_zero, List.set_cons_succ])
    refine wpAnyH_ready (rs := [11]) (by kernel_rfl) (by simp) ?_
    refine AllReadyH.cons rfl (fun K hK => ?_) AllReadyH.nil
    rw [if_pos (by rfl)]
    refine wp_put 30 (.tmp 24) (.tmp 23) rfl g8 0 rfl (.agg (H XM).toArray) rfl B8 (H XM) rfl (by exact (show (Tryd.prog.info? 30).map (·.size) = some (H XM).length by rw [H_length]; exact Tryd.szH)) (by simp only [List.length_append, H_length]; omega) (H_one _) ?_
    intro w8 hu8 C8
    rw [splice_fst] at C8
    have B3 := B3.upd hu8 ne3_8
    have B6 := B6.upd hu8 ne6_8
    have hbe := hbe.trans (hu8.below (B := w.heap.size) hl8)
    clear B8 hu8
    have B8 := C8
    clear C8
    refine hK.out _ _ (blk_range B3) (fun hHeld => ?_)
    clear hK K
    refine wpAnyH_done (by kernel_rfl) ?_ _
    clear hHeld zz3_1
    go_wp2
    have hdd := below_drew w8
    have B3 := B3.next hdd B3.lt
    have B6 := B6.next hdd B6.lt
    have B8 := B8.next hdd B8.lt
    have hbe := below_join hbe hdd
    have zz3_1 : (Tryd.prog.info? 33).map (·.size) = some [Value.string s, .int .i64 (a : Int), .int .i64 (n : Int)].length := (by first | exact Tryd.szF | (simp only [H_length, Pat.cells_length, List.length_append]; exact Tryd.szF))
    refine wp_region_held_drew (S := fun w' => w'.rangeAt g3 0 [Value.string s, .int .i64 (a : Int), .int .i64 (n : Int)]) (by kernel_rfl) (blk_range B3) (fun hHeld => ?_)
    clear hdd
    generalize w8.drew = w9 at B3 B6 B8 hbe hHeld  ⊢
    refine' wpAnyH_take (i := 0) (v := _) rfl (by kernel_rfl) (by kernel_rfl) (by kernel_rfl) (fun _ _ _ h => h) (yieldsIf_load_mid (by rfl) _ _ (by rfl) _ _ (by rfl) _ _ ?Sqah0 ?uqah0 ?dqah0 ?iqah0) (by assumption) ?rqah0
    case Sqah0 => exact (by intro w h; exact h)
    case uqah0 => exact Tryd.underlying33
    case dqah0 => rfl
    case iqah0 => exact zz3_1
    (try simp only [List.getElem_toArray, List.getElem_cons_zero, Act.put, List.setIfInBounds_toArray, List.set_cons_zero, List.set_cons_succ])
    refine wpAnyH_take (i := 1) (v := ?vqah1) rfl (by kernel_rfl) (by kernel_rfl) (by kernel_rfl) (fun _ _ _ h => h) (Or.inl ⟨by rfl, ?yqah1⟩) (by assumption) ?rqah1
    case yqah1 => intro w hSw; (try dsimp only at hSw); go_simp <;> (try with_reducible rfl)
    (try simp only [List.getElem_toArray, List.getElem_cons_succ, List.getElem_cons_zero, Act.put, List.setIfInBounds_toArray, List.set_cons_zero, List.set_cons_succ])
    refine wpAnyH_take (i := 3) (v := ?vqah3) rfl (by kernel_rfl) (by kernel_rfl) (by kernel_rfl) (fun _ _ _ h => h) (Or.inl ⟨by rfl, ?yqah3⟩) (by assumption) ?rqah3
    case yqah3 => intro w hSw; (try dsimp only at hSw); go_simp <;> (try with_reducible rfl)
    (try simp only [List.getElem_toArray, List.getElem_cons_succ, List.getElem_cons_zero, Act.put, List.setIfInBounds_toArray, List.set_cons_zero, List.set_cons_succ])
    refine wpAnyH_take (i := 4) (v := ?vqah4) rfl (by kernel_rfl) (by kernel_rfl) (by kernel_rfl) (fun _ _ _ h => h) (Or.inl ⟨by rfl, ?yqah4⟩) (by assumption) ?rqah4
    case yqah4 => intro w hSw; (try dsimp only at hSw); go_simp <;> (try with_reducible rfl)
    (try simp only [List.getElem_toArray, List.getElem_cons_succ, List.getElem_cons_zero, Act.put, List.setIfInBounds_toArray, List.set_cons_zero, List.set_cons_succ])
    refine wpAnyH_take (i := 5) (v := ?vqah5) rfl (by kernel_rfl) (by kernel_rfl) (by kernel_rfl) (fun _ _ _ h => h) (Or.inl ⟨by rfl, ?yqah5⟩) (by assumption) ?rqah5
    case yqah5 => intro w hSw; (try dsimp only at hSw); go_simp <;> (try with_reducible rfl)
    (try simp only [List.getElem_toArray, List.getElem_cons_succ, List.getElem_cons_zero, Act.put, List.setIfInBounds_toArray, List.set_cons_zero, List.set_cons_succ])
    refine wpAnyH_take (i := 6) (v := ?vqah6) rfl (by kernel_rfl) (by kernel_rfl) (by kernel_rfl) (fun _ _ _ h => h) (Or.inl ⟨by rfl, ?yqah6⟩) (by assumption) ?rqah6
    case yqah6 => intro w hSw; (try dsimp only at hSw); go_simp <;> (try with_reducible rfl)
    (try simp only [List.getElem_toArray, List.getElem_cons_succ, List.getElem_cons_zero, Act.put, List.setIfInBounds_toArray, List.set_cons_zero, List.set_cons_succ])
    refine wpAnyH_take (i := 7) (v := ?vqah7) rfl (by kernel_rfl) (by kernel_rfl) (by kernel_rfl) (fun _ _ _ h => h) (Or.inl ⟨by rfl, ?yqah7⟩) (by assumption) ?rqah7
    case yqah7 => intro w hSw; (try dsimp only at hSw); go_simp <;> (try with_reducible rfl)
    (try simp only [List.getElem_toArray, List.getElem_cons_succ, List.getElem_cons_zero, Act.put, List.setIfInBounds_toArray, List.set_cons_zero, List.set_cons_succ])
    refine wpAnyH_ready (rs := [2]) (by kernel_rfl) (by simp) ?_
    refine AllReadyH.cons rfl (fun K hK => ?_) AllReadyH.nil
    rw [if_pos (by rfl)]
    refine' wp_load_mid _ _ rfl g8 10 rfl (H no) _ ?cqai ?uqai ?dqai ?iqai ?rqai
    case cqai => exact (at_snd B8)
    case uqai => exact Tryd.underlying30
    case dqai => rfl
    case iqai => exact (by first | exact Tryd.szH | (simp only [H_length, Pat.cells_length, List.length_append]; exact Tryd.szH))
    (try simp only [List.getElem_toArray, List.getElem_cons_succ, List.getElem_cons_zero, Act.put, List.setIfInBounds_toArray, List.set_cons_zero, List.set_cons_succ])
    refine hK.out _ _ (blk_range B3) (fun hHeld => ?_)
    clear hK K
    refine wpAnyH_ready (rs := [8]) (by kernel_rfl) (by simp) ?_
    refine AllReadyH.cons rfl (fun K hK => ?_) AllReadyH.nil
    go_simp
    go_wp2_with fail
    (with_reducible refine (HS2.out _).mono ?_)
    rintro e w10 ⟨rfl, hb10⟩
    have B3 := B3.next hb10 B3.lt
    have B6 := B6.next hb10 B6.lt
    have B8 := B8.next hb10 B8.lt
    have hbe := below_join hbe hb10
    refine hK.out _ _ (blk_range B3) (fun hHeld => ?_)
    clear hK K hb10
    refine wpAnyH_take (i := 9) (v := ?vqah9) rfl (by kernel_rfl) (by kernel_rfl) (by kernel_rfl) (fun _ _ _ h => h) (Or.inl ⟨by rfl, ?yqah9⟩) (by assumption) ?rqah9
    case yqah9 => intro w hSw; (try dsimp only at hSw); go_simp <;> (try with_reducible rfl)
    (try simp only [List.getElem_toArray, List.getElem_cons_succ, List.getElem_cons_zero, Act.put, List.setIfInBounds_toArray, List.set_cons_zero, List.set_cons_succ])
    refine wpAnyH_ready (rs := [10]) (by kernel_rfl) (by simp) ?_
    refine AllReadyH.cons rfl (fun K hK => ?_) AllReadyH.nil
    rw [if_pos (by rfl)]
    refine wp_put 30 (.tmp 34) (.tmp 33) rfl g8 10 rfl (.agg (H XB).toArray) rfl B8 (H XB) rfl (by exact (show (Tryd.prog.info? 30).map (·.size) = some (H XB).length by rw [H_length]; exact Tryd.szH)) (by simp only [List.length_append, H_length]; omega) (H_one _) ?_
    intro w11 hu11 C8
    rw [splice_snd] at C8
    have B3 := B3.upd hu11 ne3_8
    have B6 := B6.upd hu11 ne6_8
    have hbe := hbe.trans (hu11.below (B := w.heap.size) hl8)
    clear B8 hu11
    have B8 := C8
    clear C8
    refine hK.out _ _ (blk_range B3) (fun hHeld => ?_)
    clear hK K
    refine wpAnyH_done (by kernel_rfl) ?_ _
    clear hHeld zz3_1
    go_wp2_with (first | (with_reducible refine wpList_getg (o := ⟨some 35, .load 48 (.tmp 8), _, _, _, _⟩) (by with_unfolding_all rfl) 48 (.tmp 8) (by with_unfolding_all rfl) g8 0 (by with_unfolding_all rfl) B8 (H XM ++ H XB) (cs_all _) _ (by exact Tryd.underlying48) (by with_unfolding_all rfl) (by simp only [List.length_append, H_length]; exact Tryd.szP) ?_) | (with_reducible refine wpList_put (o := ⟨none, .store 48 (.tmp 6) (.tmp 35), _, _, _, _⟩) (by with_unfolding_all rfl) 48 (.tmp 6) (.tmp 35) (by with_unfolding_all rfl) g6 0 (by with_unfolding_all rfl) (.agg (H XM ++ H XB).toArray) (by with_unfolding_all rfl) B6 (H XM ++ H XB) (by with_unfolding_all rfl) (by with_unfolding_all (first | exact Tryd.szP | (simp only [H_length, Pat.cells_length, List.length_append]; exact Tryd.szP))) (by with_unfolding_all (first | decide | (simp only [H_length, Pat.cells_length, List.length_append]; omega))) (by with_unfolding_all (exact cells_one ⟨XM, XB⟩)) ?_))
    intro w12 hu12 C6
    rw [splice_all _ _ (by simp only [Pat.cells_length, List.length_append, H_length])] at C6
    have B3 := B3.upd hu12 ne3_6
    have B8 := B8.upd hu12 ne8_6
    have hbe := hbe.trans (hu12.below (B := w.heap.size) hl6)
    clear B6 hu12
    have B6 := C6
    clear C6
    go_wp2
    exact bodyPost_ret (results_cell_row rfl _ _ g6 _ _ _ _ rfl B6 Tryd.underlying48 rfl (by simp only [List.size_toArray, H_length, Pat.cells_length, List.length_append]; exact Tryd.szP)) rfl ⟨rfl, hbe⟩
  · skip
    go_simp
    go_wp2_with fail
    (with_reducible refine (HM.out _).mono ?_)
    rintro e w6 ⟨rfl, hb6⟩
    have B3 := B3.next hb6 B3.lt
    have B6 := B6.next hb6 B6.lt
    have B8 := B8.next hb6 B8.lt
    have hbe := below_join hbe hb6
    refine hK.out _ _ (blk_range B3) (fun hHeld => ?_)
    clear hK K hb6
    refine wpAnyH_take (i := 6) (v := ?vqaj6) rfl (by kernel_rfl) (by kernel_rfl) (by kernel_rfl) (fun _ _ _ h => h) (Or.inl ⟨by rfl, ?yqaj6⟩) (by assumption) ?rqaj6
    case yqaj6 => intro w hSw; (try dsimp only at hSw); go_simp <;> (try with_reducible rfl)
    (try simp only [List.getElem_toArray, List.getElem_cons_succ, List.getElem_cons_zero, Act.put, List.setIfInBounds_toArray, List.set_cons_zero, List.set_cons_succ])
    refine wpAnyH_take (i := 8) (v := ?vqaj8) rfl (by kernel_rfl) (by kernel_rfl) (by kernel_rfl) (fun _ _ _ h => h) (Or.inl ⟨by rfl, ?yqaj8⟩) (by assumption) ?rqaj8
    case yqaj8 => intro w hSw; (try dsimp only at hSw); go_simp <;> (try with_reducible rfl)
    (try simp only [List.getElem_toArray, List.getElem_cons_succ, List.getElem_cons_zero, Act.put, List.setIfInBounds_toArray, List.set_cons_zero, List.set_cons_succ])
    refine wpAnyH_ready (rs := [2]) (by kernel_rfl) (by simp) ?_
    refine AllReadyH.cons rfl (fun K hK => ?_) AllReadyH.nil
    rw [if_pos (by rfl)]
    refine' wp_load_mid _ _ rfl g8 0 rfl (H no) _ ?cqak ?uqak ?dqak ?iqak ?rqak
    case cqak => exact (at_fst B8)
    case uqak => exact Tryd.underlying30
    case dqak => rfl
    case iqak => exact (by first | exact Tryd.szH | (simp only [H_length, Pat.cells_length, List.length_append]; exact Tryd.szH))
    (try simp only [List.getElem_toArray, List.getElem_cons_succ, List.getElem_cons_zero, Act.put, List.setIfInBounds_toArray, List.set_cons_zero, List.set_cons_succ])
    refine hK.out _ _ (blk_range B3) (fun hHeld => ?_)
    clear hK K
    refine wpAnyH_ready (rs := [9]) (by kernel_rfl) (by simp) ?_
    refine AllReadyH.cons rfl (fun K hK => ?_) AllReadyH.nil
    go_simp
    go_wp2_with fail
    (with_reducible refine (HS1.out _).mono ?_)
    rintro e w7 ⟨rfl, hb7⟩
    have B3 := B3.next hb7 B3.lt
    have B6 := B6.next hb7 B6.lt
    have B8 := B8.next hb7 B8.lt
    have hbe := below_join hbe hb7
    refine hK.out _ _ (blk_range B3) (fun hHeld => ?_)
    clear hK K hb7
    refine wpAnyH_take (i := 10) (v := ?vqaj10) rfl (by kernel_rfl) (by kernel_rfl) (by kernel_rfl) (fun _ _ _ h => h) (Or.inl ⟨by rfl, ?yqaj10⟩) (by assumption) ?rqaj10
    case yqaj10 => intro w hSw; (try dsimp only at hSw); go_simp <;> (try with_reducible rfl)
    (try simp only [List.getElem_toArray, List.getElem_cons_succ, List.getElem_cons_zero, Act.put, List.setIfInBounds_toArray, List.set_cons_zero, List.set_cons_succ])
    refine wpAnyH_ready (rs := [11]) (by kernel_rfl) (by simp) ?_
    refine AllReadyH.cons rfl (fun K hK => ?_) AllReadyH.nil
    rw [if_pos (by rfl)]
    refine wp_put 30 (.tmp 24) (.tmp 23) rfl g8 0 rfl (.agg (H XM).toArray) rfl B8 (H XM) rfl (by exact (show (Tryd.prog.info? 30).map (·.size) = some (H XM).length by rw [H_length]; exact Tryd.szH)) (by simp only [List.length_append, H_length]; omega) (H_one _) ?_
    intro w8 hu8 C8
    rw [splice_fst] at C8
    have B3 := B3.upd hu8 ne3_8
    have B6 := B6.upd hu8 ne6_8
    have hbe := hbe.trans (hu8.below (B := w.heap.size) hl8)
    clear B8 hu8
    have B8 := C8
    clear C8
    refine hK.out _ _ (blk_range B3) (fun hHeld => ?_)
    clear hK K
    refine wpAnyH_done (by kernel_rfl) ?_ _
    clear hHeld zz3_1
    go_wp2
    have hdd := below_drew w8
    have B3 := B3.next hdd B3.lt
    have B6 := B6.next hdd B6.lt
    have B8 := B8.next hdd B8.lt
    have hbe := below_join hbe hdd
    have zz3_1 : (Tryd.prog.info? 33).map (·.size) = some [Value.string s, .int .i64 (a : Int), .int .i64 (n : Int)].length := (by first | exact Tryd.szF | (simp only [H_length, Pat.cells_length, List.length_append]; exact Tryd.szF))
    refine wp_region_held_drew (S := fun w' => w'.rangeAt g3 0 [Value.string s, .int .i64 (a : Int), .int .i64 (n : Int)]) (by kernel_rfl) (blk_range B3) (fun hHeld => ?_)
    clear hdd
    generalize w8.drew = w9 at B3 B6 B8 hbe hHeld  ⊢
    refine' wpAnyH_take (i := 0) (v := _) rfl (by kernel_rfl) (by kernel_rfl) (by kernel_rfl) (fun _ _ _ h => h) (yieldsIf_load_mid (by rfl) _ _ (by rfl) _ _ (by rfl) _ _ ?Sqal0 ?uqal0 ?dqal0 ?iqal0) (by assumption) ?rqal0
    case Sqal0 => exact (by intro w h; exact h)
    case uqal0 => exact Tryd.underlying33
    case dqal0 => rfl
    case iqal0 => exact zz3_1
    (try simp only [List.getElem_toArray, List.getElem_cons_zero, Act.put, List.setIfInBounds_toArray, List.set_cons_zero, List.set_cons_succ])
    refine wpAnyH_take (i := 1) (v := ?vqal1) rfl (by kernel_rfl) (by kernel_rfl) (by kernel_rfl) (fun _ _ _ h => h) (Or.inl ⟨by rfl, ?yqal1⟩) (by assumption) ?rqal1
    case yqal1 => intro w hSw; (try dsimp only at hSw); go_simp <;> (try with_reducible rfl)
    (try simp only [List.getElem_toArray, List.getElem_cons_succ, List.getElem_cons_zero, Act.put, List.setIfInBounds_toArray, List.set_cons_zero, List.set_cons_succ])
    refine wpAnyH_take (i := 3) (v := ?vqal3) rfl (by kernel_rfl) (by kernel_rfl) (by kernel_rfl) (fun _ _ _ h => h) (Or.inl ⟨by rfl, ?yqal3⟩) (by assumption) ?rqal3
    case yqal3 => intro w hSw; (try dsimp only at hSw); go_simp <;> (try with_reducible rfl)
    (try simp only [List.getElem_toArray, List.getElem_cons_succ, List.getElem_cons_zero, Act.put, List.setIfInBounds_toArray, List.set_cons_zero, List.set_cons_succ])
    refine wpAnyH_take (i := 4) (v := ?vqal4) rfl (by kernel_rfl) (by kernel_rfl) (by kernel_rfl) (fun _ _ _ h => h) (Or.inl ⟨by rfl, ?yqal4⟩) (by assumption) ?rqal4
    case yqal4 => intro w hSw; (try dsimp only at hSw); go_simp <;> (try with_reducible rfl)
    (try simp only [List.getElem_toArray, List.getElem_cons_succ, List.getElem_cons_zero, Act.put, List.setIfInBounds_toArray, List.set_cons_zero, List.set_cons_succ])
    refine wpAnyH_take (i := 5) (v := ?vqal5) rfl (by kernel_rfl) (by kernel_rfl) (by kernel_rfl) (fun _ _ _ h => h) (Or.inl ⟨by rfl, ?yqal5⟩) (by assumption) ?rqal5
    case yqal5 => intro w hSw; (try dsimp only at hSw); go_simp <;> (try with_reducible rfl)
    (try simp only [List.getElem_toArray, List.getElem_cons_succ, List.getElem_cons_zero, Act.put, List.setIfInBounds_toArray, List.set_cons_zero, List.set_cons_succ])
    refine wpAnyH_take (i := 6) (v := ?vqal6) rfl (by kernel_rfl) (by kernel_rfl) (by kernel_rfl) (fun _ _ _ h => h) (Or.inl ⟨by rfl, ?yqal6⟩) (by assumption) ?rqal6
    case yqal6 => intro w hSw; (try dsimp only at hSw); go_simp <;> (try with_reducible rfl)
    (try simp only [List.getElem_toArray, List.getElem_cons_succ, List.getElem_cons_zero, Act.put, List.setIfInBounds_toArray, List.set_cons_zero, List.set_cons_succ])
    refine wpAnyH_take (i := 7) (v := ?vqal7) rfl (by kernel_rfl) (by kernel_rfl) (by kernel_rfl) (fun _ _ _ h => h) (Or.inl ⟨by rfl, ?yqal7⟩) (by assumption) ?rqal7
    case yqal7 => intro w hSw; (try dsimp only at hSw); go_simp <;> (try with_reducible rfl)
    (try simp only [List.getElem_toArray, List.getElem_cons_succ, List.getElem_cons_zero, Act.put, List.setIfInBounds_toArray, List.set_cons_zero, List.set_cons_succ])
    refine wpAnyH_ready (rs := [2]) (by kernel_rfl) (by simp) ?_
    refine AllReadyH.cons rfl (fun K hK => ?_) AllReadyH.nil
    rw [if_pos (by rfl)]
    refine' wp_load_mid _ _ rfl g8 10 rfl (H no) _ ?cqam ?uqam ?dqam ?iqam ?rqam
    case cqam => exact (at_snd B8)
    case uqam => exact Tryd.underlying30
    case dqam => rfl
    case iqam => exact (by first | exact Tryd.szH | (simp only [H_length, Pat.cells_length, List.length_append]; exact Tryd.szH))
    (try simp only [List.getElem_toArray, List.getElem_cons_succ, List.getElem_cons_zero, Act.put, List.setIfInBounds_toArray, List.set_cons_zero, List.set_cons_succ])
    refine hK.out _ _ (blk_range B3) (fun hHeld => ?_)
    clear hK K
    refine wpAnyH_ready (rs := [8]) (by kernel_rfl) (by simp) ?_
    refine AllReadyH.cons rfl (fun K hK => ?_) AllReadyH.nil
    go_simp
    go_wp2_with fail
    (with_reducible refine (HS2.out _).mono ?_)
    rintro e w10 ⟨rfl, hb10⟩
    have B3 := B3.next hb10 B3.lt
    have B6 := B6.next hb10 B6.lt
    have B8 := B8.next hb10 B8.lt
    have hbe := below_join hbe hb10
    refine hK.out _ _ (blk_range B3) (fun hHeld => ?_)
    clear hK K hb10
    refine wpAnyH_take (i := 9) (v := ?vqal9) rfl (by kernel_rfl) (by kernel_rfl) (by kernel_rfl) (fun _ _ _ h => h) (Or.inl ⟨by rfl, ?yqal9⟩) (by assumption) ?rqal9
    case yqal9 => intro w hSw; (try dsimp only at hSw); go_simp <;> (try with_reducible rfl)
    (try simp only [List.getElem_toArray, List.getElem_cons_succ, List.getElem_cons_zero, Act.put, List.setIfInBounds_toArray, List.set_cons_zero, List.set_cons_succ])
    refine wpAnyH_ready (rs := [10]) (by kernel_rfl) (by simp) ?_
    refine AllReadyH.cons rfl (fun K hK => ?_) AllReadyH.nil
    rw [if_pos (by rfl)]
    refine wp_put 30 (.tmp 34) (.tmp 33) rfl g8 10 rfl (.agg (H XB).toArray) rfl B8 (H XB) rfl (by exact (show (Tryd.prog.info? 30).map (·.size) = some (H XB).length by rw [H_length]; exact Tryd.szH)) (by simp only [List.length_append, H_length]; omega) (H_one _) ?_
    intro w11 hu11 C8
    rw [splice_snd] at C8
    have B3 := B3.upd hu11 ne3_8
    have B6 := B6.upd hu11 ne6_8
    have hbe := hbe.trans (hu11.below (B := w.heap.size) hl8)
    clear B8 hu11
    have B8 := C8
    clear C8
    refine hK.out _ _ (blk_range B3) (fun hHeld => ?_)
    clear hK K
    refine wpAnyH_done (by kernel_rfl) ?_ _
    clear hHeld zz3_1
    go_wp2_with (first | (with_reducible refine wpList_getg (o := ⟨some 35, .load 48 (.tmp 8), _, _, _, _⟩) (by with_unfolding_all rfl) 48 (.tmp 8) (by with_unfolding_all rfl) g8 0 (by with_unfolding_all rfl) B8 (H XM ++ H XB) (cs_all _) _ (by exact Tryd.underlying48) (by with_unfolding_all rfl) (by simp only [List.length_append, H_length]; exact Tryd.szP) ?_) | (with_reducible refine wpList_put (o := ⟨none, .store 48 (.tmp 6) (.tmp 35), _, _, _, _⟩) (by with_unfolding_all rfl) 48 (.tmp 6) (.tmp 35) (by with_unfolding_all rfl) g6 0 (by with_unfolding_all rfl) (.agg (H XM ++ H XB).toArray) (by with_unfolding_all rfl) B6 (H XM ++ H XB) (by with_unfolding_all rfl) (by with_unfolding_all (first | exact Tryd.szP | (simp only [H_length, Pat.cells_length, List.length_append]; exact Tryd.szP))) (by with_unfolding_all (first | decide | (simp only [H_length, Pat.cells_length, List.length_append]; omega))) (by with_unfolding_all (exact cells_one ⟨XM, XB⟩)) ?_))
    intro w12 hu12 C6
    rw [splice_all _ _ (by simp only [Pat.cells_length, List.length_append, H_length])] at C6
    have B3 := B3.upd hu12 ne3_6
    have B8 := B8.upd hu12 ne8_6
    have hbe := hbe.trans (hu12.below (B := w.heap.size) hl6)
    clear B6 hu12
    have B6 := C6
    clear C6
    go_wp2
    exact bodyPost_ret (results_cell_row rfl _ _ g6 _ _ _ _ rfl B6 Tryd.underlying48 rfl (by simp only [List.size_toArray, H_length, Pat.cells_length, List.length_append]; exact Tryd.szP)) rfl ⟨rfl, hbe⟩
set_option maxRecDepth 100000 in
set_option maxHeartbeats 3200000 in
theorem requal_any (s : ByteArray) (a n x : Nat) (w : World) (h : Lies a n) (hx : x < 2 ^ n) :
    Calls Tryd.prog 32 #[.agg #[.string s, .int .i64 (a : Int), .int .i64 (n : Int)], .int .i64 (x : Int)] w fun e w' => e = .returned (.agg (Pat.pre a n x n).cells.toArray) ∧ Below w.heap.size w w' := by
  have HP := Lib.hid (fun w => rprefix2_any s a n x n w h hx (Nat.le_refl n))
  obtain ⟨X, hX⟩ : ∃ X, Hid (Pat.pre a n x n = X) := ⟨_, rfl⟩
  rw [hX.out] at HP ⊢
  clear hX hx h
  go_enter Tryd.func32, Tryd.ntmps32
  go_wp2_with (with_reducible refine wpList_box (o := ⟨some 2, .box 33 (.tmp 0), _, _, _, _⟩) ?g2 33 (.tmp 0) ?o2 (.agg #[.string s, .int .i64 (a : Int), .int .i64 (n : Int)]) [Value.string s, .int .i64 (a : Int), .int .i64 (n : Int)] ?x2 ?c2 ?_)
  try (case g2 => rfl)
  try (case o2 => rfl)
  try (case x2 => rfl)
  try (case c2 => rfl)
  intro g2 w1 hg2 hs1 hb1 B2
  have hl2 : w.heap.size ≤ g2 := Nat.le_of_eq hg2.out.symm
  have hb1 := hb1.mono (Nat.le_of_eq hg2.out.symm)
  have hbe : Below w.heap.size w w1 := hb1
  clear hb1 hg2 hs1
  go_wp2_with (with_reducible refine wpList_alloc (o := ⟨some 4, .alloc 48, _, _, _, _⟩) (by with_unfolding_all rfl) 48 (by with_unfolding_all rfl) (.agg (H no ++ H no).toArray) (H no ++ H no) (by exact Tryd.zeroPt) (by with_unfolding_all rfl) ?_)
  intro g4 w2 hg4 hs2 hb2 B4
  have hl4 : w.heap.size ≤ g4 := Nat.le_trans hbe.size (Nat.le_of_eq hg4.out.symm)
  have ne2_4 : g2 ≠ g4 := by have := B2.lt; have := hg4.out; omega
  have ne4_2 := ne2_4.symm
  have hb2 := hb2.mono (Nat.le_of_eq hg4.out.symm)
  have B2 := B2.next hb2 B2.lt
  have hbe := below_join hbe hb2
  clear hb2 hg4 hs2
  have z2_0 := B2.cell (k := 0) rfl
  have z2_1 := B2.cell (k := 1) rfl
  have z2_2 := B2.cell (k := 2) rfl
  go_wp2_with fail
  (with_reducible refine (HP.out _).mono ?_)
  rintro e w3 ⟨rfl, hb3⟩
  clear z2_0 z2_1 z2_2
  have B2 := B2.next hb3 B2.lt
  have B4 := B4.next hb3 B4.lt
  have hbe := below_join hbe hb3
  clear hb3
  go_wp2_with (with_reducible refine wpList_put (o := ⟨none, .store 48 (.tmp 4) (.tmp 9), _, _, _, _⟩) (by with_unfolding_all rfl) 48 (.tmp 4) (.tmp 9) (by with_unfolding_all rfl) g4 0 (by with_unfolding_all rfl) (.agg X.cells.toArray) (by with_unfolding_all rfl) B4 X.cells (by with_unfolding_all rfl) (by with_unfolding_all (first | exact Tryd.szP | (simp only [H_length, Pat.cells_length, List.length_append]; exact Tryd.szP))) (by with_unfolding_all (first | decide | (simp only [H_length, Pat.cells_length, List.length_append]; omega))) (by with_unfolding_all (exact cells_one _)) ?_)
  intro w4 hu4 C4
  rw [splice_all _ _ (by simp only [Pat.cells_length, List.length_append, H_length])] at C4
  have B2 := B2.upd hu4 ne2_4
  have hbe := hbe.trans (hu4.below (B := w.heap.size) hl4)
  clear B4 hu4
  have B4 := C4
  clear C4
  go_wp2
  exact bodyPost_ret (results_cell_row rfl _ _ g4 _ _ _ _ rfl B4 Tryd.underlying48 rfl (by simp only [List.size_toArray, H_length, Pat.cells_length, List.length_append]; exact Tryd.szP)) rfl ⟨rfl, hbe⟩
theorem run_buildMd (w : World) (X : Pat) : (Instr.build 53 #[(0, .agg (H X.m).toArray), (1, .agg (H X.b).toArray)]).run Tryd.prog w = .ok (.agg X.cells.toArray) w := by
  unfold Pat.cells
  obtain ⟨a0, a1, a2, a3, a4, a5, a6, a7, a8, a9, e⟩ := list10 (H_length X.m)
  obtain ⟨b0, b1, b2, b3, b4, b5, b6, b7, b8, b9, e'⟩ := list10 (H_length X.b)
  rw [e, e']
  kernel_rfl
set_option maxRecDepth 100000 in
set_option maxHeartbeats 3200000 in
theorem rmod_any (s : ByteArray) (a n x : Nat) (w : World) (h : Lies a n) (hx : x < 2 ^ n) :
    Calls Tryd.prog 36 #[.agg #[.string s, .int .i64 (a : Int), .int .i64 (n : Int)], .int .i64 (x : Int)] w fun e w' => e = .returned (.agg (Pat.pre a n x n).cells.toArray) ∧ Below w.heap.size w w' := by
  have HP := Lib.hid (fun w => requal_any s a n x w h hx)
  obtain ⟨X, hX⟩ : ∃ X, Hid (Pat.pre a n x n = X) := ⟨_, rfl⟩
  rw [hX.out] at HP ⊢
  clear hX hx h
  go_enter Tryd.func36, Tryd.ntmps36
  go_wp2_with (with_reducible refine wpList_box (o := ⟨some 2, .box 33 (.tmp 0), _, _, _, _⟩) ?g2 33 (.tmp 0) ?o2 (.agg #[.string s, .int .i64 (a : Int), .int .i64 (n : Int)]) [Value.string s, .int .i64 (a : Int), .int .i64 (n : Int)] ?x2 ?c2 ?_)
  try (case g2 => rfl)
  try (case o2 => rfl)
  try (case x2 => rfl)
  try (case c2 => rfl)
  intro g2 w1 hg2 hs1 hb1 B2
  have hl2 : w.heap.size ≤ g2 := Nat.le_of_eq hg2.out.symm
  have hb1 := hb1.mono (Nat.le_of_eq hg2.out.symm)
  have hbe : Below w.heap.size w w1 := hb1
  clear hb1 hg2 hs1
  go_wp2_with (with_reducible refine wpList_alloc (o := ⟨some 4, .alloc 53, _, _, _, _⟩) (by with_unfolding_all rfl) 53 (by with_unfolding_all rfl) (.agg (H no ++ H no).toArray) (H no ++ H no) (by exact Tryd.zeroMd) (by with_unfolding_all rfl) ?_)
  intro g4 w2 hg4 hs2 hb2 B4
  have hl4 : w.heap.size ≤ g4 := Nat.le_trans hbe.size (Nat.le_of_eq hg4.out.symm)
  have ne2_4 : g2 ≠ g4 := by have := B2.lt; have := hg4.out; omega
  have ne4_2 := ne2_4.symm
  have hb2 := hb2.mono (Nat.le_of_eq hg4.out.symm)
  have B2 := B2.next hb2 B2.lt
  have hbe := below_join hbe hb2
  clear hb2 hg4 hs2
  have z2_0 := B2.cell (k := 0) rfl
  have z2_1 := B2.cell (k := 1) rfl
  have z2_2 := B2.cell (k := 2) rfl
  go_wp2_with fail
  (with_reducible refine (HP.out _).mono ?_)
  rintro e w3 ⟨rfl, hb3⟩
  clear z2_0 z2_1 z2_2
  have B2 := B2.next hb3 B2.lt
  have B4 := B4.next hb3 B4.lt
  have hbe := below_join hbe hb3
  clear hb3
  go_wp2_with (with_reducible refine wpList_alloc (o := ⟨some 5, .alloc 48, _, _, _, _⟩) (by with_unfolding_all rfl) 48 (by with_unfolding_all rfl) (.agg (H no ++ H no).toArray) (H no ++ H no) (by exact Tryd.zeroPt) (by with_unfolding_all rfl) ?_)
  intro g5 w4 hg5 hs4 hb4 B5
  have hl5 : w.heap.size ≤ g5 := Nat.le_trans hbe.size (Nat.le_of_eq hg5.out.symm)
  have ne2_5 : g2 ≠ g5 := by have := B2.lt; have := hg5.out; omega
  have ne5_2 := ne2_5.symm
  have ne4_5 : g4 ≠ g5 := by have := B4.lt; have := hg5.out; omega
  have ne5_4 := ne4_5.symm
  have hb4 := hb4.mono (Nat.le_of_eq hg5.out.symm)
  have B2 := B2.next hb4 B2.lt
  have B4 := B4.next hb4 B4.lt
  have hbe := below_join hbe hb4
  clear hb4 hg5 hs4
  go_wp2_with (with_reducible refine wpList_put (o := ⟨none, .store 48 (.tmp 5) (.tmp 8), _, _, _, _⟩) (by with_unfolding_all rfl) 48 (.tmp 5) (.tmp 8) (by with_unfolding_all rfl) g5 0 (by with_unfolding_all rfl) (.agg X.cells.toArray) (by with_unfolding_all rfl) B5 X.cells (by with_unfolding_all rfl) (by with_unfolding_all (first | exact Tryd.szP | (simp only [H_length, Pat.cells_length, List.length_append]; exact Tryd.szP))) (by with_unfolding_all (first | decide | (simp only [H_length, Pat.cells_length, List.length_append]; omega))) (by with_unfolding_all (exact cells_one _)) ?_)
  intro w5 hu5 C5
  rw [splice_all _ _ (by simp only [Pat.cells_length, List.length_append, H_length])] at C5
  have B2 := B2.upd hu5 ne2_5
  have B4 := B4.upd hu5 ne4_5
  have hbe := hbe.trans (hu5.below (B := w.heap.size) hl5)
  clear B5 hu5
  have B5 := C5
  clear C5
  go_wp2_with (first | (with_reducible refine wpList_getg (o := ⟨some 10, .load 30 (.tmp 9), _, _, _, _⟩) (by with_unfolding_all rfl) 30 (.tmp 9) (by with_unfolding_all rfl) g5 0 (by with_unfolding_all rfl) B5 (H X.m) (cells_take_m X) _ (by exact Tryd.underlying30) (by with_unfolding_all rfl) (by rw [H_length]; exact Tryd.szH) ?_) | (with_reducible refine wpList_getg (o := ⟨some 12, .load 30 (.tmp 11), _, _, _, _⟩) (by with_unfolding_all rfl) 30 (.tmp 11) (by with_unfolding_all rfl) g5 10 (by with_unfolding_all rfl) B5 (H X.b) (cells_take_b X) _ (by exact Tryd.underlying30) (by with_unfolding_all rfl) (by rw [H_length]; exact Tryd.szH) ?_) | (with_reducible refine wpList_build (o := ⟨some 13, .build 53 #[(0, .tmp 10), (1, .tmp 12)], _, _, _, _⟩) (by with_unfolding_all rfl) 53 #[(0, .tmp 10), (1, .tmp 12)] (by with_unfolding_all rfl) #[(0, .agg (H X.m).toArray), (1, .agg (H X.b).toArray)] (by with_unfolding_all rfl) (.agg X.cells.toArray) (by with_unfolding_all exact fun w => run_buildMd w X) ?_) | (with_reducible refine wpList_put (o := ⟨none, .store 53 (.tmp 4) (.tmp 13), _, _, _, _⟩) (by with_unfolding_all rfl) 53 (.tmp 4) (.tmp 13) (by with_unfolding_all rfl) g4 0 (by with_unfolding_all rfl) (.agg X.cells.toArray) (by with_unfolding_all rfl) B4 X.cells (by with_unfolding_all rfl) (by with_unfolding_all (first | exact Tryd.szM | (simp only [H_length, Pat.cells_length, List.length_append]; exact Tryd.szM))) (by with_unfolding_all (first | decide | (simp only [H_length, Pat.cells_length, List.length_append]; omega))) (by with_unfolding_all (exact cells_one _)) ?_))
  intro w6 hu6 C4
  rw [splice_all _ _ (by simp only [Pat.cells_length, List.length_append, H_length])] at C4
  have B2 := B2.upd hu6 ne2_4
  have B5 := B5.upd hu6 ne5_4
  have hbe := hbe.trans (hu6.below (B := w.heap.size) hl4)
  clear B4 hu6
  have B4 := C4
  clear C4
  go_wp2
  exact bodyPost_ret (results_cell_row rfl _ _ g4 _ _ _ _ rfl B4 Tryd.underlying53 rfl (by simp only [List.size_toArray, H_length, Pat.cells_length, List.length_append]; exact Tryd.szM)) rfl ⟨rfl, hbe⟩
end Go.Proofs.YtbgndopgllnmaaaDoor

/-
  What the statements' examples give, in plain words. Conditions: none.
-/

namespace Go.Proofs.YtbgndopgllnmaaaDoor
set_option linter.unusedVariables false
set_option linter.unusedSimpArgs false
open Go.RowKit

def hd (n : Nat) : Nat → Bool := bitsOf (word0 n)
end Go.Proofs.YtbgndopgllnmaaaDoor
