/-
  Contract of the walk over the reference's Range at arguments that are refused. Conditions: none.
-/
import Derived.Test.YtbldnhpbmfmepaaDoorGW
import Derived.Test.YtbldnhpbmfmepaaDoorGK
namespace Go.Proofs.YtbldnhpbmfmepaaDoor
set_option linter.unusedVariables false
set_option linter.unusedSimpArgs false
open Go.RowKit

set_option maxRecDepth 100000 in
set_option maxHeartbeats 1600000 in
theorem rrange_bad (a wd lo hi : Int) (w : World) (h : ¬ rangeOk a wd lo hi) :
    Calls Tryd.prog 65 #[.int .i64 a, .int .i64 wd, .int .i64 lo, .int .i64 hi] w fun e w' => e = .returned (.tuple #[.slice none 0 0, .int .i64 1]) ∧ w = w' := by
  have HB := Lib.hid h
  clear h
  by_cases c1 : wd < 1
  ·
    go_enter Tryd.func65, Tryd.ntmps65
    go_wp2
    go_ret2
    exact ⟨rfl, rfl⟩
  by_cases c2 : wd > 16
  ·
    go_enter Tryd.func65, Tryd.ntmps65
    go_wp2
    go_ret2
    exact ⟨rfl, rfl⟩
  by_cases c3 : a < 0
  ·
    go_enter Tryd.func65, Tryd.ntmps65
    go_wp2
    go_ret2
    exact ⟨rfl, rfl⟩
  by_cases c4 : a > 159
  ·
    go_enter Tryd.func65, Tryd.ntmps65
    go_wp2
    go_ret2
    exact ⟨rfl, rfl⟩
  obtain ⟨n, rfl⟩ : ∃ n : Nat, wd = (n : Int) := ⟨wd.toNat, by omega⟩
  obtain ⟨b, rfl⟩ : ∃ b : Nat, a = (b : Int) := ⟨a.toNat, by omega⟩
  obtain ⟨q1, hq1⟩ : ∃ q : Nat, Hid (b / 16 = q) := ⟨_, rfl⟩
  obtain ⟨q2, hq2⟩ : ∃ q : Nat, Hid ((b + n - 1) / 16 = q) := ⟨_, rfl⟩
  have hd1 : (b : Int).tdiv 16 = (q1 : Int) := by rw [Int.tdiv_eq_ediv_of_nonneg (by omega), ← hq1.out]; rfl
  have hd2 : ((b : Int) + (n : Int) - 1).tdiv 16 = (q2 : Int) := by rw [Int.tdiv_eq_ediv_of_nonneg (by omega), ← hq2.out]; omega
  have hl1 : q1 ≤ 20 := by have := hq1.out; omega
  have hl2 : q2 ≤ 20 := by have := hq2.out; omega
  have hw1 : IntKind.i64.wrap ((b : Int) + (n : Int)) = (b : Int) + (n : Int) := by simp only [IntKind.wrap_i64]; omega
  have hw2 : IntKind.i64.wrap ((b : Int) + (n : Int) - 1) = (b : Int) + (n : Int) - 1 := by simp only [IntKind.wrap_i64]; omega
  have hw3 : IntKind.i64.wrap (q1 : Int) = (q1 : Int) := by simp only [IntKind.wrap_i64]; omega
  have hw4 : IntKind.i64.wrap (q2 : Int) = (q2 : Int) := by simp only [IntKind.wrap_i64]; omega
  by_cases c5 : (q1 : Int) ≠ (q2 : Int)
  ·
    have c5' : ¬ ((q1 : Int) = (q2 : Int)) := c5
    have c5'' : ((q1 : Int) == (q2 : Int)) = false := beq_eq_false_iff_ne.2 c5
    have c5n : ¬ (q1 = q2) := fun e => c5 (by rw [e])
    go_enter Tryd.func65, Tryd.ntmps65
    go_wp2
    go_ret2
    exact ⟨rfl, rfl⟩
  have c5e : q2 = q1 := by omega
  rw [c5e] at hd2
  by_cases c6 : lo < 0
  ·
    go_enter Tryd.func65, Tryd.ntmps65
    go_wp2
    go_ret2
    exact ⟨rfl, rfl⟩
  by_cases c7 : lo > hi
  ·
    go_enter Tryd.func65, Tryd.ntmps65
    go_wp2
    go_ret2
    exact ⟨rfl, rfl⟩
  obtain ⟨PW, hPW⟩ : ∃ PW : Nat, Hid (2 ^ n = PW) := ⟨_, rfl⟩
  have hpo := fun w => rpower_any n w (by omega)
  rw [hPW.out] at hpo
  have HPO := Lib.hid hpo
  clear hpo
  by_cases c8 : hi ≥ (PW : Int)
  · go_enter Tryd.func65, Tryd.ntmps65
    go_wp2_with fail
    (with_reducible refine (HPO.out _).mono ?_)
    rintro e w1 ⟨rfl, rfl⟩
    go_wp2
    go_ret2
    exact ⟨rfl, rfl⟩
  refine absurd ?_ HB.out
  have := hq1.out
  have := hq2.out
  exact ⟨by omega, by omega, by omega, by omega, by omega, by omega, by omega, by rw [Int.toNat_natCast, hPW.out]; omega⟩
end Go.Proofs.YtbldnhpbmfmepaaDoor
