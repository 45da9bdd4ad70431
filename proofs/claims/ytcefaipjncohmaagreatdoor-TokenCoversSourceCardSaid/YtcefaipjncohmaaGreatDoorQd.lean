/-
  Contracts of the walks over the small functions on bytes. No condition.
-/
import Derived.Test.YtcefaipjncohmaaGreatDoorQb
namespace Go.Proofs.YtcefaipjncohmaaGreatDoor
set_option linter.unusedVariables false
set_option linter.unusedSimpArgs false
open Go.RowKit

theorem letter_any (b : UInt8) (w : World) : Calls Tryz.prog 42 #[.int .u8 (b.toNat : Int)] w fun e w' => e = .returned (.bool (lo b)) ∧ Below w.heap.size w w' := by
  obtain ⟨n, hn⟩ : ∃ n : Nat, b.toNat = n := ⟨_, rfl⟩
  have hr : lo b = (decide (97 ≤ n) && decide (n ≤ 122)) := by unfold lo; rw [hn]
  rw [hr, hn]
  clear hr hn
  have h1 : decide ((97 : Int) ≤ (n : Int)) = decide (97 ≤ n) := by by_cases h : 97 ≤ n <;> simp [h] <;> omega
  have h2 : decide ((n : Int) ≤ 122) = decide (n ≤ 122) := by by_cases h : n ≤ 122 <;> simp [h] <;> omega
  obtain ⟨p, hp⟩ : ∃ p, decide (97 ≤ n) = p := ⟨_, rfl⟩
  obtain ⟨q, hq⟩ : ∃ q, decide (n ≤ 122) = q := ⟨_, rfl⟩
  rw [hp] at h1 ⊢
  rw [hq] at h2 ⊢
  clear hp hq
  cases p
  all_goals
    go_enter Tryz.func42, Tryz.ntmps42
    go_wp2
    go_ret
    exact ⟨rfl, Below.refl _ _⟩
theorem digit_any (b : UInt8) (w : World) : Calls Tryz.prog 52 #[.int .u8 (b.toNat : Int)] w fun e w' => e = .returned (.bool (dg b)) ∧ Below w.heap.size w w' := by
  obtain ⟨n, hn⟩ : ∃ n : Nat, b.toNat = n := ⟨_, rfl⟩
  have hr : dg b = (decide (48 ≤ n) && decide (n ≤ 57)) := by unfold dg; rw [hn]
  rw [hr, hn]
  clear hr hn
  have h1 : decide ((48 : Int) ≤ (n : Int)) = decide (48 ≤ n) := by by_cases h : 48 ≤ n <;> simp [h] <;> omega
  have h2 : decide ((n : Int) ≤ 57) = decide (n ≤ 57) := by by_cases h : n ≤ 57 <;> simp [h] <;> omega
  obtain ⟨p, hp⟩ : ∃ p, decide (48 ≤ n) = p := ⟨_, rfl⟩
  obtain ⟨q, hq⟩ : ∃ q, decide (n ≤ 57) = q := ⟨_, rfl⟩
  rw [hp] at h1 ⊢
  rw [hq] at h2 ⊢
  clear hp hq
  cases p
  all_goals
    go_enter Tryz.func52, Tryz.ntmps52
    go_wp2
    go_ret
    exact ⟨rfl, Below.refl _ _⟩
theorem wordByte_any (b : UInt8) (w : World) : Calls Tryz.prog 46 #[.int .u8 (b.toNat : Int)] w fun e w' => e = .returned (.bool (wb b)) ∧ Below w.heap.size w w' := by
  have HL := fun w => letter_any b w
  have HD := fun w => digit_any b w
  obtain ⟨p, hp⟩ : ∃ p, lo b = p := ⟨_, rfl⟩
  obtain ⟨q, hq⟩ : ∃ q, dg b = q := ⟨_, rfl⟩
  obtain ⟨n, hn⟩ : ∃ n : Nat, b.toNat = n := ⟨_, rfl⟩
  have hr : wb b = (p || q || decide (n = 95)) := by unfold wb; rw [hp, hq, hn]
  rw [hr, hn]
  rw [hn] at HL HD
  rw [hp] at HL
  rw [hq] at HD
  clear hr hn hp hq
  have h1 : ((n : Int) == 95) = decide (n = 95) := by by_cases h : n = 95 <;> simp [h] <;> omega
  cases p
  · cases q
    · go_enter Tryz.func46, Tryz.ntmps46
      go_wp2_with fail
      (with_reducible refine (HL _).mono ?_)
      rintro e w1 ⟨rfl, hb1⟩
      go_wp2_with fail
      (with_reducible refine (HD _).mono ?_)
      rintro e w2 ⟨rfl, hb2⟩
      go_wp2
      go_ret
      exact ⟨by simp [h1], below_join hb1 hb2⟩
    · go_enter Tryz.func46, Tryz.ntmps46
      go_wp2_with fail
      (with_reducible refine (HL _).mono ?_)
      rintro e w1 ⟨rfl, hb1⟩
      go_wp2_with fail
      (with_reducible refine (HD _).mono ?_)
      rintro e w2 ⟨rfl, hb2⟩
      go_wp2
      go_ret
      exact ⟨rfl, below_join hb1 hb2⟩
  · go_enter Tryz.func46, Tryz.ntmps46
    go_wp2_with fail
    (with_reducible refine (HL _).mono ?_)
    rintro e w1 ⟨rfl, hb1⟩
    go_wp2
    go_ret
    exact ⟨rfl, hb1⟩
end Go.Proofs.YtcefaipjncohmaaGreatDoor
