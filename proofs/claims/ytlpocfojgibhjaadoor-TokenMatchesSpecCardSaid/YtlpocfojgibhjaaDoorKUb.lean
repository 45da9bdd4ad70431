/-
  Contracts of the walks over the reference's sign, odd, value and Name. Conditions: texts that fit into memory.
-/
import Derived.Test.YtlpocfojgibhjaaDoorKUa
namespace Go.Proofs.YtlpocfojgibhjaaDoor
set_option linter.unusedVariables false
set_option linter.unusedSimpArgs false
open Go.RowKit Go.Shelf

def sgB (a b : UInt8) : Nat := if two a b then 2 else if a ∈ oneL then 1 else 0
theorem two_zero (a : UInt8) : two a 0 = false := by simp [two]
theorem sg_one (s : ByteArray) (h : s.size = 1) : signL s.data.toList = sgB (s[0]'(by omega)) 0 := by
  obtain ⟨l, hl⟩ := head_of s (by omega)
  have hz := lenS s
  rw [hl] at hz ⊢
  have : l = [] := List.eq_nil_of_length_eq_zero (by simp at hz; omega)
  subst this
  rw [signL_one]
  unfold sgB
  rw [two_zero]
  rfl
theorem sg_two (s : ByteArray) (h : 1 < s.size) : signL s.data.toList = sgB (s[0]'(by omega)) (s[1]'h) := by
  obtain ⟨l, hl⟩ := head_of s (by omega)
  have hz := lenS s
  rw [hl] at hz
  cases l with
  | nil => simp at hz; omega
  | cons y r =>
    have h1 := byte_at s h
    simp only [hl] at h1
    have h2 : y = s[1]'h := by simpa using h1
    rw [hl, h2]
    exact signL_two _ _ _
set_option maxRecDepth 100000 in
set_option maxHeartbeats 6400000 in
theorem rsign_any (s : ByteArray) (h0 : 0 < s.size) (hs : s.size ≤ 140737488355328) (w : World) : Calls Tryd.prog 74 #[.string s] w fun e w' => e = .returned (.int .i64 (signL s.data.toList : Nat)) ∧ Below w.heap.size w w' := by
  have h0i : (0 : Int) < (s.size : Int) := by omega
  by_cases h1 : s.size = 1
  · have hg := sg_one s h1
    obtain ⟨a, ha⟩ : ∃ a, s[0]'h0 = a := ⟨_, rfl⟩
    rw [ha] at hg
    rw [hg]
    obtain ⟨b, hab⟩ : ∃ b : UInt8, b = 0 := ⟨_, rfl⟩
    rw [← hab]
    have h1i : ¬ (1 : Int) < (s.size : Int) := by omega
    obtain ⟨n, hn⟩ : ∃ n, a.toNat = n := ⟨_, rfl⟩
    clear hg h1
    by_cases h58 : n = 58
    · subst h58
      rw [show sgB a b = 1 by rw [hab]; rw [show a = 58 from UInt8.toNat_inj.1 hn]; decide]
      clear hab
      go_enter Tryd.func74, Tryd.ntmps74
      go_wp2
      go_ret
      exact ⟨rfl, Below.refl _ _⟩
    by_cases h46 : n = 46
    · subst h46
      rw [show sgB a b = 1 by rw [hab]; rw [show a = 46 from UInt8.toNat_inj.1 hn]; decide]
      clear hab
      go_enter Tryd.func74, Tryd.ntmps74
      go_wp2
      go_ret
      exact ⟨rfl, Below.refl _ _⟩
    by_cases h45 : n = 45
    · subst h45
      rw [show sgB a b = 0 by rw [hab]; rw [show a = 45 from UInt8.toNat_inj.1 hn]; decide]
      clear hab
      go_enter Tryd.func74, Tryd.ntmps74
      go_wp2
      go_ret
      exact ⟨rfl, Below.refl _ _⟩
    by_cases h40 : n = 40
    · subst h40
      rw [show sgB a b = 1 by
        rw [show a = 40 from UInt8.toNat_inj.1 hn]
        unfold sgB two
        simp [oneL]]
      go_enter Tryd.func74, Tryd.ntmps74
      go_wp2
      go_ret
      exact ⟨rfl, Below.refl _ _⟩
    by_cases h41 : n = 41
    · subst h41
      rw [show sgB a b = 1 by
        rw [show a = 41 from UInt8.toNat_inj.1 hn]
        unfold sgB two
        simp [oneL]]
      go_enter Tryd.func74, Tryd.ntmps74
      go_wp2
      go_ret
      exact ⟨rfl, Below.refl _ _⟩
    by_cases h91 : n = 91
    · subst h91
      rw [show sgB a b = 1 by
        rw [show a = 91 from UInt8.toNat_inj.1 hn]
        unfold sgB two
        simp [oneL]]
      go_enter Tryd.func74, Tryd.ntmps74
      go_wp2
      go_ret
      exact ⟨rfl, Below.refl _ _⟩
    by_cases h93 : n = 93
    · subst h93
      rw [show sgB a b = 1 by
        rw [show a = 93 from UInt8.toNat_inj.1 hn]
        unfold sgB two
        simp [oneL]]
      go_enter Tryd.func74, Tryd.ntmps74
      go_wp2
      go_ret
      exact ⟨rfl, Below.refl _ _⟩
    by_cases h123 : n = 123
    · subst h123
      rw [show sgB a b = 1 by
        rw [show a = 123 from UInt8.toNat_inj.1 hn]
        unfold sgB two
        simp [oneL]]
      go_enter Tryd.func74, Tryd.ntmps74
      go_wp2
      go_ret
      exact ⟨rfl, Below.refl _ _⟩
    by_cases h125 : n = 125
    · subst h125
      rw [show sgB a b = 1 by
        rw [show a = 125 from UInt8.toNat_inj.1 hn]
        unfold sgB two
        simp [oneL]]
      go_enter Tryd.func74, Tryd.ntmps74
      go_wp2
      go_ret
      exact ⟨rfl, Below.refl _ _⟩
    by_cases h44 : n = 44
    · subst h44
      rw [show sgB a b = 1 by
        rw [show a = 44 from UInt8.toNat_inj.1 hn]
        unfold sgB two
        simp [oneL]]
      go_enter Tryd.func74, Tryd.ntmps74
      go_wp2
      go_ret
      exact ⟨rfl, Below.refl _ _⟩
    by_cases h59 : n = 59
    · subst h59
      rw [show sgB a b = 1 by
        rw [show a = 59 from UInt8.toNat_inj.1 hn]
        unfold sgB two
        simp [oneL]]
      go_enter Tryd.func74, Tryd.ntmps74
      go_wp2
      go_ret
      exact ⟨rfl, Below.refl _ _⟩
    by_cases h61 : n = 61
    · subst h61
      rw [show sgB a b = 1 by
        rw [show a = 61 from UInt8.toNat_inj.1 hn]
        unfold sgB two
        simp [oneL]]
      go_enter Tryd.func74, Tryd.ntmps74
      go_wp2
      go_ret
      exact ⟨rfl, Below.refl _ _⟩
    by_cases h43 : n = 43
    · subst h43
      rw [show sgB a b = 1 by
        rw [show a = 43 from UInt8.toNat_inj.1 hn]
        unfold sgB two
        simp [oneL]]
      go_enter Tryd.func74, Tryd.ntmps74
      go_wp2
      go_ret
      exact ⟨rfl, Below.refl _ _⟩
    by_cases h42 : n = 42
    · subst h42
      rw [show sgB a b = 1 by
        rw [show a = 42 from UInt8.toNat_inj.1 hn]
        unfold sgB two
        simp [oneL]]
      go_enter Tryd.func74, Tryd.ntmps74
      go_wp2
      go_ret
      exact ⟨rfl, Below.refl _ _⟩
    by_cases h47 : n = 47
    · subst h47
      rw [show sgB a b = 1 by
        rw [show a = 47 from UInt8.toNat_inj.1 hn]
        unfold sgB two
        simp [oneL]]
      go_enter Tryd.func74, Tryd.ntmps74
      go_wp2
      go_ret
      exact ⟨rfl, Below.refl _ _⟩
    by_cases h124 : n = 124
    · subst h124
      rw [show sgB a b = 1 by
        rw [show a = 124 from UInt8.toNat_inj.1 hn]
        unfold sgB two
        simp [oneL]]
      go_enter Tryd.func74, Tryd.ntmps74
      go_wp2
      go_ret
      exact ⟨rfl, Below.refl _ _⟩
    rw [show sgB a b = 0 by
      have g58 : a ≠ 58 := fun e => h58 (by rw [← hn, e]; rfl)
      have g46 : a ≠ 46 := fun e => h46 (by rw [← hn, e]; rfl)
      have g45 : a ≠ 45 := fun e => h45 (by rw [← hn, e]; rfl)
      have g40 : a ≠ 40 := fun e => h40 (by rw [← hn, e]; rfl)
      have g41 : a ≠ 41 := fun e => h41 (by rw [← hn, e]; rfl)
      have g91 : a ≠ 91 := fun e => h91 (by rw [← hn, e]; rfl)
      have g93 : a ≠ 93 := fun e => h93 (by rw [← hn, e]; rfl)
      have g123 : a ≠ 123 := fun e => h123 (by rw [← hn, e]; rfl)
      have g125 : a ≠ 125 := fun e => h125 (by rw [← hn, e]; rfl)
      have g44 : a ≠ 44 := fun e => h44 (by rw [← hn, e]; rfl)
      have g59 : a ≠ 59 := fun e => h59 (by rw [← hn, e]; rfl)
      have g61 : a ≠ 61 := fun e => h61 (by rw [← hn, e]; rfl)
      have g43 : a ≠ 43 := fun e => h43 (by rw [← hn, e]; rfl)
      have g42 : a ≠ 42 := fun e => h42 (by rw [← hn, e]; rfl)
      have g47 : a ≠ 47 := fun e => h47 (by rw [← hn, e]; rfl)
      have g124 : a ≠ 124 := fun e => h124 (by rw [← hn, e]; rfl)
      unfold sgB two
      simp [oneL, g58, g46, g45, g40, g41, g91, g93, g123, g125, g44, g59, g61, g43, g42, g47, g124]]
    have f58 : ((n : Int) == 58) = false := beq_eq_false_iff_ne.2 (by omega)
    have f46 : ((n : Int) == 46) = false := beq_eq_false_iff_ne.2 (by omega)
    have f45 : ((n : Int) == 45) = false := beq_eq_false_iff_ne.2 (by omega)
    have f40 : ((n : Int) == 40) = false := beq_eq_false_iff_ne.2 (by omega)
    have f41 : ((n : Int) == 41) = false := beq_eq_false_iff_ne.2 (by omega)
    have f91 : ((n : Int) == 91) = false := beq_eq_false_iff_ne.2 (by omega)
    have f93 : ((n : Int) == 93) = false := beq_eq_false_iff_ne.2 (by omega)
    have f123 : ((n : Int) == 123) = false := beq_eq_false_iff_ne.2 (by omega)
    have f125 : ((n : Int) == 125) = false := beq_eq_false_iff_ne.2 (by omega)
    have f44 : ((n : Int) == 44) = false := beq_eq_false_iff_ne.2 (by omega)
    have f59 : ((n : Int) == 59) = false := beq_eq_false_iff_ne.2 (by omega)
    have f61 : ((n : Int) == 61) = false := beq_eq_false_iff_ne.2 (by omega)
    have f43 : ((n : Int) == 43) = false := beq_eq_false_iff_ne.2 (by omega)
    have f42 : ((n : Int) == 42) = false := beq_eq_false_iff_ne.2 (by omega)
    have f47 : ((n : Int) == 47) = false := beq_eq_false_iff_ne.2 (by omega)
    have f124 : ((n : Int) == 124) = false := beq_eq_false_iff_ne.2 (by omega)
    go_enter Tryd.func74, Tryd.ntmps74
    go_wp2
    go_ret
    exact ⟨rfl, Below.refl _ _⟩
  · have h1n : 1 < s.size := by omega
    have hg := sg_two s h1n
    obtain ⟨a, ha⟩ : ∃ a, s[0]'h0 = a := ⟨_, rfl⟩
    obtain ⟨b, hb⟩ : ∃ b, s[1]'h1n = b := ⟨_, rfl⟩
    rw [ha, hb] at hg
    rw [hg]
    have h1i : (1 : Int) < (s.size : Int) := by omega
    obtain ⟨n, hn⟩ : ∃ n, a.toNat = n := ⟨_, rfl⟩
    obtain ⟨m, hm⟩ : ∃ m, b.toNat = m := ⟨_, rfl⟩
    clear hg h1
    by_cases h58 : n = 58
    · subst h58
      by_cases hu : m = 61
      · subst hu
        rw [show sgB a b = 2 by rw [show a = 58 from UInt8.toNat_inj.1 hn, show b = 61 from UInt8.toNat_inj.1 hm]; decide]
        go_enter Tryd.func74, Tryd.ntmps74
        go_wp2
        go_ret
        exact ⟨rfl, Below.refl _ _⟩
      · have hui : ((m : Int) == 61) = false := beq_eq_false_iff_ne.2 (by omega)
        rw [show sgB a b = 1 by
          rw [show a = 58 from UInt8.toNat_inj.1 hn]
          have hb : b ≠ 61 := fun e => hu (by rw [← hm, e]; rfl)
          unfold sgB two
          simp [hb, oneL]]
        go_enter Tryd.func74, Tryd.ntmps74
        go_wp2
        go_ret
        exact ⟨rfl, Below.refl _ _⟩
    by_cases h46 : n = 46
    · subst h46
      by_cases hu : m = 46
      · subst hu
        rw [show sgB a b = 2 by rw [show a = 46 from UInt8.toNat_inj.1 hn, show b = 46 from UInt8.toNat_inj.1 hm]; decide]
        go_enter Tryd.func74, Tryd.ntmps74
        go_wp2
        go_ret
        exact ⟨rfl, Below.refl _ _⟩
      · have hui : ((m : Int) == 46) = false := beq_eq_false_iff_ne.2 (by omega)
        rw [show sgB a b = 1 by
          rw [show a = 46 from UInt8.toNat_inj.1 hn]
          have hb : b ≠ 46 := fun e => hu (by rw [← hm, e]; rfl)
          unfold sgB two
          simp [hb, oneL]]
        go_enter Tryd.func74, Tryd.ntmps74
        go_wp2
        go_ret
        exact ⟨rfl, Below.refl _ _⟩
    by_cases h45 : n = 45
    · subst h45
      by_cases hu : m = 62
      · subst hu
        rw [show sgB a b = 2 by rw [show a = 45 from UInt8.toNat_inj.1 hn, show b = 62 from UInt8.toNat_inj.1 hm]; decide]
        go_enter Tryd.func74, Tryd.ntmps74
        go_wp2
        go_ret
        exact ⟨rfl, Below.refl _ _⟩
      · have hui : ((m : Int) == 62) = false := beq_eq_false_iff_ne.2 (by omega)
        rw [show sgB a b = 0 by
          rw [show a = 45 from UInt8.toNat_inj.1 hn]
          have hb : b ≠ 62 := fun e => hu (by rw [← hm, e]; rfl)
          unfold sgB two
          simp [hb, oneL]]
        go_enter Tryd.func74, Tryd.ntmps74
        go_wp2
        go_ret
        exact ⟨rfl, Below.refl _ _⟩
    by_cases h40 : n = 40
    · subst h40
      rw [show sgB a b = 1 by
        rw [show a = 40 from UInt8.toNat_inj.1 hn]
        unfold sgB two
        simp [oneL]]
      go_enter Tryd.func74, Tryd.ntmps74
      go_wp2
      go_ret
      exact ⟨rfl, Below.refl _ _⟩
    by_cases h41 : n = 41
    · subst h41
      rw [show sgB a b = 1 by
        rw [show a = 41 from UInt8.toNat_inj.1 hn]
        unfold sgB two
        simp [oneL]]
      go_enter Tryd.func74, Tryd.ntmps74
      go_wp2
      go_ret
      exact ⟨rfl, Below.refl _ _⟩
    by_cases h91 : n = 91
    · subst h91
      rw [show sgB a b = 1 by
        rw [show a = 91 from UInt8.toNat_inj.1 hn]
        unfold sgB two
        simp [oneL]]
      go_enter Tryd.func74, Tryd.ntmps74
      go_wp2
      go_ret
      exact ⟨rfl, Below.refl _ _⟩
    by_cases h93 : n = 93
    · subst h93
      rw [show sgB a b = 1 by
        rw [show a = 93 from UInt8.toNat_inj.1 hn]
        unfold sgB two
        simp [oneL]]
      go_enter Tryd.func74, Tryd.ntmps74
      go_wp2
      go_ret
      exact ⟨rfl, Below.refl _ _⟩
    by_cases h123 : n = 123
    · subst h123
      rw [show sgB a b = 1 by
        rw [show a = 123 from UInt8.toNat_inj.1 hn]
        unfold sgB two
        simp [oneL]]
      go_enter Tryd.func74, Tryd.ntmps74
      go_wp2
      go_ret
      exact ⟨rfl, Below.refl _ _⟩
    by_cases h125 : n = 125
    · subst h125
      rw [show sgB a b = 1 by
        rw [show a = 125 from UInt8.toNat_inj.1 hn]
        unfold sgB two
        simp [oneL]]
      go_enter Tryd.func74, Tryd.ntmps74
      go_wp2
      go_ret
      exact ⟨rfl, Below.refl _ _⟩
    by_cases h44 : n = 44
    · subst h44
      rw [show sgB a b = 1 by
        rw [show a = 44 from UInt8.toNat_inj.1 hn]
        unfold sgB two
        simp [oneL]]
      go_enter Tryd.func74, Tryd.ntmps74
      go_wp2
      go_ret
      exact ⟨rfl, Below.refl _ _⟩
    by_cases h59 : n = 59
    · subst h59
      rw [show sgB a b = 1 by
        rw [show a = 59 from UInt8.toNat_inj.1 hn]
        unfold sgB two
        simp [oneL]]
      go_enter Tryd.func74, Tryd.ntmps74
      go_wp2
      go_ret
      exact ⟨rfl, Below.refl _ _⟩
    by_cases h61 : n = 61
    · subst h61
      rw [show sgB a b = 1 by
        rw [show a = 61 from UInt8.toNat_inj.1 hn]
        unfold sgB two
        simp [oneL]]
      go_enter Tryd.func74, Tryd.ntmps74
      go_wp2
      go_ret
      exact ⟨rfl, Below.refl _ _⟩
    by_cases h43 : n = 43
    · subst h43
      rw [show sgB a b = 1 by
        rw [show a = 43 from UInt8.toNat_inj.1 hn]
        unfold sgB two
        simp [oneL]]
      go_enter Tryd.func74, Tryd.ntmps74
      go_wp2
      go_ret
      exact ⟨rfl, Below.refl _ _⟩
    by_cases h42 : n = 42
    · subst h42
      rw [show sgB a b = 1 by
        rw [show a = 42 from UInt8.toNat_inj.1 hn]
        unfold sgB two
        simp [oneL]]
      go_enter Tryd.func74, Tryd.ntmps74
      go_wp2
      go_ret
      exact ⟨rfl, Below.refl _ _⟩
    by_cases h47 : n = 47
    · subst h47
      rw [show sgB a b = 1 by
        rw [show a = 47 from UInt8.toNat_inj.1 hn]
        unfold sgB two
        simp [oneL]]
      go_enter Tryd.func74, Tryd.ntmps74
      go_wp2
      go_ret
      exact ⟨rfl, Below.refl _ _⟩
    by_cases h124 : n = 124
    · subst h124
      rw [show sgB a b = 1 by
        rw [show a = 124 from UInt8.toNat_inj.1 hn]
        unfold sgB two
        simp [oneL]]
      go_enter Tryd.func74, Tryd.ntmps74
      go_wp2
      go_ret
      exact ⟨rfl, Below.refl _ _⟩
    rw [show sgB a b = 0 by
      have g58 : a ≠ 58 := fun e => h58 (by rw [← hn, e]; rfl)
      have g46 : a ≠ 46 := fun e => h46 (by rw [← hn, e]; rfl)
      have g45 : a ≠ 45 := fun e => h45 (by rw [← hn, e]; rfl)
      have g40 : a ≠ 40 := fun e => h40 (by rw [← hn, e]; rfl)
      have g41 : a ≠ 41 := fun e => h41 (by rw [← hn, e]; rfl)
      have g91 : a ≠ 91 := fun e => h91 (by rw [← hn, e]; rfl)
      have g93 : a ≠ 93 := fun e => h93 (by rw [← hn, e]; rfl)
      have g123 : a ≠ 123 := fun e => h123 (by rw [← hn, e]; rfl)
      have g125 : a ≠ 125 := fun e => h125 (by rw [← hn, e]; rfl)
      have g44 : a ≠ 44 := fun e => h44 (by rw [← hn, e]; rfl)
      have g59 : a ≠ 59 := fun e => h59 (by rw [← hn, e]; rfl)
      have g61 : a ≠ 61 := fun e => h61 (by rw [← hn, e]; rfl)
      have g43 : a ≠ 43 := fun e => h43 (by rw [← hn, e]; rfl)
      have g42 : a ≠ 42 := fun e => h42 (by rw [← hn, e]; rfl)
      have g47 : a ≠ 47 := fun e => h47 (by rw [← hn, e]; rfl)
      have g124 : a ≠ 124 := fun e => h124 (by rw [← hn, e]; rfl)
      unfold sgB two
      simp [oneL, g58, g46, g45, g40, g41, g91, g93, g123, g125, g44, g59, g61, g43, g42, g47, g124]]
    have f58 : ((n : Int) == 58) = false := beq_eq_false_iff_ne.2 (by omega)
    have f46 : ((n : Int) == 46) = false := beq_eq_false_iff_ne.2 (by omega)
    have f45 : ((n : Int) == 45) = false := beq_eq_false_iff_ne.2 (by omega)
    have f40 : ((n : Int) == 40) = false := beq_eq_false_iff_ne.2 (by omega)
    have f41 : ((n : Int) == 41) = false := beq_eq_false_iff_ne.2 (by omega)
    have f91 : ((n : Int) == 91) = false := beq_eq_false_iff_ne.2 (by omega)
    have f93 : ((n : Int) == 93) = false := beq_eq_false_iff_ne.2 (by omega)
    have f123 : ((n : Int) == 123) = false := beq_eq_false_iff_ne.2 (by omega)
    have f125 : ((n : Int) == 125) = false := beq_eq_false_iff_ne.2 (by omega)
    have f44 : ((n : Int) == 44) = false := beq_eq_false_iff_ne.2 (by omega)
    have f59 : ((n : Int) == 59) = false := beq_eq_false_iff_ne.2 (by omega)
    have f61 : ((n : Int) == 61) = false := beq_eq_false_iff_ne.2 (by omega)
    have f43 : ((n : Int) == 43) = false := beq_eq_false_iff_ne.2 (by omega)
    have f42 : ((n : Int) == 42) = false := beq_eq_false_iff_ne.2 (by omega)
    have f47 : ((n : Int) == 47) = false := beq_eq_false_iff_ne.2 (by omega)
    have f124 : ((n : Int) == 124) = false := beq_eq_false_iff_ne.2 (by omega)
    go_enter Tryd.func74, Tryd.ntmps74
    go_wp2
    go_ret
    exact ⟨rfl, Below.refl _ _⟩
theorem u8_small (n : Nat) (h : n < 256) : IntKind.u8.wrap (n : Int) = (n : Int) := by
  show (n : Int) % 256 = _
  omega
set_option maxRecDepth 100000 in
theorem rvalue_any (b : UInt8) (w : World) : Calls Tryd.prog 40 #[.int .u8 (b.toNat : Int)] w fun e w' => e = .returned (.int .i64 (digV b : Nat)) ∧ Below w.heap.size w w' := by
  obtain ⟨n, hn⟩ : ∃ n : Nat, b.toNat = n := ⟨_, rfl⟩
  have hd : digV b = if 48 ≤ n ∧ n ≤ 57 then n - 48 else if 97 ≤ n ∧ n ≤ 102 then n - 87 else 16 := by
    unfold digV dg
    rw [hn]
    simp
  rw [hd, hn]
  clear hd hn
  by_cases h1 : 48 ≤ n ∧ n ≤ 57
  · rw [if_pos h1]
    have a1 : (48 : Int) ≤ (n : Int) := by omega
    have a2 : (n : Int) ≤ 57 := by omega
    obtain ⟨m, hm⟩ : ∃ m, n - 48 = m := ⟨_, rfl⟩
    have hmi : (n : Int) - 48 = (m : Int) := by omega
    have hw := u8_small m (by omega)
    rw [hm]
    go_enter Tryd.func40, Tryd.ntmps40
    go_wp2
    go_ret
    exact ⟨rfl, Below.refl _ _⟩
  · rw [if_neg h1]
    have hA : decide ((48 : Int) ≤ (n : Int)) = true ∨ decide ((48 : Int) ≤ (n : Int)) = false := by cases decide ((48 : Int) ≤ (n : Int)) <;> simp
    by_cases h2 : 97 ≤ n ∧ n ≤ 102
    · rw [if_pos h2]
      have a1 : (48 : Int) ≤ (n : Int) := by omega
      have a2 : ¬ (n : Int) ≤ 57 := by omega
      have a3 : (97 : Int) ≤ (n : Int) := by omega
      have a4 : (n : Int) ≤ 102 := by omega
      obtain ⟨m, hm⟩ : ∃ m, n - 97 = m := ⟨_, rfl⟩
      have hmi : (n : Int) - 97 = (m : Int) := by omega
      have hw := u8_small m (by omega)
      have hmb : (m : Int) ≤ 10 := by omega
      have hfin : Hid ((m : Int) + 10 = ((n - 87 : Nat) : Int)) := by
        have : (m : Int) + 10 = ((n - 87 : Nat) : Int) := by omega
        exact this
      clear hA
      rw [← hfin.out]
      go_enter Tryd.func40, Tryd.ntmps40
      go_wp2
      go_ret
      exact ⟨rfl, Below.refl _ _⟩
    · rw [if_neg h2]
      clear hA
      by_cases a1 : (48 : Int) ≤ (n : Int)
      · have a2 : ¬ (n : Int) ≤ 57 := by omega
        by_cases a3 : (97 : Int) ≤ (n : Int)
        · have a4 : ¬ (n : Int) ≤ 102 := by omega
          go_enter Tryd.func40, Tryd.ntmps40
          go_wp2
          go_ret
          exact ⟨rfl, Below.refl _ _⟩
        · go_enter Tryd.func40, Tryd.ntmps40
          go_wp2
          go_ret
          exact ⟨rfl, Below.refl _ _⟩
      · have a3 : ¬ (97 : Int) ≤ (n : Int) := by omega
        go_enter Tryd.func40, Tryd.ntmps40
        go_wp2
        go_ret
        exact ⟨rfl, Below.refl _ _⟩
theorem beg_at (s : ByteArray) {k : Nat} (h : k < s.size) : begB (s.data.toList.drop k) = (lo s[k] || dg s[k] || sepB s[k] || decide (s[k] = 35) || decide (0 < signL (s.data.toList.drop k))) := by
  have hk : k < s.data.toList.length := by rw [bytes_size]; exact h
  rw [List.drop_eq_getElem_cons hk, byte_at s h]
  rfl
theorem ret_int {a b : Nat} (h : b = a) : Ending.returned (.int .i64 (a : Int)) = Ending.returned (.int .i64 (b : Int)) := by rw [h]
set_option maxRecDepth 100000 in
set_option maxHeartbeats 6400000 in
theorem rodd_any (s : ByteArray) (hs : s.size ≤ 140737488355328) (w : World) : Calls Tryd.prog 75 #[.string s] w fun e w' => e = .returned (.int .i64 (oddL s.data.toList : Nat)) ∧ Below w.heap.size w w' := by
  have hle := oddL_le s.data.toList
  have hlen := lenS s
  have hAt := fun k (hk : k < oddL s.data.toList) => odd_get _ k hk
  have hEnd := fun (hk : oddL s.data.toList < s.data.toList.length) => odd_stop _ hk
  rw [hlen] at hle hEnd
  have hBA := fun k (h : k < s.size) => beg_at s h
  have hSG := fun k (h : k < s.size) w => rsign_any (s.extract k s.size) (by rw [tail_size]; omega) (by rw [tail_size]; omega) w
  simp only [tail_list] at hSG
  obtain ⟨n, hn⟩ : ∃ n, oddL s.data.toList = n := ⟨_, rfl⟩
  rw [hn] at hle hAt hEnd ⊢
  have HA := Lib.hid hAt
  have HE := Lib.hid hEnd
  have HBA := Lib.hid hBA
  have HSG := Lib.hid hSG
  clear hAt hEnd hBA hSG hn hlen
  have hni : (n : Int) ≤ (s.size : Int) := by omega
  have hsi : (s.size : Int) ≤ 140737488355328 := by omega
  go_enter Tryd.func75, Tryd.ntmps75
  go_wp2
  go_loopw [3] (RunR n w) (fun i _ => n - (intOf i).toNat)
  case atStart => exact ⟨0, Nat.zero_le _, rfl, Below.refl _ _⟩
  case round =>
    obtain ⟨k, hk, rfl, hbe⟩ := hrel
    by_cases hks : k < s.size
    · have hki : (k : Int) < (s.size : Int) := by omega
      have hki2 : (k : Int) ≤ (s.size : Int) := by omega
      have hk0 : (0 : Int) ≤ (k : Int) := by omega
      have hba := HBA.out k hks
      have hsg := fun w => HSG.out k hks w
      obtain ⟨b, hb⟩ : ∃ b, s[k]'hks = b := ⟨_, rfl⟩
      rw [hb] at hba
      have HL := fun w => rletter_any b w
      have HD := fun w => rdigit_any b w
      have HP := fun w => rblank_any b w
      obtain ⟨p, hp⟩ : ∃ p, lo b = p := ⟨_, rfl⟩
      obtain ⟨q, hq⟩ : ∃ q, dg b = q := ⟨_, rfl⟩
      obtain ⟨r, hr⟩ : ∃ r, sepB b = r := ⟨_, rfl⟩
      rw [hp] at HL hba
      rw [hq] at HD hba
      rw [hr] at HP hba
      obtain ⟨z, hz⟩ : ∃ z, signL (s.data.toList.drop k) = z := ⟨_, rfl⟩
      rw [hz] at hba hsg
      have hyes : Hid (begB (s.data.toList.drop k) = true → k = n) := (fun h => by
        rcases Nat.lt_or_ge k n with h1 | h1
        · rw [HA.out k h1] at h; cases h
        · omega : begB (s.data.toList.drop k) = true → k = n)
      have hno : Hid (begB (s.data.toList.drop k) = false → k + 1 ≤ n) := ((fun h => by
        rcases Nat.lt_or_ge k n with h1 | h1
        · exact h1
        · have hkn : k = n := by omega
          subst hkn
          rw [HE.out hks] at h; cases h) : begB (s.data.toList.drop k) = false → k + 1 ≤ n)
      rw [hba] at hyes hno
      clear hba hp hq hr hz
      cases p
      · cases q
        · cases r
          · by_cases h35 : b = 35
            · have HB : Hid (k = n) := hyes.out (by rw [decide_eq_true h35]; rfl)
              have h35i : ((b.toNat : Int) == 35) = true := by rw [h35]; rfl
              clear hyes hno h35
              go_wp2_with fail
              (with_reducible refine (HL _).mono ?_)
              rintro e w2 ⟨rfl, hb⟩
              have hbe := below_join hbe hb
              clear hb
              go_wp2_with fail
              (with_reducible refine (HD _).mono ?_)
              rintro e w3 ⟨rfl, hb⟩
              have hbe := below_join hbe hb
              clear hb
              go_wp2_with fail
              (with_reducible refine (HP _).mono ?_)
              rintro e w4 ⟨rfl, hb⟩
              have hbe := below_join hbe hb
              clear hb
              go_wp2
              go_ret
              exact ⟨ret_int HB.out.symm, hbe⟩
            · have h35i : ((b.toNat : Int) == 35) = false := beq_eq_false_iff_ne.2 fun e => h35 (UInt8.toNat_inj.1 (by simpa using (by omega : b.toNat = 35)))
              rw [decide_eq_false h35] at hyes hno
              by_cases hz : 0 < z
              · have HB : Hid (k = n) := hyes.out (by rw [decide_eq_true hz]; rfl)
                have hzi : (0 : Int) < (z : Int) := by omega
                clear hyes hno h35
                go_wp2_with fail
                (with_reducible refine (HL _).mono ?_)
                rintro e w2 ⟨rfl, hb⟩
                have hbe := below_join hbe hb
                clear hb
                go_wp2_with fail
                (with_reducible refine (HD _).mono ?_)
                rintro e w3 ⟨rfl, hb⟩
                have hbe := below_join hbe hb
                clear hb
                go_wp2_with fail
                (with_reducible refine (HP _).mono ?_)
                rintro e w4 ⟨rfl, hb⟩
                have hbe := below_join hbe hb
                clear hb
                go_wp2_with fail
                (with_reducible refine (hsg _).mono ?_)
                rintro e w5 ⟨rfl, hb⟩
                have hbe := below_join hbe hb
                clear hb
                go_wp2
                go_ret
                exact ⟨ret_int HB.out.symm, hbe⟩
              · have HB : Hid (k + 1 ≤ n) := hno.out (by rw [decide_eq_false hz]; rfl)
                have hzi : ¬ (0 : Int) < (z : Int) := by omega
                clear hyes hno h35
                go_wp2_with fail
                (with_reducible refine (HL _).mono ?_)
                rintro e w2 ⟨rfl, hb⟩
                have hbe := below_join hbe hb
                clear hb
                go_wp2_with fail
                (with_reducible refine (HD _).mono ?_)
                rintro e w3 ⟨rfl, hb⟩
                have hbe := below_join hbe hb
                clear hb
                go_wp2_with fail
                (with_reducible refine (HP _).mono ?_)
                rintro e w4 ⟨rfl, hb⟩
                have hbe := below_join hbe hb
                clear hb
                go_wp2_with fail
                (with_reducible refine (hsg _).mono ?_)
                rintro e w5 ⟨rfl, hb⟩
                have hbe := below_join hbe hb
                clear hb
                go_wp2
                go_roundw
                case rel => exact ⟨k + 1, HB.out, by go_num, hbe⟩
                case measure => have := HB.out; simp [intOf]; omega
          · have HB : Hid (k = n) := hyes.out rfl
            clear hyes hno
            go_wp2_with fail
            (with_reducible refine (HL _).mono ?_)
            rintro e w2 ⟨rfl, hb⟩
            have hbe := below_join hbe hb
            clear hb
            go_wp2_with fail
            (with_reducible refine (HD _).mono ?_)
            rintro e w3 ⟨rfl, hb⟩
            have hbe := below_join hbe hb
            clear hb
            go_wp2_with fail
            (with_reducible refine (HP _).mono ?_)
            rintro e w4 ⟨rfl, hb⟩
            have hbe := below_join hbe hb
            clear hb
            go_wp2
            go_ret
            exact ⟨ret_int HB.out.symm, hbe⟩
        · have HB : Hid (k = n) := hyes.out rfl
          clear hyes hno
          go_wp2_with fail
          (with_reducible refine (HL _).mono ?_)
          rintro e w2 ⟨rfl, hb⟩
          have hbe := below_join hbe hb
          clear hb
          go_wp2_with fail
          (with_reducible refine (HD _).mono ?_)
          rintro e w3 ⟨rfl, hb⟩
          have hbe := below_join hbe hb
          clear hb
          go_wp2_with fail
          (with_reducible refine (HP _).mono ?_)
          rintro e w4 ⟨rfl, hb⟩
          have hbe := below_join hbe hb
          clear hb
          go_wp2
          go_ret
          exact ⟨ret_int HB.out.symm, hbe⟩
      · have HB : Hid (k = n) := hyes.out rfl
        clear hyes hno
        go_wp2_with fail
        (with_reducible refine (HL _).mono ?_)
        rintro e w2 ⟨rfl, hb⟩
        have hbe := below_join hbe hb
        clear hb
        go_wp2_with fail
        (with_reducible refine (HD _).mono ?_)
        rintro e w3 ⟨rfl, hb⟩
        have hbe := below_join hbe hb
        clear hb
        go_wp2_with fail
        (with_reducible refine (HP _).mono ?_)
        rintro e w4 ⟨rfl, hb⟩
        have hbe := below_join hbe hb
        clear hb
        go_wp2
        go_ret
        exact ⟨ret_int HB.out.symm, hbe⟩
    · have HB : Hid (n = k) := (by omega : n = k)
      have hki : ¬ (k : Int) < (s.size : Int) := by omega
      go_wp2
      go_ret
      exact ⟨ret_int HB.out, hbe⟩
theorem kind_one (s : ByteArray) (h : s.size ≤ 24) : decide (kindM s.data.toList = 1) = !decide (s.data.toList ∈ wordsL) := by
  have hz := lenS s
  by_cases hm : s.data.toList ∈ wordsL
  · rw [decide_eq_true hm]; unfold kindM; rw [if_pos hm]; rfl
  · rw [decide_eq_false hm]; unfold kindM; rw [if_neg hm, if_pos (by omega)]; rfl
theorem kind_big (s : ByteArray) (h : 24 < s.size) : decide (kindM s.data.toList = 1) = false := by
  have hz := lenS s
  unfold kindM
  split
  · rfl
  · rw [if_neg (by omega)]; rfl
set_option maxRecDepth 100000 in
set_option maxHeartbeats 3200000 in
theorem rname_any (s : ByteArray) (hs : s.size ≤ 140737488355328) (w : World) : Calls Tryd.prog 19 #[.string s] w fun e w' => e = .returned (.bool (nameM s.data.toList)) ∧ Below w.heap.size w w' := by
  by_cases h0 : s.size = 0
  · have hN : nameM s.data.toList = false := by
      have : s.data.toList = [] := List.eq_nil_of_length_eq_zero (by rw [bytes_size]; exact h0)
      rw [this]; rfl
    have h0i : ((s.size : Int) == 0) = true := by rw [h0]; rfl
    rw [hN]
    clear hN h0
    go_enter Tryd.func19, Tryd.ntmps19
    go_wp2
    go_ret
    exact ⟨rfl, Below.refl _ _⟩
  · have hpos : 0 < s.size := by omega
    have hposi : (0 : Int) < (s.size : Int) := by omega
    have h0i : ((s.size : Int) == 0) = false := beq_eq_false_iff_ne.2 (by omega)
    have h0n : (s.size == 0) = false := beq_eq_false_iff_ne.2 (by omega)
    have hN := nameM_eq s hpos
    by_cases h24 : 24 < s.size
    · rw [kind_big s h24, Bool.and_false, Bool.false_and] at hN
      have h24i : (24 : Int) < (s.size : Int) := by omega
      rw [hN]
      clear hN
      go_enter Tryd.func19, Tryd.ntmps19
      go_wp2
      go_ret
      exact ⟨rfl, Below.refl _ _⟩
    · rw [kind_one s (by omega)] at hN
      have h24i : ¬ (24 : Int) < (s.size : Int) := by omega
      have HW := fun w => risWord_any s w
      have HR := fun w => rrun_any s hs w
      obtain ⟨b, hb⟩ : ∃ b, s[0]'hpos = b := ⟨_, rfl⟩
      rw [hb] at hN
      have HL := fun w => rletter_any b w
      obtain ⟨p, hp⟩ : ∃ p, lo b = p := ⟨_, rfl⟩
      rw [hp] at HL hN
      obtain ⟨q, hq⟩ : ∃ q, decide (s.data.toList ∈ wordsL) = q := ⟨_, rfl⟩
      rw [hq] at HW hN
      obtain ⟨n, hn⟩ : ∃ n, runL s.data.toList = n := ⟨_, rfl⟩
      rw [hn] at HR hN
      rw [hN]
      clear hN hp hq hn h0
      have hbe : Below w.heap.size w w := Below.refl _ _
      cases p
      · go_enter Tryd.func19, Tryd.ntmps19
        go_wp2_with fail
        (with_reducible refine (HL _).mono ?_)
        rintro e w2 ⟨rfl, hb⟩
        have hbe := below_join hbe hb
        clear hb
        go_wp2_with fail
        (with_reducible refine (HW _).mono ?_)
        rintro e w3 ⟨rfl, hb⟩
        have hbe := below_join hbe hb
        clear hb
        go_wp2
        go_ret
        exact ⟨rfl, hbe⟩
      · by_cases hr : n = s.size
        · have hri : ((n : Int) == (s.size : Int)) = true := by rw [hr]; exact beq_self_eq_true _
          rw [decide_eq_true hr]
          clear hr
          go_enter Tryd.func19, Tryd.ntmps19
          go_wp2_with fail
          (with_reducible refine (HL _).mono ?_)
          rintro e w2 ⟨rfl, hb⟩
          have hbe := below_join hbe hb
          clear hb
          go_wp2_with fail
          (with_reducible refine (HW _).mono ?_)
          rintro e w3 ⟨rfl, hb⟩
          have hbe := below_join hbe hb
          clear hb
          go_wp2_with fail
          (with_reducible refine (HR _).mono ?_)
          rintro e w4 ⟨rfl, hb⟩
          have hbe := below_join hbe hb
          clear hb
          go_wp2
          go_ret
          exact ⟨by cases q <;> rfl, hbe⟩
        · have hri : ((n : Int) == (s.size : Int)) = false := beq_eq_false_iff_ne.2 (by omega)
          rw [decide_eq_false hr]
          clear hr
          go_enter Tryd.func19, Tryd.ntmps19
          go_wp2_with fail
          (with_reducible refine (HL _).mono ?_)
          rintro e w2 ⟨rfl, hb⟩
          have hbe := below_join hbe hb
          clear hb
          go_wp2_with fail
          (with_reducible refine (HW _).mono ?_)
          rintro e w3 ⟨rfl, hb⟩
          have hbe := below_join hbe hb
          clear hb
          go_wp2_with fail
          (with_reducible refine (HR _).mono ?_)
          rintro e w4 ⟨rfl, hb⟩
          have hbe := below_join hbe hb
          clear hb
          go_wp2
          go_ret
          exact ⟨by cases q <;> rfl, hbe⟩
end Go.Proofs.YtlpocfojgibhjaaDoor
