/-
  Contracts of the walks over within, divisor and gcd. Conditions: numbers that are not too large.
-/
import Derived.Test.YthjaelopmfjfeaaDoorVa
import Derived.Test.YthjaelopmfjfeaaDoorVk
namespace Go.Proofs.YthjaelopmfjfeaaDoor
set_option linter.unusedVariables false
set_option linter.unusedSimpArgs false
open Go.RowKit

theorem Tryd.szQ : (Tryd.prog.info? 23).map (·.size) = some 2 := by kernel_rfl
theorem Tryd.szI : (Tryd.prog.info? 3).map (·.size) = some 1 := by kernel_rfl
theorem Tryd.zeroQ : (Tryd.prog.info? 23).map (·.zero) = some (some (.agg zC.toArray)) := by kernel_rfl
theorem run_buildQ (w : World) (n d : Int) : (Instr.build 23 #[(0, .int .i64 n), (1, .int .i64 d)]).run Tryd.prog w = .ok (.agg [Value.int .i64 n, Value.int .i64 d].toArray) w := by kernel_rfl
theorem run_buildQ0 (w : World) : (Instr.build 23 #[]).run Tryd.prog w = .ok (.agg zC.toArray) w := by kernel_rfl
set_option maxRecDepth 100000 in
set_option maxHeartbeats 1600000 in
theorem within_any (n m : Int) (w : World) (h0 : 0 ≤ m) (hm : m ≤ 4611686018427387904) :
    Calls Tryd.prog 49 #[.int .i64 n, .int .i64 m] w fun e w' => e = .returned (.bool (decide (-m ≤ n) && decide (n ≤ m))) ∧ w = w' := by
  have hw : IntKind.i64.wrap (-m) = -m := by simp only [IntKind.wrap_i64]; omega
  go_enter Tryd.func49, Tryd.ntmps49
  by_cases h1 : -m ≤ n
  · have e1 : decide (-m ≤ n) = true := decide_eq_true h1
    go_wp2
    go_ret
    exact ⟨by rw [e1]; rfl, rfl⟩
  · have e1 : decide (-m ≤ n) = false := decide_eq_false h1
    rw [e1]
    go_wp2
    go_ret
    exact ⟨rfl, rfl⟩
def DivRel (G : Nat) (a b : Value) : Prop := ∃ x y : Int, a = .int .i64 x ∧ b = .int .i64 y ∧ -2305843009213693952 ≤ x ∧ x ≤ 2305843009213693952 ∧ -2305843009213693952 ≤ y ∧ y ≤ 2305843009213693952 ∧ Int.gcd x y = G
theorem DivRel.step {G : Nat} {x y : Int} (hy : y ≠ 0) (h1 : -2305843009213693952 ≤ y) (h2 : y ≤ 2305843009213693952) (hg : Int.gcd x y = G) : DivRel G (.int .i64 y) (.int .i64 (x.tmod y)) := by
  have h := tmod_less x y hy
  exact ⟨y, x.tmod y, rfl, rfl, h1, h2, by omega, by omega, by rw [gcd_step]; exact hg⟩
set_option maxRecDepth 100000 in
set_option maxHeartbeats 1600000 in
theorem divisor_any (n d : Int) (w : World) (h1 : -2305843009213693952 ≤ n) (h2 : n ≤ 2305843009213693952) (h3 : -2305843009213693952 ≤ d) (h4 : d ≤ 2305843009213693952) :
    Calls Tryd.prog 50 #[.int .i64 n, .int .i64 d] w fun e w' => e = .returned (.int .i64 (Int.gcd n d : Int)) ∧ Below w.heap.size w w' := by
  obtain ⟨G, hG⟩ : ∃ G, Int.gcd n d = G := ⟨_, rfl⟩
  have h0 : DivRel G (.int .i64 n) (.int .i64 d) := ⟨n, d, rfl, rfl, h1, h2, h3, h4, hG⟩
  rw [hG]
  clear hG h1 h2 h3 h4
  have hbe := Below.refl w.heap.size w
  go_enter Tryd.func50, Tryd.ntmps50
  go_wp2
  go_loopw [0, 1] (fun a b wr => DivRel G a b ∧ Below w.heap.size w wr) (fun _ b _ => (intOf b).natAbs)
  case atStart => exact ⟨h0, hbe⟩
  case round =>
    clear hbe
    obtain ⟨⟨x, y, rfl, rfl, g1, g2, g3, g4, hg⟩, hbe⟩ := hrel
    by_cases hy : y = 0
    · subst hy
      have hx : Hid (max x (-x) = (G : Int)) := by
        have : max x (-x) = (G : Int) := by rw [← hg, gcd_end x]; split <;> omega
        exact this
      have hw : IntKind.i64.wrap (-x) = -x := by simp only [IntKind.wrap_i64]; omega
      clear hg
      go_wp2_with (with_reducible refine wpList_maxZ (o := ⟨some 14, .call ⟨.builtin .max, #[.tmp 11, .tmp 13], #[3, 3]⟩, _, _, _, _⟩) (by with_unfolding_all rfl) (.tmp 11) (.tmp 13) 3 3 (by with_unfolding_all rfl) x (-x) (G : Int) (by with_unfolding_all rfl) (by with_unfolding_all rfl) hx.out ?_)
      go_ret
      exact ⟨rfl, hbe⟩
    · have hyb : (y == 0) = false := beq_eq_false_iff_ne.2 hy
      have hS := Lib.hid (DivRel.step hy g3 g4 hg)
      have hL := tmod_less x y hy
      obtain ⟨r, hr⟩ : ∃ r, x.tmod y = r := ⟨_, rfl⟩
      rw [hr] at hS hL
      have hwr : IntKind.i64.wrap r = r := by simp only [IntKind.wrap_i64]; omega
      clear hg
      go_wp2
      go_quiet (fail)
      have hdd := hbe.trans ((below_drewN wr nq).mono hbe.size)
      go_wp2
      go_roundw
      case rel => exact ⟨hS.out, hdd⟩
      case measure => simp [intOf]; omega
def GcdRel (G : Nat) (a b : Value) : Prop := ∃ x y : Int, a = .int .i64 x ∧ b = .int .i64 y ∧ 0 ≤ x ∧ x ≤ 2305843009213693952 ∧ 0 ≤ y ∧ y ≤ 2305843009213693952 ∧ Int.gcd x y = G
theorem GcdRel.step {G : Nat} {x y : Int} (hy : y ≠ 0) (hx : 0 ≤ x) (h1 : 0 ≤ y) (h2 : y ≤ 2305843009213693952) (hg : Int.gcd x y = G) : GcdRel G (.int .i64 y) (.int .i64 (x.tmod y)) := by
  have h := tmod_less x y hy
  have h0 : 0 ≤ x.tmod y := Int.tmod_nonneg _ hx
  exact ⟨y, x.tmod y, rfl, rfl, h1, h2, h0, by omega, by rw [gcd_step]; exact hg⟩
set_option maxRecDepth 100000 in
set_option maxHeartbeats 1600000 in
theorem gcd_any (n d : Int) (w : World) (h1 : 0 ≤ n) (h2 : n ≤ 2305843009213693952) (h3 : 0 ≤ d) (h4 : d ≤ 2305843009213693952) :
    Calls Tryd.prog 51 #[.int .i64 n, .int .i64 d] w fun e w' => e = .returned (.int .i64 (Int.gcd n d : Int)) ∧ w = w' := by
  obtain ⟨G, hG⟩ : ∃ G, Int.gcd n d = G := ⟨_, rfl⟩
  have h0 : GcdRel G (.int .i64 n) (.int .i64 d) := ⟨n, d, rfl, rfl, h1, h2, h3, h4, hG⟩
  rw [hG]
  clear hG h1 h2 h3 h4
  go_enter Tryd.func51, Tryd.ntmps51
  go_wp2
  go_loop [0, 1] (GcdRel G) (fun _ b => (intOf b).natAbs)
  case atStart => exact h0
  case round =>
    obtain ⟨x, y, rfl, rfl, g1, g2, g3, g4, hg⟩ := hrel
    by_cases hy : y = 0
    · subst hy
      have hx : Hid ((G : Int) = x) := by
        have : (G : Int) = x := by rw [← hg, gcd_end x]; split <;> omega
        exact this
      clear hg
      go_wp2
      go_ret
      exact ⟨by rw [hx.out]; rfl, rfl⟩
    · have hyb : (y == 0) = false := beq_eq_false_iff_ne.2 hy
      have hS := Lib.hid (GcdRel.step hy g1 g3 g4 hg)
      have hL := tmod_less x y hy
      obtain ⟨r, hr⟩ : ∃ r, x.tmod y = r := ⟨_, rfl⟩
      rw [hr] at hS hL
      have hwr : IntKind.i64.wrap r = r := by simp only [IntKind.wrap_i64]; omega
      go_wp2
      go_round
      case rel => exact hS.out
      case measure => simp [intOf]; omega
end Go.Proofs.YthjaelopmfjfeaaDoor
