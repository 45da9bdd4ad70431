/-
  A pattern and nothing else; the law's count; the larger of two numbers as one step. Conditions: none.
-/
import Derived.Test.YtbldnhpbmfmepaaDoorGZ
import Derived.Test.YtbldnhpbmfmepaaDoorKMj
import Derived.Test.YtbldnhpbmfmepaaDoorGK
import Derived.Test.YtbldnhpbmfmepaaDoorKPb
namespace Go.Proofs.YtbldnhpbmfmepaaDoor
set_option linter.unusedVariables false
set_option linter.unusedSimpArgs false
open Go.RowKit

theorem wpList_maxZ {P : Program} {ops : Array Oper} {rest : List Oper} {o : Oper} {a : Act} {w : World} {Q : Exit → Act → World → Prop} (hw : Region.wanted o (yielded ops a.tmps) = true) (x y : Operand) (t u : TypeId)
    (ho : o.op = .call { callee := .builtin .max, args := #[x, y], argTypes := #[t, u] }) (p q m : Int) (hx : a.eval x = .int .i64 p) (hy : a.eval y = .int .i64 q) (hm : max p q = m)
    (h : wpList P ops Q rest (a.put o.dst (.int .i64 m)) w) : wpList P ops Q (o :: rest) a w := by
  refine BigFrame.wpList_want hw fun K hK => ?_
  have hrun : (Builtin.max_ #[t, u] o.type #[.int .i64 p, .int .i64 q]).run P w = .ok (.int .i64 m) w := by
    rw [run_max_int2, ← hm]
    congr 2
    split <;> omega
  unfold Oper.wp
  simp [execOp, ho, resolve, invoke, builtin, hx, hy, hrun, Result.andThen]
  exact hK _ _ h
set_option maxRecDepth 100000 in
theorem count1_any (b : Bool) (w : World) : Calls Tryd.prog 71 #[.bool b] w fun e w' => e = .returned (.int .i64 (if b then 1 else 0)) ∧ Below w.heap.size w w' := by
  go_enter Tryd.func71, Tryd.ntmps71
  rcases b with _ | _
  · go_wp2
    go_ret
    exact ⟨rfl, Below.refl _ _⟩
  · go_wp2
    go_ret
    exact ⟨rfl, Below.refl _ _⟩
/-- Range, whatever comes in: its patterns, or none and 1. -/
theorem range_pats (a wd lo hi : Nat) (w : World) (n : Nat) (hn : (rangeL a wd lo hi).length = n) (h1 : 1 ≤ wd) (h2 : a % 16 + wd ≤ 16) (h3 : a + wd ≤ 160) (h4 : lo ≤ hi) (h5 : hi < 2 ^ wd) :
    Calls Tryd.prog 64 #[.int .i64 (a : Int), .int .i64 (wd : Int), .int .i64 (lo : Int), .int .i64 (hi : Int)] w fun e w' => ∃ A c, e = .returned (.tuple #[.slice A n c, .int .i64 0]) ∧ PatsAt w' A (rangeL a wd lo hi) ∧ Below w.heap.size w w' :=
  (range_any a wd lo hi w h1 h2 h3 h4 h5).mono fun e w' ⟨A, c, h, how, hb⟩ => ⟨A, c, by rw [h, hn], own_pats how, hb⟩
theorem rrange_pats (a wd lo hi : Nat) (w : World) (n : Nat) (hn : (rangeL a wd lo hi).length = n) (h1 : 1 ≤ wd) (h2 : a % 16 + wd ≤ 16) (h3 : a + wd ≤ 160) (h4 : lo ≤ hi) (h5 : hi < 2 ^ wd) :
    Calls Tryd.prog 65 #[.int .i64 (a : Int), .int .i64 (wd : Int), .int .i64 (lo : Int), .int .i64 (hi : Int)] w fun e w' => ∃ A c, e = .returned (.tuple #[.slice A n c, .int .i64 0]) ∧ PatsAt w' A (rangeL a wd lo hi) ∧ Below w.heap.size w w' :=
  (rrange_any a wd lo hi w h1 h2 h3 h4 h5).mono fun e w' ⟨A, c, h, how, hb⟩ => ⟨A, c, by rw [h, hn], own_pats how, hb⟩
theorem rsame_self (l : List Pat) (n : Nat) (hn : l.length = n) (hl : n ≤ 140737488355328) (A B : Option Addr) (c d : Nat) (w : World) (h1 : PatsAt w A l) (h2 : PatsAt w B l) :
    Calls Tryd.prog 53 #[.slice A n c, .slice B n d] w fun e w' => e = .returned (.bool true) ∧ Below w.heap.size w w' := by
  subst hn
  have h := rsame_any A B c d l l w hl hl h1 h2
  rw [samePs_self] at h
  exact h
theorem pats_nil (w : World) (A : Option Addr) : PatsAt w A [] := fun k p hp => by cases hp
theorem range_len {a wd lo hi : Nat} (h1 : 1 ≤ wd) (h2 : a % 16 + wd ≤ 16) (h4 : lo ≤ hi) (h5 : hi < 2 ^ wd) : (rangeL a wd lo hi).length ≤ max 1 (2 * wd - 2) :=
  range_few (Nat.lt_of_lt_of_le h5 (Nat.pow_le_pow_right (by decide) (show wd ≤ 16 by omega))) h1 h4 h5
theorem ok_nat {a wd lo hi : Int} (h : rangeOk a wd lo hi) : ∃ a' wd' lo' hi' : Nat, a = (a' : Int) ∧ wd = (wd' : Int) ∧ lo = (lo' : Int) ∧ hi = (hi' : Int) ∧ 1 ≤ wd' ∧ a' % 16 + wd' ≤ 16 ∧ a' + wd' ≤ 160 ∧ lo' ≤ hi' ∧ hi' < 2 ^ wd' := by
  obtain ⟨c1, c2, c3, c4, c5, c6, c7, c8⟩ := h
  obtain ⟨a', rfl⟩ : ∃ k : Nat, a = (k : Int) := ⟨a.toNat, by omega⟩
  obtain ⟨wd', rfl⟩ : ∃ k : Nat, wd = (k : Int) := ⟨wd.toNat, by omega⟩
  obtain ⟨lo', rfl⟩ : ∃ k : Nat, lo = (k : Int) := ⟨lo.toNat, by omega⟩
  obtain ⟨hi', rfl⟩ : ∃ k : Nat, hi = (k : Int) := ⟨hi.toNat, by omega⟩
  refine ⟨a', wd', lo', hi', rfl, rfl, rfl, rfl, by omega, by omega, by omega, by omega, ?_⟩
  have : ((wd' : Int)).toNat = wd' := by omega
  rw [this] at c8
  exact Int.ofNat_lt.1 c8
end Go.Proofs.YtbldnhpbmfmepaaDoor
