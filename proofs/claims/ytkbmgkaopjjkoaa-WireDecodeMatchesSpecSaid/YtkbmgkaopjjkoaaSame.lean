/-
  Contracts of the walks over the reference's comparisons: Same, SameInts, SameTexts, SameDigests return true at equal lists. Conditions: at most 10^9 elements.
-/
import Derived.Test.YtkbmgkaopjjkoaaGetDig
import Derived.Deep.QuietTactic
import Derived.BigQuiet
namespace Go.Proofs.Ytkbmgkaopjjkoaa
open Go.RowKit

/-- A call that returns true and leaves what was there. -/
def TruePost (w : World) (e : Ending) (w' : World) : Prop := e = .returned (.bool true) ∧ Below w.heap.size w w'
theorem below_drewN {B : Nat} {a w : World} (h : Below B a w) (n : Nat) : Below B a (w.drewN n) := ⟨h.os, h.tape, h.output, h.size, h.block⟩

theorem same_any (A B : Option Addr) (m n capA capB : Nat) (l : List UInt8) (w : World) (hm : m = l.length) (hn : n = l.length) (hA : Holds w A (l.map B8)) (hB : Holds w B (l.map B8)) :
    Calls Try.prog 13 #[.slice A m capA, .slice B n capB] w (TruePost w) := by
  subst hm hn
  have rA := run_conv w A capA l hA
  have rB := run_conv w B capB l hB
  clear hA hB
  go_enter Try.func13, Try.ntmps13
  go_wp2_with fail
  go_ret
  exact ⟨by simp, Below.refl _ _⟩

def LoopRel (n : Nat) (w : World) (i : Value) (wr : World) : Prop := ∃ k : Nat, k ≤ n ∧ i = .int .i64 k ∧ Below w.heap.size w wr

set_option maxRecDepth 100000 in
set_option maxHeartbeats 800000 in
theorem sameInts_any (A B : Option Addr) (m n capA capB : Nat) (xs : List Int) (w : World) (hm : m = xs.length) (hn : n = xs.length) (hl : xs.length ≤ 1000000000) (hA : Holds w A (xs.map (Value.int .i64))) (hB : Holds w B (xs.map (Value.int .i64))) :
    Calls Try.prog 30 #[.slice A m capA, .slice B n capB] w (TruePost w) := by
  subst hm
  subst hn
  have hne : (((xs.length : Nat) : Int) != (xs.length : Int)) = false := by simp
  go_enter Try.func30, Try.ntmps30
  go_wp2_with fail
  go_loopw [5] (LoopRel xs.length w) (fun i _ => xs.length - (intOf i).toNat)
  case atStart => exact ⟨0, by omega, rfl, Below.refl _ _⟩
  case round =>
    obtain ⟨k, hk, rfl, hb⟩ := hrel
    by_cases hlt : k < xs.length
    · obtain ⟨ad, rfl, hca⟩ := (hA.keep (Keeps.of hb)).at_ (k := k) (by simpa using hlt)
      obtain ⟨bd, rfl, hcb⟩ := (hB.keep (Keeps.of hb)).at_ (k := k) (by simpa using hlt)
      rw [List.getElem_map] at hca hcb
      generalize xs[k] = x at hca hcb
      have hx : (x != x) = false := by simp
      clear hA hB
      go_wp2_with fail
      go_quiet (fail)
      all_goals go_wp2_with fail
      go_roundw
      case rel => exact ⟨k + 1, by omega, by go_num, below_drewN hb _⟩
      case measure => simp [intOf]; omega
    · clear hA hB
      go_wp2_with fail
      go_ret
      exact ⟨rfl, hb⟩
set_option maxRecDepth 100000 in
set_option maxHeartbeats 800000 in
theorem sameTexts_any (A B : Option Addr) (m n capA capB : Nat) (xs : List ByteArray) (w : World) (hm : m = xs.length) (hn : n = xs.length) (hl : xs.length ≤ 1000000000) (hA : Holds w A (xs.map Value.string)) (hB : Holds w B (xs.map Value.string)) :
    Calls Try.prog 33 #[.slice A m capA, .slice B n capB] w (TruePost w) := by
  subst hm
  subst hn
  have hne : (((xs.length : Nat) : Int) != (xs.length : Int)) = false := by simp
  go_enter Try.func33, Try.ntmps33
  go_wp2_with fail
  go_loopw [5] (LoopRel xs.length w) (fun i _ => xs.length - (intOf i).toNat)
  case atStart => exact ⟨0, by omega, rfl, Below.refl _ _⟩
  case round =>
    obtain ⟨k, hk, rfl, hb⟩ := hrel
    by_cases hlt : k < xs.length
    · obtain ⟨ad, rfl, hca⟩ := (hA.keep (Keeps.of hb)).at_ (k := k) (by simpa using hlt)
      obtain ⟨bd, rfl, hcb⟩ := (hB.keep (Keeps.of hb)).at_ (k := k) (by simpa using hlt)
      rw [List.getElem_map] at hca hcb
      generalize xs[k] = x at hca hcb
      have hx : (x.toList != x.toList) = false := by simp
      clear hA hB
      go_wp2_with fail
      go_quiet (fail)
      all_goals go_wp2_with fail
      go_roundw
      case rel => exact ⟨k + 1, by omega, by go_num, below_drewN hb _⟩
      case measure => simp [intOf]; omega
    · clear hA hB
      go_wp2_with fail
      go_ret
      exact ⟨rfl, hb⟩

theorem Try.cells5 : Try.prog.cellsOf 5 = 1 := by kernel_rfl
theorem Try.plain5 : Try.prog.plainKey 5 = true := by kernel_rfl
theorem eqItems_self (w : World) (l : List UInt8) : ∀ (is : List Nat), (∀ i ∈ is, i < l.length) → (Op.eqItems 9999 5 1 (l.map B8).toArray (l.map B8).toArray is).run Try.prog w = .ok true w
  | [], _ => by simp [Op.eqItems]
  | i :: is, h => by
    have hi := h i (by simp)
    have ih := eqItems_self w l is (fun j hj => h j (by simp [hj]))
    have hx : (l.map B8).toArray[i * 1]? = some (B8 l[i]) := by simp [List.getElem?_eq_getElem hi]
    have hp := run_part_plain (P := Try.prog) (w := w) Try.plain5 hx
    have he : (Op.equalIn 9999 5 (B8 l[i]) (B8 l[i])).run Try.prog w = .ok true w := by
      have := run_equalIn_int (P := Try.prog) w 9998 5 .u8 .u8 (l[i].toNat : Int) (l[i].toNat : Int) Try.underlying5
      rw [beq_self_eq_true] at this
      exact this
    simp only [Op.eqItems, Sem.run_bind, hp, Result.andThen_ok, he]
    simpa using ih
theorem neq57 (w : World) (l : List UInt8) (hl : l.length = 16) : (binOp .neq 57 (.agg (l.map B8).toArray) (.agg (l.map B8).toArray)).run Try.prog w = .ok (.bool false) w := by
  obtain ⟨i0, hi, _, _, _⟩ := info_parts Try.info8
  rw [run_neq_struct, run_equalIn_array (P := Try.prog) (w := w) 9999 _ _ Try.underlying57 hi, Try.cells5, eqItems_self w l _ (fun i h => by have := List.mem_range.1 h; omega)]
  rfl
theorem Try.guard57 : Try.prog.eqGuardType Try.prog.depth 57 = false := by kernel_rfl
theorem quiet_load57 {ops : Array Oper} {rest : List Oper} {o : Oper} {a : Act} {C : World → Prop} {Q : Act → Prop} (hw : Region.wanted o (yielded ops a.tmps) = true) (x : Operand) (ho : o.op = .load 57 x)
    (a0 : Addr) (hx : a.eval x = .pointer (some a0)) (l : List Value) (hl : l.length = 16) (hc : ∀ w, C w → ∀ j u, l[j]? = some u → w.cell? (a0.add j) = some u)
    (h : wpQuiet Try.prog ops C Q rest (a.put o.dst (.agg l.toArray))) : wpQuiet Try.prog ops C Q (o :: rest) a :=
  BigFrame.wpQuiet_want hw fun K hK => ⟨.agg l.toArray, fun w hC => by
    have hrun := run_load57 w a0 l hl (hc w hC)
    unfold Oper.quietAt execOp
    simp only [ho, hx, Instr.loadAt, Instr.sureAddr, Sem.run_bind, Sem.run_pure, Result.andThen_ok, hrun]
    exact ⟨rfl, rfl⟩, hK _ h⟩
theorem quiet_neq57 {ops : Array Oper} {rest : List Oper} {o : Oper} {a : Act} {C : World → Prop} {Q : Act → Prop} (hw : Region.wanted o (yielded ops a.tmps) = true) (x y : Operand) (ho : o.op = .binOp .neq 57 x y 57)
    (l : List UInt8) (hl : l.length = 16) (hx : a.eval x = .agg (l.map B8).toArray) (hy : a.eval y = .agg (l.map B8).toArray)
    (h : wpQuiet Try.prog ops C Q rest (a.put o.dst (.bool false))) : wpQuiet Try.prog ops C Q (o :: rest) a :=
  BigFrame.wpQuiet_want hw fun K hK => ⟨.bool false, fun w hC => by
    have hrun := neq57 w l hl
    unfold Oper.quietAt execOp
    simp only [ho, hx, hy, Sem.run_bind, Sem.run_pure, run_eqGuard_agg (P := Try.prog) w _ _ _ _ _ _ Try.guard57, Result.andThen_ok, hrun]
    exact ⟨rfl, rfl⟩, hK _ h⟩

theorem dig_holds {w : World} {A : Option Addr} {xs : List (List UInt8)} (hh : Holds w A (digCells xs)) (hok : ∀ d ∈ xs, d.length = 16) {k : Nat} (hk : k < xs.length) : ∃ ad, A = some ad ∧ ∀ j u, (xs[k].map B8)[j]? = some u → w.cell? ((ad.add (k * 16)).add j) = some u := by
  have hcells := fun j u (hu : (xs[k].map B8)[j]? = some u) => hh _ _ (digCells_get xs hok k hk j u hu)
  have hd := hok xs[k] (List.getElem_mem hk)
  obtain ⟨ad, rfl, _⟩ := hcells 0 (B8 (xs[k].getD 0 0)) (by simp [hd])
  refine ⟨ad, rfl, fun j u hu => ?_⟩
  obtain ⟨ad', e, hc⟩ := hcells j u hu
  cases e
  rw [add_add]; exact hc

set_option maxRecDepth 100000 in
set_option maxHeartbeats 800000 in
theorem sameDigests_any (A B : Option Addr) (m n capA capB : Nat) (xs : List (List UInt8)) (w : World) (hm : m = xs.length) (hn : n = xs.length) (hl : xs.length ≤ 1000000000) (hok : ∀ d ∈ xs, d.length = 16) (hA : Holds w A (digCells xs)) (hB : Holds w B (digCells xs)) :
    Calls Try.prog 36 #[.slice A m capA, .slice B n capB] w (TruePost w) := by
  subst hm
  subst hn
  have hne : (((xs.length : Nat) : Int) != (xs.length : Int)) = false := by simp
  go_enter Try.func36, Try.ntmps36
  go_wp2_with fail
  go_loopw [5] (LoopRel xs.length w) (fun i _ => xs.length - (intOf i).toNat)
  case atStart => exact ⟨0, by omega, rfl, Below.refl _ _⟩
  case round =>
    obtain ⟨k, hk, rfl, hb⟩ := hrel
    by_cases hlt : k < xs.length
    · obtain ⟨ad, rfl, hca⟩ := dig_holds (hA.keep (Keeps.of hb)) hok hlt
      obtain ⟨bd, rfl, hcb⟩ := dig_holds (hB.keep (Keeps.of hb)) hok hlt
      have hd := hok xs[k] (List.getElem_mem hlt)
      generalize xs[k] = d at hca hcb hd
      have HA := Lib.hid hca
      have HB := Lib.hid hcb
      have HD := Lib.hid hd
      clear hA hB hca hcb hd
      go_wp2_with fail
      refine wp_region_quiet_lit (by kernel_rfl) (by kernel_rfl) ?_
      iterate 3 (go_big_quiet_step (fail))
      refine quiet_load57 rfl (.tmp 19) rfl (ad.add (k * 16)) rfl (d.map B8) (by rw [List.length_map]; exact HD.out) (fun w' hw' j u hu => by obtain ⟨q, rfl⟩ := hw'; exact HA.out j u hu) ?_
      go_simp
      iterate 3 (go_big_quiet_step (fail))
      refine quiet_load57 rfl (.tmp 23) rfl (bd.add (k * 16)) rfl (d.map B8) (by rw [List.length_map]; exact HD.out) (fun w' hw' j u hu => by obtain ⟨q, rfl⟩ := hw'; exact HB.out j u hu) ?_
      go_simp
      refine quiet_neq57 rfl (.tmp 20) (.tmp 24) rfl d HD.out rfl rfl ?_
      go_simp
      refine wpQuiet_nil ?_
      intro nq
      go_wp2_with fail
      go_roundw
      case rel => exact ⟨k + 1, by omega, by go_num, below_drewN hb _⟩
      case measure => simp [intOf]; omega
    · clear hA hB
      go_wp2_with fail
      go_ret
      exact ⟨rfl, hb⟩
end Go.Proofs.Ytkbmgkaopjjkoaa
