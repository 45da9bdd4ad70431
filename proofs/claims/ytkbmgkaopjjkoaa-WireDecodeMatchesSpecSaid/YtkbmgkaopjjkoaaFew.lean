/-
  The contract of the walk over the statements' helper few. Conditions: the lengths' sum is below 2^62.
-/
import Derived.Test.YtkbmgkaopjjkoaaConcat
namespace Go.Proofs.Ytkbmgkaopjjkoaa
open Go.RowKit

def total : List ByteArray → Nat
  | [] => 0
  | s :: r => s.size + total r
theorem total_succ : ∀ (xs : List ByteArray) (k : Nat) (h : k < xs.length), total (xs.take (k + 1)) = total (xs.take k) + xs[k].size
  | s :: r, 0, _ => by simp [total]
  | s :: r, k + 1, h => by
    have := total_succ r k (by simpa using h)
    simp only [List.take_succ_cons, total, List.getElem_cons_succ]; omega
theorem total_take_le : ∀ (xs : List ByteArray) (k : Nat), total (xs.take k) ≤ total xs
  | [], k => by simp
  | s :: r, 0 => by simp [total]
  | s :: r, k + 1 => by
    have := total_take_le r k
    simp only [List.take_succ_cons, total]; omega
theorem encStrs_le : ∀ (xs : List ByteArray), total xs ≤ 1000000000 → ((strs xs).flatMap WM.encB).length ≤ xs.length * 10 + total xs
  | [], _ => by simp [strs, total]
  | s :: r, h => by
    simp only [total] at h
    have h1 := encStrs_le r (by omega)
    have h2 := encB_le (s := s.data.toList) (by rw [bytes_size]; omega)
    rw [bytes_size] at h2
    have e : strs (s :: r) = s.data.toList :: strs r := rfl
    rw [e, List.flatMap_cons, List.length_append]
    simp only [total, List.length_cons, Nat.succ_mul]; omega
theorem encStrings_le {xs : List ByteArray} (h : xs.length + total xs ≤ 1000000000) : (WM.encAll WM.encB (strs xs)).length ≤ 10 + xs.length * 10 + total xs := by
  have h1 := encStrs_le xs (by omega)
  have h2 := lenN_le (strs xs).length (by rw [strs_length]; omega)
  unfold WM.encAll; rw [List.length_append]; omega
theorem strs_strV (xs : List ByteArray) : (strs xs).map strV = xs.map Value.string := by
  unfold strs strV; rw [List.map_map]
  apply List.map_congr_left
  intro s _
  show Value.string ⟨s.data.toList.toArray⟩ = _
  rw [ba_eq]
theorem strs_ok {xs : List ByteArray} (h : xs.length + total xs ≤ 1000000000) : WM.okAll WM.okB (strs xs) := by
  refine ⟨fun s hs => ?_, by rw [strs_length]; omega⟩
  unfold strs at hs
  obtain ⟨b, hb, rfl⟩ := List.mem_map.1 hs
  have : b.size ≤ total xs := by
    clear hs h
    induction xs with
    | nil => cases hb
    | cons x r ih =>
      simp only [total]
      rcases List.mem_cons.1 hb with rfl | hb
      · omega
      · have := ih hb; omega
  show b.data.toList.length ≤ _
  rw [bytes_size]; omega

def FewRel (xs : List ByteArray) (n i : Value) : Prop := ∃ k : Nat, k ≤ xs.length ∧ i = .int .i64 k ∧ n = .int .i64 ((xs.length + total (xs.take k) : Nat) : Int)

set_option maxRecDepth 100000 in
set_option maxHeartbeats 800000 in
theorem few_is (b : Bool) (A : Option Addr) (m cap : Nat) (xs : List ByteArray) (w : World) (hm : m = xs.length) (hsum : xs.length + total xs ≤ 4611686018427387904) (hA : Holds w A (xs.map Value.string)) (hb : decide (xs.length + total xs ≤ 2000) = b) :
    Calls Try.prog 11 #[.slice A m cap] w fun e w' => e = .returned (.bool b) ∧ w = w' := by
  subst hm
  have HB := Lib.hid hb
  clear hb
  go_enter Try.func11, Try.ntmps11
  go_wp2_with fail
  go_loop [3, 10] (FewRel xs) (fun _ i => xs.length - (intOf i).toNat)
  case atStart => exact ⟨0, by omega, rfl, by simp [total]⟩
  case round =>
    obtain ⟨k, hk, rfl, rfl⟩ := hrel
    have hle := total_take_le xs k
    by_cases hlt : k < xs.length
    · obtain ⟨ad, rfl, hcell⟩ := hA.at_ (k := k) (by simpa using hlt)
      rw [List.getElem_map] at hcell
      have hs := total_succ xs k hlt
      have hle2 := total_take_le xs (k + 1)
      have HS := Lib.hid hs
      have hsz : xs[k].size ≤ 4611686018427387904 := by omega
      have hadd : xs.length + total (xs.take k) + xs[k].size ≤ 4611686018427387904 := by omega
      clear hs hle2 hA
      generalize xs[k] = x at hcell HS hsz hadd
      go_wp2_with fail
      go_round
      case rel => exact ⟨k + 1, by omega, by go_num, by rw [HS.out]; go_num⟩
      case measure => simp [intOf]; omega
    · clear hA
      go_wp2_with fail
      go_ret
      have hkn : k = xs.length := by omega
      subst hkn
      rw [List.take_length]
      refine ⟨?_, rfl⟩
      rw [← HB.out]
      congr 2
      simp
      omega
end Go.Proofs.Ytkbmgkaopjjkoaa
