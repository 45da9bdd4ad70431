/-
  Contracts of the walks over chapter 1's encoding of lists of integers and of byte strings: wire.list[int], wire.Ints, wire.list[string], wire.Strings. Conditions: the encoding has at most 10^9 bytes.
-/
import Derived.Test.YtkbmgkaopjjkoaaStr
namespace Go.Proofs.Ytkbmgkaopjjkoaa
open Go.RowKit

theorem Holds.at_ {w : World} {A : Option Addr} {xs : List Value} (h : Holds w A xs) {k : Nat} (hk : k < xs.length) : ∃ ad, A = some ad ∧ w.cell? (ad.add k) = some xs[k] := h k _ (List.getElem?_eq_getElem hk)

/-- The bytes of a row's first part. -/
def partI (n : Nat) {α : Type} (enc : α → List UInt8) (xs : List α) (k : Nat) : List UInt8 := WM.encI n ++ (xs.take k).flatMap enc
theorem partI_zero (n : Nat) {α : Type} (enc : α → List UInt8) (xs : List α) : partI n enc xs 0 = WM.encI n := by simp [partI]
theorem partI_succ (n : Nat) {α : Type} (enc : α → List UInt8) (xs : List α) (k : Nat) (hk : k < xs.length) : partI n enc xs (k + 1) = partI n enc xs k ++ enc xs[k] := by
  unfold partI; rw [List.take_succ_eq_append_getElem hk, List.flatMap_append, List.flatMap_singleton, List.append_assoc]
theorem partI_all {α : Type} (enc : α → List UInt8) (xs : List α) : partI xs.length enc xs xs.length = WM.encAll enc xs := by unfold partI WM.encAll; rw [List.take_length]
theorem flat_take_le {α : Type} (enc : α → List UInt8) : ∀ (xs : List α) (k : Nat), ((xs.take k).flatMap enc).length ≤ (xs.flatMap enc).length
  | [], k => by simp
  | x :: xs, 0 => by simp
  | x :: xs, k + 1 => by
    have := flat_take_le enc xs k
    simp only [List.take_succ_cons, List.flatMap_cons, List.length_append]; omega
theorem partI_le {α : Type} (enc : α → List UInt8) (xs : List α) (k : Nat) : (partI xs.length enc xs k).length ≤ (WM.encAll enc xs).length := by
  have := flat_take_le enc xs k
  unfold partI WM.encAll; rw [List.length_append, List.length_append]; omega
theorem enc_le {α : Type} (enc : α → List UInt8) : ∀ (xs : List α) (k : Nat) (hk : k < xs.length), (enc xs[k]).length ≤ (xs.flatMap enc).length
  | x :: xs, 0, _ => by simp only [List.flatMap_cons, List.length_append, List.getElem_cons_zero]; omega
  | x :: xs, k + 1, h => by
    have := enc_le enc xs k (by simpa using h)
    simp only [List.flatMap_cons, List.length_append, List.getElem_cons_succ]; omega

/-- What the loop over a list has done after k rounds. -/
def PutRel {α : Type} (enc : α → List UInt8) (xs : List α) (w : World) (b i : Value) (wr : World) : Prop :=
  ∃ k : Nat, k ≤ xs.length ∧ i = .int .i64 k ∧ wr.ownsRow w.heap.size 5 1 b (partI xs.length enc xs k).length ((partI xs.length enc xs k).map B8) ∧ Below w.heap.size w wr

def PutPost (bs : List UInt8) (w : World) (e : Ending) (w' : World) : Prop := ∃ v', e = .returned v' ∧ w'.ownsRow w.heap.size 5 1 v' bs.length (bs.map B8) ∧ Below w.heap.size w w'

set_option maxRecDepth 100000 in
set_option maxHeartbeats 800000 in
theorem listInts_any (A : Option Addr) (cap : Nat) (xs : List Int) (w : World) (hok : ∀ x ∈ xs, WM.okI x) (hl : (WM.encAll WM.encI xs).length ≤ 1000000000) (hn : xs.length ≤ 1000000000) (hh : Holds w A (xs.map (Value.int .i64))) :
    Calls Try.prog 40 #[.slice A xs.length cap, .func (.func 38) #[] #[]] w (PutPost (WM.encAll WM.encI xs) w) := by
  go_enter Try.func40, Try.ntmps40
  go_wp2_with fail
  refine (int_any (xs.length : Int) _ (by omega) (by omega)).mono ?_
  rintro e w1 ⟨v1, rfl, hown1, hb1⟩
  go_wp2_with fail
  go_loopw [5, 13] (PutRel WM.encI xs w) (fun _ i _ => xs.length - (intOf i).toNat)
  case atStart => exact ⟨0, by omega, rfl, by rw [partI_zero]; exact hown1, hb1⟩
  case round =>
    obtain ⟨k, hk, rfl, hown, hb⟩ := hrel
    have hsz := hb.size
    by_cases hlt : k < xs.length
    · obtain ⟨ad, rfl, hcell⟩ := (hh.keep (Keeps.of hb)).at_ (k := k) (by simpa using hlt)
      rw [List.getElem_map] at hcell
      have hx := hok xs[k] (List.getElem_mem hlt)
      have HP := Lib.hid (partI_succ xs.length WM.encI xs k hlt)
      have hpl := partI_le WM.encI xs k
      generalize xs[k] = x at hcell hx HP
      go_wp2_with fail
      refine (addInt_any w.heap.size _ _ _ x _ hx.1 hx.2 hown (by omega) (by omega)).mono ?_
      rintro e w2 ⟨v2, rfl, hown2, hb2⟩
      clear hown hcell
      go_wp2_with fail
      go_roundw
      case rel => exact ⟨k + 1, by omega, by go_num, by rw [HP.out, List.length_append, List.map_append]; exact hown2, hb.trans hb2⟩
      case measure => simp [intOf]; omega
    · go_wp2_with fail
      go_ret
      have hkn : k = xs.length := by omega
      subst hkn
      rw [partI_all] at hown
      exact ⟨_, rfl, hown, hb⟩

/-- The contract of Ints. -/
theorem ints_any (A : Option Addr) (cap : Nat) (xs : List Int) (w : World) (hok : ∀ x ∈ xs, WM.okI x) (hl : (WM.encAll WM.encI xs).length ≤ 1000000000) (hn : xs.length ≤ 1000000000) (hh : Holds w A (xs.map (Value.int .i64))) :
    Calls Try.prog 18 #[.slice A xs.length cap] w (PutPost (WM.encAll WM.encI xs) w) := by
  go_enter Try.func18, Try.ntmps18
  go_wp2_with fail
  refine (listInts_any A cap xs w hok hl hn hh).mono ?_
  rintro e w1 ⟨v1, rfl, hown1, hb1⟩
  go_wp2_with fail
  go_ret
  exact ⟨_, rfl, hown1, hb1⟩

/-- A list of strings, as their bytes. -/
def strs (xs : List ByteArray) : List (List UInt8) := xs.map fun s => s.data.toList
theorem strs_length (xs : List ByteArray) : (strs xs).length = xs.length := by simp [strs]
theorem strs_get (xs : List ByteArray) (k : Nat) (h : k < (strs xs).length) (h' : k < xs.length) : (strs xs)[k] = xs[k].data.toList := by simp [strs]

set_option maxRecDepth 100000 in
set_option maxHeartbeats 800000 in
theorem listStrings_any (A : Option Addr) (cap : Nat) (xs : List ByteArray) (w : World) (hl : (WM.encAll WM.encB (strs xs)).length ≤ 1000000000) (hn : xs.length ≤ 1000000000) (hh : Holds w A (xs.map Value.string)) :
    Calls Try.prog 41 #[.slice A xs.length cap, .func (.func 39) #[] #[]] w (PutPost (WM.encAll WM.encB (strs xs)) w) := by
  have hsl : (strs xs).length = xs.length := by unfold strs; simp
  go_enter Try.func41, Try.ntmps41
  have HSL := Lib.hid hsl
  clear hsl
  go_wp2_with fail
  refine (int_any (xs.length : Int) _ (by omega) (by omega)).mono ?_
  rintro e w1 ⟨v1, rfl, hown1, hb1⟩
  go_wp2_with fail
  go_loopw [5, 13] (PutRel WM.encB (strs xs) w) (fun _ i _ => xs.length - (intOf i).toNat)
  case atStart => exact ⟨0, by omega, rfl, by rw [partI_zero, HSL.out]; exact hown1, hb1⟩
  case round =>
    obtain ⟨k, hk, rfl, hown, hb⟩ := hrel
    have hk' : k ≤ xs.length := by rw [HSL.out] at hk; exact hk
    have hsz := hb.size
    clear hk
    by_cases hlt : k < xs.length
    · obtain ⟨ad, rfl, hcell⟩ := (hh.keep (Keeps.of hb)).at_ (k := k) (by simpa using hlt)
      rw [List.getElem_map] at hcell
      have hlt' : k < (strs xs).length := by rw [HSL.out]; exact hlt
      have HP := Lib.hid (partI_succ (strs xs).length WM.encB (strs xs) k hlt')
      have hpl := partI_le WM.encB (strs xs) k
      have hx : xs[k].size ≤ 1000000000 := by
        have h1 := enc_le WM.encB (strs xs) k hlt'
        have h2 : (WM.encB (strs xs)[k]).length = (WM.encI ((strs xs)[k].length : Int)).length + (strs xs)[k].length := by unfold WM.encB; rw [List.length_append]
        have h3 : (strs xs)[k].length = xs[k].size := by rw [strs_get xs k hlt' hlt]; exact bytes_size _
        unfold WM.encAll at hl
        rw [List.length_append] at hl
        omega
      have he : WM.encB (strs xs)[k] = WM.encB xs[k].data.toList := by rw [strs_get xs k hlt' hlt]
      rw [he] at HP
      clear he hlt'
      generalize xs[k] = x at hcell hx HP
      go_wp2_with fail
      refine (addBytes_any w.heap.size _ _ _ x _ hx hown (by omega) (by omega)).mono ?_
      rintro e w2 ⟨v2, rfl, hown2, hb2⟩
      clear hown hcell
      go_wp2_with fail
      go_roundw
      case rel => exact ⟨k + 1, by rw [HSL.out]; omega, by go_num, by rw [HP.out, List.length_append, List.map_append]; exact hown2, hb.trans hb2⟩
      case measure => simp [intOf]; omega
    · go_wp2_with fail
      go_ret
      have hkn : k = (strs xs).length := by rw [HSL.out]; omega
      subst hkn
      rw [partI_all] at hown
      exact ⟨_, rfl, hown, hb⟩

/-- The contract of Strings. -/
theorem strings_any (A : Option Addr) (cap : Nat) (xs : List ByteArray) (w : World) (hl : (WM.encAll WM.encB (strs xs)).length ≤ 1000000000) (hn : xs.length ≤ 1000000000) (hh : Holds w A (xs.map Value.string)) :
    Calls Try.prog 20 #[.slice A xs.length cap] w (PutPost (WM.encAll WM.encB (strs xs)) w) := by
  go_enter Try.func20, Try.ntmps20
  go_wp2_with fail
  refine (listStrings_any A cap xs w hl hn hh).mono ?_
  rintro e w1 ⟨v1, rfl, hown1, hb1⟩
  go_wp2_with fail
  go_ret
  exact ⟨_, rfl, hown1, hb1⟩
end Go.Proofs.Ytkbmgkaopjjkoaa
