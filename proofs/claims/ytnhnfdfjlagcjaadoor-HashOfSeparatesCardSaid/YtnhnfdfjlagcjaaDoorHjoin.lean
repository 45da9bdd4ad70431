/-
  Contract of the walk over the reference's Joined. Conditions: at most 12 strings of at most 400 bytes.
-/
import Derived.Test.YtnhnfdfjlagcjaaDoorHoflaw
namespace Go.Proofs.YtnhnfdfjlagcjaaDoor
open Go.RowKit

/-- The first k strings, one behind the other. -/
def joinK (xs : List ByteArray) (k : Nat) : List UInt8 := (strsOf (xs.take k)).flatten
theorem joinK_succ (xs : List ByteArray) (k : Nat) (h : k < xs.length) : joinK xs (k + 1) = joinK xs k ++ xs[k].data.toList := by
  unfold joinK strsOf
  rw [List.take_succ_eq_append_getElem h]
  simp only [List.map_append, List.flatten_append, List.map_cons, List.map_nil, List.flatten_cons, List.flatten_nil, List.append_nil]
theorem joinK_take (xs : List ByteArray) (k j : Nat) (h : j ≤ k) : joinK (xs.take k) j = joinK xs j := by
  unfold joinK; rw [List.take_take, Nat.min_eq_left h]
theorem joinK_le (xs : List ByteArray) (hs : ∀ s ∈ xs, s.size ≤ 400) : ∀ k, k ≤ xs.length → (joinK xs k).length ≤ 400 * k
  | 0, _ => by simp [joinK, strsOf]
  | k + 1, h => by
    have ih := joinK_le xs hs k (by omega)
    have h2 := hs xs[k] (List.getElem_mem (by omega))
    rw [joinK_succ xs k (by omega), List.length_append, bytes_size]
    omega
theorem str_app (a : List UInt8) (s : ByteArray) : (⟨a.toArray⟩ : ByteArray) ++ s = ⟨(a ++ s.data.toList).toArray⟩ := by
  apply ByteArray.ext
  rw [ByteArray.data_append]
  apply Array.toList_inj.1
  simp
def JnRel (xs : List ByteArray) (w : World) (s i : Value) (wr : World) : Prop :=
  ∃ k : Nat, k ≤ xs.length ∧ i = .int .i64 k ∧ s = .string ⟨(joinK xs k).toArray⟩ ∧ Below w.heap.size w wr
set_option maxRecDepth 100000 in
set_option maxHeartbeats 400000 in
theorem joined_any (A : Option Addr) (cap n : Nat) (xs : List ByteArray) (J : List UInt8) (w : World) (hJ : Unit → joinK xs xs.length = J) (hn : n = xs.length) (h12 : n ≤ 12) (hs : ∀ s ∈ xs, s.size ≤ 400) (hh : Holds w A (xs.map Value.string)) :
    Calls Tryd.prog 21 #[.slice A n cap] w fun e w' => e = .returned (.string ⟨J.toArray⟩) ∧ Below w.heap.size w w' := by
  have hn1 : n ≤ xs.length := Nat.le_of_eq hn
  have hn2 : xs.length ≤ n := Nat.le_of_eq hn.symm
  have HS := Lib.hid hs
  clear hn hs
  go_enter Tryd.func21, Tryd.ntmps21
  go_wp2
  go_loopw [3, 4] (JnRel xs w) (fun _ i _ => xs.length - (intOf i).toNat)
  case atStart => exact ⟨0, Nat.zero_le _, rfl, rfl, Below.refl _ _⟩
  case round =>
    obtain ⟨k, hk, rfl, rfl, hbel⟩ := hrel
    by_cases hlt : k < xs.length
    · obtain ⟨ad, rfl, hcell⟩ := str_at (hh.next hbel) hlt
      have hjl := joinK_le xs HS.out k hk
      have hsc := Lib.hid (joinK_succ xs k hlt)
      have hsz : xs[k].size ≤ 400 := HS.out _ (List.getElem_mem hlt)
      have hjs : (⟨(joinK xs k).toArray⟩ : ByteArray).size ≤ 4800 := by rw [str_size]; omega
      have happ := Lib.hid (str_app (joinK xs k) xs[k])
      rw [← hsc.out] at happ
      generalize xs[k] = sk at hcell hsz happ
      generalize (⟨(joinK xs k).toArray⟩ : ByteArray) = js at hjs happ
      clear hjl hsc
      go_wp2
      go_roundw
      case rel => exact ⟨k + 1, hlt, by go_num, by rw [happ.out], hbel⟩
      case measure => simp [intOf]; omega
    · have hke : k = xs.length := by omega
      have hje : Hid (joinK xs k = J) := by rw [hke]; exact hJ ()
      rw [hje.out]
      clear hke hJ
      go_wp2
      go_ret
      exact ⟨rfl, hbel⟩
end Go.Proofs.YtnhnfdfjlagcjaaDoor
