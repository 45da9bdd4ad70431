/-
  Contracts of the walks over the reference's Few and Input. Conditions: what comes in is at most 2^47 bytes.
-/
import Derived.Test.YtnhnfdfjlagcjaaDoorHof
namespace Go.Proofs.YtnhnfdfjlagcjaaDoor
open Go.RowKit

def fewB (xs : List ByteArray) : Bool := decide (xs.length ≤ 12) && xs.all fun s => decide (s.size ≤ 400)
def FewRel (xs : List ByteArray) (w : World) (i : Value) (wr : World) : Prop :=
  ∃ k : Nat, k ≤ xs.length ∧ i = .int .i64 k ∧ Hid ((xs.take k).all (fun s => decide (s.size ≤ 400)) = true) ∧ Below w.heap.size w wr
theorem few_step (xs : List ByteArray) (k : Nat) (h : k < xs.length) (ha : (xs.take k).all (fun s => decide (s.size ≤ 400)) = true) (hs : xs[k].size ≤ 400) : (xs.take (k + 1)).all (fun s => decide (s.size ≤ 400)) = true := by
  rw [List.take_succ_eq_append_getElem h, List.all_append, ha]
  simp [hs]
theorem few_no (xs : List ByteArray) (k : Nat) (h : k < xs.length) (hs : ¬ xs[k].size ≤ 400) : fewB xs = false := by
  unfold fewB
  rw [Bool.and_eq_false_iff]
  right
  rw [List.all_eq_false]
  exact ⟨xs[k], List.getElem_mem h, by simpa using hs⟩

set_option maxRecDepth 100000 in
theorem few_any (A : Option Addr) (cap n : Nat) (xs : List ByteArray) (w : World) (hn : n = xs.length) (hz : n * 16 ≤ 140737488351232) (hh : Holds w A (xs.map Value.string)) (hb : ∀ s ∈ xs, s.size ≤ 140737488351232) :
    Calls Tryd.prog 18 #[.slice A n cap] w fun e w' => e = .returned (.bool (fewB xs)) ∧ Below w.heap.size w w' := by
  have hn1 : n ≤ xs.length := Nat.le_of_eq hn
  have hn2 : xs.length ≤ n := Nat.le_of_eq hn.symm
  clear hn
  by_cases h12 : 12 < n
  · have hf : Hid (fewB xs = false) := by
      have : fewB xs = false := by unfold fewB; rw [decide_eq_false (by omega)]; rfl
      exact this
    go_enter Tryd.func18, Tryd.ntmps18
    go_wp2
    go_ret
    exact ⟨by rw [hf.out]; rfl, Below.refl _ _⟩
  · go_enter Tryd.func18, Tryd.ntmps18
    go_wp2
    go_loopw [3] (FewRel xs w) (fun i _ => xs.length - (intOf i).toNat)
    case atStart => exact ⟨0, Nat.zero_le _, rfl, rfl, Below.refl _ _⟩
    case round =>
      obtain ⟨k, hk, rfl, hall, hbel⟩ := hrel
      by_cases hlt : k < xs.length
      · obtain ⟨ad, rfl, hcell⟩ := str_at (hh.next hbel) hlt
        have hst := Lib.hid (few_step xs k hlt hall.out)
        have hno := Lib.hid (few_no xs k hlt)
        have hsz : xs[k].size ≤ 140737488351232 := hb _ (List.getElem_mem hlt)
        generalize xs[k] = sk at hcell hst hno hsz
        by_cases h4 : sk.size ≤ 400
        · have HST := Lib.hid (hst.out h4)
          go_wp2
          go_roundw
          case rel => exact ⟨k + 1, hlt, by go_num, HST, hbel⟩
          case measure => simp [intOf]; omega
        · have hf := Lib.hid (hno.out h4)
          have h4' : 400 < sk.size := by omega
          go_wp2
          go_ret
          exact ⟨by rw [hf.out]; rfl, hbel⟩
      · have hf : Hid (fewB xs = true) := by
          have : fewB xs = true := by
            unfold fewB
            have := hall.out
            rw [List.take_of_length_le (by omega)] at this
            rw [this, decide_eq_true (by omega)]; rfl
          exact this
        go_wp2
        go_ret
        exact ⟨by rw [hf.out]; rfl, hbel⟩

def InRel (t : Int) (xs : List ByteArray) (w : World) (v i : Value) (wr : World) : Prop :=
  ∃ k : Nat, k ≤ xs.length ∧ i = .int .i64 k ∧ wr.ownsRow w.heap.size 5 1 v (ofTo t xs k).length ((ofTo t xs k).map B8) ∧ Below w.heap.size w wr
set_option maxRecDepth 100000 in
set_option maxHeartbeats 1600000 in
theorem input_any (A : Option Addr) (cap n : Nat) (t : Int) (xs : List ByteArray) (w : World) (hn : n = xs.length) (hn1 : n ≤ 1000000) (hl : (ofIn t xs).length ≤ 1000000000) (hh : Holds w A (xs.map Value.string)) :
    Calls Tryd.prog 28 #[.int .i64 t, .slice A n cap] w (PutPost (ofIn t xs) w) := by
  obtain ⟨i0, hi, hz0, hz1, hz2⟩ := info_parts Tryd.info8
  have HN := Lib.hid hn
  clear hn
  have htb := Lib.hid (tagB_eq t)
  go_enter Tryd.func28, Tryd.ntmps28
  go_wp2
  go_loopw [5, 6] (InRel t xs w) (fun _ i _ => xs.length - (intOf i).toNat)
  case atStart =>
    refine ⟨0, Nat.zero_le _, rfl, ?_, below_new w _⟩
    have := World.ownsRow_lit (base := w.heap.size) (e := 5) (size := 1) w #[Value.int .u8 (t % 256)] 1 (Nat.le_refl _) (by decide) rfl
    rw [← htb.out] at this ⊢
    exact this
  case round =>
    obtain ⟨k, hk, rfl, hown, hbel⟩ := hrel
    have hN1 : n ≤ xs.length := Nat.le_of_eq HN.out
    have hN2 : xs.length ≤ n := Nat.le_of_eq HN.out.symm
    by_cases hlt : k < xs.length
    · obtain ⟨ad, rfl, hcell⟩ := str_at (hh.next hbel) hlt
      have hbig := encB_big xs[k] t xs k hlt rfl
      have hsz := encB_size xs[k]
      have hps := encB_pos xs[k].data.toList
      have hsn := Lib.hid (ofTo_succ t xs k hlt)
      generalize xs[k] = sk at hcell hbig hsz hps hsn
      have hb2 := hbel.size
      go_wp2_with fail
      (with_reducible refine (refBytes_any sk _ (by omega)).mono ?_)
      rintro e w2 ⟨v2, rfl, hown2, hbw⟩
      obtain ⟨g2, c2, rfl, hcs2⟩ := own_some hown2 hps
      have hown' := own_next hown hbw
      have hbel2 := hbel.trans (hbw.mono hb2)
      have hb3 := hbw.size
      have hlt2 := hown'.lt
      clear hown hbel hbw hown2
      go_wp2_with (at_builtin; refine wpList_append_own _ rfl _ _ 22 rfl w.heap.size 5 i0 (.int .u8 0) 1 1 Tryd.underlying22 hi hz0 hz1 hz2 rfl (by decide) _ _ _ rfl hown' ⟨g2, 0, none⟩ (WM.encB sk.data.toList).length c2 ((WM.encB sk.data.toList).map B8) rfl ?c1 ?c2 ?c3 ?c4 ?c5 ?c6 ?_)
      case c1 => rw [List.length_map, Nat.mul_one]
      case c2 => exact hcs2
      case c3 => exact B8_one _
      case c4 => unfold maxLen; omega
      case c5 => omega
      case c6 => omega
      intro v3 w3 hown3 hgrow _
      have hbel3 := hbel2.grown hgrow (by omega) (fun j hj => (hlt2 j hj).1)
      rw [← List.map_append, ← List.length_append, ← hsn.out] at hown3
      clear hown' hlt2 hcs2 hgrow hbel2
      go_wp2
      go_roundw
      case rel => exact ⟨k + 1, by omega, by go_num, hown3, hbel3⟩
      case measure => simp [intOf]; omega
    · have hke : k = xs.length := by omega
      rw [hke, ofTo_all] at hown
      clear hke
      go_wp2
      go_ret
      exact ⟨_, rfl, hown, hbel⟩
end Go.Proofs.YtnhnfdfjlagcjaaDoor
