/-
  Contracts of the walks over the reference's Bytes32 and Text. Conditions: none.
-/
import Derived.Test.YtnhnfdfjlagcjaaDoorHof
namespace Go.Proofs.YtnhnfdfjlagcjaaDoor
open Go.RowKit

def partB (l : List UInt8) (k : Nat) : List Value := (l.take k).map B8
theorem take_snocB (l : List UInt8) (k : Nat) (h : k < l.length) : partB l (k + 1) = partB l k ++ [B8 (l.getD k 0)] := by
  unfold partB
  rw [List.take_succ_eq_append_getElem h, List.map_append, List.getD_eq_getElem?_getD, List.getElem?_eq_getElem h]
  rfl
theorem one_cellB {w : World} {u : Value} {x : Value} {t : TypeId} {j : Nat} (h : [x][j]? = some u) : (w.alloc (.cells #[x] t)).cell? ((⟨w.heap.size, 0, none⟩ : Addr).add j) = some u := by
  match j, h with
  | 0, h => simp at h; subst h; simp [Addr.add]
def TxRel (l : List UInt8) (_gb : Nat) (w1 : World) (v i : Value) (wr : World) : Prop :=
  ∃ k : Nat, k ≤ 32 ∧ i = .int .i64 k ∧ wr.ownsRow w1.heap.size 5 1 v k (partB l k) ∧ Below w1.heap.size w1 wr
set_option maxRecDepth 100000 in
set_option maxHeartbeats 800000 in
theorem bytes32_any (l : List UInt8) (w : World) (hl : l.length = 32) :
    Calls Tryd.prog 25 #[.agg (l.map B8).toArray] w fun e w' => e = .returned (.string ⟨l.toArray⟩) ∧ Below w.heap.size w w' := by
  obtain ⟨i0, hi, hz0, hz1, hz2⟩ := info_parts Tryd.info8
  have HL := Lib.hid hl
  clear hl
  go_enter Tryd.func25, Tryd.ntmps25
  go_wp2_with (with_reducible refine wpList_box (o := ⟨some 1, .box 24 (.tmp 0), _, _, _, _⟩) ?g1 24 (.tmp 0) ?o1 (.agg (l.map B8).toArray) (l.map B8) ?x1 ?c1 ?_)
  try (case g1 => rfl)
  try (case o1 => rfl)
  try (case x1 => rfl)
  try (case c1 => rfl)
  intro gb w1 hgb hs1 hb1 hB1
  have hb : Below w.heap.size w w1 := hb1.mono (Nat.le_of_eq hgb.out.symm)
  clear hgb hs1 hb1
  go_wp2
  go_loopw [3, 4] (TxRel l gb w1) (fun _ i _ => 32 - (intOf i).toNat)
  case atStart => exact ⟨0, by omega, rfl, World.ownsRow_nil _ _ _ _, Below.refl _ _⟩
  case round =>
    obtain ⟨k, hk, rfl, hown, hbel⟩ := hrel
    by_cases hlt : k < 32
    · have hBr := hB1.next hbel hB1.lt
      have hc := hBr.cell (k := k) (v := B8 (l.getD k 0)) (by rw [List.getElem?_map, List.getD_eq_getElem?_getD, List.getElem?_eq_getElem (by rw [HL.out]; exact hlt)]; rfl)
      have hsn := Lib.hid (take_snocB l k (by rw [HL.out]; exact hlt))
      generalize l.getD k 0 = c at hc hsn
      unfold B8 at hc
      have hsz := hbel.size
      have hlt2 := hown.lt
      go_wp2_with (at_builtin; refine wpList_append_own _ rfl _ _ 22 rfl w1.heap.size 5 i0 (.int .u8 0) 1 1 Tryd.underlying22 hi hz0 hz1 hz2 rfl (by decide) _ _ _ rfl (hown.alloc _) ⟨wr.heap.size, 0, none⟩ 1 1 [.int .u8 (c.toNat : Int)] rfl ?c1 ?c2 ?c3 ?c4 ?c5 ?c6 ?_)
      case c1 => rfl
      case c2 => exact fun j u hu => one_cellB hu
      case c3 => exact one_cell1 rfl
      case c4 => unfold maxLen; omega
      case c5 => omega
      case c6 => simp; omega
      intro v3 w3 hown3 hgrow _
      have hbel3 := (hbel.alloc (by omega) _).grown hgrow (by simp; omega) (fun j hj => (hlt2 j hj).1)
      replace hown3 : w3.ownsRow w1.heap.size 5 1 v3 (k + 1) (partB l k ++ [B8 c]) := hown3
      rw [← hsn.out] at hown3
      clear hown hlt2 hgrow hbel hBr hc
      go_wp2
      go_roundw
      case rel => exact ⟨k + 1, by omega, by go_num, hown3, hbel3⟩
      case measure => simp [intOf]; omega
    · have hke : k = 32 := by omega
      have hta : partB l k = l.map B8 := by unfold partB; rw [List.take_of_length_le (by rw [HL.out]; omega)]
      rw [hta] at hown
      obtain ⟨g2, c2, rfl, hcs2⟩ := own_some hown (by omega)
      have hh : Holds wr (some ⟨g2, 0, none⟩) (l.map B8) := fun j u hu => ⟨_, rfl, hcs2 j u hu⟩
      have hcv := run_conv_later wr (some ⟨g2, 0, none⟩) c2 k l (by rw [HL.out]; exact hke) hh wr (Below.refl _ _)
      have hbelw := hb.trans (hbel.mono hb.size)
      clear hown hbel hh hcs2 hta hke
      go_wp2
      go_ret
      exact ⟨rfl, hbelw⟩
def TxRelD (l : List UInt8) (_gb : Nat) (w1 : World) (v i : Value) (wr : World) : Prop :=
  ∃ k : Nat, k ≤ 16 ∧ i = .int .i64 k ∧ wr.ownsRow w1.heap.size 5 1 v k (partB l k) ∧ Below w1.heap.size w1 wr
set_option maxRecDepth 100000 in
set_option maxHeartbeats 800000 in
theorem text_any (l : List UInt8) (w : World) (hl : l.length = 16) :
    Calls Tryd.prog 46 #[.agg (l.map B8).toArray] w fun e w' => e = .returned (.string ⟨l.toArray⟩) ∧ Below w.heap.size w w' := by
  obtain ⟨i0, hi, hz0, hz1, hz2⟩ := info_parts Tryd.info8
  have HL := Lib.hid hl
  clear hl
  go_enter Tryd.func46, Tryd.ntmps46
  go_wp2_with (with_reducible refine wpList_box (o := ⟨some 1, .box 44 (.tmp 0), _, _, _, _⟩) ?g1 44 (.tmp 0) ?o1 (.agg (l.map B8).toArray) (l.map B8) ?x1 ?c1 ?_)
  try (case g1 => rfl)
  try (case o1 => rfl)
  try (case x1 => rfl)
  try (case c1 => rfl)
  intro gb w1 hgb hs1 hb1 hB1
  have hb : Below w.heap.size w w1 := hb1.mono (Nat.le_of_eq hgb.out.symm)
  clear hgb hs1 hb1
  go_wp2
  go_loopw [3, 4] (TxRelD l gb w1) (fun _ i _ => 16 - (intOf i).toNat)
  case atStart => exact ⟨0, by omega, rfl, World.ownsRow_nil _ _ _ _, Below.refl _ _⟩
  case round =>
    obtain ⟨k, hk, rfl, hown, hbel⟩ := hrel
    by_cases hlt : k < 16
    · have hBr := hB1.next hbel hB1.lt
      have hc := hBr.cell (k := k) (v := B8 (l.getD k 0)) (by rw [List.getElem?_map, List.getD_eq_getElem?_getD, List.getElem?_eq_getElem (by rw [HL.out]; exact hlt)]; rfl)
      have hsn := Lib.hid (take_snocB l k (by rw [HL.out]; exact hlt))
      generalize l.getD k 0 = c at hc hsn
      unfold B8 at hc
      have hsz := hbel.size
      have hlt2 := hown.lt
      go_wp2_with (at_builtin; refine wpList_append_own _ rfl _ _ 22 rfl w1.heap.size 5 i0 (.int .u8 0) 1 1 Tryd.underlying22 hi hz0 hz1 hz2 rfl (by decide) _ _ _ rfl (hown.alloc _) ⟨wr.heap.size, 0, none⟩ 1 1 [.int .u8 (c.toNat : Int)] rfl ?c1 ?c2 ?c3 ?c4 ?c5 ?c6 ?_)
      case c1 => rfl
      case c2 => exact fun j u hu => one_cellB hu
      case c3 => exact one_cell1 rfl
      case c4 => unfold maxLen; omega
      case c5 => omega
      case c6 => simp; omega
      intro v3 w3 hown3 hgrow _
      have hbel3 := (hbel.alloc (by omega) _).grown hgrow (by simp; omega) (fun j hj => (hlt2 j hj).1)
      replace hown3 : w3.ownsRow w1.heap.size 5 1 v3 (k + 1) (partB l k ++ [B8 c]) := hown3
      rw [← hsn.out] at hown3
      clear hown hlt2 hgrow hbel hBr hc
      go_wp2
      go_roundw
      case rel => exact ⟨k + 1, by omega, by go_num, hown3, hbel3⟩
      case measure => simp [intOf]; omega
    · have hke : k = 16 := by omega
      have hta : partB l k = l.map B8 := by unfold partB; rw [List.take_of_length_le (by rw [HL.out]; omega)]
      rw [hta] at hown
      obtain ⟨g2, c2, rfl, hcs2⟩ := own_some hown (by omega)
      have hh : Holds wr (some ⟨g2, 0, none⟩) (l.map B8) := fun j u hu => ⟨_, rfl, hcs2 j u hu⟩
      have hcv := run_conv_later wr (some ⟨g2, 0, none⟩) c2 k l (by rw [HL.out]; exact hke) hh wr (Below.refl _ _)
      have hbelw := hb.trans (hbel.mono hb.size)
      clear hown hbel hh hcs2 hta hke
      go_wp2
      go_ret
      exact ⟨rfl, hbelw⟩
end Go.Proofs.YtnhnfdfjlagcjaaDoor
