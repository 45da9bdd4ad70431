/-
  Contracts of the functions that the statement calls, part 7 of 25 (merged texts: Bs, Bt). Conditions: as the head of each part says.
-/
import Derived.BigQuiet
import Derived.ChangeKeysEq
import Derived.Deep.MidRow
import Derived.Deep.QuietTactic
import Derived.Deep.RegionHeld
import Derived.Deep.RegionHeld3
import Derived.Laws.BytesArg
import Derived.Laws.CopyOwn
import Derived.Laws.CopyRow
import Derived.Laws.Rows
import Derived.Laws.StructEq
import Derived.Laws.World
import Derived.Lib.BufferWrite
import Derived.Lib.Hide
import Derived.Outline
import Derived.StillTailTactics
import Derived.Test.YtbgndopgllnmaaaDoorRows
import Derived.WalkKit
import Derived.WalkMore
import Derived.Test.YtbgndopgllnmaaaDoorGE
import Derived.Test.YtbgndopgllnmaaaDoorGF

/-
  Contracts of the walks over And and its like: two halves of a pattern made by two calls. Conditions: none.
-/

namespace Go.Proofs.YtbgndopgllnmaaaDoor
set_option linter.unusedVariables false
set_option linter.unusedSimpArgs false
open Go.RowKit

theorem results_cell_two {P : Program} {fn : Func} {p q : Tmp} {ty : TypeId} (h : fn.results = #[.cell p ty, .tmp q]) (tmps : Array Value) (w : World) (g : Nat) (t : TypeId) (cs : Array Value) (fr : Nat × Nat) (d : TypeDesc) (v : Value)
    (hp : tmps.getD p undef = .pointer (some ⟨g, 0, none⟩)) (hq : tmps.getD q undef = v) (hg : w.heap[g]? = some (.cells cs t fr))
    (hu : P.underlying ty = some d) (hd : (match d with | .struct _ | .array _ _ => true | _ => false) = true) (hi : (P.info? ty).map (·.size) = some cs.size) :
    (results fn tmps).run P w = .ok (.tuple #[.agg cs, v]) w := by
  have hp' : tmps[p]?.getD undef = .pointer (some ⟨g, 0, none⟩) := by simpa using hp
  have hq' : tmps[q]?.getD undef = v := by simpa using hq
  simp [results, h, hp', hq', asAddr, run_loadVar_row w g t ty cs fr d hg hu hd hi]
def Pat.zero : Pat := ⟨no, no⟩
def Pat.and (p q : Pat) : Pat := ⟨fun i => p.m i || q.m i, fun i => p.b i || q.b i⟩
theorem cells_one (p : Pat) : ∀ u ∈ p.cells, u.oneCell' = true := by
  intro u hu
  unfold Pat.cells at hu
  rcases List.mem_append.1 hu with h | h
  · exact H_one _ u h
  · exact H_one _ u h
theorem cells_zero : (H no ++ H no) = Pat.zero.cells := rfl
theorem at_m {w : World} {g : Nat} {t : TypeId} {p : Pat} (h : Blk w g t p.cells) : w.rangeAt g 0 (H p.m) := fun j v hv => by
  rw [Nat.zero_add]
  have hj := (List.getElem?_eq_some_iff.1 hv).1
  rw [H_length] at hj
  rw [H_get _ hj] at hv
  cases hv
  exact h.cell (cells_m p hj)
theorem at_b {w : World} {g : Nat} {t : TypeId} {p : Pat} (h : Blk w g t p.cells) : w.rangeAt g 10 (H p.b) := fun j v hv => by
  have hj := (List.getElem?_eq_some_iff.1 hv).1
  rw [H_length] at hj
  rw [H_get _ hj] at hv
  cases hv
  exact h.cell (cells_b p hj)
end Go.Proofs.YtbgndopgllnmaaaDoor

/-
  Contracts of the walks over Apply and count. Conditions: none.
-/

namespace Go.Proofs.YtbgndopgllnmaaaDoor
set_option linter.unusedVariables false
set_option linter.unusedSimpArgs false
open Go.RowKit

theorem Tryd.szM : (Tryd.prog.info? 53).map (·.size) = some 20 := by kernel_rfl
theorem Tryd.zeroMd : (Tryd.prog.info? 53).map (·.zero) = some (some (.agg (H no ++ H no).toArray)) := by kernel_rfl
/-- What a mod makes of a head. -/
def Pat.app (m : Pat) (h : Nat → Bool) : Nat → Bool := fun i => (h i && !m.m i) || m.b i
def AppRel (m : Pat) (f r : Nat → Bool) (ga gb gr : Nat) (w : World) (i : Value) (wr : World) : Prop :=
  ∃ k : Nat, k ≤ 10 ∧ i = .int .i64 k ∧ Blk wr gb 30 (H (upto f r k)) ∧ Blk wr ga 53 m.cells ∧ Blk wr gr 30 (H no) ∧ Below w.heap.size w wr
set_option maxRecDepth 100000 in
set_option maxHeartbeats 1600000 in
theorem apply_any (m : Pat) (f : Nat → Bool) (w : World) :
    Calls Tryd.prog 38 #[.agg m.cells.toArray, .agg (H f).toArray] w fun e w' => e = .returned (.agg (H (m.app f)).toArray) ∧ Below w.heap.size w w' := by
  obtain ⟨r, hr⟩ : ∃ r : Nat → Bool, r = m.app f := ⟨_, rfl⟩
  have hw : ∀ k, bits .or .i64 (bits .andNot .i64 (word f k : Int) (word m.m k : Int)) (word m.b k : Int) = (word r k : Int) := fun k => by rw [hr, wandn, wor]; rfl
  rw [← hr]
  clear hr
  have hW := Lib.hid hw
  clear hw
  go_enter Tryd.func38, Tryd.ntmps38
  go_wp2_with (with_reducible refine wpList_box (o := ⟨some 2, .box 53 (.tmp 0), _, _, _, _⟩) ?g1 53 (.tmp 0) ?o1 (.agg m.cells.toArray) m.cells ?x1 ?c1 ?_)
  try (case g1 => rfl)
  try (case o1 => rfl)
  try (case x1 => rfl)
  try (case c1 => rfl)
  intro ga w1 hga hs1 hb1 hA1
  go_wp2_with (with_reducible refine wpList_box (o := ⟨some 3, .box 30 (.tmp 1), _, _, _, _⟩) ?g2 30 (.tmp 1) ?o2 (.agg (H f).toArray) (H f) ?x2 ?c2 ?_)
  try (case g2 => rfl)
  try (case o2 => rfl)
  try (case x2 => rfl)
  try (case c2 => rfl)
  intro gb w2 hgb hs2 hb2 hB2
  go_wp2_with (with_reducible refine wpList_alloc (o := ⟨some 4, .alloc 30, _, _, _, _⟩) (by with_unfolding_all rfl) 30 (by with_unfolding_all rfl) (.agg (H no).toArray) (H no) (by exact Tryd.zeroH) (by with_unfolding_all rfl) ?_)
  intro gr w3 hgr hs3 hb3 hR3
  have hle : w.heap.size ≤ ga := Nat.le_of_eq hga.out.symm
  have hab : ga < gb := by have := hga.out; have := hs1.out; have := hgb.out; omega
  have hbr : gb < gr := by have := hgb.out; have := hs2.out; have := hgr.out; omega
  have hA3 := (hA1.next hb2 hab).next hb3 (by omega)
  have hB3 := hB2.next hb3 hbr
  have hbel := ((hb1.mono hle).trans (hb2.mono (by omega))).trans (hb3.mono (by omega : w.heap.size ≤ gr))
  clear hga hs1 hb1 hA1 hgb hs2 hb2 hB2 hgr hs3 hb3
  go_wp2
  go_loopw [6] (AppRel m f r ga gb gr w) (fun i _ => 10 - (intOf i).toNat)
  case atStart => exact ⟨0, by omega, rfl, by rw [upto_zero]; exact hB3, hA3, hR3, hbel⟩
  case round =>
    clear hA3 hB3 hR3 hbel
    obtain ⟨k, hk, rfl, hB, hA, hR, hbel⟩ := hrel
    by_cases hlt : k < 10
    · have ca : wr.cell? ⟨gb, k, none⟩ = some (.int .i64 (word f k : Int)) := hB.cell (by rw [H_get _ hlt, upto_word])
      have cb : wr.cell? ⟨ga, k, none⟩ = some (.int .i64 (word m.m k : Int)) := hA.cell (cells_m m hlt)
      have cc : wr.cell? ⟨ga, 10 + k, none⟩ = some (.int .i64 (word m.b k : Int)) := hA.cell (cells_b m hlt)
      go_wp2
      go_still_tail 15, (by kernel_rfl)
      rw [hW.out k]
      have hB' : Blk { wr with drawn := wr.drawn + 1 } gb 30 (H (upto f r k)) := hB
      have hA' : Blk { wr with drawn := wr.drawn + 1 } ga 53 m.cells := hA
      have hR' : Blk { wr with drawn := wr.drawn + 1 } gr 30 (H no) := hR
      have hb' : Below w.heap.size w { wr with drawn := wr.drawn + 1 } := hbel.trans ((below_drew wr).mono hbel.size)
      clear ca cb cc hA hB hR hbel
      go_wp2_with (with_reducible refine wpList_put (o := ⟨none, .store 3 (.tmp 23) (.tmp 22), _, _, _, _⟩) (by with_unfolding_all rfl) 3 (.tmp 23) (.tmp 22) (by with_unfolding_all rfl) gb k (by with_unfolding_all rfl) (.int .i64 (word r k : Int)) (by with_unfolding_all rfl) hB' [.int .i64 (word r k : Int)] (by with_unfolding_all rfl) (by with_unfolding_all (exact Tryd.szI)) (by with_unfolding_all (rw [H_length]; exact hlt)) (by with_unfolding_all (exact one_cell1 rfl)) ?_)
      intro w4 hu4 hB4
      rw [splice_set _ _ _ (by rw [H_length]; exact hlt), upto_set f r hlt] at hB4
      have hA4 := hA'.upd hu4 (by omega)
      have hR4 := hR'.upd hu4 (by omega)
      have hb4 := hb'.trans (hu4.below (B := w.heap.size) (by omega))
      clear hA' hB' hR' hb' hu4
      go_wp2
      go_roundw
      case rel => exact ⟨k + 1, by omega, by go_num, hB4, hA4, hR4, hb4⟩
      case measure => simp [intOf]; omega
    · obtain rfl : k = 10 := by omega
      have hB' : Blk wr gb 30 (H r) := by rw [upto_all] at hB; exact hB
      clear hB hk hA
      go_wp2_with (first | (with_reducible refine wpList_get (o := ⟨some 25, .load 30 (.tmp 3), _, _, _, _⟩) (by with_unfolding_all rfl) 30 (.tmp 3) (by with_unfolding_all rfl) gb 0 (by with_unfolding_all rfl) hB' (H r) (cs_all _) _ (by exact Tryd.underlying30) (by with_unfolding_all rfl) (by rw [H_length]; exact Tryd.szH) ?_) | (with_reducible refine wpList_put (o := ⟨none, .store 30 (.tmp 4) (.tmp 25), _, _, _, _⟩) (by with_unfolding_all rfl) 30 (.tmp 4) (.tmp 25) (by with_unfolding_all rfl) gr 0 (by with_unfolding_all rfl) (.agg (H r).toArray) (by with_unfolding_all rfl) hR (H r) (by with_unfolding_all rfl) (by with_unfolding_all (rw [H_length]; exact Tryd.szH)) (by with_unfolding_all (rw [H_length, H_length]; omega)) (by with_unfolding_all (exact H_one r)) ?_))
      intro w4 hu4 hR4
      rw [splice_all _ _ (by rw [H_length, H_length])] at hR4
      have hb4 := hbel.trans (hu4.below (B := w.heap.size) (by omega))
      go_wp2
      refine bodyPost_ret (results_cell_row rfl _ _ gr _ _ _ _ rfl hR4 Tryd.underlying30 rfl (by rw [List.size_toArray, H_length]; exact Tryd.szH)) rfl ⟨rfl, hb4⟩
end Go.Proofs.YtbgndopgllnmaaaDoor
