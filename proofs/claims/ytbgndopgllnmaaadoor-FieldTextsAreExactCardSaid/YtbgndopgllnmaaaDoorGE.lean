/-
  Contracts of the functions that the statement calls, part 5 of 25 (merged texts: Be, Bq, Br, Nm). Conditions: as the head of each part says.
-/
import Derived.BigQuiet
import Derived.ChangeKeysEq
import Derived.Deep.MidRow
import Derived.Deep.QuietTactic
import Derived.Laws.BytesArg
import Derived.Laws.CopyOwn
import Derived.Laws.CopyRow
import Derived.Laws.Rows
import Derived.Laws.StructEq
import Derived.Laws.World
import Derived.Lib.BufferWrite
import Derived.Lib.Hide
import Derived.Outline
import Derived.StillTailTactics
import Derived.Test.YtbgndopgllnmaaaDoorRows
import Derived.WalkKit
import Derived.WalkMore
import Derived.Test.YtbgndopgllnmaaaDoorGD

/-
  Comparison of heads and of patterns. Conditions: none.
-/

namespace Go.Proofs.YtbgndopgllnmaaaDoor
set_option linter.unusedVariables false
set_option linter.unusedSimpArgs false
open Go.RowKit

def iV (n : Int) : Value := .int .i64 n
/-- A head's words as integers. -/
def HI (f : Nat → Bool) : List Int := (HN f).map fun (n : Nat) => (n : Int)
theorem H_iV (f : Nat → Bool) : H f = (HI f).map iV := by unfold H HI; rw [List.map_map]; rfl
theorem HI_length (f : Nat → Bool) : (HI f).length = 10 := by unfold HI; rw [List.length_map, HN_length]
theorem HI_inj {f g : Nat → Bool} (h : HI f = HI g) : ∀ i, i < 160 → f i = g i := fun i hi => H_inj (by rw [H_iV, H_iV, h]) hi
theorem Tryd.cellsI : Tryd.prog.cellsOf 3 = 1 := by kernel_rfl
theorem Tryd.plainI : Tryd.prog.plainKey 3 = true := by kernel_rfl
theorem Tryd.infoI : (Tryd.prog.info? 3).map (fun i => (i.zero, i.size, i.bytes)) = some (some (.int .i64 0), 1, 8) := by kernel_rfl
theorem eqItems_int (w : World) (d : Nat) (l r : List Int) (hlr : l.length = r.length) : ∀ (is : List Nat), (∀ i ∈ is, i < l.length) →
    (Op.eqItems (d + 1) 3 1 (l.map iV).toArray (r.map iV).toArray is).run Tryd.prog w = .ok (is.all fun i => l.getD i 0 == r.getD i 0) w
  | [], _ => by simp [Op.eqItems]
  | i :: is, h => by
    have hi := h i (by simp)
    have hi2 : i < r.length := by omega
    have ih := eqItems_int w d l r hlr is (fun j hj => h j (by simp [hj]))
    have hx : (l.map iV).toArray[i * 1]? = some (iV (l.getD i 0)) := by simp [List.getElem?_eq_getElem hi]
    have hy : (r.map iV).toArray[i * 1]? = some (iV (r.getD i 0)) := by simp [List.getElem?_eq_getElem hi2]
    have hp := run_part_plain (P := Tryd.prog) (w := w) Tryd.plainI hx
    have hq := run_part_plain (P := Tryd.prog) (w := w) Tryd.plainI hy
    have he : (Op.equalIn (d + 1) 3 (iV (l.getD i 0)) (iV (r.getD i 0))).run Tryd.prog w = .ok (l.getD i 0 == r.getD i 0) w := run_equalIn_int (P := Tryd.prog) w d 3 .i64 .i64 _ _ Tryd.underlying3
    simp only [Op.eqItems, Sem.run_bind, hp, hq, Result.andThen_ok, he, List.all_cons]
    cases hb : (l.getD i 0 == r.getD i 0)
    · simp
    · simpa using ih
theorem all_range_int (l r : List Int) (h : l.length = r.length) : ((List.range l.length).all fun i => l.getD i 0 == r.getD i 0) = decide (l = r) := by
  rw [Bool.eq_iff_iff, List.all_eq_true, decide_eq_true_eq]
  constructor
  · intro ha
    apply List.ext_getElem h
    intro i h1 h2
    have := ha i (List.mem_range.2 h1)
    rw [beq_iff_eq, List.getD_eq_getElem?_getD, List.getD_eq_getElem?_getD, List.getElem?_eq_getElem h1, List.getElem?_eq_getElem h2] at this
    exact this
  · intro e i _
    rw [e]; exact beq_self_eq_true _
theorem equal_head (w : World) (d : Nat) (l r : List Int) (hl : l.length = 10) (hr : r.length = 10) :
    (Op.equalIn (d + 2) 30 (.agg (l.map iV).toArray) (.agg (r.map iV).toArray)).run Tryd.prog w = .ok (decide (l = r)) w := by
  obtain ⟨i0, hi, _, _, _⟩ := info_parts Tryd.infoI
  rw [run_equalIn_array (P := Tryd.prog) (w := w) (d + 1) _ _ Tryd.underlying30 hi, Tryd.cellsI, eqItems_int w d l r (by omega) _ (fun i h => by have := List.mem_range.1 h; omega), ← hl, all_range_int l r (by omega)]
/-- '==' of two heads. -/
theorem eql_head (w : World) (l r : List Int) (hl : l.length = 10) (hr : r.length = 10) :
    (binOp .eql 30 (.agg (l.map iV).toArray) (.agg (r.map iV).toArray)).run Tryd.prog w = .ok (.bool (decide (l = r))) w := by
  rw [run_eql_struct, equal_head w 9998 l r hl hr]; rfl
theorem neq_head (w : World) (l r : List Int) (hl : l.length = 10) (hr : r.length = 10) :
    (binOp .neq 30 (.agg (l.map iV).toArray) (.agg (r.map iV).toArray)).run Tryd.prog w = .ok (.bool (!decide (l = r))) w := by
  rw [run_neq_struct, equal_head w 9998 l r hl hr]; rfl
theorem Tryd.guardP : Tryd.prog.eqGuardType Tryd.prog.depth 48 = false := by kernel_rfl
theorem Tryd.structP : Tryd.prog.underlying 48 = some (.struct (Tryd.prog.fieldsOf 48)) := by kernel_rfl
theorem Tryd.heldP : Tryd.prog.stoodInHeld 48 = false := by kernel_rfl
theorem part_head (w : World) (cs : List Value) (off : Nat) : (part 30 cs.toArray off).run Tryd.prog w = .ok (.agg ((cs.drop off).take 10).toArray) w := by
  obtain ⟨i, hi⟩ := info_of_underlying Tryd.underlying30
  have hs : i.size = 10 := by have := Tryd.szH; rw [hi] at this; simpa using this
  have he : cs.toArray.extract off (off + 10) = ((cs.drop off).take 10).toArray := by
    apply Array.toList_inj.1
    rw [Array.toList_extract]
    simp [List.extract]
  simp [part, isAgg, run_underlying Tryd.underlying30, sizeOf, typeInfo, hi, hs]
theorem equal_pat (w : World) (d : Nat) (m b m' b' : List Int) (h1 : m.length = 10) (h2 : b.length = 10) (h3 : m'.length = 10) (h4 : b'.length = 10) :
    (Op.equalIn (d + 3) 48 (.agg (m.map iV ++ b.map iV).toArray) (.agg (m'.map iV ++ b'.map iV).toArray)).run Tryd.prog w = .ok (decide (m = m') && decide (b = b')) w := by
  rw [run_equalIn_struct (P := Tryd.prog) w (d + 2) _ _ _ Tryd.structP Tryd.heldP]
  have hf : (Tryd.prog.fieldsOf 48).toList.map (fun f => (f.name == "_", f.type, f.offset)) = [(false, 30, 0), (false, 30, 10)] := by kernel_rfl
  generalize (Tryd.prog.fieldsOf 48).toList = fs at hf
  obtain ⟨f, g, rfl⟩ : ∃ f g, fs = [f, g] := by
    rcases fs with _ | ⟨f, _ | ⟨g, _ | ⟨x, r⟩⟩⟩
    · simp at hf
    · simp at hf
    · exact ⟨f, g, rfl⟩
    · simp at hf
  simp only [List.map_cons, List.map_nil, List.cons.injEq, Prod.mk.injEq, and_true] at hf
  obtain ⟨⟨n1, t1, o1⟩, n2, t2, o2⟩ := hf
  have e1 : ((m.map iV ++ b.map iV).drop 0).take 10 = m.map iV := by rw [List.drop_zero, List.take_left' (by rw [List.length_map]; exact h1)]
  have e2 : ((m'.map iV ++ b'.map iV).drop 0).take 10 = m'.map iV := by rw [List.drop_zero, List.take_left' (by rw [List.length_map]; exact h3)]
  have e3 : ((m.map iV ++ b.map iV).drop 10).take 10 = b.map iV := by rw [List.drop_left' (by rw [List.length_map]; exact h1), List.take_of_length_le (by rw [List.length_map]; omega)]
  have e4 : ((m'.map iV ++ b'.map iV).drop 10).take 10 = b'.map iV := by rw [List.drop_left' (by rw [List.length_map]; exact h3), List.take_of_length_le (by rw [List.length_map]; omega)]
  have p1 := part_head w (m.map iV ++ b.map iV) 0
  have p2 := part_head w (m'.map iV ++ b'.map iV) 0
  have p3 := part_head w (m.map iV ++ b.map iV) 10
  have p4 := part_head w (m'.map iV ++ b'.map iV) 10
  rw [e1] at p1
  rw [e2] at p2
  rw [e3] at p3
  rw [e4] at p4
  have q1 := equal_head w d m m' h1 h3
  have q2 := equal_head w d b b' h2 h4
  have k1 := beq_eq_false_iff_ne.1 n1
  have k2 := beq_eq_false_iff_ne.1 n2
  have last : (Op.eqFields (d + 2) (m.map iV ++ b.map iV).toArray (m'.map iV ++ b'.map iV).toArray [g]).run Tryd.prog w = .ok (decide (b = b')) w := by
    simp only [Op.eqFields, t2, o2, Sem.run_bind, Sem.run_ite, Sem.run_pure, p3, p4, Result.andThen_ok, q2]
    rw [if_pos (by simpa using k2)]
    cases decide (b = b') <;> simp
  show (Op.eqFields (d + 2) _ _ (f :: [g])).run Tryd.prog w = _
  rw [Op.eqFields]
  simp only [t1, o1, Sem.run_bind, Sem.run_ite, Sem.run_pure, p1, p2, Result.andThen_ok, q1, last]
  rw [if_pos (by simpa using k1)]
  cases decide (m = m') <;> simp
theorem eql_pat (w : World) (p q : Pat) :
    (binOp .eql 48 (.agg p.cells.toArray) (.agg q.cells.toArray)).run Tryd.prog w = .ok (.bool (decide (HI p.m = HI q.m) && decide (HI p.b = HI q.b))) w := by
  unfold Pat.cells
  rw [H_iV, H_iV, H_iV, H_iV, run_eql_struct, equal_pat w 9997 _ _ _ _ (HI_length _) (HI_length _) (HI_length _) (HI_length _)]; rfl
theorem neq_pat (w : World) (p q : Pat) :
    (binOp .neq 48 (.agg p.cells.toArray) (.agg q.cells.toArray)).run Tryd.prog w = .ok (.bool (!(decide (HI p.m = HI q.m) && decide (HI p.b = HI q.b)))) w := by
  unfold Pat.cells
  rw [H_iV, H_iV, H_iV, H_iV, run_neq_struct, equal_pat w 9997 _ _ _ _ (HI_length _) (HI_length _) (HI_length _) (HI_length _)]; rfl
/-- Alike patterns. -/
def Pat.same (p q : Pat) : Bool := decide (HI p.m = HI q.m) && decide (HI p.b = HI q.b)
theorem HI_congr {f g : Nat → Bool} (h : ∀ i, i < 160 → f i = g i) : HI f = HI g := by unfold HI; rw [HN_congr h]
theorem list10 {α : Type} {l : List α} (h : l.length = 10) : ∃ a0 a1 a2 a3 a4 a5 a6 a7 a8 a9, l = [a0, a1, a2, a3, a4, a5, a6, a7, a8, a9] := by
  rcases l with _ | ⟨a0, _ | ⟨a1, _ | ⟨a2, _ | ⟨a3, _ | ⟨a4, _ | ⟨a5, _ | ⟨a6, _ | ⟨a7, _ | ⟨a8, _ | ⟨a9, _ | ⟨x, r⟩⟩⟩⟩⟩⟩⟩⟩⟩⟩⟩
  case cons.cons.cons.cons.cons.cons.cons.cons.cons.cons.nil => exact ⟨a0, a1, a2, a3, a4, a5, a6, a7, a8, a9, rfl⟩
  all_goals (simp at h)
theorem run_buildP0 (w : World) : (Instr.build 48 #[]).run Tryd.prog w = .ok (.agg (H no ++ H no).toArray) w := by kernel_rfl
theorem wpList_getg {P : Program} {ops : Array Oper} {rest : List Oper} {o : Oper} {a : Act} {w : World} {Q : Exit → Act → World → Prop} (hw : Region.wanted o (yielded ops a.tmps) = true) (ty : TypeId) (x : Operand) (ho : o.op = .load ty x)
    (g k : Nat) (hx : a.eval x = .pointer (some ⟨g, k, none⟩)) {t : TypeId} {l : List Value} (hb : Blk w g t l) (cs : List Value) (hcs : (l.drop k).take cs.length = cs) (d : TypeDesc)
    (hu : P.underlying ty = some d) (hd : d.isRow = true) (hi : (P.info? ty).map (·.size) = some cs.length)
    (h : wpList P ops Q rest (a.put o.dst (.agg cs.toArray)) w) : wpList P ops Q (o :: rest) a w := by
  refine BigFrame.wpList_want hw fun K hK => ?_
  unfold Oper.wp execOp
  simp only [ho, hx, Instr.loadAt, Instr.sureAddr, Sem.run_bind, Sem.run_pure, Result.andThen_ok, run_get w g k t ty l cs hb hcs d hu hd hi]
  exact hK _ _ h
end Go.Proofs.YtbgndopgllnmaaaDoor

/-
  Contracts of the walks over full, RightHead and Match. Conditions: none.
-/

namespace Go.Proofs.YtbgndopgllnmaaaDoor
set_option linter.unusedVariables false
set_option linter.unusedSimpArgs false
open Go.RowKit

/-- The words of a row are those of a right head. -/
def rightI (l : List Int) : Prop := ∀ x ∈ l, 0 ≤ x ∧ x ≤ 65535
instance (l : List Int) : Decidable (rightI l) := by unfold rightI; exact inferInstance
def RightRel (l : List Int) (i : Value) : Prop := ∃ k : Nat, k ≤ 10 ∧ i = .int .i64 k ∧ rightI (l.take k)
theorem right_step {l : List Int} {k : Nat} {x : Int} (h : rightI (l.take k)) (hx : l[k]? = some x) (h0 : 0 ≤ x) (h1 : x ≤ 65535) : rightI (l.take (k + 1)) := by
  obtain ⟨hk, he⟩ := List.getElem?_eq_some_iff.1 hx
  intro y hy
  rw [List.take_succ_eq_append_getElem hk, List.mem_append, List.mem_singleton] at hy
  rcases hy with hy | hy
  · exact h y hy
  · rw [hy, he]; exact ⟨h0, h1⟩
end Go.Proofs.YtbgndopgllnmaaaDoor

/-
  Contracts of the walks over Match, rightPair, Right, RightMod and Overlap. Conditions: none.
-/

namespace Go.Proofs.YtbgndopgllnmaaaDoor
set_option linter.unusedVariables false
set_option linter.unusedSimpArgs false
open Go.RowKit

theorem cells_take_m (p : Pat) : (p.cells.drop 0).take (H p.m).length = H p.m := by
  unfold Pat.cells
  rw [List.drop_zero, List.take_left' rfl]
theorem cells_take_b (p : Pat) : (p.cells.drop 10).take (H p.b).length = H p.b := by
  unfold Pat.cells
  rw [List.drop_left' (H_length _), List.take_of_length_le (Nat.le_refl _)]
theorem blk_range {w : World} {g : Nat} {t : TypeId} {l : List Value} (h : Blk w g t l) : w.rangeAt g 0 l := fun j v hv => by rw [Nat.zero_add]; exact h.cell hv
def Pat.fits (p : Pat) (h : Nat → Bool) : Prop := ∀ i, i < 160 → (h i && p.m i) = p.b i
instance (p : Pat) (h : Nat → Bool) : Decidable (p.fits h) := by unfold Pat.fits; exact inferInstance
def MatchRel (p : Pat) (h : Nat → Bool) (gp _gh : Nat) (w : World) (i : Value) (wr : World) : Prop :=
  ∃ k : Nat, k ≤ 10 ∧ i = .int .i64 k ∧ (∀ j, j < 16 * k → (h j && p.m j) = p.b j) ∧ Blk wr gp 48 p.cells ∧ Below w.heap.size w wr
set_option maxRecDepth 100000 in
set_option maxHeartbeats 1600000 in
theorem match_any (p : Pat) (h : Nat → Bool) (w : World) :
    Calls Tryd.prog 37 #[.agg p.cells.toArray, .agg (H h).toArray] w fun e w' => e = .returned (.bool (decide (p.fits h))) ∧ Below w.heap.size w w' := by
  go_enter Tryd.func37, Tryd.ntmps37
  go_wp2_with (with_reducible refine wpList_box (o := ⟨some 2, .box 48 (.tmp 0), _, _, _, _⟩) ?g1 48 (.tmp 0) ?o1 (.agg p.cells.toArray) p.cells ?x1 ?c1 ?_)
  try (case g1 => rfl)
  try (case o1 => rfl)
  try (case x1 => rfl)
  try (case c1 => rfl)
  intro gp w1 hgp hs1 hb1 hP1
  go_wp2_with (with_reducible refine wpList_box (o := ⟨some 3, .box 30 (.tmp 1), _, _, _, _⟩) ?g2 30 (.tmp 1) ?o2 (.agg (H h).toArray) (H h) ?x2 ?c2 ?_)
  try (case g2 => rfl)
  try (case o2 => rfl)
  try (case x2 => rfl)
  try (case c2 => rfl)
  intro gh w2 hgh hs2 hb2 hH2
  have hle : w.heap.size ≤ gp := Nat.le_of_eq hgp.out.symm
  have hab : gp < gh := by have := hgp.out; have := hs1.out; have := hgh.out; omega
  have hP2 := hP1.next hb2 hab
  have hbel := (hb1.mono hle).trans (hb2.mono (by omega))
  clear hgp hs1 hb1 hP1 hgh hs2 hb2
  go_wp2_with (with_reducible refine wpList_get (o := ⟨some 7, .load 30 (.tmp 3), _, _, _, _⟩) (by with_unfolding_all rfl) 30 (.tmp 3) (by with_unfolding_all rfl) gh 0 (by with_unfolding_all rfl) hH2 (H h) (cs_all _) _ (by exact Tryd.underlying30) (by with_unfolding_all rfl) (by rw [H_length]; exact Tryd.szH) ?_)
  clear hH2
  go_wp2
  go_loopw [8] (MatchRel p h gp gh w) (fun i _ => 10 - (intOf i).toNat)
  case atStart => exact ⟨0, by omega, rfl, fun j hj => absurd hj (by omega), hP2, hbel⟩
  case round =>
    clear hP2 hbel
    obtain ⟨k, hk, rfl, hz, hP, hbel⟩ := hrel
    have HZ := Lib.hid hz
    clear hz
    by_cases hlt : k < 10
    · have c1 : wr.cell? ⟨gp, k, none⟩ = some (.int .i64 (word p.m k : Int)) := hP.cell (cells_m p hlt)
      have c2 : wr.cell? ⟨gp, 10 + k, none⟩ = some (.int .i64 (word p.b k : Int)) := hP.cell (cells_b p hlt)
      go_wp2_with (with_reducible refine wpList_idx (o := ⟨some 11, .index 30 (.tmp 7) (.tmp 8), _, _, _, _⟩) (by with_unfolding_all rfl) 30 (.tmp 7) (.tmp 8) (by with_unfolding_all rfl) 3 10 k (H h) (.int .i64 (word h k : Int)) (.int .i64) (by with_unfolding_all rfl) (by with_unfolding_all rfl) (by with_unfolding_all exact Tryd.underlying30) (by with_unfolding_all exact Tryd.szI) (by with_unfolding_all exact Tryd.underlying3) (by with_unfolding_all rfl) hlt (H_get h hlt) ?_)
      go_quiet (fail)
      rw [wand]
      have hP' := hP.drewN nq
      have hbel' := hbel.trans ((below_drewN wr nq).mono hbel.size)
      clear c1 c2 hP hbel
      generalize wr.drewN nq = w4 at hP' hbel' ⊢
      by_cases he : word (fun i => h i && p.m i) k = word p.b k
      · rw [he]
        have hne : ((word p.b k : Int) != (word p.b k : Int)) = false := by simp
        have HK : Hid (∀ j, j / 16 = k → (h j && p.m j) = p.b j) := by
          have : ∀ j, j / 16 = k → (h j && p.m j) = p.b j := fun j hj => word_inj he hj
          exact this
        clear he
        go_wp2
        go_roundw
        case rel => exact ⟨k + 1, by omega, by go_num, fun j hj => by
          by_cases h : j < 16 * k
          · exact HZ.out j h
          · exact HK.out j (by omega), hP', hbel'⟩
        case measure => simp [intOf]; omega
      · have hne : ((word (fun i => h i && p.m i) k : Int) != (word p.b k : Int)) = true := bne_iff_ne.2 fun e => he (by omega)
        have hno : Hid (decide (p.fits h) = false) := by
          have : decide (p.fits h) = false := decide_eq_false fun hf => he (word_congr fun i hi => hf i (by omega))
          exact this
        clear he
        go_wp2
        go_ret
        exact ⟨(by rw [hno.out]; rfl), hbel'⟩
    · obtain rfl : k = 10 := by omega
      have hyes : Hid (decide (p.fits h) = true) := by
        have : decide (p.fits h) = true := decide_eq_true fun i hi => HZ.out i (by omega)
        exact this
      go_wp2
      go_ret
      exact ⟨(by rw [hyes.out]; rfl), hbel⟩
end Go.Proofs.YtbgndopgllnmaaaDoor

/-
  '==' of two mods. Conditions: none.
-/

namespace Go.Proofs.YtbgndopgllnmaaaDoor
set_option linter.unusedVariables false
set_option linter.unusedSimpArgs false
open Go.RowKit

theorem Tryd.structM : Tryd.prog.underlying 53 = some (.struct (Tryd.prog.fieldsOf 53)) := by kernel_rfl
theorem Tryd.heldM : Tryd.prog.stoodInHeld 53 = false := by kernel_rfl
theorem equal_mod (w : World) (d : Nat) (m b m' b' : List Int) (h1 : m.length = 10) (h2 : b.length = 10) (h3 : m'.length = 10) (h4 : b'.length = 10) :
    (Op.equalIn (d + 3) 53 (.agg (m.map iV ++ b.map iV).toArray) (.agg (m'.map iV ++ b'.map iV).toArray)).run Tryd.prog w = .ok (decide (m = m') && decide (b = b')) w := by
  rw [run_equalIn_struct (P := Tryd.prog) w (d + 2) _ _ _ Tryd.structM Tryd.heldM]
  have hf : (Tryd.prog.fieldsOf 53).toList.map (fun f => (f.name == "_", f.type, f.offset)) = [(false, 30, 0), (false, 30, 10)] := by kernel_rfl
  generalize (Tryd.prog.fieldsOf 53).toList = fs at hf
  obtain ⟨f, g, rfl⟩ : ∃ f g, fs = [f, g] := by
    rcases fs with _ | ⟨f, _ | ⟨g, _ | ⟨x, r⟩⟩⟩
    · simp at hf
    · simp at hf
    · exact ⟨f, g, rfl⟩
    · simp at hf
  simp only [List.map_cons, List.map_nil, List.cons.injEq, Prod.mk.injEq, and_true] at hf
  obtain ⟨⟨n1, t1, o1⟩, n2, t2, o2⟩ := hf
  have e1 : ((m.map iV ++ b.map iV).drop 0).take 10 = m.map iV := by rw [List.drop_zero, List.take_left' (by rw [List.length_map]; exact h1)]
  have e2 : ((m'.map iV ++ b'.map iV).drop 0).take 10 = m'.map iV := by rw [List.drop_zero, List.take_left' (by rw [List.length_map]; exact h3)]
  have e3 : ((m.map iV ++ b.map iV).drop 10).take 10 = b.map iV := by rw [List.drop_left' (by rw [List.length_map]; exact h1), List.take_of_length_le (by rw [List.length_map]; omega)]
  have e4 : ((m'.map iV ++ b'.map iV).drop 10).take 10 = b'.map iV := by rw [List.drop_left' (by rw [List.length_map]; exact h3), List.take_of_length_le (by rw [List.length_map]; omega)]
  have p1 := part_head w (m.map iV ++ b.map iV) 0
  have p2 := part_head w (m'.map iV ++ b'.map iV) 0
  have p3 := part_head w (m.map iV ++ b.map iV) 10
  have p4 := part_head w (m'.map iV ++ b'.map iV) 10
  rw [e1] at p1
  rw [e2] at p2
  rw [e3] at p3
  rw [e4] at p4
  have q1 := equal_head w d m m' h1 h3
  have q2 := equal_head w d b b' h2 h4
  have k1 := beq_eq_false_iff_ne.1 n1
  have k2 := beq_eq_false_iff_ne.1 n2
  have last : (Op.eqFields (d + 2) (m.map iV ++ b.map iV).toArray (m'.map iV ++ b'.map iV).toArray [g]).run Tryd.prog w = .ok (decide (b = b')) w := by
    simp only [Op.eqFields, t2, o2, Sem.run_bind, Sem.run_ite, Sem.run_pure, p3, p4, Result.andThen_ok, q2]
    rw [if_pos (by simpa using k2)]
    cases decide (b = b') <;> simp
  show (Op.eqFields (d + 2) _ _ (f :: [g])).run Tryd.prog w = _
  rw [Op.eqFields]
  simp only [t1, o1, Sem.run_bind, Sem.run_ite, Sem.run_pure, p1, p2, Result.andThen_ok, q1, last]
  rw [if_pos (by simpa using k1)]
  cases decide (m = m') <;> simp
theorem eql_mod (w : World) (p q : Pat) :
    (binOp .eql 53 (.agg p.cells.toArray) (.agg q.cells.toArray)).run Tryd.prog w = .ok (.bool (decide (HI p.m = HI q.m) && decide (HI p.b = HI q.b))) w := by
  unfold Pat.cells
  rw [H_iV, H_iV, H_iV, H_iV, run_eql_struct, equal_mod w 9997 _ _ _ _ (HI_length _) (HI_length _) (HI_length _) (HI_length _)]; rfl
theorem neq_mod (w : World) (p q : Pat) :
    (binOp .neq 53 (.agg p.cells.toArray) (.agg q.cells.toArray)).run Tryd.prog w = .ok (.bool (!(decide (HI p.m = HI q.m) && decide (HI p.b = HI q.b)))) w := by
  unfold Pat.cells
  rw [H_iV, H_iV, H_iV, H_iV, run_neq_struct, equal_mod w 9997 _ _ _ _ (HI_length _) (HI_length _) (HI_length _) (HI_length _)]; rfl
end Go.Proofs.YtbgndopgllnmaaaDoor
