/-
  Contracts of the functions that the statement calls, part 4 of 25 (merged texts: Be, Bq, Br, Nm). Conditions: as the head of each part says.
-/
import Derived.Test.YtkkgfdfjgfigcaaDoorGC
import Derived.ChangeKeysEq

/-
  Comparison of heads and of patterns. Conditions: none.
-/
namespace Go.Proofs.YtkkgfdfjgfigcaaDoor
set_option linter.unusedVariables false
set_option linter.unusedSimpArgs false
open Go.RowKit

def iV (n : Int) : Value := .int .i64 n
/-- A head's words as integers. -/
def HI (f : Nat → Bool) : List Int := (HN f).map fun (n : Nat) => (n : Int)
theorem H_iV (f : Nat → Bool) : H f = (HI f).map iV := by unfold H HI; rw [List.map_map]; rfl
theorem HI_length (f : Nat → Bool) : (HI f).length = 10 := by unfold HI; rw [List.length_map, HN_length]
theorem HI_inj {f g : Nat → Bool} (h : HI f = HI g) : ∀ i, i < 160 → f i = g i := fun i hi => H_inj (by rw [H_iV, H_iV, h]) hi
theorem Tryd.cellsI : Tryd.prog.cellsOf 3 = 1 := by kernel_rfl
theorem Tryd.plainI : Tryd.prog.plainKey 3 = true := by kernel_rfl
theorem Tryd.infoI : (Tryd.prog.info? 3).map (fun i => (i.zero, i.size, i.bytes)) = some (some (.int .i64 0), 1, 8) := by kernel_rfl
theorem eqItems_int (w : World) (d : Nat) (l r : List Int) (hlr : l.length = r.length) : ∀ (is : List Nat), (∀ i ∈ is, i < l.length) →
    (Op.eqItems (d + 1) 3 1 (l.map iV).toArray (r.map iV).toArray is).run Tryd.prog w = .ok (is.all fun i => l.getD i 0 == r.getD i 0) w
  | [], _ => by simp [Op.eqItems]
  | i :: is, h => by
    have hi := h i (by simp)
    have hi2 : i < r.length := by omega
    have ih := eqItems_int w d l r hlr is (fun j hj => h j (by simp [hj]))
    have hx : (l.map iV).toArray[i * 1]? = some (iV (l.getD i 0)) := by simp [List.getElem?_eq_getElem hi]
    have hy : (r.map iV).toArray[i * 1]? = some (iV (r.getD i 0)) := by simp [List.getElem?_eq_getElem hi2]
    have hp := run_part_plain (P := Tryd.prog) (w := w) Tryd.plainI hx
    have hq := run_part_plain (P := Tryd.prog) (w := w) Tryd.plainI hy
    have he : (Op.equalIn (d + 1) 3 (iV (l.getD i 0)) (iV (r.getD i 0))).run Tryd.prog w = .ok (l.getD i 0 == r.getD i 0) w := run_equalIn_int (P := Tryd.prog) w d 3 .i64 .i64 _ _ Tryd.underlying3
    simp only [Op.eqItems, Sem.run_bind, hp, hq, Result.andThen_ok, he, List.all_cons]
    cases hb : (l.getD i 0 == r.getD i 0)
    · simp
    · simpa using ih
theorem all_range_int (l r : List Int) (h : l.length = r.length) : ((List.range l.length).all fun i => l.getD i 0 == r.getD i 0) = decide (l = r) := by
  rw [Bool.eq_iff_iff, List.all_eq_true, decide_eq_true_eq]
  constructor
  · intro ha
    apply List.ext_getElem h
    intro i h1 h2
    have := ha i (List.mem_range.2 h1)
    rw [beq_iff_eq, List.getD_eq_getElem?_getD, List.getD_eq_getElem?_getD, List.getElem?_eq_getElem h1, List.getElem?_eq_getElem h2] at this
    exact this
  · intro e i _
    rw [e]; exact beq_self_eq_true _
theorem equal_head (w : World) (d : Nat) (l r : List Int) (hl : l.length = 10) (hr : r.length = 10) :
    (Op.equalIn (d + 2) 23 (.agg (l.map iV).toArray) (.agg (r.map iV).toArray)).run Tryd.prog w = .ok (decide (l = r)) w := by
  obtain ⟨i0, hi, _, _, _⟩ := info_parts Tryd.infoI
  rw [run_equalIn_array (P := Tryd.prog) (w := w) (d + 1) _ _ Tryd.underlying23 hi, Tryd.cellsI, eqItems_int w d l r (by omega) _ (fun i h => by have := List.mem_range.1 h; omega), ← hl, all_range_int l r (by omega)]
/-- '==' of two heads. -/
theorem eql_head (w : World) (l r : List Int) (hl : l.length = 10) (hr : r.length = 10) :
    (binOp .eql 23 (.agg (l.map iV).toArray) (.agg (r.map iV).toArray)).run Tryd.prog w = .ok (.bool (decide (l = r))) w := by
  rw [run_eql_struct, equal_head w 9998 l r hl hr]; rfl
theorem neq_head (w : World) (l r : List Int) (hl : l.length = 10) (hr : r.length = 10) :
    (binOp .neq 23 (.agg (l.map iV).toArray) (.agg (r.map iV).toArray)).run Tryd.prog w = .ok (.bool (!decide (l = r))) w := by
  rw [run_neq_struct, equal_head w 9998 l r hl hr]; rfl
theorem Tryd.guardH : Tryd.prog.eqGuardType Tryd.prog.depth 23 = false := by kernel_rfl
theorem Tryd.guardP : Tryd.prog.eqGuardType Tryd.prog.depth 25 = false := by kernel_rfl
theorem Tryd.structP : Tryd.prog.underlying 25 = some (.struct (Tryd.prog.fieldsOf 25)) := by kernel_rfl
theorem Tryd.heldP : Tryd.prog.stoodInHeld 25 = false := by kernel_rfl
theorem part_head (w : World) (cs : List Value) (off : Nat) : (part 23 cs.toArray off).run Tryd.prog w = .ok (.agg ((cs.drop off).take 10).toArray) w := by
  obtain ⟨i, hi⟩ := info_of_underlying Tryd.underlying23
  have hs : i.size = 10 := by have := Tryd.szH; rw [hi] at this; simpa using this
  have he : cs.toArray.extract off (off + 10) = ((cs.drop off).take 10).toArray := by
    apply Array.toList_inj.1
    rw [Array.toList_extract]
    simp [List.extract]
  simp [part, isAgg, run_underlying Tryd.underlying23, sizeOf, typeInfo, hi, hs]
theorem equal_pat (w : World) (d : Nat) (m b m' b' : List Int) (h1 : m.length = 10) (h2 : b.length = 10) (h3 : m'.length = 10) (h4 : b'.length = 10) :
    (Op.equalIn (d + 3) 25 (.agg (m.map iV ++ b.map iV).toArray) (.agg (m'.map iV ++ b'.map iV).toArray)).run Tryd.prog w = .ok (decide (m = m') && decide (b = b')) w := by
  rw [run_equalIn_struct (P := Tryd.prog) w (d + 2) _ _ _ Tryd.structP Tryd.heldP]
  have hf : (Tryd.prog.fieldsOf 25).toList.map (fun f => (f.name == "_", f.type, f.offset)) = [(false, 23, 0), (false, 23, 10)] := by kernel_rfl
  generalize (Tryd.prog.fieldsOf 25).toList = fs at hf
  obtain ⟨f, g, rfl⟩ : ∃ f g, fs = [f, g] := by
    rcases fs with _ | ⟨f, _ | ⟨g, _ | ⟨x, r⟩⟩⟩
    · simp at hf
    · simp at hf
    · exact ⟨f, g, rfl⟩
    · simp at hf
  simp only [List.map_cons, List.map_nil, List.cons.injEq, Prod.mk.injEq, and_true] at hf
  obtain ⟨⟨n1, t1, o1⟩, n2, t2, o2⟩ := hf
  have e1 : ((m.map iV ++ b.map iV).drop 0).take 10 = m.map iV := by rw [List.drop_zero, List.take_left' (by rw [List.length_map]; exact h1)]
  have e2 : ((m'.map iV ++ b'.map iV).drop 0).take 10 = m'.map iV := by rw [List.drop_zero, List.take_left' (by rw [List.length_map]; exact h3)]
  have e3 : ((m.map iV ++ b.map iV).drop 10).take 10 = b.map iV := by rw [List.drop_left' (by rw [List.length_map]; exact h1), List.take_of_length_le (by rw [List.length_map]; omega)]
  have e4 : ((m'.map iV ++ b'.map iV).drop 10).take 10 = b'.map iV := by rw [List.drop_left' (by rw [List.length_map]; exact h3), List.take_of_length_le (by rw [List.length_map]; omega)]
  have p1 := part_head w (m.map iV ++ b.map iV) 0
  have p2 := part_head w (m'.map iV ++ b'.map iV) 0
  have p3 := part_head w (m.map iV ++ b.map iV) 10
  have p4 := part_head w (m'.map iV ++ b'.map iV) 10
  rw [e1] at p1
  rw [e2] at p2
  rw [e3] at p3
  rw [e4] at p4
  have q1 := equal_head w d m m' h1 h3
  have q2 := equal_head w d b b' h2 h4
  have k1 := beq_eq_false_iff_ne.1 n1
  have k2 := beq_eq_false_iff_ne.1 n2
  have last : (Op.eqFields (d + 2) (m.map iV ++ b.map iV).toArray (m'.map iV ++ b'.map iV).toArray [g]).run Tryd.prog w = .ok (decide (b = b')) w := by
    simp only [Op.eqFields, t2, o2, Sem.run_bind, Sem.run_ite, Sem.run_pure, p3, p4, Result.andThen_ok, q2]
    rw [if_pos (by simpa using k2)]
    cases decide (b = b') <;> simp
  show (Op.eqFields (d + 2) _ _ (f :: [g])).run Tryd.prog w = _
  rw [Op.eqFields]
  simp only [t1, o1, Sem.run_bind, Sem.run_ite, Sem.run_pure, p1, p2, Result.andThen_ok, q1, last]
  rw [if_pos (by simpa using k1)]
  cases decide (m = m') <;> simp
theorem eql_pat (w : World) (p q : Pat) :
    (binOp .eql 25 (.agg p.cells.toArray) (.agg q.cells.toArray)).run Tryd.prog w = .ok (.bool (decide (HI p.m = HI q.m) && decide (HI p.b = HI q.b))) w := by
  unfold Pat.cells
  rw [H_iV, H_iV, H_iV, H_iV, run_eql_struct, equal_pat w 9997 _ _ _ _ (HI_length _) (HI_length _) (HI_length _) (HI_length _)]; rfl
theorem neq_pat (w : World) (p q : Pat) :
    (binOp .neq 25 (.agg p.cells.toArray) (.agg q.cells.toArray)).run Tryd.prog w = .ok (.bool (!(decide (HI p.m = HI q.m) && decide (HI p.b = HI q.b)))) w := by
  unfold Pat.cells
  rw [H_iV, H_iV, H_iV, H_iV, run_neq_struct, equal_pat w 9997 _ _ _ _ (HI_length _) (HI_length _) (HI_length _) (HI_length _)]; rfl
/-- Alike patterns. -/
def Pat.same (p q : Pat) : Bool := decide (HI p.m = HI q.m) && decide (HI p.b = HI q.b)
theorem HI_congr {f g : Nat → Bool} (h : ∀ i, i < 160 → f i = g i) : HI f = HI g := by unfold HI; rw [HN_congr h]
theorem Pat.same_iff {p q : Pat} : p.same q = true ↔ p.alike q := by
  unfold Pat.same Pat.alike
  rw [Bool.and_eq_true, decide_eq_true_eq, decide_eq_true_eq]
  exact ⟨fun h => ⟨HI_inj h.1, HI_inj h.2⟩, fun h => ⟨HI_congr h.1, HI_congr h.2⟩⟩
theorem wpList_eqH {ops : Array Oper} {rest : List Oper} {o : Oper} {a : Act} {w : World} {Q : Exit → Act → World → Prop} (hw : Region.wanted o (yielded ops a.tmps) = true) (x y : Operand) (ho : o.op = .binOp .eql 23 x y 23)
    (l r : List Int) (hx : a.eval x = .agg (l.map iV).toArray) (hy : a.eval y = .agg (r.map iV).toArray) (hl : l.length = 10) (hr : r.length = 10)
    (h : wpList Tryd.prog ops Q rest (a.put o.dst (.bool (decide (l = r)))) w) : wpList Tryd.prog ops Q (o :: rest) a w := by
  refine BigFrame.wpList_want hw fun K hK => ?_
  have hrun := eql_head w l r hl hr
  unfold Oper.wp execOp
  simp only [ho, hx, hy, Sem.run_bind, Sem.run_pure, run_eqGuard_agg (P := Tryd.prog) w _ _ _ _ _ _ Tryd.guardH, Result.andThen_ok, hrun]
  exact hK _ _ h
theorem list10 {α : Type} {l : List α} (h : l.length = 10) : ∃ a0 a1 a2 a3 a4 a5 a6 a7 a8 a9, l = [a0, a1, a2, a3, a4, a5, a6, a7, a8, a9] := by
  rcases l with _ | ⟨a0, _ | ⟨a1, _ | ⟨a2, _ | ⟨a3, _ | ⟨a4, _ | ⟨a5, _ | ⟨a6, _ | ⟨a7, _ | ⟨a8, _ | ⟨a9, _ | ⟨x, r⟩⟩⟩⟩⟩⟩⟩⟩⟩⟩⟩
  case cons.cons.cons.cons.cons.cons.cons.cons.cons.cons.nil => exact ⟨a0, a1, a2, a3, a4, a5, a6, a7, a8, a9, rfl⟩
  all_goals (simp at h)
theorem run_buildP (w : World) (m b : List Value) (hm : m.length = 10) (hb : b.length = 10) : (Instr.build 25 #[(0, .agg m.toArray), (1, .agg b.toArray)]).run Tryd.prog w = .ok (.agg (m ++ b).toArray) w := by
  obtain ⟨a0, a1, a2, a3, a4, a5, a6, a7, a8, a9, rfl⟩ := list10 hm
  obtain ⟨b0, b1, b2, b3, b4, b5, b6, b7, b8, b9, rfl⟩ := list10 hb
  kernel_rfl
theorem run_buildP0 (w : World) : (Instr.build 25 #[]).run Tryd.prog w = .ok (.agg (H no ++ H no).toArray) w := by kernel_rfl
theorem run_buildM (w : World) (m b : List Value) (hm : m.length = 10) (hb : b.length = 10) : (Instr.build 88 #[(0, .agg m.toArray), (1, .agg b.toArray)]).run Tryd.prog w = .ok (.agg (m ++ b).toArray) w := by
  obtain ⟨a0, a1, a2, a3, a4, a5, a6, a7, a8, a9, rfl⟩ := list10 hm
  obtain ⟨b0, b1, b2, b3, b4, b5, b6, b7, b8, b9, rfl⟩ := list10 hb
  kernel_rfl
theorem run_buildM0 (w : World) : (Instr.build 88 #[]).run Tryd.prog w = .ok (.agg (H no ++ H no).toArray) w := by kernel_rfl
theorem wpList_getg {P : Program} {ops : Array Oper} {rest : List Oper} {o : Oper} {a : Act} {w : World} {Q : Exit → Act → World → Prop} (hw : Region.wanted o (yielded ops a.tmps) = true) (ty : TypeId) (x : Operand) (ho : o.op = .load ty x)
    (g k : Nat) (hx : a.eval x = .pointer (some ⟨g, k, none⟩)) {t : TypeId} {l : List Value} (hb : Blk w g t l) (cs : List Value) (hcs : (l.drop k).take cs.length = cs) (d : TypeDesc)
    (hu : P.underlying ty = some d) (hd : d.isRow = true) (hi : (P.info? ty).map (·.size) = some cs.length)
    (h : wpList P ops Q rest (a.put o.dst (.agg cs.toArray)) w) : wpList P ops Q (o :: rest) a w := by
  refine BigFrame.wpList_want hw fun K hK => ?_
  unfold Oper.wp execOp
  simp only [ho, hx, Instr.loadAt, Instr.sureAddr, Sem.run_bind, Sem.run_pure, Result.andThen_ok, run_get w g k t ty l cs hb hcs d hu hd hi]
  exact hK _ _ h
end Go.Proofs.YtkkgfdfjgfigcaaDoor

/-
  Contracts of the walks over full, RightHead and Match. Conditions: none.
-/
namespace Go.Proofs.YtkkgfdfjgfigcaaDoor
set_option linter.unusedVariables false
set_option linter.unusedSimpArgs false
open Go.RowKit

def yes : Nat → Bool := fun _ => true
theorem word_yes (w : Nat) : word yes w = 65535 := by simp [word, wordB, yes]
def FullRel (ga gr : Nat) (w : World) (i : Value) (wr : World) : Prop :=
  ∃ k : Nat, k ≤ 10 ∧ i = .int .i64 k ∧ Blk wr ga 23 (H (upto no yes k)) ∧ Blk wr gr 23 (H no) ∧ Below w.heap.size w wr
set_option maxRecDepth 100000 in
set_option maxHeartbeats 1600000 in
theorem full_any (w : World) :
    Calls Tryd.prog 211 #[] w fun e w' => e = .returned (.agg (H yes).toArray) ∧ Below w.heap.size w w' := by
  have HY : ∀ k, Hid (word yes k = 65535) := fun k => word_yes k
  go_enter Tryd.func211, Tryd.ntmps211
  go_wp2_with (with_reducible refine wpList_alloc (o := ⟨some 0, .alloc 23, _, _, _, _⟩) (by with_unfolding_all rfl) 23 (by with_unfolding_all rfl) (.agg (H no).toArray) (H no) (by exact Tryd.zeroH) (by with_unfolding_all rfl) ?_)
  intro gr w1 hgr hs1 hb1 hR1
  go_wp2_with (with_reducible refine wpList_alloc (o := ⟨some 1, .alloc 23, _, _, _, _⟩) (by with_unfolding_all rfl) 23 (by with_unfolding_all rfl) (.agg (H no).toArray) (H no) (by exact Tryd.zeroH) (by with_unfolding_all rfl) ?_)
  intro ga w2 hga hs2 hb2 hA2
  have hle : w.heap.size ≤ gr := Nat.le_of_eq hgr.out.symm
  have hab : gr < ga := by have := hgr.out; have := hs1.out; have := hga.out; omega
  have hR2 := hR1.next hb2 hab
  have hbel := (hb1.mono hle).trans (hb2.mono (by omega))
  clear hga hs1 hb1 hgr hs2 hb2 hR1
  go_wp2
  go_loopw [3] (FullRel ga gr w) (fun i _ => 10 - (intOf i).toNat)
  case atStart => exact ⟨0, by omega, rfl, by rw [upto_zero]; exact hA2, hR2, hbel⟩
  case round =>
    clear hA2 hR2 hbel
    obtain ⟨k, hk, rfl, hA, hR, hbel⟩ := hrel
    by_cases hlt : k < 10
    · go_wp2_with (with_reducible refine wpList_put (o := ⟨none, .store 3 (.tmp 7) (.const (.int .i64 65535)), _, _, _, _⟩) (by with_unfolding_all rfl) 3 (.tmp 7) (.const (.int .i64 65535)) (by with_unfolding_all rfl) ga k (by with_unfolding_all rfl) (.int .i64 65535) (by with_unfolding_all rfl) hA [.int .i64 65535] (by with_unfolding_all rfl) (by with_unfolding_all (exact Tryd.szI)) (by with_unfolding_all (rw [H_length]; exact hlt)) (by with_unfolding_all (exact one_cell1 rfl)) ?_)
      intro w4 hu4 hA4
      have e4 := upto_set no yes hlt
      rw [(HY k).out] at e4
      have e5 : ((65535 : Nat) : Int) = 65535 := rfl
      rw [e5] at e4
      rw [splice_set _ _ _ (by rw [H_length]; exact hlt), e4] at hA4
      have hR4 := hR.upd hu4 (by omega)
      have hb4 := hbel.trans (hu4.below (B := w.heap.size) (by omega))
      clear hA hR hbel hu4 e4 e5
      go_wp2
      go_roundw
      case rel => exact ⟨k + 1, by omega, by go_num, hA4, hR4, hb4⟩
      case measure => simp [intOf]; omega
    · obtain rfl : k = 10 := by omega
      have hA' : Blk wr ga 23 (H yes) := by rw [upto_all] at hA; exact hA
      clear hA hk
      go_wp2_with (first | (with_reducible refine wpList_get (o := ⟨some 9, .load 23 (.tmp 1), _, _, _, _⟩) (by with_unfolding_all rfl) 23 (.tmp 1) (by with_unfolding_all rfl) ga 0 (by with_unfolding_all rfl) hA' (H yes) (cs_all _) _ (by exact Tryd.underlying23) (by with_unfolding_all rfl) (by rw [H_length]; exact Tryd.szH) ?_) | (with_reducible refine wpList_put (o := ⟨none, .store 23 (.tmp 0) (.tmp 9), _, _, _, _⟩) (by with_unfolding_all rfl) 23 (.tmp 0) (.tmp 9) (by with_unfolding_all rfl) gr 0 (by with_unfolding_all rfl) (.agg (H yes).toArray) (by with_unfolding_all rfl) hR (H yes) (by with_unfolding_all rfl) (by with_unfolding_all (rw [H_length]; exact Tryd.szH)) (by with_unfolding_all (rw [H_length, H_length]; omega)) (by with_unfolding_all (exact H_one yes)) ?_))
      intro w4 hu4 hR4
      rw [splice_all _ _ (by rw [H_length, H_length])] at hR4
      have hb4 := hbel.trans (hu4.below (B := w.heap.size) (by omega))
      go_wp2
      refine bodyPost_ret (results_cell_row rfl _ _ gr _ _ _ _ rfl hR4 Tryd.underlying23 rfl (by rw [List.size_toArray, H_length]; exact Tryd.szH)) rfl ⟨rfl, hb4⟩
/-- The words of a row are those of a right head. -/
def rightI (l : List Int) : Prop := ∀ x ∈ l, 0 ≤ x ∧ x ≤ 65535
instance (l : List Int) : Decidable (rightI l) := by unfold rightI; exact inferInstance
def RightRel (l : List Int) (i : Value) : Prop := ∃ k : Nat, k ≤ 10 ∧ i = .int .i64 k ∧ rightI (l.take k)
theorem right_step {l : List Int} {k : Nat} {x : Int} (h : rightI (l.take k)) (hx : l[k]? = some x) (h0 : 0 ≤ x) (h1 : x ≤ 65535) : rightI (l.take (k + 1)) := by
  obtain ⟨hk, he⟩ := List.getElem?_eq_some_iff.1 hx
  intro y hy
  rw [List.take_succ_eq_append_getElem hk, List.mem_append, List.mem_singleton] at hy
  rcases hy with hy | hy
  · exact h y hy
  · rw [hy, he]; exact ⟨h0, h1⟩
set_option maxRecDepth 100000 in
set_option maxHeartbeats 1600000 in
theorem rightHead_any (l : List Int) (w : World) (hl : l.length = 10) :
    Calls Tryd.prog 212 #[.agg (l.map iV).toArray] w fun e w' => e = .returned (.bool (decide (rightI l))) ∧ Below w.heap.size w w' := by
  have HL := Lib.hid hl
  have HLM : Hid ((l.map iV).length = 10) := by
    have : (l.map iV).length = 10 := by rw [List.length_map]; exact hl
    exact this
  clear hl
  go_enter Tryd.func212, Tryd.ntmps212
  go_wp2_with (with_reducible refine wpList_box (o := ⟨some 1, .box 23 (.tmp 0), _, _, _, _⟩) ?g1 23 (.tmp 0) ?o1 (.agg (l.map iV).toArray) (l.map iV) ?x1 ?c1 ?_)
  try (case g1 => rfl)
  try (case o1 => rfl)
  try (case x1 => rfl)
  try (case c1 => rfl)
  intro ga w1 hga hs1 hb1 hA1
  have hbel : Below w.heap.size w w1 := hb1.mono (Nat.le_of_eq hga.out.symm)
  clear hb1 hga hs1
  go_wp2_with (with_reducible refine wpList_get (o := ⟨some 5, .load 23 (.tmp 1), _, _, _, _⟩) (by with_unfolding_all rfl) 23 (.tmp 1) (by with_unfolding_all rfl) ga 0 (by with_unfolding_all rfl) hA1 (l.map iV) (cs_all _) _ (by exact Tryd.underlying23) (by with_unfolding_all rfl) (by rw [HLM.out]; exact Tryd.szH) ?_)
  go_wp2
  go_loop [6] (RightRel l) (fun i => 10 - (intOf i).toNat)
  case atStart => exact ⟨0, by omega, rfl, fun x hx => by simp at hx⟩
  case round =>
    obtain ⟨k, hk, rfl, hr⟩ := hrel
    have HR := Lib.hid hr
    clear hr
    by_cases hlt : k < 10
    · obtain ⟨x, hx⟩ : ∃ x, l[k]? = some x := ⟨_, List.getElem?_eq_getElem (by rw [HL.out]; exact hlt)⟩
      have hix : Hid ((l.map iV)[k]? = some (.int .i64 x)) := by
        have : (l.map iV)[k]? = some (.int .i64 x) := by rw [List.getElem?_map, hx]; rfl
        exact this
      have HX := Lib.hid hx
      clear hx
      have hst : Hid (x ∈ l) := List.mem_of_getElem? HX.out
      by_cases h0 : x < 0
      · have hno : Hid (decide (rightI l) = false) := by
          have : decide (rightI l) = false := decide_eq_false fun h => by have := (h x hst.out).1; omega
          exact this
        go_wp2_with (with_reducible refine wpList_idx (o := ⟨some 8, .index 23 (.tmp 5) (.tmp 6), _, _, _, _⟩) (by with_unfolding_all rfl) 23 (.tmp 5) (.tmp 6) (by with_unfolding_all rfl) 3 10 k (l.map iV) (.int .i64 x) (.int .i64) (by with_unfolding_all rfl) (by with_unfolding_all rfl) (by with_unfolding_all exact Tryd.underlying23) (by with_unfolding_all exact Tryd.szI) (by with_unfolding_all exact Tryd.underlying3) (by with_unfolding_all rfl) hlt hix.out ?_)
        go_ret
        exact ⟨(by rw [hno.out]; rfl), hbel⟩
      · by_cases h1 : 65535 < x
        · have hno : Hid (decide (rightI l) = false) := by
            have : decide (rightI l) = false := decide_eq_false fun h => by have := (h x hst.out).2; omega
            exact this
          have h0' : 0 ≤ x := by omega
          go_wp2_with (with_reducible refine wpList_idx (o := ⟨some 8, .index 23 (.tmp 5) (.tmp 6), _, _, _, _⟩) (by with_unfolding_all rfl) 23 (.tmp 5) (.tmp 6) (by with_unfolding_all rfl) 3 10 k (l.map iV) (.int .i64 x) (.int .i64) (by with_unfolding_all rfl) (by with_unfolding_all rfl) (by with_unfolding_all exact Tryd.underlying23) (by with_unfolding_all exact Tryd.szI) (by with_unfolding_all exact Tryd.underlying3) (by with_unfolding_all rfl) hlt hix.out ?_)
          go_ret
          exact ⟨(by rw [hno.out]; rfl), hbel⟩
        · have h0' : 0 ≤ x := by omega
          have h1' : x ≤ 65535 := by omega
          go_wp2_with (with_reducible refine wpList_idx (o := ⟨some 8, .index 23 (.tmp 5) (.tmp 6), _, _, _, _⟩) (by with_unfolding_all rfl) 23 (.tmp 5) (.tmp 6) (by with_unfolding_all rfl) 3 10 k (l.map iV) (.int .i64 x) (.int .i64) (by with_unfolding_all rfl) (by with_unfolding_all rfl) (by with_unfolding_all exact Tryd.underlying23) (by with_unfolding_all exact Tryd.szI) (by with_unfolding_all exact Tryd.underlying3) (by with_unfolding_all rfl) hlt hix.out ?_)
          go_round
          case rel => exact ⟨k + 1, by omega, by go_num, right_step HR.out HX.out h0' h1'⟩
          case measure => simp [intOf]; omega
    · obtain rfl : k = 10 := by omega
      have hyes : Hid (decide (rightI l) = true) := by
        have : decide (rightI l) = true := decide_eq_true (by have := HR.out; rwa [List.take_of_length_le (by rw [HL.out]; exact Nat.le_refl _)] at this)
        exact this
      go_wp2
      go_ret
      exact ⟨(by rw [hyes.out]; rfl), hbel⟩
end Go.Proofs.YtkkgfdfjgfigcaaDoor

/-
  Contracts of the walks over Match, rightPair, Right, RightMod and Overlap. Conditions: none.
-/
namespace Go.Proofs.YtkkgfdfjgfigcaaDoor
set_option linter.unusedVariables false
set_option linter.unusedSimpArgs false
open Go.RowKit

theorem cells_take_m (p : Pat) : (p.cells.drop 0).take (H p.m).length = H p.m := by
  unfold Pat.cells
  rw [List.drop_zero, List.take_left' rfl]
theorem cells_take_b (p : Pat) : (p.cells.drop 10).take (H p.b).length = H p.b := by
  unfold Pat.cells
  rw [List.drop_left' (H_length _), List.take_of_length_le (Nat.le_refl _)]
theorem blk_range {w : World} {g : Nat} {t : TypeId} {l : List Value} (h : Blk w g t l) : w.rangeAt g 0 l := fun j v hv => by rw [Nat.zero_add]; exact h.cell hv
def Pat.fits (p : Pat) (h : Nat → Bool) : Prop := ∀ i, i < 160 → (h i && p.m i) = p.b i
instance (p : Pat) (h : Nat → Bool) : Decidable (p.fits h) := by unfold Pat.fits; exact inferInstance
theorem Pat.fits_iff {p : Pat} (hp : p.ok) (h : Nat → Bool) : p.fits h ↔ p.hit h := by
  constructor
  · intro hf i hi hm
    have := hf i hi
    rw [hm, Bool.and_true] at this
    exact this.symm
  · intro hh i hi
    cases hm : p.m i
    · cases hb : p.b i
      · rw [Bool.and_false]
      · have := hp i hi hb; rw [hm] at this; cases this
    · rw [Bool.and_true]; exact (hh i hi hm).symm
def MatchRel (p : Pat) (h : Nat → Bool) (gp _gh : Nat) (w : World) (i : Value) (wr : World) : Prop :=
  ∃ k : Nat, k ≤ 10 ∧ i = .int .i64 k ∧ (∀ j, j < 16 * k → (h j && p.m j) = p.b j) ∧ Blk wr gp 25 p.cells ∧ Below w.heap.size w wr
set_option maxRecDepth 100000 in
set_option maxHeartbeats 1600000 in
theorem match_any (p : Pat) (h : Nat → Bool) (w : World) :
    Calls Tryd.prog 87 #[.agg p.cells.toArray, .agg (H h).toArray] w fun e w' => e = .returned (.bool (decide (p.fits h))) ∧ Below w.heap.size w w' := by
  go_enter Tryd.func87, Tryd.ntmps87
  go_wp2_with (with_reducible refine wpList_box (o := ⟨some 2, .box 25 (.tmp 0), _, _, _, _⟩) ?g1 25 (.tmp 0) ?o1 (.agg p.cells.toArray) p.cells ?x1 ?c1 ?_)
  try (case g1 => rfl)
  try (case o1 => rfl)
  try (case x1 => rfl)
  try (case c1 => rfl)
  intro gp w1 hgp hs1 hb1 hP1
  go_wp2_with (with_reducible refine wpList_box (o := ⟨some 3, .box 23 (.tmp 1), _, _, _, _⟩) ?g2 23 (.tmp 1) ?o2 (.agg (H h).toArray) (H h) ?x2 ?c2 ?_)
  try (case g2 => rfl)
  try (case o2 => rfl)
  try (case x2 => rfl)
  try (case c2 => rfl)
  intro gh w2 hgh hs2 hb2 hH2
  have hle : w.heap.size ≤ gp := Nat.le_of_eq hgp.out.symm
  have hab : gp < gh := by have := hgp.out; have := hs1.out; have := hgh.out; omega
  have hP2 := hP1.next hb2 hab
  have hbel := (hb1.mono hle).trans (hb2.mono (by omega))
  clear hgp hs1 hb1 hP1 hgh hs2 hb2
  go_wp2_with (with_reducible refine wpList_get (o := ⟨some 7, .load 23 (.tmp 3), _, _, _, _⟩) (by with_unfolding_all rfl) 23 (.tmp 3) (by with_unfolding_all rfl) gh 0 (by with_unfolding_all rfl) hH2 (H h) (cs_all _) _ (by exact Tryd.underlying23) (by with_unfolding_all rfl) (by rw [H_length]; exact Tryd.szH) ?_)
  clear hH2
  go_wp2
  go_loopw [8] (MatchRel p h gp gh w) (fun i _ => 10 - (intOf i).toNat)
  case atStart => exact ⟨0, by omega, rfl, fun j hj => absurd hj (by omega), hP2, hbel⟩
  case round =>
    clear hP2 hbel
    obtain ⟨k, hk, rfl, hz, hP, hbel⟩ := hrel
    have HZ := Lib.hid hz
    clear hz
    by_cases hlt : k < 10
    · have c1 : wr.cell? ⟨gp, k, none⟩ = some (.int .i64 (word p.m k : Int)) := hP.cell (cells_m p hlt)
      have c2 : wr.cell? ⟨gp, 10 + k, none⟩ = some (.int .i64 (word p.b k : Int)) := hP.cell (cells_b p hlt)
      go_wp2_with (with_reducible refine wpList_idx (o := ⟨some 11, .index 23 (.tmp 7) (.tmp 8), _, _, _, _⟩) (by with_unfolding_all rfl) 23 (.tmp 7) (.tmp 8) (by with_unfolding_all rfl) 3 10 k (H h) (.int .i64 (word h k : Int)) (.int .i64) (by with_unfolding_all rfl) (by with_unfolding_all rfl) (by with_unfolding_all exact Tryd.underlying23) (by with_unfolding_all exact Tryd.szI) (by with_unfolding_all exact Tryd.underlying3) (by with_unfolding_all rfl) hlt (H_get h hlt) ?_)
      go_quiet (fail)
      rw [wand]
      have hP' := hP.drewN nq
      have hbel' := hbel.trans ((below_drewN wr nq).mono hbel.size)
      clear c1 c2 hP hbel
      generalize wr.drewN nq = w4 at hP' hbel' ⊢
      by_cases he : word (fun i => h i && p.m i) k = word p.b k
      · rw [he]
        have hne : ((word p.b k : Int) != (word p.b k : Int)) = false := by simp
        have HK : Hid (∀ j, j / 16 = k → (h j && p.m j) = p.b j) := by
          have : ∀ j, j / 16 = k → (h j && p.m j) = p.b j := fun j hj => word_inj he hj
          exact this
        clear he
        go_wp2
        go_roundw
        case rel => exact ⟨k + 1, by omega, by go_num, fun j hj => by
          by_cases h : j < 16 * k
          · exact HZ.out j h
          · exact HK.out j (by omega), hP', hbel'⟩
        case measure => simp [intOf]; omega
      · have hne : ((word (fun i => h i && p.m i) k : Int) != (word p.b k : Int)) = true := bne_iff_ne.2 fun e => he (by omega)
        have hno : Hid (decide (p.fits h) = false) := by
          have : decide (p.fits h) = false := decide_eq_false fun hf => he (word_congr fun i hi => hf i (by omega))
          exact this
        clear he
        go_wp2
        go_ret
        exact ⟨(by rw [hno.out]; rfl), hbel'⟩
    · obtain rfl : k = 10 := by omega
      have hyes : Hid (decide (p.fits h) = true) := by
        have : decide (p.fits h) = true := decide_eq_true fun i hi => HZ.out i (by omega)
        exact this
      go_wp2
      go_ret
      exact ⟨(by rw [hyes.out]; rfl), hbel⟩
set_option maxRecDepth 100000 in
set_option maxHeartbeats 1600000 in
theorem overlapV_any (p q : Pat) (w : World) :
    Calls Tryd.prog 154 #[.agg p.cells.toArray, .agg q.cells.toArray] w fun e w' => e = .returned (.bool (decide (p.over q))) ∧ Below w.heap.size w w' := by
  go_enter Tryd.func154, Tryd.ntmps154
  go_wp2_with (with_reducible refine wpList_box (o := ⟨some 2, .box 25 (.tmp 0), _, _, _, _⟩) ?g1 25 (.tmp 0) ?o1 (.agg p.cells.toArray) p.cells ?x1 ?c1 ?_)
  try (case g1 => rfl)
  try (case o1 => rfl)
  try (case x1 => rfl)
  try (case c1 => rfl)
  intro gp w1 hgp hs1 hb1 hP1
  go_wp2_with (with_reducible refine wpList_box (o := ⟨some 3, .box 25 (.tmp 1), _, _, _, _⟩) ?g2 25 (.tmp 1) ?o2 (.agg q.cells.toArray) q.cells ?x2 ?c2 ?_)
  try (case g2 => rfl)
  try (case o2 => rfl)
  try (case x2 => rfl)
  try (case c2 => rfl)
  intro gh w2 hgh hs2 hb2 hQ2
  have hle : w.heap.size ≤ gp := Nat.le_of_eq hgp.out.symm
  have hab : gp < gh := by have := hgp.out; have := hs1.out; have := hgh.out; omega
  have hP2 := hP1.next hb2 hab
  have hbel := (hb1.mono hle).trans (hb2.mono (by omega))
  clear hgp hs1 hb1 hP1 hgh hs2 hb2
  go_wp2_with fail
  (with_reducible refine (overlap_any p q gp 0 gh 0 _ (blk_range hP2) (blk_range hQ2)).mono ?_)
  rintro e w3 ⟨rfl, n, rfl⟩
  have hb3 := hbel.trans ((below_drewN w2 n).mono hbel.size)
  go_wp2
  go_ret
  exact ⟨rfl, hb3⟩
end Go.Proofs.YtkkgfdfjgfigcaaDoor

/-
  '==' of two mods. Conditions: none.
-/
namespace Go.Proofs.YtkkgfdfjgfigcaaDoor
set_option linter.unusedVariables false
set_option linter.unusedSimpArgs false
open Go.RowKit

theorem Tryd.structM : Tryd.prog.underlying 88 = some (.struct (Tryd.prog.fieldsOf 88)) := by kernel_rfl
theorem Tryd.heldM : Tryd.prog.stoodInHeld 88 = false := by kernel_rfl
theorem equal_mod (w : World) (d : Nat) (m b m' b' : List Int) (h1 : m.length = 10) (h2 : b.length = 10) (h3 : m'.length = 10) (h4 : b'.length = 10) :
    (Op.equalIn (d + 3) 88 (.agg (m.map iV ++ b.map iV).toArray) (.agg (m'.map iV ++ b'.map iV).toArray)).run Tryd.prog w = .ok (decide (m = m') && decide (b = b')) w := by
  rw [run_equalIn_struct (P := Tryd.prog) w (d + 2) _ _ _ Tryd.structM Tryd.heldM]
  have hf : (Tryd.prog.fieldsOf 88).toList.map (fun f => (f.name == "_", f.type, f.offset)) = [(false, 23, 0), (false, 23, 10)] := by kernel_rfl
  generalize (Tryd.prog.fieldsOf 88).toList = fs at hf
  obtain ⟨f, g, rfl⟩ : ∃ f g, fs = [f, g] := by
    rcases fs with _ | ⟨f, _ | ⟨g, _ | ⟨x, r⟩⟩⟩
    · simp at hf
    · simp at hf
    · exact ⟨f, g, rfl⟩
    · simp at hf
  simp only [List.map_cons, List.map_nil, List.cons.injEq, Prod.mk.injEq, and_true] at hf
  obtain ⟨⟨n1, t1, o1⟩, n2, t2, o2⟩ := hf
  have e1 : ((m.map iV ++ b.map iV).drop 0).take 10 = m.map iV := by rw [List.drop_zero, List.take_left' (by rw [List.length_map]; exact h1)]
  have e2 : ((m'.map iV ++ b'.map iV).drop 0).take 10 = m'.map iV := by rw [List.drop_zero, List.take_left' (by rw [List.length_map]; exact h3)]
  have e3 : ((m.map iV ++ b.map iV).drop 10).take 10 = b.map iV := by rw [List.drop_left' (by rw [List.length_map]; exact h1), List.take_of_length_le (by rw [List.length_map]; omega)]
  have e4 : ((m'.map iV ++ b'.map iV).drop 10).take 10 = b'.map iV := by rw [List.drop_left' (by rw [List.length_map]; exact h3), List.take_of_length_le (by rw [List.length_map]; omega)]
  have p1 := part_head w (m.map iV ++ b.map iV) 0
  have p2 := part_head w (m'.map iV ++ b'.map iV) 0
  have p3 := part_head w (m.map iV ++ b.map iV) 10
  have p4 := part_head w (m'.map iV ++ b'.map iV) 10
  rw [e1] at p1
  rw [e2] at p2
  rw [e3] at p3
  rw [e4] at p4
  have q1 := equal_head w d m m' h1 h3
  have q2 := equal_head w d b b' h2 h4
  have k1 := beq_eq_false_iff_ne.1 n1
  have k2 := beq_eq_false_iff_ne.1 n2
  have last : (Op.eqFields (d + 2) (m.map iV ++ b.map iV).toArray (m'.map iV ++ b'.map iV).toArray [g]).run Tryd.prog w = .ok (decide (b = b')) w := by
    simp only [Op.eqFields, t2, o2, Sem.run_bind, Sem.run_ite, Sem.run_pure, p3, p4, Result.andThen_ok, q2]
    rw [if_pos (by simpa using k2)]
    cases decide (b = b') <;> simp
  show (Op.eqFields (d + 2) _ _ (f :: [g])).run Tryd.prog w = _
  rw [Op.eqFields]
  simp only [t1, o1, Sem.run_bind, Sem.run_ite, Sem.run_pure, p1, p2, Result.andThen_ok, q1, last]
  rw [if_pos (by simpa using k1)]
  cases decide (m = m') <;> simp
theorem eql_mod (w : World) (p q : Pat) :
    (binOp .eql 88 (.agg p.cells.toArray) (.agg q.cells.toArray)).run Tryd.prog w = .ok (.bool (decide (HI p.m = HI q.m) && decide (HI p.b = HI q.b))) w := by
  unfold Pat.cells
  rw [H_iV, H_iV, H_iV, H_iV, run_eql_struct, equal_mod w 9997 _ _ _ _ (HI_length _) (HI_length _) (HI_length _) (HI_length _)]; rfl
theorem neq_mod (w : World) (p q : Pat) :
    (binOp .neq 88 (.agg p.cells.toArray) (.agg q.cells.toArray)).run Tryd.prog w = .ok (.bool (!(decide (HI p.m = HI q.m) && decide (HI p.b = HI q.b)))) w := by
  unfold Pat.cells
  rw [H_iV, H_iV, H_iV, H_iV, run_neq_struct, equal_mod w 9997 _ _ _ _ (HI_length _) (HI_length _) (HI_length _) (HI_length _)]; rfl
end Go.Proofs.YtkkgfdfjgfigcaaDoor
