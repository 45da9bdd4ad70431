/-
  Contracts of the functions that the statement calls, part 10 of 25 (merged texts: Id, Rn, Ro, Rp, Rq, Rs, Rt, Ru, Rv, Rw, Sk, Pa). Conditions: as the head of each part says.
-/
import Derived.Test.YtkkgfdfjgfigcaaDoorGH
import Derived.Test.YtkkgfdfjgfigcaaDoorGI

/-
  The difference of two patterns in plain words: its pieces, and how many of them a head lies in. Conditions: right patterns that overlap.
-/
namespace Go.Proofs.YtkkgfdfjgfigcaaDoor
set_option linter.unusedVariables false
set_option linter.unusedSimpArgs false
open Go.RowKit

namespace Pat
/-- The bits that only q fixes. -/
def only (p q : Pat) : Nat → Bool := fun i => q.m i && !p.m i
/-- p with those bits of q below k. -/
def rest (p q : Pat) (k : Nat) : Pat := ⟨fun i => p.m i || (decide (i < k) && q.m i), fun i => if i < k ∧ p.only q i = true then q.b i else p.b i⟩
/-- The piece at bit s. -/
def piece (p q : Pat) (s : Nat) : Pat := ⟨upd (p.rest q s).m s true, upd (p.rest q s).b s (!q.b s)⟩
def pieces (p q : Pat) : List Pat := (onesTo (p.only q) 160).map (p.piece q)
def minus (p q : Pat) : List Pat := if p.over q then p.pieces q else [p]
theorem rest_zero (p q : Pat) : (p.rest q 0).cells = p.cells := cells_congr ⟨fun i _ => by simp [rest], fun i _ => by simp [rest]⟩
theorem rest_m (p q : Pat) (k : Nat) : (p.rest q k).m k = p.m k := by simp [rest]
theorem rest_b (p q : Pat) (k : Nat) : (p.rest q k).b k = p.b k := by simp [rest]
theorem rest_skip {p q : Pat} {k : Nat} (h : p.only q k = false) : (p.rest q k).cells = (p.rest q (k + 1)).cells := by
  refine cells_congr ⟨fun i _ => ?_, fun i _ => ?_⟩
  · unfold rest
    by_cases e : i = k
    · subst e
      have h2 : q.m i = true → p.m i = true := by
        unfold only at h
        revert h
        cases p.m i <;> cases q.m i <;> decide
      simpa using h2
    · simp [show (i < k + 1) = (i < k) by simp; omega]
  · unfold rest
    by_cases e : i = k
    · subst e; simp [h]
    · simp [show (i < k + 1) = (i < k) by simp; omega]
theorem rest_next {p q : Pat} {k : Nat} (h : p.only q k = true) : (⟨upd (p.rest q k).m k true, upd (p.rest q k).b k (q.b k)⟩ : Pat).cells = (p.rest q (k + 1)).cells := by
  have hq : q.m k = true := by
    unfold only at h
    rw [Bool.and_eq_true] at h
    exact h.1
  refine cells_congr ⟨fun i _ => ?_, fun i _ => ?_⟩
  · unfold rest upd
    by_cases e : i = k
    · subst e; simp [hq]
    · simp [e, show (i < k + 1) = (i < k) by simp; omega]
  · unfold rest upd
    by_cases e : i = k
    · subst e; simp [h]
    · simp [e, show (i < k + 1) = (i < k) by simp; omega]
theorem piece_ok {p q : Pat} (hp : p.ok) (hq : q.ok) {s : Nat} : (p.piece q s).ok := by
  intro i hi
  have h1 := hp i hi
  have h2 := hq i hi
  unfold piece upd rest only
  by_cases e : i = s
  · simp [e]
  · simp only [if_neg e]
    by_cases hs : i < s
    · simp only [hs, true_and, decide_true, Bool.true_and]
      revert h1 h2
      cases p.m i <;> cases q.m i <;> cases p.b i <;> cases q.b i <;> decide
    · simp only [hs, false_and, if_false, decide_false, Bool.false_and, Bool.or_false]
      exact h1
/-- A head lies in the piece at bit s: it lies in p, agrees with q on the bits before, and not on this one. -/
theorem piece_hit {p q : Pat} {s : Nat} (hs : s < 160) (ho : p.only q s = true) (h : Nat → Bool) : (p.piece q s).hit h ↔ p.hit h ∧ (∀ i, i < s → p.only q i = true → q.b i = h i) ∧ q.b s ≠ h s := by
  have hps : p.m s = false := by
    unfold only at ho
    revert ho
    cases p.m s <;> simp
  have e1 : ∀ i, i ≠ s → (p.piece q s).m i = (p.m i || (decide (i < s) && q.m i)) := fun i hi => by
    show upd (p.rest q s).m s true i = _
    unfold upd; rw [if_neg hi]; rfl
  have e2 : ∀ i, i ≠ s → (p.piece q s).b i = if i < s ∧ p.only q i = true then q.b i else p.b i := fun i hi => by
    show upd (p.rest q s).b s (!q.b s) i = _
    unfold upd; rw [if_neg hi]; rfl
  have e3 : (p.piece q s).m s = true := by
    show upd (p.rest q s).m s true s = _
    unfold upd; rw [if_pos rfl]
  have e4 : (p.piece q s).b s = !q.b s := by
    show upd (p.rest q s).b s (!q.b s) s = _
    unfold upd; rw [if_pos rfl]
  constructor
  · intro hh
    refine ⟨fun i hi hm => ?_, fun i hi hoi => ?_, ?_⟩
    · have hne : i ≠ s := fun e => by rw [e, hps] at hm; cases hm
      have h1 := hh i hi (by rw [e1 i hne, hm]; rfl)
      rw [e2 i hne] at h1
      have hno : ¬ (i < s ∧ p.only q i = true) := fun hc => by
        have := hc.2
        unfold only at this
        rw [hm] at this
        simp at this
      rw [if_neg hno] at h1
      exact h1
    · have hq : q.m i = true := by
        unfold only at hoi
        rw [Bool.and_eq_true] at hoi
        exact hoi.1
      have h1 := hh i (by omega) (by rw [e1 i (by omega), hq, decide_eq_true hi]; simp)
      rw [e2 i (by omega), if_pos ⟨hi, hoi⟩] at h1
      exact h1
    · have h1 := hh s hs e3
      rw [e4] at h1
      intro hc
      rw [hc] at h1
      cases h s <;> simp_all
  · rintro ⟨h1, h2, h3⟩ i hi hm
    by_cases e : i = s
    · rw [e, e4]
      revert h3
      cases q.b s <;> cases h s <;> simp
    · rw [e1 i e] at hm
      rw [e2 i e]
      by_cases hc : i < s ∧ p.only q i = true
      · rw [if_pos hc]; exact h2 i hc.1 hc.2
      · rw [if_neg hc]
        refine h1 i hi ?_
        cases hpm : p.m i
        · rw [hpm, Bool.false_or, Bool.and_eq_true, decide_eq_true_eq] at hm
          exact absurd ⟨hm.1, by unfold only; rw [hm.2, hpm]; rfl⟩ hc
        · rfl
/-- How many pieces below k a head lies in. -/
theorem count_pieces {p q : Pat} (h : Nat → Bool) : ∀ k, k ≤ 160 → ((onesTo (p.only q) k).countP fun s => decide ((p.piece q s).hit h)) = if p.hit h ∧ ∃ s, s < k ∧ p.only q s = true ∧ q.b s ≠ h s then 1 else 0
  | 0, _ => by
    rw [if_neg fun hc => by obtain ⟨_, s, hs, _⟩ := hc; omega]
    rfl
  | k + 1, hk => by
    rw [onesTo_succ, List.countP_append, count_pieces h k (by omega)]
    by_cases ho : p.only q k = true
    · rw [if_pos ho]
      by_cases hb : ∃ s, s < k ∧ p.only q s = true ∧ q.b s ≠ h s
      · have hn : ¬ (p.piece q k).hit h := fun hc => by
          obtain ⟨s, h1, h2, h3⟩ := hb
          exact h3 (((piece_hit (by omega) ho h).1 hc).2.1 s h1 h2)
        rw [List.countP_cons_of_neg (by simpa using hn)]
        have e : (p.hit h ∧ ∃ s, s < k ∧ p.only q s = true ∧ q.b s ≠ h s) ↔ (p.hit h ∧ ∃ s, s < k + 1 ∧ p.only q s = true ∧ q.b s ≠ h s) := by
          obtain ⟨s, h1, h2⟩ := hb
          exact ⟨fun hh => ⟨hh.1, s, by omega, h2⟩, fun hh => ⟨hh.1, s, h1, h2⟩⟩
        rw [List.countP_nil, Nat.add_zero]
        by_cases hc : p.hit h ∧ ∃ s, s < k + 1 ∧ p.only q s = true ∧ q.b s ≠ h s
        · rw [if_pos (e.2 hc), if_pos hc]
        · rw [if_neg fun x => hc (e.1 x), if_neg hc]
      · rw [if_neg fun hc => hb hc.2]
        have hag : ∀ i, i < k → p.only q i = true → q.b i = h i := fun i hi hoi => Classical.byContradiction fun hc => hb ⟨i, hi, hoi, hc⟩
        by_cases hx : p.hit h ∧ q.b k ≠ h k
        · rw [List.countP_cons_of_pos (by simpa using (piece_hit (by omega) ho h).2 ⟨hx.1, hag, hx.2⟩), if_pos ⟨hx.1, k, by omega, ho, hx.2⟩, List.countP_nil]
        · rw [List.countP_cons_of_neg (by simpa using fun hc => hx ⟨((piece_hit (by omega) ho h).1 hc).1, ((piece_hit (by omega) ho h).1 hc).2.2⟩), if_neg]
          · rfl
          · rintro ⟨h1, s, h2, h3, h4⟩
            by_cases e : s = k
            · rw [e] at h4; exact hx ⟨h1, h4⟩
            · exact hb ⟨s, by omega, h3, h4⟩
    · rw [if_neg ho]
      have e : (p.hit h ∧ ∃ s, s < k ∧ p.only q s = true ∧ q.b s ≠ h s) ↔ (p.hit h ∧ ∃ s, s < k + 1 ∧ p.only q s = true ∧ q.b s ≠ h s) := by
        constructor
        · rintro ⟨h1, s, h2, h3⟩; exact ⟨h1, s, by omega, h3⟩
        · rintro ⟨h1, s, h2, h3⟩
          by_cases e : s = k
          · rw [e] at h3; exact absurd h3.1 ho
          · exact ⟨h1, s, by omega, h3⟩
      rw [List.countP_nil, Nat.add_zero]
      by_cases hc : p.hit h ∧ ∃ s, s < k + 1 ∧ p.only q s = true ∧ q.b s ≠ h s
      · rw [if_pos (e.2 hc), if_pos hc]
      · rw [if_neg fun x => hc (e.1 x), if_neg hc]
/-- The difference matches a head once if p does and q does not, else not at all. -/
theorem count_minus {p q : Pat} (h : Nat → Bool) : ((p.minus q).countP fun x => decide (x.hit h)) = if p.hit h ∧ ¬ q.hit h then 1 else 0 := by
  unfold minus
  by_cases ho : p.over q
  · rw [if_pos ho]
    unfold pieces
    rw [List.countP_map]
    have e := count_pieces (p := p) (q := q) h 160 (Nat.le_refl _)
    have e2 : (p.hit h ∧ ∃ s, s < 160 ∧ p.only q s = true ∧ q.b s ≠ h s) ↔ (p.hit h ∧ ¬ q.hit h) := by
      constructor
      · rintro ⟨h1, s, h2, h3, h4⟩
        refine ⟨h1, fun hc => h4 (hc s h2 ?_)⟩
        unfold only at h3
        rw [Bool.and_eq_true] at h3
        exact h3.1
      · rintro ⟨h1, h2⟩
        refine ⟨h1, Classical.byContradiction fun hc => h2 fun i hi hm => Classical.byContradiction fun hne => ?_⟩
        cases hpm : p.m i
        · exact hc ⟨i, hi, by unfold only; rw [hm, hpm]; rfl, hne⟩
        · have h3 := over_iff.1 ho i hi hm hpm
          exact hne (h3 ▸ h1 i hi hpm)
    simp only [Function.comp_def]
    rewrite [e]
    by_cases hc : p.hit h ∧ ¬ q.hit h
    · rw [if_pos (e2.2 hc), if_pos hc]
    · rw [if_neg fun x => hc (e2.1 x), if_neg hc]
  · rw [if_neg ho]
    by_cases hh : p.hit h
    · have hq : ¬ q.hit h := fun hc => ho (over_iff.2 fun i hi h1 h2 => (hh i hi h2).trans (hc i hi h1).symm)
      rw [List.countP_cons_of_pos (by simpa using hh), if_pos ⟨hh, hq⟩]
      rfl
    · rw [List.countP_cons_of_neg (by simpa using hh), if_neg fun hc => hh hc.1]
      rfl
end Pat
end Go.Proofs.YtkkgfdfjgfigcaaDoor

/-
  Contracts of the walks over the reference's power and prefix. Conditions: small numbers.
-/
namespace Go.Proofs.YtkkgfdfjgfigcaaDoor
set_option linter.unusedVariables false
set_option linter.unusedSimpArgs false
open Go.RowKit

def PowRel (n : Nat) (v i : Value) : Prop := ∃ k : Nat, k ≤ n ∧ i = .int .i64 k ∧ v = .int .i64 ((2 ^ k : Nat) : Int)































end Go.Proofs.YtkkgfdfjgfigcaaDoor

/-
  Contract of the walk over the reference's prefix. Conditions: the field lies in a head, the number fits in it.
-/
namespace Go.Proofs.YtkkgfdfjgfigcaaDoor
set_option linter.unusedVariables false
set_option linter.unusedSimpArgs false
open Go.RowKit

/-- The pattern that fixes the first bits of a field as in a number. -/
def Pat.pre (at_ wd n k : Nat) : Pat := ⟨fun i => decide (at_ ≤ i) && decide (i < at_ + k), fun i => (decide (at_ ≤ i) && decide (i < at_ + k)) && n.testBit (wd - 1 - (i - at_))⟩
theorem Pat.pre_zero (at_ wd n : Nat) : (Pat.pre at_ wd n 0).cells = Pat.zero.cells := by
  have h : ∀ i, (decide (at_ ≤ i) && decide (i < at_ + 0)) = false := fun i => by
    rw [Bool.and_eq_false_iff, decide_eq_false_iff_not, decide_eq_false_iff_not]; omega
  refine cells_congr ⟨fun i _ => h i, fun i _ => ?_⟩
  show ((decide (at_ ≤ i) && decide (i < at_ + 0)) && _) = false
  rw [h i, Bool.false_and]
theorem Pat.pre_next (at_ wd n k : Nat) : (⟨upd (Pat.pre at_ wd n k).m (at_ + k) true, upd (Pat.pre at_ wd n k).b (at_ + k) (n.testBit (wd - 1 - k))⟩ : Pat).cells = (Pat.pre at_ wd n (k + 1)).cells := by
  have h : ∀ i, i ≠ at_ + k → (decide (at_ ≤ i) && decide (i < at_ + k)) = (decide (at_ ≤ i) && decide (i < at_ + (k + 1))) := fun i hi => by
    rw [Bool.eq_iff_iff, Bool.and_eq_true, Bool.and_eq_true, decide_eq_true_eq, decide_eq_true_eq, decide_eq_true_eq]; omega
  have h2 : (decide (at_ ≤ at_ + k) && decide (at_ + k < at_ + (k + 1))) = true := by
    rw [Bool.and_eq_true, decide_eq_true_eq, decide_eq_true_eq]; omega
  refine cells_congr ⟨fun i _ => ?_, fun i _ => ?_⟩
  · show upd (Pat.pre at_ wd n k).m (at_ + k) true i = (decide (at_ ≤ i) && decide (i < at_ + (k + 1)))
    unfold upd
    by_cases e : i = at_ + k
    · rw [if_pos e, e, h2]
    · rw [if_neg e, ← h i e]; rfl
  · show upd (Pat.pre at_ wd n k).b (at_ + k) _ i = ((decide (at_ ≤ i) && decide (i < at_ + (k + 1))) && n.testBit (wd - 1 - (i - at_)))
    unfold upd
    by_cases e : i = at_ + k
    · rw [if_pos e, e, h2, Bool.true_and, Nat.add_sub_cancel_left]
    · rw [if_neg e, ← h i e]; rfl
def PrefixRel (at_ wd n fx gp gr : Nat) (w : World) (i : Value) (wr : World) : Prop :=
  ∃ k : Nat, k ≤ fx ∧ i = .int .i64 (k : Int) ∧ Blk wr gp 25 (Pat.pre at_ wd n k).cells ∧ Blk wr gr 25 Pat.zero.cells ∧ Below w.heap.size w wr










































































































































































































































end Go.Proofs.YtkkgfdfjgfigcaaDoor

/-
  Contract of the walk over the law's first. Conditions: words.
-/
namespace Go.Proofs.YtkkgfdfjgfigcaaDoor
set_option linter.unusedVariables false
set_option linter.unusedSimpArgs false
open Go.RowKit

/-- A word and nine empty ones. -/
def word0 (n : Nat) : List Nat := [n, 0, 0, 0, 0, 0, 0, 0, 0, 0]
/-- The pattern that fixes the first bits of word 0. -/
def Pat.first (m b : Nat) : Pat := ⟨bitsOf (word0 m), bitsOf (word0 b)⟩
theorem H_word0 (n : Nat) (h : n < 65536) : H (bitsOf (word0 n)) = (word0 n).map nV := by
  unfold H
  rw [HN_bitsOf rfl fun x hx => by
    unfold word0 at hx
    simp only [List.mem_cons, List.mem_nil_iff, or_false] at hx
    omega]
theorem run_word0 (w : World) (x : Int) : (Instr.build 23 #[(0, .int .i64 x)]).run Tryd.prog w = .ok (.agg (.int .i64 x :: (List.replicate 9 (.int .i64 0))).toArray) w := by kernel_rfl
set_option maxRecDepth 100000 in
set_option maxHeartbeats 1600000 in
theorem first_any (m b : Nat) (w : World) (hm : m < 65536) (hb : b < 65536) :
    Calls Tryd.prog 78 #[.int .i64 (m : Int), .int .i64 (b : Int)] w fun e w' => e = .returned (.agg (Pat.first m b).cells.toArray) ∧ Below w.heap.size w w' := by
  obtain ⟨X, hX⟩ : ∃ X, Hid (Pat.first m b = X) := ⟨_, rfl⟩
  obtain ⟨M, hM⟩ : ∃ M, H (bitsOf (word0 m)) = M := ⟨_, rfl⟩
  obtain ⟨B, hB⟩ : ∃ B, H (bitsOf (word0 b)) = B := ⟨_, rfl⟩
  have hMl : M.length = 10 := by rw [← hM, H_length]
  have hBl : B.length = 10 := by rw [← hB, H_length]
  have hXc : M ++ B = X.cells := by rw [← hX.out, ← hM, ← hB]; rfl
  have e1 : ∀ w, (Instr.build 23 #[(0, .int .i64 (m : Int))]).run Tryd.prog w = .ok (.agg M.toArray) w := fun w => by rw [run_word0, ← hM, H_word0 m hm]; rfl
  have e2 : ∀ w, (Instr.build 23 #[(0, .int .i64 (b : Int))]).run Tryd.prog w = .ok (.agg B.toArray) w := fun w => by rw [run_word0, ← hB, H_word0 b hb]; rfl
  have e3 : ∀ w, (Instr.build 25 #[(0, .agg M.toArray), (1, .agg B.toArray)]).run Tryd.prog w = .ok (.agg X.cells.toArray) w := fun w => by rw [run_buildP w _ _ hMl hBl, hXc]
  rw [hX.out]
  clear hM hB hMl hBl hXc hX hm hb
  go_enter Tryd.func78, Tryd.ntmps78
  go_wp2_with (with_reducible refine wpList_alloc (o := ⟨some 4, .alloc 25, _, _, _, _⟩) (by with_unfolding_all rfl) 25 (by with_unfolding_all rfl) (.agg (H no ++ H no).toArray) (H no ++ H no) (by exact Tryd.zeroPt) (by with_unfolding_all rfl) ?_)
  intro gr w1 hgr hs1 hb1 hR1
  rw [cells_zero] at hR1
  have hle : w.heap.size ≤ gr := Nat.le_of_eq hgr.out.symm
  have hbel1 := hb1.mono hle
  clear hgr hs1 hb1
  go_wp2_with (first | (with_reducible refine wpList_build (o := ⟨some 6, .build 23 #[(0, .tmp 5)], _, _, _, _⟩) (by with_unfolding_all rfl) 23 #[(0, .tmp 5)] (by with_unfolding_all rfl) #[(0, .int .i64 (m : Int))] (by with_unfolding_all rfl) (.agg M.toArray) e1 ?_) | (with_reducible refine wpList_build (o := ⟨some 8, .build 23 #[(0, .tmp 7)], _, _, _, _⟩) (by with_unfolding_all rfl) 23 #[(0, .tmp 7)] (by with_unfolding_all rfl) #[(0, .int .i64 (b : Int))] (by with_unfolding_all rfl) (.agg B.toArray) e2 ?_) | (with_reducible refine wpList_build (o := ⟨some 9, .build 25 #[(0, .tmp 6), (1, .tmp 8)], _, _, _, _⟩) (by with_unfolding_all rfl) 25 #[(0, .tmp 6), (1, .tmp 8)] (by with_unfolding_all rfl) #[(0, .agg M.toArray), (1, .agg B.toArray)] (by with_unfolding_all rfl) (.agg X.cells.toArray) e3 ?_) | (with_reducible refine wpList_put (o := ⟨none, .store 25 (.tmp 4) (.tmp 9), _, _, _, _⟩) (by with_unfolding_all rfl) 25 (.tmp 4) (.tmp 9) (by with_unfolding_all rfl) gr 0 (by with_unfolding_all rfl) (.agg X.cells.toArray) (by with_unfolding_all rfl) hR1 X.cells (by with_unfolding_all rfl) (by with_unfolding_all (rw [Pat.cells_length]; exact Tryd.szP)) (by with_unfolding_all (rw [Pat.cells_length, Pat.cells_length]; omega)) (by with_unfolding_all (exact cells_one _)) ?_))
  intro w5 hu5 hR5
  rw [splice_all _ _ (by rw [Pat.cells_length, Pat.cells_length])] at hR5
  have hb5 := hbel1.trans (hu5.below (B := w.heap.size) hle)
  go_wp2
  refine bodyPost_ret (results_cell_row rfl _ _ gr _ _ _ _ rfl hR5 Tryd.underlying25 rfl (by rw [List.size_toArray, Pat.cells_length]; exact Tryd.szP)) rfl ⟨rfl, hb5⟩
end Go.Proofs.YtkkgfdfjgfigcaaDoor

/-
  Contract of the walk over the reference's RightAll. Conditions: rows of words lie there.
-/
namespace Go.Proofs.YtkkgfdfjgfigcaaDoor
set_option linter.unusedVariables false
set_option linter.unusedSimpArgs false
open Go.RowKit

/-- A row of cells, read as a struct, from an address on. -/
theorem run_loadVar_add (w : World) (p : Addr) (ty : TypeId) (cs : List Value) (d : TypeDesc) (hc : ∀ (q : Nat) (u : Value), cs[q]? = some u → w.cell? (p.add q) = some u)
    (hu : Tryd.prog.underlying ty = some d) (hd : d.isRow = true) (hi : (Tryd.prog.info? ty).map (·.size) = some cs.length) : (loadVar ty p).run Tryd.prog w = .ok (.agg cs.toArray) w := by
  have hl : (loadCells p cs.length).run Tryd.prog w = .ok cs.toArray w := run_loadCells_list (P := Tryd.prog) w p cs hc
  cases hq : Tryd.prog.info? ty with
  | none => simp [hq] at hi
  | some i =>
    have hs : i.size = cs.length := by simpa [hq] using hi
    have hagg : (isAgg ty).run Tryd.prog w = .ok true w := by
      unfold isAgg
      rw [Sem.run_bind, run_underlying hu w]
      cases d <;> simp_all
    simp [loadVar, Sem.run_bind, hagg, sizeOf, typeInfo, hq, hs, hl]
theorem wpList_load_add {ops : Array Oper} {rest : List Oper} {op : Oper} {a : Act} {w : World} {Q : Exit → Act → World → Prop} (hgd : op.guard = none) (ty : TypeId) (x : Operand) (ho : op.op = .load ty x)
    (p : Addr) (hx : a.eval x = .pointer (some p)) (cs : List Value) (d : TypeDesc) (hc : ∀ (q : Nat) (u : Value), cs[q]? = some u → w.cell? (p.add q) = some u)
    (hu : Tryd.prog.underlying ty = some d) (hd : d.isRow = true) (hi : (Tryd.prog.info? ty).map (·.size) = some cs.length)
    (h : wpList Tryd.prog ops Q rest (a.put op.dst (.agg cs.toArray)) w) : wpList Tryd.prog ops Q (op :: rest) a w := by
  refine wpList_plain hgd fun K hK => ?_
  unfold Oper.wp execOp
  simp only [ho, hx, Instr.loadAt, Instr.sureAddr, Sem.run_bind, Sem.run_pure, Result.andThen_ok, run_loadVar_add w p ty cs d hc hu hd hi]
  exact hK _ _ h
/-- The cells of a pattern of whatever words. -/
def rawCells (r : List Int × List Int) : List Value := r.1.map iV ++ r.2.map iV
/-- A slice of patterns of whatever words. -/
def RawAt (w : World) (A : Option Addr) (l : List (List Int × List Int)) : Prop := ∀ k r, l[k]? = some r → ∃ ad, A = some ad ∧ ∀ q u, (rawCells r)[q]? = some u → w.cell? ((ad.add (k * 20)).add q) = some u
theorem RawAt.next {w w' : World} {A : Option Addr} {l : List (List Int × List Int)} (h : RawAt w A l) (hb : Below w.heap.size w w') : RawAt w' A l := fun k r hr => by
  obtain ⟨ad, e, hc⟩ := h k r hr
  exact ⟨ad, e, fun q u hu => by rw [hb.cell (World.block_lt_of_cell? w _ (hc q u hu))]; exact hc q u hu⟩
/-- A pattern has ten words in its mask and ten in its bits. -/
def Tens (l : List (List Int × List Int)) : Prop := ∀ r ∈ l, r.1.length = 10 ∧ r.2.length = 10
def RightAllRel (l : List (List Int × List Int)) (n : Nat) (w : World) (i : Value) (wr : World) : Prop :=
  ∃ k : Nat, k ≤ n ∧ i = .int .i64 (k : Int) ∧ (∀ j r, j < k → l[j]? = some r → pairI r.1 r.2 = true) ∧ Below w.heap.size w wr









































































end Go.Proofs.YtkkgfdfjgfigcaaDoor

/-
  Contract of the walk over the reference's Same. Conditions: rows of patterns lie there.
-/
namespace Go.Proofs.YtkkgfdfjgfigcaaDoor
set_option linter.unusedVariables false
set_option linter.unusedSimpArgs false
open Go.RowKit

/-- A slice of patterns. -/
def PatsAt (w : World) (A : Option Addr) (l : List Pat) : Prop := ∀ k p, l[k]? = some p → ∃ g o, A = some ⟨g, o, none⟩ ∧ w.rangeAt g (o + k * 20) p.cells
theorem PatsAt.next {w w' : World} {A : Option Addr} {l : List Pat} (h : PatsAt w A l) (hb : Below w.heap.size w w') : PatsAt w' A l := fun k p hp => by
  obtain ⟨g, o, e, hc⟩ := h k p hp
  exact ⟨g, o, e, fun q u hu => by rw [hb.cell (World.block_lt_of_cell? w _ (hc q u hu))]; exact hc q u hu⟩
def samePs : List Pat → List Pat → Bool
  | [], [] => true
  | p :: l, q :: r => p.same q && samePs l r
  | _, _ => false
theorem samePs_len : ∀ {l r : List Pat}, samePs l r = true → l.length = r.length
  | [], [], _ => rfl
  | _ :: l, _ :: r, h => by
    unfold samePs at h
    rw [Bool.and_eq_true] at h
    rw [List.length_cons, List.length_cons, samePs_len h.2]
  | [], _ :: _, h => by cases h
  | _ :: _, [], h => by cases h
theorem samePs_iff : ∀ {l r : List Pat}, l.length = r.length → (samePs l r = true ↔ ∀ (k : Nat) (p q : Pat), l[k]? = some p → r[k]? = some q → p.same q = true)
  | [], [], _ => ⟨fun _ k p q h => by simp at h, fun _ => rfl⟩
  | p :: l, q :: r, h => by
    have hl : l.length = r.length := by simpa using h
    unfold samePs
    rw [Bool.and_eq_true, samePs_iff hl]
    constructor
    · rintro ⟨h1, h2⟩ k a b ha hb
      cases k with
      | zero =>
        simp at ha hb
        rw [← ha, ← hb]; exact h1
      | succ k =>
        simp at ha hb
        exact h2 k a b ha hb
    · intro h1
      exact ⟨h1 0 p q rfl rfl, fun k a b ha hb => h1 (k + 1) a b (by simpa using ha) (by simpa using hb)⟩
  | [], _ :: _, h => by simp at h
  | _ :: _, [], h => by simp at h
def RSameRel (l r : List Pat) (n : Nat) (w : World) (i : Value) (wr : World) : Prop :=
  ∃ k : Nat, k ≤ n ∧ i = .int .i64 (k : Int) ∧ (∀ j p q, j < k → l[j]? = some p → r[j]? = some q → p.same q = true) ∧ Below w.heap.size w wr
set_option maxRecDepth 100000 in
set_option maxHeartbeats 1600000 in
theorem rsame_any (A B : Option Addr) (c d : Nat) (l r : List Pat) (w : World) (hl : l.length ≤ 140737488355328) (hr : r.length ≤ 140737488355328) (hS : PatsAt w A l) (hS2 : PatsAt w B r) :
    Calls Tryd.prog 85 #[.slice A l.length c, .slice B r.length d] w fun e w' => e = .returned (.bool (samePs l r)) ∧ Below w.heap.size w w' := by
  obtain ⟨D, hD⟩ : ∃ D, Hid (samePs l r = D) := ⟨_, rfl⟩
  rw [hD.out]
  have HS := Lib.hid hS
  have HS2 := Lib.hid hS2
  obtain ⟨n, hn⟩ : ∃ n, Hid (l.length = n) := ⟨_, rfl⟩
  obtain ⟨m, hm⟩ : ∃ m, Hid (r.length = m) := ⟨_, rfl⟩
  rw [hn.out] at hl ⊢
  rw [hm.out] at hr ⊢
  clear hS hS2
  go_enter Tryd.func85, Tryd.ntmps85
  by_cases hnm : n = m
  · subst hnm
    go_wp2
    go_loopw [5] (RSameRel l r n w) (fun i _ => n - (intOf i).toNat)
    case atStart => exact ⟨0, Nat.zero_le _, rfl, fun j p q hj => absurd hj (Nat.not_lt_zero j), Below.refl _ _⟩
    case round =>
      obtain ⟨k, hk, rfl, hz, hbel⟩ := hrel
      have HZ := Lib.hid hz
      clear hz
      by_cases hlt : k < n
      · have hki : (k : Int) < (n : Int) := by omega
        obtain ⟨p, hp⟩ : ∃ p, l[k]? = some p := ⟨_, List.getElem?_eq_getElem (by rw [hn.out]; exact hlt)⟩
        obtain ⟨q, hq⟩ : ∃ q, r[k]? = some q := ⟨_, List.getElem?_eq_getElem (by rw [hm.out]; exact hlt)⟩
        obtain ⟨ga, oa, rfl, hca⟩ := (HS.out.next hbel) k p hp
        obtain ⟨gb, ob, rfl, hcb⟩ := (HS2.out.next hbel) k q hq
        obtain ⟨E, hE⟩ : ∃ E, Hid (p.same q = E) := ⟨_, rfl⟩
        have hneq : ∀ w, (binOp .neq 25 (.agg p.cells.toArray) (.agg q.cells.toArray)).run Tryd.prog w = .ok (.bool (!E)) w := fun w => by rw [neq_pat, ← hE.out]; rfl
        have hgd := Tryd.guardP
        have HPk := Lib.hid hp
        have HQk := Lib.hid hq
        have hun := Tryd.underlying25
        have hz1 : (Tryd.prog.info? 25).map (·.size) = some p.cells.length := by rw [Pat.cells_length]; exact Tryd.szP
        have hz2 : (Tryd.prog.info? 25).map (·.size) = some q.cells.length := by rw [Pat.cells_length]; exact Tryd.szP
        clear hp hq
        go_wp2
        have hdd := below_drew wr
        refine wp_region_held_drew (S := fun w' => w'.rangeAt ga (oa + k * 20) p.cells ∧ w'.rangeAt gb (ob + k * 20) q.cells) (by kernel_rfl) ⟨hca, hcb⟩ (fun hHeld => ?_)
        generalize wr.drew = wd at hdd hHeld ⊢
        clear hca hcb
        refine wpAnyH_take (i := 0) (v := ?vv0) rfl (by kernel_rfl) (by kernel_rfl) (by kernel_rfl) (fun _ _ _ h => h) (Or.inl ⟨by rfl, ?yv0⟩) (by assumption) ?rv0
        case yv0 => intro w hSw; (try dsimp only at hSw); go_simp <;> (try with_reducible rfl)
        (try simp only [List.getElem_toArray, List.getElem_cons_zero, Act.put, List.setIfInBounds_toArray, List.set_cons_zero, List.set_cons_succ])
        refine wpAnyH_take (i := 1) (v := ?vv1) rfl (by kernel_rfl) (by kernel_rfl) (by kernel_rfl) (fun _ _ _ h => h) (Or.inl ⟨by rfl, ?yv1⟩) (by assumption) ?rv1
        case yv1 => intro w hSw; (try dsimp only at hSw); go_simp <;> (try with_reducible rfl)
        (try simp only [List.getElem_toArray, List.getElem_cons_succ, List.getElem_cons_zero, Act.put, List.setIfInBounds_toArray, List.set_cons_zero, List.set_cons_succ])
        refine wpAnyH_take (i := 2) (v := ?vv2) rfl (by kernel_rfl) (by kernel_rfl) (by kernel_rfl) (fun _ _ _ h => h) (Or.inl ⟨by rfl, ?yv2⟩) (by assumption) ?rv2
        case yv2 => intro w hSw; (try dsimp only at hSw); go_simp <;> (try with_reducible rfl)
        (try simp only [List.getElem_toArray, List.getElem_cons_succ, List.getElem_cons_zero, Act.put, List.setIfInBounds_toArray, List.set_cons_zero, List.set_cons_succ])
        refine' wpAnyH_take (i := 3) (v := _) rfl (by kernel_rfl) (by kernel_rfl) (by kernel_rfl) (fun _ _ _ h => h) (yieldsIf_load_mid (by rfl) _ _ (by rfl) _ _ (by rfl) _ _ ?Sv3 ?uv3 ?dv3 ?iv3) (by assumption) ?rv3
        case Sv3 => exact (by intro w h; exact h.1)
        case uv3 => exact hun
        case dv3 => rfl
        case iv3 => exact hz1
        (try simp only [List.getElem_toArray, List.getElem_cons_succ, List.getElem_cons_zero, Act.put, List.setIfInBounds_toArray, List.set_cons_zero, List.set_cons_succ])
        refine wpAnyH_take (i := 4) (v := ?vv4) rfl (by kernel_rfl) (by kernel_rfl) (by kernel_rfl) (fun _ _ _ h => h) (Or.inl ⟨by rfl, ?yv4⟩) (by assumption) ?rv4
        case yv4 => intro w hSw; (try dsimp only at hSw); go_simp <;> (try with_reducible rfl)
        (try simp only [List.getElem_toArray, List.getElem_cons_succ, List.getElem_cons_zero, Act.put, List.setIfInBounds_toArray, List.set_cons_zero, List.set_cons_succ])
        refine wpAnyH_take (i := 5) (v := ?vv5) rfl (by kernel_rfl) (by kernel_rfl) (by kernel_rfl) (fun _ _ _ h => h) (Or.inl ⟨by rfl, ?yv5⟩) (by assumption) ?rv5
        case yv5 => intro w hSw; (try dsimp only at hSw); go_simp <;> (try with_reducible rfl)
        (try simp only [List.getElem_toArray, List.getElem_cons_succ, List.getElem_cons_zero, Act.put, List.setIfInBounds_toArray, List.set_cons_zero, List.set_cons_succ])
        refine wpAnyH_take (i := 6) (v := ?vv6) rfl (by kernel_rfl) (by kernel_rfl) (by kernel_rfl) (fun _ _ _ h => h) (Or.inl ⟨by rfl, ?yv6⟩) (by assumption) ?rv6
        case yv6 => intro w hSw; (try dsimp only at hSw); go_simp <;> (try with_reducible rfl)
        (try simp only [List.getElem_toArray, List.getElem_cons_succ, List.getElem_cons_zero, Act.put, List.setIfInBounds_toArray, List.set_cons_zero, List.set_cons_succ])
        refine' wpAnyH_take (i := 7) (v := _) rfl (by kernel_rfl) (by kernel_rfl) (by kernel_rfl) (fun _ _ _ h => h) (yieldsIf_load_mid (by rfl) _ _ (by rfl) _ _ (by rfl) _ _ ?Sv7 ?uv7 ?dv7 ?iv7) (by assumption) ?rv7
        case Sv7 => exact (by intro w h; exact h.2)
        case uv7 => exact hun
        case dv7 => rfl
        case iv7 => exact hz2
        (try simp only [List.getElem_toArray, List.getElem_cons_succ, List.getElem_cons_zero, Act.put, List.setIfInBounds_toArray, List.set_cons_zero, List.set_cons_succ])
        refine wpAnyH_take (i := 8) (v := ?vv8) rfl (by kernel_rfl) (by kernel_rfl) (by kernel_rfl) (fun _ _ _ h => h) (Or.inl ⟨by rfl, ?yv8⟩) (by assumption) ?rv8
        case yv8 => intro w hSw; (try dsimp only at hSw); go_simp <;> (try with_reducible rfl)
        (try simp only [List.getElem_toArray, List.getElem_cons_succ, List.getElem_cons_zero, Act.put, List.setIfInBounds_toArray, List.set_cons_zero, List.set_cons_succ])
        refine wpAnyH_done (by kernel_rfl) ?_ _
        have hbel2 := hbel.trans (hdd.mono hbel.size)
        clear hneq hbel hdd
        rcases E with _ | _
        · have hno : Hid (D = false) := by
            have : D = false := by
              rw [← hD.out, Bool.eq_false_iff]
              intro hall
              have := (samePs_iff (by rw [hn.out, hm.out])).1 hall k p q HPk.out HQk.out
              rw [hE.out] at this
              cases this
            exact this
          go_wp2
          go_ret
          exact ⟨by rw [hno.out]; rfl, hbel2⟩
        · go_wp2
          go_roundw
          case rel => exact ⟨k + 1, by omega, by go_num, fun j a b hj ha hb => by
            by_cases e : j = k
            · rw [e, HPk.out] at ha
              rw [e, HQk.out] at hb
              injection ha with ha
              injection hb with hb
              rw [← ha, ← hb]; exact hE.out
            · exact HZ.out j a b (by omega) ha hb, hbel2⟩
          case measure => simp [intOf]; omega
      · obtain rfl : k = n := by omega
        have hyes : Hid (D = true) := by
          have : D = true := by
            rw [← hD.out]
            exact (samePs_iff (by rw [hn.out, hm.out])).2 fun j a b ha hb => HZ.out j a b (by rw [← hn.out]; exact (List.getElem?_eq_some_iff.1 ha).1) ha hb
          exact this
        go_wp2
        go_ret
        exact ⟨by rw [hyes.out]; rfl, hbel⟩
  · have hne : ((n : Int) != (m : Int)) = true := bne_iff_ne.2 (by omega)
    have hno : Hid (D = false) := by
      have : D = false := by
        rw [← hD.out, Bool.eq_false_iff]
        intro hall
        have := samePs_len hall
        rw [hn.out, hm.out] at this
        exact hnm this
      exact this
    go_wp2
    go_ret
    exact ⟨by rw [hno.out]; rfl, Below.refl _ _⟩
end Go.Proofs.YtkkgfdfjgfigcaaDoor

/-
  Contract of the walk over the reference's In. Conditions: a row of patterns lies there.
-/
namespace Go.Proofs.YtkkgfdfjgfigcaaDoor
set_option linter.unusedVariables false
set_option linter.unusedSimpArgs false
open Go.RowKit

/-- How many of the first k patterns match a head. -/
def inTo (l : List Pat) (h : Nat → Bool) (k : Nat) : Nat := (l.take k).countP fun p => decide (p.hit h)
theorem inTo_next {l : List Pat} {h : Nat → Bool} {k : Nat} {p : Pat} (hp : l[k]? = some p) : inTo l h (k + 1) = inTo l h k + (decide (p.hit h)).toNat := by
  obtain ⟨hk, e⟩ := List.getElem?_eq_some_iff.1 hp
  unfold inTo
  rw [List.take_succ_eq_append_getElem hk, List.countP_append, e]
  cases hd : decide (p.hit h)
  · rw [List.countP_cons_of_neg (by rw [hd]; decide)]; rfl
  · rw [List.countP_cons_of_pos (by exact hd)]; rfl
theorem inTo_le (l : List Pat) (h : Nat → Bool) (k : Nat) : inTo l h k ≤ k := Nat.le_trans List.countP_le_length (by rw [List.length_take]; omega)
def RInRel (l : List Pat) (h : Nat → Bool) (n gh : Nat) (w : World) (v i : Value) (wr : World) : Prop :=
  ∃ k N : Nat, k ≤ n ∧ i = .int .i64 (k : Int) ∧ v = .int .i64 (N : Int) ∧ inTo l h k = N ∧ Blk wr gh 23 (H h) ∧ Below w.heap.size w wr









































































































end Go.Proofs.YtkkgfdfjgfigcaaDoor

/-
  Contract of the walk over the reference's Fixed. Conditions: a row of patterns lies there.
-/
namespace Go.Proofs.YtkkgfdfjgfigcaaDoor
set_option linter.unusedVariables false
set_option linter.unusedSimpArgs false
open Go.RowKit

/-- The bits that one of the first k patterns fixes. -/
def fixTo (l : List Pat) (k : Nat) : Nat → Bool := fun i => (l.take k).any fun p => p.m i
theorem fixTo_next {l : List Pat} {k : Nat} {p : Pat} (hp : l[k]? = some p) : (⟨p.m, p.m⟩ : Pat).app (fixTo l k) = fixTo l (k + 1) := by
  obtain ⟨hk, e⟩ := List.getElem?_eq_some_iff.1 hp
  funext i
  show ((fixTo l k i && !p.m i) || p.m i) = (l.take (k + 1)).any fun p => p.m i
  rw [List.take_succ_eq_append_getElem hk, List.any_append, e]
  show _ = (fixTo l k i || (p.m i || false))
  cases fixTo l k i <;> cases p.m i <;> rfl
def RFixRel (l : List Pat) (n gp : Nat) (w : World) (i : Value) (wr : World) : Prop :=
  ∃ k : Nat, k ≤ n ∧ i = .int .i64 (k : Int) ∧ Blk wr gp 25 (⟨fixTo l k, no⟩ : Pat).cells ∧ Below w.heap.size w wr










































































































































































end Go.Proofs.YtkkgfdfjgfigcaaDoor

/-
  Words that are right are those of a right pattern. Conditions: ten words in the mask, ten in the bits.
-/
namespace Go.Proofs.YtkkgfdfjgfigcaaDoor
set_option linter.unusedVariables false
set_option linter.unusedSimpArgs false
open Go.RowKit

theorem HI_get (f : Nat → Bool) {k : Nat} (h : k < 10) : (HI f)[k]? = some (word f k : Int) := by
  unfold HI
  rw [List.getElem?_map, HN_get f h]; rfl
theorem zipA_HI (f g : Nat → Bool) : zipA (HI f) (HI g) = HI fun i => f i && g i := by
  apply List.ext_getElem?
  intro k
  by_cases hk : k < 10
  · rw [zipA_get (HI_get f hk) (HI_get g hk), HI_get _ hk, wand]
  · rw [List.getElem?_eq_none (by rw [zipA_length (HI_length _) (HI_length _)]; omega), List.getElem?_eq_none (by rw [HI_length]; omega)]
theorem right_head {l : List Int} (hl : l.length = 10) (h : rightI l) : ∃ f, HI f = l := by
  refine ⟨bitsOf (l.map Int.toNat), ?_⟩
  unfold HI
  rw [HN_bitsOf (by rw [List.length_map]; exact hl) (fun x hx => by
    obtain ⟨y, hy, rfl⟩ := List.mem_map.1 hx
    have := h y hy
    omega), List.map_map]
  have : ∀ x ∈ l, ((fun n : Nat => (n : Int)) ∘ Int.toNat) x = id x := fun x hx => by
    have := h x hx
    show ((x.toNat : Nat) : Int) = x
    omega
  rw [List.map_congr_left this, List.map_id]
theorem right_pat {m b : List Int} (hm : m.length = 10) (hb : b.length = 10) (h : pairI m b = true) : ∃ p : Pat, p.ok ∧ HI p.m = m ∧ HI p.b = b := by
  unfold pairI at h
  rw [Bool.and_eq_true, decide_eq_true_eq, decide_eq_true_eq] at h
  obtain ⟨f, rfl⟩ := right_head hm h.1
  obtain ⟨g, rfl⟩ := right_head hb (right_within hm hb h.1 h.2)
  refine ⟨⟨f, g⟩, fun i hi hg => ?_, rfl, rfl⟩
  have e := h.2
  rw [zipA_HI] at e
  have h1 : (g i && f i) = g i := HI_inj e i hi
  have hg' : g i = true := hg
  rw [hg', Bool.true_and] at h1
  exact h1
theorem pat_right {p : Pat} (h : p.ok) : pairI (HI p.m) (HI p.b) = true := by
  unfold pairI
  rw [Bool.and_eq_true, decide_eq_true_eq, decide_eq_true_eq, zipA_HI]
  refine ⟨fun x hx => ?_, HI_congr fun i hi => ?_⟩
  · unfold HI HN at hx
    obtain ⟨y, hy, rfl⟩ := List.mem_map.1 hx
    obtain ⟨k, _, rfl⟩ := List.mem_map.1 hy
    have := word_lt p.m k
    omega
  · have h1 := h i hi
    revert h1
    cases p.m i <;> cases p.b i <;> simp
theorem rawCells_pat (p : Pat) : rawCells (HI p.m, HI p.b) = p.cells := by
  unfold rawCells Pat.cells
  rw [H_iV, H_iV]
end Go.Proofs.YtkkgfdfjgfigcaaDoor

/-
  Contracts of the walk over the reference's Few. Conditions: rows of words, or of patterns, lie there.
-/
namespace Go.Proofs.YtkkgfdfjgfigcaaDoor
set_option linter.unusedVariables false
set_option linter.unusedSimpArgs false
open Go.RowKit

theorem add_none (g o n : Nat) : (⟨g, o, none⟩ : Addr).add n = ⟨g, o + n, none⟩ := by
  unfold Addr.add
  split
  · next h => simp [h]
  · rfl
def rawOf (l : List Pat) : List (List Int × List Int) := l.map fun p => (HI p.m, HI p.b)
theorem PatsAt.raw {w : World} {A : Option Addr} {l : List Pat} (h : PatsAt w A l) : RawAt w A (rawOf l) := fun k r hr => by
  unfold rawOf at hr
  rw [List.getElem?_map] at hr
  cases hp : l[k]? with
  | none => rw [hp] at hr; cases hr
  | some p =>
    rw [hp] at hr
    injection hr with hr
    obtain ⟨g, o, e, hc⟩ := h k p hp
    subst hr
    exact ⟨⟨g, o, none⟩, e, fun q u hu => by
      have h1 := hc q u (by rw [rawCells_pat] at hu; exact hu)
      rw [add_none, add_none]; exact h1⟩
theorem rawOf_tens (l : List Pat) : Tens (rawOf l) := fun r hr => by
  unfold rawOf at hr
  obtain ⟨p, _, rfl⟩ := List.mem_map.1 hr
  exact ⟨HI_length _, HI_length _⟩
theorem rawOf_right {l : List Pat} (h : ∀ p ∈ l, p.ok) : ((rawOf l).all fun r => pairI r.1 r.2) = true := by
  rw [List.all_eq_true]
  intro r hr
  unfold rawOf at hr
  obtain ⟨p, hp, rfl⟩ := List.mem_map.1 hr
  exact pat_right (h p hp)


































































end Go.Proofs.YtkkgfdfjgfigcaaDoor

/-
  Why a pattern has no head outside a list of patterns, and how the least head outside is found, in plain words. Conditions: right patterns.
-/
namespace Go.Proofs.YtkkgfdfjgfigcaaDoor
set_option linter.unusedVariables false
set_option linter.unusedSimpArgs false
open Go.RowKit

namespace Pat
/-- Some element of a list has the head. -/
def inSome (l : List Pat) (h : Nat → Bool) : Prop := ∃ q, q ∈ l ∧ q.hit h
/-- p agrees with a head on R. -/
def agrees (p : Pat) (R h : Nat → Bool) : Prop := ∀ i, i < 160 → R i = true → p.b i = h i
/-- R, of bits that p fixes, is a reason why p has no head outside a list. -/
def why (l : List Pat) (p : Pat) (R : Nat → Bool) : Prop := (∀ i, i < 160 → R i = true → p.m i = true) ∧ ∀ h, p.agrees R h → inSome l h
/-- x is a part of p that no element overlaps. -/
def clear (l : List Pat) (p x : Pat) : Prop := x.ok ∧ (∀ i, i < 160 → p.m i = true → x.m i = true ∧ x.b i = p.b i) ∧ ∀ q, q ∈ l → ¬ q.over x
theorem only_iff {p q : Pat} {i : Nat} : p.only q i = true ↔ q.m i = true ∧ p.m i = false := by
  unfold only
  cases q.m i <;> cases p.m i <;> simp
theorem piece_m (p q : Pat) {s i : Nat} (h : i ≠ s) : (p.piece q s).m i = (p.m i || (decide (i < s) && q.m i)) := by
  show upd (p.rest q s).m s true i = _
  unfold upd; rw [if_neg h]; rfl
theorem piece_b (p q : Pat) {s i : Nat} (h : i ≠ s) : (p.piece q s).b i = if i < s ∧ p.only q i = true then q.b i else p.b i := by
  show upd (p.rest q s).b s (!q.b s) i = _
  unfold upd; rw [if_neg h]; rfl
theorem piece_ms (p q : Pat) (s : Nat) : (p.piece q s).m s = true := by
  show upd (p.rest q s).m s true s = _
  unfold upd; rw [if_pos rfl]
theorem piece_bs (p q : Pat) (s : Nat) : (p.piece q s).b s = !q.b s := by
  show upd (p.rest q s).b s (!q.b s) s = _
  unfold upd; rw [if_pos rfl]
theorem piece_sub {p q : Pat} {s : Nat} (ho : p.only q s = true) {i : Nat} (hi : p.m i = true) : (p.piece q s).m i = true ∧ (p.piece q s).b i = p.b i := by
  have hne : i ≠ s := fun e => by rw [e, (only_iff.1 ho).2] at hi; cases hi
  refine ⟨by rw [piece_m p q hne, hi]; rfl, ?_⟩
  rw [piece_b p q hne, if_neg]
  intro hc
  rw [(only_iff.1 hc.2).2] at hi; cases hi
theorem why_one {l : List Pat} {p q : Pat} {s : Nat} {R : Nat → Bool} (ho : p.only q s = true) (h : why l (p.piece q s) R) (hs : ∀ i, i < 160 → R i = true → p.m i = true) : why l p R :=
  ⟨hs, fun g hg => h.2 g fun i hi hR => (piece_sub ho (hs i hi hR)).2.trans (hg i hi hR)⟩
theorem why_all {l : List Pat} {p q : Pat} {R : Nat → Bool} (hq : q ∈ l) (ho : p.over q) (hR : ∀ i, i < 160 → q.m i = true → R i = true)
    (hall : ∀ s, s < 160 → p.only q s = true → ∃ R', why l (p.piece q s) R' ∧ ∀ i, i < 160 → R' i = true → R i = true) : why l p fun i => R i && p.m i := by
  refine ⟨fun i _ h => by rw [Bool.and_eq_true] at h; exact h.2, fun h hag => ?_⟩
  have hag' : ∀ i, i < 160 → R i = true → p.m i = true → p.b i = h i := fun i hi h1 h2 => hag i hi (by show (R i && p.m i) = true; rw [h1, h2]; rfl)
  rcases first_one (fun i => p.only q i && (q.b i != h i)) 0 160 with hn | ⟨s, _, hs, h3, h4⟩
  · refine ⟨q, hq, fun i hi hm => ?_⟩
    cases hp : p.m i
    · have h1 := hn i (Nat.zero_le _) hi
      have h2 : p.only q i = true := only_iff.2 ⟨hm, hp⟩
      simp only [h2, Bool.true_and] at h1
      revert h1
      cases q.b i <;> cases h i <;> decide
    · exact (over_iff.1 ho i hi hm hp).symm.trans (hag' i hi (hR i hi hm) hp)
  · simp only [Bool.and_eq_true] at h3
    obtain ⟨R', hw, hsub⟩ := hall s hs h3.1
    refine hw.2 h fun i hi hRi => ?_
    by_cases e : i = s
    · rw [e, piece_bs]
      have := h3.2
      revert this
      cases q.b s <;> cases h s <;> decide
    · have hm := hw.1 i hi hRi
      rw [piece_m p q e] at hm
      rw [piece_b p q e]
      by_cases hc : i < s ∧ p.only q i = true
      · rw [if_pos hc]
        have := h4 i (Nat.zero_le _) hc.1
        simp only [hc.2, Bool.true_and] at this
        revert this
        cases q.b i <;> cases h i <;> decide
      · rw [if_neg hc]
        refine hag' i hi (hsub i hi hRi) ?_
        cases hp : p.m i
        · rw [hp, Bool.false_or, Bool.and_eq_true, decide_eq_true_eq] at hm
          exact absurd ⟨hm.1, only_iff.2 ⟨hm.2, hp⟩⟩ hc
        · rfl
theorem clear_self {l : List Pat} {p : Pat} (hp : p.ok) (h : ∀ q, q ∈ l → ¬ q.over p) : clear l p p := ⟨hp, fun _ _ h => ⟨h, rfl⟩, h⟩
theorem clear_piece {l : List Pat} {p q x : Pat} {s : Nat} (ho : p.only q s = true) (h : clear l (p.piece q s) x) : clear l p x :=
  ⟨h.1, fun i hi hm => by
    have h1 := piece_sub ho hm
    have h2 := h.2.1 i hi h1.1
    exact ⟨h2.1, h2.2.trans h1.2⟩, h.2.2⟩
theorem clear_hit {l : List Pat} {p x : Pat} (h : clear l p x) : p.hit x.b := fun i hi hm => (h.2.1 i hi hm).2.symm
theorem clear_out {l : List Pat} {p x : Pat} (h : clear l p x) : ¬ inSome l x.b := by
  rintro ⟨q, hq, hh⟩
  exact h.2.2 q hq (over_iff.2 fun i hi _ h2 => hh i hi h2)
theorem why_none {l : List Pat} {p : Pat} {R : Nat → Bool} (h : why l p R) : ∀ g, p.hit g → inSome l g := fun g hg => h.2 g fun i hi hR => hg i hi (h.1 i hi hR)
theorem over_symm {p q : Pat} (h : p.over q) : q.over p := over_iff.2 fun i hi h1 h2 => (over_iff.1 h i hi h2 h1).symm
/-- The least head of p outside a list. -/
def least (l : List Pat) (p : Pat) (m : Nat → Bool) : Prop := p.hit m ∧ ¬ inSome l m ∧ ∀ g, p.hit g → ¬ inSome l g → num m ≤ num g
theorem least_any {l : List Pat} {p : Pat} (n : Nat) : ∀ g : Nat → Bool, num g < n → p.hit g → ¬ inSome l g → ∃ m, least l p m := by
  induction n with
  | zero => intro g h; exact absurd h (Nat.not_lt_zero _)
  | succ n ih =>
    intro g hn hg ho
    by_cases hc : ∃ g', num g' < num g ∧ p.hit g' ∧ ¬ inSome l g'
    · obtain ⟨g', h1, h2, h3⟩ := hc
      exact ih g' (Nat.lt_of_lt_of_le h1 (Nat.le_of_lt_succ hn)) h2 h3
    · refine ⟨g, hg, ho, fun g' h1 h2 => ?_⟩
      rcases Nat.lt_or_ge (num g') (num g) with h | h
      · exact absurd ⟨g', h, h1, h2⟩ hc
      · exact h
theorem least_one {l : List Pat} {p : Pat} {m m' : Nat → Bool} (h : least l p m) (h' : least l p m') : ∀ i, i < 160 → m i = m' i := fun _ hi =>
  num_inj (Nat.le_antisymm (h.2.2 m' h'.1 h'.2.1) (h'.2.2 m h.1 h.2.1)) hi
/-- p, with its free bits below k as a head has them. -/
def upTo (p : Pat) (m : Nat → Bool) (k : Nat) : Pat := ⟨fun i => p.m i || decide (i < k), fun i => if p.m i then p.b i else (decide (i < k) && m i)⟩
theorem upTo_zero {p : Pat} (hp : p.ok) (m : Nat → Bool) : (p.upTo m 0).cells = p.cells := cells_congr ⟨fun i _ => by simp [upTo], fun i hi => by
  show (if p.m i then p.b i else _) = _
  cases h : p.m i
  · cases hb : p.b i
    · simp
    · have := hp i hi hb; rw [h] at this; cases this
  · simp⟩
theorem upTo_skip {p : Pat} {m : Nat → Bool} {k : Nat} (h : p.m k = true) : (p.upTo m k).cells = (p.upTo m (k + 1)).cells := by
  refine cells_congr ⟨fun i _ => ?_, fun i _ => ?_⟩
  · show (p.m i || _) = (p.m i || _)
    by_cases e : i = k
    · rw [e, h]; rfl
    · rw [show decide (i < k + 1) = decide (i < k) by simp; omega]
  · show (if p.m i then _ else _) = if p.m i then _ else _
    by_cases e : i = k
    · rw [e, h]; rfl
    · rw [show decide (i < k + 1) = decide (i < k) by simp; omega]
theorem upTo_m (p : Pat) (m : Nat → Bool) (k : Nat) : (p.upTo m k).m k = p.m k := by simp [upTo]
theorem upTo_b {p : Pat} {m : Nat → Bool} {k : Nat} (h : p.m k = false) : (p.upTo m k).b k = false := by simp [upTo, h]
/-- The next bit is fixed as it stands. -/
def low (p : Pat) (m : Nat → Bool) (k : Nat) : Pat := ⟨upd (p.upTo m k).m k true, (p.upTo m k).b⟩
theorem low_next {p : Pat} {m : Nat → Bool} {k : Nat} (h : p.m k = false) (hm : m k = false) : (p.low m k).cells = (p.upTo m (k + 1)).cells := by
  refine cells_congr ⟨fun i _ => ?_, fun i _ => ?_⟩
  · show upd _ k true i = (p.m i || _)
    unfold upd
    by_cases e : i = k
    · rw [if_pos e, e]; simp
    · rw [if_neg e, show decide (i < k + 1) = decide (i < k) by simp; omega]; rfl
  · show (if p.m i then _ else _) = if p.m i then _ else _
    by_cases e : i = k
    · rw [e, h, hm]; simp
    · rw [show decide (i < k + 1) = decide (i < k) by simp; omega]
theorem high_next {p : Pat} {m : Nat → Bool} {k : Nat} (h : p.m k = false) (hm : m k = true) : (⟨(p.low m k).m, upd (p.low m k).b k true⟩ : Pat).cells = (p.upTo m (k + 1)).cells := by
  refine cells_congr ⟨fun i _ => ?_, fun i _ => ?_⟩
  · show upd _ k true i = (p.m i || _)
    unfold upd
    by_cases e : i = k
    · rw [if_pos e, e]; simp
    · rw [if_neg e, show decide (i < k + 1) = decide (i < k) by simp; omega]; rfl
  · show upd _ k true i = if p.m i then _ else _
    unfold upd
    by_cases e : i = k
    · rw [if_pos e, e, h, hm]; simp
    · rw [if_neg e, show decide (i < k + 1) = decide (i < k) by simp; omega]; rfl
theorem upTo_hit {p : Pat} {m : Nat → Bool} (h : p.hit m) (k : Nat) : (p.upTo m k).hit m := fun i hi hm => by
  show (if p.m i then p.b i else _) = _
  cases hp : p.m i
  · have h1 : (p.m i || decide (i < k)) = true := hm
    rw [hp, Bool.false_or] at h1
    simp [h1]
  · simpa using h i hi hp
theorem hit_upTo {p : Pat} {m h : Nat → Bool} {k : Nat} (hh : (p.upTo m k).hit h) : p.hit h := fun i hi hm => by
  have h1 := hh i hi (by show (p.m i || _) = true; rw [hm]; rfl)
  have h2 : (p.upTo m k).b i = p.b i := by show (if p.m i then p.b i else _) = _; rw [if_pos hm]
  exact h2.symm.trans h1
theorem low_hit {p : Pat} {m h : Nat → Bool} {k : Nat} : (p.low m k).hit h ↔ (p.upTo m k).hit h ∧ (k < 160 → (p.upTo m k).b k = h k) := by
  constructor
  · intro hh
    refine ⟨fun i hi hm => hh i hi ?_, fun hk => hh k hk ?_⟩
    · show upd _ k true i = true
      unfold upd
      by_cases e : i = k
      · rw [if_pos e]
      · rw [if_neg e]; exact hm
    · show upd _ k true k = true
      unfold upd; rw [if_pos rfl]
  · rintro ⟨h1, h2⟩ i hi hm
    by_cases e : i = k
    · rw [e] at hi ⊢; exact h2 hi
    · refine h1 i hi ?_
      have : upd (p.upTo m k).m k true i = true := hm
      unfold upd at this
      rw [if_neg e] at this; exact this
/-- As long as a head agrees with the least one, it has no bit less. -/
theorem least_low {l : List Pat} {p : Pat} {m h : Nat → Bool} {k : Nat} (hm : least l p m) (hk : k < 160) (hh : (p.upTo m k).hit h) (ho : ¬ inSome l h) (h0 : h k = false) : m k = false := by
  cases hmk : m k
  · rfl
  · have hlt : num h < num m := num_lt hk (fun j hj => by
      have h1 := hh j (by omega) (by show (p.m j || decide (j < k)) = true; rw [decide_eq_true hj]; simp)
      rw [← h1]
      exact upTo_hit hm.1 k j (by omega) (by show (p.m j || decide (j < k)) = true; rw [decide_eq_true hj]; simp)) h0 hmk
    have := hm.2.2 h (hit_upTo hh) ho
    omega
theorem least_high {l : List Pat} {p : Pat} {m : Nat → Bool} {R : Nat → Bool} {k : Nat} (hm : least l p m) (hp : p.m k = false) (hw : why l (p.low m k) R) : m k = true := by
  cases hmk : m k
  · exact absurd (why_none hw m (low_hit.2 ⟨upTo_hit hm.1 k, fun _ => by rw [upTo_b hp, hmk]⟩)) hm.2.1
  · rfl
theorem hit_congr {p q : Pat} (h : p.cells = q.cells) {g : Nat → Bool} : p.hit g ↔ q.hit g := by
  have e := cells_inj h
  exact ⟨fun hh i hi hm => (e.2 i hi).symm.trans (hh i hi ((e.1 i hi).trans hm)), fun hh i hi hm => (e.2 i hi).trans (hh i hi ((e.1 i hi).symm.trans hm))⟩
theorem upTo_all {p : Pat} {m h : Nat → Bool} (hm : p.hit m) (hh : (p.upTo m 160).hit h) : ∀ i, i < 160 → h i = m i := fun i hi => by
  have e : (p.upTo m 160).m i = true := by show (p.m i || decide (i < 160)) = true; rw [decide_eq_true hi]; simp
  exact (hh i hi e).symm.trans (upTo_hit hm 160 i hi e)
theorem upTo_ok {p : Pat} (m : Nat → Bool) (k : Nat) (hp : p.ok) : (p.upTo m k).ok := fun i hi hb => by
  have hb' : (if p.m i then p.b i else (decide (i < k) && m i)) = true := hb
  show (p.m i || decide (i < k)) = true
  cases h : p.m i
  · rw [h] at hb'
    simp at hb'
    simp [hb'.1]
  · rfl
theorem low_ok {p : Pat} (m : Nat → Bool) (k : Nat) (hp : p.ok) : (p.low m k).ok := fun i hi hb => by
  show upd _ k true i = true
  unfold upd
  by_cases e : i = k
  · rw [if_pos e]
  · rw [if_neg e]; exact upTo_ok m k hp i hi hb
end Pat
theorem wordB_mono {f g : Nat → Bool} {b : Nat} : ∀ {k}, (∀ j, j < k → f (b + j) = true → g (b + j) = true) → wordB f b k ≤ wordB g b k
  | 0, _ => Nat.le_refl _
  | k + 1, h => by
    have h1 := wordB_mono (f := f) (g := g) (b := b) (k := k) fun j hj => h j (by omega)
    have h2 := h k (by omega)
    unfold wordB
    cases hf : f (b + k) <;> cases hg : g (b + k)
    · simp; omega
    · simp; omega
    · rw [hf, hg] at h2; cases h2 rfl
    · simp; omega
theorem num_mono {f g : Nat → Bool} (h : ∀ i, i < 160 → f i = true → g i = true) : num f ≤ num g := wordB_mono fun j hj => by rw [Nat.zero_add]; exact h j hj
theorem Pat.upTo_le {p : Pat} {m : Nat → Bool} (hm : p.hit m) (k : Nat) : num (p.upTo m k).b ≤ num m := num_mono fun i hi hb => by
  have hb' : (if p.m i then p.b i else (decide (i < k) && m i)) = true := hb
  cases h : p.m i
  · rw [h] at hb'
    simp at hb'
    exact hb'.2
  · rw [h, if_pos rfl] at hb'
    rw [← hm i hi h]; exact hb'
/-- A bound: none is greater than all right heads. -/
abbrev Bnd := Option (Nat → Bool)
def Bnd.below (B : Bnd) (f : Nat → Bool) : Prop := match B with
  | none => True
  | some g => num f < num g
theorem Bnd.below_le {B : Bnd} {f g : Nat → Bool} (h : num f ≤ num g) (hb : Bnd.below B g) : Bnd.below B f := by
  cases B with
  | none => trivial
  | some x => exact Nat.lt_of_le_of_lt h hb
/-- What leastOutside finds. -/
def Pat.found (l : List Pat) (p : Pat) (B : Bnd) (R : Bnd) : Prop := (∃ m, Pat.least l p m ∧ Bnd.below B m ∧ R = some m) ∨ ((∀ g, p.hit g → ¬ Pat.inSome l g → ¬ Bnd.below B g) ∧ R = B)
end Go.Proofs.YtkkgfdfjgfigcaaDoor

/-
  What mods and intersections do to heads, in plain words. Conditions: right patterns and mods.
-/
namespace Go.Proofs.YtkkgfdfjgfigcaaDoor
set_option linter.unusedVariables false
set_option linter.unusedSimpArgs false
open Go.RowKit

namespace Pat
theorem then_app (p q : Pat) (h : Nat → Bool) : HI ((p.then q).app h) = HI (q.app (p.app h)) := HI_congr fun i _ => by
  show ((h i && !(p.m i || q.m i)) || ((p.b i && !q.m i) || q.b i)) = ((((h i && !p.m i) || p.b i) && !q.m i) || q.b i)
  cases h i <;> cases p.m i <;> cases p.b i <;> cases q.m i <;> cases q.b i <;> rfl
theorem back_hit {p q : Pat} (hq : q.ok) (h : Nat → Bool) : p.hit (q.app h) ↔ p.over q ∧ (p.back q).hit h := by
  rw [over_iff]
  constructor
  · intro hh
    refine ⟨fun i hi h1 h2 => ?_, fun i hi hm => ?_⟩
    · have e := hh i hi h2
      rw [e]
      show ((h i && !q.m i) || q.b i) = q.b i
      rw [h1]; simp
    · have hm' : (p.m i && !q.m i) = true := hm
      rw [Bool.and_eq_true] at hm'
      have e := hh i hi hm'.1
      have hqm : q.m i = false := by simpa using hm'.2
      have hqb : q.b i = false := by
        cases hb : q.b i
        · rfl
        · rw [hq i hi hb] at hqm; cases hqm
      show (p.b i && !q.m i) = h i
      rw [e]
      show (((h i && !q.m i) || q.b i) && !q.m i) = h i
      rw [hqm, hqb]; simp
  · rintro ⟨h1, h2⟩ i hi hm
    show p.b i = ((h i && !q.m i) || q.b i)
    cases hqm : q.m i
    · have e := h2 i hi (by show (p.m i && !q.m i) = true; rw [hm, hqm]; rfl)
      have e' : (p.b i && !q.m i) = h i := e
      have hqb : q.b i = false := by
        cases hb : q.b i
        · rfl
        · rw [hq i hi hb] at hqm; cases hqm
      rw [← e', hqm, hqb]; simp
    · rw [h1 i hi hqm hm]; simp
theorem image_hit {p q : Pat} {h : Nat → Bool} (hh : p.hit h) : (p.image q).hit (q.app h) := fun i hi hm => by
  have hm' : (p.m i || q.m i) = true := hm
  show ((p.b i && !q.m i) || q.b i) = ((h i && !q.m i) || q.b i)
  cases hqm : q.m i
  · rw [hqm, Bool.or_false] at hm'
    rw [hh i hi hm']
  · simp
theorem image_from {p q : Pat} (hp : p.ok) (hq : q.ok) {h : Nat → Bool} (hh : (p.image q).hit h) : p.hit (p.app h) ∧ HI (q.app (p.app h)) = HI h := by
  refine ⟨fun i hi hm => ?_, HI_congr fun i hi => ?_⟩
  · show p.b i = ((h i && !p.m i) || p.b i)
    rw [hm]; simp
  · have h1 := hp i hi
    have h2 := hq i hi
    have h3 : (p.m i || q.m i) = true → ((p.b i && !q.m i) || q.b i) = h i := hh i hi
    show ((((h i && !p.m i) || p.b i) && !q.m i) || q.b i) = h i
    revert h1 h2 h3
    cases h i <;> cases p.m i <;> cases p.b i <;> cases q.m i <;> cases q.b i <;> simp
theorem alike_raw {p q : Pat} (h : p.alike q) : p.cells = q.cells := cells_congr h
theorem andV_symm (p q : Pat) : (p.andV q).alike (q.andV p) := by
  unfold andV
  by_cases h : p.over q
  · rw [if_pos h, if_pos (over_iff.2 fun i hi h1 h2 => (over_iff.1 h i hi h2 h1).symm)]
    exact ⟨fun i _ => Bool.or_comm _ _, fun i _ => Bool.or_comm _ _⟩
  · rw [if_neg h, if_neg fun hc => h (over_iff.2 fun i hi h1 h2 => (over_iff.1 hc i hi h2 h1).symm)]
    exact ⟨fun _ _ => rfl, fun _ _ => rfl⟩
theorem over_comm {p q : Pat} : p.over q ↔ q.over p :=
  ⟨fun h => over_iff.2 fun i hi h1 h2 => (over_iff.1 h i hi h2 h1).symm, fun h => over_iff.2 fun i hi h1 h2 => (over_iff.1 h i hi h2 h1).symm⟩
/-- A head lies in both exactly if they overlap and it lies in what both have. -/
theorem and_hit {p q : Pat} (hp : p.ok) (hq : q.ok) (h : Nat → Bool) : (p.over q ∧ (p.andV q).hit h) ↔ (p.hit h ∧ q.hit h) := by
  constructor
  · rintro ⟨ho, hh⟩
    unfold andV at hh
    rw [if_pos ho] at hh
    have key := fun i hi => over_iff.1 ho i hi
    refine ⟨fun i hi hm => ?_, fun i hi hm => ?_⟩
    · have e : (p.b i || q.b i) = h i := hh i hi (by show (p.m i || q.m i) = true; rw [hm]; rfl)
      have h2 := hq i hi
      have h3 := fun h => key i hi h hm
      revert e h2 h3
      cases h i <;> cases p.b i <;> cases q.m i <;> cases q.b i <;> simp
    · have e : (p.b i || q.b i) = h i := hh i hi (by show (p.m i || q.m i) = true; rw [hm]; simp)
      have h2 := hp i hi
      have h3 := key i hi hm
      revert e h2 h3
      cases h i <;> cases p.m i <;> cases p.b i <;> cases q.b i <;> simp
  · rintro ⟨h1, h2⟩
    have ho : p.over q := over_iff.2 fun i hi h3 h4 => (h1 i hi h4).trans (h2 i hi h3).symm
    refine ⟨ho, ?_⟩
    unfold andV
    rw [if_pos ho]
    intro i hi hm
    have hm' : (p.m i || q.m i) = true := hm
    have h3 := h1 i hi
    have h4 := h2 i hi
    have h5 := hp i hi
    have h6 := hq i hi
    show (p.b i || q.b i) = h i
    revert hm' h3 h4 h5 h6
    cases h i <;> cases p.m i <;> cases p.b i <;> cases q.m i <;> cases q.b i <;> simp
theorem andV_ok {p q : Pat} (hp : p.ok) (hq : q.ok) : (p.andV q).ok := by
  unfold andV
  by_cases h : p.over q
  · rw [if_pos h]
    intro i hi hb
    have hb' : (p.b i || q.b i) = true := hb
    show (p.m i || q.m i) = true
    rw [Bool.or_eq_true] at hb' ⊢
    exact hb'.imp (hp i hi) (hq i hi)
  · rw [if_neg h]
    intro i hi hb
    cases hb
/-- How the intersection is nested makes no difference. -/
theorem and_assoc {p q r : Pat} (hp : p.ok) (hq : q.ok) (hr : r.ok) (h1 : p.over q) (h2 : q.over r) : decide ((p.andV q).over r) = decide (p.over (q.andV r)) ∧ ((p.andV q).andV r).alike (p.andV (q.andV r)) := by
  have e1 : p.andV q = p.and q := if_pos h1
  have e2 : q.andV r = q.and r := if_pos h2
  rw [e1, e2]
  have key : (p.and q).over r ↔ p.over (q.and r) := by
    rw [over_iff, over_iff]
    rw [over_iff] at h1 h2
    constructor
    · intro h i hi hm hpm
      have hm' : (q.m i || r.m i) = true := hm
      have a1 := h i hi
      have a2 := h1 i hi
      have a3 := h2 i hi
      have a4 := hq i hi
      have a5 := hr i hi
      have a6 := hp i hi
      have a1' : r.m i = true → (p.m i || q.m i) = true → (p.b i || q.b i) = r.b i := a1
      show p.b i = (q.b i || r.b i)
      revert hm' hpm a1' a2 a3 a4 a5 a6
      cases p.m i <;> cases p.b i <;> cases q.m i <;> cases q.b i <;> cases r.m i <;> cases r.b i <;> simp
    · intro h i hi hm hpq
      have hm' : (p.m i || q.m i) = true := hpq
      have a1 := h i hi
      have a2 := h1 i hi
      have a3 := h2 i hi
      have a4 := hq i hi
      have a5 := hr i hi
      have a6 := hp i hi
      have a1' : (q.m i || r.m i) = true → p.m i = true → p.b i = (q.b i || r.b i) := a1
      show (p.b i || q.b i) = r.b i
      revert hm' hm a1' a2 a3 a4 a5 a6
      cases p.m i <;> cases p.b i <;> cases q.m i <;> cases q.b i <;> cases r.m i <;> cases r.b i <;> simp
  refine ⟨by by_cases h : (p.and q).over r; · rw [decide_eq_true h, decide_eq_true (key.1 h)]
             · rw [decide_eq_false h, decide_eq_false fun hc => h (key.2 hc)], ?_⟩
  unfold andV
  by_cases h : (p.and q).over r
  · rw [if_pos h, if_pos (key.1 h)]
    exact ⟨fun i _ => Bool.or_assoc .., fun i _ => Bool.or_assoc ..⟩
  · rw [if_neg h, if_neg fun hc => h (key.2 hc)]
    exact ⟨fun _ _ => rfl, fun _ _ => rfl⟩
end Pat
end Go.Proofs.YtkkgfdfjgfigcaaDoor
