/-
  Contracts of the functions that the statement calls, part 15 of 25 (merged texts: Ie, If, Ig, Ih, Ij, Ka, Kb). Conditions: as the head of each part says.
-/
import Derived.Test.YtkkgfdfjgfigcaaDoorGN
import Derived.Test.YtkkgfdfjgfigcaaDoorGJ
import Derived.Test.YtkkgfdfjgfigcaaDoorGG
import Derived.OwnWalkIn

/-
  Contract of the walk over the iterator of bits.pieces: it visits the pieces of a difference. Conditions: right patterns, which lie there.
-/
namespace Go.Proofs.YtkkgfdfjgfigcaaDoor
set_option linter.unusedVariables false
set_option linter.unusedSimpArgs false
open Go.RowKit

attribute [local go_sem] Oper.semAt_some
/-! A region that draws its order, in a round: as outside of it, if no operation is a defer statement. -/
def noDefer (o : Oper) : Bool := match o.op with
  | .defer _ => false
  | _ => true
theorem noDefer_ne {o : Oper} (h : noDefer o = true) : ∀ c, o.op ≠ .defer c := fun c e => by unfold noDefer at h; rw [e] at h; cases h
theorem operIn_round {l n : Nat} {P : Program} {o : Oper} {a : Act} {w : World} {K : Act → World → Prop} {Q : Exit → Act → World → Prop} (hd : noDefer o = true) (hQ : ¬ LetsOut Q)
    (h : o.wp P a w K Q ∨ (o.asks P a w ∧ LetsOut Q)) : o.wpIn (Fence.wide.inRound l) n P a w K Q := by
  rcases h with h | ⟨_, h⟩
  · refine ⟨fun _ _ => trivial, ?_⟩
    rw [Oper.semAt_eq _ _ _ (noDefer_ne hd)]
    unfold Oper.wp at h
    generalize (execOp a.eval o).run P w = r at h ⊢
    cases r with
    | ok x w' =>
      cases x with
      | value v => exact h
      | skip => exact h
      | defer d => exact h
      | enter f args => exact ⟨fun h => (by cases h), (callsIn_wide (n := n - 1)).2 (Calls.mono h fun e w'' he => by cases e <;> exact he)⟩
      | row r args => exact ⟨fun h => (by cases h), fun c cs _ => let ⟨v, w'', hR, hs⟩ := h c cs; ⟨v, w'', hR, (StepsIn.of_steps hs).mono fun m _ => fenced_wide P m⟩⟩
      | _ => exact h.elim
    | halt x w' => cases x <;> first | exact h | exact h.elim
  · exact absurd h hQ
theorem opIn_round {l n : Nat} {P : Program} {ops : Array Oper} {i : Nat} {a : Act} {w : World} {K : Act → World → Prop} {Q : Exit → Act → World → Prop} (hd : ops.all noDefer = true) (hQ : ¬ LetsOut Q)
    (h : wpOp P ops Q i K a w) : wpOpIn (Fence.wide.inRound l) n P ops Q i K a w := by
  unfold wpOp at h
  unfold wpOpIn
  cases ho : ops[i]? with
  | none => simpa [ho] using h
  | some o =>
    simp only [ho] at h ⊢
    have hd' : noDefer o = true := by
      obtain ⟨hi, e⟩ := Array.getElem?_eq_some_iff.1 ho
      rw [← e]
      exact Array.all_eq_true.1 hd i hi
    by_cases hw : Region.wanted o (yielded ops a.tmps) = true
    · simp only [hw, if_true] at h ⊢
      exact operIn_round hd' hQ h
    · simp only [hw] at h ⊢
      exact ⟨fun _ _ => trivial, h⟩
theorem anyIn_round {l n : Nat} {P : Program} {md : Region.Mode} {ops : Array Oper} {Q : Exit → Act → World → Prop} (hd : ops.all noDefer = true) (hQ : ¬ LetsOut Q) :
    ∀ (fuel : Nat) (listed : Array Bool) (a : Act) (w : World), wpAny P md ops Q fuel listed a w → wpAnyIn (Fence.wide.inRound l) n P md ops Q fuel listed a w
  | 0, _, _, _, h => h
  | fuel + 1, _, _, _, h => ⟨h.1, fun i hi => opIn_round hd hQ (wpOp_mono (fun a' w' h' => anyIn_round hd hQ fuel _ a' w' h') (h.2 i hi))⟩
theorem wpIn_round_held {l n id : Nat} {P : Program} {ops : Array Oper} {Q : Exit → Act → World → Prop} {S : World → Prop} {a : Act} {w : World} (hm : P.follows .mixedOrders = true) (hd : ops.all noDefer = true) (hQ : ¬ LetsOut Q) (hS : S w.drew)
    (h : S w.drew → wpAnyH P .any ops Q S ops.size (Array.replicate ops.size false) a w.drew) : (Code.region id ops true).wpIn (Fence.wide.inRound l) n P Q a w :=
  wpIn_region_any hm (anyIn_round hd hQ _ _ _ _ (wpAny_of_held _ _ _ _ (h hS)))
theorem roundIn_wide {α : Type} {l n n' l' : Nat} {P : Program} {fn : Nat} {tmps : Array Value} {assign body : Code} {W : World} {R : Ending → World → Prop} (_ : α) (h : RoundIn Fence.wide n P l fn tmps assign body W R) : RoundIn (Fence.wide.inRound l') n' P l fn tmps assign body W R :=
  ⟨trivial, fun c cs _ => h.2 c cs (room_wide _)⟩
/-- A statement that is left by its end. -/
def EndsIn (R : Act → World → Prop) : Exit → Act → World → Prop
  | .normal, a, w => R a w
  | _, _, _ => False
theorem wpIn_cut {F : Fence} {n : Nat} {P : Program} {c : Code} {Q : Exit → Act → World → Prop} {a : Act} {w : World} {R : Act → World → Prop} (h : c.wpIn F n P (EndsIn R) a w) (hr : ∀ a w, R a w → Q .normal a w) : c.wpIn F n P Q a w :=
  wpIn_mono h fun e a w q => by cases e <;> first | exact hr _ _ q | exact q.elim
theorem wp_cut {P : Program} {c : Code} {Q : Exit → Act → World → Prop} {a : Act} {w : World} {R : Act → World → Prop} (h : c.wp P (EndsIn R) a w) (hr : ∀ a w, R a w → Q .normal a w) : c.wp P Q a w :=
  wp_mono h fun e a w q => by cases e <;> first | exact hr _ _ q | exact q.elim
theorem endsIn_no {R : Act → World → Prop} : ¬ LetsOut (EndsIn R) := fun ⟨_, _, h⟩ => h
/-- Code that does not panic. -/
def NoPanic (Q : Exit → Act → World → Prop) : Exit → Act → World → Prop
  | .panic _, _, _ => False
  | e, a, w => Q e a w
theorem wp_calm {P : Program} {c : Code} {Q : Exit → Act → World → Prop} {a : Act} {w : World} (h : c.wp P (NoPanic Q) a w) : c.wp P Q a w :=
  wp_mono h fun e a w q => by cases e <;> first | exact q | exact q.elim
/-! One bit of a word. -/
theorem pow_test {x j : Nat} : (2 ^ (15 - x % 16)).testBit j = decide (15 - x % 16 = j) := by
  rw [Nat.testBit_two_pow]
theorem word_or_bit (f : Nat → Bool) (x : Nat) (c : Bool) (h : f x = false) : word f (x / 16) ||| (if c then 2 ^ (15 - x % 16) else 0) = word (upd f x c) (x / 16) := by
  apply Nat.eq_of_testBit_eq
  intro j
  rw [Nat.testBit_or, word_test, word_test]
  unfold upd
  by_cases hj : j < 16
  · rw [decide_eq_true hj, Bool.true_and, Bool.true_and]
    by_cases e : 16 * (x / 16) + (15 - j) = x
    · rw [if_pos e, e, h, Bool.false_or]
      cases c
      · simp
      · rw [if_pos rfl, pow_test, decide_eq_true (by omega)]
    · rw [if_neg e]
      have : (if c = true then 2 ^ (15 - x % 16) else 0).testBit j = false := by
        cases c
        · simp
        · rw [if_pos rfl, pow_test, decide_eq_false (by omega)]
      rw [this, Bool.or_false]
  · rw [decide_eq_false hj, Bool.false_and, Bool.false_and, Bool.false_or]
    cases c
    · simp
    · rw [if_pos rfl, pow_test, decide_eq_false (by omega)]
theorem word_or_one (f : Nat → Bool) (x : Nat) : word f (x / 16) ||| 2 ^ (15 - x % 16) = word (upd f x true) (x / 16) := by
  apply Nat.eq_of_testBit_eq
  intro j
  rw [Nat.testBit_or, word_test, word_test, pow_test]
  unfold upd
  by_cases hj : j < 16
  · rw [decide_eq_true hj, Bool.true_and, Bool.true_and]
    by_cases e : 16 * (x / 16) + (15 - j) = x
    · rw [if_pos e, decide_eq_true (by omega), Bool.or_true]
    · rw [if_neg e, decide_eq_false (by omega), Bool.or_false]
  · rw [decide_eq_false hj, Bool.false_and, Bool.false_and, Bool.false_or, decide_eq_false (by omega)]
theorem bit_andn (g : Nat → Bool) (x : Nat) : andn (2 ^ (15 - x % 16)) (word g (x / 16)) = if !g x then 2 ^ (15 - x % 16) else 0 := by
  apply Nat.eq_of_testBit_eq
  intro j
  rw [andn_test, word_test, pow_test]
  by_cases e : 15 - x % 16 = j
  · rw [decide_eq_true e, decide_eq_true (show j < 16 by omega), show 16 * (x / 16) + (15 - j) = x by omega]
    cases g x
    · simp [pow_test, e]
    · simp
  · rw [decide_eq_false e, Bool.false_and]
    cases g x
    · simp [pow_test, e]
    · simp
theorem bit_and (g : Nat → Bool) (x : Nat) : 2 ^ (15 - x % 16) &&& word g (x / 16) = if g x then 2 ^ (15 - x % 16) else 0 := by
  apply Nat.eq_of_testBit_eq
  intro j
  rw [Nat.testBit_and, word_test, pow_test]
  by_cases e : 15 - x % 16 = j
  · rw [decide_eq_true e, decide_eq_true (show j < 16 by omega), show 16 * (x / 16) + (15 - j) = x by omega]
    cases g x
    · simp
    · simp [pow_test, e]
  · rw [decide_eq_false e, Bool.false_and]
    cases g x
    · simp
    · simp [pow_test, e]
theorem pow_le16 (x : Nat) : 2 ^ (15 - x % 16) < 65536 := Nat.lt_of_le_of_lt (Nat.pow_le_pow_right (by decide) (by omega : 15 - x % 16 ≤ 15)) (by decide)
theorem ite_le16 (x : Nat) (c : Bool) : (if c then 2 ^ (15 - x % 16) else 0) < 65536 := by
  cases c
  · simp
  · rw [if_pos rfl]; exact pow_le16 x
/-- A pattern's cells with one word turned. -/
theorem set_m (p : Pat) {x : Nat} (hx : x < 160) (c : Bool) : splice p.cells (x / 16) [.int .i64 (word (upd p.m x c) (x / 16) : Int)] = (⟨upd p.m x c, p.b⟩ : Pat).cells := by
  rw [splice_set _ _ _ (by rw [Pat.cells_length]; omega)]
  unfold Pat.cells
  rw [List.set_append_left _ _ (by rw [H_length]; omega), upd_H hx rfl]
theorem set_b (p : Pat) {x : Nat} (hx : x < 160) (c : Bool) : splice p.cells (10 + x / 16) [.int .i64 (word (upd p.b x c) (x / 16) : Int)] = (⟨p.m, upd p.b x c⟩ : Pat).cells := by
  rw [splice_set _ _ _ (by rw [Pat.cells_length]; omega)]
  unfold Pat.cells
  rw [List.set_append_right _ _ (by rw [H_length]; omega), H_length, show 10 + x / 16 - 10 = x / 16 by omega, upd_H hx rfl]
theorem ones_elem {f : Nat → Bool} {k x : Nat} (h : onesTo f k ++ [x] <+: onesTo f 160) (hk : k ≤ 160) : k ≤ x ∧ x < 160 ∧ f x = true ∧ (∀ j, k ≤ j → j < x → f j = false) ∧ onesTo f (x + 1) = onesTo f k ++ [x] := by
  rcases first_one f k 160 with hn | ⟨s, h1, h2, h3, h4⟩
  · have e := onesTo_none hk hn
    rw [e] at h
    have := h.length_le
    simp at this
    omega
  · have e1 : onesTo f (s + 1) = onesTo f k ++ [s] := by rw [onesTo_succ, onesTo_none h1 h4, if_pos h3]
    have h5 : onesTo f k ++ [s] <+: onesTo f 160 := by rw [← e1]; exact onesTo_prefix f (by omega)
    have e2 : onesTo f k ++ [x] = onesTo f k ++ [s] := by
      have := List.prefix_of_prefix_length_le h h5 (by simp)
      exact this.eq_of_length (by simp)
    have e3 : x = s := by simpa using e2
    subst e3
    exact ⟨h1, h2, h3, h4, e1⟩
theorem Pat.rest_skips {p q : Pat} {k : Nat} : ∀ {x : Nat}, k ≤ x → (∀ j, k ≤ j → j < x → p.only q j = false) → (p.rest q k).cells = (p.rest q x).cells
  | 0, h, _ => by rw [show k = 0 by omega]
  | x + 1, h, hn => by
    by_cases e : k = x + 1
    · rw [e]
    · rw [Pat.rest_skips (x := x) (by omega) fun j h1 h2 => hn j h1 (by omega)]
      exact Pat.rest_skip (hn x (by omega) (by omega))
def encP (x : Pat) : Array Value := #[.agg x.cells.toArray]
end Go.Proofs.YtkkgfdfjgfigcaaDoor

/-
  Contract of the walk over the iterator of bits.pieces: it visits the pieces of a difference. Conditions: right patterns, which lie there.
-/
namespace Go.Proofs.YtkkgfdfjgfigcaaDoor
set_option linter.unusedVariables false
set_option linter.unusedSimpArgs false
open Go.RowKit

attribute [local go_sem] Oper.semAt_some
/-- A function without results is left behind a range over a function. -/
theorem leave_ret {n : Nat} {fn : Func} {R : Ending → World → Prop} {tmps : Array Value} {D : Nat} {W : World} {u : Value} (hD : W.heap[D]? = some (.deferred (some []))) (hr : (results fn tmps).run Tryd.prog (W.putObj D (.deferred none)) = .ok u (W.putObj D (.deferred none)))
    (hR : R (.returned u) (W.putObj D (.deferred none))) : NoPanic (bodyPostM Fence.wide n Tryd.prog fn R) .ret { tmps := tmps, defers := [{ target := .collected D, args := #[] }] } W :=
  ⟨by simp, .inl ⟨_, _, rfl, run_takeDeferred hD, ⟨u, hr, hR⟩⟩⟩
theorem leave_normal {n : Nat} {fn : Func} {R : Ending → World → Prop} {tmps : Array Value} {D : Nat} {W : World} {u : Value} (hD : W.heap[D]? = some (.deferred (some []))) (hr : (results fn tmps).run Tryd.prog (W.putObj D (.deferred none)) = .ok u (W.putObj D (.deferred none)))
    (hR : R (.returned u) (W.putObj D (.deferred none))) : NoPanic (bodyPostM Fence.wide n Tryd.prog fn R) .normal { tmps := tmps, defers := [{ target := .collected D, args := #[] }] } W :=
  ⟨by simp, .inl ⟨_, _, rfl, run_takeDeferred hD, ⟨u, hr, hR⟩⟩⟩
theorem only_new {L : List Nat} {a b c : World} {g : Nat} (h : Only L a b) (hu : Upd g b c) (hg : a.heap.size ≤ g) : Only L a c :=
  ⟨hu.os.trans h.os, hu.tape.trans h.tape, hu.output.trans h.output, Nat.le_trans h.size (Nat.le_of_eq hu.size.symm), fun i hi hn => (hu.block i (by omega)).trans (h.block i hi hn)⟩
def wI (x : Nat) : Int := ((x / 16 : Nat) : Int)
def vI (x : Nat) : Int := ((2 ^ (15 - x % 16) : Nat) : Int)
theorem encB_wv (x : Nat) : encB x = #[.int .i64 (wI x), .int .i64 (vI x)] := rfl
/-- Between two pieces. -/
structure PcI (D : World → Nat → Prop) (B gp gq g3 g4 l : Nat) (p q : Pat) (J : List Pat → World → Prop) (s : List Nat) (W : World) : Prop where
  k : ∃ k, k ≤ 160 ∧ onesTo (p.only q) k = s ∧ Blk W g4 25 (p.rest q k).cells
  bp : Blk W gp 25 p.cells
  bq : Blk W gq 25 q.cells
  b3 : Blk W g3 27 [.func (.yield l) #[] #[]]
  j : J (s.map (p.piece q)) W
  nd : ¬ D W gp ∧ ¬ D W gq ∧ ¬ D W g3 ∧ ¬ D W g4
  real : Real D W
  size : B ≤ W.heap.size
set_option maxRecDepth 100000 in
set_option maxHeartbeats 8000000 in
theorem pieces1_in (n l gp gq : Nat) (p q : Pat) (D : World → Nat → Prop) (W1 : World) (hp : p.ok) (hBp : Blk W1 gp 25 p.cells) (hBq : Blk W1 gq 25 q.cells)
    (hlp : gp ≠ l) (hlq : gq ≠ l) (hl : l < W1.heap.size) (hpD : ¬ D W1 gp) (hqD : ¬ D W1 gq) (hD0 : Real D W1) (hDs : StaysD D W1.heap.size) :
    Visits n Tryd.prog 205 #[.pointer (some ⟨gp, 0, none⟩), .pointer (some ⟨gq, 0, none⟩)] encP (p.pieces q) D l W1 := by
  refine visits_real hD0 hDs ?_
  intro J Jx hJ hJx hY _ h0
  obtain ⟨B, hB⟩ : ∃ B, W1.heap.size = B := ⟨_, rfl⟩
  have J1 : J [] W1 := h0
  have hgpB : gp < B := by rw [← hB]; exact hBp.lt
  have hgqB : gq < B := by rw [← hB]; exact hBq.lt
  rw [hB] at hJ hJx hY hl hDs
  have hK0 : Keeps D B W1 W1 := Keeps.refl _ _ _
  have hBe : B ≤ W1.heap.size := Nat.le_of_eq hB.symm
  have HJ := Lib.hid hJ
  have HJx := Lib.hid hJx
  have HY := Lib.hid hY
  have HDS := Lib.hid hDs
  have HD0 := Lib.hid hD0
  have HP := Lib.hid hp
  clear hJ hJx hY hDs hD0 hp h0
  refine callsIn_of_wp_marks (n := n) Tryd.func205 rfl trivial (wpIn_wide.2 (wp_calm ?_)) rfl
  simp only [Tryd.ntmps205, List.size_toArray, List.length_cons, List.length_nil, Nat.reduceAdd, Nat.reduceSub, Array.replicate_succ, Array.replicate_zero, List.push_toArray, List.append_toArray, List.nil_append, List.cons_append]
  go_wp2_with (with_reducible refine wpList_box (o := ⟨some 3, .box 27 (.tmp 0), _, _, _, _⟩) ?g1 27 (.tmp 0) ?o1 (.func (.yield l) #[] #[]) [.func (.yield l) #[] #[]] ?x1 ?c1 ?_)
  try (case g1 => rfl)
  try (case o1 => rfl)
  try (case x1 => rfl)
  try (case c1 => rfl)
  intro g3 w1 hg3 hs1 hb1 hB3
  have hle3 : B ≤ g3 := Nat.le_of_eq hg3.out.symm
  have hbe1 : Below B W1 w1 := hb1.mono hle3
  have hK1 := hK0.step HD0.out hBe (by rw [hB]; exact hbe1)
  have hBp1 := hBp.next hbe1 hgpB
  have hBq1 := hBq.next hbe1 hgqB
  clear hb1 hs1 hg3 hBp hBq
  go_wp2_with (first | (with_reducible refine wpList_get (o := ⟨some 8, .load 25 (.tmp 1), _, _, _, _⟩) (by with_unfolding_all rfl) 25 (.tmp 1) (by with_unfolding_all rfl) gp 0 (by with_unfolding_all rfl) hBp1 p.cells (cs_all _) _ (by exact Tryd.underlying25) (by with_unfolding_all rfl) (by rw [Pat.cells_length]; exact Tryd.szP) ?_) | (with_reducible refine wpList_alloc (o := ⟨some 4, .alloc 25, _, _, _, _⟩) (by with_unfolding_all rfl) 25 (by with_unfolding_all rfl) (.agg (H no ++ H no).toArray) (H no ++ H no) (by exact Tryd.zeroPt) (by with_unfolding_all rfl) ?_))
  intro g4 w2 hg4 hs2 hb2 hB4
  have hle4 : B ≤ g4 := by rw [hg4.out, ← hB]; exact hbe1.size
  have hne34 : g3 ≠ g4 := fun e => by have := hB3.lt; have := hg4.out; omega
  have hb2' : Below w1.heap.size w1 w2 := hb2.mono (Nat.le_of_eq hg4.out.symm)
  have hBp2 := hBp1.next hb2' hBp1.lt
  have hBq2 := hBq1.next hb2' hBq1.lt
  have hB32 := hB3.next hb2' hB3.lt
  have hbe2 := hbe1.trans (hb2'.mono (by rw [← hB]; exact hbe1.size))
  have hK2 := hK1.step HD0.out hBe hb2'
  rw [cells_zero] at hB4
  clear hb2 hb2' hs2 hg4 hBp1 hBq1 hB3 hbe1
  go_wp2_with (with_reducible refine wpList_put (o := ⟨none, .store 25 (.tmp 4) (.tmp 8), _, _, _, _⟩) (by with_unfolding_all rfl) 25 (.tmp 4) (.tmp 8) (by with_unfolding_all rfl) g4 0 (by with_unfolding_all rfl) (.agg p.cells.toArray) (by with_unfolding_all rfl) hB4 p.cells (by with_unfolding_all rfl) (by with_unfolding_all (rw [Pat.cells_length]; exact Tryd.szP)) (by with_unfolding_all (rw [Pat.cells_length, Pat.cells_length]; omega)) (by with_unfolding_all (exact cells_one _)) ?_)
  intro w3 hu3 hB43
  rw [splice_all _ _ (by rw [Pat.cells_length, Pat.cells_length])] at hB43
  have hBp3 := hBp2.upd hu3 (by omega)
  have hBq3 := hBq2.upd hu3 (by omega)
  have hB33 := hB32.upd hu3 hne34
  have hbe3 := hbe2.trans (hu3.below (B := B) hle4)
  have hK3 := hK2.upd hu3 hle4 (fun h => by have := HD0.out _ h; omega)
  clear hu3 hB4 hBp2 hBq2 hB32 hbe2
  go_wp2_with (first | (with_reducible refine wpList_get (o := ⟨some 10, .load 23 (.tmp 9), _, _, _, _⟩) (by with_unfolding_all rfl) 23 (.tmp 9) (by with_unfolding_all rfl) gq 0 (by with_unfolding_all rfl) hBq3 (H q.m) (cells_take_m q) _ (by exact Tryd.underlying23) (by with_unfolding_all rfl) (by rw [H_length]; exact Tryd.szH) ?_) | (with_reducible refine wpList_get (o := ⟨some 12, .load 23 (.tmp 11), _, _, _, _⟩) (by with_unfolding_all rfl) 23 (.tmp 11) (by with_unfolding_all rfl) gp 0 (by with_unfolding_all rfl) hBp3 (H p.m) (cells_take_m p) _ (by exact Tryd.underlying23) (by with_unfolding_all rfl) (by rw [H_length]; exact Tryd.szH) ?_) | fail)
  (with_reducible refine (without_any q.m p.m _).mono ?_)
  rintro e w4 ⟨rfl, hb4⟩
  rw [show (fun i => q.m i && !p.m i) = p.only q from rfl]
  have hBp4 := hBp3.next hb4 hBp3.lt
  have hBq4 := hBq3.next hb4 hBq3.lt
  have hB34 := hB33.next hb4 hB33.lt
  have hB44 := hB43.next hb4 hB43.lt
  have hbe4 := hbe3.trans (hb4.mono (by rw [← hB]; exact hbe3.size))
  have hK4 := hK3.step HD0.out hBe hb4
  clear hBp3 hBq3 hB33 hB43 hbe3 hb4
  go_wp2_with fail
  (with_reducible refine (ones_any (p.only q) _).mono ?_)
  rintro e w5 ⟨gh, rfl, hBh, hb5, hgh⟩
  have hBp5 := hBp4.next hb5 hBp4.lt
  have hBq5 := hBq4.next hb5 hBq4.lt
  have hB35 := hB34.next hb5 hB34.lt
  have hB45 := hB44.next hb5 hB44.lt
  have hbe5 := hbe4.trans (hb5.mono (by rw [← hB]; exact hbe4.size))
  have hK5 := hK4.step HD0.out hBe hb5
  clear hK0 hK1 hK2 hK3 hK4
  clear hBp4 hBq4 hB34 hB44 hbe4 hb5 hgh
  go_wp2_with fail
  have hw5 := hbe5.size
  rw [hB] at hw5
  have hd5 : ∀ g, D w5 g → D W1 g := fun g => (HDS.out W1 w5 hBe hK5 g).1
  have hl3 := hB35.lt
  have hl4 := hB45.lt
  refine wpIn_wide.1 (range_walk (n := n) (gf := 238) (lb := #[.pointer (some ⟨gh, 0, none⟩)]) rfl (enters_of Tryd.func238 (by kernel_rfl) rfl) (encs := encB) (fun _ => rfl) (fun W g => g = g4 ∨ g = l ∨ D W g) ?hL ?hLs (onesTo (p.only q) 160)
    (fun s W => PcI D B gp gq g3 g4 l p q J s W) (fun co s W => co = .ret ∧ Jx (s.map (p.piece q)) W) ?hI ?hIx ⟨⟨0, Nat.zero_le _, rfl, by rw [Pat.rest_zero]; exact hB45⟩, hBp5, hBq5, hB35, HJ.out [] W1 w5 J1 hBe hK5, ⟨fun h => hpD (hd5 _ h), fun h => hqD (hd5 _ h), fun h => by have := HD0.out _ (hd5 _ h); omega, fun h => by have := HD0.out _ (hd5 _ h); omega⟩, fun g hg => by have := HD0.out _ (hd5 _ hg); omega, hw5⟩ ?a1 ?assign ?body ?iter ?done ?stop)
  case hL =>
    intro k hk
    rcases hk with rfl | rfl | hk
    · exact hl4
    · omega
    · have := HD0.out _ (hd5 _ hk); omega
  case hLs =>
    intro W W' hs hk g
    have hk' : Keeps D B W W' := ⟨hk.below.mono hw5, fun g hg => hk.kept g (.inr (.inr hg))⟩
    show (g = g4 ∨ g = l ∨ D W' g) ↔ (g = g4 ∨ g = l ∨ D W g)
    rw [HDS.out W W' (by omega) hk' g]
  case hI =>
    rintro s W W' ⟨⟨k, h1, h2, h3⟩, h4, h5, h6, h7, ⟨n1, n2, n3, n4⟩, hre, h8⟩ hs hk
    have hb := hk.below
    have hk' : Keeps D B W W' := ⟨hb.mono hw5, fun g hg => hk.kept g (.inr (.inr hg))⟩
    have hst := fun g => (HDS.out W W' (by omega) hk' g).1
    exact ⟨⟨k, h1, h2, h3.next hb hl4⟩, h4.next hb (by omega), h5.next hb (by omega), h6.next hb hl3, HJ.out _ _ _ h7 h8 hk', ⟨fun h => n1 (hst _ h), fun h => n2 (hst _ h), fun h => n3 (hst _ h), fun h => n4 (hst _ h)⟩, fun g hg => Nat.lt_of_lt_of_le (hre g (hst g hg)) hb.size, by have := hb.size; omega⟩
  case hIx =>
    rintro c s W W' ⟨h1, h2⟩ hs hk
    exact ⟨h1, HJx.out _ _ _ h2 (by omega) ⟨hk.below.mono hw5, fun g hg => hk.kept g (.inr (.inr hg))⟩⟩
  case assign =>
    intro l' x W K hK
    rw [encB_wv]
    gi_wp2
    exact hK
  case iter =>
    intro W1' hb1 hs1
    have hdl : ∀ g, (g = g4 ∨ g = l ∨ D w5 g) → g < w5.heap.size := fun g hg => by
      rcases hg with rfl | rfl | hg
      · exact hl4
      · omega
      · have := HD0.out _ (hd5 _ hg); omega
    have hk5 : Keeps D B w5 W1' := ⟨hb1.mono hw5, fun g hg => hb1.block g (hdl g (.inr (.inr hg)))⟩
    refine ones1_in (n - 1) _ gh (p.only q) _ W1' (hBh.next hb1 hBh.lt) (fun g hg => ?_) (fun W W' hs hk g => ?_)
    · have h5 : g = g4 ∨ g = l ∨ D w5 g := by
        rcases hg with h | h | h
        · exact .inl h
        · exact .inr (.inl h)
        · exact .inr (.inr ((HDS.out w5 W1' hw5 hk5 g).1 h))
      have := hdl g h5
      omega
    · have hk' : Keeps D B W W' := ⟨hk.below.mono (by omega), fun g hg => hk.kept g (.inr (.inr hg))⟩
      show (g = g4 ∨ g = l ∨ D W' g) ↔ (g = g4 ∨ g = l ∨ D W g)
      rw [HDS.out W W' (by omega) hk' g]
  case body =>
    rintro l' pre x W ⟨⟨k, hk, rfl, hB4⟩, hbp, hbq, hb3, hj, hnd, hre, hsz⟩ hWs _ hpx
    have HRE := Lib.hid hre
    clear hre
    have HN := Lib.hid hnd
    clear hnd
    obtain ⟨DW, hDW⟩ : ∃ DW : Nat → Prop, DW = fun g => g = g4 ∨ g = l ∨ D W g := ⟨_, rfl⟩
    have d4 : DW g4 := by rw [hDW]; exact .inl rfl
    obtain ⟨hkx, hx, hfx, hno, hone⟩ := ones_elem hpx hk
    rw [Pat.rest_skips hkx hno] at hB4
    have hpm : p.m x = false := by
      unfold Pat.only at hfx
      revert hfx
      cases p.m x <;> simp
    have hpb : p.b x = false := by
      cases hb : p.b x
      · rfl
      · have := HP.out x hx hb
        rw [hpm] at this; cases this
    obtain ⟨R, hR⟩ : ∃ R, p.rest q x = R := ⟨_, rfl⟩
    have hRb : R.b x = false := by rw [← hR, Pat.rest_b]; exact hpb
    have hpc : Hid ((⟨upd R.m x true, upd R.b x (!q.b x)⟩ : Pat) = p.piece q x) := by
      have : (⟨upd R.m x true, upd R.b x (!q.b x)⟩ : Pat) = p.piece q x := by rw [← hR]; rfl
      exact this
    have hnx : Hid ((⟨upd R.m x true, upd R.b x (q.b x)⟩ : Pat).cells = (p.rest q (x + 1)).cells) := by
      have : (⟨upd R.m x true, upd R.b x (q.b x)⟩ : Pat).cells = (p.rest q (x + 1)).cells := by rw [← hR]; exact Pat.rest_next hfx
      exact this
    rw [hR] at hB4
    obtain ⟨V, hV⟩ : ∃ V : Nat, 2 ^ (15 - x % 16) = V := ⟨_, rfl⟩
    obtain ⟨v, hv⟩ : ∃ v, x / 16 = v := ⟨_, rfl⟩
    have e1 : bits .or .i64 (word R.m (x / 16) : Int) ((2 ^ (15 - x % 16) : Nat) : Int) = (word (upd R.m x true) (x / 16) : Int) := by rw [or_nat _ _ (word_lt _ _) (pow_le16 x), word_or_one]
    have e2 : bits .andNot .i64 ((2 ^ (15 - x % 16) : Nat) : Int) (word q.b (x / 16) : Int) = ((if !q.b x then 2 ^ (15 - x % 16) else 0 : Nat) : Int) := by rw [andn_nat _ _ (pow_le16 x) (word_lt _ _), bit_andn]
    have e3 : bits .or .i64 (word R.b (x / 16) : Int) ((if !q.b x then 2 ^ (15 - x % 16) else 0 : Nat) : Int) = (word (upd R.b x (!q.b x)) (x / 16) : Int) := by rw [or_nat _ _ (word_lt _ _) (ite_le16 x _), word_or_bit _ _ _ hRb]
    have e4 : bits .and .i64 ((2 ^ (15 - x % 16) : Nat) : Int) (word q.b (x / 16) : Int) = ((if q.b x then 2 ^ (15 - x % 16) else 0 : Nat) : Int) := by rw [and_nat _ _ (pow_le16 x) (word_lt _ _), bit_and]
    have e5 : bits .or .i64 (word R.b (x / 16) : Int) ((if q.b x then 2 ^ (15 - x % 16) else 0 : Nat) : Int) = (word (upd R.b x (q.b x)) (x / 16) : Int) := by rw [or_nat _ _ (word_lt _ _) (ite_le16 x _), word_or_bit _ _ _ hRb]
    have s1 := set_m R hx true
    have s2 := set_b (⟨upd R.m x true, R.b⟩ : Pat) hx (!q.b x)
    have s3 := set_b (⟨upd R.m x true, R.b⟩ : Pat) hx (q.b x)
    dsimp only at s2 s3
    have hv10 : x / 16 < 10 := by omega
    obtain ⟨r1, hr1⟩ : ∃ n, word R.m (x / 16) = n := ⟨_, rfl⟩
    obtain ⟨r2, hr2⟩ : ∃ n, word (upd R.m x true) (x / 16) = n := ⟨_, rfl⟩
    obtain ⟨r3, hr3⟩ : ∃ n, word R.b (x / 16) = n := ⟨_, rfl⟩
    obtain ⟨r4, hr4⟩ : ∃ n, word (upd R.b x (!q.b x)) (x / 16) = n := ⟨_, rfl⟩
    obtain ⟨r5, hr5⟩ : ∃ n, word (upd R.b x (q.b x)) (x / 16) = n := ⟨_, rfl⟩
    obtain ⟨r6, hr6⟩ : ∃ n, word q.b (x / 16) = n := ⟨_, rfl⟩
    obtain ⟨a1, ha1⟩ : ∃ n : Nat, (if !q.b x then 2 ^ (15 - x % 16) else 0) = n := ⟨_, rfl⟩
    obtain ⟨a2, ha2⟩ : ∃ n : Nat, (if q.b x then 2 ^ (15 - x % 16) else 0) = n := ⟨_, rfl⟩
    rw [hr1, hr2] at e1
    rw [hr6, ha1] at e2
    rw [hr3, hr4, ha1] at e3
    rw [hr6, ha2] at e4
    rw [hr3, hr5, ha2] at e5
    rw [hr2] at s1
    rw [hr4] at s2
    rw [hr5] at s3
    have ck1 := cells_m R hv10
    have ck2 := cells_b (⟨upd R.m x true, R.b⟩ : Pat) hv10
    have ck3 := cells_b q hv10
    rw [hr1] at ck1
    dsimp only at ck2
    rw [hr3] at ck2
    rw [hr6] at ck3
    obtain ⟨R1, hR1⟩ : ∃ R1, (⟨upd R.m x true, R.b⟩ : Pat) = R1 := ⟨_, rfl⟩
    rw [hR1] at s1 s2 s3 ck2
    rw [hpc.out] at s2
    rw [hnx.out] at s3
    obtain ⟨X, hX⟩ : ∃ X, p.piece q x = X := ⟨_, rfl⟩
    rw [hX] at s2
    have hwI : wI x = (v : Int) := by show ((x / 16 : Nat) : Int) = _; rw [hv]
    have hvI : vI x = (V : Int) := by show ((2 ^ (15 - x % 16) : Nat) : Int) = _; rw [hV]
    rw [hV] at e2 e4
    rw [hV] at e1
    rw [hv] at s1 s2 s3 ck1 ck2 ck3 hv10
    have hv0 : (0 : Int) ≤ (v : Int) := by omega
    have hv10i : (v : Int) < 10 := by omega
    have ca1 := hB4.cell ck1
    have S1 := Lib.hid s1
    have S2 := Lib.hid s2
    have S3 := Lib.hid s3
    have hmap : Hid ((onesTo (p.only q) (x + 1)).map (p.piece q) = (onesTo (p.only q) k).map (p.piece q) ++ [X]) := by
      have : (onesTo (p.only q) (x + 1)).map (p.piece q) = (onesTo (p.only q) k).map (p.piece q) ++ [X] := by rw [hone, List.map_append, ← hX]; rfl
      exact this
    have hpre : Hid ((onesTo (p.only q) k).map (p.piece q) ++ [X] <+: p.pieces q) := by
      have : (onesTo (p.only q) k).map (p.piece q) ++ [X] <+: p.pieces q := by
        rw [← hmap.out]
        exact (onesTo_prefix _ (by omega)).map _
      exact this
    obtain ⟨T, hT⟩ : ∃ T, (onesTo (p.only q) k).map (p.piece q) = T := ⟨_, rfl⟩
    rw [hT] at hj hmap hpre
    have hone' := Lib.hid hone
    clear s1 s2 s3 hR hpc hX hr1 hr2 hr3 hr4 hr5 hr6 ha1 ha2 hpm hpb hRb hfx hno hone hT hnx
    (try dsimp only)
    rw [hwI, hvI]
    clear hwI hvI hv hV
    gi_wp2_with (with_reducible refine wpListIn_put (o := ⟨none, .store 3 (.tmp 24) (.tmp 22), _, _, _, _⟩) (by with_unfolding_all rfl) 3 (.tmp 24) (.tmp 22) (by with_unfolding_all rfl) g4 v (by with_unfolding_all rfl) (.int .i64 (r2 : Int)) (by with_unfolding_all rfl) hB4 [.int .i64 (r2 : Int)] (by with_unfolding_all rfl) (by with_unfolding_all (exact Tryd.szI)) (by with_unfolding_all (rw [Pat.cells_length]; show v + 1 ≤ 20; omega)) (by with_unfolding_all (exact one_cell1 rfl)) ?_)
    intro wa hua hB4a
    rw [S1.out] at hB4a
    have hla : B ≤ wa.heap.size := by rw [hua.size]; exact hsz
    have hoa : OnlyD DW W wa := OnlyD.of_upd hua d4
    have hbpa := hbp.upd hua (by omega)
    have hbqa := hbq.upd hua (by omega)
    have hb3a := hb3.upd hua hne34
    have hBa : Keeps D B W wa := (Keeps.refl _ _ _).upd hua hle4 HN.out.2.2.2
    clear hB4 hbp hbq hb3 ca1 ck1 e1 S1 hua
    gi_wp2_with (first | (with_reducible refine wpListIn_get (o := ⟨some 25, .load 25 (.tmp 4), _, _, _, _⟩) (by with_unfolding_all rfl) 25 (.tmp 4) (by with_unfolding_all rfl) g4 0 (by with_unfolding_all rfl) hB4a R1.cells (cs_all _) _ (by exact Tryd.underlying25) (by with_unfolding_all rfl) (by rw [Pat.cells_length]; exact Tryd.szP) ?_) | (with_reducible refine wpListIn_alloc (o := ⟨some 7, .alloc 25, _, _, _, _⟩) (by with_unfolding_all rfl) 25 (by with_unfolding_all rfl) (.agg (H no ++ H no).toArray) (H no ++ H no) (by exact Tryd.zeroPt) (by with_unfolding_all rfl) ?_))
    intro g7 wb hg7 hsb hbb hB7
    rw [cells_zero] at hB7
    have hbb' : Below wa.heap.size wa wb := hbb.mono (Nat.le_of_eq hg7.out.symm)
    have hle7 : W.heap.size ≤ g7 := by rw [hg7.out]; exact hoa.size
    have hlb : B ≤ wb.heap.size := by have := hbb'.size; omega
    have hob : OnlyD DW W wb := hoa.trans (OnlyD.of_below hbb')
    have hB4b := hB4a.next hbb' hB4a.lt
    have hbpb := hbpa.next hbb' hbpa.lt
    have hbqb := hbqa.next hbb' hbqa.lt
    have hb3b := hb3a.next hbb' hb3a.lt
    have hBb := hBa.step HRE.out hsz hbb'
    have hn47 : g4 ≠ g7 := fun e => by have := hB4a.lt; have := hg7.out; omega
    have hn37 : g3 ≠ g7 := fun e => by have := hb3a.lt; have := hg7.out; omega
    have hnp7 : gp ≠ g7 := fun e => by have := hbpa.lt; have := hg7.out; omega
    have hnq7 : gq ≠ g7 := fun e => by have := hbqa.lt; have := hg7.out; omega
    have hB7l : B ≤ g7 := by rw [hg7.out]; exact hla
    clear hB4a hbpa hbqa hb3a hbb hbb' hsb hg7 hoa hla
    gi_wp2_with (with_reducible refine wpListIn_put (o := ⟨none, .store 25 (.tmp 7) (.tmp 25), _, _, _, _⟩) (by with_unfolding_all rfl) 25 (.tmp 7) (.tmp 25) (by with_unfolding_all rfl) g7 0 (by with_unfolding_all rfl) (.agg R1.cells.toArray) (by with_unfolding_all rfl) hB7 R1.cells (by with_unfolding_all rfl) (by with_unfolding_all (rw [Pat.cells_length]; exact Tryd.szP)) (by with_unfolding_all (rw [Pat.cells_length, Pat.cells_length]; omega)) (by with_unfolding_all (exact cells_one _)) ?_)
    intro wc huc hB7c
    rw [splice_all _ _ (by rw [Pat.cells_length, Pat.cells_length])] at hB7c
    have hlc : B ≤ wc.heap.size := by rw [huc.size]; exact hlb
    have hoc : OnlyD DW W wc := hob.of_new huc hle7
    have hB4c := hB4b.upd huc hn47
    have hbpc := hbpb.upd huc hnp7
    have hbqc := hbqb.upd huc hnq7
    have hb3c := hb3b.upd huc hn37
    have h7D : ¬ D W g7 := fun h => by have := HRE.out _ h; omega
    have hBc := hBb.upd huc hB7l h7D
    clear hB7 hB4b hbpb hbqb hb3b hlb hob huc
    gi_wp2
    have hbd := below_drew wc
    have cqd := (hbqc.next hbd hbqc.lt).cell ck3
    refine wpIn_round_held (S := fun w' => w'.cell? ⟨gq, 10 + v, none⟩ = some (.int .i64 (r6 : Int))) (by kernel_rfl) (by kernel_rfl) (fun ⟨_, _, h⟩ => h) cqd (fun hHeld => ?_)
    have hod : OnlyD DW W wc.drew := hoc.trans (OnlyD.of_below hbd)
    have hB4d := hB4c.next hbd hB4c.lt
    have hB7d := hB7c.next hbd hB7c.lt
    have hbpd := hbpc.next hbd hbpc.lt
    have hbqd := hbqc.next hbd hbqc.lt
    have hb3d := hb3c.next hbd hb3c.lt
    have hBd := hBc.step HRE.out hsz hbd
    have hld : B ≤ wc.drew.heap.size := hlc
    have c7d := hB7d.cell ck2
    clear hB4c hB7c hbpc hbqc hb3c hlc hoc hbd cqd
    clear hBa hBb hBc
    generalize wc.drew = wd at hHeld hod hB4d hB7d hbpd hbqd hb3d hld c7d hBd ⊢
    refine wpAnyH_take (i := 0) (v := ?vv0) rfl (by kernel_rfl) (by kernel_rfl) (by kernel_rfl) (fun _ _ _ h => h) (Or.inl ⟨by rfl, ?yv0⟩) (by assumption) ?rv0
    case yv0 => intro w hSw; (try dsimp only at hSw); go_simp <;> (try with_reducible rfl)
    (try simp only [List.getElem_toArray, List.getElem_cons_zero, Act.put, List.setIfInBounds_toArray, List.set_cons_zero, List.set_cons_succ])
    refine wpAnyH_take (i := 1) (v := ?vv1) rfl (by kernel_rfl) (by kernel_rfl) (by kernel_rfl) (fun _ _ _ h => h) (Or.inl ⟨by rfl, ?yv1⟩) (by assumption) ?rv1
    case yv1 => intro w hSw; (try dsimp only at hSw); go_simp <;> (try with_reducible rfl)
    (try simp only [List.getElem_toArray, List.getElem_cons_succ, List.getElem_cons_zero, Act.put, List.setIfInBounds_toArray, List.set_cons_zero, List.set_cons_succ])
    refine wpAnyH_take (i := 2) (v := ?vv2) rfl (by kernel_rfl) (by kernel_rfl) (by kernel_rfl) (fun _ _ _ h => h) (Or.inl ⟨by rfl, ?yv2⟩) (by assumption) ?rv2
    case yv2 => intro w hSw; (try dsimp only at hSw); go_simp <;> (try with_reducible rfl)
    (try simp only [List.getElem_toArray, List.getElem_cons_succ, List.getElem_cons_zero, Act.put, List.setIfInBounds_toArray, List.set_cons_zero, List.set_cons_succ])
    refine wpAnyH_take (i := 4) (v := ?vv4) rfl (by kernel_rfl) (by kernel_rfl) (by kernel_rfl) (fun _ _ _ h => h) (Or.inl ⟨by rfl, ?yv4⟩) (by assumption) ?rv4
    case yv4 => intro w hSw; (try dsimp only at hSw); go_simp <;> (try with_reducible rfl)
    (try simp only [List.getElem_toArray, List.getElem_cons_succ, List.getElem_cons_zero, Act.put, List.setIfInBounds_toArray, List.set_cons_zero, List.set_cons_succ])
    refine wpAnyH_take (i := 5) (v := ?vv5) rfl (by kernel_rfl) (by kernel_rfl) (by kernel_rfl) (fun _ _ _ h => h) (Or.inl ⟨by rfl, ?yv5⟩) (by assumption) ?rv5
    case yv5 => intro w hSw; (try dsimp only at hSw); go_simp <;> (try with_reducible rfl)
    (try simp only [List.getElem_toArray, List.getElem_cons_succ, List.getElem_cons_zero, Act.put, List.setIfInBounds_toArray, List.set_cons_zero, List.set_cons_succ])
    refine wpAnyH_take (i := 6) (v := ?vv6) rfl (by kernel_rfl) (by kernel_rfl) (by kernel_rfl) (fun _ _ _ h => h) (Or.inl ⟨by rfl, ?yv6⟩) (by assumption) ?rv6
    case yv6 => intro w hSw; (try dsimp only at hSw); go_simp <;> (try with_reducible rfl)
    (try simp only [List.getElem_toArray, List.getElem_cons_succ, List.getElem_cons_zero, Act.put, List.setIfInBounds_toArray, List.set_cons_zero, List.set_cons_succ])
    refine wpAnyH_take (i := 7) (v := ?vv7) rfl (by kernel_rfl) (by kernel_rfl) (by kernel_rfl) (fun _ _ _ h => h) (Or.inl ⟨by rfl, ?yv7⟩) (by assumption) ?rv7
    case yv7 => intro w hSw; (try dsimp only at hSw); go_simp <;> (try with_reducible rfl)
    (try simp only [List.getElem_toArray, List.getElem_cons_succ, List.getElem_cons_zero, Act.put, List.setIfInBounds_toArray, List.set_cons_zero, List.set_cons_succ])
    refine wpAnyH_take (i := 8) (v := ?vv8) rfl (by kernel_rfl) (by kernel_rfl) (by kernel_rfl) (fun _ _ _ h => h) (Or.inl ⟨by rfl, ?yv8⟩) (by assumption) ?rv8
    case yv8 => intro w hSw; (try dsimp only at hSw); go_simp <;> (try with_reducible rfl)
    (try simp only [List.getElem_toArray, List.getElem_cons_succ, List.getElem_cons_zero, Act.put, List.setIfInBounds_toArray, List.set_cons_zero, List.set_cons_succ])
    refine wpAnyH_take (i := 9) (v := ?vv9) rfl (by kernel_rfl) (by kernel_rfl) (by kernel_rfl) (fun _ _ _ h => h) (Or.inl ⟨by rfl, ?yv9⟩) (by assumption) ?rv9
    case yv9 => intro w hSw; (try dsimp only at hSw); go_simp <;> (try with_reducible rfl)
    (try simp only [List.getElem_toArray, List.getElem_cons_succ, List.getElem_cons_zero, Act.put, List.setIfInBounds_toArray, List.set_cons_zero, List.set_cons_succ])
    refine wpAnyH_take (i := 11) (v := ?vv11) rfl (by kernel_rfl) (by kernel_rfl) (by kernel_rfl) (fun _ _ _ h => h) (Or.inl ⟨by rfl, ?yv11⟩) (by assumption) ?rv11
    case yv11 => intro w hSw; (try dsimp only at hSw); go_simp <;> (try with_reducible rfl)
    (try simp only [List.getElem_toArray, List.getElem_cons_succ, List.getElem_cons_zero, Act.put, List.setIfInBounds_toArray, List.set_cons_zero, List.set_cons_succ])
    refine wpAnyH_ready (rs := [3]) (by kernel_rfl) (by simp) ?_
    refine AllReadyH.cons rfl (fun K hK => ?_) AllReadyH.nil
    go_simp
    refine hK.out _ _ hHeld (fun hHeld => ?_)
    clear hK K
    refine wpAnyH_take (i := 10) (v := ?vv10) rfl (by kernel_rfl) (by kernel_rfl) (by kernel_rfl) (fun _ _ _ h => h) (Or.inl ⟨by rfl, ?yv10⟩) (by assumption) ?rv10
    case yv10 => intro w hSw; (try dsimp only at hSw); go_simp <;> (try with_reducible rfl)
    (try simp only [List.getElem_toArray, List.getElem_cons_succ, List.getElem_cons_zero, Act.put, List.setIfInBounds_toArray, List.set_cons_zero, List.set_cons_succ])
    refine wpAnyH_take (i := 12) (v := ?vv12) rfl (by kernel_rfl) (by kernel_rfl) (by kernel_rfl) (fun _ _ _ h => h) (Or.inl ⟨by rfl, ?yv12⟩) (by assumption) ?rv12
    case yv12 => intro w hSw; (try dsimp only at hSw); go_simp <;> (try with_reducible rfl)
    (try simp only [List.getElem_toArray, List.getElem_cons_succ, List.getElem_cons_zero, Act.put, List.setIfInBounds_toArray, List.set_cons_zero, List.set_cons_succ])
    refine wpAnyH_ready (rs := [13]) (by kernel_rfl) (by simp) ?_
    refine AllReadyH.cons rfl (fun K hK => ?_) AllReadyH.nil
    rw [if_pos (by rfl)]
    refine wp_put 3 (.tmp 38) (.tmp 36) rfl g7 (10 + v) rfl (.int .i64 (r4 : Int)) rfl hB7d [.int .i64 (r4 : Int)] rfl (by exact Tryd.szI) (by rw [Pat.cells_length]; show 10 + v + 1 ≤ 20; omega) (one_cell1 rfl) ?_
    intro we hue hB7e
    rw [S2.out] at hB7e
    have hle : B ≤ we.heap.size := by rw [hue.size]; exact hld
    have hoe : OnlyD DW W we := hod.of_new hue hle7
    have hB4e := hB4d.upd hue hn47
    have hbpe := hbpd.upd hue hnp7
    have hbqe := hbqd.upd hue hnq7
    have hb3e := hb3d.upd hue hn37
    have hBe := hBd.upd hue hB7l h7D
    have hje := HJ.out _ _ _ hj hsz hBe
    refine hK.out _ _ (hbqe.cell ck3) (fun hHeld => ?_)
    refine wpAnyH_done (by kernel_rfl) ?_ _
    clear hK K hB4d hB7d hbpd hbqd hb3d hld hod hue hHeld c7d e2 e3 S2 hj
    have c3e := hb3e.cell (k := 0) rfl
    obtain ⟨fn, tm, asg, bdy, hyd, hRd⟩ := HY.out T X we hje hle hpre.out
    dsimp only [encP] at hyd
    gi_wp2_with (with_reducible refine wpListIn_get (o := ⟨some 40, .load 25 (.tmp 7), _, _, _, _⟩) (by with_unfolding_all rfl) 25 (.tmp 7) (by with_unfolding_all rfl) g7 0 (by with_unfolding_all rfl) hB7e X.cells (cs_all _) _ (by exact Tryd.underlying25) (by with_unfolding_all rfl) (by rw [Pat.cells_length]; exact Tryd.szP) ?_)
    refine ⟨fun h => (by cases h), (roundDone_one (roundIn_wide () hRd)).mono ?_⟩
    rintro e wf ⟨bb, rfl, hbb, hO, hG, hRf⟩
    have hst : ∀ g, D we g → D W g := fun g => (HDS.out W we hsz hBe g).1
    have HRF := Lib.hid hRf
    clear hRf
    have hof : OnlyD DW W wf := hoe.trans (hO.mono (fun g hg => by
      rw [hDW]
      rcases hg with h | h
      · exact .inr (.inl h)
      · exact .inr (.inr (hst g h))))
    have hlf : B ≤ wf.heap.size := Nat.le_trans hle hO.size
    have hB4f := hB4e.onlyD hO (fun h => by
      rcases h with h | h
      · omega
      · exact HN.out.2.2.2 (hst _ h))
    have hbpf := hbpe.onlyD hO (fun h => by
      rcases h with h | h
      · exact hlp h
      · exact HN.out.1 (hst _ h))
    have hbqf := hbqe.onlyD hO (fun h => by
      rcases h with h | h
      · exact hlq h
      · exact HN.out.2.1 (hst _ h))
    have hb3f := hb3e.onlyD hO (fun h => by
      rcases h with h | h
      · omega
      · exact HN.out.2.2.1 (hst _ h))
    have hGf : Hid (∀ g, D wf g → D W g ∨ W.heap.size ≤ g) := by
      have : ∀ g, D wf g → D W g ∨ W.heap.size ≤ g := fun g hg => by
        rcases hG g hg with h | h
        · exact .inl (hst g h)
        · have := hoe.size; exact .inr (by omega)
      exact this
    have hnf : Hid (¬ D wf gp ∧ ¬ D wf gq ∧ ¬ D wf g3 ∧ ¬ D wf g4) := by
      have key : ∀ g, g < we.heap.size → ¬ D W g → ¬ D wf g := fun g hg hn hc => by
        rcases hG g hc with h | h
        · exact hn (hst g h)
        · omega
      have : ¬ D wf gp ∧ ¬ D wf gq ∧ ¬ D wf g3 ∧ ¬ D wf g4 := ⟨key _ hbpe.lt HN.out.1, key _ hbqe.lt HN.out.2.1, key _ hb3e.lt HN.out.2.2.1, key _ hB4e.lt HN.out.2.2.2⟩
      exact this
    clear hG hst
    clear hyd hRd hO hB4e hbpe hbqe hb3e hje hle hoe c3e hB7e
    cases bb with
    | false =>
      have hx' : Jx (T ++ [X]) wf := by
        rcases hbb with ⟨h, _⟩ | ⟨_, h⟩
        · cases h
        · exact h
      gi_wp2
      rw [hDW] at hof
      exact ⟨⟨hof, fun g hg => by
        rcases hg with h | h | h
        · exact .inl (.inl h)
        · exact .inl (.inr (.inl h))
        · rcases hGf.out g h with h | h
          · exact .inl (.inr (.inr h))
          · exact .inr h, fun g hg => by
        rcases hg with h | h | h
        · rw [h]; exact hB4f.lt
        · omega
        · exact HRF.out g h⟩, rfl, by rw [← hone'.out, hmap.out]; exact hx'⟩
    | true =>
      have hj' : J (T ++ [X]) wf := by
        rcases hbb with ⟨_, h⟩ | ⟨h, _⟩
        · exact h
        · cases h
      clear hbb
      gi_wp2
      have hlf' := hlf
      have hbd := below_drew wf
      have cqd := (hbqf.next hbd hbqf.lt).cell ck3
      refine wpIn_round_held (S := fun w' => w'.cell? ⟨gq, 10 + v, none⟩ = some (.int .i64 (r6 : Int))) (by kernel_rfl) (by kernel_rfl) (fun ⟨_, _, h⟩ => h) cqd (fun hHeld => ?_)
      have hod : OnlyD DW W wf.drew := hof.trans (OnlyD.of_below hbd)
      have hB4d := hB4f.next hbd hB4f.lt
      have hbpd := hbpf.next hbd hbpf.lt
      have hbqd := hbqf.next hbd hbqf.lt
      have hb3d := hb3f.next hbd hb3f.lt
      have hBd := (Keeps.refl D B wf).step HRF.out hlf hbd
      have hld : B ≤ wf.drew.heap.size := hlf
      have c4d := hB4d.cell ck2
      clear hB4f hbpf hbqf hb3f hlf hof hbd cqd
      generalize wf.drew = wd at hHeld hod hB4d hbpd hbqd hb3d hld c4d hBd ⊢
      refine wpAnyH_take (i := 0) (v := ?vu0) rfl (by kernel_rfl) (by kernel_rfl) (by kernel_rfl) (fun _ _ _ h => h) (Or.inl ⟨by rfl, ?yu0⟩) (by assumption) ?ru0
      case yu0 => intro w hSw; (try dsimp only at hSw); go_simp <;> (try with_reducible rfl)
      (try simp only [List.getElem_toArray, List.getElem_cons_zero, Act.put, List.setIfInBounds_toArray, List.set_cons_zero, List.set_cons_succ])
      refine wpAnyH_take (i := 1) (v := ?vu1) rfl (by kernel_rfl) (by kernel_rfl) (by kernel_rfl) (fun _ _ _ h => h) (Or.inl ⟨by rfl, ?yu1⟩) (by assumption) ?ru1
      case yu1 => intro w hSw; (try dsimp only at hSw); go_simp <;> (try with_reducible rfl)
      (try simp only [List.getElem_toArray, List.getElem_cons_succ, List.getElem_cons_zero, Act.put, List.setIfInBounds_toArray, List.set_cons_zero, List.set_cons_succ])
      refine wpAnyH_take (i := 2) (v := ?vu2) rfl (by kernel_rfl) (by kernel_rfl) (by kernel_rfl) (fun _ _ _ h => h) (Or.inl ⟨by rfl, ?yu2⟩) (by assumption) ?ru2
      case yu2 => intro w hSw; (try dsimp only at hSw); go_simp <;> (try with_reducible rfl)
      (try simp only [List.getElem_toArray, List.getElem_cons_succ, List.getElem_cons_zero, Act.put, List.setIfInBounds_toArray, List.set_cons_zero, List.set_cons_succ])
      refine wpAnyH_take (i := 4) (v := ?vu4) rfl (by kernel_rfl) (by kernel_rfl) (by kernel_rfl) (fun _ _ _ h => h) (Or.inl ⟨by rfl, ?yu4⟩) (by assumption) ?ru4
      case yu4 => intro w hSw; (try dsimp only at hSw); go_simp <;> (try with_reducible rfl)
      (try simp only [List.getElem_toArray, List.getElem_cons_succ, List.getElem_cons_zero, Act.put, List.setIfInBounds_toArray, List.set_cons_zero, List.set_cons_succ])
      refine wpAnyH_take (i := 5) (v := ?vu5) rfl (by kernel_rfl) (by kernel_rfl) (by kernel_rfl) (fun _ _ _ h => h) (Or.inl ⟨by rfl, ?yu5⟩) (by assumption) ?ru5
      case yu5 => intro w hSw; (try dsimp only at hSw); go_simp <;> (try with_reducible rfl)
      (try simp only [List.getElem_toArray, List.getElem_cons_succ, List.getElem_cons_zero, Act.put, List.setIfInBounds_toArray, List.set_cons_zero, List.set_cons_succ])
      refine wpAnyH_take (i := 6) (v := ?vu6) rfl (by kernel_rfl) (by kernel_rfl) (by kernel_rfl) (fun _ _ _ h => h) (Or.inl ⟨by rfl, ?yu6⟩) (by assumption) ?ru6
      case yu6 => intro w hSw; (try dsimp only at hSw); go_simp <;> (try with_reducible rfl)
      (try simp only [List.getElem_toArray, List.getElem_cons_succ, List.getElem_cons_zero, Act.put, List.setIfInBounds_toArray, List.set_cons_zero, List.set_cons_succ])
      refine wpAnyH_take (i := 7) (v := ?vu7) rfl (by kernel_rfl) (by kernel_rfl) (by kernel_rfl) (fun _ _ _ h => h) (Or.inl ⟨by rfl, ?yu7⟩) (by assumption) ?ru7
      case yu7 => intro w hSw; (try dsimp only at hSw); go_simp <;> (try with_reducible rfl)
      (try simp only [List.getElem_toArray, List.getElem_cons_succ, List.getElem_cons_zero, Act.put, List.setIfInBounds_toArray, List.set_cons_zero, List.set_cons_succ])
      refine wpAnyH_take (i := 8) (v := ?vu8) rfl (by kernel_rfl) (by kernel_rfl) (by kernel_rfl) (fun _ _ _ h => h) (Or.inl ⟨by rfl, ?yu8⟩) (by assumption) ?ru8
      case yu8 => intro w hSw; (try dsimp only at hSw); go_simp <;> (try with_reducible rfl)
      (try simp only [List.getElem_toArray, List.getElem_cons_succ, List.getElem_cons_zero, Act.put, List.setIfInBounds_toArray, List.set_cons_zero, List.set_cons_succ])
      refine wpAnyH_take (i := 9) (v := ?vu9) rfl (by kernel_rfl) (by kernel_rfl) (by kernel_rfl) (fun _ _ _ h => h) (Or.inl ⟨by rfl, ?yu9⟩) (by assumption) ?ru9
      case yu9 => intro w hSw; (try dsimp only at hSw); go_simp <;> (try with_reducible rfl)
      (try simp only [List.getElem_toArray, List.getElem_cons_succ, List.getElem_cons_zero, Act.put, List.setIfInBounds_toArray, List.set_cons_zero, List.set_cons_succ])
      refine wpAnyH_take (i := 11) (v := ?vu11) rfl (by kernel_rfl) (by kernel_rfl) (by kernel_rfl) (fun _ _ _ h => h) (Or.inl ⟨by rfl, ?yu11⟩) (by assumption) ?ru11
      case yu11 => intro w hSw; (try dsimp only at hSw); go_simp <;> (try with_reducible rfl)
      (try simp only [List.getElem_toArray, List.getElem_cons_succ, List.getElem_cons_zero, Act.put, List.setIfInBounds_toArray, List.set_cons_zero, List.set_cons_succ])
      refine wpAnyH_ready (rs := [3]) (by kernel_rfl) (by simp) ?_
      refine AllReadyH.cons rfl (fun K hK => ?_) AllReadyH.nil
      go_simp
      refine hK.out _ _ hHeld (fun hHeld => ?_)
      clear hK K
      refine wpAnyH_take (i := 10) (v := ?vu10) rfl (by kernel_rfl) (by kernel_rfl) (by kernel_rfl) (fun _ _ _ h => h) (Or.inl ⟨by rfl, ?yu10⟩) (by assumption) ?ru10
      case yu10 => intro w hSw; (try dsimp only at hSw); go_simp <;> (try with_reducible rfl)
      (try simp only [List.getElem_toArray, List.getElem_cons_succ, List.getElem_cons_zero, Act.put, List.setIfInBounds_toArray, List.set_cons_zero, List.set_cons_succ])
      refine wpAnyH_take (i := 12) (v := ?vu12) rfl (by kernel_rfl) (by kernel_rfl) (by kernel_rfl) (fun _ _ _ h => h) (Or.inl ⟨by rfl, ?yu12⟩) (by assumption) ?ru12
      case yu12 => intro w hSw; (try dsimp only at hSw); go_simp <;> (try with_reducible rfl)
      (try simp only [List.getElem_toArray, List.getElem_cons_succ, List.getElem_cons_zero, Act.put, List.setIfInBounds_toArray, List.set_cons_zero, List.set_cons_succ])
      refine wpAnyH_ready (rs := [13]) (by kernel_rfl) (by simp) ?_
      refine AllReadyH.cons rfl (fun K hK => ?_) AllReadyH.nil
      rw [if_pos (by rfl)]
      refine wp_put 3 (.tmp 55) (.tmp 53) rfl g4 (10 + v) rfl (.int .i64 (r5 : Int)) rfl hB4d [.int .i64 (r5 : Int)] rfl (by exact Tryd.szI) (by rw [Pat.cells_length]; show 10 + v + 1 ≤ 20; omega) (one_cell1 rfl) ?_
      intro wg hug hB4g
      rw [S3.out] at hB4g
      have hlg : B ≤ wg.heap.size := by rw [hug.size]; exact hld
      have hog : OnlyD DW W wg := hod.trans (OnlyD.of_upd hug d4)
      have hbpg := hbpd.upd hug (by omega)
      have hbqg := hbqd.upd hug (by omega)
      have hb3g := hb3d.upd hug hne34
      have hKg := hBd.upd hug hle4 hnf.out.2.2.2
      have hjg := HJ.out _ _ _ hj' hlf' hKg
      have hst := fun g => (HDS.out wf wg hlf' hKg g).1
      refine hK.out _ _ (hbqg.cell ck3) (fun hHeld => ?_)
      refine wpAnyH_done (by kernel_rfl) ?_ _
      have hszg : wf.heap.size ≤ wg.heap.size := hKg.below.size
      clear hK K hB4d hbpd hbqd hb3d hld hod hug hHeld c4d e4 e5 S3 hj'
      gi_wp2
      rw [hDW] at hog
      exact ⟨⟨hog, fun g hg => by
        rcases hg with h | h | h
        · exact .inl (.inl h)
        · exact .inl (.inr (.inl h))
        · rcases hGf.out g (hst g h) with h | h
          · exact .inl (.inr (.inr h))
          · exact .inr h, fun g hg => by
        rcases hg with h | h | h
        · rw [h]; exact hB4g.lt
        · omega
        · have := HRF.out g (hst g h); omega⟩, ⟨x + 1, by omega, hone'.out, hB4g⟩, hbpg, hbqg, hb3g, by rw [← hone'.out, hmap.out]; exact hjg, ⟨fun h => hnf.out.1 (hst _ h), fun h => hnf.out.2.1 (hst _ h), fun h => hnf.out.2.2.1 (hst _ h), fun h => hnf.out.2.2.2 (hst _ h)⟩, fun g hg => by have := HRF.out g (hst g hg); omega, hlg⟩
  case done =>
    rintro W ⟨⟨k, h1, h2, h3⟩, h4, h5, h6, h7, _, hre, h8⟩ hs hD hnD
    exact leave_normal hD (results_none rfl _ _ _) ⟨⟨_, rfl⟩, .inl (HJ.out _ _ _ h7 h8 (Keeps.put _ hw5 (fun h => hnD (.inr (.inr h)))))⟩
  case stop =>
    rintro co pre W hpre ⟨rfl, hx⟩ hWs hD hnD
    gi_wp2
    exact leave_ret hD (results_none rfl _ _ _) ⟨⟨_, rfl⟩, .inr ⟨_, hpre.map _, HJx.out _ _ _ hx (by omega) (Keeps.put _ hw5 (fun h => hnD (.inr (.inr h))))⟩⟩
end Go.Proofs.YtkkgfdfjgfigcaaDoor

/-
  Contracts of the walks over pieces, slices.AppendSeq, slices.Collect and Minus: the pieces of a difference, behind a row of patterns. Conditions: right patterns.
-/
namespace Go.Proofs.YtkkgfdfjgfigcaaDoor
set_option linter.unusedVariables false
set_option linter.unusedSimpArgs false
open Go.RowKit

attribute [local go_sem] Oper.semAt_some
/-- 'append' to a row: where the new one lies. -/
theorem run_append_new {P : Program} (w : World) (base : Nat) (t ty e : TypeId) (i : TypeInfo) (z : Value) (size bytes : Nat) (ht : P.underlying t = some (.slice e)) (hi : P.info? e = some i) (hz : i.zero = some z)
    (hsize : i.size = size) (hby : i.bytes = bytes) (hzs : z.cells.size = size) (hsz : 0 < size) (v : Value) (n : Nat) (xs : List Value) (hown : w.ownsRow base e size v n xs)
    (a : Addr) (m c : Nat) (news : List Value) (hl : news.length = m * size) (hnews : ∀ j u, news[j]? = some u → w.cell? (a.add j) = some u) (h1 : ∀ u ∈ news, u.oneCell' = true)
    (h63 : n + m ≤ maxLen) (hbytes : (n + m) * bytes ≤ 140737488355328) (hbase : base ≤ w.heap.size) :
    ∃ v' w', (Builtin.append_ #[t, t] ty #[v, .slice (some a) m c]).run P w = .ok v' w' ∧ w'.ownsRow base e size v' (n + m) (xs ++ news) ∧ w.grownBy w' v.ownBlock ∧ (v'.ownBlock = v.ownBlock ∨ ∀ g, v'.ownBlock = some g → w.heap.size ≤ g) := by
  obtain ⟨v', w', hr, ho, hg, hn⟩ := run_append_own (P := P) w base t ty e i z size bytes ht hi hz hsize hby hzs hsz v n xs hown a m c news hl hnews h1 h63 hbytes hbase
  refine ⟨v', w', hr, ho, hg, ?_⟩
  rcases hown.2 with ⟨rfl, rfl⟩ | ⟨g, cap, cur, rfl, hbg, hgc, hnc, hcm, hcs, htake⟩
  · have hx : xs = [] := List.eq_nil_of_length_eq_zero (by simpa using hown.1)
    subst hx
    obtain ⟨v2, w2, hr2, ho2, _, _⟩ := run_append_own (P := P) w w.heap.size t ty e i z size bytes ht hi hz hsize hby hzs hsz (.slice none 0 0) 0 [] (World.ownsRow_nil _ _ _ _) a m c news hl hnews h1 h63 hbytes (Nat.le_refl _)
    rw [hr] at hr2
    injection hr2 with e1 e2
    subst e1 e2
    exact .inr fun g hg => (ho2.lt g hg).1
  · by_cases hroom : n + m ≤ cap
    · obtain ⟨w2, hr2, _, _⟩ := run_append_fits (P := P) w base t ty e i size ht hi hsize g n cap xs hown a m c news hl hnews h1 hroom
      rw [hr] at hr2
      injection hr2 with e1 e2
      subst e1
      exact .inl rfl
    · have holds : ∀ j u, xs[j]? = some u → w.cell? ((⟨g, 0, none⟩ : Addr).add j) = some u := hown.cells (g := g) rfl
      have hr2 := run_append_grow (P := P) w t ty e i z ht hi hz ⟨g, 0, none⟩ n cap xs (by rw [hsize]; exact hown.1) holds a m c news (by rw [hsize]; exact hl) hnews (by omega) (by simp only [maxLen] at h63; omega) (growslice_fits (by omega) (by rw [hby]; exact hbytes))
      rw [hr] at hr2
      injection hr2 with e1 e2
      subst e1
      exact .inr fun g hg => by
        have : w.heap.size = g := by simpa [Value.ownBlock] using hg
        omega
theorem wpListIn_appendN {F : Fence} {nn : Nat} {P : Program} (w : World) {ops : Array Oper} {rest : List Oper} {o : Oper} {a : Act} {Q : Exit → Act → World → Prop} (hgd : o.guard = none) (s x : Operand) (t : TypeId)
    (ho : o.op = .call { callee := .builtin .append, args := #[s, x], argTypes := #[t, t] })
    (base : Nat) (e : TypeId) (i : TypeInfo) (z : Value) (size bytes : Nat) (ht : P.underlying t = some (.slice e)) (hi : P.info? e = some i) (hz : i.zero = some z)
    (hsize : i.size = size) (hby : i.bytes = bytes) (hzs : z.cells.size = size) (hsz : 0 < size)
    (v : Value) (n : Nat) (xs : List Value) (hs : a.eval s = v) (hown : w.ownsRow base e size v n xs)
    (ad : Addr) (m c : Nat) (news : List Value) (hx : a.eval x = .slice (some ad) m c) (hl : news.length = m * size) (hnews : ∀ j u, news[j]? = some u → w.cell? (ad.add j) = some u) (h1 : ∀ u ∈ news, u.oneCell' = true)
    (h63 : n + m ≤ maxLen) (hbytes : (n + m) * bytes ≤ 140737488355328) (hbase : base ≤ w.heap.size)
    (h : ∀ v' w', w'.ownsRow base e size v' (n + m) (xs ++ news) → w.grownBy w' v.ownBlock → (v'.ownBlock = v.ownBlock ∨ ∀ g, v'.ownBlock = some g → w.heap.size ≤ g) → wpListIn F nn P ops Q rest (a.put o.dst v') w') : wpListIn F nn P ops Q (o :: rest) a w := by
  refine wpListIn_plain hgd fun K hK' => ?_
  obtain ⟨v', w', hrun, r1, r2, r3⟩ := run_append_new (P := P) w base t o.type e i z size bytes ht hi hz hsize hby hzs hsz v n xs hown ad m c news hl hnews h1 h63 hbytes hbase
  unfold Oper.wpIn
  refine ⟨?_, ?_⟩
  · simp [Oper.about, ho, resolve, Target.leads, Sem.run_pure]
  · rw [Oper.semAt_plain F _ _ (by rw [ho]; intro c hc'; cases hc')]
    simp [execOp, ho, resolve, invoke, builtin, hs, hx, hrun, Result.andThen]
    exact hK' _ _ (h v' w' r1 r2 r3)
theorem wpList_appendN {P : Program} (w : World) {ops : Array Oper} {rest : List Oper} {o : Oper} {a : Act} {Q : Exit → Act → World → Prop} (hgd : o.guard = none) (s x : Operand) (t : TypeId)
    (ho : o.op = .call { callee := .builtin .append, args := #[s, x], argTypes := #[t, t] })
    (base : Nat) (e : TypeId) (i : TypeInfo) (z : Value) (size bytes : Nat) (ht : P.underlying t = some (.slice e)) (hi : P.info? e = some i) (hz : i.zero = some z)
    (hsize : i.size = size) (hby : i.bytes = bytes) (hzs : z.cells.size = size) (hsz : 0 < size)
    (v : Value) (n : Nat) (xs : List Value) (hs : a.eval s = v) (hown : w.ownsRow base e size v n xs)
    (ad : Addr) (m c : Nat) (news : List Value) (hx : a.eval x = .slice (some ad) m c) (hl : news.length = m * size) (hnews : ∀ j u, news[j]? = some u → w.cell? (ad.add j) = some u) (h1 : ∀ u ∈ news, u.oneCell' = true)
    (h63 : n + m ≤ maxLen) (hbytes : (n + m) * bytes ≤ 140737488355328) (hbase : base ≤ w.heap.size)
    (h : ∀ v' w', w'.ownsRow base e size v' (n + m) (xs ++ news) → w.grownBy w' v.ownBlock → (v'.ownBlock = v.ownBlock ∨ ∀ g, v'.ownBlock = some g → w.heap.size ≤ g) → wpList P ops Q rest (a.put o.dst v') w') : wpList P ops Q (o :: rest) a w := by
  refine wpList_plain hgd fun K hK' => ?_
  obtain ⟨v', w', hrun, r1, r2, r3⟩ := run_append_new (P := P) w base t o.type e i z size bytes ht hi hz hsize hby hzs hsz v n xs hown ad m c news hl hnews h1 h63 hbytes hbase
  unfold Oper.wp
  simp [execOp, ho, resolve, invoke, builtin, hs, hx, hrun, Result.andThen]
  exact hK' _ _ (h v' w' r1 r2 r3)
theorem Tryd.infoPt : (Tryd.prog.info? 25).map (fun i => (i.zero, i.size, i.bytes)) = some (some (.agg (H no ++ H no).toArray), 20, 160) := by kernel_rfl
theorem Tryd.szLs : (Tryd.prog.info? 82).map (·.size) = some 1 := by kernel_rfl
theorem run_slicePat (W : World) : ∀ (l : List Value), l.length = 20 →
    (Instr.buildSlice 82 1 #[(0, .agg l.toArray)]).run Tryd.prog W = .ok (.slice (some ⟨W.heap.size, 0, none⟩) 1 1) (W.alloc (.cells l.toArray 25))
  | [_, _, _, _, _, _, _, _, _, _, _, _, _, _, _, _, _, _, _, _], _ => by kernel_rfl
theorem wpListIn_slicePat {F : Fence} {n : Nat} {ops : Array Oper} {rest : List Oper} {o : Oper} {a : Act} {W : World} {Q : Exit → Act → World → Prop} (hgd : o.guard = none) (x : Operand) (ho : o.op = .buildSlice 82 1 #[(0, x)])
    (l : List Value) (hx : a.eval x = .agg l.toArray) (hl : l.length = 20)
    (h : ∀ g w', Hid (g = W.heap.size) → Below W.heap.size W w' → Blk w' g 25 l → wpListIn F n Tryd.prog ops Q rest (a.put o.dst (.slice (some ⟨g, 0, none⟩) 1 1)) w') : wpListIn F n Tryd.prog ops Q (o :: rest) a W := by
  refine wpListIn_plain hgd fun K hK => ?_
  have hrun := run_slicePat W l hl
  unfold Oper.wpIn
  refine ⟨fun f hf => ?_, ?_⟩
  · simp [Oper.about, ho] at hf
  · have hne : ∀ c, o.op ≠ .defer c := fun c h => by rw [ho] at h; cases h
    rw [Oper.semAt_eq _ _ _ hne]
    unfold execOp
    simp only [ho, List.map_toArray, List.map_cons, List.map_nil, hx, Sem.run_bind, Sem.run_pure, Result.andThen_ok, hrun]
    exact hK _ _ (h _ _ rfl (below_new W _) (blk_new W _ l))
theorem wpList_slicePat {ops : Array Oper} {rest : List Oper} {o : Oper} {a : Act} {W : World} {Q : Exit → Act → World → Prop} (hgd : o.guard = none) (x : Operand) (ho : o.op = .buildSlice 82 1 #[(0, x)])
    (l : List Value) (hx : a.eval x = .agg l.toArray) (hl : l.length = 20)
    (h : ∀ g w', Hid (g = W.heap.size) → Below W.heap.size W w' → Blk w' g 25 l → wpList Tryd.prog ops Q rest (a.put o.dst (.slice (some ⟨g, 0, none⟩) 1 1)) w') : wpList Tryd.prog ops Q (o :: rest) a W := by
  refine wpList_plain hgd fun K hK => ?_
  have hrun := run_slicePat W l hl
  unfold Oper.wp execOp
  simp only [ho, List.map_toArray, List.map_cons, List.map_nil, hx, Sem.run_bind, Sem.run_pure, Result.andThen_ok, hrun]
  exact hK _ _ (h _ _ rfl (below_new W _) (blk_new W _ l))
/-- The cells of a row of patterns. -/
def patCells (l : List Pat) : List Value := l.flatMap Pat.cells
theorem patCells_snoc (l : List Pat) (p : Pat) : patCells (l ++ [p]) = patCells l ++ p.cells := by simp [patCells]
theorem patCells_length : ∀ l : List Pat, (patCells l).length = l.length * 20
  | [] => rfl
  | p :: l => by
    show (p.cells ++ patCells l).length = _
    rw [List.length_append, Pat.cells_length, patCells_length l, List.length_cons]; omega
theorem patCells_one (l : List Pat) : ∀ u ∈ patCells l, u.oneCell' = true := by
  intro u hu
  obtain ⟨p, _, hp⟩ := List.mem_flatMap.1 hu
  exact cells_one p u hp
set_option maxRecDepth 100000 in
set_option maxHeartbeats 1600000 in
theorem pieces_any (p q : Pat) (w : World) :
    Calls Tryd.prog 146 #[.agg p.cells.toArray, .agg q.cells.toArray] w fun e w' => ∃ gp gq, e = .returned (.func (.func 205) #[] #[.pointer (some ⟨gp, 0, none⟩), .pointer (some ⟨gq, 0, none⟩)]) ∧ Blk w' gp 25 p.cells ∧ Blk w' gq 25 q.cells ∧ Below w.heap.size w w' ∧ w.heap.size ≤ gp ∧ w.heap.size ≤ gq := by
  go_enter Tryd.func146, Tryd.ntmps146
  go_wp2_with (with_reducible refine wpList_box (o := ⟨some 2, .box 25 (.tmp 0), _, _, _, _⟩) ?g1 25 (.tmp 0) ?o1 (.agg p.cells.toArray) p.cells ?x1 ?c1 ?_)
  try (case g1 => rfl)
  try (case o1 => rfl)
  try (case x1 => rfl)
  try (case c1 => rfl)
  intro gp w1 hgp hs1 hb1 hP1
  go_wp2_with (with_reducible refine wpList_box (o := ⟨some 3, .box 25 (.tmp 1), _, _, _, _⟩) ?g2 25 (.tmp 1) ?o2 (.agg q.cells.toArray) q.cells ?x2 ?c2 ?_)
  try (case g2 => rfl)
  try (case o2 => rfl)
  try (case x2 => rfl)
  try (case c2 => rfl)
  intro gq w2 hgq hs2 hb2 hQ2
  have hle : w.heap.size ≤ gp := Nat.le_of_eq hgp.out.symm
  have hab : gp < gq := by have := hgp.out; have := hs1.out; have := hgq.out; omega
  have hP2 := hP1.next hb2 hab
  have hbel := (hb1.mono hle).trans (hb2.mono (by omega))
  clear hgp hs1 hb1 hP1 hgq hs2 hb2
  go_wp2
  go_ret
  exact ⟨gp, gq, rfl, hP2, hQ2, hbel, hle, by omega⟩
/-- What belongs to AppendSeq: its variable, and the row in it. -/
def ApD (g2 : Nat) (W : World) (g : Nat) : Prop := g = g2 ∨ ∃ v, Blk W g2 82 [v] ∧ v.ownBlock = some g
theorem blk_inj {w : World} {g : Nat} {t : TypeId} {u v : Value} (h : Blk w g t [u]) (k : Blk w g t [v]) : u = v := by
  have := (h.cell (k := 0) rfl).symm.trans (k.cell (k := 0) rfl)
  exact Option.some.inj this
theorem blk_back {w w' : World} {g : Nat} {t : TypeId} {l : List Value} (h : Blk w' g t l) (e : w'.heap[g]? = w.heap[g]?) : Blk w g t l := by unfold Blk; rw [← e]; exact h
theorem apD_stays {g2 B : Nat} (h2 : g2 < B) : StaysD (ApD g2) B := fun W W' _ hk g => by
  have e := hk.below.block g2 h2
  constructor
  · rintro (h | ⟨v, h, hv⟩)
    · exact .inl h
    · exact .inr ⟨v, blk_back h e, hv⟩
  · rintro (h | ⟨v, h, hv⟩)
    · exact .inl h
    · exact .inr ⟨v, blk_back h e.symm, hv⟩
/-- Between two rounds of AppendSeq. -/
structure ApI (base g2 k : Nat) (v : Value) (xs : List Value) (w2 : World) (s : List Pat) (W : World) : Prop where
  v' : ∃ v', Blk W g2 82 [v'] ∧ W.ownsRow base 25 20 v' (k + s.length) (xs ++ patCells s) ∧ v'.ownBlock ≠ some g2 ∧ (v'.ownBlock = v.ownBlock ∨ ∀ g, v'.ownBlock = some g → w2.heap.size ≤ g)
  only : OnlyD (fun g => g = g2 ∨ v.ownBlock = some g) w2 W
theorem own_keep {w w' : World} {base n size : Nat} {e : TypeId} {v : Value} {xs : List Value} (h : w.ownsRow base e size v n xs) (hb : ∀ g, v.ownBlock = some g → w'.heap[g]? = w.heap[g]?) : w'.ownsRow base e size v n xs := by
  refine ⟨h.1, ?_⟩
  rcases h.2 with hn | ⟨g, cap, cur, rfl, h2, h3, h4⟩
  · exact .inl hn
  · exact .inr ⟨g, cap, cur, rfl, h2, (hb g rfl).trans h3, h4⟩
theorem own_shape {w : World} {base n size : Nat} {e : TypeId} {v : Value} {xs : List Value} (h : w.ownsRow base e size v n xs) : ∃ A c, v = .slice A n c ∧ ((A = none ∧ c = 0 ∧ n = 0) ∨ ∃ g, A = some ⟨g, 0, none⟩ ∧ base ≤ g ∧ g < w.heap.size) := by
  rcases h.2 with ⟨rfl, rfl⟩ | ⟨g, cap, cur, rfl, hb, h3, _⟩
  · exact ⟨none, 0, rfl, .inl ⟨rfl, rfl, rfl⟩⟩
  · exact ⟨_, _, rfl, .inr ⟨g, rfl, hb, (Array.getElem?_eq_some_iff.1 h3).1⟩⟩
theorem OnlyD.of_grown {D : Nat → Prop} {a b : World} {row : Option Nat} (h : a.grownBy b row) (hg : ∀ g, row = some g → D g) : OnlyD D a b := ⟨h.os, h.tape, h.output, h.size, fun i hi hn => h.block i hi (fun e => hn (hg i e.symm))⟩
theorem OnlyD.then_below {D : Nat → Prop} {a b c : World} (h : OnlyD D a b) (hb : Below a.heap.size b c) : OnlyD D a c :=
  ⟨hb.os.trans h.os, hb.tape.trans h.tape, hb.output.trans h.output, Nat.le_trans h.size hb.size, fun i hi hn => (hb.block i hi).trans (h.block i hi hn)⟩
theorem own_mono {w : World} {base base' n size : Nat} {e : TypeId} {v : Value} {xs : List Value} (h : w.ownsRow base e size v n xs) (hb : ∀ g, v.ownBlock = some g → base' ≤ g) : w.ownsRow base' e size v n xs := by
  refine ⟨h.1, ?_⟩
  rcases h.2 with hn | ⟨g, cap, cur, rfl, h2, h4⟩
  · exact .inl hn
  · exact .inr ⟨g, cap, cur, rfl, hb g rfl, h4⟩
theorem blk_add {w : World} {g : Nat} {t : TypeId} {l : List Value} (h : Blk w g t l) : ∀ j u, l[j]? = some u → w.cell? ((⟨g, 0, none⟩ : Addr).add j) = some u := fun j u hu => by rw [addr_mid, Nat.zero_add]; exact h.cell hu
theorem Blk.grown {w w' : World} {g : Nat} {t : TypeId} {l : List Value} {row : Option Nat} (h : Blk w g t l) (hg : w.grownBy w' row) (hn : row ≠ some g) : Blk w' g t l := by unfold Blk; rw [hg.block g h.lt (fun e => hn e.symm)]; exact h
theorem pieces_length (p q : Pat) : (p.pieces q).length ≤ 160 := by
  unfold Pat.pieces onesTo
  rw [List.length_map]
  exact Nat.le_trans (List.length_filter_le _ _) (by rw [List.length_range]; exact Nat.le_refl _)
end Go.Proofs.YtkkgfdfjgfigcaaDoor

/-
  Contracts of the walks over slices.AppendSeq, slices.Collect and Minus. Conditions: right patterns; a row of at most 1000000 of them.
-/
namespace Go.Proofs.YtkkgfdfjgfigcaaDoor
set_option linter.unusedVariables false
set_option linter.unusedSimpArgs false
open Go.RowKit

attribute [local go_sem] Oper.semAt_some
def apAct (A : Option Addr) (k c gp gq g2 g5 : Nat) (x : Pat) : Act := { tmps := #[.slice A k c, .func (.func 205) #[] #[.pointer (some ⟨gp, 0, none⟩), .pointer (some ⟨gq, 0, none⟩)], .pointer (some ⟨g2, 0, none⟩), undef, .slice none 0 0, .pointer (some ⟨g5, 0, none⟩), .func (.func 205) #[] #[.pointer (some ⟨gp, 0, none⟩), .pointer (some ⟨gq, 0, none⟩)], .agg x.cells.toArray, undef, undef, undef, undef, undef], defers := [] }
set_option maxRecDepth 100000 in
set_option maxHeartbeats 1600000 in
theorem appendSeq_any (base k c gp gq : Nat) (A : Option Addr) (xs : List Value) (p q : Pat) (w : World) (hp : p.ok) (hk : k ≤ 1000000) (hbase : base ≤ w.heap.size) (hown : w.ownsRow base 25 20 (.slice A k c) k xs) (hBp : Blk w gp 25 p.cells) (hBq : Blk w gq 25 q.cells)
    (hvp : (Value.slice A k c).ownBlock ≠ some gp) (hvq : (Value.slice A k c).ownBlock ≠ some gq) :
    Calls Tryd.prog 204 #[.slice A k c, .func (.func 205) #[] #[.pointer (some ⟨gp, 0, none⟩), .pointer (some ⟨gq, 0, none⟩)]] w fun e w' => ∃ v', e = .returned v' ∧ w'.ownsRow base 25 20 v' (k + (p.pieces q).length) (xs ++ patCells (p.pieces q)) ∧ w.grownBy w' (Value.slice A k c).ownBlock ∧ (v'.ownBlock = (Value.slice A k c).ownBlock ∨ ∀ g, v'.ownBlock = some g → w.heap.size ≤ g) := by
  obtain ⟨i0, hi, hz0, hz1, hz2⟩ := info_parts Tryd.infoPt
  have hzs : (Value.agg (H no ++ H no).toArray).cells.size = 20 := by
    show (H no ++ H no).toArray.size = 20
    rw [List.size_toArray, List.length_append, H_length]
  have HI := Lib.hid hi
  have HZ0 := Lib.hid hz0
  have HZ1 := Lib.hid hz1
  have HZ2 := Lib.hid hz2
  have HZS := Lib.hid hzs
  clear hi hz0 hz1 hz2 hzs
  have HP := Lib.hid hp
  have hvlt := hown.lt
  refine callsIn_wide.1 (callsIn_of_wp_marks (n := 5) Tryd.func204 rfl trivial (wpIn_wide.2 (wp_calm ?_)) rfl)
  simp only [Tryd.ntmps204, List.size_toArray, List.length_cons, List.length_nil, Nat.reduceAdd, Nat.reduceSub, Array.replicate_succ, Array.replicate_zero, List.push_toArray, List.append_toArray, List.nil_append, List.cons_append]
  go_wp2_with (with_reducible refine wpList_box (o := ⟨some 2, .box 82 (.tmp 0), _, _, _, _⟩) ?g1 82 (.tmp 0) ?o1 (.slice A k c) [.slice A k c] ?x1 ?c1 ?_)
  try (case g1 => rfl)
  try (case o1 => rfl)
  try (case x1 => rfl)
  try (case c1 => rfl)
  intro g2 w2 hg2 hs2 hb2 hB2
  have hle2 : w.heap.size ≤ g2 := Nat.le_of_eq hg2.out.symm
  have hbe : Below w.heap.size w w2 := hb2.mono hle2
  have hownw := own_keep hown (fun g hg => hbe.block g (hvlt g hg).2)
  have hBp2 := hBp.next hbe hBp.lt
  have hBq2 := hBq.next hbe hBq.lt
  have hpl := hBp.lt
  have hql := hBq.lt
  have h2s := hB2.lt
  have h2g : w2.heap.size = g2 + 1 := hs2.out
  have hws : w.heap.size = g2 := hg2.out.symm
  clear hb2 hs2 hg2 hBp hBq hown
  go_wp2
  refine wpIn_wide.1 (range_walkA (n := 5) (gf := 205) (lb := #[.pointer (some ⟨gp, 0, none⟩), .pointer (some ⟨gq, 0, none⟩)]) rfl (enters_of Tryd.func205 (by kernel_rfl) rfl) (encs := encP) (fun _ => rfl) (ApD g2) ?hL (apD_stays h2s) (p.pieces q)
    (fun s W => ApI base g2 k (.slice A k c) xs w2 s W) (fun _ _ _ => False) ?hI ?hIx ⟨⟨_, hB2, by rw [show patCells [] = [] from rfl, List.append_nil]; exact hownw, fun h => by have := (hvlt g2 h).2; omega, .inl rfl⟩, OnlyD.refl _ _⟩ (fun x a W => ∃ g5, a = apAct A k c gp gq g2 g5 x ∧ w2.heap.size + 2 ≤ g5 ∧ Blk W g5 25 x.cells) ?asg ?assign ?body ?iter ?done ?stop)
  case hL =>
    rintro g (h | ⟨v, h, hv⟩)
    · omega
    · rw [blk_inj h hB2] at hv
      have := (hvlt g hv).2; omega
  case hI =>
    rintro s W W' ⟨⟨v', h1, h2, h3, h4⟩, h5⟩ hs hkp
    refine ⟨⟨v', h1.next hkp.below h2s, own_keep h2 (fun g hg => hkp.kept g (.inr ⟨v', h1, hg⟩)), h3, h4⟩, h5.then_below hkp.below⟩
  case hIx => intro _ _ _ _ h; exact h.elim
  case asg =>
    rintro x a W W' ⟨g5, h1, h2, h3⟩ ho
    exact ⟨g5, h1, h2, h3.only ho (by simp; omega)⟩
  case assign =>
    intro l' x W K hsW hK
    have HK := Lib.hid hK
    clear hK
    rw [show encP x = #[.agg x.cells.toArray] from rfl]
    gi_wp2_with (with_reducible refine wpListIn_alloc (o := ⟨some 5, .alloc 25, _, _, _, _⟩) (by with_unfolding_all rfl) 25 (by with_unfolding_all rfl) (.agg (H no ++ H no).toArray) (H no ++ H no) (by exact Tryd.zeroPt) (by with_unfolding_all rfl) ?_)
    intro g5 wa hg5 hsa hba hB5
    rw [cells_zero] at hB5
    have hle5 : W.heap.size ≤ g5 := Nat.le_of_eq hg5.out.symm
    have hba' : Below W.heap.size W wa := hba.mono hle5
    clear hba hsa hg5
    gi_wp2_with (with_reducible refine wpListIn_put (o := ⟨none, .store 25 (.tmp 5) (.tmp 7), _, _, _, _⟩) (by with_unfolding_all rfl) 25 (.tmp 5) (.tmp 7) (by with_unfolding_all rfl) g5 0 (by with_unfolding_all rfl) (.agg x.cells.toArray) (by with_unfolding_all rfl) hB5 x.cells (by with_unfolding_all rfl) (by with_unfolding_all (rw [Pat.cells_length]; exact Tryd.szP)) (by with_unfolding_all (rw [Pat.cells_length, Pat.cells_length]; omega)) (by with_unfolding_all (exact cells_one _)) ?_)
    intro wb hub hB5b
    rw [splice_all _ _ (by rw [Pat.cells_length, Pat.cells_length])] at hB5b
    gi_wp2
    exact HK.out _ _ ⟨g5, rfl, by omega, hB5b⟩ (hba'.trans (hub.below (B := W.heap.size) hle5))
  case iter =>
    intro W1' hb1 hs1
    have hkp : Keeps (ApD g2) w2.heap.size w2 W1' := ⟨hb1, fun g hg => hb1.block g (by
      rcases hg with h | ⟨v, h, hv⟩
      · omega
      · rw [blk_inj h hB2] at hv
        have := (hvlt g hv).2; omega)⟩
    have hst := apD_stays h2s w2 W1' (Nat.le_refl _) hkp
    have hno : ∀ g, g < w2.heap.size → g ≠ g2 → (Value.slice A k c).ownBlock ≠ some g → ¬ ApD g2 W1' g := fun g _ h1 h2 h => by
      rcases (hst g).1 h with h | ⟨v, h, hv⟩
      · exact h1 h
      · rw [blk_inj h hB2] at hv
        exact h2 hv
    refine pieces1_in 4 _ gp gq p q _ W1' HP.out (hBp2.next hb1 hBp2.lt) (hBq2.next hb1 hBq2.lt) (by omega) (by omega) (by omega) (hno gp hBp2.lt (by omega) hvp) (hno gq hBq2.lt (by omega) hvq) (fun g hg => ?_) ((apD_stays h2s).mono hb1.size)
    rcases (hst g).1 hg with h | ⟨v, h, hv⟩
    · omega
    · rw [blk_inj h hB2] at hv
      have := (hvlt g hv).2; omega
  case body =>
    rintro l' pre x a W ⟨g5, rfl, hle5, hB5⟩ ⟨⟨v', hB, hw, hne, hor⟩, ho⟩ hWs hre hpx
    obtain ⟨A', c', rfl, _⟩ := own_shape hw
    have hple : pre.length + 1 ≤ 160 := by
      have h1 := hpx.length_le
      have h2 := pieces_length p q
      rw [List.length_append, List.length_singleton] at h1
      omega
    obtain ⟨m, hm⟩ : ∃ m, Hid (k + pre.length = m) := ⟨_, rfl⟩
    have hm1 : m + 1 ≤ 1000160 := by have := hm.out; omega
    rw [hm.out] at hw hne hor hB
    obtain ⟨Y, hY⟩ : ∃ Y, Hid (xs ++ patCells pre = Y) := ⟨_, rfl⟩
    rw [hY.out] at hw
    have HLT := Lib.hid hw.lt
    have hbW : base ≤ W.heap.size := by omega
    have D2 : Hid (ApD g2 W g2) := by
      have : ApD g2 W g2 := .inl rfl
      exact this
    have DA : Hid (∀ g, (Value.slice A' m c').ownBlock = some g → ApD g2 W g) := by
      have : ∀ g, (Value.slice A' m c').ownBlock = some g → ApD g2 W g := fun g hg => .inr ⟨_, hB, hg⟩
      exact this
    have HOR := Lib.hid hor
    have HNE := Lib.hid hne
    have HO := Lib.hid ho
    clear hor hne ho hre hpx
    have hn25 : g2 ≠ g5 := fun e => by omega
    have HW := hw
    dsimp only [apAct]
    have c2 := hB.cell (k := 0) rfl
    gi_wp2_with (first | (with_reducible refine wpListIn_get (o := ⟨some 9, .load 25 (.tmp 5), _, _, _, _⟩) (by with_unfolding_all rfl) 25 (.tmp 5) (by with_unfolding_all rfl) g5 0 (by with_unfolding_all rfl) hB5 x.cells (cs_all _) _ (by exact Tryd.underlying25) (by with_unfolding_all rfl) (by rw [Pat.cells_length]; exact Tryd.szP) ?_) | (with_reducible refine wpListIn_slicePat (o := ⟨some 10, .buildSlice 82 1 #[(0, .tmp 9)], _, _, _, _⟩) (by with_unfolding_all rfl) (.tmp 9) (by with_unfolding_all rfl) x.cells (by with_unfolding_all rfl) (Pat.cells_length _) ?_))
    intro g10 wc hg10 hbc hB10
    have hoc : OnlyD (ApD g2 W) W wc := OnlyD.of_below hbc
    have hB2c := hB.next hbc hB.lt
    have hwc := own_keep hw (fun g hg => hbc.block g (HLT.out g hg).2)
    have hsc := hoc.size
    have hg10w : W.heap.size ≤ g10 := Nat.le_of_eq hg10.out.symm
    clear hbc c2 hB5
    have HNW := Lib.hid (blk_add hB10)
    have hxl : x.cells.length = 1 * 20 := by rw [Pat.cells_length]
    have HXL := Lib.hid hxl
    have hmx : m + 1 ≤ maxLen := by unfold maxLen; omega
    have HMX := Lib.hid hmx
    have hby : (m + 1) * 160 ≤ 140737488355328 := by omega
    have HBY := Lib.hid hby
    have hbc : base ≤ wc.heap.size := by omega
    have HBC := Lib.hid hbc
    clear hxl hmx hby hbc hB10
    gi_wp2_with (with_reducible refine wpListIn_appendN wc (o := ⟨some 11, .call ⟨.builtin .append, #[.tmp 8, .tmp 10], #[82, 82]⟩, _, _, _, _⟩) (by with_unfolding_all rfl) (.tmp 8) (.tmp 10) 82 (by with_unfolding_all rfl) base 25 i0 (.agg (H no ++ H no).toArray) 20 160 Tryd.underlying82 HI.out HZ0.out HZ1.out HZ2.out HZS.out (by decide) (.slice A' m c') m Y (by with_unfolding_all rfl) hwc ⟨g10, 0, none⟩ 1 1 x.cells (by with_unfolding_all rfl) HXL.out HNW.out (cells_one _) HMX.out HBY.out HBC.out ?_)
    intro v3 wd hown3 hgr hnew
    obtain ⟨A3, c3, rfl, _⟩ := own_shape hown3
    have hod : OnlyD (ApD g2 W) W wd := hoc.trans (OnlyD.of_grown hgr (fun g hg => DA.out g hg))
    have hB2d : Blk wd g2 82 [.slice A' m c'] := hB2c.grown hgr HNE.out
    have HN3 := Lib.hid hnew
    have HW3 := Lib.hid hown3
    clear hgr hwc hB2c hnew hoc hown3
    gi_wp2_with (with_reducible refine wpListIn_put (o := ⟨none, .store 82 (.tmp 2) (.tmp 11), _, _, _, _⟩) (by with_unfolding_all rfl) 82 (.tmp 2) (.tmp 11) (by with_unfolding_all rfl) g2 0 (by with_unfolding_all rfl) (.slice A3 (m + 1) c3) (by with_unfolding_all rfl) hB2d [(.slice A3 (m + 1) c3)] (by with_unfolding_all rfl) (by with_unfolding_all exact Tryd.szLs) (by with_unfolding_all simp) (by with_unfolding_all exact one_cell1 rfl) ?_)
    intro we hue hB2e
    have hB2e' : Blk we g2 82 [.slice A3 (m + 1) c3] := hB2e
    have hoe := hod.trans (OnlyD.of_upd hue D2.out)
    have hlg : g2 < W.heap.size := hB.lt
    have hne3 : (Value.slice A3 (m + 1) c3).ownBlock ≠ some g2 := fun e => by
      rcases HN3.out with h | h
      · exact HNE.out (h ▸ e)
      · have := h g2 e; omega
    have hw3 := own_keep HW3.out (fun g hg => hue.block g (fun e => hne3 (e ▸ hg)))
    have HE := Lib.hid hoe
    have HW3E := Lib.hid hw3
    have HNE3 := Lib.hid hne3
    have HBE := Lib.hid hB2e'
    clear hue hB2e hB2d hod hoe hw3 hne3 hB2e'
    gi_wp2
    refine ⟨⟨HE.out, ?_, ?_⟩, ⟨⟨_, HBE.out, ?_, HNE3.out, ?_⟩, HO.out.join HE.out ?_⟩⟩
    · rintro g (h | ⟨v, h, hv⟩)
      · exact .inl (.inl h)
      · rw [blk_inj h HBE.out] at hv
        rcases HN3.out with e | h2
        · exact .inl (DA.out g (e ▸ hv))
        · exact .inr (Nat.le_trans hsc (h2 g hv))
    · rintro g (h | ⟨v, h, hv⟩)
      · rw [h]; exact HBE.out.lt
      · rw [blk_inj h HBE.out] at hv
        exact (HW3E.out.lt g hv).2
    · rw [List.length_append, List.length_singleton, ← Nat.add_assoc, hm.out, patCells_snoc, ← List.append_assoc, hY.out]
      exact HW3E.out
    · rcases HN3.out with e | h2
      · rcases HOR.out with h | h
        · exact .inl (e.trans h)
        · exact .inr fun g hg => h g (e ▸ hg)
      · exact .inr fun g hg => by have := h2 g hg; omega
    · rintro g (h | ⟨v, h, hv⟩)
      · exact .inl (.inl h)
      · rw [blk_inj h hB] at hv
        rcases HOR.out with e | h2
        · exact .inl (.inr (e ▸ hv))
        · exact .inr (h2 g hv)
  case done =>
    rintro W ⟨⟨v', hB, hw, hne, hor⟩, ho⟩ hs hD hnD
    obtain ⟨A', c', rfl, _⟩ := own_shape hw
    have c2 := hB.cell (k := 0) rfl
    have HW := Lib.hid hw
    have HOR := Lib.hid hor
    have HO := Lib.hid ho
    have HND := Lib.hid hnD
    have HDD := Lib.hid hD
    clear hw hor ho hnD hne hD
    go_wp2
    refine leave_ret HDD.out (results_tmp rfl _ _ _) ⟨_, rfl, ?_, ?_, ?_⟩
    · exact own_keep HW.out (fun g hg => World.putObj_heap_other (fun e => HND.out (.inr ⟨_, hB, e ▸ hg⟩)))
    · have hb2 := HO.out
      refine ⟨hb2.os.trans hbe.os, hb2.tape.trans hbe.tape, hb2.output.trans hbe.output, by rw [World.putObj_size]; have := hb2.size; omega, fun k hk hn => ?_⟩
      rw [World.putObj_heap_other (by omega)]
      exact (hb2.block k (by omega) (fun h => by
        rcases h with h | h
        · omega
        · exact hn h.symm)).trans (hbe.block k hk)
    · rcases HOR.out with h | h
      · exact .inl h
      · exact .inr fun g hg => by have := h g hg; omega
  case stop => intro _ _ _ _ h; exact h.elim
end Go.Proofs.YtkkgfdfjgfigcaaDoor

/-
  Contracts of the walks over slices.Collect and Minus. Conditions: right patterns.
-/
namespace Go.Proofs.YtkkgfdfjgfigcaaDoor
set_option linter.unusedVariables false
set_option linter.unusedSimpArgs false
open Go.RowKit

set_option maxRecDepth 100000 in
set_option maxHeartbeats 1600000 in
theorem collect_any (gp gq : Nat) (p q : Pat) (w : World) (hp : p.ok) (hBp : Blk w gp 25 p.cells) (hBq : Blk w gq 25 q.cells) :
    Calls Tryd.prog 145 #[.func (.func 205) #[] #[.pointer (some ⟨gp, 0, none⟩), .pointer (some ⟨gq, 0, none⟩)]] w fun e w' => ∃ v', e = .returned v' ∧ w'.ownsRow w.heap.size 25 20 v' (p.pieces q).length (patCells (p.pieces q)) ∧ Below w.heap.size w w' := by
  have hc := appendSeq_any w.heap.size 0 0 gp gq none [] p q w hp (Nat.zero_le _) (Nat.le_refl _) (World.ownsRow_nil _ _ _ _) hBp hBq (by simp [Value.ownBlock]) (by simp [Value.ownBlock])
  have HC := Lib.hid hc
  clear hc hBp hBq
  go_enter Tryd.func145, Tryd.ntmps145
  go_wp2_with fail
  (with_reducible refine HC.out.mono ?_)
  rintro e w2 ⟨v', rfl, hown, hg, _⟩
  have hbe : Below w.heap.size w w2 := ⟨hg.os, hg.tape, hg.output, hg.size, fun k hk => hg.block k hk (by simp [Value.ownBlock])⟩
  rw [Nat.zero_add, List.nil_append] at hown
  clear hg
  go_wp2
  go_ret
  exact ⟨v', rfl, hown, hbe⟩
set_option maxRecDepth 100000 in
set_option maxHeartbeats 1600000 in
theorem minus_any (p q : Pat) (w : World) (hp : p.ok) :
    Calls Tryd.prog 79 #[.agg p.cells.toArray, .agg q.cells.toArray] w fun e w' => ∃ v', e = .returned v' ∧ w'.ownsRow w.heap.size 25 20 v' (p.minus q).length (patCells (p.minus q)) ∧ Below w.heap.size w w' := by
  obtain ⟨L, hL⟩ : ∃ L, Hid (p.minus q = L) := ⟨_, rfl⟩
  rw [hL.out]
  have HP := Lib.hid hp
  clear hp
  go_enter Tryd.func79, Tryd.ntmps79
  go_wp2_with (with_reducible refine wpList_box (o := ⟨some 2, .box 25 (.tmp 0), _, _, _, _⟩) ?g1 25 (.tmp 0) ?o1 (.agg p.cells.toArray) p.cells ?x1 ?c1 ?_)
  try (case g1 => rfl)
  try (case o1 => rfl)
  try (case x1 => rfl)
  try (case c1 => rfl)
  intro gp w1 hgp hs1 hb1 hP1
  go_wp2_with (with_reducible refine wpList_box (o := ⟨some 3, .box 25 (.tmp 1), _, _, _, _⟩) ?g2 25 (.tmp 1) ?o2 (.agg q.cells.toArray) q.cells ?x2 ?c2 ?_)
  try (case g2 => rfl)
  try (case o2 => rfl)
  try (case x2 => rfl)
  try (case c2 => rfl)
  intro gq w2 hgq hs2 hb2 hQ2
  have hle : w.heap.size ≤ gp := Nat.le_of_eq hgp.out.symm
  have hab : gp < gq := by have := hgp.out; have := hs1.out; have := hgq.out; omega
  have hP2 := hP1.next hb2 hab
  have hbel := (hb1.mono hle).trans (hb2.mono (by omega))
  clear hgp hs1 hb1 hP1 hgq hs2 hb2
  go_wp2_with fail
  (with_reducible refine (overlap_any p q gp 0 gq 0 _ (blk_range hP2) (blk_range hQ2)).mono ?_)
  rintro e w3 ⟨rfl, n, rfl⟩
  have hP3 := hP2.drewN n
  have hQ3 := hQ2.drewN n
  have hb3 := hbel.trans ((below_drewN w2 n).mono hbel.size)
  clear hP2 hQ2 hbel
  generalize w2.drewN n = w3 at hP3 hQ3 hb3 ⊢
  by_cases ho : p.over q
  · have hLe : Hid (p.pieces q = L) := by
      have : p.pieces q = L := by rw [← hL.out]; unfold Pat.minus; rw [if_pos ho]
      exact this
    rw [decide_eq_true ho]
    clear ho hL
    go_wp2_with (first | (with_reducible refine wpList_get (o := ⟨some 9, .load 25 (.tmp 2), _, _, _, _⟩) (by with_unfolding_all rfl) 25 (.tmp 2) (by with_unfolding_all rfl) gp 0 (by with_unfolding_all rfl) hP3 p.cells (cs_all _) _ (by exact Tryd.underlying25) (by with_unfolding_all rfl) (by rw [Pat.cells_length]; exact Tryd.szP) ?_) | (with_reducible refine wpList_get (o := ⟨some 10, .load 25 (.tmp 3), _, _, _, _⟩) (by with_unfolding_all rfl) 25 (.tmp 3) (by with_unfolding_all rfl) gq 0 (by with_unfolding_all rfl) hQ3 q.cells (cs_all _) _ (by exact Tryd.underlying25) (by with_unfolding_all rfl) (by rw [Pat.cells_length]; exact Tryd.szP) ?_) | fail)
    (with_reducible refine (pieces_any p q _).mono ?_)
    rintro e w4 ⟨ga, gb, rfl, hA, hB, hb4, _, _⟩
    have hb5 := below_join hb3 hb4
    clear hP3 hQ3 hb3 hb4
    go_wp2_with fail
    (with_reducible refine (collect_any ga gb p q _ HP.out hA hB).mono ?_)
    rintro e w5 ⟨v', rfl, hown, hb6⟩
    rw [hLe.out] at hown
    have hb7 := below_join hb5 hb6
    have hs5 := hb5.size
    have HO := Lib.hid (own_mono (base' := w.heap.size) hown (fun g hg => Nat.le_trans hs5 (hown.lt g hg).1))
    clear hown hA hB hb5 hb6
    go_wp2
    go_ret
    exact ⟨v', rfl, HO.out, hb7⟩
  · have hLe : Hid ([p] = L) := by
      have : [p] = L := by rw [← hL.out]; unfold Pat.minus; rw [if_neg ho]
      exact this
    rw [decide_eq_false ho]
    clear ho hL
    go_wp2_with (first | (with_reducible refine wpList_get (o := ⟨some 7, .load 25 (.tmp 2), _, _, _, _⟩) (by with_unfolding_all rfl) 25 (.tmp 2) (by with_unfolding_all rfl) gp 0 (by with_unfolding_all rfl) hP3 p.cells (cs_all _) _ (by exact Tryd.underlying25) (by with_unfolding_all rfl) (by rw [Pat.cells_length]; exact Tryd.szP) ?_) | (with_reducible refine wpList_slicePat (o := ⟨some 8, .buildSlice 82 1 #[(0, .tmp 7)], _, _, _, _⟩) (by with_unfolding_all rfl) (.tmp 7) (by with_unfolding_all rfl) p.cells (by with_unfolding_all rfl) (Pat.cells_length _) ?_))
    intro g4 w4 hg4 hb4 hB4
    have hle4 : w.heap.size ≤ g4 := by rw [hg4.out]; exact hb3.size
    have hb5 := below_join hb3 hb4
    have hown : w4.ownsRow w.heap.size 25 20 (.slice (some ⟨g4, 0, none⟩) 1 1) 1 p.cells := ⟨by rw [Pat.cells_length], .inr ⟨g4, 1, p.cells.toArray, rfl, hle4, hB4, Nat.le_refl _, by decide, by rw [List.size_toArray, Pat.cells_length], by rw [List.toList_toArray, List.take_of_length_le (by rw [Pat.cells_length]; exact Nat.le_refl _)]⟩⟩
    have HO := Lib.hid hown
    clear hown hB4 hb3 hb4 hg4 hP3 hQ3
    go_wp2
    go_ret
    refine ⟨_, rfl, ?_, hb5⟩
    rw [← hLe.out]
    have e : patCells [p] = p.cells := by simp [patCells]
    rw [e]
    exact HO.out
end Go.Proofs.YtkkgfdfjgfigcaaDoor

/-
  Contract of the walk over excess: how many bits only the second pattern fixes. Conditions: the patterns lie there.
-/
namespace Go.Proofs.YtkkgfdfjgfigcaaDoor
set_option linter.unusedVariables false
set_option linter.unusedSimpArgs false
open Go.RowKit

theorem wonly (p q : Pat) (k : Nat) : bits .andNot .i64 (word q.m k : Int) (word p.m k : Int) = (word (p.only q) k : Int) := wandn q.m p.m k
def excN (p q : Pat) : Nat := if p.over q then cnt (p.only q) 0 160 else 0
def ExcRel (p q : Pat) (w : World) (n i : Value) (wr : World) : Prop := ∃ k : Nat, k ≤ 10 ∧ i = .int .i64 k ∧ n = .int .i64 (cnt (p.only q) 0 (16 * k) : Int) ∧ (∀ j, j < 16 * k → p.lap q j = false) ∧ ∃ n, wr = w.drewN n
set_option maxRecDepth 1000000 in
set_option maxHeartbeats 1600000 in
theorem excess_any (p q : Pat) (ga oa gb ob : Nat) (w : World) (hp : w.rangeAt ga oa p.cells) (hq : w.rangeAt gb ob q.cells) :
    Calls Tryd.prog 257 #[.pointer (some ⟨ga, oa, none⟩), .pointer (some ⟨gb, ob, none⟩)] w (Reads (.tuple #[.int .i64 (excN p q : Int), .bool (decide (p.over q))]) w) := by
  have ha : ∀ k, k < 10 → w.cell? ⟨ga, oa + k, none⟩ = some (.int .i64 (word p.m k : Int)) := fun k hk => hp _ _ (cells_m p hk)
  have hab : ∀ k, k < 10 → w.cell? ⟨ga, oa + 10 + k, none⟩ = some (.int .i64 (word p.b k : Int)) := fun k hk => by rw [Nat.add_assoc]; exact hp _ _ (cells_b p hk)
  have hb : ∀ k, k < 10 → w.cell? ⟨gb, ob + k, none⟩ = some (.int .i64 (word q.m k : Int)) := fun k hk => hq _ _ (cells_m q hk)
  have hbb : ∀ k, k < 10 → w.cell? ⟨gb, ob + 10 + k, none⟩ = some (.int .i64 (word q.b k : Int)) := fun k hk => by rw [Nat.add_assoc]; exact hq _ _ (cells_b q hk)
  have HA := Lib.hid ha
  have HAB := Lib.hid hab
  have HB := Lib.hid hb
  have HBB := Lib.hid hbb
  clear ha hab hb hbb hp hq
  go_enter Tryd.func257, Tryd.ntmps257
  go_wp2
  go_loopw [6, 8] (ExcRel p q w) (fun _ i _ => 10 - (intOf i).toNat)
  case atStart => exact ⟨0, by omega, rfl, rfl, fun j hj => absurd hj (by omega), 0, rfl⟩
  case round =>
    obtain ⟨k, hk, rfl, rfl, hz, n, rfl⟩ := hrel
    have HZ := Lib.hid hz
    clear hz
    have hcl := cnt_le (p.only q) 0 (16 * k)
    by_cases hlt : k < 10
    · have c1 := HA.out k hlt
      have c2 := HAB.out k hlt
      have c3 := HB.out k hlt
      have c4 := HBB.out k hlt
      go_wp2
      go_quiet (fail)
      generalize hX : bits BinOp.and IntKind.i64 (bits BinOp.and IntKind.i64 (bits BinOp.xor IntKind.i64 (word p.b k : Int) (word q.b k : Int)) (word p.m k : Int)) (word q.m k : Int) = X
      rw [wxor, wand, wand] at hX
      replace hX : (word (p.lap q) k : Int) = X := hX
      have HX := Lib.hid hX
      clear hX c2 c4
      by_cases h0 : X = 0
      · have h0' : (X != 0) = false := by rw [h0]; rfl
        have hk0 : word (p.lap q) k = 0 := by have := HX.out; omega
        have HK := Lib.hid (word_zero.1 hk0)
        clear h0 hk0
        obtain ⟨x, hx⟩ : ∃ x, Hid (word (p.only q) k = x) := ⟨_, rfl⟩
        obtain ⟨c0, hc0⟩ : ∃ c, Hid (cnt (p.only q) 0 (16 * k) = c) := ⟨_, rfl⟩
        obtain ⟨cc, hc1⟩ : ∃ c, Hid (cnt (p.only q) (16 * k) 16 = c) := ⟨_, rfl⟩
        have hwl := word_lt (p.only q) k
        have hcw := count_word (p.only q) k
        have hca := cnt_add (p.only q) 0 (16 * k) 16
        have hc2 := cnt_le (p.only q) (16 * k) 16
        have hon := wonly p q k
        rw [Nat.zero_add] at hca
        rw [hc0.out] at hcl hca ⊢
        rw [hc1.out] at hcw hca hc2
        rw [hx.out] at hwl hcw hon
        have HC : CntF (p.only q) k x c0 cc := ⟨hcw, by rw [show 16 * (k + 1) = 16 * k + 16 by omega]; exact hca⟩
        clear hcw hca hx hc0 hc1
        have HWL := Lib.hid hwl
        obtain ⟨wa, hwa⟩ : ∃ n, word p.m k = n := ⟨_, rfl⟩
        obtain ⟨wb, hwb⟩ : ∃ n, word q.m k = n := ⟨_, rfl⟩
        rw [hwa] at c1 hon
        rw [hwb] at c3 hon
        have hcv := cv16 x hwl
        have k1 : c0 ≤ 160 := by omega
        clear hwl hwa hwb hcl
        go_wp2
        refine wp_region_held_drew (S := fun w' => w'.cell? ⟨ga, oa + k, none⟩ = some (.int .i64 (wa : Int)) ∧ w'.cell? ⟨gb, ob + k, none⟩ = some (.int .i64 (wb : Int))) (by kernel_rfl) ⟨c1, c3⟩ (fun hHeld => ?_)
        refine wpAnyH_take (i := 0) (v := ?vv0) rfl (by kernel_rfl) (by kernel_rfl) (by kernel_rfl) (fun _ _ _ h => h) (Or.inl ⟨by rfl, ?yv0⟩) (by assumption) ?rv0
        case yv0 => intro w hSw; (try dsimp only at hSw); go_simp <;> (try with_reducible rfl)
        (try simp only [List.getElem_toArray, List.getElem_cons_zero, Act.put, List.setIfInBounds_toArray, List.set_cons_zero, List.set_cons_succ])
        refine wpAnyH_take (i := 1) (v := ?vv1) rfl (by kernel_rfl) (by kernel_rfl) (by kernel_rfl) (fun _ _ _ h => h) (Or.inl ⟨by rfl, ?yv1⟩) (by assumption) ?rv1
        case yv1 => intro w hSw; (try dsimp only at hSw); go_simp <;> (try with_reducible rfl)
        (try simp only [List.getElem_toArray, List.getElem_cons_succ, List.getElem_cons_zero, Act.put, List.setIfInBounds_toArray, List.set_cons_zero, List.set_cons_succ])
        refine wpAnyH_take (i := 2) (v := ?vv2) rfl (by kernel_rfl) (by kernel_rfl) (by kernel_rfl) (fun _ _ _ h => h) (Or.inl ⟨by rfl, ?yv2⟩) (by assumption) ?rv2
        case yv2 => intro w hSw; (try dsimp only at hSw); go_simp <;> (try with_reducible rfl)
        (try simp only [List.getElem_toArray, List.getElem_cons_succ, List.getElem_cons_zero, Act.put, List.setIfInBounds_toArray, List.set_cons_zero, List.set_cons_succ])
        refine wpAnyH_take (i := 3) (v := ?vv3) rfl (by kernel_rfl) (by kernel_rfl) (by kernel_rfl) (fun _ _ _ h => h) (Or.inl ⟨by rfl, ?yv3⟩) (by assumption) ?rv3
        case yv3 => intro w hSw; (try dsimp only at hSw); go_simp <;> (try with_reducible rfl)
        (try simp only [List.getElem_toArray, List.getElem_cons_succ, List.getElem_cons_zero, Act.put, List.setIfInBounds_toArray, List.set_cons_zero, List.set_cons_succ])
        refine wpAnyH_take (i := 4) (v := ?vv4) rfl (by kernel_rfl) (by kernel_rfl) (by kernel_rfl) (fun _ _ _ h => h) (Or.inl ⟨by rfl, ?yv4⟩) (by assumption) ?rv4
        case yv4 => intro w hSw; (try dsimp only at hSw); go_simp <;> (try with_reducible rfl)
        (try simp only [List.getElem_toArray, List.getElem_cons_succ, List.getElem_cons_zero, Act.put, List.setIfInBounds_toArray, List.set_cons_zero, List.set_cons_succ])
        refine wpAnyH_take (i := 5) (v := ?vv5) rfl (by kernel_rfl) (by kernel_rfl) (by kernel_rfl) (fun _ _ _ h => h) (Or.inl ⟨by rfl, ?yv5⟩) (by assumption) ?rv5
        case yv5 => intro w hSw; (try dsimp only at hSw); go_simp <;> (try with_reducible rfl)
        (try simp only [List.getElem_toArray, List.getElem_cons_succ, List.getElem_cons_zero, Act.put, List.setIfInBounds_toArray, List.set_cons_zero, List.set_cons_succ])
        refine wpAnyH_take (i := 6) (v := ?vv6) rfl (by kernel_rfl) (by kernel_rfl) (by kernel_rfl) (fun _ _ _ h => h) (Or.inl ⟨by rfl, ?yv6⟩) (by assumption) ?rv6
        case yv6 => intro w hSw; (try dsimp only at hSw); go_simp <;> (try with_reducible rfl)
        (try simp only [List.getElem_toArray, List.getElem_cons_succ, List.getElem_cons_zero, Act.put, List.setIfInBounds_toArray, List.set_cons_zero, List.set_cons_succ])
        refine wpAnyH_take (i := 7) (v := ?vv7) rfl (by kernel_rfl) (by kernel_rfl) (by kernel_rfl) (fun _ _ _ h => h) (Or.inl ⟨by rfl, ?yv7⟩) (by assumption) ?rv7
        case yv7 => intro w hSw; (try dsimp only at hSw); go_simp <;> (try with_reducible rfl)
        (try simp only [List.getElem_toArray, List.getElem_cons_succ, List.getElem_cons_zero, Act.put, List.setIfInBounds_toArray, List.set_cons_zero, List.set_cons_succ])
        refine wpAnyH_take (i := 8) (v := ?vv8) rfl (by kernel_rfl) (by kernel_rfl) (by kernel_rfl) (fun _ _ _ h => h) (Or.inl ⟨by rfl, ?yv8⟩) (by assumption) ?rv8
        case yv8 => intro w hSw; (try dsimp only at hSw); go_simp <;> (try with_reducible rfl)
        (try simp only [List.getElem_toArray, List.getElem_cons_succ, List.getElem_cons_zero, Act.put, List.setIfInBounds_toArray, List.set_cons_zero, List.set_cons_succ])
        refine wpAnyH_take (i := 9) (v := ?vv9) rfl (by kernel_rfl) (by kernel_rfl) (by kernel_rfl) (fun _ _ _ h => h) (Or.inl ⟨by rfl, ?yv9⟩) (by assumption) ?rv9
        case yv9 => intro w hSw; (try dsimp only at hSw); go_simp <;> (try with_reducible rfl)
        (try simp only [List.getElem_toArray, List.getElem_cons_succ, List.getElem_cons_zero, Act.put, List.setIfInBounds_toArray, List.set_cons_zero, List.set_cons_succ])
        refine wpAnyH_take (i := 10) (v := ?vv10) rfl (by kernel_rfl) (by kernel_rfl) (by kernel_rfl) (fun _ _ _ h => h) (Or.inl ⟨by rfl, ?yv10⟩) (by assumption) ?rv10
        case yv10 => intro w hSw; (try dsimp only at hSw); go_simp <;> (try with_reducible rfl)
        (try simp only [List.getElem_toArray, List.getElem_cons_succ, List.getElem_cons_zero, Act.put, List.setIfInBounds_toArray, List.set_cons_zero, List.set_cons_succ])
        refine wpAnyH_take (i := 11) (v := ?vv11) rfl (by kernel_rfl) (by kernel_rfl) (by kernel_rfl) (fun _ _ _ h => h) (Or.inl ⟨by rfl, ?yv11⟩) (by assumption) ?rv11
        case yv11 => intro w hSw; (try dsimp only at hSw); go_simp <;> (try with_reducible rfl)
        (try simp only [List.getElem_toArray, List.getElem_cons_succ, List.getElem_cons_zero, Act.put, List.setIfInBounds_toArray, List.set_cons_zero, List.set_cons_succ])
        refine wpAnyH_take (i := 12) (v := ?vv12) rfl (by kernel_rfl) (by kernel_rfl) (by kernel_rfl) (fun _ _ _ h => h) (Or.inl ⟨by rfl, ?yv12⟩) (by assumption) ?rv12
        case yv12 => intro w hSw; (try dsimp only at hSw); go_simp <;> (try with_reducible rfl)
        (try simp only [List.getElem_toArray, List.getElem_cons_succ, List.getElem_cons_zero, Act.put, List.setIfInBounds_toArray, List.set_cons_zero, List.set_cons_succ])
        refine wpAnyH_take (i := 13) (v := ?vv13) rfl (by kernel_rfl) (by kernel_rfl) (by kernel_rfl) (fun _ _ _ h => h) (Or.inl ⟨by rfl, ?yv13⟩) (by assumption) ?rv13
        case yv13 => intro w hSw; (try dsimp only at hSw); go_simp <;> (try with_reducible rfl)
        (try simp only [List.getElem_toArray, List.getElem_cons_succ, List.getElem_cons_zero, Act.put, List.setIfInBounds_toArray, List.set_cons_zero, List.set_cons_succ])
        refine wpAnyH_take (i := 14) (v := ?vv14) rfl (by kernel_rfl) (by kernel_rfl) (by kernel_rfl) (fun _ _ _ h => h) (Or.inl ⟨by rfl, ?yv14⟩) (by assumption) ?rv14
        case yv14 => intro w hSw; (try dsimp only at hSw); go_simp <;> (try with_reducible rfl)
        (try simp only [List.getElem_toArray, List.getElem_cons_succ, List.getElem_cons_zero, Act.put, List.setIfInBounds_toArray, List.set_cons_zero, List.set_cons_succ])
        refine wpAnyH_ready (rs := [15]) (by kernel_rfl) (by simp) ?_
        refine AllReadyH.cons rfl (fun K hK => ?_) AllReadyH.nil
        go_simp
        go_wp2_with fail
        (with_reducible refine (ones16_any x _ HWL.out).mono ?_)
        rintro e w2 ⟨rfl, m, rfl⟩
        rw [HC.one]
        refine hK.out _ _ ⟨c1, c3⟩ (fun hHeld => ?_)
        clear hK K
        have k2 := hc2
        have hwr : IntKind.i64.wrap ((c0 : Int) + (cc : Int)) = (c0 : Int) + (cc : Int) := by simp only [IntKind.wrap_i64]; omega
        refine wpAnyH_take (i := 16) (v := ?vv16) rfl (by kernel_rfl) (by kernel_rfl) (by kernel_rfl) (fun _ _ _ h => h) (Or.inl ⟨by rfl, ?yv16⟩) (by assumption) ?rv16
        case yv16 => intro w hSw; (try dsimp only at hSw); go_simp <;> (try with_reducible rfl)
        (try simp only [List.getElem_toArray, List.getElem_cons_succ, List.getElem_cons_zero, Act.put, List.setIfInBounds_toArray, List.set_cons_zero, List.set_cons_succ])
        refine wpAnyH_take (i := 17) (v := ?vv17) rfl (by kernel_rfl) (by kernel_rfl) (by kernel_rfl) (fun _ _ _ h => h) (Or.inl ⟨by rfl, ?yv17⟩) (by assumption) ?rv17
        case yv17 => intro w hSw; (try dsimp only at hSw); go_simp <;> (try with_reducible rfl)
        (try simp only [List.getElem_toArray, List.getElem_cons_succ, List.getElem_cons_zero, Act.put, List.setIfInBounds_toArray, List.set_cons_zero, List.set_cons_succ])
        refine wpAnyH_done (by kernel_rfl) ?_ _
        go_wp2
        go_roundw
        case rel => exact ⟨k + 1, by omega, by go_num, by rw [HC.all]; go_num, fun j hj => by
          by_cases h : j < 16 * k
          · exact HZ.out j h
          · exact HK.out j (by omega), _, rfl⟩
        case measure => simp [intOf]; omega
      · have h0' : (X != 0) = true := bne_iff_ne.2 h0
        have hno : ¬ p.over q := fun h => h0 (by
          rw [← HX.out, word_zero.2 fun i hi => h i (by omega)]; rfl)
        have HV : Hid (excN p q = 0) := by
          have : excN p q = 0 := by unfold excN; rw [if_neg hno]
          exact this
        clear h0
        go_wp2
        go_ret2
        exact ⟨(by rw [HV.out, decide_eq_false hno]; rfl), _, World.drewN_drewN w n nq⟩
    · obtain rfl : k = 10 := by omega
      have hyes : p.over q := fun i hi => HZ.out i (by omega)
      have HV : Hid (excN p q = cnt (p.only q) 0 (16 * 10)) := by
        have : excN p q = cnt (p.only q) 0 (16 * 10) := by unfold excN; rw [if_pos hyes]
        exact this
      go_wp2
      go_ret2
      exact ⟨(by rw [HV.out, decide_eq_true hyes]; rfl), _, rfl⟩
end Go.Proofs.YtkkgfdfjgfigcaaDoor

/-
  Contract of the walk over overlapping: the elements among some that overlap a pattern are put behind a row of numbers. Conditions: the rows lie there, apart from what is written.
-/
namespace Go.Proofs.YtkkgfdfjgfigcaaDoor
set_option linter.unusedVariables false
set_option linter.unusedSimpArgs false
open Go.RowKit

/-- 'append' to a row: where the new one lies, and that the old one's cells stay. -/
theorem run_append_low {P : Program} (w : World) (base : Nat) (t ty e : TypeId) (i : TypeInfo) (z : Value) (size bytes : Nat) (ht : P.underlying t = some (.slice e)) (hi : P.info? e = some i) (hz : i.zero = some z)
    (hsize : i.size = size) (hby : i.bytes = bytes) (hzs : z.cells.size = size) (hsz : 0 < size) (v : Value) (n : Nat) (xs : List Value) (hown : w.ownsRow base e size v n xs)
    (a : Addr) (m c : Nat) (news : List Value) (hl : news.length = m * size) (hnews : ∀ j u, news[j]? = some u → w.cell? (a.add j) = some u) (h1 : ∀ u ∈ news, u.oneCell' = true)
    (h63 : n + m ≤ maxLen) (hbytes : (n + m) * bytes ≤ 140737488355328) (hbase : base ≤ w.heap.size) :
    ∃ v' w', (Builtin.append_ #[t, t] ty #[v, .slice (some a) m c]).run P w = .ok v' w' ∧ w'.ownsRow base e size v' (n + m) (xs ++ news) ∧ w.grownBy w' v.ownBlock ∧ (v'.ownBlock = v.ownBlock ∨ ∀ g, v'.ownBlock = some g → w.heap.size ≤ g) ∧
      ∀ g, v.ownBlock = some g → ∀ j u, xs[j]? = some u → w'.cell? ⟨g, j, none⟩ = some u := by
  obtain ⟨v', w', hr, ho, hg, hn⟩ := run_append_new (P := P) w base t ty e i z size bytes ht hi hz hsize hby hzs hsz v n xs hown a m c news hl hnews h1 h63 hbytes hbase
  refine ⟨v', w', hr, ho, hg, hn, ?_⟩
  rcases hown.2 with ⟨rfl, rfl⟩ | ⟨g, cap, cur, rfl, hbg, hgc, hnc, hcm, hcs, htake⟩
  · intro g hg; cases hg
  · intro g' hg' j u hu
    have hgg : g = g' := by simpa [Value.ownBlock] using hg'
    subst hgg
    by_cases hroom : n + m ≤ cap
    · obtain ⟨w2, hr2, ho2, _⟩ := run_append_fits (P := P) w base t ty e i size ht hi hsize g n cap xs hown a m c news hl hnews h1 hroom
      rw [hr] at hr2
      injection hr2 with e1 e2
      subst e2
      have := ho2.cells (g := g) rfl j u (by rw [List.getElem?_append_left (List.getElem?_eq_some_iff.1 hu).1]; exact hu)
      rwa [addr_mid, Nat.zero_add] at this
    · have holds : ∀ j u, xs[j]? = some u → w.cell? ((⟨g, 0, none⟩ : Addr).add j) = some u := hown.cells (g := g) rfl
      have hr2 := run_append_grow (P := P) w t ty e i z ht hi hz ⟨g, 0, none⟩ n cap xs (by rw [hsize]; exact hown.1) holds a m c news (by rw [hsize]; exact hl) hnews (by omega) (by simp only [maxLen] at h63; omega) (growslice_fits (by omega) (by rw [hby]; exact hbytes))
      rw [hr] at hr2
      injection hr2 with e1 e2
      subst e2
      have h2 := holds j u hu
      rw [addr_mid, Nat.zero_add] at h2
      have hlt := (Array.getElem?_eq_some_iff.1 hgc).1
      rw [World.cell?_alloc_lt _ _ _ (by simpa using hlt), World.cell?_drew]
      exact h2
theorem wpList_appendL {P : Program} (w : World) {ops : Array Oper} {rest : List Oper} {o : Oper} {a : Act} {Q : Exit → Act → World → Prop} (hgd : o.guard = none) (s x : Operand) (t : TypeId)
    (ho : o.op = .call { callee := .builtin .append, args := #[s, x], argTypes := #[t, t] })
    (base : Nat) (e : TypeId) (i : TypeInfo) (z : Value) (size bytes : Nat) (ht : P.underlying t = some (.slice e)) (hi : P.info? e = some i) (hz : i.zero = some z)
    (hsize : i.size = size) (hby : i.bytes = bytes) (hzs : z.cells.size = size) (hsz : 0 < size)
    (v : Value) (n : Nat) (xs : List Value) (hs : a.eval s = v) (hown : w.ownsRow base e size v n xs)
    (ad : Addr) (m c : Nat) (news : List Value) (hx : a.eval x = .slice (some ad) m c) (hl : news.length = m * size) (hnews : ∀ j u, news[j]? = some u → w.cell? (ad.add j) = some u) (h1 : ∀ u ∈ news, u.oneCell' = true)
    (h63 : n + m ≤ maxLen) (hbytes : (n + m) * bytes ≤ 140737488355328) (hbase : base ≤ w.heap.size)
    (h : ∀ v' w', w'.ownsRow base e size v' (n + m) (xs ++ news) → w.grownBy w' v.ownBlock → (v'.ownBlock = v.ownBlock ∨ ∀ g, v'.ownBlock = some g → w.heap.size ≤ g) → (∀ g, v.ownBlock = some g → ∀ j u, xs[j]? = some u → w'.cell? ⟨g, j, none⟩ = some u) → wpList P ops Q rest (a.put o.dst v') w') : wpList P ops Q (o :: rest) a w := by
  refine wpList_plain hgd fun K hK' => ?_
  obtain ⟨v', w', hrun, r1, r2, r3, r4⟩ := run_append_low (P := P) w base t o.type e i z size bytes ht hi hz hsize hby hzs hsz v n xs hown ad m c news hl hnews h1 h63 hbytes hbase
  unfold Oper.wp
  simp [execOp, ho, resolve, invoke, builtin, hs, hx, hrun, Result.andThen]
  exact hK' _ _ (h v' w' r1 r2 r3 r4)
theorem run_sliceI (W : World) (i : Int) : (Instr.buildSlice 138 1 #[(0, .int .i64 i)]).run Tryd.prog W = .ok (.slice (some ⟨W.heap.size, 0, none⟩) 1 1) (W.alloc (.cells #[.int .i64 i] 3)) := by kernel_rfl
theorem wpList_sliceI {ops : Array Oper} {rest : List Oper} {o : Oper} {a : Act} {W : World} {Q : Exit → Act → World → Prop} (hgd : o.guard = none) (x : Operand) (ho : o.op = .buildSlice 138 1 #[(0, x)])
    (i : Int) (hx : a.eval x = .int .i64 i)
    (h : ∀ g w', Hid (g = W.heap.size) → Below W.heap.size W w' → Blk w' g 3 [.int .i64 i] → wpList Tryd.prog ops Q rest (a.put o.dst (.slice (some ⟨g, 0, none⟩) 1 1)) w') : wpList Tryd.prog ops Q (o :: rest) a W := by
  refine wpList_plain hgd fun K hK => ?_
  have hrun := run_sliceI W i
  unfold Oper.wp execOp
  simp only [ho, List.map_toArray, List.map_cons, List.map_nil, hx, Sem.run_bind, Sem.run_pure, Result.andThen_ok, hrun]
  exact hK _ _ (h _ _ rfl (below_new W _) (blk_new W _ _))
/-- Only a row's block has turned, from its n-th cell on, and there are new blocks. -/
structure Fr (bn : Option Nat) (n : Nat) (w w' : World) : Prop where
  only : OnlyD (fun g => bn = some g) w w'
  low : ∀ g, bn = some g → ∀ j u, j < n → w.cell? ⟨g, j, none⟩ = some u → w'.cell? ⟨g, j, none⟩ = some u
theorem Fr.refl (bn : Option Nat) (n : Nat) (w : World) : Fr bn n w w := ⟨OnlyD.refl _ _, fun _ _ _ _ _ h => h⟩
theorem Fr.cell {bn : Option Nat} {n : Nat} {w w' : World} (h : Fr bn n w w') {g k : Nat} {u : Value} (hc : w.cell? ⟨g, k, none⟩ = some u) (hs : bn = some g → k < n) : w'.cell? ⟨g, k, none⟩ = some u := by
  by_cases e : bn = some g
  · exact h.low g e k u (hs e) hc
  · have hlt : g < w.heap.size := World.block_lt_of_cell? w _ hc
    rw [World.cell?_of_block (a := ⟨g, k, none⟩) (h.only.block g hlt e)]; exact hc
theorem Fr.below {bn : Option Nat} {n : Nat} {w x y : World} (h : Fr bn n w x) (hb : Below x.heap.size x y) : Fr bn n w y :=
  ⟨h.only.trans (OnlyD.of_below hb), fun g e j u hj hc => by
    have := h.low g e j u hj hc
    rw [hb.cell (World.block_lt_of_cell? x _ this)]; exact this⟩
/-- One more append. -/
theorem Fr.step {bn b' : Option Nat} {n m : Nat} {w x y : World} {xs : List Value} (h : Fr bn n w x) (hg : x.grownBy y b') (hnm : n ≤ m) (hxs : ∀ g, b' = some g → ∀ j, j < m → ∃ u, xs[j]? = some u ∧ x.cell? ⟨g, j, none⟩ = some u) (hl : ∀ g, b' = some g → ∀ j u, xs[j]? = some u → y.cell? ⟨g, j, none⟩ = some u)
    (hb : b' = bn ∨ ∀ g, b' = some g → w.heap.size ≤ g) (hw : ∀ g, bn = some g → g < w.heap.size) : Fr bn n w y :=
  ⟨h.only.join (OnlyD.of_grown (D := fun g => b' = some g) hg (fun _ e => e)) (fun g e => by
    rcases hb with hb | hb
    · exact .inl (hb ▸ e)
    · exact .inr (hb g e)), fun g e j u hj hc => by
    have h1 := h.low g e j u hj hc
    by_cases hbg : b' = some g
    · obtain ⟨u', hu', hc'⟩ := hxs g hbg j (Nat.lt_of_lt_of_le hj hnm)
      rw [h1] at hc'
      cases hc'
      exact hl g hbg j u hu'
    · have hlt : g < x.heap.size := World.block_lt_of_cell? x _ h1
      rw [World.cell?_of_block (a := ⟨g, j, none⟩) (hg.block g hlt (fun e => hbg e.symm))]; exact h1⟩
/-- Numbers that lie apart from what an append to a row of n elements writes. -/
def SafeAt (w : World) (A : Option Addr) (K : List Nat) (bn : Option Nat) (n : Nat) : Prop := ∀ (j k : Nat), K[j]? = some k → ∃ g o, A = some ⟨g, o, none⟩ ∧ w.cell? ⟨g, o + j, none⟩ = some (.int .i64 (k : Int)) ∧ (bn = some g → o + j < n)
theorem SafeAt.fr {w w' : World} {A : Option Addr} {K : List Nat} {bn : Option Nat} {n : Nat} (h : SafeAt w A K bn n) (hf : Fr bn n w w') : SafeAt w' A K bn n := fun j k hj => by
  obtain ⟨g, o, e, hc, hs⟩ := h j k hj
  exact ⟨g, o, e, hf.cell hc hs, hs⟩
theorem PatsAt.fr {w w' : World} {A : Option Addr} {l : List Pat} {bn : Option Nat} {n : Nat} (h : PatsAt w A l) (hf : Fr bn n w w') (hs : ∀ g o, A = some ⟨g, o, none⟩ → bn ≠ some g) : PatsAt w' A l := fun k p hp => by
  obtain ⟨g, o, e, hc⟩ := h k p hp
  exact ⟨g, o, e, fun q u hu => hf.cell (hc q u hu) (fun e' => absurd e' (hs g o e))⟩
theorem range_fr {w w' : World} {g o : Nat} {l : List Value} {bn : Option Nat} {n : Nat} (h : w.rangeAt g o l) (hf : Fr bn n w w') (hs : bn ≠ some g) : w'.rangeAt g o l := fun q u hu => hf.cell (h q u hu) (fun e' => absurd e' hs)
end Go.Proofs.YtkkgfdfjgfigcaaDoor
