/-
  Rows of ratios in memory. Conditions: none.
-/
import Derived.Test.YthjaelopmfjfeaaDoorVf
namespace Go.Proofs.YthjaelopmfjfeaaDoor
set_option linter.unusedVariables false
set_option linter.unusedSimpArgs false
open Go.RowKit

/-- Only the blocks of a list have turned, and there are new ones. -/
structure Only (L : List Nat) (w w' : World) : Prop where
  os : w'.os = w.os
  tape : w'.tape = w.tape
  output : w'.output = w.output
  size : w.heap.size ≤ w'.heap.size
  block : ∀ k, k < w.heap.size → k ∉ L → w'.heap[k]? = w.heap[k]?
theorem Only.refl (L : List Nat) (w : World) : Only L w w := ⟨rfl, rfl, rfl, Nat.le_refl _, fun _ _ _ => rfl⟩
theorem Only.trans {L : List Nat} {a b c : World} (h : Only L a b) (k : Only L b c) : Only L a c :=
  ⟨k.os.trans h.os, k.tape.trans h.tape, k.output.trans h.output, Nat.le_trans h.size k.size, fun i hi hn => (k.block i (Nat.lt_of_lt_of_le hi h.size) hn).trans (h.block i hi hn)⟩
theorem Only.mono {L L' : List Nat} {a b : World} (h : Only L a b) (hs : ∀ k ∈ L, k ∈ L') : Only L' a b := ⟨h.os, h.tape, h.output, h.size, fun i hi hn => h.block i hi (fun hm => hn (hs i hm))⟩
theorem Only.of_below {L : List Nat} {a b : World} (h : Below a.heap.size a b) : Only L a b := ⟨h.os, h.tape, h.output, h.size, fun i hi _ => h.block i hi⟩
theorem Only.of_upd {L : List Nat} {a b : World} {g : Nat} (h : Upd g a b) (hg : g ∈ L) : Only L a b := ⟨h.os, h.tape, h.output, Nat.le_of_eq h.size.symm, fun i _ hn => h.block i (fun e => hn (e ▸ hg))⟩
theorem Only.below {L : List Nat} {B : Nat} {a b : World} (h : Only L a b) (hL : ∀ k ∈ L, B ≤ k) (hB : B ≤ a.heap.size) : Below B a b :=
  ⟨h.os, h.tape, h.output, h.size, fun i hi => h.block i (Nat.lt_of_lt_of_le hi hB) (fun hm => Nat.lt_irrefl _ (Nat.lt_of_lt_of_le hi (hL i hm)))⟩
theorem Blk.only {L : List Nat} {w w' : World} {g : Nat} {t : TypeId} {l : List Value} (h : Blk w g t l) (ho : Only L w w') (hg : g ∉ L) : Blk w' g t l := by unfold Blk; rw [ho.block g h.lt hg]; exact h
theorem Only.add {L : List Nat} {g : Nat} {a b c : World} (h : Only L a b) (k : Only (g :: L) b c) (hg : a.heap.size ≤ g) : Only L a c :=
  ⟨k.os.trans h.os, k.tape.trans h.tape, k.output.trans h.output, Nat.le_trans h.size k.size, fun i hi hn => (k.block i (Nat.lt_of_lt_of_le hi h.size) (fun hm => by
    rcases List.mem_cons.1 hm with e | e
    · omega
    · exact hn e)).trans (h.block i hi hn)⟩
/-- The cells of a row of pairs. -/
def rowR (l : List (Int × Int)) : List Value := l.flatMap fun p => [.int .i64 p.1, .int .i64 p.2]
def prs (l : List Rat) : List (Int × Int) := l.map fun q => (q.num, (q.den : Int))
/-- The cells of a row of ratios. -/
def rowC (l : List Rat) : List Value := rowR (prs l)
theorem rowR_length : ∀ l, (rowR l).length = l.length * 2
  | [] => rfl
  | p :: l => by
    have h := rowR_length l
    have e : rowR (p :: l) = .int .i64 p.1 :: .int .i64 p.2 :: rowR l := rfl
    rw [e, List.length_cons, List.length_cons, List.length_cons, h]; omega
theorem prs_length (l : List Rat) : (prs l).length = l.length := List.length_map _
theorem rowC_length (l : List Rat) : (rowC l).length = l.length * 2 := by unfold rowC; rw [rowR_length, prs_length]
theorem rowR_append (a b : List (Int × Int)) : rowR (a ++ b) = rowR a ++ rowR b := List.flatMap_append
theorem prs_append (a b : List Rat) : prs (a ++ b) = prs a ++ prs b := List.map_append
theorem rowC_append (a b : List Rat) : rowC (a ++ b) = rowC a ++ rowC b := by unfold rowC; rw [prs_append, rowR_append]
theorem rowR_one : ∀ l, ∀ u ∈ rowR l, u.oneCell' = true := fun l u hu => by
  obtain ⟨p, _, h⟩ := List.mem_flatMap.1 hu
  simp at h
  rcases h with rfl | rfl <;> rfl
theorem rowR_split {l : List (Int × Int)} {k : Nat} {p : Int × Int} (h : l[k]? = some p) : rowR l = rowR (l.take k) ++ ([.int .i64 p.1, .int .i64 p.2] ++ rowR (l.drop (k + 1))) ∧ (rowR (l.take k)).length = k * 2 := by
  obtain ⟨hk, e⟩ := List.getElem?_eq_some_iff.1 h
  have h1 : l = l.take k ++ p :: l.drop (k + 1) := by
    rw [← e, ← List.drop_eq_getElem_cons hk, List.take_append_drop]
  refine ⟨?_, by rw [rowR_length, List.length_take]; omega⟩
  have h2 : rowR (p :: l.drop (k + 1)) = [.int .i64 p.1, .int .i64 p.2] ++ rowR (l.drop (k + 1)) := rfl
  rw [← h2, ← rowR_append, ← h1]
theorem rowR_cell {l : List (Int × Int)} {k : Nat} {p : Int × Int} {R : List Value} (h : l[k]? = some p) : (rowR l ++ R)[k * 2]? = some (.int .i64 p.1) ∧ (rowR l ++ R)[k * 2 + 1]? = some (.int .i64 p.2) := by
  obtain ⟨e, hl⟩ := rowR_split h
  rw [e, List.append_assoc]
  refine ⟨?_, ?_⟩
  · rw [List.getElem?_append_right (by omega), hl, Nat.sub_self]; rfl
  · rw [List.getElem?_append_right (by omega), hl]
    have : k * 2 + 1 - k * 2 = 1 := by omega
    rw [this]; rfl
theorem rowR_range {w : World} {g : Nat} {t : TypeId} {l : List (Int × Int)} {R : List Value} (h : Blk w g t (rowR l ++ R)) {k : Nat} {p : Int × Int} (hp : l[k]? = some p) : w.rangeAt g (k * 2) [.int .i64 p.1, .int .i64 p.2] := fun j u hu => by
  obtain ⟨h1, h2⟩ := rowR_cell (R := R) hp
  match j with
  | 0 => simp at hu; subst hu; exact h.cell h1
  | 1 => simp at hu; subst hu; exact h.cell h2
  | j + 2 => simp at hu
theorem rowR_set {l : List (Int × Int)} {k : Nat} {p : Int × Int} {R : List Value} (hk : k < l.length) : splice (rowR l ++ R) (k * 2) [.int .i64 p.1, .int .i64 p.2] = rowR (l.set k p) ++ R := by
  have h1 : l[k]? = some l[k] := List.getElem?_eq_getElem hk
  have h2 : (l.set k p)[k]? = some p := by rw [List.getElem?_set_self hk]
  obtain ⟨e1, l1⟩ := rowR_split h1
  obtain ⟨e2, l2⟩ := rowR_split h2
  have t1 : (l.set k p).take k = l.take k := by rw [List.take_set_of_le (Nat.le_refl k)]
  have t2 : (l.set k p).drop (k + 1) = l.drop (k + 1) := by rw [List.drop_set_of_lt (by omega)]
  rw [t1, t2] at e2
  rw [e1, e2]
  unfold splice
  have hl : (rowR (l.take k) ++ ([Value.int .i64 l[k].1, .int .i64 l[k].2] ++ rowR (l.drop (k + 1))) ++ R).length = k * 2 + (2 + (rowR (l.drop (k + 1))).length) + R.length := by
    rw [List.length_append, List.length_append, List.length_append, l1]; rfl
  have a1 : (rowR (l.take k) ++ ([Value.int .i64 l[k].1, .int .i64 l[k].2] ++ rowR (l.drop (k + 1))) ++ R).take (k * 2) = rowR (l.take k) := by
    rw [List.append_assoc, ← l1, List.take_left]
  have a2 : (rowR (l.take k) ++ ([Value.int .i64 l[k].1, .int .i64 l[k].2] ++ rowR (l.drop (k + 1))) ++ R).drop (k * 2 + [Value.int .i64 p.1, Value.int .i64 p.2].length) = rowR (l.drop (k + 1)) ++ R := by
    rw [List.append_assoc, ← List.drop_drop, ← l1, List.drop_left, List.append_assoc]; rfl
  rw [a1, a2]
  simp only [List.append_assoc]
theorem prs_get {l : List Rat} {k : Nat} {q : Rat} (h : l[k]? = some q) : (prs l)[k]? = some (q.num, (q.den : Int)) := by unfold prs; rw [List.getElem?_map, h]; rfl
theorem prs_set (l : List Rat) (k : Nat) (q : Rat) : (prs l).set k (q.num, (q.den : Int)) = prs (l.set k q) := by unfold prs; rw [List.map_set]
/-- The quotients of a row; none if one is too large. -/
def divRow (d : Rat) : List Rat → Option (List Rat)
  | [] => some []
  | x :: l => if fits (x / d) then (divRow d l).map (x / d :: ·) else none
/-- A row minus a multiple of another one; none if a number on the way is too large. -/
def subRow (t : Rat) : List Rat → List Rat → Option (List Rat)
  | x :: l, o :: r => if fits (t * o) ∧ fits (x - t * o) then (subRow t l r).map ((x - t * o) :: ·) else none
  | _, _ => some []
def opTo (F : Nat → Rat → Option Rat) : Nat → List Rat → Option (List Rat)
  | _, [] => some []
  | k, x :: l => (F k x).bind fun y => (opTo F (k + 1) l).map (y :: ·)
theorem opTo_append (F : Nat → Rat → Option Rat) : ∀ (a b : List Rat) (k : Nat), opTo F k (a ++ b) = (opTo F k a).bind fun x => (opTo F (k + a.length) b).map (x ++ ·)
  | [], b, k => by
    show opTo F k b = (opTo F (k + 0) b).map ([] ++ ·)
    rw [Nat.add_zero]
    cases opTo F k b <;> rfl
  | x :: a, b, k => by
    show (F k x).bind (fun y => (opTo F (k + 1) (a ++ b)).map (y :: ·)) = ((F k x).bind fun y => (opTo F (k + 1) a).map (y :: ·)).bind _
    rw [opTo_append F a b (k + 1)]
    cases F k x with
    | none => rfl
    | some y =>
      have e : k + (x :: a).length = k + 1 + a.length := by rw [List.length_cons]; omega
      rw [e]
      cases opTo F (k + 1) a with
      | none => rfl
      | some z =>
        show ((opTo F (k + 1 + a.length) b).map (z ++ ·)).map (y :: ·) = (opTo F (k + 1 + a.length) b).map ((y :: z) ++ ·)
        cases opTo F (k + 1 + a.length) b <;> rfl
theorem opTo_length (F : Nat → Rat → Option Rat) : ∀ (l : List Rat) (k : Nat) (r : List Rat), opTo F k l = some r → r.length = l.length
  | [], _, r, h => by injection h with h; rw [← h]
  | x :: l, k, r, h => by
    unfold opTo at h
    cases hF : F k x with
    | none => rw [hF] at h; cases h
    | some y =>
      rw [hF] at h
      cases ho : opTo F (k + 1) l with
      | none => rw [ho] at h; cases h
      | some z =>
        rw [ho] at h
        injection h with h
        rw [← h, List.length_cons, List.length_cons, opTo_length F l _ z ho]
/-- A number, if it is not too large. -/
def okQ (q : Rat) : Option Rat := if fits q then some q else none
theorem opTo_div (d : Rat) : ∀ (l : List Rat) (k : Nat), opTo (fun _ x => okQ (x / d)) k l = divRow d l
  | [], _ => rfl
  | x :: l, k => by
    show (okQ (x / d)).bind (fun y => (opTo (fun _ x => okQ (x / d)) (k + 1) l).map (y :: ·)) = _
    rw [opTo_div d l (k + 1)]
    have e : divRow d (x :: l) = if fits (x / d) then (divRow d l).map (x / d :: ·) else none := rfl
    rw [e]
    unfold okQ
    by_cases h : fits (x / d)
    · rw [if_pos h, if_pos h]; rfl
    · rw [if_neg h, if_neg h]; rfl
end Go.Proofs.YthjaelopmfjfeaaDoor
