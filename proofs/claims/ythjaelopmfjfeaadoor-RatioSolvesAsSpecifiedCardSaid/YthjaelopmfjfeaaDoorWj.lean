/-
  What the walk over eliminate needs: a row of one int, append of it, what a slice that is owned keeps. Conditions: none.
-/
import Derived.Test.YthjaelopmfjfeaaDoorWi
import Derived.Laws.AppendOwn
namespace Go.Proofs.YthjaelopmfjfeaaDoor
set_option linter.unusedVariables false
set_option linter.unusedSimpArgs false
open Go.RowKit Go.Shelf

theorem run_rowI (w : World) (n : Int) : (Instr.buildSlice 68 1 #[(0, .int .i64 n)]).run Tryd.prog w = .ok (.slice (some ⟨w.heap.size, 0, none⟩) 1 1) (w.alloc (.cells [Value.int .i64 n].toArray 3)) := by kernel_rfl
theorem wpList_rowI {ops : Array Oper} {rest : List Oper} {o : Oper} {a : Act} {w : World} {Q : Exit → Act → World → Prop} (hgd : o.guard = none) (x : Operand) (ho : o.op = .buildSlice 68 1 #[(0, x)]) (n : Int) (hx : a.eval x = .int .i64 n)
    (h : ∀ g w', Hid (g = w.heap.size) → Below w.heap.size w w' → Blk w' g 3 [Value.int .i64 n] → wpList Tryd.prog ops Q rest (a.put o.dst (.slice (some ⟨g, 0, none⟩) 1 1)) w') : wpList Tryd.prog ops Q (o :: rest) a w := by
  refine wpList_plain hgd fun K hK => ?_
  have hr := run_rowI w n
  unfold Oper.wp execOp
  simp only [ho, List.map_toArray, List.map_cons, List.map_nil, hx, Sem.run_bind, Sem.run_pure, Result.andThen_ok, hr]
  exact hK _ _ (h _ _ rfl (below_new w _) (blk_new w _ _))
theorem infoInt : ∃ i, Tryd.prog.info? 3 = some i ∧ i.zero = some (.int .i64 0) ∧ i.size = 1 ∧ i.bytes = 8 := by
  have h : (Tryd.prog.info? 3).map (fun i => (i.zero, i.size, i.bytes)) = some (some (.int .i64 0), 1, 8) := by kernel_rfl
  cases hq : Tryd.prog.info? 3 with
  | none => simp [hq] at h
  | some i =>
    simp [hq] at h
    exact ⟨i, rfl, h.1, h.2.1, h.2.2⟩
/-- append of one int. -/
theorem wpList_appI {ops : Array Oper} {rest : List Oper} {o : Oper} {a : Act} {w : World} {Q : Exit → Act → World → Prop} (hgd : o.guard = none) (s x : Operand)
    (ho : o.op = .call { callee := .builtin .append, args := #[s, x], argTypes := #[68, 68] }) (base : Nat) (v : Value) (n : Nat) (xs : List Value) (hs : a.eval s = v) (hown : w.ownsRow base 3 1 v n xs)
    (g : Nat) (u : Value) (hx : a.eval x = .slice (some ⟨g, 0, none⟩) 1 1) (hg : Blk w g 3 [u]) (h1 : u.oneCell' = true) (hn : n ≤ 1000) (hbase : base ≤ w.heap.size)
    (h : ∀ v' w', w'.ownsRow base 3 1 v' (n + 1) (xs ++ [u]) → w.grownBy w' v.ownBlock → wpList Tryd.prog ops Q rest (a.put o.dst v') w') : wpList Tryd.prog ops Q (o :: rest) a w := by
  refine wpList_plain hgd fun K hK => ?_
  obtain ⟨i, i1, i2, i3, i4⟩ := infoInt
  obtain ⟨v', w', hr, r1, r2, _⟩ := run_append_own (P := Tryd.prog) w base 68 o.type 3 i _ 1 8 Tryd.underlying68 i1 i2 i3 i4 rfl (by decide) v n xs hown ⟨g, 0, none⟩ 1 1 [u] rfl (fun j y hy => by
    rw [addr_mid, Nat.zero_add]
    exact hg.cell hy) (one_cell1 h1) (by show n + 1 ≤ maxLen; unfold maxLen; omega) (by omega) hbase
  unfold Oper.wp
  simp [execOp, ho, resolve, invoke, builtin, hs, hx, hr, Result.andThen]
  exact hK _ _ (h v' w' r1 r2)
theorem below_grown {T : Nat} {w w' : World} {row : Option Nat} (h : w.grownBy w' row) (hr : ∀ g, row = some g → T ≤ g) (hT : T ≤ w.heap.size) : Below T w w' :=
  ⟨h.os, h.tape, h.output, h.size, fun k hk => h.block k (Nat.lt_of_lt_of_le hk hT) (fun e => by have := hr k e.symm; omega)⟩
theorem own_base {w : World} {base n size : Nat} {e : TypeId} {v : Value} {xs : List Value} (h : w.ownsRow base e size v n xs) : ∀ g, v.ownBlock = some g → base ≤ g ∧ g < w.heap.size := fun g hg => by
  obtain ⟨A, c, rfl, hA⟩ := own_shape h
  rcases hA with ⟨rfl, _, _⟩ | ⟨q, rfl, h1, h2⟩
  · cases hg
  · injection hg with hg
    subst hg
    exact ⟨h1, h2⟩
theorem own_only {L : List Nat} {T n size : Nat} {w w' : World} {e : TypeId} {v : Value} {xs : List Value} (h : w.ownsRow T e size v n xs) (ho : Only L w w') (hL : ∀ k ∈ L, k < T) : w'.ownsRow T e size v n xs :=
  own_keep h fun g hg => by
    obtain ⟨h1, h2⟩ := own_base h g hg
    exact ho.block g h2 (fun hm => by have := hL g hm; omega)
/-- The load of one cell. -/
theorem wp_ld {o : Oper} {a : Act} {w : World} {K : Act → World → Prop} {Q : Exit → Act → World → Prop} (x : Operand) (ho : o.op = .load 40 x) (g k : Nat) (hx : a.eval x = .pointer (some ⟨g, k, none⟩)) (A : Option Addr) (n c : Nat) (hc : w.cell? ⟨g, k, none⟩ = some (.slice A n c))
    (h : K (a.put o.dst (.slice A n c)) w) : Oper.wp Tryd.prog o a w K Q := by
  have hr : (loadVar 40 ⟨g, k, none⟩).run Tryd.prog w = .ok (.slice A n c) w := by
    have hu := Tryd.underlying40
    have hagg : (isAgg 40).run Tryd.prog w = .ok false w := by
      unfold isAgg
      rw [Sem.run_bind, run_underlying hu w]
      rfl
    simp [loadVar, Sem.run_bind, hagg, hc]
  unfold Oper.wp execOp
  simp only [ho, hx, Instr.loadAt, Instr.sureAddr, Sem.run_bind, Sem.run_pure, Result.andThen_ok, hr]
  exact h
def headsV (hs : List Nat) : List Value := hs.map fun (c : Nat) => Value.int .i64 (c : Int)
/-- The table and the columns that have a row, before a column. -/
def ElRel (B T gr ge N n m : Nat) (C : List (List Rat)) (w0 : World) (h i : Value) (wr : World) : Prop :=
  ∃ (k : Nat) (hs : List Nat) (M : List RowM) (C2 : List (List Rat)), k ≤ n ∧ i = .int .i64 (k : Int) ∧ elimM C k = some (C2, hs) ∧ EL B T gr ge N M C2 wr ∧ M.length = m ∧ hs.length ≤ m ∧
    wr.ownsRow T 3 1 h hs.length (headsV hs) ∧ Below B w0 wr ∧ T ≤ wr.heap.size
def PivRel (C : List (List Rat)) (u c m : Nat) (w0 : World) (i : Value) (wr : World) : Prop :=
  ∃ j : Nat, u ≤ j ∧ j ≤ m ∧ i = .int .i64 (j : Int) ∧ (∀ x, u ≤ x → x < j → at2 C x c = 0) ∧ wr = w0
theorem rest0 {G R : Prop} (h1 : R → G) (h2 : R) : G := h1 h2
theorem splice_set1 {α : Type} (l : List α) (k : Nat) (v : α) (hk : k < l.length) : splice l k [v] = l.set k v := by
  rw [List.set_eq_take_append_cons_drop, if_pos hk]
  unfold splice
  simp
theorem swap_at {α : Type} {L : List α} {u i : Nat} {x y : α} (hx : L[u]? = some x) (hy : L[i]? = some y) : (swapR L u i x y)[u]? = some y := by
  rw [swap_get hx hy]
  by_cases e : u = i
  · subst e
    rw [hx] at hy
    rw [if_pos rfl, hy]
  · rw [if_neg e, if_pos rfl]
theorem swap_len {α : Type} (L : List α) (u i : Nat) (x y : α) : (swapR L u i x y).length = L.length := by unfold swapR; rw [List.length_set, List.length_set]
theorem swap_cells (N : Nat) (M : List RowM) (u i : Nat) (x y : RowM) : (((M.map (rowV N)).set u (rowV N y)).set i (rowV N x)) = (swapR M u i x y).map (rowV N) := by
  unfold swapR
  rw [List.map_set, List.map_set]
theorem mapO_get {α : Type} {F : Nat → α → Option α} : ∀ (l : List α) (k : Nat) (D : List α), mapO F k l = some D → D.length = l.length ∧ ∀ i x, l[i]? = some x → F (k + i) x = D[i]?
  | [], k, D, h => by injection h with h; rw [← h]; exact ⟨rfl, fun i x hx => by cases hx⟩
  | x :: l, k, D, h => by
    unfold mapO at h
    cases hx : F k x with
    | none => rw [hx] at h; cases h
    | some y =>
      rw [hx] at h
      cases ho : mapO F (k + 1) l with
      | none => rw [ho] at h; cases h
      | some z =>
        rw [ho] at h
        injection h with h
        rw [← h]
        obtain ⟨h1, h2⟩ := mapO_get l (k + 1) z ho
        refine ⟨by simp [h1], fun i q hq => ?_⟩
        match i with
        | 0 => injection hq with hq; subst hq; exact hx
        | i + 1 =>
          have e : k + (i + 1) = k + 1 + i := by omega
          rw [e]
          exact h2 i q hq
theorem opTo_size {F : Nat → Rat → Option Rat} : ∀ (l : List Rat) (k : Nat) (r : List Rat), opTo F k l = some r → r.length = l.length
  | [], _, r, h => by injection h with h; rw [← h]
  | x :: l, k, r, h => by
    unfold opTo at h
    cases hx : F k x with
    | none => rw [hx] at h; cases h
    | some y =>
      rw [hx] at h
      cases ho : opTo F (k + 1) l with
      | none => rw [ho] at h; cases h
      | some z =>
        rw [ho] at h
        injection h with h
        rw [← h]
        simp [opTo_size l _ z ho]
/-- The rows below a head, so far. -/
def RowsRel (B T gr ge N m : Nat) (M : List RowM) (C : List (List Rat)) (F : Nat → List Rat → Option (List Rat)) (w0 : World) (h : Value) (u : Nat) (xs : List Value) (e i : Value) (wr : World) : Prop :=
  ∃ j : Nat, j ≤ m ∧ i = .int .i64 (j : Int) ∧ wr.ownsRow T 3 1 h u xs ∧ Below B w0 wr ∧ T ≤ wr.heap.size ∧
    ((∃ D, D.length = j ∧ mapO F 0 (C.take j) = some D ∧ e = .int .i64 0 ∧ EL B T gr ge N M (D ++ C.drop j) wr) ∨ (mapO F 0 C = none ∧ e = .int .i64 17 ∧ EX B T gr ge N M wr))
/-- The same behind an error. -/
def DeadRel (B T gr ge N m : Nat) (M : List RowM) (w0 : World) (e i : Value) (wr : World) : Prop :=
  ∃ j : Nat, j ≤ m ∧ i = .int .i64 (j : Int) ∧ Below B w0 wr ∧ T ≤ wr.heap.size ∧ e = .int .i64 17 ∧ EX B T gr ge N M wr
/-- What a column makes of the table, where there is a row for it. -/
theorem elimM_step {C C2 : List (List Rat)} {hs : List Nat} {k u i : Nat} {x : Rat} {l lu : List Rat} (h : elimM C k = some (C2, hs)) (hu : hs.length = u) (hp : pivot C2 u k = some i) (hx : at2 C2 i k = x) (hl : C2[i]? = some l) (hlu : C2[u]? = some lu) :
    elimM C (k + 1) = (opTo (fun _ y => okQ (y / x)) 0 l).bind fun h => (mapO (rowF u k h) 0 ((swapR C2 u i lu l).set u h)).map fun C3 => (C3, hs ++ [k]) := by
  show (elimM C k).bind (stepE k) = _
  rw [h, Option.bind_some]
  unfold stepE
  dsimp only
  rw [hu, hp]
  dsimp only
  rw [hx, hl, hlu]
  rfl
theorem head_keep {C D : List (List Rat)} {h : List Rat} {u k j : Nat} (hmo : mapO (rowF u k h) 0 (C.take j) = some D) (hD : D.length = j) (hl : C[u]? = some h) : (D ++ C.drop j)[u]? = some h := by
  rcases Nat.lt_or_ge u j with h1 | h1
  · rw [List.getElem?_append_left (by omega)]
    have h2 := (mapO_get _ 0 D hmo).2 u h (by rw [List.getElem?_take, if_pos h1]; exact hl)
    rw [Nat.zero_add] at h2
    rw [← h2]
    exact if_neg (fun h => h.1 rfl)
  · rw [List.getElem?_append_right (by omega), List.getElem?_drop, hD]
    have : j + (u - j) = u := by omega
    rw [this]; exact hl
theorem drop_one {α : Type} {C : List α} {j : Nat} {x : α} (h : C[j]? = some x) : C.drop j = x :: C.drop (j + 1) := by
  obtain ⟨hj, e⟩ := List.getElem?_eq_some_iff.1 h
  rw [← e, List.drop_eq_getElem_cons hj]
theorem mid_get {α : Type} {C D : List α} {j : Nat} {x : α} (hD : D.length = j) (h : C[j]? = some x) : (D ++ C.drop j)[j]? = some x := by
  rw [List.getElem?_append_right (by omega), hD, Nat.sub_self, List.getElem?_drop, Nat.add_zero]; exact h
theorem mid_next {α : Type} {C D : List α} {j : Nat} {x : α} (h : C[j]? = some x) : D ++ C.drop j = D ++ [x] ++ C.drop (j + 1) := by
  rw [drop_one h, List.append_assoc]; rfl
theorem mid_set {α : Type} {C D : List α} {j : Nat} {x y : α} (hD : D.length = j) (h : C[j]? = some x) : (D ++ C.drop j).set j y = D ++ [y] ++ C.drop (j + 1) := by
  rw [drop_one h, List.set_append_right _ _ (by omega), hD, Nat.sub_self, List.append_assoc]; rfl
theorem rowF_skip {u k j : Nat} {h r : List Rat} (e : j = u ∨ (r[k]?).getD 0 = 0) : rowF u k h j r = some r := if_neg fun hn => by
  rcases e with e | e
  · exact hn.1 e
  · exact hn.2 e
theorem rowF_sub {u k j : Nat} {h r : List Rat} {y : Rat} (e : j ≠ u) (hy : r[k]? = some y) (hy0 : y ≠ 0) : rowF u k h j r = opTo (subF y h) 0 r := by
  unfold rowF
  rw [hy]
  exact if_pos ⟨e, hy0⟩
theorem headsV_add (hs : List Nat) (k : Nat) : headsV hs ++ [Value.int .i64 (k : Int)] = headsV (hs ++ [k]) := by unfold headsV; rw [List.map_append]; rfl
end Go.Proofs.YthjaelopmfjfeaaDoor
