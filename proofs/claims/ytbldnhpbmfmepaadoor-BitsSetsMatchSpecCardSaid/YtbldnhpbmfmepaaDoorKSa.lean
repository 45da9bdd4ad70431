/-
  Lists of patterns that come in: where they lie, rows made of them by append, what Few says. Conditions: the row's own.
-/
import Derived.Test.YtbldnhpbmfmepaaDoorKLk
import Derived.Test.YtbldnhpbmfmepaaDoorGK
namespace Go.Proofs.YtbldnhpbmfmepaaDoor
set_option linter.unusedVariables false
set_option linter.unusedSimpArgs false
open Go.ChangeShapes Go.WideShapes Go.ChangeAt Go.RowKit

theorem okWide_sliceN {P : Program} {w : World} {r : Reach} {base : Nat} {t e : TypeId} {v : Value} (hu : P.underlying t = some (.slice e)) (h : Value.okWide P w r base t v) : ∃ A len cap, v = .slice A len cap ∧ (A = none → len = 0 ∧ cap = 0) ∧ ∀ g o, A = some ⟨g, o, none⟩ → g < w.heap.size := by
  have h' : Cell.ok P w r base t v := by
    simp only [Value.okWide, hu, Cell.okWide] at h
    exact h
  unfold Cell.ok at h'
  rw [hu] at h'
  cases v with
  | slice A len cap =>
    cases A with
    | none =>
      refine ⟨none, len, cap, rfl, fun _ => ?_, fun g o e => by cases e⟩
      cases len with
      | zero => cases cap with
        | zero => exact ⟨rfl, rfl⟩
        | succ c => exact absurd h' (by simp)
      | succ l => exact absurd h' (by simp)
    | some a =>
      refine ⟨some a, len, cap, rfl, (fun e => by cases e), fun g o e => ?_⟩
      have h2 : len ≤ cap ∧ (cap : Int) ≤ IntKind.i64.max ∧ w.has P r base a _ cap := h'
      obtain ⟨_, _, _, _, row, cells, hs, _⟩ := h2
      injection e with e
      subst e
      have hs' : w.shape? g = some (row, cells) := hs
      unfold World.shape? at hs'
      rcases Nat.lt_or_ge g w.heap.size with hlt | hge
      · exact hlt
      · rw [Array.getElem?_eq_none hge] at hs'
        cases hs'
  | _ => exact absurd h' (by simp)
theorem bool_of (p : Prop) : ∃ b : Bool, b = true ↔ p := by
  by_cases h : p
  · exact ⟨true, fun _ => h, fun _ => rfl⟩
  · exact ⟨false, fun hb => Bool.noConfusion hb, fun hp => absurd hp h⟩
theorem add_add (a : Addr) (m n : Nat) : (a.add m).add n = a.add (m + n) := by
  unfold Addr.add
  by_cases hm : m = 0
  · subst hm; simp
  · by_cases hn : n = 0
    · subst hn; simp [hm]
    · have : ¬ (m + n = 0) := by omega
      simp [hm, hn, this, Nat.add_assoc]
/-- A row of cells lies behind an address, if there are any. -/
def CellsAt (w : World) (A : Option Addr) (ys : List Value) : Prop := ∀ q u, ys[q]? = some u → ∃ ad, A = some ad ∧ w.cell? (ad.add q) = some u
theorem CellsAt.next {w w' : World} {A : Option Addr} {ys : List Value} (h : CellsAt w A ys) (hb : Below w.heap.size w w') : CellsAt w' A ys := fun q u hu => by
  obtain ⟨ad, e, hc⟩ := h q u hu
  exact ⟨ad, e, by rw [hb.cell (World.block_lt_of_cell? w _ hc)]; exact hc⟩
theorem rawRow_length {l : List (List Int × List Int)} (hT : Tens l) : (rawRow l).length = l.length * 20 := by
  induction l with
  | nil => rfl
  | cons a l ih =>
    show (rawCells a ++ rawRow l).length = _
    rw [List.length_append, rawCells_length (hT a (List.mem_cons_self ..)), ih (fun x hx => hT x (List.mem_cons_of_mem _ hx)), List.length_cons]; omega
theorem rawRow_get : ∀ {l : List (List Int × List Int)}, Tens l → ∀ {q : Nat} {u : Value}, (rawRow l)[q]? = some u → ∃ r, l[q / 20]? = some r ∧ (rawCells r)[q % 20]? = some u
  | [], _, q, u, h => by cases h
  | a :: l, hT, q, u, h => by
    have ha := rawCells_length (hT a (List.mem_cons_self ..))
    have h' : (rawCells a ++ rawRow l)[q]? = some u := h
    by_cases hq : q < 20
    · rw [List.getElem?_append_left (by rw [ha]; exact hq)] at h'
      exact ⟨a, by rw [show q / 20 = 0 by omega]; rfl, by rw [show q % 20 = q by omega]; exact h'⟩
    · rw [List.getElem?_append_right (by rw [ha]; omega), ha] at h'
      obtain ⟨r, h1, h2⟩ := rawRow_get (fun x hx => hT x (List.mem_cons_of_mem _ hx)) h'
      refine ⟨r, ?_, by rw [show q % 20 = (q - 20) % 20 by omega]; exact h2⟩
      rw [show q / 20 = (q - 20) / 20 + 1 by omega]
      exact h1
theorem RawAt.cells {w : World} {A : Option Addr} {l : List (List Int × List Int)} (h : RawAt w A l) (hT : Tens l) : CellsAt w A (rawRow l) := fun q u hu => by
  obtain ⟨r, h1, h2⟩ := rawRow_get hT hu
  obtain ⟨ad, e, hc⟩ := h _ r h1
  refine ⟨ad, e, ?_⟩
  have := hc _ u h2
  rw [add_add] at this
  rw [show q = q / 20 * 20 + q % 20 by omega]; exact this
theorem rawRow_pats (l : List Pat) : rawRow (rawOf l) = patCells l := by
  unfold rawRow rawOf patCells
  rw [List.flatMap_map]
  congr 1
theorem PatsAt.cellsAt {w : World} {A : Option Addr} {l : List Pat} (h : PatsAt w A l) : CellsAt w A (patCells l) := by
  rw [← rawRow_pats]
  exact h.raw.cells (rawOf_tens l)
theorem own_raws {w : World} {base : Nat} {l : List (List Int × List Int)} (hT : Tens l) {A : Option Addr} {c n : Nat} (hn : l.length = n) (h : w.ownsRow base 25 20 (.slice A n c) n (rawRow l)) : RawAt w A l := fun k r hr => by
  have hk : k < l.length := (List.getElem?_eq_some_iff.1 hr).1
  obtain ⟨A', c', hv, hsh⟩ := own_shape h
  injection hv with hA _ _
  subst hA
  rcases hsh with ⟨_, _, h0⟩ | ⟨g, rfl, _, _⟩
  · omega
  · refine ⟨⟨g, 0, none⟩, rfl, fun q u hu => ?_⟩
    have hq : q < 20 := by have := (List.getElem?_eq_some_iff.1 hu).1; rw [rawCells_length (hT r (List.mem_of_getElem? hr))] at this; exact this
    have key : ∀ (l : List (List Int × List Int)), Tens l → ∀ k, l[k]? = some r → (rawRow l)[k * 20 + q]? = some u := by
      intro l
      induction l with
      | nil => intro _ k hk; cases hk
      | cons a l ih =>
        intro hT k hk
        have ha := rawCells_length (hT a (List.mem_cons_self ..))
        show (rawCells a ++ rawRow l)[k * 20 + q]? = _
        cases k with
        | zero =>
          have e : a = r := by simpa using hk
          rw [e] at ha ⊢
          rw [List.getElem?_append_left (by rw [ha]; omega)]
          simpa using hu
        | succ k =>
          rw [List.getElem?_append_right (by rw [ha]; omega), ha, show (k + 1) * 20 + q - 20 = k * 20 + q by omega]
          exact ih (fun x hx => hT x (List.mem_cons_of_mem _ hx)) k (by simpa using hk)
    have h2 := h.cells (g := g) rfl (k * 20 + q) u (key l hT k hr)
    rw [add_add]
    exact h2
set_option maxRecDepth 100000 in
/-- 'append' of a list that may be nil. -/
theorem wpList_appR (w : World) {ops : Array Oper} {rest : List Oper} {o : Oper} {a : Act} {Q : Exit → Act → World → Prop} (hw : Region.wanted o (yielded ops a.tmps) = true) (s x : Operand)
    (ho : o.op = .call { callee := .builtin .append, args := #[s, x], argTypes := #[31, 31] }) (base : Nat) (v : Value) (n : Nat) (xs : List Value) (hs : a.eval s = v) (hown : w.ownsRow base 25 20 v n xs)
    (A : Option Addr) (m c : Nat) (ys : List Value) (hx : a.eval x = .slice A m c) (hl : ys.length = m * 20) (hc : CellsAt w A ys) (h1 : ∀ u ∈ ys, u.oneCell' = true) (hnil : A = none → m = 0 ∧ c = 0) (hmx : (n + m) * 160 ≤ 140737488355328) (hbase : base ≤ w.heap.size)
    (h : ∀ v' w', w'.ownsRow base 25 20 v' (n + m) (xs ++ ys) → w.grownBy w' v.ownBlock → wpList Tryd.prog ops Q rest (a.put o.dst v') w') : wpList Tryd.prog ops Q (o :: rest) a w := by
  refine BigFrame.wpList_want hw fun K hK' => ?_
  obtain ⟨i0, hi0, hz0, hz1, hz2⟩ := info_parts Tryd.infoPt
  cases A with
  | none =>
    obtain ⟨rfl, rfl⟩ := hnil rfl
    have hys : ys = [] := List.eq_nil_of_length_eq_zero (by simpa using hl)
    subst hys
    have hrun := run_append_owned_none (P := Tryd.prog) w base 31 o.type 25 i0 20 Tryd.underlying31 hi0 _ n xs hown
    unfold Oper.wp
    simp [execOp, ho, resolve, invoke, builtin, hs, hx, hrun, Result.andThen]
    exact hK' _ _ (h v w (by simpa using hown) (World.grownBy.refl _ _))
  | some ad =>
    have hzs : (Value.agg (H no ++ H no).toArray).cells.size = 20 := by
      show (H no ++ H no).toArray.size = 20
      rw [List.size_toArray, List.length_append, H_length]
    obtain ⟨v', w', hrun, r1, r2, r3⟩ := run_append_new (P := Tryd.prog) w base 31 o.type 25 i0 _ 20 160 Tryd.underlying31 hi0 hz0 hz1 hz2 hzs (by decide) v n xs hown ad m c ys hl (fun j u hu => by
      obtain ⟨ad', e, hcell⟩ := hc j u hu
      injection e with e
      subst e
      exact hcell) h1 (by unfold maxLen; omega) (by omega) hbase
    unfold Oper.wp
    simp [execOp, ho, resolve, invoke, builtin, hs, hx, hrun, Result.andThen]
    exact hK' _ _ (h v' w' r1 r2)
theorem rawRow_one (l : List (List Int × List Int)) : ∀ u ∈ rawRow l, u.oneCell' = true := fun u hu => by
  obtain ⟨r, _, hr⟩ := List.mem_flatMap.1 hu
  unfold rawCells at hr
  rcases List.mem_append.1 hr with h | h
  · exact iV_one _ u h
  · exact iV_one _ u h
/-- The row of one. -/
theorem wpList_row1 {ops : Array Oper} {rest : List Oper} {o : Oper} {a : Act} {W : World} {Q : Exit → Act → World → Prop} (hw : Region.wanted o (yielded ops a.tmps) = true) (x : Operand) (ho : o.op = .buildSlice 31 1 #[(0, x)])
    (l : List Value) (hx : a.eval x = .agg l.toArray) (hl : l.length = 20)
    (h : ∀ v w', Below W.heap.size W w' → w'.ownsRow W.heap.size 25 20 v 1 l → wpList Tryd.prog ops Q rest (a.put o.dst v) w') : wpList Tryd.prog ops Q (o :: rest) a W := by
  refine BigFrame.wpList_want hw fun _ hK => ?_
  have hrun := run_slicePat W l hl
  unfold Oper.wp execOp
  simp only [ho, List.map_toArray, List.map_cons, List.map_nil, hx, Sem.run_bind, Sem.run_pure, Result.andThen_ok, hrun]
  exact hK _ _ (h _ _ (below_new W _) ⟨by rw [hl], .inr ⟨W.heap.size, 1, l.toArray, rfl, Nat.le_refl _, blk_new W _ l, Nat.le_refl _, by decide, by rw [List.size_toArray, hl], by rw [List.toList_toArray, List.take_of_length_le (by rw [hl]; exact Nat.le_refl _)]⟩⟩)
/-- What Few says of a list, whatever lies in it. -/
theorem few_bool (l : List (List Int × List Int)) (most n : Nat) (hn : l.length = n) (hT : Tens l) (hl : n ≤ 140737488355328) (hm : most ≤ 1000) : ∃ F : Bool, (F = true ↔ ∃ ps : List Pat, (∀ p ∈ ps, p.ok) ∧ rawOf ps = l ∧ ps.length ≤ most ∧ cnt (fixTo ps ps.length) 0 160 ≤ 12) ∧
    ∀ (A : Option Addr) (c : Nat) (w : World), RawAt w A l → Calls Tryd.prog 52 #[.slice A n c, .int .i64 (most : Int)] w fun e w' => e = .returned (.bool F) ∧ Below w.heap.size w w' := by
  subst hn
  by_cases hr : (l.all fun r => pairI r.1 r.2) = true
  · obtain ⟨ps, h1, h2⟩ := raw_pats hT hr
    have hlen : ps.length = l.length := by rw [← h2]; unfold rawOf; rw [List.length_map]
    refine ⟨decide (ps.length ≤ most) && decide (cnt (fixTo ps ps.length) 0 160 ≤ 12), ?_, fun A c w hw => ?_⟩
    · constructor
      · intro h
        rw [Bool.and_eq_true, decide_eq_true_eq, decide_eq_true_eq] at h
        exact ⟨ps, h1, h2, h⟩
      · rintro ⟨qs, q1, q2, q3, q4⟩
        have hq : qs.length = ps.length := by
          have := congrArg List.length (q2.trans h2.symm)
          unfold rawOf at this
          rwa [List.length_map, List.length_map] at this
        have hfx : cnt (fixTo ps ps.length) 0 160 = cnt (fixTo qs qs.length) 0 160 := by
          have key : ∀ (a b : List Pat), rawOf a = rawOf b → ∀ i, i < 160 → fixTo a a.length i = fixTo b b.length i := by
            intro a
            induction a with
            | nil => intro b hb i _; cases b with
              | nil => rfl
              | cons x b => cases hb
            | cons x a ih =>
              intro b hb i hi
              cases b with
              | nil => cases hb
              | cons y b =>
                have hb' : (HI x.m, HI x.b) :: rawOf a = (HI y.m, HI y.b) :: rawOf b := hb
                injection hb' with e1 e2
                injection e1 with e1 _
                have e3 : x.m i = y.m i := HI_inj e1 i hi
                have e4 := ih b e2 i hi
                unfold fixTo at e4 ⊢
                rw [List.take_length] at e4 ⊢
                rw [List.take_length] at e4 ⊢
                rw [List.any_cons, List.any_cons, e3, e4]
          have hk := key ps qs (h2.trans q2.symm)
          have : ∀ k, k ≤ 160 → cnt (fixTo ps ps.length) 0 k = cnt (fixTo qs qs.length) 0 k := by
            intro k
            induction k with
            | zero => intro _; rfl
            | succ k ih =>
              intro hk2
              show cnt _ 0 k + (fixTo ps ps.length (0 + k)).toNat = cnt _ 0 k + (fixTo qs qs.length (0 + k)).toNat
              rw [ih (by omega), hk (0 + k) (by omega)]
          exact this 160 (Nat.le_refl _)
        rw [Bool.and_eq_true, decide_eq_true_eq, decide_eq_true_eq, hfx, ← hq]
        exact ⟨q3, q4⟩
    · have := rfew_pats A c ps most w (by rw [hlen]; omega) hm h1 (by rw [← h2] at hw; exact hw.pats)
      rw [← hlen]
      exact this
  · refine ⟨false, ?_, fun A c w hw => ?_⟩
    · constructor
      · intro h; cases h
      · rintro ⟨ps, h1, h2, _⟩
        exfalso
        apply hr
        rw [← h2]
        exact rawOf_right h1
    · exact rfew_raw A c l most w (by omega) hT hw (by simpa using hr)
end Go.Proofs.YtbldnhpbmfmepaaDoor
