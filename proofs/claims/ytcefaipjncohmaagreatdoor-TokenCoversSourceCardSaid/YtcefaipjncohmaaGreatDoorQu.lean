/-
  The law TokenIsLocal: two sources with a newline between them. Conditions: the tables lie there.
-/
import Derived.Test.YtcefaipjncohmaaGreatDoorQt
namespace Go.Proofs.YtcefaipjncohmaaGreatDoor
set_option linter.unusedVariables false
set_option linter.unusedSimpArgs false
open Go.RowKit Go.Shelf

theorem flat_mid {w : World} {g : Nat} {t : TypeId} {l : List Tok} {R : List Value} (h : Blk w g t (flatT l ++ R)) : ∀ j u, (flatT l)[j]? = some u → w.cell? ⟨g, j, none⟩ = some u := fun j u hu => h.cell (by
  rw [List.getElem?_append_left (List.getElem?_eq_some_iff.1 hu).1]; exact hu)
theorem tks_blk {w : World} {g : Nat} {t : TypeId} {l : List Tok} {R : List Value} (h : Blk w g t (flatT l ++ R)) : TksAt w (some ⟨g, 0, none⟩) l := fun k t ht => ⟨g, 0, rfl, fun j u hu => by rw [Nat.zero_add]; exact flat_mid h _ _ (flatT_get ht j u hu)⟩
theorem own_blk {w : World} {T n c : Nat} {A : Option Addr} {l : List Tok} (h : w.ownsRow T 30 5 (.slice A n c) n (flatT l)) (hn : 0 < n) : ∃ g R, A = some ⟨g, 0, none⟩ ∧ T ≤ g ∧ n ≤ c ∧ Blk w g 30 (flatT l ++ R) := by
  rcases h.2 with ⟨_, h0⟩ | ⟨g, cap, cur, hv, hb, h3, hnc, _, hsz, htk⟩
  · omega
  · injection hv with hA _ hc
    subst hc
    refine ⟨g, cur.toList.drop (n * 5), hA, hb, hnc, ?_⟩
    have e : flatT l ++ cur.toList.drop (n * 5) = cur.toList := by rw [← htk, List.take_append_drop]
    rw [e]
    exact h3
theorem tokens2_any (s : ByteArray) (hs : s.size ≤ 60000) (w : World) (hT : TT w) (l : List Tok) (hl : toks s.data.toList false 0 1 1 = l) (n : Nat) (hn : l.length = n) (h0 : 0 < n) :
    Calls Tryz.prog 5 #[.string s] w fun e w' => (∃ g c R, e = .returned (.tuple #[.slice (some ⟨g, 0, none⟩) n c, .int .i64 0]) ∧ w.heap.size ≤ g ∧ n ≤ c ∧ Blk w' g 30 (flatT l ++ R)) ∧ Below w.heap.size w w' := by
  have h := tokens_any s hs w hT
  refine Calls.mono h ?_
  rintro e w' ⟨⟨A, c, rfl, Ow⟩, hb⟩
  rw [hl] at Ow ⊢
  rw [hn] at Ow ⊢
  obtain ⟨g, R, rfl, h1, h2, h3⟩ := own_blk Ow h0
  exact ⟨⟨g, c, R, rfl, h1, h2, h3⟩, hb⟩
theorem count_any (s : ByteArray) (w : World) : Calls Tryz.prog 19 #[.string s, .string { data := #[10] }] w fun e w' => e = .returned (.int .i64 ((s.data.toList.count 10 : Nat) : Int)) ∧ Below w.heap.size w w' := by
  refine Calls.mono (count_lib s 10 w) ?_
  rintro e w' ⟨rfl, rfl⟩
  exact ⟨rfl, Below.refl _ _⟩
/-- A token with its line counted on. -/
def shT (d : Nat) (t : Tok) : Tok := { t with line := t.line + d }
theorem flatT_set : ∀ (l : List Tok) (k : Nat) (t : Tok) (R : List Value) (x : Nat), l[k]? = some t → splice (flatT l ++ R) (k * 5 + 3) [Value.int .i64 (x : Int)] = flatT (l.set k { t with line := x }) ++ R
  | [], _, _, _, _, h => by cases h
  | y :: l, 0, t, R, x, h => by
    injection h with h
    subst h
    have e : flatT (y :: l) = tCells y ++ flatT l := by unfold flatT; rw [List.flatMap_cons]
    have e2 : flatT ((y :: l).set 0 { y with line := x }) = tCells { y with line := x } ++ flatT l := by
      rw [List.set_cons_zero]; unfold flatT; rw [List.flatMap_cons]
    rw [e, e2]
    simp [splice, tCells, tB]
  | y :: l, k + 1, t, R, x, h => by
    have ih := flatT_set l k t R x h
    have e : flatT (y :: l) ++ R = tCells y ++ (flatT l ++ R) := by unfold flatT; rw [List.flatMap_cons, List.append_assoc]
    have e2 : flatT ((y :: l).set (k + 1) { t with line := x }) ++ R = tCells y ++ (flatT (l.set k { t with line := x }) ++ R) := by
      rw [List.set_cons_succ]; unfold flatT; rw [List.flatMap_cons, List.append_assoc]
    rw [e, e2, ← ih, show (k + 1) * 5 + 3 = (tCells y).length + (k * 5 + 3) by simp only [tCells, List.length_cons, List.length_nil]; omega]
    unfold splice
    rw [List.take_append, List.drop_append]
    simp only [List.append_assoc, List.length_cons, List.length_nil]
    rw [List.take_of_length_le (Nat.le_add_right _ _), List.drop_eq_nil_of_le (by omega)]
    simp only [List.nil_append, Nat.add_sub_cancel_left]
    congr 4
    omega
def parT (d : Nat) (l : List Tok) (k : Nat) : List Tok := (l.take k).map (shT d) ++ l.drop k
theorem parT_zero (d : Nat) (l : List Tok) : parT d l 0 = l := rfl
theorem parT_all (d : Nat) (l : List Tok) : parT d l l.length = l.map (shT d) := by unfold parT; simp
theorem parT_get {d : Nat} {l : List Tok} {k : Nat} {t : Tok} (h : l[k]? = some t) : (parT d l k)[k]? = some t := by
  have hl := (List.getElem?_eq_some_iff.1 h).1
  unfold parT
  rw [List.getElem?_append_right (by rw [List.length_map, List.length_take]; omega), List.length_map, List.length_take, Nat.min_eq_left (Nat.le_of_lt hl), Nat.sub_self, List.getElem?_drop, Nat.add_zero]
  exact h
theorem parT_set {d : Nat} {l : List Tok} {k : Nat} {t : Tok} (h : l[k]? = some t) : (parT d l k).set k { t with line := t.line + d } = parT d l (k + 1) := by
  obtain ⟨hl, e⟩ := List.getElem?_eq_some_iff.1 h
  unfold parT
  rw [List.set_append_right _ _ (by rw [List.length_map, List.length_take]; omega), List.length_map, List.length_take, Nat.min_eq_left (Nat.le_of_lt hl), Nat.sub_self, List.drop_eq_getElem_cons hl, List.set_cons_zero, ← List.take_append_getElem hl, List.map_append, List.append_assoc, e]
  rfl
/-- append onto a slice without room. -/
theorem wpList_appG {ops : Array Oper} {rest : List Oper} {o : Oper} {a : Act} {w : World} {Q : Exit → Act → World → Prop} (hw : Region.wanted o (yielded ops a.tmps) = true) (s x : Operand)
    (ho : o.op = .call { callee := .builtin .append, args := #[s, x], argTypes := #[23, 23] }) (ga gb n m c : Nat) (xs ys : List Tok) (hs : a.eval s = .slice (some ⟨ga, 0, none⟩) n n) (hx : a.eval x = .slice (some ⟨gb, 0, none⟩) m c)
    (hn : xs.length = n) (hm : ys.length = m) (hA : ∀ j u, (flatT xs)[j]? = some u → w.cell? ⟨ga, j, none⟩ = some u) (hB : ∀ j u, (flatT ys)[j]? = some u → w.cell? ⟨gb, j, none⟩ = some u) (h0 : 0 < m) (hle : n + m ≤ 1000000)
    (h : ∀ g c w', w.heap.size ≤ g → TksAt w' (some ⟨g, 0, none⟩) (xs ++ ys) → Below w.heap.size w w' → wpList Tryz.prog ops Q rest (a.put o.dst (.slice (some ⟨g, 0, none⟩) (n + m) c)) w') : wpList Tryz.prog ops Q (o :: rest) a w := by
  refine BigFrame.wpList_want hw fun K hK => ?_
  obtain ⟨i, i1, i2, i3, i4⟩ := infoTok
  have hr := run_append_grow (P := Tryz.prog) w 23 o.type 30 i _ Tryz.underlying23 i1 i2 ⟨ga, 0, none⟩ n n (flatT xs) (by rw [flatT_length, i3, hn]) (fun j u hu => by rw [addr_mid, Nat.zero_add]; exact hA j u hu) ⟨gb, 0, none⟩ m c (flatT ys) (by rw [flatT_length, i3, hm]) (fun j u hu => by rw [addr_mid, Nat.zero_add]; exact hB j u hu) (by omega) (by omega) (by rw [i4]; exact growslice_fits (by omega) (by omega))
  unfold Oper.wp
  simp [execOp, ho, resolve, invoke, builtin, hs, hx, hr, Result.andThen]
  refine hK _ _ (h _ _ _ (Nat.le_refl _) (fun k t ht => ⟨w.heap.size, 0, rfl, fun j u hu => ?_⟩) ((Below.refl _ _).drew.alloc (Nat.le_refl _) _))
  have hg := flatT_get ht j u hu
  have hj := (List.getElem?_eq_some_iff.1 hg).1
  rw [Nat.zero_add, cell_of_row _ w.heap.size _ _ _ _ (heap_alloc_new w.drew _), Array.getElem?_append_left (by
    simp only [Array.size_append, List.size_toArray]
    unfold flatT at hj ⊢
    rw [List.flatMap_append] at hj
    exact hj)]
  rw [← hg]
  unfold flatT
  rw [List.flatMap_append]
  simp
theorem toks_line : ∀ (l : List UInt8) (ins : Bool) (k ln cl : Nat), ∀ t ∈ toks l ins k ln cl, t.line ≤ ln + l.length
  | [], ins, k, ln, cl => by rw [toks_end]; intro t ht; simp at ht; rw [ht]; exact Nat.le_refl _
  | b :: r, ins, k + 1, ln, cl => fun t ht => by
    rw [toks_skip] at ht
    have := toks_line r ins k ln (cl + 1) t ht
    simp only [List.length_cons]; omega
  | b :: r, ins, 0, ln, cl => fun t ht => by
    rw [toks_cons] at ht
    simp only [List.length_cons]
    split at ht
    · have := toks_line r false 0 (ln + 1) 1 t ht; omega
    · split at ht
      · have := toks_line r true 0 ln (cl + 1) t ht; omega
      · split at ht
        · have := toks_line r false 0 ln (cl + 1) t ht; omega
        · rcases List.mem_cons.1 ht with rfl | ht
          · show ln ≤ _; omega
          · have := toks_line r false _ ln (cl + 1) t ht; omega
def LcRel (Tb : List Tok) (d g7 : Nat) (R7 : List Value) (w : World) (g5 : Nat) (L5 : List Value) (g9 : Nat) (L9 : List Value) (i : Value) (wr : World) : Prop :=
  ∃ k : Nat, k ≤ Tb.length ∧ i = .int .i64 (k : Int) ∧ Blk wr g7 30 (flatT (parT d Tb k) ++ R7) ∧ Blk wr g5 30 L5 ∧ Blk wr g9 30 L9 ∧ Below w.heap.size w wr
theorem wrap_small {x : Nat} (h : x ≤ 1000000000) : IntKind.i64.wrap (x : Int) = (x : Int) := by
  exact IntWalk.i64_in _ ⟨by omega, by omega⟩
theorem app_list (a b : ByteArray) : (a ++ { data := #[10] } ++ b).data.toList = a.data.toList ++ 10 :: b.data.toList := by
  simp
theorem app_size (a b : ByteArray) : (a ++ b).size = a.size + b.size := by simp







































































































































































































































































































































end Go.Proofs.YtcefaipjncohmaaGreatDoor
