/-
  Contract of the walk over Tokens. Conditions: the program's tables lie there.
-/
import Derived.Test.YtcefaipjncohmaaGreatDoorQl
import Derived.Laws.AppendOwn
import Derived.Shelf.Strings.LastIndex
namespace Go.Proofs.YtcefaipjncohmaaGreatDoor
set_option linter.unusedVariables false
set_option linter.unusedSimpArgs false
open Go.RowKit Go.Shelf

def tB (t : Tok) : ByteArray := ⟨t.text.toArray⟩
def tCells (t : Tok) : List Value := [.int .i64 (t.kind : Int), .int .i64 (t.n : Int), .string (tB t), .int .i64 (t.line : Int), .int .i64 (t.col : Int)]
def flatT (l : List Tok) : List Value := l.flatMap tCells
theorem flatT_snoc (l : List Tok) (t : Tok) : flatT (l ++ [t]) = flatT l ++ tCells t := by unfold flatT; rw [List.flatMap_append]; simp
theorem flatT_length : ∀ l : List Tok, (flatT l).length = l.length * 5
  | [] => rfl
  | t :: l => by
    have : flatT (t :: l) = tCells t ++ flatT l := by unfold flatT; rw [List.flatMap_cons]
    rw [this, List.length_append, flatT_length l]
    simp only [tCells, List.length_cons, List.length_nil]
    omega
theorem flatT_get : ∀ {l : List Tok} {k : Nat} {t : Tok}, l[k]? = some t → ∀ j u, (tCells t)[j]? = some u → (flatT l)[k * 5 + j]? = some u
  | [], _, _, h, _, _, _ => by cases h
  | x :: l, 0, t, h, j, u, hu => by
    injection h with h
    subst h
    have e : flatT (x :: l) = tCells x ++ flatT l := by unfold flatT; rw [List.flatMap_cons]
    have hj := (List.getElem?_eq_some_iff.1 hu).1
    rw [e, Nat.zero_mul, Nat.zero_add, List.getElem?_append_left hj]
    exact hu
  | x :: l, k + 1, t, h, j, u, hu => by
    have ih := flatT_get (l := l) (k := k) h j u hu
    have e : flatT (x :: l) = tCells x ++ flatT l := by unfold flatT; rw [List.flatMap_cons]
    rw [e, show (k + 1) * 5 + j = (k * 5 + j) + (tCells x).length by simp only [tCells, List.length_cons, List.length_nil]; omega, List.getElem?_append_right (Nat.le_add_left _ _), Nat.add_sub_cancel]
    exact ih
/-- A list of tokens lies there. -/
def TksAt (w : World) (A : Option Addr) (l : List Tok) : Prop := ∀ k t, l[k]? = some t → ∃ g o, A = some ⟨g, o, none⟩ ∧ ∀ j u, (tCells t)[j]? = some u → w.cell? ⟨g, o + k * 5 + j, none⟩ = some u
theorem TksAt.next {w w' : World} {A : Option Addr} {l : List Tok} (h : TksAt w A l) (hb : Below w.heap.size w w') : TksAt w' A l := fun k t ht => by
  obtain ⟨g, o, e, hc⟩ := h k t ht
  exact ⟨g, o, e, fun j u hu => cellf_below hb (hc j u hu)⟩
theorem own_keep {w w' : World} {base n size : Nat} {e : TypeId} {v : Value} {xs : List Value} (h : w.ownsRow base e size v n xs) (hb : ∀ g, v.ownBlock = some g → w'.heap[g]? = w.heap[g]?) : w'.ownsRow base e size v n xs := by
  refine ⟨h.1, ?_⟩
  rcases h.2 with hn | ⟨g, cap, cur, rfl, h2, h3, h4⟩
  · exact .inl hn
  · exact .inr ⟨g, cap, cur, rfl, h2, (hb g rfl).trans h3, h4⟩
theorem own_shape {w : World} {base n size : Nat} {e : TypeId} {v : Value} {xs : List Value} (h : w.ownsRow base e size v n xs) : ∃ A c, v = .slice A n c ∧ ((A = none ∧ c = 0 ∧ n = 0) ∨ ∃ g, A = some ⟨g, 0, none⟩ ∧ base ≤ g ∧ g < w.heap.size) := by
  rcases h.2 with ⟨rfl, rfl⟩ | ⟨g, cap, cur, rfl, hb, h3, _⟩
  · exact ⟨none, 0, rfl, .inl ⟨rfl, rfl, rfl⟩⟩
  · exact ⟨_, _, rfl, .inr ⟨g, rfl, hb, (Array.getElem?_eq_some_iff.1 h3).1⟩⟩
theorem own_base {w : World} {base n size : Nat} {e : TypeId} {v : Value} {xs : List Value} (h : w.ownsRow base e size v n xs) : ∀ g, v.ownBlock = some g → base ≤ g ∧ g < w.heap.size := fun g hg => by
  obtain ⟨A, c, rfl, hA⟩ := own_shape h
  rcases hA with ⟨rfl, _, _⟩ | ⟨q, rfl, h1, h2⟩
  · cases hg
  · injection hg with hg
    subst hg
    exact ⟨h1, h2⟩
theorem own_next {w w' : World} {base n size : Nat} {e : TypeId} {v : Value} {xs : List Value} (h : w.ownsRow base e size v n xs) (hb : Below w.heap.size w w') : w'.ownsRow base e size v n xs := own_keep h fun g hg => hb.block g (own_base h g hg).2
theorem own_mono {w : World} {base base' n size : Nat} {e : TypeId} {v : Value} {xs : List Value} (h : w.ownsRow base e size v n xs) (hb : base' ≤ base) : w.ownsRow base' e size v n xs := by
  refine ⟨h.1, ?_⟩
  rcases h.2 with hn | ⟨g, cap, cur, rfl, h2, h4⟩
  · exact .inl hn
  · exact .inr ⟨g, cap, cur, rfl, Nat.le_trans hb h2, h4⟩
theorem below_grown {T : Nat} {w w' : World} {row : Option Nat} (h : w.grownBy w' row) (hr : ∀ g, row = some g → T ≤ g) (hT : T ≤ w.heap.size) : Below T w w' :=
  ⟨h.os, h.tape, h.output, h.size, fun k hk => h.block k (Nat.lt_of_lt_of_le hk hT) (fun e => by have := hr k e.symm; omega)⟩
theorem tks_own {w : World} {T n c : Nat} {A : Option Addr} {l : List Tok} (h : w.ownsRow T 30 5 (.slice A n c) n (flatT l)) : TksAt w A l := fun k t ht => by
  rcases h.2 with ⟨_, h0⟩ | ⟨g, cap, cur, hv, hb, h3, hnc, _, hsz, htk⟩
  · exfalso
    have h1 := h.1
    rw [flatT_length] at h1
    have h2 := (List.getElem?_eq_some_iff.1 ht).1
    omega
  · injection hv with hA
    refine ⟨g, 0, hA, fun j u hu => ?_⟩
    have hg := flatT_get ht j u hu
    have hlt := (List.getElem?_eq_some_iff.1 hg).1
    rw [cell_of_row w g _ cur 30 (0, 0) h3, ← Array.getElem?_toList]
    rw [← htk, List.getElem?_take] at hg
    split at hg
    · rw [show 0 + k * 5 + j = k * 5 + j by omega]; exact hg
    · cases hg
theorem infoTok : ∃ i, Tryz.prog.info? 30 = some i ∧ i.zero = some (.agg #[.int .i64 0, .int .i64 0, .string ByteArray.empty, .int .i64 0, .int .i64 0]) ∧ i.size = 5 ∧ i.bytes = 48 := by
  have h : (Tryz.prog.info? 30).map (fun i => (i.zero, i.size, i.bytes)) = some (some (.agg #[.int .i64 0, .int .i64 0, .string ByteArray.empty, .int .i64 0, .int .i64 0]), 5, 48) := by kernel_rfl
  cases hq : Tryz.prog.info? 30 with
  | none => simp [hq] at h
  | some i =>
    simp [hq] at h
    exact ⟨i, rfl, h.1, h.2.1, h.2.2⟩
theorem run_rowT (w : World) (a b : Int) (c : ByteArray) (d e : Int) : (Instr.buildSlice 23 1 #[(0, .agg #[.int .i64 a, .int .i64 b, .string c, .int .i64 d, .int .i64 e])]).run Tryz.prog w = .ok (.slice (some ⟨w.heap.size, 0, none⟩) 1 1) (w.alloc (.cells [Value.int .i64 a, .int .i64 b, .string c, .int .i64 d, .int .i64 e].toArray 30)) := by kernel_rfl
theorem wpList_rowT {ops : Array Oper} {rest : List Oper} {o : Oper} {a : Act} {w : World} {Q : Exit → Act → World → Prop} (hgd : o.guard = none) (x : Operand) (ho : o.op = .buildSlice 23 1 #[(0, x)]) (k n : Int) (s : ByteArray) (d e : Int) (hx : a.eval x = .agg #[.int .i64 k, .int .i64 n, .string s, .int .i64 d, .int .i64 e])
    (h : ∀ g w', Hid (g = w.heap.size) → Below w.heap.size w w' → Blk w' g 30 [Value.int .i64 k, .int .i64 n, .string s, .int .i64 d, .int .i64 e] → wpList Tryz.prog ops Q rest (a.put o.dst (.slice (some ⟨g, 0, none⟩) 1 1)) w') : wpList Tryz.prog ops Q (o :: rest) a w := by
  refine wpList_plain hgd fun K hK => ?_
  have hr := run_rowT w k n s d e
  unfold Oper.wp execOp
  simp only [ho, List.map_toArray, List.map_cons, List.map_nil, hx, Sem.run_bind, Sem.run_pure, Result.andThen_ok, hr]
  exact hK _ _ (h _ _ rfl (below_new w _) (blk_new w _ _))
/-- append of a row of tokens. -/
theorem wpList_appT {ops : Array Oper} {rest : List Oper} {o : Oper} {a : Act} {w : World} {Q : Exit → Act → World → Prop} (hgd : o.guard = none) (s x : Operand)
    (ho : o.op = .call { callee := .builtin .append, args := #[s, x], argTypes := #[23, 23] }) (base : Nat) (v : Value) (n : Nat) (xs : List Value) (hs : a.eval s = v) (hown : w.ownsRow base 30 5 v n xs)
    (g q m c : Nat) (ys : List Value) (hx : a.eval x = .slice (some ⟨g, q, none⟩) m c) (hg : ∀ j y, ys[j]? = some y → w.cell? ⟨g, q + j, none⟩ = some y) (hy : ys.length = m * 5) (h1 : ∀ u ∈ ys, u.oneCell' = true) (hn : n + m ≤ 1000000) (hbase : base ≤ w.heap.size)
    (h : ∀ v' w', w'.ownsRow base 30 5 v' (n + m) (xs ++ ys) → w.grownBy w' v.ownBlock → wpList Tryz.prog ops Q rest (a.put o.dst v') w') : wpList Tryz.prog ops Q (o :: rest) a w := by
  refine wpList_plain hgd fun K hK => ?_
  obtain ⟨i, i1, i2, i3, i4⟩ := infoTok
  obtain ⟨v', w', hr, r1, r2, _⟩ := run_append_own (P := Tryz.prog) w base 23 o.type 30 i _ 5 48 Tryz.underlying23 i1 i2 i3 i4 rfl (by decide) v n xs hown ⟨g, q, none⟩ m c ys hy (fun j y hj => by
    rw [addr_mid]
    exact hg j y hj) h1 (by show n + m ≤ maxLen; unfold maxLen; omega) (by omega) hbase
  unfold Oper.wp
  simp [execOp, ho, resolve, invoke, builtin, hs, hx, hr, Result.andThen]
  exact hK _ _ (h v' w' r1 r2)
theorem last_lib (s : ByteArray) (hs : s.size ≤ 140737488355328) (w : World) : Calls Tryz.prog 20 #[.string s, .string { data := #[10] }] w fun e w' => e = .returned (.int .i64 (Lib.lastIndexByte s 10)) ∧ w' = w := Any.strings_LastIndex_one Tryz.lastA s { data := #[10] } rfl (by omega) w
theorem data_get (s : ByteArray) {k : Nat} (h : k < s.size) : s.data[k]! = s.data.toList[k]'(by rw [bytes_size]; exact h) := by
  cases s with
  | mk d =>
    have h' : k < d.size := h
    simp [h']
/-- The column behind a gap, as the machine reckons it. -/
theorem col_last (G : ByteArray) (cl : Nat) : (Lib.lastIndexByte G 10 = -1 ∧ colL cl G.data.toList = cl + G.size) ∨ (∃ i : Nat, i < G.size ∧ Lib.lastIndexByte G 10 = (i : Int) ∧ colL cl G.data.toList + i = G.size) := by
  have hlen := lenS G
  rcases Lib.lastIndexByte_spec G 10 with ⟨h1, h2⟩ | ⟨i, hi, h1, h2, h3⟩
  · refine Or.inl ⟨h1, ?_⟩
    rw [colL_none _ _ (fun hm => ?_), hlen]
    obtain ⟨k, hk, e⟩ := List.getElem_of_mem hm
    have hk2 : k < G.size := by omega
    refine h2 k hk2 ?_
    rw [data_get G hk2, e]
    rfl
  · refine Or.inr ⟨i, hi, h1, ?_⟩
    have hi2 : i < G.data.toList.length := by omega
    have e10 : G.data.toList[i] = 10 := by
      rw [data_get G hi] at h2
      have h4 : (G.data.toList[i]).toNat = 10 := by omega
      exact UInt8.toNat_inj.1 h4
    have hs : G.data.toList = G.data.toList.take i ++ 10 :: G.data.toList.drop (i + 1) := by
      conv => lhs; rw [← List.take_append_drop i G.data.toList, List.drop_eq_getElem_cons hi2, e10]
    have hn : (10 : UInt8) ∉ G.data.toList.drop (i + 1) := fun hm => by
      obtain ⟨k, hk, e⟩ := List.getElem_of_mem hm
      rw [List.length_drop] at hk
      rw [List.getElem_drop] at e
      have hk2 : i + 1 + k < G.size := by omega
      refine h3 (i + 1 + k) (by omega) hk2 ?_
      rw [data_get G hk2, e]
      rfl
    have := colL_last (G.data.toList.take i) _ cl hn
    rw [← hs] at this
    rw [this, List.length_drop]
    omega
end Go.Proofs.YtcefaipjncohmaaGreatDoor
