/-
  What the walk over the reference's Solve needs: how the table is built, which row a column has. Conditions: none.
-/
import Derived.Test.YthjaelopmfjfeaaDoorZf
import Derived.Test.YthjaelopmfjfeaaDoorZh
namespace Go.Proofs.YthjaelopmfjfeaaDoor
set_option linter.unusedVariables false
set_option linter.unusedSimpArgs false
open Go.RowKit Go.Shelf
set_option linter.unusedVariables false

theorem run_row0Q (W : World) : (Instr.buildSlice 40 0 #[]).run Tryd.prog W = .ok (.slice (some ⟨W.heap.size, 0, none⟩) 0 0) (W.alloc (.cells #[] 23)) := by kernel_rfl
/-- An empty list that is made. -/
theorem wpList_row0Q {ops : Array Oper} {rest : List Oper} {o : Oper} {a : Act} {w : World} {Q : Exit → Act → World → Prop} (hgd : o.guard = none) (ho : o.op = .buildSlice 40 0 #[])
    (h : ∀ g w', Hid (g = w.heap.size) → Below w.heap.size w w' → w'.ownsRow w.heap.size 23 2 (.slice (some ⟨g, 0, none⟩) 0 0) 0 [] → wpList Tryd.prog ops Q rest (a.put o.dst (.slice (some ⟨g, 0, none⟩) 0 0)) w') : wpList Tryd.prog ops Q (o :: rest) a w := by
  refine wpList_plain hgd fun K hK => ?_
  have hr := run_row0Q w
  unfold Oper.wp execOp
  simp only [ho, List.map_toArray, List.map_nil, Sem.run_bind, Sem.run_pure, Result.andThen_ok, hr]
  exact hK _ _ (h _ _ rfl (below_new w _) ⟨rfl, .inr ⟨w.heap.size, 0, #[], rfl, Nat.le_refl _, blk_new w _ [], Nat.le_refl _, by decide, rfl, rfl⟩⟩)
theorem run_rowL (w : World) (A : Option Addr) (n c : Nat) : (Instr.buildSlice 45 1 #[(0, .slice A n c)]).run Tryd.prog w = .ok (.slice (some ⟨w.heap.size, 0, none⟩) 1 1) (w.alloc (.cells [Value.slice A n c].toArray 40)) := by kernel_rfl
theorem wpList_rowL {ops : Array Oper} {rest : List Oper} {o : Oper} {a : Act} {w : World} {Q : Exit → Act → World → Prop} (hgd : o.guard = none) (x : Operand) (ho : o.op = .buildSlice 45 1 #[(0, x)]) (A : Option Addr) (n c : Nat) (hx : a.eval x = .slice A n c)
    (h : ∀ g w', Hid (g = w.heap.size) → Below w.heap.size w w' → Blk w' g 40 [Value.slice A n c] → wpList Tryd.prog ops Q rest (a.put o.dst (.slice (some ⟨g, 0, none⟩) 1 1)) w') : wpList Tryd.prog ops Q (o :: rest) a w := by
  refine wpList_plain hgd fun K hK => ?_
  have hr := run_rowL w A n c
  unfold Oper.wp execOp
  simp only [ho, List.map_toArray, List.map_cons, List.map_nil, hx, Sem.run_bind, Sem.run_pure, Result.andThen_ok, hr]
  exact hK _ _ (h _ _ rfl (below_new w _) (blk_new w _ _))
/-- append of one row's header. -/
theorem wpList_appL {ops : Array Oper} {rest : List Oper} {o : Oper} {a : Act} {w : World} {Q : Exit → Act → World → Prop} (hgd : o.guard = none) (s x : Operand)
    (ho : o.op = .call { callee := .builtin .append, args := #[s, x], argTypes := #[45, 45] }) (base : Nat) (v : Value) (n : Nat) (xs : List Value) (hs : a.eval s = v) (hown : w.ownsRow base 40 1 v n xs)
    (g : Nat) (A : Option Addr) (l c : Nat) (hx : a.eval x = .slice (some ⟨g, 0, none⟩) 1 1) (hg : Blk w g 40 [.slice A l c]) (hn : n ≤ 1000) (hbase : base ≤ w.heap.size)
    (h : ∀ v' w', w'.ownsRow base 40 1 v' (n + 1) (xs ++ [.slice A l c]) → w.grownBy w' v.ownBlock → (v'.ownBlock = v.ownBlock ∨ ∀ g, v'.ownBlock = some g → w.heap.size ≤ g) → wpList Tryd.prog ops Q rest (a.put o.dst v') w') : wpList Tryd.prog ops Q (o :: rest) a w := by
  obtain ⟨i, i1, i2, i3, i4⟩ := infoL
  exact wpList_appendN (P := Tryd.prog) w hgd s x 45 ho base 40 i (.slice none 0 0) 1 24 Tryd.underlying45 i1 i2 i3 i4 rfl (by decide) v n xs hs hown ⟨g, 0, none⟩ 1 1 [.slice A l c] hx rfl (fun j y hy => by
    rw [addr_mid, Nat.zero_add]
    exact hg.cell hy) (one_cell1 rfl) (by show n + 1 ≤ maxLen; unfold maxLen; omega) (by omega) hbase h
/-- A new row of ints. -/
theorem run_makeI (w : World) (n : Nat) (hn : n ≤ 100000) : ∃ w', (Instr.makeSlice 68 (.int .i64 (n : Int)) (.int .i64 (n : Int))).run Tryd.prog w = .ok (.slice (some ⟨w.heap.size, 0, none⟩) n n) w' ∧ Below w.heap.size w w' ∧ ∃ L, L.length = n ∧ Blk w' w.heap.size 3 L := by
  obtain ⟨i, h1, h2, h3, h4⟩ := infoInt
  have h := run_make w 68 3 i _ Tryd.underlying68 h1 h2 .i64 .i64 (n : Int) (n : Int) (by omega) (Int.le_refl _) (by rw [h4]; omega) (by omega)
  rw [h3, Int.toNat_natCast, Nat.mul_one] at h
  refine ⟨_, h, below_new w _, (madeCells (Value.int .i64 0).cells n).toList, by rw [Array.length_toList, size_madeCells], ?_⟩
  exact blk_new w _ _
theorem wpList_makeI {ops : Array Oper} {rest : List Oper} {o : Oper} {a : Act} {w : World} {Q : Exit → Act → World → Prop} (hgd : o.guard = none) (x y : Operand) (ho : o.op = .makeSlice 68 x y) (n : Nat) (hn : n ≤ 100000) (hx : a.eval x = .int .i64 (n : Int)) (hy : a.eval y = .int .i64 (n : Int))
    (h : ∀ g w' L, Hid (g = w.heap.size) → Below w.heap.size w w' → L.length = n → Blk w' g 3 L → wpList Tryd.prog ops Q rest (a.put o.dst (.slice (some ⟨g, 0, none⟩) n n)) w') : wpList Tryd.prog ops Q (o :: rest) a w := by
  refine wpList_plain hgd fun K hK => ?_
  obtain ⟨w', hr, hb, L, hL, hB⟩ := run_makeI w n hn
  unfold Oper.wp execOp
  simp only [ho, hx, hy, Sem.run_bind, Sem.run_pure, Result.andThen_ok, hr]
  exact hK _ _ (h _ w' L rfl hb hL hB)
/-- What is owned lies in a block of its own. -/
theorem own_lies {w : World} {T n c size : Nat} {A : Option Addr} {e : TypeId} {xs : List Value} (h : w.ownsRow T e size (.slice A n c) n xs) (hn : 0 < n) : ∃ g R, A = some ⟨g, 0, none⟩ ∧ T ≤ g ∧ n ≤ c ∧ Blk w g e (xs ++ R) := by
  rcases h.2 with ⟨_, h0⟩ | ⟨g, cap, cur, hv, hb, h3, h4, _, _, ht⟩
  · omega
  · injection hv with hA _ hc
    refine ⟨g, cur.toList.drop (n * size), hA, hb, by omega, ?_⟩
    unfold Blk
    rw [h3, ← ht, List.take_append_drop]
/-- The table of the reference while it is built. -/
structure BuR (B gw m n : Nat) (rs : List (Hdr × List Rat)) (bs : List Rat) (k : Nat) (M : List RowM) (Lv : Value) (w : World) : Prop where
  wk : Blk w gw 75 [Lv, .int .i64 0]
  own : w.ownsRow B 40 1 Lv k (M.map (rowV (n + 1 + m)))
  cnt : M.length = k
  rows : ∀ (i : Nat) (r : RowM) (p : Hdr × List Rat) (b : Rat), M[i]? = some r → rs[i]? = some p → bs[i]? = some b → Blk w r.1 23 (rowC (tabRow m p.2 b i) ++ r.2.2)
  diff : ∀ (i j : Nat) (r p : RowM), M[i]? = some r → M[j]? = some p → r.1 = p.1 → i = j
  apart : ∀ (i : Nat) (r : RowM), M[i]? = some r → Lv.ownBlock ≠ some r.1 ∧ r.1 ≠ gw ∧ B ≤ r.1 ∧ r.1 < w.heap.size
  sep : Lv.ownBlock ≠ some gw
  gwB : B ≤ gw
  caps : ∀ (i : Nat) (r : RowM), M[i]? = some r → n + 1 + m ≤ r.2.1
section
variable {B gw m n k : Nat} {rs : List (Hdr × List Rat)} {bs : List Rat} {M : List RowM} {Lv : Value} {w w' : World}
theorem BuR.next (h : BuR B gw m n rs bs k M Lv w) (hb : Below w.heap.size w w') : BuR B gw m n rs bs k M Lv w' :=
  ⟨h.wk.next hb h.wk.lt, own_keep h.own (fun g hg => hb.block g (own_base h.own g hg).2), h.cnt, fun i r p b h1 h2 h3 => (h.rows i r p b h1 h2 h3).next hb (h.apart i r h1).2.2.2, h.diff, fun i r h1 => ⟨(h.apart i r h1).1, (h.apart i r h1).2.1, (h.apart i r h1).2.2.1, Nat.lt_of_lt_of_le (h.apart i r h1).2.2.2 hb.size⟩, h.sep, h.gwB, h.caps⟩
theorem BuR.add (h : BuR B gw m n rs bs k M Lv w) {w1 w2 w3 : World} {r : RowM} {Lv' : Value} (hb : Below w.heap.size w w1) (hg : w1.grownBy w2 Lv.ownBlock) (hown : w2.ownsRow B 40 1 Lv' (k + 1) (M.map (rowV (n + 1 + m)) ++ [rowV (n + 1 + m) r]))
    (hnew : Lv'.ownBlock = Lv.ownBlock ∨ ∀ g, Lv'.ownBlock = some g → w1.heap.size ≤ g) (hu : Upd gw w2 w3) (hwk : Blk w3 gw 75 [Lv', .int .i64 0])
    (hr : ∀ (p : Hdr × List Rat) (b : Rat), rs[k]? = some p → bs[k]? = some b → Blk w1 r.1 23 (rowC (tabRow m p.2 b k) ++ r.2.2)) (hr0 : w.heap.size ≤ r.1) (hrw : r.1 < w1.heap.size) (hrc : n + 1 + m ≤ r.2.1) : BuR B gw m n rs bs (k + 1) (M ++ [r]) Lv' w3 := by
  have hgw := h.wk.lt
  have hw1 : w.heap.size ≤ w1.heap.size := hb.size
  have hs2 := hg.size
  have hs3 := hu.size
  have hgwr : r.1 ≠ gw := by omega
  have hlr : Lv.ownBlock ≠ some r.1 := fun e => by have := (own_base h.own r.1 e).2; omega
  have hsep : Lv'.ownBlock ≠ some gw := by
    rcases hnew with e | e
    · rw [e]; exact h.sep
    · intro e2; have := e gw e2; omega
  have sepOf : ∀ g, g < w1.heap.size → Lv.ownBlock ≠ some g → Lv'.ownBlock ≠ some g := fun g hlt hne => by
    rcases hnew with e | e
    · rw [e]; exact hne
    · intro e2; have := e g e2; omega
  have keep : ∀ (g : Nat) (t : TypeId) (l : List Value), Blk w1 g t l → g < w1.heap.size → Lv.ownBlock ≠ some g → g ≠ gw → Blk w3 g t l := fun g t l hB hlt hne hn => by
    unfold Blk
    rw [hu.block g hn, hg.block g hlt (fun e => hne e.symm)]
    exact hB
  have look : ∀ (i : Nat) (x : RowM), (M ++ [r])[i]? = some x → (M[i]? = some x ∧ i < k) ∨ (x = r ∧ i = k) := fun i x hx => by
    have hc := h.cnt
    rcases Nat.lt_or_ge i M.length with e | e
    · rw [List.getElem?_append_left e] at hx
      exact .inl ⟨hx, by omega⟩
    · rw [List.getElem?_append_right e] at hx
      match hi : i - M.length with
      | 0 => rw [hi] at hx; injection hx with hx; exact .inr ⟨hx.symm, by omega⟩
      | j + 1 => rw [hi] at hx; cases hx
  have hne : ∀ (i : Nat) (x : RowM), M[i]? = some x → x.1 ≠ r.1 := fun i x hx => by have := (h.apart i x hx).2.2.2; omega
  refine ⟨hwk, ?_, by rw [List.length_append, h.cnt]; rfl, fun i x p b h1 h2 h3 => ?_, fun i j x y h1 h2 e => ?_, fun i x h1 => ?_, hsep, h.gwB, fun i x h1 => ?_⟩
  · rw [List.map_append]
    exact own_keep hown (fun g hg2 => hu.block g (fun e => hsep (by rw [hg2, e])))
  · rcases look i x h1 with ⟨h4, hi⟩ | ⟨rfl, rfl⟩
    · have ha := h.apart i x h4
      exact keep _ _ _ ((h.rows i x p b h4 h2 h3).next hb ha.2.2.2) (by omega) ha.1 ha.2.1
    · exact keep _ _ _ (hr p b h2 h3) hrw hlr hgwr
  · rcases look i x h1 with ⟨h4, hi⟩ | ⟨rfl, rfl⟩
    · rcases look j y h2 with ⟨h5, hj⟩ | ⟨rfl, rfl⟩
      · exact h.diff i j x y h4 h5 e
      · exact absurd e (hne i x h4)
    · rcases look j y h2 with ⟨h5, hj⟩ | ⟨rfl, rfl⟩
      · exact absurd e.symm (hne j y h5)
      · rfl
  · rcases look i x h1 with ⟨h4, hi⟩ | ⟨rfl, rfl⟩
    · have ha := h.apart i x h4
      exact ⟨sepOf _ (by omega) ha.1, ha.2.1, ha.2.2.1, by omega⟩
    · have hB := h.gwB
      exact ⟨sepOf _ hrw hlr, hgwr, by omega, by omega⟩
  · rcases look i x h1 with ⟨h4, hi⟩ | ⟨rfl, rfl⟩
    · exact h.caps i x h4
    · exact hrc
/-- The table that is built, as elimination reads it. -/
theorem BuR.rl (h : BuR B gw m n rs bs m M Lv w) (hm : 0 < m) (hrl : rs.length = m) (hbl : bs.length = m) (hR : ∀ p ∈ rs, p.2.length = n ∧ ∀ x ∈ p.2, fits x) (hb : ∀ x ∈ bs, fits x) :
    ∃ gr cL J, Lv = .slice (some ⟨gr, 0, none⟩) m cL ∧ RL B w.heap.size gw gr (n + 1 + m) cL J M (tabC m (rs.map fun p => p.2) bs) w := by
  obtain ⟨A, cL, rfl, _⟩ := own_shape h.own
  obtain ⟨gr, J, rfl, hgr, _, hB⟩ := own_lies h.own hm
  have hlt := hB.lt
  refine ⟨gr, cL, J, rfl, ⟨by rw [h.cnt]; exact h.wk, hB, by rw [h.cnt, tabC_length], fun i r l h1 h2 => ?_, h.diff, fun i r h1 => ?_, ⟨hgr, h.gwB, fun e => h.sep (by rw [e]; rfl), hlt, h.wk.lt⟩, h.caps⟩⟩
  · have hi : i < m := by rw [← h.cnt]; exact (List.getElem?_eq_some_iff.1 h1).1
    obtain ⟨p, hp⟩ : ∃ p, rs[i]? = some p := ⟨_, List.getElem?_eq_getElem (by omega)⟩
    obtain ⟨b, hbi⟩ : ∃ b, bs[i]? = some b := ⟨_, List.getElem?_eq_getElem (by omega)⟩
    rw [tabC_get hi (by rw [List.getElem?_map, hp]; rfl) hbi] at h2
    injection h2 with h2
    subst h2
    obtain ⟨q1, q2⟩ := hR p (List.mem_of_getElem? hp)
    exact ⟨tabRow_length b i q1, tabRow_fits q2 (hb b (List.mem_of_getElem? hbi)), h.rows i r p b h1 hp hbi⟩
  · obtain ⟨q1, q2, q3, q4⟩ := h.apart i r h1
    exact ⟨fun e => q1 (by rw [e]; rfl), q2, q3, q4⟩
end
/-- The row that each column has, as the reference keeps it. -/
def IxAt (hs : List Nat) (c : Nat) (L : List Value) : Prop := ∀ j, j < c → (∃ i : Nat, hs[i]? = some j ∧ L[j]? = some (.int .i64 (i : Int))) ∨ (j ∉ hs ∧ L[j]? = some (.int .i64 (-1)))
def Uq (hs : List Nat) : Prop := ∀ i j a : Nat, hs[i]? = some a → hs[j]? = some a → i = j
theorem uq_add {hs : List Nat} {c : Nat} (h : Uq hs) (hlt : ∀ x ∈ hs, x < c) : Uq (hs ++ [c]) := by
  have look : ∀ (i x : Nat), (hs ++ [c])[i]? = some x → hs[i]? = some x ∨ (x = c ∧ i = hs.length) := fun i x hx => by
    rcases Nat.lt_or_ge i hs.length with e | e
    · rw [List.getElem?_append_left e] at hx
      exact .inl hx
    · rw [List.getElem?_append_right e] at hx
      match hi : i - hs.length with
      | 0 => rw [hi] at hx; injection hx with hx; exact .inr ⟨hx.symm, by omega⟩
      | j + 1 => rw [hi] at hx; cases hx
  intro i j a h1 h2
  rcases look i a h1 with h3 | ⟨h3, h4⟩
  · rcases look j a h2 with h5 | ⟨h5, h6⟩
    · exact h i j a h3 h5
    · have := hlt a (List.mem_of_getElem? h3); omega
  · rcases look j a h2 with h5 | ⟨h5, h6⟩
    · have := hlt a (List.mem_of_getElem? h5); omega
    · omega
theorem ix_none {hs : List Nat} {c : Nat} {L : List Value} (h : IxAt hs c L) (hlt : ∀ x ∈ hs, x < c) (hL : c < L.length) : IxAt hs (c + 1) (L.set c (.int .i64 (-1))) := by
  intro j hj
  rcases Nat.lt_or_ge j c with e | e
  · rw [List.getElem?_set_ne (by omega)]
    exact h j e
  · obtain rfl : j = c := by omega
    exact .inr ⟨fun hm => Nat.lt_irrefl _ (hlt _ hm), List.getElem?_set_self hL⟩
theorem ix_some {hs : List Nat} {c u : Nat} {L : List Value} (h : IxAt hs c L) (hlt : ∀ x ∈ hs, x < c) (hL : c < L.length) (hu : hs.length = u) : IxAt (hs ++ [c]) (c + 1) (L.set c (.int .i64 (u : Int))) := by
  intro j hj
  rcases Nat.lt_or_ge j c with e | e
  · rw [List.getElem?_set_ne (by omega)]
    rcases h j e with ⟨i, h1, h2⟩ | ⟨h1, h2⟩
    · exact .inl ⟨i, by rw [List.getElem?_append_left (List.getElem?_eq_some_iff.1 h1).1]; exact h1, h2⟩
    · refine .inr ⟨fun hm => ?_, h2⟩
      rcases List.mem_append.1 hm with h3 | h3
      · exact h1 h3
      · rw [List.mem_singleton] at h3; omega
  · obtain rfl : j = c := by omega
    exact .inl ⟨u, by rw [List.getElem?_append_right (by omega), hu, Nat.sub_self]; rfl, List.getElem?_set_self hL⟩
/-- What Solve says of a column. -/
theorem ix_num {hs : List Nat} {n c : Nat} {L : List Value} {C : List (List Rat)} (h : IxAt hs n L) (hq : Uq hs) (hc : c < n) : (∃ i : Nat, i < hs.length ∧ L[c]? = some (.int .i64 (i : Int)) ∧ (setTo C n 0 hs (List.replicate n 0))[c]? = some (at2 C i n)) ∨ (L[c]? = some (.int .i64 (-1)) ∧ (setTo C n 0 hs (List.replicate n 0))[c]? = some 0) := by
  rcases h c hc with ⟨i, h1, h2⟩ | ⟨h1, h2⟩
  · refine .inl ⟨i, (List.getElem?_eq_some_iff.1 h1).1, h2, ?_⟩
    rw [setTo_in C n c hs 0 _ i h1 (fun j2 h3 => hq j2 i c h3 h1) (by rw [List.length_replicate]; exact hc), Nat.zero_add]
  · refine .inr ⟨h2, ?_⟩
    rw [setTo_out C n c hs 0 _ h1, List.getElem?_replicate_of_lt hc]
def markL (m i k : Nat) : List Rat := ((List.replicate m (0 : Rat)).set i 1).take k
theorem mark_step {m i k : Nat} (hk : k < m) : markL m i (k + 1) = markL m i k ++ [if k = i then 1 else 0] := by
  unfold markL
  have hl : k < ((List.replicate m (0 : Rat)).set i 1).length := by rw [List.length_set, List.length_replicate]; exact hk
  rw [List.take_succ_eq_append_getElem hl, List.getElem_set, List.getElem_replicate]
  by_cases e : i = k
  · rw [if_pos e, if_pos e.symm]
  · rw [if_neg e, if_neg (fun h => e h.symm)]
theorem mark_all (m i : Nat) : markL m i m = (List.replicate m (0 : Rat)).set i 1 := by
  unfold markL
  rw [List.take_of_length_le (by rw [List.length_set, List.length_replicate]; exact Nat.le_refl _)]
theorem mark_len {m i k : Nat} (hk : k ≤ m) : (markL m i k).length = k := by unfold markL; rw [List.length_take, List.length_set, List.length_replicate]; omega
end Go.Proofs.YthjaelopmfjfeaaDoor
