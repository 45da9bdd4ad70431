/-
  Contract of the walk over tableOf. Conditions: a formed system whose rows are not nil.
-/
import Derived.Test.YthjaelopmfjfeaaDoorWg
namespace Go.Proofs.YthjaelopmfjfeaaDoor
set_option linter.unusedVariables false
set_option linter.unusedSimpArgs false
open Go.RowKit Go.Shelf

theorem run_row1 (w : World) (a b : Int) : (Instr.buildSlice 40 1 #[(0, .agg [Value.int .i64 a, Value.int .i64 b].toArray)]).run Tryd.prog w = .ok (.slice (some ⟨w.heap.size, 0, none⟩) 1 1) (w.alloc (.cells [Value.int .i64 a, Value.int .i64 b].toArray 23)) := by kernel_rfl
theorem run_rows3 (w : World) (h0 h1 h2 : Hdr) : (Instr.buildSlice 45 3 #[(0, hdrV h0), (1, hdrV h1), (2, hdrV h2)]).run Tryd.prog w = .ok (.slice (some ⟨w.heap.size, 0, none⟩) 3 3) (w.alloc (.cells [hdrV h0, hdrV h1, hdrV h2].toArray 40)) := by kernel_rfl
theorem wpList_row1 {ops : Array Oper} {rest : List Oper} {o : Oper} {a : Act} {w : World} {Q : Exit → Act → World → Prop} (hgd : o.guard = none) (x : Operand) (ho : o.op = .buildSlice 40 1 #[(0, x)]) (n d : Int) (hx : a.eval x = .agg [Value.int .i64 n, Value.int .i64 d].toArray)
    (h : ∀ g w', Hid (g = w.heap.size) → Below w.heap.size w w' → Blk w' g 23 [Value.int .i64 n, Value.int .i64 d] → wpList Tryd.prog ops Q rest (a.put o.dst (.slice (some ⟨g, 0, none⟩) 1 1)) w') : wpList Tryd.prog ops Q (o :: rest) a w := by
  refine wpList_plain hgd fun K hK => ?_
  have hr := run_row1 w n d
  unfold Oper.wp execOp
  simp only [ho, List.map_toArray, List.map_cons, List.map_nil, hx, Sem.run_bind, Sem.run_pure, Result.andThen_ok, hr]
  exact hK _ _ (h _ _ rfl (below_new w _) (blk_new w _ _))
theorem wp_rows3 {o : Oper} {a : Act} {w : World} {K : Act → World → Prop} {Q : Exit → Act → World → Prop} (x y z : Operand) (ho : o.op = .buildSlice 45 3 #[(0, x), (1, y), (2, z)]) (h0 h1 h2 : Hdr) (hx : a.eval x = hdrV h0) (hy : a.eval y = hdrV h1) (hz : a.eval z = hdrV h2)
    (h : ∀ g w', Hid (g = w.heap.size) → Below w.heap.size w w' → Blk w' g 40 [hdrV h0, hdrV h1, hdrV h2] → K (a.put o.dst (.slice (some ⟨g, 0, none⟩) 3 3)) w') : Oper.wp Tryd.prog o a w K Q := by
  have hr := run_rows3 w h0 h1 h2
  unfold Oper.wp execOp
  simp only [ho, List.map_toArray, List.map_cons, List.map_nil, hx, hy, hz, Sem.run_bind, Sem.run_pure, Result.andThen_ok, hr]
  exact h _ _ rfl (below_new w _) (blk_new w _ _)
/-- A row of the table: its block, its room, what lies behind it. -/
abbrev RowM := Nat × Nat × List Value
def rowV (N : Nat) (m : RowM) : Value := .slice (some ⟨m.1, 0, none⟩) N m.2.1
/-- The rows of a table lie there. -/
structure RowsAt (w : World) (gr N : Nat) (M : List RowM) (C : List (List (Int × Int))) : Prop where
  hdrs : Blk w gr 40 (M.map (rowV N))
  same : M.length = C.length
  rows : ∀ (k : Nat) (m : RowM) (r : List (Int × Int)), M[k]? = some m → C[k]? = some r → r.length = N ∧ Blk w m.1 23 (rowR r ++ m.2.2)
  diff : ∀ (i j : Nat) (m p : RowM), M[i]? = some m → M[j]? = some p → m.1 = p.1 → i = j
  apart : ∀ (k : Nat) (m : RowM), M[k]? = some m → m.1 ≠ gr
theorem RowsAt.next {w w' : World} {gr N : Nat} {M : List RowM} {C : List (List (Int × Int))} (h : RowsAt w gr N M C) (hb : Below w.heap.size w w') : RowsAt w' gr N M C :=
  ⟨h.hdrs.next hb h.hdrs.lt, h.same, fun k m r hm hr => ⟨(h.rows k m r hm hr).1, (h.rows k m r hm hr).2.next hb (h.rows k m r hm hr).2.lt⟩, h.diff, h.apart⟩
/-- The row i of the table of a system. -/
def tabRow (m : Nat) (a : List Rat) (b : Rat) (i : Nat) : List Rat := a ++ ([b] ++ (List.replicate m (0 : Rat)).set i 1)
theorem tabRow_length {m n : Nat} {a : List Rat} (b : Rat) (i : Nat) (ha : a.length = n) : (tabRow m a b i).length = n + 1 + m := by
  unfold tabRow
  rw [List.length_append, List.length_append, List.length_set, List.length_replicate, ha]
  show n + (1 + m) = _; omega
theorem splice_mid {α : Type} (A : List α) (x y : α) (Z : List α) (k : Nat) (hk : A.length = k) : splice (A ++ x :: Z) k [y] = A ++ y :: Z := by
  subst hk
  unfold splice
  have e : (A ++ x :: Z).drop (A.length + [y].length) = Z := by
    rw [← List.drop_drop, List.drop_left]; rfl
  rw [List.take_left, e]; rfl
/-- A row that is given. -/
structure GivenRow (w : World) (n : Nat) (p : Hdr × List Rat) : Prop where
  len : p.1.2.1 = n
  size : p.2.length = n
  lies : p.1 = (none, 0, 0) ∨ ∃ ad, p.1.1 = some ad ∧ ∀ j u, (rowC p.2)[j]? = some u → w.cell? (ad.add j) = some u
theorem GivenRow.next {w w' : World} {n : Nat} {p : Hdr × List Rat} (h : GivenRow w n p) (hb : Below w.heap.size w w') : GivenRow w' n p := by
  obtain ⟨h1, h2, h0 | ⟨ad, h3, h4⟩⟩ := h
  · exact ⟨h1, h2, .inl h0⟩
  · exact ⟨h1, h2, .inr ⟨ad, h3, fun j u hu => cellq_below hb (h4 j u hu)⟩⟩
/-- The rows of the table that are there. -/
structure TabTo (w0 : World) (gr m n : Nat) (rs : List (Hdr × List Rat)) (bs : List Rat) (k : Nat) (M : List RowM) (w : World) : Prop where
  hdrs : Blk w gr 40 (M.map (rowV (n + 1 + m)) ++ List.replicate (m - k) (.slice none 0 0))
  cnt : M.length = k
  rows : ∀ (i : Nat) (r : RowM) (p : Hdr × List Rat) (b : Rat), M[i]? = some r → rs[i]? = some p → bs[i]? = some b → Blk w r.1 23 (rowC (tabRow m p.2 b i) ++ r.2.2)
  diff : ∀ (i j : Nat) (r p : RowM), M[i]? = some r → M[j]? = some p → r.1 = p.1 → i = j
  apart : ∀ (i : Nat) (r : RowM), M[i]? = some r → r.1 ≠ gr ∧ w0.heap.size ≤ r.1 ∧ r.1 < w.heap.size
  below : Below w0.heap.size w0 w
  caps : ∀ (i : Nat) (r : RowM), M[i]? = some r → n + 1 + m ≤ r.2.1
theorem TabTo.next {w0 w w' : World} {gr m n k : Nat} {rs : List (Hdr × List Rat)} {bs : List Rat} {M : List RowM} (h : TabTo w0 gr m n rs bs k M w) (hb : Below w.heap.size w w') : TabTo w0 gr m n rs bs k M w' :=
  ⟨h.hdrs.next hb h.hdrs.lt, h.cnt, fun i r p b h1 h2 h3 => (h.rows i r p b h1 h2 h3).next hb (h.apart i r h1).2.2, h.diff, fun i r h1 => ⟨(h.apart i r h1).1, (h.apart i r h1).2.1, Nat.lt_of_lt_of_le (h.apart i r h1).2.2 hb.size⟩, below_join h.below hb, h.caps⟩
theorem TabTo.put {w0 w w' : World} {gr m n k : Nat} {rs : List (Hdr × List Rat)} {bs : List Rat} {M : List RowM} (h : TabTo w0 gr m n rs bs k M w) {r : RowM} (hk : k < m) (hu : Upd gr w w') (hgr : w0.heap.size ≤ gr)
    (hB : Blk w' gr 40 (splice (M.map (rowV (n + 1 + m)) ++ List.replicate (m - k) (.slice none 0 0)) k [rowV (n + 1 + m) r]))
    (hr : ∀ (p : Hdr × List Rat) (b : Rat), rs[k]? = some p → bs[k]? = some b → Blk w r.1 23 (rowC (tabRow m p.2 b k) ++ r.2.2)) (hrg : r.1 ≠ gr) (hr0 : w0.heap.size ≤ r.1) (hrw : r.1 < w.heap.size)
    (hnew : ∀ (i : Nat) (p : RowM), M[i]? = some p → p.1 ≠ r.1) (hrc : n + 1 + m ≤ r.2.1) : TabTo w0 gr m n rs bs (k + 1) (M ++ [r]) w' := by
  have hcnt := h.cnt
  have e : splice (M.map (rowV (n + 1 + m)) ++ List.replicate (m - k) (Value.slice none 0 0)) k [rowV (n + 1 + m) r] = (M ++ [r]).map (rowV (n + 1 + m)) ++ List.replicate (m - (k + 1)) (.slice none 0 0) := by
    have hl : (M.map (rowV (n + 1 + m))).length = k := by rw [List.length_map, hcnt]
    have hrep : List.replicate (m - k) (Value.slice none 0 0) = .slice none 0 0 :: List.replicate (m - (k + 1)) (.slice none 0 0) := by
      have : m - k = (m - (k + 1)) + 1 := by omega
      rw [this, List.replicate_succ]
    rw [hrep, splice_mid _ _ _ _ _ hl, List.map_append, List.append_assoc]; rfl
  rw [e] at hB
  refine ⟨hB, by rw [List.length_append, hcnt]; rfl, fun i q p b h1 h2 h3 => ?_, fun i j q p h1 h2 h3 => ?_, fun i q h1 => ?_, h.below.trans (hu.below hgr), fun i q h1 => ?_⟩
  · rcases Nat.lt_or_ge i k with hi | hi
    · rw [List.getElem?_append_left (by omega)] at h1
      exact (h.rows i q p b h1 h2 h3).upd hu (h.apart i q h1).1
    · rw [List.getElem?_append_right (by omega)] at h1
      have h0 : i - M.length = 0 := by
        have := (List.getElem?_eq_some_iff.1 h1).1
        simpa using this
      rw [h0] at h1
      injection h1 with h1
      subst h1
      have : i = k := by omega
      subst this
      exact (hr p b h2 h3).upd hu hrg
  · have cases_of : ∀ (i : Nat) (q : RowM), (M ++ [r])[i]? = some q → (i < k ∧ M[i]? = some q) ∨ (i = k ∧ q = r) := fun i q h1 => by
      rcases Nat.lt_or_ge i k with hi | hi
      · rw [List.getElem?_append_left (by omega)] at h1
        exact .inl ⟨hi, h1⟩
      · rw [List.getElem?_append_right (by omega)] at h1
        have h0 : i - M.length = 0 := by
          have := (List.getElem?_eq_some_iff.1 h1).1
          simpa using this
        rw [h0] at h1
        injection h1 with h1
        exact .inr ⟨by omega, h1.symm⟩
    rcases cases_of i q h1 with ⟨a1, a2⟩ | ⟨a1, a2⟩ <;> rcases cases_of j p h2 with ⟨b1, b2⟩ | ⟨b1, b2⟩
    · exact h.diff i j q p a2 b2 h3
    · exact absurd (h3.trans (by rw [b2])) (hnew i q a2)
    · exact absurd (h3.symm.trans (by rw [a2])) (hnew j p b2)
    · omega
  · rcases Nat.lt_or_ge i k with hi | hi
    · rw [List.getElem?_append_left (by omega)] at h1
      obtain ⟨q1, q2, q3⟩ := h.apart i q h1
      exact ⟨q1, q2, by rw [hu.size]; exact q3⟩
    · rw [List.getElem?_append_right (by omega)] at h1
      have h0 : i - M.length = 0 := by
        have := (List.getElem?_eq_some_iff.1 h1).1
        simpa using this
      rw [h0] at h1
      injection h1 with h1
      subst h1
      exact ⟨hrg, hr0, by rw [hu.size]; exact hrw⟩
  · rcases Nat.lt_or_ge i k with hi | hi
    · rw [List.getElem?_append_left (by omega)] at h1
      exact h.caps i q h1
    · rw [List.getElem?_append_right (by omega)] at h1
      have h0 : i - M.length = 0 := by
        have := (List.getElem?_eq_some_iff.1 h1).1
        simpa using this
      rw [h0] at h1
      injection h1 with h1
      subst h1
      exact hrc
def TbRel (w0 : World) (gr m n : Nat) (rs : List (Hdr × List Rat)) (bs : List Rat) (i : Value) (wr : World) : Prop := ∃ (k : Nat) (M : List RowM), k ≤ m ∧ i = .int .i64 (k : Int) ∧ TabTo w0 gr m n rs bs k M wr
/-- A row that is owned, and not empty: its block. -/
theorem own_blk {w : World} {base n : Nat} {v : Value} {xs : List Value} (h : w.ownsRow base 23 2 v n xs) (hn : 0 < n) : ∃ g c R, v = .slice (some ⟨g, 0, none⟩) n c ∧ base ≤ g ∧ n ≤ c ∧ Blk w g 23 (xs ++ R) := by
  rcases h.2 with ⟨_, rfl⟩ | ⟨g, cap, cur, rfl, hb, h3, hnc, _, _, ht⟩
  · omega
  · refine ⟨g, cap, cur.toList.drop (n * 2), rfl, hb, hnc, ?_⟩
    have e : xs ++ cur.toList.drop (n * 2) = cur.toList := by rw [← ht, List.take_append_drop]
    rw [e]
    unfold Blk
    rw [h3]
theorem infoL : ∃ i, Tryd.prog.info? 40 = some i ∧ i.zero = some (.slice none 0 0) ∧ i.size = 1 ∧ i.bytes = 24 := by
  have h : (Tryd.prog.info? 40).map (fun i => (i.zero, i.size, i.bytes)) = some (some (.slice none 0 0), 1, 24) := by kernel_rfl
  cases hq : Tryd.prog.info? 40 with
  | none => simp [hq] at h
  | some i =>
    simp [hq] at h
    exact ⟨i, rfl, h.1, h.2.1, h.2.2⟩
theorem Tryd.szL : (Tryd.prog.info? 40).map (·.size) = some 1 := by kernel_rfl
theorem made_one (n : Nat) (v : Value) (hv : v.cells = #[v]) : (madeCells v.cells (n * 1)).toList = List.replicate n v := by
  rw [hv]
  unfold madeCells
  rw [Array.toList_map, Array.toList_range, Nat.mul_one]
  apply List.ext_getElem?
  intro k
  rw [List.getElem?_map, List.getElem?_replicate]
  by_cases hk : k < n
  · rw [List.getElem?_range hk, if_pos hk]
    show some (#[v][k % 1]!) = some v
    rw [Nat.mod_one]; rfl
  · rw [List.getElem?_eq_none (by rw [List.length_range]; omega), if_neg hk]; rfl
/-- A new row of rows. -/
theorem wpList_makeL {ops : Array Oper} {rest : List Oper} {o : Oper} {a : Act} {w : World} {Q : Exit → Act → World → Prop} (hgd : o.guard = none) (x y : Operand) (ho : o.op = .makeSlice 45 x y) (n : Nat) (hn : n ≤ 100000) (hx : a.eval x = .int .i64 (n : Int)) (hy : a.eval y = .int .i64 (n : Int))
    (h : ∀ g w', Hid (g = w.heap.size) → Below w.heap.size w w' → Blk w' g 40 (List.replicate n (.slice none 0 0)) → wpList Tryd.prog ops Q rest (a.put o.dst (.slice (some ⟨g, 0, none⟩) n n)) w') : wpList Tryd.prog ops Q (o :: rest) a w := by
  refine wpList_plain hgd fun K hK => ?_
  obtain ⟨i, h1, h2, h3, h4⟩ := infoL
  have hr := run_make w 45 40 i _ Tryd.underlying45 h1 h2 .i64 .i64 (n : Int) (n : Int) (by omega) (Int.le_refl _) (by rw [h4]; omega) (by omega)
  rw [h3, Int.toNat_natCast] at hr
  unfold Oper.wp execOp
  simp only [ho, hx, hy, Sem.run_bind, Sem.run_pure, Result.andThen_ok, hr]
  refine hK _ _ (h _ _ rfl (below_new w _) ?_)
  have hb := blk_new w 40 (madeCells (Value.slice none 0 0).cells (n * 1)).toList
  rw [made_one n _ rfl] at hb
  have e : (madeCells (Value.slice none 0 0).cells (n * 1)) = (List.replicate n (Value.slice none 0 0)).toArray := by
    apply Array.ext'
    rw [made_one n _ rfl]
  rw [e]
  exact hb
set_option maxRecDepth 100000 in
set_option maxHeartbeats 6400000 in
theorem tableOf_any (A : Option Addr) (c : Nat) (rs : List (Hdr × List Rat)) (ab : Addr) (cb m n : Nat) (bs : List Rat) (w : World) (hm : rs.length = m) (hm20 : m ≤ 100) (hn20 : n ≤ 100) (hS : HdrsAt w A (rs.map fun p => p.1)) (hR : ∀ p ∈ rs, GivenRow w n p)
    (hbl : bs.length = m) (hcb : m ≤ cb) (hb : ∀ j u, (rowC bs)[j]? = some u → w.cell? (ab.add j) = some u) :
    Calls Tryd.prog 60 #[.slice A m c, .slice (some ab) m cb] w fun e w' => ∃ gr M, e = .returned (.slice (some ⟨gr, 0, none⟩) m m) ∧ w.heap.size ≤ gr ∧ TabTo w gr m n rs bs m M w' := by
  have hget : ∀ k, k < m → ∃ p b, rs[k]? = some p ∧ bs[k]? = some b ∧ GivenRow w n p ∧ ∃ ad, A = some ad ∧ w.cell? (ad.add k) = some (hdrV p.1) := fun k hk => by
    have h1 : rs[k]? = some (rs[k]'(by omega)) := List.getElem?_eq_getElem (by omega)
    have h2 : bs[k]? = some (bs[k]'(by omega)) := List.getElem?_eq_getElem (by omega)
    exact ⟨_, _, h1, h2, hR _ (List.mem_of_getElem? h1), hS k _ (by rw [List.getElem?_map, h1]; rfl)⟩
  have HGT := Lib.hid hget
  have HB := Lib.hid hb
  have HRP := Lib.hid (fun gx c q w hx => repeat_any gx c m q w (by omega) hx)
  have hmi : (m : Int) ≤ 100 := by omega
  clear hS hR hb hget hm hbl
  go_enter Tryd.func60, Tryd.ntmps60
  go_wp2_with (with_reducible refine wpList_makeL (o := ⟨some 10, .makeSlice 45 (.tmp 9) (.tmp 9), _, _, _, _⟩) (by with_unfolding_all rfl) (.tmp 9) (.tmp 9) (by with_unfolding_all rfl) m (by omega) (by with_unfolding_all rfl) (by with_unfolding_all rfl) ?_)
  intro gr w1 hgr hb1 hB1
  have hl : w.heap.size ≤ gr := Nat.le_of_eq hgr.out.symm
  have hT0 : TabTo w gr m n rs bs 0 [] w1 := ⟨hB1, rfl, (fun i r p b h1 => by cases h1), (fun i j r p h1 => by cases h1), (fun i r h1 => by cases h1), hb1, (fun i r h1 => by cases h1)⟩
  clear hB1 hb1 hgr
  go_wp2
  go_loopw [13] (TbRel w gr m n rs bs) (fun i _ => m - (intOf i).toNat)
  case atStart => exact ⟨0, [], Nat.zero_le _, rfl, hT0⟩
  case round =>
    clear hT0
    obtain ⟨k, M, hk, rfl, hT⟩ := hrel
    by_cases hlt : k < m
    · have hki : (k : Int) < (m : Int) := by omega
      have hk0 : (0 : Int) ≤ (k : Int) := by omega
      obtain ⟨p, b, hp, hbk, hgv, ad, rfl, hc⟩ := HGT.out k hlt
      go_wp2_with fail
      (with_reducible refine (whole_any 0 _).mono ?_)
      rintro e w2 ⟨rfl, hb2⟩
      have hT := hT.next hb2
      clear hb2
      go_wp2_with (with_reducible refine wpList_row1 (o := ⟨some 17, .buildSlice 40 1 #[(0, .tmp 16)], _, _, _, _⟩) (by with_unfolding_all rfl) (.tmp 16) (by with_unfolding_all rfl) 0 1 (by with_unfolding_all rfl) ?_)
      intro gx w3 hgx hb3 hX
      have hT := hT.next hb3
      have hx0 : w3.rangeAt gx 0 (qC 0) := blk_range hX
      clear hb3 hgx
      go_wp2_with fail
      (with_reducible refine (HRP.out gx 1 0 _ hx0).mono ?_)
      rintro e w4 ⟨gm, rfl, hgm, hM, hb4⟩
      have hgm3 : w3.heap.size ≤ gm := hgm
      clear hgm hX hx0
      go_wp2_with fail
      (with_reducible refine (whole_any 1 _).mono ?_)
      rintro e w5 ⟨rfl, hb5⟩
      have hM5 := hM.next hb5 hM.lt
      have hacc5 := below_join hb4 hb5
      clear hb4 hb5 hM
      have hone : (rowC (List.replicate m 0)).length = m * 2 := by rw [rowC_length, List.length_replicate]
      go_wp2_with (with_reducible refine wpList_put (o := ⟨none, .store 23 (.tmp 24) (.tmp 23), _, _, _, _⟩) (by with_unfolding_all rfl) 23 (.tmp 24) (.tmp 23) (by with_unfolding_all rfl) gm (k * 2) (by with_unfolding_all rfl) (.agg [Value.int .i64 1, Value.int .i64 1].toArray) (by with_unfolding_all rfl) hM5 [Value.int .i64 1, Value.int .i64 1] (by with_unfolding_all rfl) (by with_unfolding_all (exact Tryd.szQ)) (by with_unfolding_all (rw [hone]; show k * 2 + 2 ≤ m * 2; omega)) (by with_unfolding_all (exact int_one 1 1)) ?_)
      intro w6 hu6 hM6
      have hmk : splice (rowC (List.replicate m 0)) (k * 2) [Value.int .i64 1, Value.int .i64 1] = rowC ((List.replicate m (0 : Rat)).set k 1) := by
        have h := rowR_set (l := prs (List.replicate m (0 : Rat))) (k := k) (p := ((1 : Rat).num, ((1 : Rat).den : Int))) (R := []) (by rw [prs_length, List.length_replicate]; exact hlt)
        rw [List.append_nil, List.append_nil, prs_set] at h
        exact h
      rw [hmk] at hM6
      have hacc6 := hacc5.trans (hu6.below (B := w3.heap.size) hgm3)
      clear hM5 hacc5 hu6 hone hmk
      have hbw := hT.below
      obtain ⟨⟨B, q, d⟩, al⟩ := p
      obtain ⟨hq, hal, hgl⟩ := hgv
      have hq' : q = n := hq
      subst hq'
      have hall : al.length = q := hal
      have hacw := below_join hbw hacc6
      have HCE := Lib.hid (show ∀ w', Below w6.heap.size w6 w' → w'.cell? (ad.add k) = some (.slice B q d) from fun w' hb => cellq_below (below_join hacw hb) hc)
      have hc0 := HCE.out w6 (Below.refl _ _)
      have hwk : IntKind.i64.wrap ((k : Int) + 1) = (k : Int) + 1 := by simp only [IntKind.wrap_i64]; omega
      have hk1 : (k : Int) + 1 ≤ (cb : Int) := by omega
      have hk2 : (k : Int) ≤ (k : Int) + 1 := by omega
      have hk3 : ¬ cb = k := by omega
      have hk4 : (0 : Int) ≤ (k : Int) + 1 := by omega
      go_wp2
      have hdd := below_drew w6
      refine wp_region_held_drew (S := fun w' => w'.cell? (ad.add k) = some (.slice B q d)) (by kernel_rfl) (HCE.out _ hdd) (fun hHeld => ?_)
      generalize w6.drew = wd at hdd hHeld ⊢
      refine wpAnyH_take (i := 0) (v := ?vv0) rfl (by kernel_rfl) (by kernel_rfl) (by kernel_rfl) (fun _ _ _ h => h) (Or.inl ⟨by rfl, ?yv0⟩) (by assumption) ?rv0
      case yv0 => intro w hSw; (try dsimp only at hSw); go_simp <;> (try with_reducible rfl)
      (try simp only [List.getElem_toArray, List.getElem_cons_zero, Act.put, List.setIfInBounds_toArray, List.set_cons_zero, List.set_cons_succ])
      refine wpAnyH_take (i := 1) (v := ?vv1) rfl (by kernel_rfl) (by kernel_rfl) (by kernel_rfl) (fun _ _ _ h => h) (Or.inl ⟨by rfl, ?yv1⟩) (by assumption) ?rv1
      case yv1 => intro w hSw; (try dsimp only at hSw); go_simp <;> (try with_reducible rfl)
      (try simp only [List.getElem_toArray, List.getElem_cons_succ, List.getElem_cons_zero, Act.put, List.setIfInBounds_toArray, List.set_cons_zero, List.set_cons_succ])
      refine wpAnyH_take (i := 2) (v := ?vv2) rfl (by kernel_rfl) (by kernel_rfl) (by kernel_rfl) (fun _ _ _ h => h) (Or.inl ⟨by rfl, ?yv2⟩) (by assumption) ?rv2
      case yv2 => intro w hSw; (try dsimp only at hSw); go_simp <;> (try with_reducible rfl)
      (try simp only [List.getElem_toArray, List.getElem_cons_succ, List.getElem_cons_zero, Act.put, List.setIfInBounds_toArray, List.set_cons_zero, List.set_cons_succ])
      refine wpAnyH_take (i := 3) (v := ?vv3) rfl (by kernel_rfl) (by kernel_rfl) (by kernel_rfl) (fun _ _ _ h => h) (Or.inl ⟨by rfl, ?yv3⟩) (by assumption) ?rv3
      case yv3 => intro w hSw; (try dsimp only at hSw); go_simp <;> (try with_reducible rfl)
      (try simp only [List.getElem_toArray, List.getElem_cons_succ, List.getElem_cons_zero, Act.put, List.setIfInBounds_toArray, List.set_cons_zero, List.set_cons_succ])
      refine wpAnyH_take (i := 4) (v := ?vv4) rfl (by kernel_rfl) (by kernel_rfl) (by kernel_rfl) (fun _ _ _ h => h) (Or.inl ⟨by rfl, ?yv4⟩) (by assumption) ?rv4
      case yv4 => intro w hSw; (try dsimp only at hSw); go_simp <;> (try with_reducible rfl)
      (try simp only [List.getElem_toArray, List.getElem_cons_succ, List.getElem_cons_zero, Act.put, List.setIfInBounds_toArray, List.set_cons_zero, List.set_cons_succ])
      refine wpAnyH_take (i := 5) (v := ?vv5) rfl (by kernel_rfl) (by kernel_rfl) (by kernel_rfl) (fun _ _ _ h => h) (Or.inl ⟨by rfl, ?yv5⟩) (by assumption) ?rv5
      case yv5 => intro w hSw; (try dsimp only at hSw); go_simp <;> (try with_reducible rfl)
      (try simp only [List.getElem_toArray, List.getElem_cons_succ, List.getElem_cons_zero, Act.put, List.setIfInBounds_toArray, List.set_cons_zero, List.set_cons_succ])
      refine wpAnyH_take (i := 6) (v := ?vv6) rfl (by kernel_rfl) (by kernel_rfl) (by kernel_rfl) (fun _ _ _ h => h) (Or.inl ⟨by rfl, ?yv6⟩) (by assumption) ?rv6
      case yv6 => intro w hSw; (try dsimp only at hSw); go_simp <;> (try with_reducible rfl)
      (try simp only [List.getElem_toArray, List.getElem_cons_succ, List.getElem_cons_zero, Act.put, List.setIfInBounds_toArray, List.set_cons_zero, List.set_cons_succ])
      refine wpAnyH_take (i := 7) (v := ?vv7) rfl (by kernel_rfl) (by kernel_rfl) (by kernel_rfl) (fun _ _ _ h => h) (Or.inl ⟨by rfl, ?yv7⟩) (by assumption) ?rv7
      case yv7 => intro w hSw; (try dsimp only at hSw); go_simp <;> (try with_reducible rfl)
      (try simp only [List.getElem_toArray, List.getElem_cons_succ, List.getElem_cons_zero, Act.put, List.setIfInBounds_toArray, List.set_cons_zero, List.set_cons_succ])
      refine wpAnyH_take (i := 8) (v := ?vv8) rfl (by kernel_rfl) (by kernel_rfl) (by kernel_rfl) (fun _ _ _ h => h) (Or.inl ⟨by rfl, ?yv8⟩) (by assumption) ?rv8
      case yv8 => intro w hSw; (try dsimp only at hSw); go_simp <;> (try with_reducible rfl)
      (try simp only [List.getElem_toArray, List.getElem_cons_succ, List.getElem_cons_zero, Act.put, List.setIfInBounds_toArray, List.set_cons_zero, List.set_cons_succ])
      refine wpAnyH_take (i := 9) (v := ?vv9) rfl (by kernel_rfl) (by kernel_rfl) (by kernel_rfl) (fun _ _ _ h => h) (Or.inl ⟨by rfl, ?yv9⟩) (by assumption) ?rv9
      case yv9 => intro w hSw; (try dsimp only at hSw); go_simp <;> (try with_reducible rfl)
      (try simp only [List.getElem_toArray, List.getElem_cons_succ, List.getElem_cons_zero, Act.put, List.setIfInBounds_toArray, List.set_cons_zero, List.set_cons_succ])
      refine wpAnyH_take (i := 10) (v := ?vv10) rfl (by kernel_rfl) (by kernel_rfl) (by kernel_rfl) (fun _ _ _ h => h) (Or.inl ⟨by rfl, ?yv10⟩) (by assumption) ?rv10
      case yv10 => intro w hSw; (try dsimp only at hSw); go_simp <;> (try with_reducible rfl)
      (try simp only [List.getElem_toArray, List.getElem_cons_succ, List.getElem_cons_zero, Act.put, List.setIfInBounds_toArray, List.set_cons_zero, List.set_cons_succ])
      refine wpAnyH_take (i := 11) (v := ?vv11) rfl (by kernel_rfl) (by kernel_rfl) (by kernel_rfl) (fun _ _ _ h => h) (Or.inl ⟨by rfl, ?yv11⟩) (by assumption) ?rv11
      case yv11 => intro w hSw; (try dsimp only at hSw); go_simp <;> (try with_reducible rfl)
      (try simp only [List.getElem_toArray, List.getElem_cons_succ, List.getElem_cons_zero, Act.put, List.setIfInBounds_toArray, List.set_cons_zero, List.set_cons_succ])
      refine wpAnyH_ready (rs := [12]) (by kernel_rfl) (by simp) ?_
      refine AllReadyH.cons rfl (fun K hK => ?_) AllReadyH.nil
      rw [if_pos (by rfl)]
      refine wp_rows3 (.tmp 30) (.tmp 35) (.tmp 36) rfl (B, q, d) (some (ab.add (k * 2)), 1, cb - k) (some ⟨gm, 0, none⟩, m, m) rfl rfl rfl ?_
      intro g37 w8 hg37 hb8 hB8
      have hdd8 := below_join hdd hb8
      refine hK.out _ _ (HCE.out _ hdd8) (fun hHeld => ?_)
      clear hK K hb8 hg37 hdd
      have hbk0 : w8.heap.size ≥ w3.heap.size := Nat.le_trans hacc6.size hdd8.size
      have hL0 : ∃ L : List (Hdr × List Value), L = [((B, q, d), rowC al), ((some (ab.add (k * 2)), 1, cb - k), rowC [b]), ((some ⟨gm, 0, none⟩, m, m), rowC ((List.replicate m (0 : Rat)).set k 1))] := ⟨_, rfl⟩
      obtain ⟨L, hL⟩ := hL0
      have hLn : lensTo L = q + 1 + m := by rw [hL]; unfold lensTo; simp; omega
      have hLc : cellsTo L = rowC (tabRow m al b k) := by
        rw [hL]
        unfold cellsTo tabRow
        rw [rowC_append, rowC_append]
        simp
      have hLl : L.length = 3 := by rw [hL]; rfl
      have hLH : HdrsAt w8 (some ⟨g37, 0, none⟩) (L.map fun p => p.1) := fun j h hj => by
        refine ⟨_, rfl, ?_⟩
        rw [addr_mid, Nat.zero_add]
        refine hB8.cell ?_
        rw [hL] at hj
        match j with
        | 0 => injection hj with hj; subst hj; rfl
        | 1 => injection hj with hj; subst hj; rfl
        | 2 => injection hj with hj; subst hj; rfl
        | j + 3 => cases hj
      have hbw8 := below_join hacw hdd8
      have hM8 := hM6.next hdd8 hM6.lt
      have hLP : ∀ p ∈ L, Part w8 p := fun p hp => by
        rw [hL] at hp
        rcases List.mem_cons.1 hp with rfl | hp
        · exact ⟨by show (rowC al).length = q * 2; rw [rowC_length, hall], (by
            rcases hgl with h0 | ⟨ap, hap, hlies⟩
            · exact .inl h0
            · exact .inr ⟨ap, hap, fun j u hu => cellq_below hbw8 (hlies j u hu)⟩), rowR_one _⟩
        rcases List.mem_cons.1 hp with rfl | hp
        · refine ⟨rfl, .inr ⟨ab.add (k * 2), rfl, fun j u hu => cellq_below hbw8 ?_⟩, rowR_one _⟩
          have h1 := rowR_cell (l := prs bs) (R := []) (prs_get hbk)
          rw [List.append_nil] at h1
          rw [Addr.add_add]
          match j with
          | 0 => injection hu with hu; subst hu; exact HB.out _ _ h1.1
          | 1 => injection hu with hu; subst hu; exact HB.out _ _ h1.2
          | j + 2 => cases hu
        rw [List.mem_singleton.1 hp]
        refine ⟨by show (rowC _).length = m * 2; rw [rowC_length, List.length_set, List.length_replicate], .inr ⟨_, rfl, fun j u hu => ?_⟩, rowR_one _⟩
        rw [addr_mid, Nat.zero_add]
        exact hM8.cell hu
      have HCA := Lib.hid (concat_any (some ⟨g37, 0, none⟩) 3 L w8 (by omega) hLH hLP (by omega))
      rw [hLl, hLn, hLc] at HCA
      clear hL hLn hLc hLl hLH hLP hM8 hB8
      refine wpAnyH_ready (rs := [13]) (by kernel_rfl) (by simp) ?_
      refine AllReadyH.cons rfl (fun K hK => ?_) AllReadyH.nil
      go_simp
      go_wp2_with fail
      (with_reducible refine HCA.out.mono ?_)
      rintro e w9 ⟨v9, rfl, hown, hb9⟩
      obtain ⟨gn, cn, Rn, rfl, hgn, hcn, hBn⟩ := own_blk hown (by omega)
      have hdd9 := below_join hdd8 hb9
      refine hK.out _ _ (HCE.out _ hdd9) (fun hHeld => ?_)
      clear hK K hb9 hown HCA
      refine wpAnyH_take (i := 14) (v := ?vv14) rfl (by kernel_rfl) (by kernel_rfl) (by kernel_rfl) (fun _ _ _ h => h) (Or.inl ⟨by rfl, ?yv14⟩) (by assumption) ?rv14
      case yv14 => intro w hSw; (try dsimp only at hSw); go_simp <;> (try with_reducible rfl)
      (try simp only [List.getElem_toArray, List.getElem_cons_succ, List.getElem_cons_zero, Act.put, List.setIfInBounds_toArray, List.set_cons_zero, List.set_cons_succ])
      have hT9 := hT.next (below_join hacc6 hdd9)
      refine wpAnyH_ready (rs := [15]) (by kernel_rfl) (by simp) ?_
      refine AllReadyH.cons rfl (fun K hK => ?_) AllReadyH.nil
      rw [if_pos (by rfl)]
      refine wp_put 40 (.tmp 39) (.tmp 38) rfl gr k rfl (.slice (some ⟨gn, 0, none⟩) (q + 1 + m) cn) rfl hT9.hdrs [.slice (some ⟨gn, 0, none⟩) (q + 1 + m) cn] rfl Tryd.szL (by rw [List.length_append, List.length_map, hT9.cnt, List.length_replicate]; show k + 1 ≤ k + (m - k); omega) (one_cell1 rfl) ?_
      intro w10 hu10 hB10
      have hT10 := hT9.put (r := (gn, cn, Rn)) hlt hu10 hl hB10 (fun p2 b2 h1 h2 => by
        rw [hp] at h1
        rw [hbk] at h2
        injection h1 with h1
        injection h2 with h2
        subst h1
        subst h2
        exact hBn) (by
        have := hT.hdrs.lt
        show gn ≠ gr
        omega) (by
        have := hT.below.size
        show w.heap.size ≤ gn
        omega) hBn.lt (fun i p2 h1 => by
        have := (hT.apart i p2 h1).2.2
        show p2.1 ≠ gn
        omega) hcn
      have hce10 : w10.cell? (ad.add k) = some (.slice B q d) := cellq_below hT10.below hc
      refine hK.out _ _ hce10 (fun hHeld => ?_)
      clear hK K hu10 hB10
      refine wpAnyH_done (by kernel_rfl) ?_ _
      go_wp2
      go_roundw
      case rel => exact ⟨k + 1, _, by omega, by go_num, hT10⟩
      case measure => simp [intOf]; omega
    · obtain rfl : k = m := by omega
      have hki : ¬ (k : Int) < (k : Int) := by omega
      go_wp2
      go_ret
      first | exact ⟨gr, M, rfl, hl, hT⟩ | exact ⟨gr, rfl, hl, M, hT⟩
end Go.Proofs.YthjaelopmfjfeaaDoor
