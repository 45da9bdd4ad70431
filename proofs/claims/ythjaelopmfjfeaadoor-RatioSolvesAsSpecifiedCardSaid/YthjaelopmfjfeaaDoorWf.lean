/-
  Contract of the walk over slices.Repeat of one ratio. Conditions: the ratio lies there.
-/
import Derived.Test.YthjaelopmfjfeaaDoorWe
import Derived.Test.YthjaelopmfjfeaaDoorShelfm
import Derived.Shelf.Bits.Mul64
import Derived.Laws.CopyRow
import Derived.Laws.MakeOwn
namespace Go.Proofs.YthjaelopmfjfeaaDoor
set_option linter.unusedVariables false
set_option linter.unusedSimpArgs false
open Go.RowKit Go.Shelf

theorem made_rep (m n : Nat) (v : List Value) (hv : v.length = m) (hm : 0 < m) (f : Nat → Value) (hf : ∀ k, k < m → v[k]? = some (f k)) : (madeCells v.toArray n).toList = (List.range n).map fun k => f (k % m) := by
  unfold madeCells
  rw [Array.toList_map, Array.toList_range]
  apply List.map_congr_left
  intro k _
  have h1 : k % m < m := Nat.mod_lt _ hm
  have h2 := hf _ h1
  have h3 : v.toArray.size = m := by rw [List.size_toArray, hv]
  rw [h3]
  rw [getElem!_pos v.toArray (k % m) (by rw [h3]; exact h1)]
  rw [List.getElem_toArray]
  obtain ⟨_, e⟩ := List.getElem?_eq_some_iff.1 h2
  exact e
/-- A copy between two rows of ratios. -/
theorem run_copyQ (w : World) (ty : TypeId) (g o dLen dCap : Nat) (a : Addr) (sLen sCap m : Nat) (cur : List Value) (t : TypeId) (cs : List Value)
    (hg : Blk w g t cur) (hm : Nat.min sLen dLen = m) (hn : m * 2 = cs.length)
    (hsrc : ∀ j v, cs[j]? = some v → w.cell? (a.add j) = some v) (hfit : o + cs.length ≤ cur.length) (h1 : ∀ v ∈ cs, v.oneCell' = true) :
    ∃ w', (Builtin.copy_ #[40, 40] ty #[.slice (some ⟨g, o, none⟩) dLen dCap, .slice (some a) sLen sCap]).run Tryd.prog w = .ok (goInt m) w' ∧ Upd g w w' ∧ Blk w' g t (splice cur o cs) := by
  have hl := run_loadCells_list (P := Tryd.prog) w a cs hsrc
  have hst := run_storeCells_at Tryd.prog g o t cs 0 cur.toArray w hg (by simpa using hfit) h1
  have hu := Tryd.underlying40
  have hs := Tryd.szQ
  cases hq : Tryd.prog.info? 23 with
  | none => simp [hq] at hs
  | some i =>
    have hi : i.size = 2 := by simpa [hq] using hs
    have hst2 : (storeCells ⟨g, o, none⟩ cs).run Tryd.prog w = .ok () (w.setRow g (splice cur o cs).toArray) := by
      have h2 : (storeCells ⟨g, o, none⟩ cs).run Tryd.prog w = _ := hst
      rw [h2]
      simp [splice]
    refine ⟨w.setRow g (splice cur o cs).toArray, ?_, upd_setRow w g _, blk_setRow hg _⟩
    simp [Builtin.copy_, run_underlying hu, Builtin.lenOf, Builtin.firstCells, sizeOf, typeInfo, hq, hi, hm, hn, hl, hst2]
theorem infoQ : ∃ i, Tryd.prog.info? 23 = some i ∧ i.zero = some (.agg zC.toArray) ∧ i.size = 2 ∧ i.bytes = 16 := by
  have h : (Tryd.prog.info? 23).map (fun i => (i.zero, i.size, i.bytes)) = some (some (.agg zC.toArray), 2, 16) := by kernel_rfl
  cases hq : Tryd.prog.info? 23 with
  | none => simp [hq] at h
  | some i =>
    simp [hq] at h
    exact ⟨i, rfl, h.1, h.2.1, h.2.2⟩
/-- A new row of ratios. -/
theorem run_makeQ (w : World) (n : Nat) (hn : n ≤ 100000) : ∃ w', (Instr.makeSlice 40 (.int .i64 (n : Int)) (.int .i64 (n : Int))).run Tryd.prog w = .ok (.slice (some ⟨w.heap.size, 0, none⟩) n n) w' ∧ Below w.heap.size w w' ∧ ∃ L, L.length = n * 2 ∧ Blk w' w.heap.size 23 L := by
  obtain ⟨i, h1, h2, h3, h4⟩ := infoQ
  have h := run_make w 40 23 i _ Tryd.underlying40 h1 h2 .i64 .i64 (n : Int) (n : Int) (by omega) (Int.le_refl _) (by rw [h4]; omega) (by omega)
  rw [h3, Int.toNat_natCast] at h
  refine ⟨_, h, below_new w _, (madeCells (Value.agg zC.toArray).cells (n * 2)).toList, by rw [Array.length_toList, size_madeCells], ?_⟩
  exact blk_new w _ _
theorem mul_bits (n : Nat) (w : World) (hn : n ≤ 100000) : Calls Tryd.prog 79 #[.int .u64 1, .int .u64 (n : Int)] w fun e w' => e = .returned (.tuple #[.int .u64 0, .int .u64 (n : Int)]) ∧ Below w.heap.size w w' := by
  refine Calls.mono (Any.bits_Mul Tryd.mulA 1 n (by omega) (by omega) w) ?_
  rintro e w' ⟨rfl, rfl⟩
  refine ⟨?_, Below.refl _ _⟩
  have e1 : 1 * n / 18446744073709551616 = 0 := by omega
  have e2 : 1 * n % 18446744073709551616 = n := by omega
  rw [e1, e2]; rfl
theorem goInt_eq (m : Nat) (h : m ≤ 4611686018427387904) : goInt (m : Int) = .int .i64 (m : Int) := by
  unfold goInt
  have : IntKind.i64.wrap (m : Int) = (m : Int) := by simp only [IntKind.wrap_i64]; omega
  first
  | rw [this]
  | simp [this]
theorem wpList_makeQ {ops : Array Oper} {rest : List Oper} {o : Oper} {a : Act} {w : World} {Q : Exit → Act → World → Prop} (hgd : o.guard = none) (x y : Operand) (ho : o.op = .makeSlice 40 x y) (n : Nat) (hn : n ≤ 100000) (hx : a.eval x = .int .i64 (n : Int)) (hy : a.eval y = .int .i64 (n : Int))
    (h : ∀ g w' L, Hid (g = w.heap.size) → Below w.heap.size w w' → L.length = n * 2 → Blk w' g 23 L → wpList Tryd.prog ops Q rest (a.put o.dst (.slice (some ⟨g, 0, none⟩) n n)) w') : wpList Tryd.prog ops Q (o :: rest) a w := by
  refine wpList_plain hgd fun K hK => ?_
  obtain ⟨w', hr, hb, L, hL, hB⟩ := run_makeQ w n hn
  unfold Oper.wp execOp
  simp only [ho, hx, hy, Sem.run_bind, Sem.run_pure, Result.andThen_ok, hr]
  exact hK _ _ (h _ w' L rfl hb hL hB)
theorem wpList_copyQ {ops : Array Oper} {rest : List Oper} {o : Oper} {a : Act} {w : World} {Q : Exit → Act → World → Prop} (hgd : o.guard = none) (d s : Operand)
    (ho : o.op = .call { callee := .builtin .copy, args := #[d, s], argTypes := #[40, 40] }) (g off dLen dCap : Nat) (ad : Addr) (sLen sCap m : Nat) (hd : a.eval d = .slice (some ⟨g, off, none⟩) dLen dCap) (hs : a.eval s = .slice (some ad) sLen sCap) (cur : List Value) (t : TypeId) (cs : List Value)
    (hg : Blk w g t cur) (hm : Nat.min sLen dLen = m) (hmb : m ≤ 4611686018427387904) (hn : m * 2 = cs.length)
    (hsrc : ∀ j v, cs[j]? = some v → w.cell? (ad.add j) = some v) (hfit : off + cs.length ≤ cur.length) (h1 : ∀ v ∈ cs, v.oneCell' = true)
    (h : ∀ w', Upd g w w' → Blk w' g t (splice cur off cs) → wpList Tryd.prog ops Q rest (a.put o.dst (.int .i64 (m : Int))) w') : wpList Tryd.prog ops Q (o :: rest) a w := by
  refine wpList_plain hgd fun K hK => ?_
  obtain ⟨w', hr, hu, hB⟩ := run_copyQ w o.type g off dLen dCap ad sLen sCap m cur t cs hg hm hn hsrc hfit h1
  unfold Oper.wp
  rw [goInt_eq m hmb] at hr
  simp [execOp, ho, resolve, invoke, builtin, hd, hs, hr, Result.andThen]
  exact hK _ _ (h w' hu hB)
theorem wp_copyQ {o : Oper} {a : Act} {w : World} {K : Act → World → Prop} {Q : Exit → Act → World → Prop} (d s : Operand)
    (ho : o.op = .call { callee := .builtin .copy, args := #[d, s], argTypes := #[40, 40] }) (g off dLen dCap : Nat) (ad : Addr) (sLen sCap m : Nat) (hd : a.eval d = .slice (some ⟨g, off, none⟩) dLen dCap) (hs : a.eval s = .slice (some ad) sLen sCap) (cur : List Value) (t : TypeId) (cs : List Value)
    (hg : Blk w g t cur) (hm : Nat.min sLen dLen = m) (hmb : m ≤ 4611686018427387904) (hn : m * 2 = cs.length)
    (hsrc : ∀ j v, cs[j]? = some v → w.cell? (ad.add j) = some v) (hfit : off + cs.length ≤ cur.length) (h1 : ∀ v ∈ cs, v.oneCell' = true)
    (h : ∀ w', Upd g w w' → Blk w' g t (splice cur off cs) → K (a.put o.dst (.int .i64 (m : Int))) w') : Oper.wp Tryd.prog o a w K Q := by
  obtain ⟨w', hr, hu, hB⟩ := run_copyQ w o.type g off dLen dCap ad sLen sCap m cur t cs hg hm hn hsrc hfit h1
  unfold Oper.wp
  rw [goInt_eq m hmb] at hr
  simp [execOp, ho, resolve, invoke, builtin, hd, hs, hr, Result.andThen]
  exact h w' hu hB
theorem rep_splice (q : Rat) (k m n : Nat) (J : List Value) (hJ : J.length = (n - k) * 2) (hkm : k + m ≤ n) : splice (rowC (List.replicate k q) ++ J) (k * 2) (rowC (List.replicate m q)) = rowC (List.replicate (k + m) q) ++ J.drop (m * 2) := by
  unfold splice
  have l1 : (rowC (List.replicate k q)).length = k * 2 := by rw [rowC_length, List.length_replicate]
  have l2 : (rowC (List.replicate m q)).length = m * 2 := by rw [rowC_length, List.length_replicate]
  have a1 : (rowC (List.replicate k q) ++ J).take (k * 2) = rowC (List.replicate k q) := by rw [← l1, List.take_left]
  have a2 : (rowC (List.replicate k q) ++ J).drop (k * 2 + (rowC (List.replicate m q)).length) = J.drop (m * 2) := by
    rw [l2, ← List.drop_drop]
    congr 1
    rw [← l1, List.drop_left]
  have a3 : rowC (List.replicate (k + m) q) = rowC (List.replicate k q) ++ rowC (List.replicate m q) := by rw [← rowC_append, List.replicate_append_replicate]
  rw [a1, a2, a3, List.append_assoc]
def RepRel (q : Rat) (g n : Nat) (w : World) (i : Value) (wr : World) : Prop := ∃ (k : Nat) (J : List Value), k ≤ n ∧ (k = 0 → n = 0) ∧ i = .int .i64 (k : Int) ∧ J.length = (n - k) * 2 ∧ Blk wr g 23 (rowC (List.replicate k q) ++ J) ∧ Below w.heap.size w wr
set_option maxRecDepth 100000 in
set_option maxHeartbeats 3200000 in
theorem repeat_any (gx c n : Nat) (q : Rat) (w : World) (hn : n ≤ 100000) (hx : w.rangeAt gx 0 (qC q)) :
    Calls Tryd.prog 64 #[.slice (some ⟨gx, 0, none⟩) 1 c, .int .i64 (n : Int)] w fun e w' => ∃ g, e = .returned (.slice (some ⟨g, 0, none⟩) n n) ∧ w.heap.size ≤ g ∧ Blk w' g 23 (rowC (List.replicate n q)) ∧ Below w.heap.size w w' := by
  have HX := Lib.hid hx
  have HMU := Lib.hid (fun w => mul_bits n w hn)
  have hw1 : IntKind.u64.wrap (n : Int) = (n : Int) := by simp only [IntKind.wrap_u64]; omega
  have hw2 : IntKind.i64.wrap (n : Int) = (n : Int) := by simp only [IntKind.wrap_i64]; omega
  have hn1 : ¬ (n : Int) < 0 := by omega
  have hn2 : ¬ (9223372036854775807 : Int) < (n : Int) := by omega
  clear hx
  go_enter Tryd.func64, Tryd.ntmps64
  go_wp2_with fail
  (with_reducible refine (HMU.out _).mono ?_)
  rintro e w1 ⟨rfl, hb1⟩
  go_wp2_with (with_reducible refine wpList_makeQ (o := ⟨some 30, .makeSlice 40 (.tmp 29) (.tmp 29), _, _, _, _⟩) (by with_unfolding_all rfl) (.tmp 29) (.tmp 29) (by with_unfolding_all rfl) n hn (by with_unfolding_all rfl) (by with_unfolding_all rfl) ?_)
  intro g w2 L hg hb2 hL hB
  have hlg : w.heap.size ≤ g := Nat.le_trans hb1.size (Nat.le_of_eq hg.out.symm)
  have hbe := below_join hb1 hb2
  obtain ⟨m0, hm0⟩ : ∃ m0, Nat.min 1 n = m0 := ⟨_, rfl⟩
  have hm1 : m0 ≤ 1 := by rw [← hm0]; exact Nat.min_le_left _ _
  have hmn : m0 ≤ n := by rw [← hm0]; exact Nat.min_le_right _ _
  have hm2 : m0 = 0 → n = 0 := fun h => by rw [← hm0] at h; have : min 1 n = 0 := h; omega
  have hcs : (rowC (List.replicate m0 q)).length = m0 * 2 := by rw [rowC_length, List.length_replicate]
  have hsrc : ∀ j v, (rowC (List.replicate m0 q))[j]? = some v → w2.cell? ((⟨gx, 0, none⟩ : Addr).add j) = some v := fun j v hv => by
    have h1 := range_below HX.out hbe
    have h2 : m0 = 0 ∨ m0 = 1 := by omega
    rcases h2 with rfl | rfl
    · cases hv
    · have := h1 j v hv
      rw [Nat.zero_add] at this
      rw [addr_mid, Nat.zero_add]; exact this
  have hone : ∀ u ∈ rowC (List.replicate m0 q), u.oneCell' = true := rowR_one _
  have hfit : 0 + (rowC (List.replicate m0 q)).length ≤ L.length := by rw [hcs, hL]; omega
  have hcs2 := hcs.symm
  have hmb0 : m0 ≤ 4611686018427387904 := by omega
  clear hb1 hb2 hg
  go_wp2_with (with_reducible refine wpList_copyQ (o := ⟨some 33, .call ⟨.builtin .copy, #[.tmp 31, .tmp 32], #[40, 40]⟩, _, _, _, _⟩) (by with_unfolding_all rfl) (.tmp 31) (.tmp 32) (by with_unfolding_all rfl) g 0 n n ⟨gx, 0, none⟩ 1 c m0 (by with_unfolding_all rfl) (by with_unfolding_all rfl) L 23 (rowC (List.replicate m0 q)) hB hm0 hmb0 hcs2 hsrc hfit hone ?_)
  intro w3 hu3 hB3
  have hbe3 := hbe.trans (hu3.below (B := w.heap.size) hlg)
  have hR0 : RepRel q g n w (.int .i64 (m0 : Int)) w3 := ⟨m0, L.drop (m0 * 2), hmn, hm2, rfl, by rw [List.length_drop, hL]; omega, by
    have e : splice L 0 (rowC (List.replicate m0 q)) = rowC (List.replicate m0 q) ++ L.drop (m0 * 2) := by
      unfold splice
      rw [List.take_zero, List.nil_append, Nat.zero_add, hcs]
    rw [e] at hB3
    exact hB3, hbe3⟩
  have HR0 := Lib.hid hR0
  clear hR0 hB3 hbe3 hbe hB hu3 hsrc hcs hL hone hfit hcs2
  go_wp2
  go_loopw [8] (RepRel q g n w) (fun i _ => n - (intOf i).toNat)
  case atStart => exact HR0.out
  case round =>
    clear HR0
    obtain ⟨k, J, hk, hk0, rfl, hJ, hB, hbe⟩ := hrel
    have HJ := Lib.hid hJ
    clear hJ
    by_cases hlt : k < n
    · have hki : (k : Int) < (n : Int) := by omega
      have hkl : (k : Int) ≤ (n : Int) := by omega
      have hki0 : (0 : Int) ≤ (k : Int) := by omega
      have hkp : 0 < k := by omega
      have hnk : ¬ n = k := by omega
      obtain ⟨m, hm⟩ : ∃ m, Nat.min k (n - k) = m := ⟨_, rfl⟩
      have hmk : m ≤ k := by rw [← hm]; exact Nat.min_le_left _ _
      have hmn : m ≤ n - k := by rw [← hm]; exact Nat.min_le_right _ _
      have hmp : 0 < m := by
        rcases Nat.eq_zero_or_pos m with h | h
        · rw [h] at hm
          have : min k (n - k) = 0 := hm
          omega
        · exact h
      have hwm : IntKind.i64.wrap ((k : Int) + (m : Int)) = ((k + m : Nat) : Int) := by simp only [IntKind.wrap_i64]; omega
      have hcs : (rowC (List.replicate m q)).length = m * 2 := by rw [rowC_length, List.length_replicate]
      go_wp2
      have hdd := below_drew wr
      have hB2 := hB.next hdd hB.lt
      have hbe2 := below_join hbe hdd
      refine wp_region_held_drew (S := fun _ => True) (by kernel_rfl) trivial (fun hHeld => ?_)
      generalize wr.drew = wd at hdd hHeld hB2 hbe2 ⊢
      refine wpAnyH_take (i := 0) (v := ?vv0) rfl (by kernel_rfl) (by kernel_rfl) (by kernel_rfl) (fun _ _ _ h => h) (Or.inl ⟨by rfl, ?yv0⟩) (by assumption) ?rv0
      case yv0 => intro w hSw; (try dsimp only at hSw); go_simp <;> (try with_reducible rfl)
      (try simp only [List.getElem_toArray, List.getElem_cons_zero, Act.put, List.setIfInBounds_toArray, List.set_cons_zero, List.set_cons_succ])
      refine wpAnyH_take (i := 1) (v := ?vv1) rfl (by kernel_rfl) (by kernel_rfl) (by kernel_rfl) (fun _ _ _ h => h) (Or.inl ⟨by rfl, ?yv1⟩) (by assumption) ?rv1
      case yv1 => intro w hSw; (try dsimp only at hSw); go_simp <;> (try with_reducible rfl)
      (try simp only [List.getElem_toArray, List.getElem_cons_succ, List.getElem_cons_zero, Act.put, List.setIfInBounds_toArray, List.set_cons_zero, List.set_cons_succ])
      refine wpAnyH_take (i := 2) (v := ?vv2) rfl (by kernel_rfl) (by kernel_rfl) (by kernel_rfl) (fun _ _ _ h => h) (Or.inl ⟨by rfl, ?yv2⟩) (by assumption) ?rv2
      case yv2 => intro w hSw; (try dsimp only at hSw); go_simp <;> (try with_reducible rfl)
      (try simp only [List.getElem_toArray, List.getElem_cons_succ, List.getElem_cons_zero, Act.put, List.setIfInBounds_toArray, List.set_cons_zero, List.set_cons_succ])
      refine wpAnyH_take (i := 3) (v := ?vv3) rfl (by kernel_rfl) (by kernel_rfl) (by kernel_rfl) (fun _ _ _ h => h) (Or.inl ⟨by rfl, ?yv3⟩) (by assumption) ?rv3
      case yv3 => intro w hSw; (try dsimp only at hSw); go_simp <;> (try with_reducible rfl)
      (try simp only [List.getElem_toArray, List.getElem_cons_succ, List.getElem_cons_zero, Act.put, List.setIfInBounds_toArray, List.set_cons_zero, List.set_cons_succ])
      refine wpAnyH_take (i := 4) (v := ?vv4) rfl (by kernel_rfl) (by kernel_rfl) (by kernel_rfl) (fun _ _ _ h => h) (Or.inl ⟨by rfl, ?yv4⟩) (by assumption) ?rv4
      case yv4 => intro w hSw; (try dsimp only at hSw); go_simp <;> (try with_reducible rfl)
      (try simp only [List.getElem_toArray, List.getElem_cons_succ, List.getElem_cons_zero, Act.put, List.setIfInBounds_toArray, List.set_cons_zero, List.set_cons_succ])
      refine wpAnyH_take (i := 5) (v := ?vv5) rfl (by kernel_rfl) (by kernel_rfl) (by kernel_rfl) (fun _ _ _ h => h) (Or.inl ⟨by rfl, ?yv5⟩) (by assumption) ?rv5
      case yv5 => intro w hSw; (try dsimp only at hSw); go_simp <;> (try with_reducible rfl)
      (try simp only [List.getElem_toArray, List.getElem_cons_succ, List.getElem_cons_zero, Act.put, List.setIfInBounds_toArray, List.set_cons_zero, List.set_cons_succ])
      refine wpAnyH_take (i := 6) (v := ?vv6) rfl (by kernel_rfl) (by kernel_rfl) (by kernel_rfl) (fun _ _ _ h => h) (Or.inl ⟨by rfl, ?yv6⟩) (by assumption) ?rv6
      case yv6 => intro w hSw; (try dsimp only at hSw); go_simp <;> (try with_reducible rfl)
      (try simp only [List.getElem_toArray, List.getElem_cons_succ, List.getElem_cons_zero, Act.put, List.setIfInBounds_toArray, List.set_cons_zero, List.set_cons_succ])
      refine wpAnyH_ready (rs := [7]) (by kernel_rfl) (by simp) ?_
      refine AllReadyH.cons rfl (fun K hK => ?_) AllReadyH.nil
      rw [if_pos (by rfl)]
      have hsrc : ∀ j v, (rowC (List.replicate m q))[j]? = some v → wd.cell? ((⟨g, 0, none⟩ : Addr).add j) = some v := fun j v hv => by
        rw [addr_mid, Nat.zero_add]
        refine hB2.cell ?_
        have e : List.replicate k q = List.replicate m q ++ List.replicate (k - m) q := by rw [List.replicate_append_replicate]; congr 1; omega
        rw [e, rowC_append, List.append_assoc, List.getElem?_append_left (List.getElem?_eq_some_iff.1 hv).1]
        exact hv
      refine wp_copyQ (.tmp 41) (.tmp 44) rfl g (k * 2) (n - k) (n - k) ⟨g, 0, none⟩ k n m rfl rfl _ 23 (rowC (List.replicate m q)) hB2 hm (by omega) hcs.symm hsrc (by rw [hcs, List.length_append, rowC_length, List.length_replicate, HJ.out]; omega) (rowR_one _) ?_
      intro w4 hu4 hB4
      rw [rep_splice q k m n J HJ.out (by omega)] at hB4
      have hbe4 := hbe2.trans (hu4.below (B := w.heap.size) hlg)
      refine hK.out _ _ trivial (fun hHeld => ?_)
      clear hK K hu4 hB hB2 hsrc hdd
      refine wpAnyH_take (i := 8) (v := ?vv8) rfl (by kernel_rfl) (by kernel_rfl) (by kernel_rfl) (fun _ _ _ h => h) (Or.inl ⟨by rfl, ?yv8⟩) (by assumption) ?rv8
      case yv8 => intro w hSw; (try dsimp only at hSw); go_simp <;> (try with_reducible rfl)
      (try simp only [List.getElem_toArray, List.getElem_cons_succ, List.getElem_cons_zero, Act.put, List.setIfInBounds_toArray, List.set_cons_zero, List.set_cons_succ])
      refine wpAnyH_take (i := 9) (v := ?vv9) rfl (by kernel_rfl) (by kernel_rfl) (by kernel_rfl) (fun _ _ _ h => h) (Or.inl ⟨by rfl, ?yv9⟩) (by assumption) ?rv9
      case yv9 => intro w hSw; (try dsimp only at hSw); go_simp <;> (try with_reducible rfl)
      (try simp only [List.getElem_toArray, List.getElem_cons_succ, List.getElem_cons_zero, Act.put, List.setIfInBounds_toArray, List.set_cons_zero, List.set_cons_succ])
      refine wpAnyH_done (by kernel_rfl) ?_ _
      go_wp2
      go_roundw
      case rel => exact ⟨k + m, J.drop (m * 2), by omega, by omega, rfl, by rw [List.length_drop, HJ.out]; omega, hB4, hbe4⟩
      case measure => simp [intOf]; omega
    · obtain rfl : k = n := by omega
      have hki : ¬ (k : Int) < (k : Int) := by omega
      have hB2 : Blk wr g 23 (rowC (List.replicate k q)) := by
        have e : J = [] := List.eq_nil_of_length_eq_zero (by rw [HJ.out]; omega)
        rw [e, List.append_nil] at hB
        exact hB
      go_wp2
      go_ret
      exact ⟨g, rfl, hlg, hB2, hbe⟩
end Go.Proofs.YthjaelopmfjfeaaDoor
