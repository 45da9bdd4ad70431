/-
  Contract of the walk over Join of the program. Conditions: few tokens; texts that fit into memory.
-/
import Derived.Test.YtcefaipjncohmaaGreatDoorQo
namespace Go.Proofs.YtcefaipjncohmaaGreatDoor
set_option linter.unusedVariables false
set_option linter.unusedSimpArgs false
open Go.RowKit Go.Shelf

def joinTs (l : List Tok) : List Tok := l.filter fun t => decide (t.kind ≠ 6)
def joinM (l : List Tok) : List UInt8 := Lib.join ((joinTs l).map (·.text)) [32]
def sVs (l : List Tok) : List Value := (joinTs l).map fun t => .string (tB t)
theorem run_sl1 (w : World) (s : ByteArray) : (Instr.buildSlice 27 1 #[(0, .string s)]).run Tryz.prog w = .ok (.slice (some ⟨w.heap.size, 0, none⟩) 1 1) (w.alloc (.cells [Value.string s].toArray 9)) := by kernel_rfl
theorem wpList_sl1 {ops : Array Oper} {rest : List Oper} {o : Oper} {a : Act} {w : World} {Q : Exit → Act → World → Prop} (hgd : o.guard = none) (x : Operand) (ho : o.op = .buildSlice 27 1 #[(0, x)]) (s : ByteArray) (hx : a.eval x = .string s)
    (h : ∀ g w', Hid (g = w.heap.size) → Below w.heap.size w w' → Blk w' g 9 [Value.string s] → wpList Tryz.prog ops Q rest (a.put o.dst (.slice (some ⟨g, 0, none⟩) 1 1)) w') : wpList Tryz.prog ops Q (o :: rest) a w := by
  refine wpList_plain hgd fun K hK => ?_
  have hr := run_sl1 w s
  unfold Oper.wp execOp
  simp only [ho, List.map_toArray, List.map_cons, List.map_nil, hx, Sem.run_bind, Sem.run_pure, Result.andThen_ok, hr]
  exact hK _ _ (h _ _ rfl (below_new w _) (blk_new w _ _))
theorem infoStr : ∃ i, Tryz.prog.info? 9 = some i ∧ i.zero = some (.string ByteArray.empty) ∧ i.size = 1 ∧ i.bytes = 16 := by
  have h : (Tryz.prog.info? 9).map (fun i => (i.zero, i.size, i.bytes)) = some (some (.string ByteArray.empty), 1, 16) := by kernel_rfl
  cases hq : Tryz.prog.info? 9 with
  | none => simp [hq] at h
  | some i =>
    simp [hq] at h
    exact ⟨i, rfl, h.1, h.2.1, h.2.2⟩
/-- append of one text. -/
theorem wpList_appS {ops : Array Oper} {rest : List Oper} {o : Oper} {a : Act} {w : World} {Q : Exit → Act → World → Prop} (hgd : o.guard = none) (s x : Operand)
    (ho : o.op = .call { callee := .builtin .append, args := #[s, x], argTypes := #[27, 27] }) (base : Nat) (v : Value) (n : Nat) (xs : List Value) (hs : a.eval s = v) (hown : w.ownsRow base 9 1 v n xs)
    (g : Nat) (u : Value) (hx : a.eval x = .slice (some ⟨g, 0, none⟩) 1 1) (hg : Blk w g 9 [u]) (h1 : u.oneCell' = true) (hn : n ≤ 1000000) (hbase : base ≤ w.heap.size)
    (h : ∀ v' w', w'.ownsRow base 9 1 v' (n + 1) (xs ++ [u]) → w.grownBy w' v.ownBlock → wpList Tryz.prog ops Q rest (a.put o.dst v') w') : wpList Tryz.prog ops Q (o :: rest) a w := by
  refine wpList_plain hgd fun K hK => ?_
  obtain ⟨i, i1, i2, i3, i4⟩ := infoStr
  obtain ⟨v', w', hr, r1, r2, _⟩ := run_append_own (P := Tryz.prog) w base 27 o.type 9 i _ 1 16 Tryz.underlying27 i1 i2 i3 i4 rfl (by decide) v n xs hown ⟨g, 0, none⟩ 1 1 [u] rfl (fun j y hy => by
    rw [addr_mid, Nat.zero_add]
    exact hg.cell hy) (one_cell1 h1) (by show n + 1 ≤ maxLen; unfold maxLen; omega) (by omega) hbase
  unfold Oper.wp
  simp [execOp, ho, resolve, invoke, builtin, hs, hx, hr, Result.andThen]
  exact hK _ _ (h v' w' r1 r2)
theorem sVs_length (l : List Tok) : (sVs l).length = (joinTs l).length := by unfold sVs; rw [List.length_map]
theorem join_next {l : List Tok} {k : Nat} {t : Tok} (h : l[k]? = some t) : joinTs (l.take (k + 1)) = joinTs (l.take k) ++ (if t.kind = 6 then [] else [t]) := by
  have hl := (List.getElem?_eq_some_iff.1 h).1
  have e := (List.getElem?_eq_some_iff.1 h).2
  rw [← List.take_append_getElem hl, e]
  unfold joinTs
  rw [List.filter_append]
  congr 1
  by_cases h6 : t.kind = 6
  · rw [if_pos h6]; simp [h6]
  · rw [if_neg h6]; simp [h6]
def JnRel (l : List Tok) (w : World) (i v : Value) (wr : World) : Prop :=
  ∃ (k m : Nat), k ≤ l.length ∧ m ≤ k ∧ (joinTs (l.take k)).length = m ∧ i = .int .i64 (k : Int) ∧ wr.ownsRow w.heap.size 9 1 v m (sVs (l.take k)) ∧ Below w.heap.size w wr
theorem strs_own {w : World} {T n c : Nat} {A : Option Addr} {xs : List Value} (h : w.ownsRow T 9 1 (.slice A n c) n xs) : (A = none ∧ n = 0) ∨ ∃ g, A = some ⟨g, 0, none⟩ ∧ g < w.heap.size ∧ n ≤ c ∧ ∀ j u, xs[j]? = some u → w.cell? ⟨g, 0 + j, none⟩ = some u := by
  rcases h.2 with ⟨h1, h0⟩ | ⟨g, cap, cur, hv, hb, h3, hnc, _, hsz, htk⟩
  · injection h1 with hA
    exact Or.inl ⟨hA, h0⟩
  · injection hv with hA _ hc
    subst hc
    refine Or.inr ⟨g, hA, (Array.getElem?_eq_some_iff.1 h3).1, hnc, fun j u hu => ?_⟩
    rw [cell_of_row w g _ cur 9 (0, 0) h3, ← Array.getElem?_toList, Nat.zero_add]
    rw [← htk, List.getElem?_take] at hu
    split at hu
    · exact hu
    · cases hu
theorem join_lib (A : Option Addr) (c : Nat) (ts : List Tok) (T : Nat) (w : World) (h : w.ownsRow T 9 1 (.slice A ts.length c) ts.length (ts.map fun t => .string (tB t))) (hN : ts.length ≤ 1000000) (hlen : (Lib.join (ts.map (·.text)) [32]).length ≤ 140737488355328) :
    Calls Tryz.prog 41 #[.slice A ts.length c, .string { data := #[32] }] w fun e w' => e = .returned (.string ⟨(Lib.join (ts.map (·.text)) [32]).toArray⟩) ∧ Below w.heap.size w w' := by
  rcases strs_own h with ⟨rfl, h0⟩ | ⟨g, rfl, hg, hc, hcell⟩
  · have : ts = [] := List.eq_nil_of_length_eq_zero h0
    subst this
    refine Calls.mono (Any.strings_Join_none Tryz.joinA Tryz.joinX none c { data := #[32] } w) ?_
    rintro e w' ⟨rfl, rfl⟩
    exact ⟨rfl, Below.refl _ _⟩
  · have e1 : ((ts.map tB).map (·.data.toList)) = ts.map (·.text) := by
      rw [List.map_map]
      rfl
    have h2 := Any.strings_Join Tryz.joinA Tryz.joinX g 0 c (ts.map tB) { data := #[32] } w (fun j x hx => by
      refine hcell j _ ?_
      rw [List.getElem?_map] at hx ⊢
      cases ht : ts[j]? with
      | none => rw [ht] at hx; cases hx
      | some t => rw [ht] at hx; injection hx with hx; rw [← hx]; rfl) hg (by rw [List.length_map]; omega) (by rw [List.length_map]; exact hc) (by rw [e1]; exact hlen)
    rw [List.length_map, e1] at h2
    exact h2
set_option maxRecDepth 100000 in
set_option maxHeartbeats 3200000 in
theorem join_any (A : Option Addr) (c : Nat) (l : List Tok) (w : World) (hN : l.length ≤ 100000) (hA : TksAt w A l) (hlen : (joinM l).length ≤ 140737488355328) :
    Calls Tryz.prog 15 #[.slice A l.length c] w fun e w' => e = .returned (.string ⟨(joinM l).toArray⟩) ∧ Below w.heap.size w w' := by
  obtain ⟨n, hn⟩ : ∃ n, Hid (l.length = n) := ⟨_, rfl⟩
  rw [hn.out] at hN ⊢
  have HA := Lib.hid hA
  have HJ := fun A c T w h hN => join_lib A c (joinTs l) T w h hN hlen
  obtain ⟨J, hJ⟩ : ∃ J, (⟨(joinM l).toArray⟩ : ByteArray) = J := ⟨_, rfl⟩
  rw [show (⟨(Lib.join ((joinTs l).map (·.text)) [32]).toArray⟩ : ByteArray) = J from hJ] at HJ
  rw [hJ]
  clear hA hlen hJ
  have hni : (n : Int) ≤ 100000 := by omega
  go_enter Tryz.func15, Tryz.ntmps15
  go_wp2
  go_loopw [8, 3] (JnRel l w) (fun i _ _ => n - (intOf i).toNat)
  case atStart => exact ⟨0, 0, Nat.zero_le _, Nat.le_refl _, rfl, rfl, World.ownsRow_nil _ _ _ _, Below.refl _ _⟩
  case round =>
    obtain ⟨k, m, hk, hmk, hm, rfl, Ov, hbe⟩ := hrel
    rw [hn.out] at hk
    have HM := Lib.hid hm
    clear hm
    by_cases hlt : k < n
    · have hki : (k : Int) < (n : Int) := by omega
      have hk0 : (0 : Int) ≤ (k : Int) := by omega
      obtain ⟨t, ht⟩ : ∃ t, l[k]? = some t := ⟨_, List.getElem?_eq_getElem (by rw [hn.out]; exact hlt)⟩
      obtain ⟨ga, oa, hAe, hc⟩ := (HA.out.next hbe) k t ht
      subst hAe
      have c0 : wr.cell? ⟨ga, oa + k * 5, none⟩ = some (.int .i64 (t.kind : Int)) := hc 0 _ rfl
      have c1 : wr.cell? ⟨ga, oa + k * 5 + 1, none⟩ = some (.int .i64 (t.n : Int)) := hc 1 _ rfl
      have c2 : wr.cell? ⟨ga, oa + k * 5 + 2, none⟩ = some (.string (tB t)) := hc 2 _ rfl
      have c3 : wr.cell? ⟨ga, oa + k * 5 + 3, none⟩ = some (.int .i64 (t.line : Int)) := hc 3 _ rfl
      have c4 : wr.cell? ⟨ga, oa + k * 5 + 4, none⟩ = some (.int .i64 (t.col : Int)) := hc 4 _ rfl
      have HNX := Lib.hid (join_next ht)
      have HTT : Hid (tB t = tB t) := rfl
      obtain ⟨X, hX⟩ : ∃ X, Hid (tB t = X) := ⟨_, rfl⟩
      rw [hX.out] at c2
      clear hc ht HTT
      by_cases h6 : t.kind = 6
      · skip
        have h6i : ((t.kind : Int) != 6) = false := by rw [h6]; rfl
        have hnx : Hid (joinTs (l.take (k + 1)) = joinTs (l.take k)) := by
          have : joinTs (l.take (k + 1)) = joinTs (l.take k) := by rw [HNX.out, if_pos h6, List.append_nil]
          exact this
        obtain ⟨K, hK⟩ : ∃ K, t.kind = K := ⟨_, rfl⟩
        obtain ⟨N1, hN1⟩ : ∃ K, t.n = K := ⟨_, rfl⟩
        obtain ⟨L1, hL1⟩ : ∃ K, t.line = K := ⟨_, rfl⟩
        obtain ⟨C1, hC1⟩ : ∃ K, t.col = K := ⟨_, rfl⟩
        rw [hK] at c0 h6i
        rw [hN1] at c1
        rw [hL1] at c3
        rw [hC1] at c4
        clear hK hN1 hL1 hC1 h6 HNX
        go_wp2_with (with_reducible refine wpList_alloc (o := ⟨some 5, .alloc 30, _, _, _, _⟩) (by with_unfolding_all rfl) 30 (by with_unfolding_all rfl) (.agg #[.int .i64 0, .int .i64 0, .string ByteArray.empty, .int .i64 0, .int .i64 0]) [Value.int .i64 0, .int .i64 0, .string ByteArray.empty, .int .i64 0, .int .i64 0] (by exact Tryz.zeroTok) (by with_unfolding_all rfl) ?_)
        intro g5 w11 hg5 hs11 hb11 B5
        have onOv_5 : ∀ q, Value.ownBlock u3 = some q → q ≠ g5 := fun q hq e => by have := (own_base Ov q hq).2; have := hg5.out; omega
        have hl5 : w.heap.size ≤ g5 := Nat.le_trans hbe.size (Nat.le_of_eq hg5.out.symm)
        have hb11 := hb11.mono (Nat.le_of_eq hg5.out.symm)
        have Ov := own_next Ov hb11
        have hbe := below_join hbe hb11
        clear hb11 hg5 hs11
        go_wp2_with (with_reducible refine wpList_put (o := ⟨none, .store 30 (.tmp 5) (.tmp 11), _, _, _, _⟩) (by with_unfolding_all rfl) 30 (.tmp 5) (.tmp 11) (by with_unfolding_all rfl) g5 0 (by with_unfolding_all rfl) (.agg #[.int .i64 (K : Int), .int .i64 (N1 : Int), .string X, .int .i64 (L1 : Int), .int .i64 (C1 : Int)]) (by with_unfolding_all rfl) B5 [Value.int .i64 (K : Int), .int .i64 (N1 : Int), .string X, .int .i64 (L1 : Int), .int .i64 (C1 : Int)] (by with_unfolding_all rfl) (by with_unfolding_all (exact Tryz.szTok)) (by with_unfolding_all (exact Nat.le_refl 5)) (by with_unfolding_all (exact tok_one _ _ _ _ _)) ?_)
        intro w12 hu12 C5
        rw [splice_all _ _ (by rfl)] at C5
        have Ov := own_keep Ov (fun q hq => hu12.block q (onOv_5 q hq))
        have hbe := hbe.trans (hu12.below (B := w.heap.size) hl5)
        clear B5 hu12
        have B5 := C5
        clear C5
        have z5_0 := B5.cell (k := 0) rfl
        have z5_2 := B5.cell (k := 2) rfl
        go_wp2
        go_roundw
        case rel => exact ⟨k + 1, m, by rw [hn.out]; omega, by omega, by rw [hnx.out]; exact HM.out, by go_num, by unfold sVs; rw [hnx.out]; exact Ov, hbe⟩
        case measure => simp [intOf]; omega
      · skip
        have h6i : ((t.kind : Int) != 6) = true := bne_iff_ne.2 (by omega)
        have hnx : Hid (joinTs (l.take (k + 1)) = joinTs (l.take k) ++ [t]) := by
          have : joinTs (l.take (k + 1)) = joinTs (l.take k) ++ [t] := by rw [HNX.out, if_neg h6]
          exact this
        obtain ⟨K, hK⟩ : ∃ K, t.kind = K := ⟨_, rfl⟩
        obtain ⟨N1, hN1⟩ : ∃ K, t.n = K := ⟨_, rfl⟩
        obtain ⟨L1, hL1⟩ : ∃ K, t.line = K := ⟨_, rfl⟩
        obtain ⟨C1, hC1⟩ : ∃ K, t.col = K := ⟨_, rfl⟩
        rw [hK] at c0 h6i
        rw [hN1] at c1
        rw [hL1] at c3
        rw [hC1] at c4
        clear hK hN1 hL1 hC1 h6 HNX
        go_wp2_with (with_reducible refine wpList_alloc (o := ⟨some 5, .alloc 30, _, _, _, _⟩) (by with_unfolding_all rfl) 30 (by with_unfolding_all rfl) (.agg #[.int .i64 0, .int .i64 0, .string ByteArray.empty, .int .i64 0, .int .i64 0]) [Value.int .i64 0, .int .i64 0, .string ByteArray.empty, .int .i64 0, .int .i64 0] (by exact Tryz.zeroTok) (by with_unfolding_all rfl) ?_)
        intro g5 w11 hg5 hs11 hb11 B5
        have onOv_5 : ∀ q, Value.ownBlock u3 = some q → q ≠ g5 := fun q hq e => by have := (own_base Ov q hq).2; have := hg5.out; omega
        have hl5 : w.heap.size ≤ g5 := Nat.le_trans hbe.size (Nat.le_of_eq hg5.out.symm)
        have hb11 := hb11.mono (Nat.le_of_eq hg5.out.symm)
        have Ov := own_next Ov hb11
        have hbe := below_join hbe hb11
        clear hb11 hg5 hs11
        go_wp2_with (with_reducible refine wpList_put (o := ⟨none, .store 30 (.tmp 5) (.tmp 11), _, _, _, _⟩) (by with_unfolding_all rfl) 30 (.tmp 5) (.tmp 11) (by with_unfolding_all rfl) g5 0 (by with_unfolding_all rfl) (.agg #[.int .i64 (K : Int), .int .i64 (N1 : Int), .string X, .int .i64 (L1 : Int), .int .i64 (C1 : Int)]) (by with_unfolding_all rfl) B5 [Value.int .i64 (K : Int), .int .i64 (N1 : Int), .string X, .int .i64 (L1 : Int), .int .i64 (C1 : Int)] (by with_unfolding_all rfl) (by with_unfolding_all (exact Tryz.szTok)) (by with_unfolding_all (exact Nat.le_refl 5)) (by with_unfolding_all (exact tok_one _ _ _ _ _)) ?_)
        intro w12 hu12 C5
        rw [splice_all _ _ (by rfl)] at C5
        have Ov := own_keep Ov (fun q hq => hu12.block q (onOv_5 q hq))
        have hbe := hbe.trans (hu12.below (B := w.heap.size) hl5)
        clear B5 hu12
        have B5 := C5
        clear C5
        have z5_0 := B5.cell (k := 0) rfl
        have z5_2 := B5.cell (k := 2) rfl
        go_wp2_with (with_reducible refine wpList_sl1 (o := ⟨some 18, .buildSlice 27 1 #[(0, .tmp 17)], _, _, _, _⟩) (by with_unfolding_all rfl) (.tmp 17) (by with_unfolding_all rfl) X (by with_unfolding_all rfl) ?_)
        intro gr w13 hgr hb13 Br
        clear z5_0 z5_2
        have Ov := own_next Ov hb13
        have B5 := B5.next hb13 B5.lt
        have hbe := below_join hbe hb13
        clear hgr
        have hT0 : w.heap.size ≤ w13.heap.size := hbe.size
        have HON := Lib.hid (own_base Ov)
        go_wp2_with (with_reducible refine wpList_appS (o := ⟨some 19, .call ⟨.builtin .append, #[.tmp 15, .tmp 18], #[27, 27]⟩, _, _, _, _⟩) (by with_unfolding_all rfl) (.tmp 15) (.tmp 18) (by with_unfolding_all rfl) w.heap.size u3 m (sVs (l.take k)) (by with_unfolding_all rfl) Ov gr (.string X) (by with_unfolding_all rfl) Br rfl (by omega) hT0 ?_)
        intro v14 w14 Ow hgw
        have hbx := below_grown hgw (fun q hq => (HON.out q hq).1) hT0
        have hbe := hbe.trans hbx
        clear hbx hgw Br Ov HON hT0 B5
        go_wp2
        go_roundw
        case rel => exact ⟨k + 1, m + 1, by rw [hn.out]; omega, by omega, by rw [hnx.out, List.length_append, HM.out]; rfl, by go_num, by unfold sVs; rw [hnx.out, List.map_append, List.map_cons, List.map_nil, hX.out]; exact Ow, hbe⟩
        case measure => simp [intOf]; omega
    · have hkn : k = n := by omega
      subst hkn
      have htk : l.take k = l := by rw [← hn.out]; exact List.take_length
      rw [htk] at Ov HM
      obtain ⟨A3, c3, hv, _⟩ := own_shape Ov
      subst hv
      have hm2 := HM.out
      subst hm2
      have HJ2 := HJ A3 c3 _ _ Ov (by omega)
      clear Ov htk
      go_wp2_with fail
      (with_reducible refine HJ2.mono ?_)
      rintro e w2 ⟨rfl, hb2⟩
      have hbe := below_join hbe hb2
      go_wp2
      go_ret
      exact ⟨rfl, hbe⟩
end Go.Proofs.YtcefaipjncohmaaGreatDoor
