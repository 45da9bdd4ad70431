/-
  Contracts of the walks over the program's MinusAll and Sum. Conditions: right patterns.
-/
import Derived.Test.YtbldnhpbmfmepaaDoorKSc
import Derived.Test.YtbldnhpbmfmepaaDoorKSd
namespace Go.Proofs.YtbldnhpbmfmepaaDoor
set_option linter.unusedVariables false
set_option linter.unusedSimpArgs false
open Go.RowKit

set_option maxRecDepth 100000 in
/-- 'append' of a list that may be nil; where the new row lies. -/
theorem wpList_appR3 (w : World) {ops : Array Oper} {rest : List Oper} {o : Oper} {a : Act} {Q : Exit → Act → World → Prop} (hw : Region.wanted o (yielded ops a.tmps) = true) (s x : Operand)
    (ho : o.op = .call { callee := .builtin .append, args := #[s, x], argTypes := #[31, 31] }) (base : Nat) (v : Value) (n : Nat) (xs : List Value) (hs : a.eval s = v) (hown : w.ownsRow base 25 20 v n xs)
    (A : Option Addr) (m c : Nat) (ys : List Value) (hx : a.eval x = .slice A m c) (hl : ys.length = m * 20) (hc : CellsAt w A ys) (h1 : ∀ u ∈ ys, u.oneCell' = true) (hnil : A = none → m = 0 ∧ c = 0) (hmx : (n + m) * 160 ≤ 140737488355328) (hbase : base ≤ w.heap.size)
    (h : ∀ v' w', w'.ownsRow base 25 20 v' (n + m) (xs ++ ys) → w.grownBy w' v.ownBlock → (v'.ownBlock = v.ownBlock ∨ ∀ g, v'.ownBlock = some g → w.heap.size ≤ g) → wpList Tryd.prog ops Q rest (a.put o.dst v') w') : wpList Tryd.prog ops Q (o :: rest) a w := by
  refine BigFrame.wpList_want hw fun K hK' => ?_
  obtain ⟨i0, hi0, hz0, hz1, hz2⟩ := info_parts Tryd.infoPt
  cases A with
  | none =>
    obtain ⟨rfl, rfl⟩ := hnil rfl
    have hys : ys = [] := List.eq_nil_of_length_eq_zero (by simpa using hl)
    subst hys
    have hrun := run_append_owned_none (P := Tryd.prog) w base 31 o.type 25 i0 20 Tryd.underlying31 hi0 _ n xs hown
    unfold Oper.wp
    simp [execOp, ho, resolve, invoke, builtin, hs, hx, hrun, Result.andThen]
    exact hK' _ _ (h v w (by simpa using hown) (World.grownBy.refl _ _) (.inl rfl))
  | some ad =>
    have hzs : (Value.agg (H no ++ H no).toArray).cells.size = 20 := by
      show (H no ++ H no).toArray.size = 20
      rw [List.size_toArray, List.length_append, H_length]
    obtain ⟨v', w', hrun, r1, r2, r3⟩ := run_append_new (P := Tryd.prog) w base 31 o.type 25 i0 _ 20 160 Tryd.underlying31 hi0 hz0 hz1 hz2 hzs (by decide) v n xs hown ad m c ys hl (fun j u hu => by
      obtain ⟨ad', e, hcell⟩ := hc j u hu
      injection e with e
      subst e
      exact hcell) h1 (by unfold maxLen; omega) (by omega) hbase
    unfold Oper.wp
    simp [execOp, ho, resolve, invoke, builtin, hs, hx, hrun, Result.andThen]
    exact hK' _ _ (h v' w' r1 r2 r3)
set_option maxRecDepth 100000 in
set_option maxHeartbeats 3200000 in
theorem bigMinusAll_any (cl : Nat) (Al : Option Addr) (l : List Pat) (p : Pat) (w : World) (hok : ∀ q, q ∈ l → q.ok) (hp : p.ok) (hll : l.length ≤ 1000000) (hl : PatsAt w Al l) :
    Calls Tryd.prog 56 #[.agg p.cells.toArray, .slice Al l.length cl] w fun e w' => MinR w.heap.size p l 4000 e w' ∧ Below w.heap.size w w' := by
  obtain ⟨n, hn⟩ : ∃ n, Hid (l.length = n) := ⟨_, rfl⟩
  have hc : ∀ W, Below w.heap.size w W → Calls Tryd.prog 89 #[.agg p.cells.toArray, .slice Al n cl, .int .i64 4000] W fun e w' => MinR W.heap.size p l 4000 e w' ∧ Below W.heap.size W w' := fun W hb => by
    rw [← hn.out]
    exact minusAll_any cl Al l p 4000 W hok hp hll (hl.next hb) (by decide)
  have HC := Lib.hid hc
  have hunP := Tryd.underlying25
  have hzp : (Tryd.prog.info? 25).map (·.size) = some p.cells.length := by rw [Pat.cells_length]; exact Tryd.szP
  rw [hn.out]
  clear hc hok hp hll hl
  go_enter Tryd.func56, Tryd.ntmps56
  go_wp2_with (with_reducible refine wpList_box (o := ⟨some 2, .box 25 (.tmp 0), _, _, _, _⟩) ?g2 25 (.tmp 0) ?o2 (.agg p.cells.toArray) p.cells ?x2 ?c2 ?_)
  try (case g2 => rfl)
  try (case o2 => rfl)
  try (case x2 => rfl)
  try (case c2 => rfl)
  intro g2 w1 hg2 hs1 hb1 B2
  have hbe : Below w.heap.size w w1 := hb1.mono (Nat.le_of_eq hg2.out.symm)
  clear hb1 hs1 hg2
  go_wp2_with (with_reducible refine wpList_get (o := ⟨some 6, .load 25 (.tmp 2), _, _, _, _⟩) (by with_unfolding_all rfl) 25 (.tmp 2) (by with_unfolding_all rfl) g2 0 (by with_unfolding_all rfl) B2 p.cells (cs_all _) _ (by exact hunP) (by with_unfolding_all rfl) (by exact hzp) ?_)
  (with_reducible refine (HC.out _ hbe).mono ?_)
  rintro e w2 ⟨hR, hb2⟩
  have hs2 := hbe.size
  have hbe := below_join hbe hb2
  rcases hR with ⟨hf, A, c, rfl, how⟩ | ⟨hnf, rfl⟩
  · have HO := Lib.hid (own_mono (base' := w.heap.size) how (fun g hg => Nat.le_trans hs2 (how.lt g hg).1))
    have HF := Lib.hid hf
    clear how hf hb2 B2
    go_wp2
    go_ret2
    exact ⟨.inl ⟨HF.out, A, c, rfl, HO.out⟩, hbe⟩
  · have HF := Lib.hid hnf
    clear hnf hb2 B2
    go_wp2
    go_ret2
    exact ⟨.inr ⟨HF.out, rfl⟩, hbe⟩
/-- What Sum answers: the sum, or that there is too much. -/
def SumR (base : Nat) (l : List Pat) (e : Ending) (w' : World) : Prop :=
  ((∀ j, j < l.length → fitS l j) ∧ ∃ A c, e = .returned (.tuple #[.slice A (sumTo l l.length).length c, .int .i64 0]) ∧ w'.ownsRow base 25 20 (.slice A (sumTo l l.length).length c) (sumTo l l.length).length (patCells (sumTo l l.length))) ∨ ((∃ j, j < l.length ∧ ¬ fitS l j) ∧ e = .returned (.tuple #[.slice none 0 0, .int .i64 2]))
structure SumI (l : List Pat) (w : World) (k : Nat) (As Ap : Option Addr) (cs cp : Nat) (Q : List Pat) (wr : World) : Prop where
  fit : ∀ j, j < k → fitS l j
  cov : Cov Q (l.take k)
  qok : ∀ x, x ∈ Q → x.ok
  qlen : Q.length ≤ k
  own1 : wr.ownsRow w.heap.size 25 20 (.slice As (sumTo l k).length cs) (sumTo l k).length (patCells (sumTo l k))
  own2 : wr.ownsRow w.heap.size 25 20 (.slice Ap Q.length cp) Q.length (patCells Q)
  apart : ∀ g, (Value.slice As (sumTo l k).length cs).ownBlock = some g → (Value.slice Ap Q.length cp).ownBlock ≠ some g
  below : Below w.heap.size w wr
def SumRel (l : List Pat) (n : Nat) (w : World) (sv pv iv : Value) (wr : World) : Prop :=
  ∃ (k : Nat) (As Ap : Option Addr) (cs cp : Nat) (Q : List Pat), k ≤ n ∧ iv = .int .i64 (k : Int) ∧ sv = .slice As (sumTo l k).length cs ∧ pv = .slice Ap Q.length cp ∧ SumI l w k As Ap cs cp Q wr
set_option maxRecDepth 100000 in
set_option maxHeartbeats 12800000 in
theorem sum_any (cl : Nat) (Al : Option Addr) (l : List Pat) (w : World) (hok : ∀ q, q ∈ l → q.ok) (hll : l.length ≤ 100000) (hl : PatsAt w Al l) :
    Calls Tryd.prog 58 #[.slice Al l.length cl] w fun e w' => SumR w.heap.size l e w' ∧ Below w.heap.size w w' := by
  have HOK := Lib.hid hok
  have HL := Lib.hid hl
  obtain ⟨n, hn⟩ : ∃ n, Hid (l.length = n) := ⟨_, rfl⟩
  rw [hn.out] at hll ⊢
  have hunP := Tryd.underlying25
  have hzp : ∀ x : Pat, (Tryd.prog.info? 25).map (·.size) = some x.cells.length := fun x => by rw [Pat.cells_length]; exact Tryd.szP
  have HZP := Lib.hid hzp
  clear hok hl hzp
  have H0 : Hid (SumI l w 0 none none 0 0 [] w) := (⟨fun j hj => absurd hj (Nat.not_lt_zero j), Cov.nil, (fun x hx => by cases hx), Nat.le_refl _, World.ownsRow_nil _ _ _ _, World.ownsRow_nil _ _ _ _, (fun g hg => by cases hg), Below.refl _ _⟩ : SumI l w 0 none none 0 0 [] w)
  go_enter Tryd.func58, Tryd.ntmps58
  go_wp2
  go_loopw [4, 5, 12] (SumRel l n w) (fun _ _ i _ => n - (intOf i).toNat)
  case atStart => exact ⟨0, none, none, 0, 0, [], Nat.zero_le _, rfl, rfl, rfl, H0.out⟩
  case round =>
    clear H0
    obtain ⟨k, As, Ap, cs, cp, Q, hk, rfl, rfl, rfl, hI⟩ := hrel
    have HI := Lib.hid hI
    clear hI
    by_cases hlt : k < n
    · have hki : (k : Int) < (n : Int) := by omega
      obtain ⟨x, hx⟩ : ∃ x, l[k]? = some x := ⟨_, List.getElem?_eq_getElem (by rw [hn.out]; exact hlt)⟩
      have HX := Lib.hid hx
      have HXO := Lib.hid (HOK.out x (List.mem_of_getElem? hx))
      obtain ⟨ga, oa, hAl, hca⟩ := (HL.out.next HI.out.below) k x hx
      subst hAl
      have hc2 : ∀ (q : Nat) (u : Value), x.cells[q]? = some u → wr.cell? ((⟨ga, oa + k * 20, none⟩ : Addr).add q) = some u := fun q u hu => by rw [addr_mid]; exact hca q u hu
      have zx := HZP.out x
      obtain ⟨S, hS⟩ : ∃ S, Hid (sumTo l k = S) := ⟨_, rfl⟩
      obtain ⟨s, hSs⟩ : ∃ s, Hid (S.length = s) := ⟨_, rfl⟩
      obtain ⟨u, hQu⟩ : ∃ u, Hid (Q.length = u) := ⟨_, rfl⟩
      have hs4 : s ≤ 4000 := by have := sum_le k HI.out.fit; rw [hS.out, hSs.out] at this; omega
      have huk : u ≤ k := by have := HI.out.qlen; rw [hQu.out] at this; exact this
      have O1 := HI.out.own1
      have O2 := HI.out.own2
      have AP := HI.out.apart
      rw [hS.out, hSs.out] at O1 AP
      rw [hQu.out] at O2 AP
      rw [hS.out, hSs.out, hQu.out]
      have hbe := HI.out.below
      have hws : IntKind.i64.wrap (4000 - (s : Int)) = 4000 - (s : Int) := by simp only [IntKind.wrap_i64]; omega
      clear hx hca
      go_wp2_with (first | (with_reducible refine wpList_load_add (op := ⟨some 15, .load 25 (.tmp 14), _, _, _, _⟩) (by with_unfolding_all rfl) 25 (.tmp 14) (by with_unfolding_all rfl) ⟨ga, oa + k * 20, none⟩ (by with_unfolding_all rfl) x.cells _ hc2 hunP (by with_unfolding_all rfl) zx ?_) | (with_reducible refine wpList_alloc (o := ⟨some 7, .alloc 25, _, _, _, _⟩) (by with_unfolding_all rfl) 25 (by with_unfolding_all rfl) (.agg (H no ++ H no).toArray) (H no ++ H no) (by exact Tryd.zeroPt) (by with_unfolding_all rfl) ?_))
      intro g7 w3 hg7 hs3 hb3 hB3
      have hl7 : wr.heap.size ≤ g7 := Nat.le_of_eq hg7.out.symm
      have hb3 := hb3.mono hl7
      go_wp2_with (with_reducible refine wpList_put (o := ⟨none, .store 25 (.tmp 7) (.tmp 15), _, _, _, _⟩) (by with_unfolding_all rfl) 25 (.tmp 7) (.tmp 15) (by with_unfolding_all rfl) g7 0 (by with_unfolding_all rfl) (.agg x.cells.toArray) (by with_unfolding_all rfl) hB3 x.cells (by with_unfolding_all rfl) (by with_unfolding_all (rw [Pat.cells_length]; exact Tryd.szP)) (by with_unfolding_all (rw [Pat.cells_length, List.length_append, H_length] <;> omega)) (by with_unfolding_all (exact cells_one _)) ?_)
      intro w4 hu4 B7
      rw [splice_all _ _ (by rw [Pat.cells_length, List.length_append, H_length])] at B7
      have hb4 := hb3.trans (hu4.below (B := wr.heap.size) hl7)
      have O1 := own_keep O1 (fun g hg => hb4.block g (O1.lt g hg).2)
      have O2 := own_keep O2 (fun g hg => hb4.block g (O2.lt g hg).2)
      have hbe := below_join hbe hb4
      clear hb3 hb4 hu4 hB3 hl7 hg7 hs3 hc2
      have PQ : PatsAt w4 Ap Q := by
        have OW2 := O2
        rw [← hQu.out] at OW2
        exact own_pats OW2
      have hcall := minusAll_any cp Ap Q x (4000 - (s : Int)) w4 HI.out.qok HXO.out (by rw [hQu.out]; omega) PQ (by omega)
      rw [hQu.out] at hcall
      have HCALL := Lib.hid hcall
      clear hcall PQ
      go_wp2_with (with_reducible refine wpList_get (o := ⟨some 17, .load 25 (.tmp 7), _, _, _, _⟩) (by with_unfolding_all rfl) 25 (.tmp 7) (by with_unfolding_all rfl) g7 0 (by with_unfolding_all rfl) B7 x.cells (cs_all _) _ (by exact hunP) (by with_unfolding_all rfl) (by exact zx) ?_)
      (with_reducible refine HCALL.out.mono ?_)
      rintro e w5 ⟨hR, hb5⟩
      have hlt4 : ∀ g, (Value.slice As s cs).ownBlock = some g → g < w4.heap.size := fun g hg => (O1.lt g hg).2
      have hlt4p : ∀ g, (Value.slice Ap u cp).ownBlock = some g → g < w4.heap.size := fun g hg => (O2.lt g hg).2
      have O1 := own_keep O1 (fun g hg => hb5.block g (O1.lt g hg).2)
      have O2 := own_keep O2 (fun g hg => hb5.block g (O2.lt g hg).2)
      have B7 := B7.next hb5 B7.lt
      have hbe := below_join hbe hb5
      have hs45 := hb5.size
      have hcov := HI.out.cov.left x HXO.out
      have hcfit := HI.out.cov.fit x (4000 - (s : Int)) HXO.out
      have hfs : Hid (fitS l k ↔ allFit x Q (4000 - (s : Int))) := by
        have : fitS l k ↔ allFit x Q (4000 - (s : Int)) := by
          constructor
          · intro h
            have := h x HX.out
            rw [hS.out, hSs.out] at this
            exact hcfit.2 this
          · intro h q hq
            rw [HX.out] at hq
            injection hq with hq
            rw [← hq, hS.out, hSs.out]
            exact hcfit.1 h
        exact this
      have hsum : Hid (sumTo l (k + 1) = S ++ leftTo x Q Q.length) := by
        have : sumTo l (k + 1) = S ++ leftTo x Q Q.length := by rw [sumTo_succ HX.out, hS.out, hcov]
        exact this
      have htk : Hid (l.take (k + 1) = l.take k ++ [x]) := by
        have : l.take (k + 1) = l.take k ++ [x] := by
          rw [List.take_succ_eq_append_getElem (by rw [hn.out]; exact hlt), (List.getElem?_eq_some_iff.1 HX.out).2]
        exact this
      have hcov0 : Hid (leftTo x Q Q.length = [] → leftTo x (l.take k) (l.take k).length = []) := fun h => by rw [← hcov]; exact h
      clear hb5 HCALL hcov hcfit
      rcases hR with ⟨hf, A8, c8, rfl, O3⟩ | ⟨hnf, rfl⟩
      · have HF : Hid (fitS l k) := hfs.out.2 hf
        have hln := hf Q.length (Nat.le_refl _)
        obtain ⟨L, hL⟩ : ∃ L, Hid (leftTo x Q Q.length = L) := ⟨_, rfl⟩
        rw [hL.out] at O3 hln hsum hcov0 ⊢
        obtain ⟨j, hLj⟩ : ∃ j, Hid (L.length = j) := ⟨_, rfl⟩
        rw [hLj.out] at O3 hln ⊢
        have hfit2 : Hid (∀ i, i < k + 1 → fitS l i) := fun i hi => by
          by_cases e : i = k
          · rw [e]; exact HF.out
          · exact HI.out.fit i (by omega)
        clear hf hfs
        by_cases hj0 : j = 0
        · have hL0 : L = [] := List.eq_nil_of_length_eq_zero (by rw [hLj.out]; exact hj0)
          have HC2 : Hid (Cov Q (l.take (k + 1))) := by
            have : Cov Q (l.take (k + 1)) := by
              rw [htk.out]
              exact HI.out.cov.skip HXO.out (fun y hy => HOK.out y (List.mem_of_mem_take hy)) (hcov0.out hL0)
            exact this
          have hsm : Hid (sumTo l (k + 1) = S) := by
            have : sumTo l (k + 1) = S := by rw [hsum.out, hL0, List.append_nil]
            exact this
          have HN : Hid (SumI l w (k + 1) As Ap cs cp Q w5) := (⟨hfit2.out, HC2.out, HI.out.qok, by rw [hQu.out]; omega, by rw [hsm.out, hSs.out]; exact O1, by rw [hQu.out]; exact O2, by rw [hsm.out, hSs.out, hQu.out]; exact AP, hbe⟩ : SumI l w (k + 1) As Ap cs cp Q w5)
          have e1 : Hid ((sumTo l (k + 1)).length = s) := by
            have : (sumTo l (k + 1)).length = s := by rw [hsm.out, hSs.out]
            exact this
          subst hj0
          clear O1 O2 O3 AP hlt4 hlt4p B7 hbe hL0
          go_wp2
          go_roundw
          case rel => exact ⟨k + 1, As, Ap, cs, cp, Q, by omega, by go_num, by rw [e1.out], by rw [hQu.out], HN.out⟩
          case measure => simp [intOf]; omega
        · have hjz : ¬ ((j : Int) = 0) := by omega
          have hjb : ((j : Int) == 0) = false := beq_eq_false_iff_ne.2 hjz
          have hd0 : decide ((j : Int) = 0) = false := decide_eq_false hjz
          go_wp2_with (first | (with_reducible refine wpList_get (o := ⟨some 32, .load 25 (.tmp 7), _, _, _, _⟩) (by with_unfolding_all rfl) 25 (.tmp 7) (by with_unfolding_all rfl) g7 0 (by with_unfolding_all rfl) B7 x.cells (cs_all _) _ (by exact hunP) (by with_unfolding_all rfl) (by exact zx) ?_) | (with_reducible refine wpList_slicePat (o := ⟨some 33, .buildSlice 31 1 #[(0, .tmp 32)], _, _, _, _⟩) (by with_unfolding_all rfl) (.tmp 32) (by with_unfolding_all rfl) x.cells (by with_unfolding_all rfl) (Pat.cells_length _) ?_))
          intro g6 w6 hg6 hb6 hB6
          have O1 := own_keep O1 (fun g hg => hb6.block g (O1.lt g hg).2)
          have O2 := own_keep O2 (fun g hg => hb6.block g (O2.lt g hg).2)
          have O3 := own_keep O3 (fun g hg => hb6.block g (O3.lt g hg).2)
          have hs56 := hb6.size
          have hbe := below_join hbe hb6
          have hcs : CellsAt w6 (some ⟨g6, 0, none⟩) x.cells := fun v u hu => ⟨⟨g6, 0, none⟩, rfl, blk_add hB6 v u hu⟩
          have HCS := Lib.hid hcs
          have HXL : Hid (x.cells.length = 1 * 20) := by
            have : x.cells.length = 1 * 20 := by rw [Pat.cells_length]
            exact this
          have hs6 := hbe.size
          clear hb6 hB6 hg6 hcs B7
          go_wp2_with (with_reducible refine wpList_appR3 _ (o := ⟨some 34, .call ⟨.builtin .append, #[.tmp 31, .tmp 33], #[31, 31]⟩, _, _, _, _⟩) (by with_unfolding_all rfl) (.tmp 31) (.tmp 33) (by with_unfolding_all rfl) w.heap.size _ u (patCells Q) (by with_unfolding_all rfl) O2 (some ⟨g6, 0, none⟩) 1 1 x.cells (by with_unfolding_all rfl) HXL.out HCS.out (cells_one _) (fun e => by cases e) (by omega) hs6 ?_)
          intro v7 w7 O27 hgr7 hnew7
          have hbe7 := hbe.grown hgr7 hs6 (fun g hg => (O2.lt g hg).1)
          have O17 := own_keep O1 (fun g hg => hgr7.block g (O1.lt g hg).2 (fun e => AP g hg e.symm))
          have O37 := own_keep O3 (fun g hg => hgr7.block g (O3.lt g hg).2 (fun e => by have := hlt4p g e.symm; have := (O3.lt g hg).1; omega))
          have AP7 : ∀ g, (Value.slice As s cs).ownBlock = some g → v7.ownBlock ≠ some g := fun g hg e => by
            rcases hnew7 with h | h
            · exact AP g hg (h.symm.trans e)
            · have := h g e
              have := hlt4 g hg
              omega
          obtain ⟨Ap7, cp7, hv7, _⟩ := own_shape O27
          subst hv7
          have hsz7 := hgr7.size
          have P3 : PatsAt w7 A8 L := by
            have OW3 := O37
            rw [← hLj.out] at OW3
            exact own_pats OW3
          have HC3 := Lib.hid P3.cellsAt
          have HL3 : Hid ((patCells L).length = j * 20) := by
            have : (patCells L).length = j * 20 := by rw [patCells_length, hLj.out]
            exact this
          have hnil3 : A8 = none → j = 0 ∧ c8 = 0 := fun e => by
            obtain ⟨A', c', hv, hsh⟩ := own_shape O37
            injection hv with e1 e2 e3
            subst e1 e3
            rcases hsh with ⟨_, hc0, hj⟩ | ⟨g, hg, _⟩
            · exact ⟨hj, hc0⟩
            · rw [hg] at e; cases e
          have HNIL := Lib.hid hnil3
          have hs7 := hbe7.size
          clear hbe hs6 HCS HXL O1 O2 O3 hgr7 P3 hnil3
          go_wp2_with (with_reducible refine wpList_appR3 _ (o := ⟨some 37, .call ⟨.builtin .append, #[.tmp 35, .tmp 36], #[31, 31]⟩, _, _, _, _⟩) (by with_unfolding_all rfl) (.tmp 35) (.tmp 36) (by with_unfolding_all rfl) w.heap.size _ s (patCells S) (by with_unfolding_all rfl) O17 A8 j c8 (patCells L) (by with_unfolding_all rfl) HL3.out HC3.out (patCells_one _) HNIL.out (by omega) hs7 ?_)
          intro v8 w8 O18 hgr8 hnew8
          have hbe8 := hbe7.grown hgr8 hs7 (fun g hg => (O17.lt g hg).1)
          have O28 := own_keep O27 (fun g hg => hgr8.block g (O27.lt g hg).2 (fun e => AP7 g e.symm hg))
          obtain ⟨As8, cs8, hv8, _⟩ := own_shape O18
          subst hv8
          have AP8 : ∀ g, (Value.slice As8 (s + j) cs8).ownBlock = some g → (Value.slice Ap7 (u + 1) cp7).ownBlock ≠ some g := fun g hg e => by
            rcases hnew8 with h | h
            · exact AP7 g (h.symm.trans hg) e
            · have := h g hg
              have := (O27.lt g e).2
              omega
          have hl1 : (S ++ L).length = s + j := by rw [List.length_append, hSs.out, hLj.out]
          have hl2 : (Q ++ [x]).length = u + 1 := by rw [List.length_append, List.length_singleton, hQu.out]
          have O1f : w8.ownsRow w.heap.size 25 20 (.slice As8 (S ++ L).length cs8) (S ++ L).length (patCells (S ++ L)) := by rw [hl1, patCells_app]; exact O18
          have O2f : w8.ownsRow w.heap.size 25 20 (.slice Ap7 (Q ++ [x]).length cp7) (Q ++ [x]).length (patCells (Q ++ [x])) := by rw [hl2, patCells_app, show patCells [x] = x.cells from List.append_nil _]; exact O28
          have HN : Hid (SumI l w (k + 1) As8 Ap7 cs8 cp7 (Q ++ [x]) w8) := (⟨hfit2.out, by rw [htk.out]; exact HI.out.cov.next, fun y hy => by
            rcases List.mem_append.1 hy with hy | hy
            · exact HI.out.qok y hy
            · rw [List.mem_singleton] at hy
              rw [hy]; exact HXO.out, by rw [hl2]; omega, by rw [hsum.out]; exact O1f, O2f, by rw [hsum.out, hl1, hl2]; exact AP8, hbe8⟩ : SumI l w (k + 1) As8 Ap7 cs8 cp7 (Q ++ [x]) w8)
          have e1 : Hid ((sumTo l (k + 1)).length = s + j) := by
            have : (sumTo l (k + 1)).length = s + j := by rw [hsum.out, hl1]
            exact this
          have e2 := Lib.hid hl2
          clear O18 O28 O17 O27 O37 AP AP7 AP8 hgr8 hnew7 hnew8 hbe7 hbe8 O1f O2f hl1 hl2 hlt4 hlt4p HC3
          go_wp2
          go_roundw
          case rel => exact ⟨k + 1, As8, Ap7, cs8, cp7, Q ++ [x], by omega, by go_num, by rw [e1.out], by rw [e2.out], HN.out⟩
          case measure => simp [intOf]; omega
      · have HF : Hid (∃ j, j < n ∧ ¬ fitS l j) := ⟨k, hlt, fun h => hnf (hfs.out.1 h)⟩
        clear hnf hfs O1 O2 AP hlt4 hlt4p B7 hsum htk hcov0
        go_wp2
        go_ret2
        exact ⟨.inr ⟨by rw [hn.out]; exact HF.out, rfl⟩, hbe⟩
    · obtain rfl : k = n := by omega
      have HR : Hid (SumR w.heap.size l (.returned (.tuple #[.slice As (sumTo l l.length).length cs, .int .i64 0])) wr) := .inl ⟨fun j hj => HI.out.fit j (by rw [← hn.out]; exact hj), As, cs, rfl, by rw [hn.out]; exact HI.out.own1⟩
      have hbe := HI.out.below
      rw [hn.out] at HR
      go_wp2
      go_ret2
      exact ⟨HR.out, hbe⟩
end Go.Proofs.YtbldnhpbmfmepaaDoor
