/-
  Contract of the walk over the reference's minusEach. Conditions: right patterns, at most 5000.
-/
import Derived.Test.YtbldnhpbmfmepaaDoorKTa
import Derived.Test.YtbldnhpbmfmepaaDoorKSe
namespace Go.Proofs.YtbldnhpbmfmepaaDoor
set_option linter.unusedVariables false
set_option linter.unusedSimpArgs false
open Go.RowKit

theorem flat_len (q : Pat) : ∀ D : List Pat, (D.flatMap fun x => x.minus q).length ≤ 160 * D.length
  | [] => Nat.le_refl _
  | x :: D => by
    rw [List.flatMap_cons, List.length_append, List.length_cons]
    have := minus_length x q
    have := flat_len q D
    omega
theorem nextTo_len (D : List Pat) (q : Pat) (i : Nat) : (nextTo D q i).length ≤ 160 * D.length := Nat.le_trans (nextTo_le D q i) (flat_len q D)
set_option maxRecDepth 100000 in
/-- 'append', one operation of a region that draws its order. -/
theorem wp_appR3 (w : World) {o : Oper} {a : Act} {K : Act → World → Prop} {Q : Exit → Act → World → Prop} (s x : Operand)
    (ho : o.op = .call { callee := .builtin .append, args := #[s, x], argTypes := #[31, 31] }) (base : Nat) (v : Value) (n : Nat) (xs : List Value) (hs : a.eval s = v) (hown : w.ownsRow base 25 20 v n xs)
    (A : Option Addr) (m c : Nat) (ys : List Value) (hx : a.eval x = .slice A m c) (hl : ys.length = m * 20) (hc : CellsAt w A ys) (h1 : ∀ u ∈ ys, u.oneCell' = true) (hnil : A = none → m = 0 ∧ c = 0) (hmx : (n + m) * 160 ≤ 140737488355328) (hbase : base ≤ w.heap.size)
    (h : ∀ v' w', w'.ownsRow base 25 20 v' (n + m) (xs ++ ys) → w.grownBy w' v.ownBlock → (v'.ownBlock = v.ownBlock ∨ ∀ g, v'.ownBlock = some g → w.heap.size ≤ g) → K (a.put o.dst v') w') : Oper.wp Tryd.prog o a w K Q := by
  obtain ⟨i0, hi0, hz0, hz1, hz2⟩ := info_parts Tryd.infoPt
  cases A with
  | none =>
    obtain ⟨rfl, rfl⟩ := hnil rfl
    have hys : ys = [] := List.eq_nil_of_length_eq_zero (by simpa using hl)
    subst hys
    have hrun := run_append_owned_none (P := Tryd.prog) w base 31 o.type 25 i0 20 Tryd.underlying31 hi0 _ n xs hown
    unfold Oper.wp
    simp [execOp, ho, resolve, invoke, builtin, hs, hx, hrun, Result.andThen]
    exact h v w (by simpa using hown) (World.grownBy.refl _ _) (.inl rfl)
  | some ad =>
    have hzs : (Value.agg (H no ++ H no).toArray).cells.size = 20 := by
      show (H no ++ H no).toArray.size = 20
      rw [List.size_toArray, List.length_append, H_length]
    obtain ⟨v', w', hrun, r1, r2, r3⟩ := run_append_new (P := Tryd.prog) w base 31 o.type 25 i0 _ 20 160 Tryd.underlying31 hi0 hz0 hz1 hz2 hzs (by decide) v n xs hown ad m c ys hl (fun j u hu => by
      obtain ⟨ad', e, hcell⟩ := hc j u hu
      injection e with e
      subst e
      exact hcell) h1 (by unfold maxLen; omega) (by omega) hbase
    unfold Oper.wp
    simp [execOp, ho, resolve, invoke, builtin, hs, hx, hrun, Result.andThen]
    exact h v' w' r1 r2 r3
structure EachI (D : List Pat) (q : Pat) (g3 : Nat) (w : World) (i : Nat) (A : Option Addr) (c : Nat) (wr : World) : Prop where
  own : wr.ownsRow (g3 + 1) 25 20 (.slice A (nextTo D q i).length c) (nextTo D q i).length (patCells (nextTo D q i))
  b3 : Blk wr g3 25 q.cells
  below : Below w.heap.size w wr
def EachR (D : List Pat) (q : Pat) (g3 n : Nat) (w : World) (lv iv : Value) (wr : World) : Prop :=
  ∃ (i : Nat) (A : Option Addr) (c : Nat), i ≤ n ∧ iv = .int .i64 (i : Int) ∧ lv = .slice A (nextTo D q i).length c ∧ EachI D q g3 w i A c wr
set_option maxRecDepth 100000 in
set_option maxHeartbeats 3200000 in
theorem rminusEach_any (ca : Nat) (Aa : Option Addr) (D : List Pat) (q : Pat) (w : World) (hok : ∀ x, x ∈ D → x.ok) (hq : q.ok) (hl : D.length ≤ 5000) (ha : PatsAt w Aa D) :
    Calls Tryd.prog 93 #[.slice Aa D.length ca, .agg q.cells.toArray] w fun e w' => ∃ A c, e = .returned (.slice A (D.flatMap fun x => x.minus q).length c) ∧ w'.ownsRow w.heap.size 25 20 (.slice A (D.flatMap fun x => x.minus q).length c) (D.flatMap fun x => x.minus q).length (patCells (D.flatMap fun x => x.minus q)) ∧ Below w.heap.size w w' := by
  have HOK := Lib.hid hok
  have HQ := Lib.hid hq
  have HL := Lib.hid ha
  obtain ⟨n, hn⟩ : ∃ n, Hid (D.length = n) := ⟨_, rfl⟩
  obtain ⟨R, hR⟩ : ∃ R, Hid ((D.flatMap fun x => x.minus q) = R) := ⟨_, rfl⟩
  rw [hn.out] at hl ⊢
  rw [hR.out]
  have hunP := Tryd.underlying25
  have hzp : ∀ x : Pat, (Tryd.prog.info? 25).map (·.size) = some x.cells.length := fun x => by rw [Pat.cells_length]; exact Tryd.szP
  have HZP := Lib.hid hzp
  clear hok hq ha hzp
  go_enter Tryd.func93, Tryd.ntmps93
  go_wp2_with (with_reducible refine wpList_box (o := ⟨some 3, .box 25 (.tmp 1), _, _, _, _⟩) ?g3 25 (.tmp 1) ?o3 (.agg q.cells.toArray) q.cells ?x3 ?c3 ?_)
  try (case g3 => rfl)
  try (case o3 => rfl)
  try (case x3 => rfl)
  try (case c3 => rfl)
  intro g3 w1 hg3 hs1 hb1 B3
  have hge : w.heap.size ≤ g3 := Nat.le_of_eq hg3.out.symm
  have hbe : Below w.heap.size w w1 := hb1.mono hge
  have H0 : Hid (EachI D q g3 w 0 none 0 w1) := (⟨World.ownsRow_nil _ _ _ _, B3, hbe⟩ : EachI D q g3 w 0 none 0 w1)
  clear hb1 hs1 hg3 B3 hbe
  go_wp2
  go_loopw [5, 6] (EachR D q g3 n w) (fun _ i _ => n - (intOf i).toNat)
  case atStart => exact ⟨0, none, 0, Nat.zero_le _, rfl, rfl, H0.out⟩
  case round =>
    clear H0
    obtain ⟨i, B, d, hi, rfl, rfl, hI⟩ := hrel
    have HI := Lib.hid hI
    clear hI
    obtain ⟨N, hN⟩ : ∃ N, Hid (nextTo D q i = N) := ⟨_, rfl⟩
    obtain ⟨j, hNj⟩ : ∃ j, Hid (N.length = j) := ⟨_, rfl⟩
    have hjl : j ≤ 800000 := by
      have := nextTo_len D q i
      rw [hN.out, hNj.out, hn.out] at this
      omega
    have NW := HI.out.own
    rw [hN.out, hNj.out] at NW
    rw [hN.out, hNj.out]
    have B3 := HI.out.b3
    have hbw := HI.out.below
    by_cases hin : i < n
    · have hii : (i : Int) < (n : Int) := by omega
      obtain ⟨x, hx⟩ : ∃ x, D[i]? = some x := ⟨_, List.getElem?_eq_getElem (by rw [hn.out]; exact hin)⟩
      have hxo := HOK.out x (List.mem_of_getElem? hx)
      obtain ⟨gb, ob, hA, hcb⟩ := HL.out i x hx
      subst hA
      have KX : Hid (∀ w', Below w.heap.size w w' → w'.rangeAt gb (ob + i * 20) x.cells) := (fun w' hw v u hu => by rw [hw.cell (World.block_lt_of_cell? w _ (hcb v u hu))]; exact hcb v u hu : ∀ w', Below w.heap.size w w' → w'.rangeAt gb (ob + i * 20) x.cells)
      have hmn := fun w => rminus_any x q w hxo HQ.out
      have HMN := Lib.hid hmn
      have hnx := nextTo_succ (q := q) hx
      rw [hN.out] at hnx
      have hml := minus_length x q
      obtain ⟨M, hM⟩ : ∃ M, Hid (x.minus q = M) := ⟨_, rfl⟩
      rw [hM.out] at hnx hml
      have HNX := Lib.hid hnx
      have zx := HZP.out x
      have zq := HZP.out q
      clear hnx hcb hx hxo hmn
      go_wp2
      have hd3 := hbw.drew
      have NW3 := NW.drew
      have B3d := B3.next (below_drew wr) B3.lt
      refine wp_region_held_drew (S := fun w' => Below w.heap.size w w' ∧ w'.rangeAt g3 0 q.cells) (by kernel_rfl) ⟨hd3, blk_range B3d⟩ (fun hHeld => ?_)
      clear hbw NW B3
      generalize wr.drew = w3 at hd3 NW3 B3d hHeld ⊢
      refine wpAnyH_take (i := 0) (v := ?vt0) rfl (by kernel_rfl) (by kernel_rfl) (by kernel_rfl) (fun _ _ _ h => h) (Or.inl ⟨by rfl, ?yt0⟩) (by assumption) ?rt0
      case yt0 => intro w hSw; (try dsimp only at hSw); go_simp <;> (try with_reducible rfl)
      (try simp only [List.getElem_toArray, List.getElem_cons_zero, Act.put, List.setIfInBounds_toArray, List.set_cons_zero, List.set_cons_succ])
      refine wpAnyH_take (i := 1) (v := ?vt1) rfl (by kernel_rfl) (by kernel_rfl) (by kernel_rfl) (fun _ _ _ h => h) (Or.inl ⟨by rfl, ?yt1⟩) (by assumption) ?rt1
      case yt1 => intro w hSw; (try dsimp only at hSw); go_simp <;> (try with_reducible rfl)
      (try simp only [List.getElem_toArray, List.getElem_cons_succ, List.getElem_cons_zero, Act.put, List.setIfInBounds_toArray, List.set_cons_zero, List.set_cons_succ])
      refine wpAnyH_take (i := 2) (v := ?vt2) rfl (by kernel_rfl) (by kernel_rfl) (by kernel_rfl) (fun _ _ _ h => h) (Or.inl ⟨by rfl, ?yt2⟩) (by assumption) ?rt2
      case yt2 => intro w hSw; (try dsimp only at hSw); go_simp <;> (try with_reducible rfl)
      (try simp only [List.getElem_toArray, List.getElem_cons_succ, List.getElem_cons_zero, Act.put, List.setIfInBounds_toArray, List.set_cons_zero, List.set_cons_succ])
      refine wpAnyH_take (i := 3) (v := ?vt3) rfl (by kernel_rfl) (by kernel_rfl) (by kernel_rfl) (fun _ _ _ h => h) (Or.inl ⟨by rfl, ?yt3⟩) (by assumption) ?rt3
      case yt3 => intro w hSw; (try dsimp only at hSw); go_simp <;> (try with_reducible rfl)
      (try simp only [List.getElem_toArray, List.getElem_cons_succ, List.getElem_cons_zero, Act.put, List.setIfInBounds_toArray, List.set_cons_zero, List.set_cons_succ])
      refine' wpAnyH_take (i := 4) (v := _) rfl (by kernel_rfl) (by kernel_rfl) (by kernel_rfl) (fun _ _ _ h => h) (yieldsIf_load_mid (by rfl) _ _ (by rfl) _ _ (by rfl) _ _ ?St4 ?ut4 ?dt4 ?it4) (by assumption) ?rt4
      case St4 => exact (by intro w h; exact KX.out _ h.1)
      case ut4 => exact hunP
      case dt4 => rfl
      case it4 => exact zx
      (try simp only [List.getElem_toArray, List.getElem_cons_succ, List.getElem_cons_zero, Act.put, List.setIfInBounds_toArray, List.set_cons_zero, List.set_cons_succ])
      refine' wpAnyH_take (i := 5) (v := _) rfl (by kernel_rfl) (by kernel_rfl) (by kernel_rfl) (fun _ _ _ h => h) (yieldsIf_load_mid (by rfl) _ _ (by rfl) _ _ (by rfl) _ _ ?St5 ?ut5 ?dt5 ?it5) (by assumption) ?rt5
      case St5 => exact (by intro w h; exact h.2)
      case ut5 => exact hunP
      case dt5 => rfl
      case it5 => exact zq
      (try simp only [List.getElem_toArray, List.getElem_cons_succ, List.getElem_cons_zero, Act.put, List.setIfInBounds_toArray, List.set_cons_zero, List.set_cons_succ])
      refine wpAnyH_ready (rs := [6]) (by kernel_rfl) (by simp) ?_
      refine AllReadyH.cons rfl (fun K hK => ?_) AllReadyH.nil
      go_simp
      go_wp2_with fail
      (with_reducible refine (HMN.out _).mono ?_)
      rintro e w4 ⟨v4, rfl, O4, hb4⟩
      rw [hM.out] at O4
      have B4 := B3d.next hb4 B3d.lt
      have N4 := own_keep NW3 (fun g hg => hb4.block g (NW3.lt g hg).2)
      have hd4 := below_join hd3 hb4
      obtain ⟨A4, c4, hv4, hsh4⟩ := own_shape O4
      subst hv4
      have P4 : PatsAt w4 A4 M := own_pats O4
      have hnil4 : A4 = none → M.length = 0 ∧ c4 = 0 := fun e => by
        rcases hsh4 with ⟨_, h2, h3⟩ | ⟨g, hg, _⟩
        · exact ⟨h3, h2⟩
        · rw [hg] at e; cases e
      have hc4 := P4.cellsAt
      refine hK.out _ _ ⟨hd4, blk_range B4⟩ (fun hHeld => ?_)
      clear hK K hd3 NW3 B3d hb4 O4 hsh4 P4
      refine wpAnyH_ready (rs := [7]) (by kernel_rfl) (by simp) ?_
      refine AllReadyH.cons rfl (fun K hK => ?_) AllReadyH.nil
      rw [if_pos (by rfl)]
      refine wp_appR3 _ (.tmp 13) (.tmp 19) rfl (g3 + 1) (.slice B j d) j (patCells N) rfl N4 A4 M.length c4 (patCells M) rfl (patCells_length M) hc4 (patCells_one M) hnil4 (by omega) (by have := B4.lt; omega) ?_
      intro v5 w5 O5 hgr5 hnew5
      have B5 := B4.grown hgr5 (fun e => by have := (N4.lt g3 e).1; omega)
      have hd5 := hd4.grown hgr5 hd4.size (fun g hg => by have := (N4.lt g hg).1; omega)
      obtain ⟨A5, c5, hv5, _⟩ := own_shape O5
      subst hv5
      have hlen : (nextTo D q (i + 1)).length = j + M.length := by rw [HNX.out, List.length_append, hNj.out]
      have hI : Hid (EachI D q g3 w (i + 1) A5 c5 w5) := (⟨by rw [hlen, HNX.out, patCells_app]; exact O5, B5, hd5⟩ : EachI D q g3 w (i + 1) A5 c5 w5)
      have HLN := Lib.hid hlen
      refine hK.out _ _ ⟨hd5, blk_range B5⟩ (fun hHeld => ?_)
      clear hK K hd4 N4 B4 hc4 hnil4 hgr5 hnew5 O5 B5 hd5 hlen
      refine wpAnyH_take (i := 8) (v := ?vt8) rfl (by kernel_rfl) (by kernel_rfl) (by kernel_rfl) (fun _ _ _ h => h) (Or.inl ⟨by rfl, ?yt8⟩) (by assumption) ?rt8
      case yt8 => intro w hSw; (try dsimp only at hSw); go_simp <;> (try with_reducible rfl)
      (try simp only [List.getElem_toArray, List.getElem_cons_succ, List.getElem_cons_zero, Act.put, List.setIfInBounds_toArray, List.set_cons_zero, List.set_cons_succ])
      refine wpAnyH_done (by kernel_rfl) ?_ _
      clear hHeld
      go_wp2
      go_roundw
      case rel => exact ⟨i + 1, A5, c5, by omega, by go_num, by rw [HLN.out], hI.out⟩
      case measure => simp [intOf]; omega
    · obtain rfl : i = n := by omega
      have hRN : Hid (R = N) := by
        have : R = N := by rw [← hR.out, ← hN.out, ← hn.out]; exact (nextTo_all D q).symm
        exact this
      have HO : Hid (wr.ownsRow w.heap.size 25 20 (.slice B j d) j (patCells N)) := by
        have : wr.ownsRow w.heap.size 25 20 (.slice B j d) j (patCells N) := own_mono NW (fun g hg => by have := (NW.lt g hg).1; omega)
        exact this
      clear NW B3
      go_wp2
      go_ret
      exact ⟨B, d, by rw [hRN.out, hNj.out]; rfl, by rw [hRN.out, hNj.out]; exact HO.out, hbw⟩
end Go.Proofs.YtbldnhpbmfmepaaDoor
