/-
  Contract of the walk over the program's minusAll. Conditions: right patterns.
-/
import Derived.Test.YtbldnhpbmfmepaaDoorKSb
import Derived.Test.YtbldnhpbmfmepaaDoorGP
import Derived.Test.YtbldnhpbmfmepaaDoorGC
namespace Go.Proofs.YtbldnhpbmfmepaaDoor
set_option linter.unusedVariables false
set_option linter.unusedSimpArgs false
open Go.RowKit

/-- What MinusAll answers: what is left, or that there is too much. -/
def MinR (base : Nat) (p : Pat) (l : List Pat) (most : Int) (e : Ending) (w' : World) : Prop :=
  (allFit p l most ∧ ∃ A c, e = .returned (.tuple #[.slice A (leftTo p l l.length).length c, .int .i64 0]) ∧ w'.ownsRow base 25 20 (.slice A (leftTo p l l.length).length c) (leftTo p l l.length).length (patCells (leftTo p l l.length))) ∨ (¬ allFit p l most ∧ e = .returned (.tuple #[.slice none 0 0, .int .i64 2]))
structure OutI (p : Pat) (l : List Pat) (most : Int) (g3 : Nat) (w : World) (k : Nat) (A : Option Addr) (c : Nat) (wr : World) : Prop where
  fit : ∀ j, j ≤ k → ((leftTo p l j).length : Int) ≤ most
  own : wr.ownsRow w.heap.size 25 20 (.slice A (leftTo p l k).length c) (leftTo p l k).length (patCells (leftTo p l k))
  b3 : Blk wr g3 25 p.cells
  below : Below w.heap.size w wr
def OutR (p : Pat) (l : List Pat) (most : Int) (g3 n : Nat) (w : World) (lv iv : Value) (wr : World) : Prop :=
  ∃ (k : Nat) (A : Option Addr) (c : Nat), k ≤ n ∧ iv = .int .i64 (k : Int) ∧ lv = .slice A (leftTo p l k).length c ∧ OutI p l most g3 w k A c wr
structure InI (D : List Pat) (q : Pat) (most : Int) (W1 : World) (i : Nat) (A : Option Addr) (c : Nat) (wr : World) : Prop where
  fit : ((nextTo D q i).length : Int) ≤ most
  own : wr.ownsRow W1.heap.size 25 20 (.slice A (nextTo D q i).length c) (nextTo D q i).length (patCells (nextTo D q i))
  below : Below W1.heap.size W1 wr
def InR (D : List Pat) (q : Pat) (most : Int) (W1 : World) (m : Nat) (nv iv : Value) (wr : World) : Prop :=
  ∃ (i : Nat) (A : Option Addr) (c : Nat), i ≤ m ∧ iv = .int .i64 (i : Int) ∧ nv = .slice A (nextTo D q i).length c ∧ InI D q most W1 i A c wr
theorem patCells_app (a b : List Pat) : patCells (a ++ b) = patCells a ++ patCells b := List.flatMap_append
set_option maxRecDepth 100000 in
set_option maxHeartbeats 12800000 in
theorem minusAll_any (cl : Nat) (Al : Option Addr) (l : List Pat) (p : Pat) (most : Int) (w : World) (hok : ∀ q, q ∈ l → q.ok) (hp : p.ok) (hll : l.length ≤ 1000000) (hl : PatsAt w Al l) (hm : most ≤ 4000) :
    Calls Tryd.prog 89 #[.agg p.cells.toArray, .slice Al l.length cl, .int .i64 most] w fun e w' => MinR w.heap.size p l most e w' ∧ Below w.heap.size w w' := by
  have HOK := Lib.hid hok
  have HP := Lib.hid hp
  have HL := Lib.hid hl
  obtain ⟨n, hn⟩ : ∃ n, Hid (l.length = n) := ⟨_, rfl⟩
  rw [hn.out] at hll ⊢
  have hunP := Tryd.underlying25
  have hzp : ∀ x : Pat, (Tryd.prog.info? 25).map (·.size) = some x.cells.length := fun x => by rw [Pat.cells_length]; exact Tryd.szP
  have HZP := Lib.hid hzp
  clear hok hp hl hzp
  by_cases hm1 : most < 1
  · have hbad : Hid (MinR w.heap.size p l most (.returned (.tuple #[.slice none 0 0, .int .i64 2])) w) := .inr ⟨fun hf => by
      have := hf 0 (Nat.zero_le _)
      rw [leftTo_zero] at this
      have h1 : (([p] : List Pat).length : Int) = 1 := rfl
      omega, rfl⟩
    go_enter Tryd.func89, Tryd.ntmps89
    go_wp2_with (with_reducible refine wpList_box (o := ⟨some 3, .box 25 (.tmp 0), _, _, _, _⟩) ?g3 25 (.tmp 0) ?o3 (.agg p.cells.toArray) p.cells ?x3 ?c3 ?_)
    try (case g3 => rfl)
    try (case o3 => rfl)
    try (case x3 => rfl)
    try (case c3 => rfl)
    intro g3 w1 hg3 hs1 hb1 B3
    have hbe : Below w.heap.size w w1 := hb1.mono (Nat.le_of_eq hg3.out.symm)
    clear hb1 hs1 hg3 B3
    go_wp2
    go_ret2
    exact ⟨.inr ⟨by
      rcases hbad.out with ⟨_, A, c, he, _⟩ | ⟨h, _⟩
      · injection he with he
        injection he with he
        have := congrArg (fun a => a[1]?) he
        simp at this
      · exact h, rfl⟩, hbe⟩
  · go_enter Tryd.func89, Tryd.ntmps89
    go_wp2_with (with_reducible refine wpList_box (o := ⟨some 3, .box 25 (.tmp 0), _, _, _, _⟩) ?g3 25 (.tmp 0) ?o3 (.agg p.cells.toArray) p.cells ?x3 ?c3 ?_)
    try (case g3 => rfl)
    try (case o3 => rfl)
    try (case x3 => rfl)
    try (case c3 => rfl)
    intro g3 w1 hg3 hs1 hb1 B3
    have hbe : Below w.heap.size w w1 := hb1.mono (Nat.le_of_eq hg3.out.symm)
    clear hb1 hs1 hg3
    have z3 := HZP.out p
    go_wp2_with (first | (with_reducible refine wpList_get (o := ⟨some 14, .load 25 (.tmp 3), _, _, _, _⟩) (by with_unfolding_all rfl) 25 (.tmp 3) (by with_unfolding_all rfl) g3 0 (by with_unfolding_all rfl) B3 p.cells (cs_all _) _ (by exact hunP) (by with_unfolding_all rfl) (by exact z3) ?_) | (with_reducible refine wpList_row1 (o := ⟨some 15, .buildSlice 31 1 #[(0, .tmp 14)], _, _, _, _⟩) (by with_unfolding_all rfl) (.tmp 14) (by with_unfolding_all rfl) p.cells (by with_unfolding_all rfl) (Pat.cells_length p) ?_))
    intro v0 w2 hb2 OW
    have hs0 := hbe.size
    have B3 := B3.next hb2 B3.lt
    have hbe := below_join hbe hb2
    clear hb2
    obtain ⟨A0, c0, rfl, _⟩ := own_shape OW
    have hfit0 : ∀ j, j ≤ 0 → ((leftTo p l j).length : Int) ≤ most := fun j hj => by
      obtain rfl : j = 0 := by omega
      rw [leftTo_zero]
      show (1 : Int) ≤ most
      omega
    have hown0 : w2.ownsRow w.heap.size 25 20 (.slice A0 (leftTo p l 0).length c0) (leftTo p l 0).length (patCells (leftTo p l 0)) := by
      have := own_mono (base' := w.heap.size) OW (fun g hg => Nat.le_trans hs0 (OW.lt g hg).1)
      rw [leftTo_zero, show patCells [p] = p.cells from List.append_nil _]
      exact this
    have H0 : Hid (OutI p l most g3 w 0 A0 c0 w2) := (⟨hfit0, hown0, B3, hbe⟩ : OutI p l most g3 w 0 A0 c0 w2)
    clear OW B3 hbe hs0 hfit0 hown0
    go_wp2
    go_loopw [8, 18] (OutR p l most g3 n w) (fun _ i _ => n - (intOf i).toNat)
    case atStart => exact ⟨0, A0, c0, Nat.zero_le _, rfl, rfl, H0.out⟩
    case round =>
      clear H0
      obtain ⟨k, A, c, hk, rfl, rfl, hI⟩ := hrel
      have HI := Lib.hid hI
      clear hI
      by_cases hlt : k < n
      · have hki : (k : Int) < (n : Int) := by omega
        obtain ⟨q, hq⟩ : ∃ q, l[k]? = some q := ⟨_, List.getElem?_eq_getElem (by rw [hn.out]; exact hlt)⟩
        have HQ := Lib.hid hq
        have HQO := Lib.hid (HOK.out q (List.mem_of_getElem? hq))
        obtain ⟨ga, oa, hAl, hca⟩ := (HL.out.next HI.out.below) k q hq
        subst hAl
        clear hq
        have hov := overlap_any p q g3 0 ga (oa + k * 20) wr (blk_range HI.out.b3) hca
        obtain ⟨D, hD⟩ : ∃ D, Hid (leftTo p l k = D) := ⟨_, rfl⟩
        obtain ⟨m, hDm⟩ : ∃ m, Hid (D.length = m) := ⟨_, rfl⟩
        have hfit := HI.out.fit k (Nat.le_refl _)
        rw [hD.out, hDm.out] at hfit
        have hml : m ≤ 4000 := by omega
        have OW := HI.out.own
        rw [hD.out, hDm.out] at OW
        rw [hD.out, hDm.out]
        by_cases ho : p.over q
        · rw [decide_eq_true ho] at hov
          have HOV := Lib.hid hov
          have HCA0 : Hid (wr.rangeAt ga (oa + k * 20) q.cells) := hca
          clear hov hca
          go_wp2_with fail
          (with_reducible refine HOV.out.mono ?_)
          rintro e w1 ⟨rfl, nd, rfl⟩
          have OW : (wr.drewN nd).ownsRow w.heap.size 25 20 (.slice A m c) m (patCells D) := own_keep OW (fun _ _ => rfl)
          have hbd := below_drewN wr nd
          have hca : (wr.drewN nd).rangeAt ga (oa + k * 20) q.cells := fun v u hu => (hbd.cell (World.block_lt_of_cell? wr _ (HCA0.out v u hu))).trans (HCA0.out v u hu)
          have B3 := HI.out.b3.next hbd HI.out.b3.lt
          have hbe := below_join HI.out.below hbd
          generalize wr.drewN nd = W1 at OW hca B3 hbe hbd ⊢
          clear HOV HCA0 hbd
          have KQ : Hid (∀ w', Below W1.heap.size W1 w' → w'.rangeAt ga (oa + k * 20) q.cells) := (fun w' hw v u hu => by rw [hw.cell (World.block_lt_of_cell? W1 _ (hca v u hu))]; exact hca v u hu : ∀ w', Below W1.heap.size W1 w' → w'.rangeAt ga (oa + k * 20) q.cells)
          have HPD : Hid (PatsAt W1 A D) := by
            have : PatsAt W1 A D := by
              have OW2 := OW
              rw [← hDm.out] at OW2
              exact own_pats OW2
            exact this
          have HW : Hid (∀ x, x ∈ D → within p x) := by
            have : ∀ x, x ∈ D → within p x := by rw [← hD.out]; exact within_left HP.out HOK.out k
            exact this
          have HJ : Hid (InI D q most W1 0 none 0 W1) := (⟨by show (0 : Int) ≤ most; omega, World.ownsRow_nil _ _ _ _, Below.refl _ _⟩ : InI D q most W1 0 none 0 W1)
          have HBE := Lib.hid hbe
          have HB3 := Lib.hid B3
          clear hca OW hbe B3
          go_wp2
          go_loopw [10, 28] (InR D q most W1 m) (fun _ i _ => m - (intOf i).toNat)
          case atStart => exact ⟨0, none, 0, Nat.zero_le _, rfl, rfl, HJ.out⟩
          case round =>
            clear HJ
            obtain ⟨i, B, d, hi, rfl, rfl, hJ⟩ := hrel
            have HJ := Lib.hid hJ
            clear hJ
            by_cases hin : i < m
            · have hii : (i : Int) < (m : Int) := by omega
              obtain ⟨x, hx⟩ : ∃ x, D[i]? = some x := ⟨_, List.getElem?_eq_getElem (by rw [hDm.out]; exact hin)⟩
              have HXO := Lib.hid (HW.out x (List.mem_of_getElem? hx)).1
              obtain ⟨gb, ob, hA, hcb⟩ := HPD.out i x hx
              subst hA
              have KX : Hid (∀ w', Below W1.heap.size W1 w' → w'.rangeAt gb (ob + i * 20) x.cells) := (fun w' hw v u hu => by rw [hw.cell (World.block_lt_of_cell? W1 _ (hcb v u hu))]; exact hcb v u hu : ∀ w', Below W1.heap.size W1 w' → w'.rangeAt gb (ob + i * 20) x.cells)
              obtain ⟨N, hN⟩ : ∃ N, Hid (nextTo D q i = N) := ⟨_, rfl⟩
              obtain ⟨j, hNj⟩ : ∃ j, Hid (N.length = j) := ⟨_, rfl⟩
              have hjf := HJ.out.fit
              rw [hN.out, hNj.out] at hjf
              have hjl : j ≤ 4000 := by omega
              have NW := HJ.out.own
              have hbw := HJ.out.below
              rw [hN.out, hNj.out] at NW
              rw [hN.out, hNj.out]
              have hnx := nextTo_succ (q := q) hx
              rw [hN.out] at hnx
              have HNX := Lib.hid hnx
              have zx := HZP.out x
              have zq := HZP.out q
              clear hnx hcb hx
              by_cases hox : x.over q
              · have HMN : Hid (x.minus q = x.pieces q) := (if_pos hox : x.minus q = x.pieces q)
                have hov2 : ∀ w, w.rangeAt gb (ob + i * 20) x.cells → w.rangeAt ga (oa + k * 20) q.cells → Calls Tryd.prog 81 #[.pointer (some ⟨gb, ob + i * 20, none⟩), .pointer (some ⟨ga, oa + k * 20, none⟩)] w (Reads (.bool true) w) := fun w h1 h2 => by
                  have := overlap_any x q gb (ob + i * 20) ga (oa + k * 20) w h1 h2
                  rw [decide_eq_true hox] at this
                  exact this
                have HOV2 := Lib.hid hov2
                clear hov2 hox
                go_wp2
                have hd3 := hbw.drew
                have NW3 := NW.drew
                refine wp_region_held_drew (S := fun w' => Below W1.heap.size W1 w') (by kernel_rfl) hd3 (fun hHeld => ?_)
                generalize wr.drew = w3 at hd3 NW3 hHeld ⊢
                refine wpAnyH_take (i := 0) (v := ?vca0) rfl (by kernel_rfl) (by kernel_rfl) (by kernel_rfl) (fun _ _ _ h => h) (Or.inl ⟨by rfl, ?yca0⟩) (by assumption) ?rca0
                case yca0 => intro w hSw; (try dsimp only at hSw); go_simp <;> (try with_reducible rfl)
                (try simp only [List.getElem_toArray, List.getElem_cons_zero, Act.put, List.setIfInBounds_toArray, List.set_cons_zero, List.set_cons_succ])
                refine wpAnyH_take (i := 1) (v := ?vca1) rfl (by kernel_rfl) (by kernel_rfl) (by kernel_rfl) (fun _ _ _ h => h) (Or.inl ⟨by rfl, ?yca1⟩) (by assumption) ?rca1
                case yca1 => intro w hSw; (try dsimp only at hSw); go_simp <;> (try with_reducible rfl)
                (try simp only [List.getElem_toArray, List.getElem_cons_succ, List.getElem_cons_zero, Act.put, List.setIfInBounds_toArray, List.set_cons_zero, List.set_cons_succ])
                refine wpAnyH_take (i := 2) (v := ?vca2) rfl (by kernel_rfl) (by kernel_rfl) (by kernel_rfl) (fun _ _ _ h => h) (Or.inl ⟨by rfl, ?yca2⟩) (by assumption) ?rca2
                case yca2 => intro w hSw; (try dsimp only at hSw); go_simp <;> (try with_reducible rfl)
                (try simp only [List.getElem_toArray, List.getElem_cons_succ, List.getElem_cons_zero, Act.put, List.setIfInBounds_toArray, List.set_cons_zero, List.set_cons_succ])
                refine wpAnyH_take (i := 3) (v := ?vca3) rfl (by kernel_rfl) (by kernel_rfl) (by kernel_rfl) (fun _ _ _ h => h) (Or.inl ⟨by rfl, ?yca3⟩) (by assumption) ?rca3
                case yca3 => intro w hSw; (try dsimp only at hSw); go_simp <;> (try with_reducible rfl)
                (try simp only [List.getElem_toArray, List.getElem_cons_succ, List.getElem_cons_zero, Act.put, List.setIfInBounds_toArray, List.set_cons_zero, List.set_cons_succ])
                refine wpAnyH_take (i := 4) (v := ?vca4) rfl (by kernel_rfl) (by kernel_rfl) (by kernel_rfl) (fun _ _ _ h => h) (Or.inl ⟨by rfl, ?yca4⟩) (by assumption) ?rca4
                case yca4 => intro w hSw; (try dsimp only at hSw); go_simp <;> (try with_reducible rfl)
                (try simp only [List.getElem_toArray, List.getElem_cons_succ, List.getElem_cons_zero, Act.put, List.setIfInBounds_toArray, List.set_cons_zero, List.set_cons_succ])
                refine wpAnyH_take (i := 5) (v := ?vca5) rfl (by kernel_rfl) (by kernel_rfl) (by kernel_rfl) (fun _ _ _ h => h) (Or.inl ⟨by rfl, ?yca5⟩) (by assumption) ?rca5
                case yca5 => intro w hSw; (try dsimp only at hSw); go_simp <;> (try with_reducible rfl)
                (try simp only [List.getElem_toArray, List.getElem_cons_succ, List.getElem_cons_zero, Act.put, List.setIfInBounds_toArray, List.set_cons_zero, List.set_cons_succ])
                refine wpAnyH_ready (rs := [6]) (by kernel_rfl) (by simp) ?_
                refine AllReadyH.cons rfl (fun K hK => ?_) AllReadyH.nil
                go_simp
                go_wp2_with fail
                (with_reducible refine (HOV2.out _ (KX.out _ hd3) (KQ.out _ hd3)).mono ?_)
                rintro e w4 ⟨rfl, nd4, rfl⟩
                have hb4 := hd3.trans ((below_drewN w3 nd4).mono hd3.size)
                have NW4 : (w3.drewN nd4).ownsRow W1.heap.size 25 20 (.slice B j d) j (patCells N) := own_keep NW3 (fun _ _ => rfl)
                refine hK.out _ _ hb4 (fun hHeld => ?_)
                clear hK K
                refine wpAnyH_done (by kernel_rfl) ?_ _
                clear hHeld
                generalize w3.drewN nd4 = w4 at hb4 NW4 ⊢
                clear hd3 NW3 NW hbw
                go_wp2
                have hd5 := hb4.drew
                have NW5 := NW4.drew
                refine wp_region_held_drew (S := fun w' => Below W1.heap.size W1 w') (by kernel_rfl) hd5 (fun hHeld => ?_)
                generalize w4.drew = w5 at hd5 NW5 hHeld ⊢
                clear hb4 NW4
                refine wpAnyH_take (i := 0) (v := ?vb0) rfl (by kernel_rfl) (by kernel_rfl) (by kernel_rfl) (fun _ _ _ h => h) (Or.inl ⟨by rfl, ?yb0⟩) (by assumption) ?rb0
                case yb0 => intro w hSw; (try dsimp only at hSw); go_simp <;> (try with_reducible rfl)
                (try simp only [List.getElem_toArray, List.getElem_cons_zero, Act.put, List.setIfInBounds_toArray, List.set_cons_zero, List.set_cons_succ])
                refine wpAnyH_take (i := 1) (v := ?vb1) rfl (by kernel_rfl) (by kernel_rfl) (by kernel_rfl) (fun _ _ _ h => h) (Or.inl ⟨by rfl, ?yb1⟩) (by assumption) ?rb1
                case yb1 => intro w hSw; (try dsimp only at hSw); go_simp <;> (try with_reducible rfl)
                (try simp only [List.getElem_toArray, List.getElem_cons_succ, List.getElem_cons_zero, Act.put, List.setIfInBounds_toArray, List.set_cons_zero, List.set_cons_succ])
                refine wpAnyH_take (i := 2) (v := ?vb2) rfl (by kernel_rfl) (by kernel_rfl) (by kernel_rfl) (fun _ _ _ h => h) (Or.inl ⟨by rfl, ?yb2⟩) (by assumption) ?rb2
                case yb2 => intro w hSw; (try dsimp only at hSw); go_simp <;> (try with_reducible rfl)
                (try simp only [List.getElem_toArray, List.getElem_cons_succ, List.getElem_cons_zero, Act.put, List.setIfInBounds_toArray, List.set_cons_zero, List.set_cons_succ])
                refine wpAnyH_take (i := 3) (v := ?vb3) rfl (by kernel_rfl) (by kernel_rfl) (by kernel_rfl) (fun _ _ _ h => h) (Or.inl ⟨by rfl, ?yb3⟩) (by assumption) ?rb3
                case yb3 => intro w hSw; (try dsimp only at hSw); go_simp <;> (try with_reducible rfl)
                (try simp only [List.getElem_toArray, List.getElem_cons_succ, List.getElem_cons_zero, Act.put, List.setIfInBounds_toArray, List.set_cons_zero, List.set_cons_succ])
                refine' wpAnyH_take (i := 4) (v := _) rfl (by kernel_rfl) (by kernel_rfl) (by kernel_rfl) (fun _ _ _ h => h) (yieldsIf_load_mid (by rfl) _ _ (by rfl) _ _ (by rfl) _ _ ?Sb4 ?ub4 ?db4 ?ib4) (by assumption) ?rb4
                case Sb4 => exact (by intro w h; exact KX.out _ h)
                case ub4 => exact hunP
                case db4 => rfl
                case ib4 => exact zx
                (try simp only [List.getElem_toArray, List.getElem_cons_succ, List.getElem_cons_zero, Act.put, List.setIfInBounds_toArray, List.set_cons_zero, List.set_cons_succ])
                refine wpAnyH_take (i := 5) (v := ?vb5) rfl (by kernel_rfl) (by kernel_rfl) (by kernel_rfl) (fun _ _ _ h => h) (Or.inl ⟨by rfl, ?yb5⟩) (by assumption) ?rb5
                case yb5 => intro w hSw; (try dsimp only at hSw); go_simp <;> (try with_reducible rfl)
                (try simp only [List.getElem_toArray, List.getElem_cons_succ, List.getElem_cons_zero, Act.put, List.setIfInBounds_toArray, List.set_cons_zero, List.set_cons_succ])
                refine wpAnyH_take (i := 6) (v := ?vb6) rfl (by kernel_rfl) (by kernel_rfl) (by kernel_rfl) (fun _ _ _ h => h) (Or.inl ⟨by rfl, ?yb6⟩) (by assumption) ?rb6
                case yb6 => intro w hSw; (try dsimp only at hSw); go_simp <;> (try with_reducible rfl)
                (try simp only [List.getElem_toArray, List.getElem_cons_succ, List.getElem_cons_zero, Act.put, List.setIfInBounds_toArray, List.set_cons_zero, List.set_cons_succ])
                refine wpAnyH_take (i := 7) (v := ?vb7) rfl (by kernel_rfl) (by kernel_rfl) (by kernel_rfl) (fun _ _ _ h => h) (Or.inl ⟨by rfl, ?yb7⟩) (by assumption) ?rb7
                case yb7 => intro w hSw; (try dsimp only at hSw); go_simp <;> (try with_reducible rfl)
                (try simp only [List.getElem_toArray, List.getElem_cons_succ, List.getElem_cons_zero, Act.put, List.setIfInBounds_toArray, List.set_cons_zero, List.set_cons_succ])
                refine' wpAnyH_take (i := 8) (v := _) rfl (by kernel_rfl) (by kernel_rfl) (by kernel_rfl) (fun _ _ _ h => h) (yieldsIf_load_mid (by rfl) _ _ (by rfl) _ _ (by rfl) _ _ ?Sb8 ?ub8 ?db8 ?ib8) (by assumption) ?rb8
                case Sb8 => exact (by intro w h; exact KQ.out _ h)
                case ub8 => exact hunP
                case db8 => rfl
                case ib8 => exact zq
                (try simp only [List.getElem_toArray, List.getElem_cons_succ, List.getElem_cons_zero, Act.put, List.setIfInBounds_toArray, List.set_cons_zero, List.set_cons_succ])
                refine wpAnyH_ready (rs := [9]) (by kernel_rfl) (by simp) ?_
                refine AllReadyH.cons rfl (fun K hK => ?_) AllReadyH.nil
                go_simp
                go_wp2_with fail
                (with_reducible refine (pieces_any x q _).mono ?_)
                rintro e w6 ⟨gp, gq, rfl, hBp, hBq, hb6, hlp, hlq⟩
                have NW6 := own_keep NW5 (fun g hg => hb6.block g (NW5.lt g hg).2)
                have hvp : (Value.slice B j d).ownBlock ≠ some gp := fun e => by have := (NW5.lt gp e).2; omega
                have hvq : (Value.slice B j d).ownBlock ≠ some gq := fun e => by have := (NW5.lt gq e).2; omega
                have hd6 := hd5.trans (hb6.mono hd5.size)
                refine hK.out _ _ hd6 (fun hHeld => ?_)
                clear hK K hb6 hd5 NW5 hlp hlq
                refine wpAnyH_ready (rs := [10]) (by kernel_rfl) (by simp) ?_
                refine AllReadyH.cons rfl (fun K hK => ?_) AllReadyH.nil
                go_simp
                go_wp2_with fail
                (with_reducible refine (appendSeq_any W1.heap.size j d gp gq B (patCells N) x q _ HXO.out (by omega) hd6.size NW6 hBp hBq hvp hvq).mono ?_)
                rintro e w7 ⟨v7, rfl, NW7, hgr7, _⟩
                have hd7 := hd6.grown hgr7 hd6.size (fun g hg => (NW6.lt g hg).1)
                refine hK.out _ _ hd7 (fun hHeld => ?_)
                clear hK K hgr7 hd6 NW6 hBp hBq hvp hvq
                refine wpAnyH_take (i := 11) (v := ?vb11) rfl (by kernel_rfl) (by kernel_rfl) (by kernel_rfl) (fun _ _ _ h => h) (Or.inl ⟨by rfl, ?yb11⟩) (by assumption) ?rb11
                case yb11 => intro w hSw; (try dsimp only at hSw); go_simp <;> (try with_reducible rfl)
                (try simp only [List.getElem_toArray, List.getElem_cons_succ, List.getElem_cons_zero, Act.put, List.setIfInBounds_toArray, List.set_cons_zero, List.set_cons_succ])
                refine wpAnyH_done (by kernel_rfl) ?_ _
                clear hHeld
                have hlen : (N ++ x.minus q).length = j + (x.pieces q).length := by rw [List.length_append, HMN.out, hNj.out]
                have NW8 : w7.ownsRow W1.heap.size 25 20 v7 (N ++ x.minus q).length (patCells (N ++ x.minus q)) := by rw [hlen, HMN.out, patCells_app]; exact NW7
                clear NW7 hlen
                obtain ⟨B7, d7, hv7, _⟩ := own_shape NW8
                subst hv7
                obtain ⟨N7, hN7⟩ : ∃ N7, Hid (N ++ x.minus q = N7) := ⟨_, rfl⟩
                have HNX2 : Hid (nextTo D q (i + 1) = N7) := by
                  have : nextTo D q (i + 1) = N7 := by rw [HNX.out, hN7.out]
                  exact this
                rw [hN7.out] at NW8 ⊢
                obtain ⟨j7, hj7⟩ : ∃ j7, Hid (N7.length = j7) := ⟨_, rfl⟩
                rw [hj7.out] at NW8 ⊢
                by_cases hgt : (j7 : Int) > most
                · have hnf : Hid (¬ allFit p l most) := fun hf => by
                    have h1 := hf (k + 1) (by rw [hn.out]; omega)
                    rw [leftTo_succ HQ.out, hD.out] at h1
                    have h2 := nextTo_le D q (i + 1)
                    rw [HNX2.out, hj7.out] at h2
                    omega
                  have hfin := below_join HBE.out hd7
                  go_wp2
                  go_ret2
                  exact ⟨.inr ⟨hnf.out, rfl⟩, hfin⟩
                · have H3 : Hid (InI D q most W1 (i + 1) B7 d7 w7) := (⟨by rw [HNX2.out, hj7.out]; omega, by rw [HNX2.out, hj7.out]; exact NW8, hd7⟩ : InI D q most W1 (i + 1) B7 d7 w7)
                  have hln : Hid ((nextTo D q (i + 1)).length = j7) := by
                    have : (nextTo D q (i + 1)).length = j7 := by rw [HNX2.out, hj7.out]
                    exact this
                  go_wp2
                  go_roundw
                  case rel => exact ⟨i + 1, B7, d7, by omega, by go_num, by rw [hln.out], H3.out⟩
                  case measure => simp [intOf]; omega
              · have HMN : Hid (x.minus q = [x]) := (if_neg hox : x.minus q = [x])
                have hov2 : ∀ w, w.rangeAt gb (ob + i * 20) x.cells → w.rangeAt ga (oa + k * 20) q.cells → Calls Tryd.prog 81 #[.pointer (some ⟨gb, ob + i * 20, none⟩), .pointer (some ⟨ga, oa + k * 20, none⟩)] w (Reads (.bool false) w) := fun w h1 h2 => by
                  have := overlap_any x q gb (ob + i * 20) ga (oa + k * 20) w h1 h2
                  rw [decide_eq_false hox] at this
                  exact this
                have HOV2 := Lib.hid hov2
                clear hov2 hox
                go_wp2
                have hd3 := hbw.drew
                have NW3 := NW.drew
                refine wp_region_held_drew (S := fun w' => Below W1.heap.size W1 w') (by kernel_rfl) hd3 (fun hHeld => ?_)
                generalize wr.drew = w3 at hd3 NW3 hHeld ⊢
                refine wpAnyH_take (i := 0) (v := ?vcb0) rfl (by kernel_rfl) (by kernel_rfl) (by kernel_rfl) (fun _ _ _ h => h) (Or.inl ⟨by rfl, ?ycb0⟩) (by assumption) ?rcb0
                case ycb0 => intro w hSw; (try dsimp only at hSw); go_simp <;> (try with_reducible rfl)
                (try simp only [List.getElem_toArray, List.getElem_cons_zero, Act.put, List.setIfInBounds_toArray, List.set_cons_zero, List.set_cons_succ])
                refine wpAnyH_take (i := 1) (v := ?vcb1) rfl (by kernel_rfl) (by kernel_rfl) (by kernel_rfl) (fun _ _ _ h => h) (Or.inl ⟨by rfl, ?ycb1⟩) (by assumption) ?rcb1
                case ycb1 => intro w hSw; (try dsimp only at hSw); go_simp <;> (try with_reducible rfl)
                (try simp only [List.getElem_toArray, List.getElem_cons_succ, List.getElem_cons_zero, Act.put, List.setIfInBounds_toArray, List.set_cons_zero, List.set_cons_succ])
                refine wpAnyH_take (i := 2) (v := ?vcb2) rfl (by kernel_rfl) (by kernel_rfl) (by kernel_rfl) (fun _ _ _ h => h) (Or.inl ⟨by rfl, ?ycb2⟩) (by assumption) ?rcb2
                case ycb2 => intro w hSw; (try dsimp only at hSw); go_simp <;> (try with_reducible rfl)
                (try simp only [List.getElem_toArray, List.getElem_cons_succ, List.getElem_cons_zero, Act.put, List.setIfInBounds_toArray, List.set_cons_zero, List.set_cons_succ])
                refine wpAnyH_take (i := 3) (v := ?vcb3) rfl (by kernel_rfl) (by kernel_rfl) (by kernel_rfl) (fun _ _ _ h => h) (Or.inl ⟨by rfl, ?ycb3⟩) (by assumption) ?rcb3
                case ycb3 => intro w hSw; (try dsimp only at hSw); go_simp <;> (try with_reducible rfl)
                (try simp only [List.getElem_toArray, List.getElem_cons_succ, List.getElem_cons_zero, Act.put, List.setIfInBounds_toArray, List.set_cons_zero, List.set_cons_succ])
                refine wpAnyH_take (i := 4) (v := ?vcb4) rfl (by kernel_rfl) (by kernel_rfl) (by kernel_rfl) (fun _ _ _ h => h) (Or.inl ⟨by rfl, ?ycb4⟩) (by assumption) ?rcb4
                case ycb4 => intro w hSw; (try dsimp only at hSw); go_simp <;> (try with_reducible rfl)
                (try simp only [List.getElem_toArray, List.getElem_cons_succ, List.getElem_cons_zero, Act.put, List.setIfInBounds_toArray, List.set_cons_zero, List.set_cons_succ])
                refine wpAnyH_take (i := 5) (v := ?vcb5) rfl (by kernel_rfl) (by kernel_rfl) (by kernel_rfl) (fun _ _ _ h => h) (Or.inl ⟨by rfl, ?ycb5⟩) (by assumption) ?rcb5
                case ycb5 => intro w hSw; (try dsimp only at hSw); go_simp <;> (try with_reducible rfl)
                (try simp only [List.getElem_toArray, List.getElem_cons_succ, List.getElem_cons_zero, Act.put, List.setIfInBounds_toArray, List.set_cons_zero, List.set_cons_succ])
                refine wpAnyH_ready (rs := [6]) (by kernel_rfl) (by simp) ?_
                refine AllReadyH.cons rfl (fun K hK => ?_) AllReadyH.nil
                go_simp
                go_wp2_with fail
                (with_reducible refine (HOV2.out _ (KX.out _ hd3) (KQ.out _ hd3)).mono ?_)
                rintro e w4 ⟨rfl, nd4, rfl⟩
                have hb4 := hd3.trans ((below_drewN w3 nd4).mono hd3.size)
                have NW4 : (w3.drewN nd4).ownsRow W1.heap.size 25 20 (.slice B j d) j (patCells N) := own_keep NW3 (fun _ _ => rfl)
                refine hK.out _ _ hb4 (fun hHeld => ?_)
                clear hK K
                refine wpAnyH_done (by kernel_rfl) ?_ _
                clear hHeld
                generalize w3.drewN nd4 = w4 at hb4 NW4 ⊢
                clear hd3 NW3 NW hbw
                have hc2 : ∀ (v : Nat) (u : Value), x.cells[v]? = some u → w4.cell? ((⟨gb, ob + i * 20, none⟩ : Addr).add v) = some u := fun v u hu => by rw [addr_mid]; exact KX.out _ hb4 v u hu
                have hsz4 := hb4.size
                go_wp2_with (first | (with_reducible refine wpList_load_add (op := ⟨some 53, .load 25 (.tmp 52), _, _, _, _⟩) (by with_unfolding_all rfl) 25 (.tmp 52) (by with_unfolding_all rfl) ⟨gb, ob + i * 20, none⟩ (by with_unfolding_all rfl) x.cells _ hc2 hunP (by with_unfolding_all rfl) zx ?_) | (with_reducible refine wpList_slicePat (o := ⟨some 54, .buildSlice 31 1 #[(0, .tmp 53)], _, _, _, _⟩) (by with_unfolding_all rfl) (.tmp 53) (by with_unfolding_all rfl) x.cells (by with_unfolding_all rfl) (Pat.cells_length _) ?_))
                intro g5 w5 hg5 hb5 hB5
                have NW5 := own_keep NW4 (fun g hg => hb5.block g (NW4.lt g hg).2)
                have hd5 := hb4.trans (hb5.mono hsz4)
                have hs5 := hd5.size
                have hcs : CellsAt w5 (some ⟨g5, 0, none⟩) x.cells := fun v u hu => ⟨⟨g5, 0, none⟩, rfl, blk_add hB5 v u hu⟩
                have HCS := Lib.hid hcs
                have hxl : x.cells.length = 1 * 20 := by rw [Pat.cells_length]
                have HXL := Lib.hid hxl
                clear hb5 hB5 hg5 NW4 hb4 hc2 hcs hxl hsz4
                go_wp2_with (with_reducible refine wpList_appR _ (o := ⟨some 55, .call ⟨.builtin .append, #[.tmp 49, .tmp 54], #[31, 31]⟩, _, _, _, _⟩) (by with_unfolding_all rfl) (.tmp 49) (.tmp 54) (by with_unfolding_all rfl) W1.heap.size _ j (patCells N) (by with_unfolding_all rfl) NW5 (some ⟨g5, 0, none⟩) 1 1 x.cells (by with_unfolding_all rfl) HXL.out HCS.out (cells_one _) (fun e => by cases e) (by omega) hs5 ?_)
                intro v7 w7 NW7 hgr7
                have hd7 := hd5.grown hgr7 hs5 (fun g hg => (NW5.lt g hg).1)
                have hlen : (N ++ x.minus q).length = j + 1 := by rw [List.length_append, HMN.out, hNj.out]; rfl
                have NW8 : w7.ownsRow W1.heap.size 25 20 v7 (N ++ x.minus q).length (patCells (N ++ x.minus q)) := by
                  rw [hlen, HMN.out, patCells_app, show patCells [x] = x.cells from List.append_nil _]; exact NW7
                clear NW7 hlen hgr7 NW5 hs5 hd5
                obtain ⟨B7, d7, hv7, _⟩ := own_shape NW8
                subst hv7
                obtain ⟨N7, hN7⟩ : ∃ N7, Hid (N ++ x.minus q = N7) := ⟨_, rfl⟩
                have HNX2 : Hid (nextTo D q (i + 1) = N7) := by
                  have : nextTo D q (i + 1) = N7 := by rw [HNX.out, hN7.out]
                  exact this
                rw [hN7.out] at NW8 ⊢
                obtain ⟨j7, hj7⟩ : ∃ j7, Hid (N7.length = j7) := ⟨_, rfl⟩
                rw [hj7.out] at NW8 ⊢
                by_cases hgt : (j7 : Int) > most
                · have hnf : Hid (¬ allFit p l most) := fun hf => by
                    have h1 := hf (k + 1) (by rw [hn.out]; omega)
                    rw [leftTo_succ HQ.out, hD.out] at h1
                    have h2 := nextTo_le D q (i + 1)
                    rw [HNX2.out, hj7.out] at h2
                    omega
                  have hfin := below_join HBE.out hd7
                  go_wp2
                  go_ret2
                  exact ⟨.inr ⟨hnf.out, rfl⟩, hfin⟩
                · have H3 : Hid (InI D q most W1 (i + 1) B7 d7 w7) := (⟨by rw [HNX2.out, hj7.out]; omega, by rw [HNX2.out, hj7.out]; exact NW8, hd7⟩ : InI D q most W1 (i + 1) B7 d7 w7)
                  have hln : Hid ((nextTo D q (i + 1)).length = j7) := by
                    have : (nextTo D q (i + 1)).length = j7 := by rw [HNX2.out, hj7.out]
                    exact this
                  go_wp2
                  go_roundw
                  case rel => exact ⟨i + 1, B7, d7, by omega, by go_num, by rw [hln.out], H3.out⟩
                  case measure => simp [intOf]; omega
            · obtain rfl : i = m := by omega
              have hN2 : nextTo D q i = leftTo p l (k + 1) := by rw [leftTo_succ HQ.out, hD.out, ← nextTo_all, hDm.out]
              have hfit2 : ∀ j, j ≤ k + 1 → ((leftTo p l j).length : Int) ≤ most := fun j hj => by
                by_cases e : j = k + 1
                · rw [e, ← hN2]; exact HJ.out.fit
                · exact HI.out.fit j (by omega)
              have hs1 := HBE.out.size
              have hown2 : wr.ownsRow w.heap.size 25 20 (.slice B (leftTo p l (k + 1)).length d) (leftTo p l (k + 1)).length (patCells (leftTo p l (k + 1))) := by
                rw [← hN2]
                exact own_mono HJ.out.own (fun g hg => Nat.le_trans hs1 (HJ.out.own.lt g hg).1)
              have H2 : Hid (OutI p l most g3 w (k + 1) B d wr) := (⟨hfit2, hown2, HB3.out.next HJ.out.below HB3.out.lt, below_join HBE.out HJ.out.below⟩ : OutI p l most g3 w (k + 1) B d wr)
              rw [hN2]
              clear hfit2 hown2 hs1
              go_wp2
              go_roundw
              case rel => exact ⟨k + 1, B, d, by omega, by go_num, rfl, H2.out⟩
              case measure => simp [intOf]; omega
        · rw [decide_eq_false ho] at hov
          have HOV := Lib.hid hov
          have hsk := leftTo_skip HP.out HOK.out HQ.out ho
          have H2 : ∀ nd, Hid (OutI p l most g3 w (k + 1) A c (wr.drewN nd)) := fun nd => (⟨fun j hj => by
            by_cases e : j = k + 1
            · rw [e, hsk]; exact HI.out.fit k (Nat.le_refl _)
            · exact HI.out.fit j (by omega), by rw [hsk]; exact own_keep HI.out.own (fun _ _ => rfl), HI.out.b3.next (below_drewN wr nd) HI.out.b3.lt, below_join HI.out.below (below_drewN wr nd)⟩ : OutI p l most g3 w (k + 1) A c (wr.drewN nd))
          have hsl : Hid ((leftTo p l (k + 1)).length = m) := by
            have : (leftTo p l (k + 1)).length = m := by rw [hsk, hD.out, hDm.out]
            exact this
          clear hov hca OW hsk
          go_wp2_with fail
          (with_reducible refine HOV.out.mono ?_)
          rintro e w1 ⟨rfl, nd, rfl⟩
          have H2' := H2 nd
          clear HOV H2
          go_wp2
          go_roundw
          case rel => exact ⟨k + 1, A, c, by omega, by go_num, by rw [hsl.out], H2'.out⟩
          case measure => simp [intOf]; omega
      · obtain rfl : k = n := by omega
        have HR : Hid (MinR w.heap.size p l most (.returned (.tuple #[.slice A (leftTo p l l.length).length c, .int .i64 0])) wr) := .inl ⟨fun j hj => HI.out.fit j (by rw [← hn.out]; exact hj), A, c, rfl, by rw [hn.out]; exact HI.out.own⟩
        have hbe := HI.out.below
        rw [hn.out] at HR
        go_wp2
        go_ret2
        exact ⟨HR.out, hbe⟩
end Go.Proofs.YtbldnhpbmfmepaaDoor
