/-
  Contract of the walk over the reference's Outside. Conditions: right patterns, of which at most 5000 are ever left.
-/
import Derived.Test.YtbldnhpbmfmepaaDoorKTe
import Derived.Test.YtbldnhpbmfmepaaDoorGS
namespace Go.Proofs.YtbldnhpbmfmepaaDoor
set_option linter.unusedVariables false
set_option linter.unusedSimpArgs false
open Go.RowKit

theorem range_b {w : World} {g o : Nat} {p : Pat} (h : w.rangeAt g o p.cells) : w.rangeAt g (o + 10) (H p.b) := fun j v hv => by
  have hj := (List.getElem?_eq_some_iff.1 hv).1
  rw [H_length] at hj
  rw [H_get _ hj] at hv
  cases hv
  rw [Nat.add_assoc]
  exact h _ _ (cells_b p hj)
structure ROutI (p : Pat) (l : List Pat) (g4 : Nat) (w : World) (k : Nat) (A : Option Addr) (c : Nat) (wr : World) : Prop where
  own : wr.ownsRow (g4 + 1) 25 20 (.slice A (leftTo p l k).length c) (leftTo p l k).length (patCells (leftTo p l k))
  b4 : Blk wr g4 23 (H no)
  below : Below w.heap.size w wr
def ROutR (p : Pat) (l : List Pat) (g4 n : Nat) (w : World) (lv iv : Value) (wr : World) : Prop :=
  ∃ (k : Nat) (A : Option Addr) (c : Nat), k ≤ n ∧ iv = .int .i64 (k : Int) ∧ lv = .slice A (leftTo p l k).length c ∧ ROutI p l g4 w k A c wr
structure LstI (D : List Pat) (g8 : Nat) (W1 : World) (j : Nat) (x : Pat) (wr : World) : Prop where
  mem : x ∈ D
  least : ∀ i y, i < j → D[i]? = some y → num x.b ≤ num y.b
  b8 : Blk wr g8 23 (H x.b)
  below : Below W1.heap.size W1 wr
def LstR (D : List Pat) (g8 m : Nat) (W1 : World) (iv : Value) (wr : World) : Prop :=
  ∃ (j : Nat) (x : Pat), j ≤ m ∧ iv = .int .i64 (j : Int) ∧ LstI D g8 W1 j x wr
set_option maxRecDepth 100000 in
set_option maxHeartbeats 6400000 in
theorem routside_any (cl : Nat) (Al : Option Addr) (l : List Pat) (p : Pat) (w : World) (hok : ∀ q, q ∈ l → q.ok) (hp : p.ok) (hll : l.length ≤ 1000000) (hfew : ∀ k, (leftTo p l k).length ≤ 5000) (hl : PatsAt w Al l) :
    Calls Tryd.prog 61 #[.agg p.cells.toArray, .slice Al l.length cl] w fun e w' => ∃ R, e = .returned (outV R) ∧ Pat.found l p none R ∧ Below w.heap.size w w' := by
  have HOK := Lib.hid hok
  have HP := Lib.hid hp
  have HL := Lib.hid hl
  have HFEW := Lib.hid hfew
  obtain ⟨n, hn⟩ : ∃ n, Hid (l.length = n) := ⟨_, rfl⟩
  rw [hn.out] at hll ⊢
  have hunP := Tryd.underlying25
  have hunH := Tryd.underlying23
  have hzp : ∀ x : Pat, (Tryd.prog.info? 25).map (·.size) = some x.cells.length := fun x => by rw [Pat.cells_length]; exact Tryd.szP
  have HZP := Lib.hid hzp
  clear hok hp hl hzp hfew
  go_enter Tryd.func61, Tryd.ntmps61
  go_wp2_with (with_reducible refine wpList_box (o := ⟨some 2, .box 25 (.tmp 0), _, _, _, _⟩) ?g2 25 (.tmp 0) ?o2 (.agg p.cells.toArray) p.cells ?x2 ?c2 ?_)
  try (case g2 => rfl)
  try (case o2 => rfl)
  try (case x2 => rfl)
  try (case c2 => rfl)
  intro g2 w1 hg2 hs1 hb1 B2
  have hl2 : w.heap.size ≤ g2 := Nat.le_of_eq hg2.out.symm
  have hbe : Below w.heap.size w w1 := hb1.mono hl2
  clear hb1 hs1 hg2
  go_wp2_with (with_reducible refine wpList_alloc (o := ⟨some 4, .alloc 23, _, _, _, _⟩) (by with_unfolding_all rfl) 23 (by with_unfolding_all rfl) (.agg (H no).toArray) (H no) (by exact Tryd.zeroH) (by with_unfolding_all rfl) ?_)
  intro g4 w2 hg4 hs2 hb2 B4
  have hb2' := hb2.mono (Nat.le_of_eq hg4.out.symm)
  have h24 : g2 < g4 := by have := B2.lt; have := hg4.out; omega
  have B2 := B2.next hb2' B2.lt
  have hbe := below_join hbe hb2'
  clear hb2 hb2' hs2 hg4
  have z2 := HZP.out p
  go_wp2_with (first | (with_reducible refine wpList_get (o := ⟨some 10, .load 25 (.tmp 2), _, _, _, _⟩) (by with_unfolding_all rfl) 25 (.tmp 2) (by with_unfolding_all rfl) g2 0 (by with_unfolding_all rfl) B2 p.cells (cs_all _) _ (by exact hunP) (by with_unfolding_all rfl) (by exact z2) ?_) | (with_reducible refine wpList_row1 (o := ⟨some 11, .buildSlice 31 1 #[(0, .tmp 10)], _, _, _, _⟩) (by with_unfolding_all rfl) (.tmp 10) (by with_unfolding_all rfl) p.cells (by with_unfolding_all rfl) (Pat.cells_length p) ?_))
  intro v0 w3 hb3 OW
  have hlt4 : g4 < w2.heap.size := B4.lt
  have B4 := B4.next hb3 B4.lt
  have hbe := below_join hbe hb3
  obtain ⟨A0, c0, rfl, _⟩ := own_shape OW
  have hown0 : w3.ownsRow (g4 + 1) 25 20 (.slice A0 (leftTo p l 0).length c0) (leftTo p l 0).length (patCells (leftTo p l 0)) := by
    have := own_mono (base' := g4 + 1) OW (fun g hg => Nat.le_trans hlt4 (OW.lt g hg).1)
    rw [leftTo_zero, show patCells [p] = p.cells from List.append_nil _]
    exact this
  have H0 : Hid (ROutI p l g4 w 0 A0 c0 w3) := (⟨hown0, B4, hbe⟩ : ROutI p l g4 w 0 A0 c0 w3)
  clear OW B2 B4 hbe hown0 hb3 hlt4
  go_wp2
  go_loopw [6, 7] (ROutR p l g4 n w) (fun _ i _ => n - (intOf i).toNat)
  case atStart => exact ⟨0, A0, c0, Nat.zero_le _, rfl, rfl, H0.out⟩
  case round =>
    clear H0
    obtain ⟨k, A, c, hk, rfl, rfl, hI⟩ := hrel
    have hbe := hI.below
    have B4 := hI.b4
    obtain ⟨D, hD⟩ : ∃ D, Hid (leftTo p l k = D) := ⟨_, rfl⟩
    obtain ⟨m, hDm⟩ : ∃ m, Hid (D.length = m) := ⟨_, rfl⟩
    have OW := hI.own
    have hm5 := HFEW.out k
    rw [hD.out, hDm.out] at OW hm5
    rw [hD.out, hDm.out]
    clear hI
    have PD : PatsAt wr A D := by
      have OW2 := OW
      rw [← hDm.out] at OW2
      exact own_pats OW2
    have hwi : ∀ x, x ∈ D → x.ok := fun x hx => (within_left HP.out HOK.out k x (by rw [hD.out]; exact hx)).1
    by_cases hlt : k < n
    · have hki : (k : Int) < (n : Int) := by omega
      obtain ⟨q, hq⟩ : ∃ q, l[k]? = some q := ⟨_, List.getElem?_eq_getElem (by rw [hn.out]; exact hlt)⟩
      obtain ⟨ga, oa, hAl, hca⟩ := (HL.out.next hbe) k q hq
      subst hAl
      have hc2 : ∀ (j : Nat) (u : Value), q.cells[j]? = some u → wr.cell? ((⟨ga, oa + k * 20, none⟩ : Addr).add j) = some u := fun j u hu => by rw [addr_mid]; exact hca j u hu
      have zx := HZP.out q
      have hme := rminusEach_any c A D q wr hwi (HOK.out q (List.mem_of_getElem? hq)) (by rw [hDm.out]; omega) PD
      rw [hDm.out] at hme
      have hnx : (D.flatMap fun x => x.minus q) = leftTo p l (k + 1) := by rw [leftTo_succ hq, hD.out]
      rw [hnx] at hme
      have HME := Lib.hid hme
      clear hme hnx hwi PD hq hca
      go_wp2_with (with_reducible refine wpList_load_add (op := ⟨some 22, .load 25 (.tmp 21), _, _, _, _⟩) (by with_unfolding_all rfl) 25 (.tmp 21) (by with_unfolding_all rfl) ⟨ga, oa + k * 20, none⟩ (by with_unfolding_all rfl) q.cells _ hc2 hunP (by with_unfolding_all rfl) zx ?_)
      (with_reducible refine HME.out.mono ?_)
      rintro e w5 ⟨A5, c5, rfl, O5, hb5⟩
      have hs5 : g4 < wr.heap.size := B4.lt
      have hI5 : Hid (ROutI p l g4 w (k + 1) A5 c5 w5) := (⟨own_mono O5 (fun g hg => Nat.le_trans hs5 (O5.lt g hg).1), B4.next hb5 B4.lt, below_join hbe hb5⟩ : ROutI p l g4 w (k + 1) A5 c5 w5)
      clear O5 OW hb5 hc2 B4
      go_wp2
      go_roundw
      case rel => exact ⟨k + 1, A5, c5, by omega, by go_num, rfl, hI5.out⟩
      case measure => simp [intOf]; omega
    · obtain rfl : k = n := by omega
      have hDl : Hid (leftTo p l l.length = D) := by
        have : leftTo p l l.length = D := by rw [hn.out]; exact hD.out
        exact this
      by_cases hm0 : m = 0
      · have HF : Hid (Pat.found l p none none) := by
          have : Pat.found l p none none := found_nil (by rw [hDl.out]; exact List.eq_nil_of_length_eq_zero (by rw [hDm.out]; exact hm0))
          exact this
        subst hm0
        clear OW PD hwi
        go_wp2_with (first | (with_reducible refine wpList_build (o := ⟨some 27, .build 23 #[], _, _, _, _⟩) (by with_unfolding_all rfl) 23 #[] (by with_unfolding_all rfl) #[] (by with_unfolding_all rfl) (.agg (H no).toArray) (by with_unfolding_all exact fun w => run_buildH0 w) ?_) | (with_reducible refine wpList_put (o := ⟨none, .store 23 (.tmp 4) (.tmp 27), _, _, _, _⟩) (by with_unfolding_all rfl) 23 (.tmp 4) (.tmp 27) (by with_unfolding_all rfl) g4 0 (by with_unfolding_all rfl) (.agg (H no).toArray) (by with_unfolding_all rfl) B4 (H no) (by with_unfolding_all rfl) (by with_unfolding_all (rw [H_length]; exact Tryd.szH)) (by with_unfolding_all (rw [H_length]; omega)) (by with_unfolding_all (exact H_one _)) ?_))
        intro w11 hu11 hB11
        rw [splice_all _ _ rfl] at hB11
        have hfin := hbe.trans (hu11.below (B := w.heap.size) (by omega))
        go_wp2
        exact bodyPost_ret (results_cell_two rfl _ _ g4 _ _ _ _ _ rfl rfl hB11 Tryd.underlying23 rfl (by rw [List.size_toArray, H_length]; exact Tryd.szH)) rfl ⟨none, rfl, HF.out, hfin⟩
      · have hm1 : ((m : Int) == 0) = false := beq_eq_false_iff_ne.2 (by omega)
        have hm2 : decide ((m : Int) = 0) = false := decide_eq_false (by omega)
        have hm3 : (0 : Int) < (m : Int) := by omega
        have hm4 : ¬ ((m : Int) = 0) := by omega
        have hm6 : 0 < m := by omega
        obtain ⟨x0, hx0⟩ : ∃ x, D[0]? = some x := ⟨_, List.getElem?_eq_getElem (by rw [hDm.out]; exact hm6)⟩
        obtain ⟨ga, oa, hA, hca⟩ := PD 0 x0 hx0
        subst hA
        rw [Nat.zero_mul, Nat.add_zero] at hca
        have hcb := range_b hca
        have hc2 : ∀ (j : Nat) (u : Value), (H x0.b)[j]? = some u → wr.cell? ((⟨ga, oa + 10, none⟩ : Addr).add j) = some u := fun j u hu => by rw [addr_mid]; exact hcb j u hu
        have zh : (Tryd.prog.info? 23).map (·.size) = some (H x0.b).length := by rw [H_length]; exact Tryd.szH
        have HPD := Lib.hid PD
        have HWI := Lib.hid hwi
        clear PD hwi hca hcb OW
        go_wp2_with (first | (with_reducible refine wpList_load_add (op := ⟨some 31, .load 23 (.tmp 30), _, _, _, _⟩) (by with_unfolding_all rfl) 23 (.tmp 30) (by with_unfolding_all rfl) ⟨ga, oa + 10, none⟩ (by with_unfolding_all rfl) (H x0.b) _ hc2 hunH (by with_unfolding_all rfl) zh ?_) | (with_reducible refine wpList_alloc (o := ⟨some 8, .alloc 23, _, _, _, _⟩) (by with_unfolding_all rfl) 23 (by with_unfolding_all rfl) (.agg (H no).toArray) (H no) (by exact Tryd.zeroH) (by with_unfolding_all rfl) ?_))
        intro g8 w4 hg8 hs8 hb8 B8
        have h8 : wr.heap.size ≤ g8 := Nat.le_of_eq hg8.out.symm
        have hbw := hb8.mono h8
        go_wp2_with (with_reducible refine wpList_put (o := ⟨none, .store 23 (.tmp 8) (.tmp 31), _, _, _, _⟩) (by with_unfolding_all rfl) 23 (.tmp 8) (.tmp 31) (by with_unfolding_all rfl) g8 0 (by with_unfolding_all rfl) (.agg (H x0.b).toArray) (by with_unfolding_all rfl) B8 (H x0.b) (by with_unfolding_all rfl) (by with_unfolding_all (rw [H_length]; exact Tryd.szH)) (by with_unfolding_all (rw [H_length, H_length]; omega)) (by with_unfolding_all (exact H_one _)) ?_)
        intro w5 hu5 B85
        rw [splice_all _ _ (by rw [H_length, H_length])] at B85
        have hbw5 := hbw.trans (hu5.below (B := wr.heap.size) h8)
        have H1 : Hid (LstI D g8 wr 1 x0 w5) := (⟨List.mem_of_getElem? hx0, (fun i y hi hy => by
          obtain rfl : i = 0 := by omega
          rw [hx0] at hy
          injection hy with hy
          rw [hy]; exact Nat.le_refl _), B85, hbw5⟩ : LstI D g8 wr 1 x0 w5)
        have HBE := Lib.hid hbe
        have HB4 := Lib.hid B4
        have h48 : g4 < g8 := by have := B4.lt; omega
        clear hbe B4 hbw hbw5 B85 hu5 B8 hb8 hs8 hg8 hx0 hc2 zh
        obtain ⟨W1, rfl⟩ : ∃ W, W = wr := ⟨_, rfl⟩
        go_wp2
        go_loopw [9] (LstR D g8 m W1) (fun i _ => m - (intOf i).toNat)
        case atStart => exact ⟨1, x0, hm6, rfl, H1.out⟩
        case round =>
          clear H1
          obtain ⟨j, x, hj, rfl, hJ⟩ := hrel
          have HJ := Lib.hid hJ
          have B8 := hJ.b8
          have hbw := hJ.below
          clear hJ
          by_cases hjm : j < m
          · have hji : (j : Int) < (m : Int) := by omega
            obtain ⟨y, hy⟩ : ∃ y, D[j]? = some y := ⟨_, List.getElem?_eq_getElem (by rw [hDm.out]; exact hjm)⟩
            have HY := Lib.hid hy
            obtain ⟨gb, ob, hA, hca⟩ := HPD.out j y hy
            injection hA with hA
            injection hA with hA1 hA2 _
            subst hA1 hA2
            have hcb := range_b hca
            have KY : Hid (∀ w', Below W1.heap.size W1 w' → w'.rangeAt ga (oa + j * 20 + 10) (H y.b)) := (fun w' hw v u hu => by rw [hw.cell (World.block_lt_of_cell? W1 _ (hcb v u hu))]; exact hcb v u hu : ∀ w', Below W1.heap.size W1 w' → w'.rangeAt ga (oa + j * 20 + 10) (H y.b))
            have zy : (Tryd.prog.info? 23).map (·.size) = some (H y.b).length := by rw [H_length]; exact Tryd.szH
            have zx : (Tryd.prog.info? 23).map (·.size) = some (H x.b).length := by rw [H_length]; exact Tryd.szH
            obtain ⟨C, hC⟩ : ∃ C, Hid (decide (cmpH y.b x.b < 0) = C) := ⟨_, rfl⟩
            obtain ⟨I, hI⟩ : ∃ I, Hid (cmpH y.b x.b = I) := ⟨_, rfl⟩
            have hIC : decide (I < 0) = C := by rw [← hI.out]; exact hC.out
            have hcmp := fun w => rcompareHeads_any y.b x.b w
            rw [hI.out] at hcmp
            have HCMP := Lib.hid hcmp
            clear hcmp hca hcb hy
            go_wp2
            have hd3 := hbw.drew
            have B8d := B8.next (below_drew _) B8.lt
            refine wp_region_held_drew (S := fun w' => Below W1.heap.size W1 w' ∧ w'.rangeAt g8 0 (H x.b)) (by kernel_rfl) ⟨hd3, blk_range B8d⟩ (fun hHeld => ?_)
            clear hbw B8
            generalize World.drew _ = w6 at hd3 B8d hHeld ⊢
            refine wpAnyH_take (i := 0) (v := ?vt0) rfl (by kernel_rfl) (by kernel_rfl) (by kernel_rfl) (fun _ _ _ h => h) (Or.inl ⟨by rfl, ?yt0⟩) (by assumption) ?rt0
            case yt0 => intro w hSw; (try dsimp only at hSw); go_simp <;> (try with_reducible rfl)
            (try simp only [List.getElem_toArray, List.getElem_cons_zero, Act.put, List.setIfInBounds_toArray, List.set_cons_zero, List.set_cons_succ])
            refine wpAnyH_take (i := 1) (v := ?vt1) rfl (by kernel_rfl) (by kernel_rfl) (by kernel_rfl) (fun _ _ _ h => h) (Or.inl ⟨by rfl, ?yt1⟩) (by assumption) ?rt1
            case yt1 => intro w hSw; (try dsimp only at hSw); go_simp <;> (try with_reducible rfl)
            (try simp only [List.getElem_toArray, List.getElem_cons_succ, List.getElem_cons_zero, Act.put, List.setIfInBounds_toArray, List.set_cons_zero, List.set_cons_succ])
            refine wpAnyH_take (i := 2) (v := ?vt2) rfl (by kernel_rfl) (by kernel_rfl) (by kernel_rfl) (fun _ _ _ h => h) (Or.inl ⟨by rfl, ?yt2⟩) (by assumption) ?rt2
            case yt2 => intro w hSw; (try dsimp only at hSw); go_simp <;> (try with_reducible rfl)
            (try simp only [List.getElem_toArray, List.getElem_cons_succ, List.getElem_cons_zero, Act.put, List.setIfInBounds_toArray, List.set_cons_zero, List.set_cons_succ])
            refine wpAnyH_take (i := 3) (v := ?vt3) rfl (by kernel_rfl) (by kernel_rfl) (by kernel_rfl) (fun _ _ _ h => h) (Or.inl ⟨by rfl, ?yt3⟩) (by assumption) ?rt3
            case yt3 => intro w hSw; (try dsimp only at hSw); go_simp <;> (try with_reducible rfl)
            (try simp only [List.getElem_toArray, List.getElem_cons_succ, List.getElem_cons_zero, Act.put, List.setIfInBounds_toArray, List.set_cons_zero, List.set_cons_succ])
            refine' wpAnyH_take (i := 4) (v := _) rfl (by kernel_rfl) (by kernel_rfl) (by kernel_rfl) (fun _ _ _ h => h) (yieldsIf_load_mid (by rfl) _ _ (by rfl) _ _ (by rfl) _ _ ?St4 ?ut4 ?dt4 ?it4) (by assumption) ?rt4
            case St4 => exact (by intro w h; exact KY.out _ h.1)
            case ut4 => exact hunH
            case dt4 => rfl
            case it4 => exact zy
            (try simp only [List.getElem_toArray, List.getElem_cons_succ, List.getElem_cons_zero, Act.put, List.setIfInBounds_toArray, List.set_cons_zero, List.set_cons_succ])
            refine' wpAnyH_take (i := 5) (v := _) rfl (by kernel_rfl) (by kernel_rfl) (by kernel_rfl) (fun _ _ _ h => h) (yieldsIf_load_mid (by rfl) _ _ (by rfl) _ _ (by rfl) _ _ ?St5 ?ut5 ?dt5 ?it5) (by assumption) ?rt5
            case St5 => exact (by intro w h; exact h.2)
            case ut5 => exact hunH
            case dt5 => rfl
            case it5 => exact zx
            (try simp only [List.getElem_toArray, List.getElem_cons_succ, List.getElem_cons_zero, Act.put, List.setIfInBounds_toArray, List.set_cons_zero, List.set_cons_succ])
            refine wpAnyH_ready (rs := [6]) (by kernel_rfl) (by simp) ?_
            refine AllReadyH.cons rfl (fun K hK => ?_) AllReadyH.nil
            go_simp
            go_wp2_with fail
            (with_reducible refine (HCMP.out _).mono ?_)
            rintro e w7 ⟨rfl, hb7⟩
            have B87 := B8d.next hb7 B8d.lt
            have hd7 := below_join hd3 hb7
            refine hK.out _ _ ⟨hd7, blk_range B87⟩ (fun hHeld => ?_)
            clear hK K hd3 B8d hb7
            refine wpAnyH_take (i := 7) (v := ?vt7) rfl (by kernel_rfl) (by kernel_rfl) (by kernel_rfl) (fun _ _ _ h => h) (Or.inl ⟨by rfl, ?yt7⟩) (by assumption) ?rt7
            case yt7 => intro w hSw; (try dsimp only at hSw); go_simp <;> (try with_reducible rfl)
            (try simp only [List.getElem_toArray, List.getElem_cons_succ, List.getElem_cons_zero, Act.put, List.setIfInBounds_toArray, List.set_cons_zero, List.set_cons_succ])
            refine wpAnyH_done (by kernel_rfl) ?_ _
            clear hHeld
            cases C with
            | false =>
              have hle : num x.b ≤ num y.b := by
                have h1 : ¬ (cmpH y.b x.b < 0) := of_decide_eq_false hC.out
                refine Nat.le_of_not_lt fun hc => h1 ?_
                unfold cmpH
                rw [if_pos hc]
                decide
              have HJ2 : Hid (LstI D g8 W1 (j + 1) x w7) := (⟨HJ.out.mem, (fun i z hi hz => by
                by_cases e : i = j
                · rw [e, HY.out] at hz
                  injection hz with hz
                  rw [← hz]; exact hle
                · exact HJ.out.least i z (by omega) hz), B87, hd7⟩ : LstI D g8 W1 (j + 1) x w7)
              clear hle B87 hd7
              go_wp2
              go_roundw
              case rel => exact ⟨j + 1, x, by omega, by go_num, HJ2.out⟩
              case measure => simp [intOf]; omega
            | true =>
              have hlt2 : num y.b < num x.b := by
                have h1 : cmpH y.b x.b < 0 := of_decide_eq_true hC.out
                refine Classical.byContradiction fun hc => ?_
                unfold cmpH at h1
                rw [if_neg hc] at h1
                split at h1 <;> exact absurd h1 (by decide)
              have hc2 : ∀ (v : Nat) (u : Value), (H y.b)[v]? = some u → w7.cell? ((⟨ga, oa + j * 20 + 10, none⟩ : Addr).add v) = some u := fun v u hu => by rw [addr_mid]; exact KY.out _ hd7 v u hu
              go_wp2_with (first | (with_reducible refine wpList_load_add (op := ⟨some 50, .load 23 (.tmp 49), _, _, _, _⟩) (by with_unfolding_all rfl) 23 (.tmp 49) (by with_unfolding_all rfl) ⟨ga, oa + j * 20 + 10, none⟩ (by with_unfolding_all rfl) (H y.b) _ hc2 hunH (by with_unfolding_all rfl) zy ?_) | (with_reducible refine wpList_put (o := ⟨none, .store 23 (.tmp 8) (.tmp 50), _, _, _, _⟩) (by with_unfolding_all rfl) 23 (.tmp 8) (.tmp 50) (by with_unfolding_all rfl) g8 0 (by with_unfolding_all rfl) (.agg (H y.b).toArray) (by with_unfolding_all rfl) B87 (H y.b) (by with_unfolding_all rfl) (by with_unfolding_all (rw [H_length]; exact Tryd.szH)) (by with_unfolding_all (rw [H_length, H_length]; omega)) (by with_unfolding_all (exact H_one _)) ?_))
              intro w8 hu8 B88
              rw [splice_all _ _ (by rw [H_length, H_length])] at B88
              have hd8 := hd7.trans (hu8.below (B := W1.heap.size) h8)
              have HJ2 : Hid (LstI D g8 W1 (j + 1) y w8) := (⟨List.mem_of_getElem? HY.out, (fun i z hi hz => by
                by_cases e : i = j
                · rw [e, HY.out] at hz
                  injection hz with hz
                  rw [← hz]; exact Nat.le_refl _
                · exact Nat.le_trans (Nat.le_of_lt hlt2) (HJ.out.least i z (by omega) hz)), B88, hd8⟩ : LstI D g8 W1 (j + 1) y w8)
              clear B88 hd8 hu8 hc2 B87 hd7 hlt2
              go_wp2
              go_roundw
              case rel => exact ⟨j + 1, y, by omega, by go_num, HJ2.out⟩
              case measure => simp [intOf]; omega
          · obtain rfl : j = m := by omega
            have HF : Hid (Pat.found l p none (some x.b)) := by
              have : Pat.found l p none (some x.b) := found_left (fun y hy => HWI.out y (by rw [hDl.out] at hy; exact hy)) (by rw [hDl.out]; exact HJ.out.mem) (fun y hy => by
                rw [hDl.out] at hy
                obtain ⟨i, hi, e⟩ := List.mem_iff_getElem.1 hy
                exact HJ.out.least i y (by rw [← hDm.out]; exact hi) (by rw [List.getElem?_eq_getElem hi, e]))
              exact this
            have B4 := HB4.out.next hbw HB4.out.lt
            have hbe := below_join HBE.out hbw
            clear hbw
            go_wp2_with (first | (with_reducible refine wpList_get (o := ⟨some 51, .load 23 (.tmp 8), _, _, _, _⟩) (by with_unfolding_all rfl) 23 (.tmp 8) (by with_unfolding_all rfl) g8 0 (by with_unfolding_all rfl) B8 (H x.b) (cs_all _) _ (by exact hunH) (by with_unfolding_all rfl) (by rw [H_length]; exact Tryd.szH) ?_) | (with_reducible refine wpList_put (o := ⟨none, .store 23 (.tmp 4) (.tmp 51), _, _, _, _⟩) (by with_unfolding_all rfl) 23 (.tmp 4) (.tmp 51) (by with_unfolding_all rfl) g4 0 (by with_unfolding_all rfl) (.agg (H x.b).toArray) (by with_unfolding_all rfl) B4 (H x.b) (by with_unfolding_all rfl) (by with_unfolding_all (rw [H_length]; exact Tryd.szH)) (by with_unfolding_all (rw [H_length, H_length]; omega)) (by with_unfolding_all (exact H_one _)) ?_))
            intro w11 hu11 hB11
            rw [splice_all _ _ (by rw [H_length, H_length])] at hB11
            have hfin := hbe.trans (hu11.below (B := w.heap.size) (by omega))
            go_wp2
            exact bodyPost_ret (results_cell_two rfl _ _ g4 _ _ _ _ _ rfl rfl hB11 Tryd.underlying23 rfl (by rw [List.size_toArray, H_length]; exact Tryd.szH)) rfl ⟨some x.b, rfl, HF.out, hfin⟩
end Go.Proofs.YtbldnhpbmfmepaaDoor
