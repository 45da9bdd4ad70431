/-
  Contracts of the walks over the reference's Left and MinusAll. Conditions: right patterns.
-/
import Derived.Test.YtbldnhpbmfmepaaDoorKTb
namespace Go.Proofs.YtbldnhpbmfmepaaDoor
set_option linter.unusedVariables false
set_option linter.unusedSimpArgs false
open Go.RowKit

structure LeftI (p : Pat) (l : List Pat) (most : Int) (w : World) (k : Nat) (A : Option Addr) (c : Nat) (wr : World) : Prop where
  fit : ∀ j, j < k → ((leftTo p l j).length : Int) ≤ most
  own : wr.ownsRow w.heap.size 25 20 (.slice A (leftTo p l k).length c) (leftTo p l k).length (patCells (leftTo p l k))
  below : Below w.heap.size w wr
def LeftR (p : Pat) (l : List Pat) (most : Int) (n : Nat) (w : World) (lv iv : Value) (wr : World) : Prop :=
  ∃ (k : Nat) (A : Option Addr) (c : Nat), k ≤ n + 1 ∧ iv = .int .i64 (k : Int) ∧ lv = .slice A (leftTo p l k).length c ∧ LeftI p l most w k A c wr
theorem leftTo_past (p : Pat) (l : List Pat) : leftTo p l (l.length + 1) = leftTo p l l.length := by
  unfold leftTo
  rw [List.take_of_length_le (by omega), List.take_length]
set_option maxRecDepth 100000 in
set_option maxHeartbeats 3200000 in
theorem rleft_any (cl : Nat) (Al : Option Addr) (l : List Pat) (p : Pat) (most : Int) (w : World) (hok : ∀ q, q ∈ l → q.ok) (hp : p.ok) (hll : l.length ≤ 1000000) (hl : PatsAt w Al l) (hm : most ≤ 4000) :
    Calls Tryd.prog 90 #[.agg p.cells.toArray, .slice Al l.length cl, .int .i64 most] w fun e w' => MinR w.heap.size p l most e w' ∧ Below w.heap.size w w' := by
  have HOK := Lib.hid hok
  have HP := Lib.hid hp
  have HL := Lib.hid hl
  obtain ⟨n, hn⟩ : ∃ n, Hid (l.length = n) := ⟨_, rfl⟩
  rw [hn.out] at hll ⊢
  have hunP := Tryd.underlying25
  have hzp : ∀ x : Pat, (Tryd.prog.info? 25).map (·.size) = some x.cells.length := fun x => by rw [Pat.cells_length]; exact Tryd.szP
  have HZP := Lib.hid hzp
  clear hok hp hl hzp
  go_enter Tryd.func90, Tryd.ntmps90
  go_wp2_with (with_reducible refine wpList_box (o := ⟨some 3, .box 25 (.tmp 0), _, _, _, _⟩) ?g3 25 (.tmp 0) ?o3 (.agg p.cells.toArray) p.cells ?x3 ?c3 ?_)
  try (case g3 => rfl)
  try (case o3 => rfl)
  try (case x3 => rfl)
  try (case c3 => rfl)
  intro g3 w1 hg3 hs1 hb1 B3
  have hbe : Below w.heap.size w w1 := hb1.mono (Nat.le_of_eq hg3.out.symm)
  clear hb1 hs1 hg3
  have z3 := HZP.out p
  go_wp2_with (first | (with_reducible refine wpList_get (o := ⟨some 10, .load 25 (.tmp 3), _, _, _, _⟩) (by with_unfolding_all rfl) 25 (.tmp 3) (by with_unfolding_all rfl) g3 0 (by with_unfolding_all rfl) B3 p.cells (cs_all _) _ (by exact hunP) (by with_unfolding_all rfl) (by exact z3) ?_) | (with_reducible refine wpList_row1 (o := ⟨some 11, .buildSlice 31 1 #[(0, .tmp 10)], _, _, _, _⟩) (by with_unfolding_all rfl) (.tmp 10) (by with_unfolding_all rfl) p.cells (by with_unfolding_all rfl) (Pat.cells_length p) ?_))
  intro v0 w2 hb2 OW
  have hs0 := hbe.size
  have hbe := below_join hbe hb2
  obtain ⟨A0, c0, rfl, _⟩ := own_shape OW
  have hown0 : w2.ownsRow w.heap.size 25 20 (.slice A0 (leftTo p l 0).length c0) (leftTo p l 0).length (patCells (leftTo p l 0)) := by
    have := own_mono (base' := w.heap.size) OW (fun g hg => Nat.le_trans hs0 (OW.lt g hg).1)
    rw [leftTo_zero, show patCells [p] = p.cells from List.append_nil _]
    exact this
  have H0 : Hid (LeftI p l most w 0 A0 c0 w2) := (⟨fun j hj => absurd hj (Nat.not_lt_zero j), hown0, hbe⟩ : LeftI p l most w 0 A0 c0 w2)
  clear OW B3 hbe hs0 hown0 hb2
  go_wp2
  go_loopw [8, 9] (LeftR p l most n w) (fun _ i _ => n + 1 - (intOf i).toNat)
  case atStart => exact ⟨0, A0, c0, Nat.zero_le _, rfl, rfl, H0.out⟩
  case round =>
    clear H0
    obtain ⟨k, A, c, hk, rfl, rfl, hI⟩ := hrel
    have HI := Lib.hid hI
    have hbe := HI.out.below
    clear hI
    by_cases hle : k ≤ n
    · have hki : (k : Int) ≤ (n : Int) := by omega
      obtain ⟨D, hD⟩ : ∃ D, Hid (leftTo p l k = D) := ⟨_, rfl⟩
      obtain ⟨m, hDm⟩ : ∃ m, Hid (D.length = m) := ⟨_, rfl⟩
      have OW := HI.out.own
      rw [hD.out, hDm.out] at OW
      rw [hD.out, hDm.out]
      by_cases hgt : (m : Int) > most
      · have hnf : Hid (¬ allFit p l most) := fun hf => by
          have h1 := hf k (by rw [hn.out]; omega)
          rw [hD.out, hDm.out] at h1
          omega
        clear OW
        go_wp2
        go_ret2
        exact ⟨.inr ⟨hnf.out, rfl⟩, hbe⟩
      · have hfk : ∀ j, j < k + 1 → ((leftTo p l j).length : Int) ≤ most := fun j hj => by
          by_cases e : j = k
          · rw [e, hD.out, hDm.out]; omega
          · exact HI.out.fit j (by omega)
        have HFK := Lib.hid hfk
        clear hfk
        by_cases hlt : k < n
        · have hkl : (k : Int) < (n : Int) := by omega
          obtain ⟨q, hq⟩ : ∃ q, l[k]? = some q := ⟨_, List.getElem?_eq_getElem (by rw [hn.out]; exact hlt)⟩
          have HQ := Lib.hid hq
          obtain ⟨ga, oa, hAl, hca⟩ := (HL.out.next HI.out.below) k q hq
          subst hAl
          have hc2 : ∀ (j : Nat) (u : Value), q.cells[j]? = some u → wr.cell? ((⟨ga, oa + k * 20, none⟩ : Addr).add j) = some u := fun j u hu => by rw [addr_mid]; exact hca j u hu
          have zx := HZP.out q
          have hwi : ∀ x, x ∈ D → x.ok := fun x hx => (within_left HP.out HOK.out k x (by rw [hD.out]; exact hx)).1
          have PD : PatsAt wr A D := by
            have OW2 := OW
            rw [← hDm.out] at OW2
            exact own_pats OW2
          have hme := rminusEach_any c A D q wr hwi (HOK.out q (List.mem_of_getElem? hq)) (by rw [hDm.out]; omega) PD
          rw [hDm.out] at hme
          have hnx : (D.flatMap fun x => x.minus q) = leftTo p l (k + 1) := by rw [leftTo_succ hq, hD.out]
          rw [hnx] at hme
          have HME := Lib.hid hme
          clear hme hnx hwi PD hq hca
          go_wp2_with (with_reducible refine wpList_load_add (op := ⟨some 30, .load 25 (.tmp 29), _, _, _, _⟩) (by with_unfolding_all rfl) 25 (.tmp 29) (by with_unfolding_all rfl) ⟨ga, oa + k * 20, none⟩ (by with_unfolding_all rfl) q.cells _ hc2 hunP (by with_unfolding_all rfl) zx ?_)
          (with_reducible refine HME.out.mono ?_)
          rintro e w5 ⟨A5, c5, rfl, O5, hb5⟩
          have hs5 := hbe.size
          have hI5 : Hid (LeftI p l most w (k + 1) A5 c5 w5) := (⟨HFK.out, own_mono O5 (fun g hg => Nat.le_trans hs5 (O5.lt g hg).1), below_join hbe hb5⟩ : LeftI p l most w (k + 1) A5 c5 w5)
          clear O5 OW hb5 hc2
          go_wp2
          go_roundw
          case rel => exact ⟨k + 1, A5, c5, by omega, by go_num, rfl, hI5.out⟩
          case measure => simp [intOf]; omega
        · obtain rfl : k = n := by omega
          have hpast : Hid (leftTo p l (k + 1) = D) := by
            have : leftTo p l (k + 1) = D := by
              rw [← hn.out, leftTo_past, hn.out, hD.out]
            exact this
          have hI5 : Hid (LeftI p l most w (k + 1) A c wr) := (⟨HFK.out, by rw [hpast.out, hDm.out]; exact OW, hbe⟩ : LeftI p l most w (k + 1) A c wr)
          clear OW
          go_wp2
          go_roundw
          case rel => exact ⟨k + 1, A, c, by omega, by go_num, by rw [hpast.out, hDm.out], hI5.out⟩
          case measure => simp [intOf]
    · obtain rfl : k = n + 1 := by omega
      have hpast : Hid (leftTo p l (n + 1) = leftTo p l l.length) := by
        have : leftTo p l (n + 1) = leftTo p l l.length := by rw [← hn.out, leftTo_past]
        exact this
      have OW := HI.out.own
      rw [hpast.out] at OW ⊢
      have hres : Hid (MinR w.heap.size p l most (.returned (.tuple #[.slice A (leftTo p l l.length).length c, .int .i64 0])) wr) := .inl ⟨fun j hj => HI.out.fit j (by rw [hn.out] at hj; omega), A, c, rfl, OW⟩
      obtain ⟨m, hm⟩ : ∃ m, (leftTo p l l.length).length = m := ⟨_, rfl⟩
      rw [hm] at hres ⊢
      clear OW hm hpast
      go_wp2
      go_ret2
      exact ⟨hres.out, hbe⟩
set_option maxRecDepth 100000 in
set_option maxHeartbeats 3200000 in
theorem rminusAll_any (cl : Nat) (Al : Option Addr) (l : List Pat) (p : Pat) (w : World) (hok : ∀ q, q ∈ l → q.ok) (hp : p.ok) (hll : l.length ≤ 1000000) (hl : PatsAt w Al l) :
    Calls Tryd.prog 57 #[.agg p.cells.toArray, .slice Al l.length cl] w fun e w' => MinR w.heap.size p l 4000 e w' ∧ Below w.heap.size w w' := by
  obtain ⟨n, hn⟩ : ∃ n, Hid (l.length = n) := ⟨_, rfl⟩
  have hc : ∀ W, Below w.heap.size w W → Calls Tryd.prog 90 #[.agg p.cells.toArray, .slice Al n cl, .int .i64 4000] W fun e w' => MinR W.heap.size p l 4000 e w' ∧ Below W.heap.size W w' := fun W hb => by
    rw [← hn.out]
    exact rleft_any cl Al l p 4000 W hok hp hll (hl.next hb) (by decide)
  have HC := Lib.hid hc
  have hunP := Tryd.underlying25
  have hzp : (Tryd.prog.info? 25).map (·.size) = some p.cells.length := by rw [Pat.cells_length]; exact Tryd.szP
  rw [hn.out]
  clear hc hok hp hll hl
  go_enter Tryd.func57, Tryd.ntmps57
  go_wp2_with (with_reducible refine wpList_box (o := ⟨some 2, .box 25 (.tmp 0), _, _, _, _⟩) ?g2 25 (.tmp 0) ?o2 (.agg p.cells.toArray) p.cells ?x2 ?c2 ?_)
  try (case g2 => rfl)
  try (case o2 => rfl)
  try (case x2 => rfl)
  try (case c2 => rfl)
  intro g2 w1 hg2 hs1 hb1 B2
  have hbe : Below w.heap.size w w1 := hb1.mono (Nat.le_of_eq hg2.out.symm)
  clear hb1 hs1 hg2
  go_wp2_with (with_reducible refine wpList_get (o := ⟨some 6, .load 25 (.tmp 2), _, _, _, _⟩) (by with_unfolding_all rfl) 25 (.tmp 2) (by with_unfolding_all rfl) g2 0 (by with_unfolding_all rfl) B2 p.cells (cs_all _) _ (by exact hunP) (by with_unfolding_all rfl) (by exact hzp) ?_)
  (with_reducible refine (HC.out _ hbe).mono ?_)
  rintro e w2 ⟨hR, hb2⟩
  have hs2 := hbe.size
  have hbe := below_join hbe hb2
  rcases hR with ⟨hf, A, c, rfl, how⟩ | ⟨hnf, rfl⟩
  · have HO := Lib.hid (own_mono (base' := w.heap.size) how (fun g hg => Nat.le_trans hs2 (how.lt g hg).1))
    have HF := Lib.hid hf
    clear how hf hb2 B2
    go_wp2
    go_ret2
    exact ⟨.inl ⟨HF.out, A, c, rfl, HO.out⟩, hbe⟩
  · have HF := Lib.hid hnf
    clear hnf hb2 B2
    go_wp2
    go_ret2
    exact ⟨.inr ⟨HF.out, rfl⟩, hbe⟩
end Go.Proofs.YtbldnhpbmfmepaaDoor
