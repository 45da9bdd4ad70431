/-
  Contracts of the functions that the statement calls, part 10 of 26 (merged texts: Rk). Conditions: as the head of each part says.
-/
import Derived.Test.YtbldnhpbmfmepaaDoorGI

/-
  Contract of the walk over the reference's Join. Conditions: none.
-/
namespace Go.Proofs.YtbldnhpbmfmepaaDoor
set_option linter.unusedVariables false
set_option linter.unusedSimpArgs false
open Go.RowKit

/-- What is known of the last place that is odd. -/
structure One (o : Nat → Bool) (k : Nat) (a : Int) : Prop where
  zero : cnt o 0 k = 0 → ∀ j, j < k → o j = false
  one : cnt o 0 k = 1 → ∃ s, s < k ∧ a = (s : Int) ∧ o s = true ∧ ∀ j, j < k → j ≠ s → o j = false
theorem cnt_next (o : Nat → Bool) (k : Nat) : cnt o 0 (k + 1) = cnt o 0 k + (o k).toNat := by
  show cnt o 0 k + (o (0 + k)).toNat = _
  rw [Nat.zero_add]
theorem One.skip {o : Nat → Bool} {k : Nat} {a : Int} (h : One o k a) (ho : o k = false) : One o (k + 1) a := by
  have e := cnt_next o k
  rw [ho] at e
  have e2 : cnt o 0 (k + 1) = cnt o 0 k := e
  refine ⟨fun hc j hj => ?_, fun hc => ?_⟩
  · by_cases hjk : j = k
    · rw [hjk]; exact ho
    · exact h.zero (by omega) j (by omega)
  · obtain ⟨s, h1, h2, h3, h4⟩ := h.one (by omega)
    refine ⟨s, by omega, h2, h3, fun j hj hne => ?_⟩
    by_cases hjk : j = k
    · rw [hjk]; exact ho
    · exact h4 j (by omega) hne
theorem One.take {o : Nat → Bool} {k : Nat} {a : Int} (h : One o k a) (ho : o k = true) : One o (k + 1) (k : Int) := by
  have e := cnt_next o k
  rw [ho] at e
  have e2 : cnt o 0 (k + 1) = cnt o 0 k + 1 := e
  refine ⟨fun hc => by omega, fun hc => ⟨k, by omega, rfl, ho, fun j hj hne => h.zero (by omega) j (by omega)⟩⟩
theorem Pat.join_one {p q : Pat} {s : Nat} (hs : p.odd q s = true) (h : ∀ j, j < 160 → j ≠ s → p.odd q j = false) : (⟨upd p.m s false, upd p.b s false⟩ : Pat).cells = (p.join q).cells := by
  refine cells_congr ⟨fun i hi => ?_, fun i hi => ?_⟩
  · show upd p.m s false i = (p.m i && !p.odd q i)
    unfold upd
    by_cases e : i = s
    · rw [if_pos e, e, hs]; simp
    · rw [if_neg e, h i hi e]; simp
  · show upd p.b s false i = (p.b i && !p.odd q i)
    unfold upd
    by_cases e : i = s
    · rw [if_pos e, e, hs]; simp
    · rw [if_neg e, h i hi e]; simp
def RJoinRel (p q : Pat) (gp gq gr : Nat) (w : World) (a n i : Value) (wr : World) : Prop :=
  ∃ (k N : Nat) (A : Int), k ≤ 160 ∧ a = .int .i64 A ∧ n = .int .i64 (N : Int) ∧ i = .int .i64 (k : Int) ∧ cnt (p.odd q) 0 k = N ∧ One (p.odd q) k A ∧ Blk wr gp 25 p.cells ∧ Blk wr gq 25 q.cells ∧ Blk wr gr 25 Pat.zero.cells ∧ Below w.heap.size w wr
set_option maxRecDepth 100000 in
set_option maxHeartbeats 3200000 in
theorem rjoin_any (p q : Pat) (w : World) :
    Calls Tryd.prog 41 #[.agg p.cells.toArray, .agg q.cells.toArray] w fun e w' => e = .returned (.tuple #[.agg (p.joinV q).cells.toArray, .bool (p.joins q)]) ∧ Below w.heap.size w w' := by
  obtain ⟨D, hD⟩ : ∃ D, Hid (p.joins q = D) := ⟨_, rfl⟩
  obtain ⟨X, hX⟩ : ∃ X, Hid (p.joinV q = X) := ⟨_, rfl⟩
  obtain ⟨D1, hD1⟩ : ∃ D, Hid (decide (HI p.m = HI q.m) = D) := ⟨_, rfl⟩
  rw [hD.out, hX.out]
  have hneq : ∀ w, (binOp .neq 23 (.agg (H p.m).toArray) (.agg (H q.m).toArray)).run Tryd.prog w = .ok (.bool (!D1)) w := fun w => by rw [neqH, hD1.out]
  have hgd := Tryd.guardH
  go_enter Tryd.func41, Tryd.ntmps41
  go_wp2_with (with_reducible refine wpList_box (o := ⟨some 2, .box 25 (.tmp 0), _, _, _, _⟩) ?g1 25 (.tmp 0) ?o1 (.agg p.cells.toArray) p.cells ?x1 ?c1 ?_)
  try (case g1 => rfl)
  try (case o1 => rfl)
  try (case x1 => rfl)
  try (case c1 => rfl)
  intro gp w1 hgp hs1 hb1 hP1
  go_wp2_with (with_reducible refine wpList_box (o := ⟨some 3, .box 25 (.tmp 1), _, _, _, _⟩) ?g2 25 (.tmp 1) ?o2 (.agg q.cells.toArray) q.cells ?x2 ?c2 ?_)
  try (case g2 => rfl)
  try (case o2 => rfl)
  try (case x2 => rfl)
  try (case c2 => rfl)
  intro gq w2 hgq hs2 hb2 hQ2
  go_wp2_with (with_reducible refine wpList_alloc (o := ⟨some 4, .alloc 25, _, _, _, _⟩) (by with_unfolding_all rfl) 25 (by with_unfolding_all rfl) (.agg (H no ++ H no).toArray) (H no ++ H no) (by exact Tryd.zeroPt) (by with_unfolding_all rfl) ?_)
  intro gr w3 hgr hs3 hb3 hR3
  rw [cells_zero] at hR3
  have hle : w.heap.size ≤ gp := Nat.le_of_eq hgp.out.symm
  have hab : gp < gq := by have := hgp.out; have := hs1.out; have := hgq.out; omega
  have hbr : gq < gr := by have := hgq.out; have := hs2.out; have := hgr.out; omega
  have hP3 := (hP1.next hb2 hab).next hb3 (by omega)
  have hQ3 := hQ2.next hb3 hbr
  have hbel := ((hb1.mono hle).trans (hb2.mono (by omega))).trans (hb3.mono (by omega : w.heap.size ≤ gr))
  clear hgp hs1 hb1 hP1 hgq hs2 hb2 hQ2 hgr hs3 hb3
  go_wp2
  go_loopw [6, 7, 8] (fun a n i wr => RJoinRel p q gp gq gr w a n i wr) (fun _ _ i _ => 160 - (intOf i).toNat)
  case atStart => exact ⟨0, 0, -1, by omega, rfl, rfl, rfl, rfl, ⟨fun _ j hj => absurd hj (by omega), fun h => absurd (show (0 : Nat) = 1 from h) (by omega)⟩, hP3, hQ3, hR3, hbel⟩
  case round =>
    clear hP3 hQ3 hR3 hbel
    obtain ⟨k, N, A, hk, rfl, rfl, rfl, hN, hO, hP, hQ, hR, hbel⟩ := hrel
    have hN160 : N ≤ 160 := by have := cnt_le (p.odd q) 0 k; omega
    by_cases hlt : k < 160
    · obtain ⟨b, hb⟩ : ∃ b, p.b k = b := ⟨_, rfl⟩
      obtain ⟨c, hc⟩ : ∃ c, q.b k = c := ⟨_, rfl⟩
      have hodd : p.odd q k = (b != c) := by rw [← hb, ← hc]; rfl
      have hcn := cnt_next (p.odd q) k
      rw [hN] at hcn
      have hbb := rbit_any p.b k
      have hbc := rbit_any q.b k
      rw [hb] at hbb
      rw [hc] at hbc
      have HBB := Lib.hid hbb
      have HBC := Lib.hid hbc
      have HO := Lib.hid hO
      have HCN := Lib.hid hcn
      have HODD := Lib.hid hodd
      clear hbb hbc hb hc hO hN hcn hodd
      go_wp2
      have hrg : ∀ w', Below wr.heap.size wr w' → Below wr.heap.size wr w' ∧ w'.rangeAt gp 10 (H p.b) ∧ w'.rangeAt gq 10 (H q.b) := fun w' hw => ⟨hw, at_b (hP.next hw hP.lt), at_b (hQ.next hw hQ.lt)⟩
      have hun := Tryd.underlying23
      have hz2 : (Tryd.prog.info? 23).map (·.size) = some (H p.b).length := by rw [H_length]; exact Tryd.szH
      have hz3 : (Tryd.prog.info? 23).map (·.size) = some (H q.b).length := by rw [H_length]; exact Tryd.szH
      have HRG := Lib.hid hrg
      clear hrg
      have hdd := below_drew wr
      refine wp_region_held_drew (S := fun w' => Below wr.heap.size wr w' ∧ w'.rangeAt gp 10 (H p.b) ∧ w'.rangeAt gq 10 (H q.b)) (by kernel_rfl) (HRG.out _ hdd) (fun hHeld => ?_)
      generalize wr.drew = wd at hdd hHeld ⊢
      refine wpAnyH_take (i := 0) (v := ?vt0) rfl (by kernel_rfl) (by kernel_rfl) (by kernel_rfl) (fun _ _ _ h => h) (Or.inl ⟨by rfl, ?yt0⟩) (by assumption) ?rt0
      case yt0 => intro w hSw; (try dsimp only at hSw); go_simp <;> (try with_reducible rfl)
      (try simp only [List.getElem_toArray, List.getElem_cons_zero, Act.put, List.setIfInBounds_toArray, List.set_cons_zero, List.set_cons_succ])
      refine' wpAnyH_take (i := 1) (v := _) rfl (by kernel_rfl) (by kernel_rfl) (by kernel_rfl) (fun _ _ _ h => h) (yieldsIf_load_mid (by rfl) _ _ (by rfl) _ _ (by rfl) _ _ ?St1 ?ut1 ?dt1 ?it1) (by assumption) ?rt1
      case St1 => exact (by intro w h; exact h.2.1)
      case ut1 => exact hun
      case dt1 => rfl
      case it1 => exact hz2
      (try simp only [List.getElem_toArray, List.getElem_cons_succ, List.getElem_cons_zero, Act.put, List.setIfInBounds_toArray, List.set_cons_zero, List.set_cons_succ])
      refine wpAnyH_take (i := 2) (v := ?vt2) rfl (by kernel_rfl) (by kernel_rfl) (by kernel_rfl) (fun _ _ _ h => h) (Or.inl ⟨by rfl, ?yt2⟩) (by assumption) ?rt2
      case yt2 => intro w hSw; (try dsimp only at hSw); go_simp <;> (try with_reducible rfl)
      (try simp only [List.getElem_toArray, List.getElem_cons_succ, List.getElem_cons_zero, Act.put, List.setIfInBounds_toArray, List.set_cons_zero, List.set_cons_succ])
      refine wpAnyH_take (i := 4) (v := ?vt4) rfl (by kernel_rfl) (by kernel_rfl) (by kernel_rfl) (fun _ _ _ h => h) (Or.inl ⟨by rfl, ?yt4⟩) (by assumption) ?rt4
      case yt4 => intro w hSw; (try dsimp only at hSw); go_simp <;> (try with_reducible rfl)
      (try simp only [List.getElem_toArray, List.getElem_cons_succ, List.getElem_cons_zero, Act.put, List.setIfInBounds_toArray, List.set_cons_zero, List.set_cons_succ])
      refine' wpAnyH_take (i := 5) (v := _) rfl (by kernel_rfl) (by kernel_rfl) (by kernel_rfl) (fun _ _ _ h => h) (yieldsIf_load_mid (by rfl) _ _ (by rfl) _ _ (by rfl) _ _ ?St5 ?ut5 ?dt5 ?it5) (by assumption) ?rt5
      case St5 => exact (by intro w h; exact h.2.2)
      case ut5 => exact hun
      case dt5 => rfl
      case it5 => exact hz3
      (try simp only [List.getElem_toArray, List.getElem_cons_succ, List.getElem_cons_zero, Act.put, List.setIfInBounds_toArray, List.set_cons_zero, List.set_cons_succ])
      refine wpAnyH_take (i := 6) (v := ?vt6) rfl (by kernel_rfl) (by kernel_rfl) (by kernel_rfl) (fun _ _ _ h => h) (Or.inl ⟨by rfl, ?yt6⟩) (by assumption) ?rt6
      case yt6 => intro w hSw; (try dsimp only at hSw); go_simp <;> (try with_reducible rfl)
      (try simp only [List.getElem_toArray, List.getElem_cons_succ, List.getElem_cons_zero, Act.put, List.setIfInBounds_toArray, List.set_cons_zero, List.set_cons_succ])
      refine wpAnyH_ready (rs := [3]) (by kernel_rfl) (by simp) ?_
      refine AllReadyH.cons rfl (fun K hK => ?_) AllReadyH.nil
      go_simp
      go_wp2_with fail
      (with_reducible refine (HBB.out _ hlt).mono ?_)
      rintro e wB ⟨rfl, hbB⟩
      have hkB := below_join hdd hbB
      refine hK.out _ _ (HRG.out _ hkB) (fun hHeld => ?_)
      clear hK K hdd hbB
      refine wpAnyH_ready (rs := [7]) (by kernel_rfl) (by simp) ?_
      refine AllReadyH.cons rfl (fun K hK => ?_) AllReadyH.nil
      go_simp
      go_wp2_with fail
      (with_reducible refine (HBC.out _ hlt).mono ?_)
      rintro e wC ⟨rfl, hbC⟩
      have hkC := below_join hkB hbC
      refine hK.out _ _ (HRG.out _ hkC) (fun hHeld => ?_)
      clear hK K hkB hbC
      have hP3 := hP.next hkC hP.lt
      have hQ3 := hQ.next hkC hQ.lt
      have hR3 := hR.next hkC hR.lt
      have hbel3 := hbel.trans (hkC.mono hbel.size)
      clear hP hQ hR hbel
      by_cases hbc : b = c
      · subst hbc
        have ho : p.odd q k = false := by rw [HODD.out]; simp
        have HO2 := Lib.hid (HO.out.skip ho)
        have HCN2 : Hid (cnt (p.odd q) 0 (k + 1) = N) := by
          have : cnt (p.odd q) 0 (k + 1) = N := by rw [HCN.out, ho]; rfl
          exact this
        clear ho
        refine wpAnyH_take (i := 8) (v := ?vu8) rfl (by kernel_rfl) (by kernel_rfl) (by kernel_rfl) (fun _ _ _ h => h) (Or.inl ⟨by rfl, ?yu8⟩) (by assumption) ?ru8
        case yu8 => intro w hSw; (try dsimp only at hSw); go_simp <;> (try with_reducible rfl)
        (try simp only [List.getElem_toArray, List.getElem_cons_succ, List.getElem_cons_zero, Act.put, List.setIfInBounds_toArray, List.set_cons_zero, List.set_cons_succ])
        refine wpAnyH_done (by kernel_rfl) ?_ _
        go_wp2
        go_roundw
        case rel => exact ⟨k + 1, N, A, by omega, rfl, rfl, by go_num, HCN2.out, HO2.out, hP3, hQ3, hR3, hbel3⟩
        case measure => simp [intOf]; omega
      · have hne : ((b.toNat : Int) != (c.toNat : Int)) = true := bne_iff_ne.2 (toNat_ne hbc)
        have ho : p.odd q k = true := by rw [HODD.out]; exact bne_iff_ne.2 hbc
        have HO2 := Lib.hid (HO.out.take ho)
        have HCN2 : Hid (cnt (p.odd q) 0 (k + 1) = N + 1) := by
          have : cnt (p.odd q) 0 (k + 1) = N + 1 := by rw [HCN.out, ho]; rfl
          exact this
        clear ho hbc
        refine wpAnyH_take (i := 8) (v := ?vx8) rfl (by kernel_rfl) (by kernel_rfl) (by kernel_rfl) (fun _ _ _ h => h) (Or.inl ⟨by rfl, ?yx8⟩) (by assumption) ?rx8
        case yx8 => intro w hSw; (try dsimp only at hSw); go_simp <;> (try with_reducible rfl)
        (try simp only [List.getElem_toArray, List.getElem_cons_succ, List.getElem_cons_zero, Act.put, List.setIfInBounds_toArray, List.set_cons_zero, List.set_cons_succ])
        refine wpAnyH_done (by kernel_rfl) ?_ _
        go_wp2
        go_roundw
        case rel => exact ⟨k + 1, N + 1, (k : Int), by omega, rfl, by go_num, by go_num, HCN2.out, HO2.out, hP3, hQ3, hR3, hbel3⟩
        case measure => simp [intOf]; omega
    · obtain rfl : k = 160 := by omega
      have HO := Lib.hid hO
      have HN := Lib.hid hN
      clear hO hN
      have hDv : Hid (D = (D1 && decide (N = 1))) := by
        have : D = (D1 && decide (N = 1)) := by rw [← hD.out, ← hD1.out]; unfold Pat.joins; rw [HN.out]
        exact this
      by_cases hok : D1 = true ∧ N = 1
      · obtain ⟨rfl, rfl⟩ := hok
        obtain ⟨s, hs1, rfl, hs3, hs4⟩ := HO.out.one HN.out
        have hDt : Hid (D = true) := hDv.out
        have hXe : Hid ((⟨upd p.m s false, upd p.b s false⟩ : Pat).cells = X.cells) := by
          have : (⟨upd p.m s false, upd p.b s false⟩ : Pat).cells = X.cells := by
            rw [Pat.join_one hs3 hs4, ← hX.out]
            unfold Pat.joinV
            rw [hD.out, hDt.out, if_pos rfl]
          exact this
        obtain ⟨M, hM⟩ : ∃ M, upd p.m s false = M := ⟨_, rfl⟩
        obtain ⟨B, hB⟩ : ∃ B, upd p.b s false = B := ⟨_, rfl⟩
        have hsm := fun w => rset_any p.m s false w
        have hsb := fun w => rset_any p.b s false w
        rw [hM, show ((false.toNat : Nat) : Int) = 0 from rfl] at hsm
        rw [hB, show ((false.toNat : Nat) : Int) = 0 from rfl] at hsb
        rw [hM, hB] at hXe
        have HSM := Lib.hid hsm
        have HSB := Lib.hid hsb
        clear hsm hsb hM hB hs3 hs4 hDv HO HN hlt
        go_wp2_with (first | (with_reducible refine wpList_get (o := ⟨some 26, .load 23 (.tmp 25), _, _, _, _⟩) (by with_unfolding_all rfl) 23 (.tmp 25) (by with_unfolding_all rfl) gp 0 (by with_unfolding_all rfl) hP (H p.m) (cells_take_m p) _ (by exact Tryd.underlying23) (by with_unfolding_all rfl) (by rw [H_length]; exact Tryd.szH) ?_) | (with_reducible refine wpList_get (o := ⟨some 28, .load 23 (.tmp 27), _, _, _, _⟩) (by with_unfolding_all rfl) 23 (.tmp 27) (by with_unfolding_all rfl) gq 0 (by with_unfolding_all rfl) hQ (H q.m) (cells_take_m q) _ (by exact Tryd.underlying23) (by with_unfolding_all rfl) (by rw [H_length]; exact Tryd.szH) ?_) | (with_reducible refine wpList_get (o := ⟨some 36, .load 23 (.tmp 35), _, _, _, _⟩) (by with_unfolding_all rfl) 23 (.tmp 35) (by with_unfolding_all rfl) gp 0 (by with_unfolding_all rfl) hP (H p.m) (cells_take_m p) _ (by exact Tryd.underlying23) (by with_unfolding_all rfl) (by rw [H_length]; exact Tryd.szH) ?_))
        (with_reducible refine (HSM.out _ hs1).mono ?_)
        rintro e w4 ⟨rfl, hb4⟩
        have hP4 := hP.next hb4 hP.lt
        have hR4 := hR.next hb4 hR.lt
        have hbel4 := hbel.trans (hb4.mono hbel.size)
        clear hP hQ hR hb4 hbel
        go_wp2_with (with_reducible refine wpList_put (o := ⟨none, .store 23 (.tmp 39) (.tmp 38), _, _, _, _⟩) (by with_unfolding_all rfl) 23 (.tmp 39) (.tmp 38) (by with_unfolding_all rfl) gp 0 (by with_unfolding_all rfl) (.agg (H M).toArray) (by with_unfolding_all rfl) hP4 (H M) (by with_unfolding_all rfl) (by with_unfolding_all (rw [H_length]; exact Tryd.szH)) (by with_unfolding_all (rw [H_length, Pat.cells_length]; omega)) (by with_unfolding_all (exact H_one _)) ?_)
        intro w5 hu5 hP5
        rw [splice_m] at hP5
        have hR5 := hR4.upd hu5 (by omega)
        have hbel5 := hbel4.trans (hu5.below (B := w.heap.size) hle)
        clear hP4 hR4 hu5 hbel4
        go_wp2_with (with_reducible refine wpList_get (o := ⟨some 41, .load 23 (.tmp 40), _, _, _, _⟩) (by with_unfolding_all rfl) 23 (.tmp 40) (by with_unfolding_all rfl) gp 10 (by with_unfolding_all rfl) hP5 (H p.b) (cells_take_b ⟨M, p.b⟩) _ (by exact Tryd.underlying23) (by with_unfolding_all rfl) (by rw [H_length]; exact Tryd.szH) ?_)
        (with_reducible refine (HSB.out _ hs1).mono ?_)
        rintro e w6 ⟨rfl, hb6⟩
        have hP6 := hP5.next hb6 hP5.lt
        have hR6 := hR5.next hb6 hR5.lt
        have hbel6 := hbel5.trans (hb6.mono hbel5.size)
        clear hP5 hR5 hb6 hbel5
        go_wp2_with (with_reducible refine wpList_put (o := ⟨none, .store 23 (.tmp 44) (.tmp 43), _, _, _, _⟩) (by with_unfolding_all rfl) 23 (.tmp 44) (.tmp 43) (by with_unfolding_all rfl) gp 10 (by with_unfolding_all rfl) (.agg (H B).toArray) (by with_unfolding_all rfl) hP6 (H B) (by with_unfolding_all rfl) (by with_unfolding_all (rw [H_length]; exact Tryd.szH)) (by with_unfolding_all (rw [H_length, Pat.cells_length]; omega)) (by with_unfolding_all (exact H_one _)) ?_)
        intro w7 hu7 hP7
        rw [splice_b, hXe.out] at hP7
        have hR7 := hR6.upd hu7 (by omega)
        have hbel7 := hbel6.trans (hu7.below (B := w.heap.size) hle)
        clear hP6 hR6 hu7 hbel6
        go_wp2_with (first | (with_reducible refine wpList_get (o := ⟨some 45, .load 25 (.tmp 2), _, _, _, _⟩) (by with_unfolding_all rfl) 25 (.tmp 2) (by with_unfolding_all rfl) gp 0 (by with_unfolding_all rfl) hP7 X.cells (cs_all _) _ (by exact Tryd.underlying25) (by with_unfolding_all rfl) (by rw [Pat.cells_length]; exact Tryd.szP) ?_) | (with_reducible refine wpList_put (o := ⟨none, .store 25 (.tmp 4) (.tmp 45), _, _, _, _⟩) (by with_unfolding_all rfl) 25 (.tmp 4) (.tmp 45) (by with_unfolding_all rfl) gr 0 (by with_unfolding_all rfl) (.agg X.cells.toArray) (by with_unfolding_all rfl) hR7 X.cells (by with_unfolding_all rfl) (by with_unfolding_all (rw [Pat.cells_length]; exact Tryd.szP)) (by with_unfolding_all (rw [Pat.cells_length, Pat.cells_length]; omega)) (by with_unfolding_all (exact cells_one _)) ?_))
        intro w8 hu8 hR8
        rw [splice_all _ _ (by rw [Pat.cells_length, Pat.cells_length])] at hR8
        have hb8 := hbel7.trans (hu8.below (B := w.heap.size) (by omega))
        go_wp2
        exact bodyPost_ret (results_cell_two rfl _ _ gr _ _ _ _ _ rfl rfl hR8 Tryd.underlying25 rfl (by rw [List.size_toArray, Pat.cells_length]; exact Tryd.szP)) rfl ⟨by rw [hDt.out]; rfl, hb8⟩
      · have hDf : Hid (D = false) := by
          have : D = false := by
            rw [hDv.out]
            rcases D1 with _ | _
            · rfl
            · exact decide_eq_false fun h => hok ⟨rfl, h⟩
          exact this
        have hXe : Hid (X = .zero) := by
          have : X = .zero := by
            rw [← hX.out]; unfold Pat.joinV
            rw [hD.out, hDf.out]; rfl
          exact this
        have hnn : Hid (D1 = true → ((N : Int) != 1) = true) := by
          have : D1 = true → ((N : Int) != 1) = true := fun h => bne_iff_ne.2 fun h2 => hok ⟨h, by omega⟩
          exact this
        clear hok hDv HO HN
        rcases D1 with _ | _
        · go_wp2_with (first | (with_reducible refine wpList_get (o := ⟨some 26, .load 23 (.tmp 25), _, _, _, _⟩) (by with_unfolding_all rfl) 23 (.tmp 25) (by with_unfolding_all rfl) gp 0 (by with_unfolding_all rfl) hP (H p.m) (cells_take_m p) _ (by exact Tryd.underlying23) (by with_unfolding_all rfl) (by rw [H_length]; exact Tryd.szH) ?_) | (with_reducible refine wpList_get (o := ⟨some 28, .load 23 (.tmp 27), _, _, _, _⟩) (by with_unfolding_all rfl) 23 (.tmp 27) (by with_unfolding_all rfl) gq 0 (by with_unfolding_all rfl) hQ (H q.m) (cells_take_m q) _ (by exact Tryd.underlying23) (by with_unfolding_all rfl) (by rw [H_length]; exact Tryd.szH) ?_) | (with_reducible refine wpList_build (o := ⟨some 34, .build 25 #[], _, _, _, _⟩) (by with_unfolding_all rfl) 25 #[] (by with_unfolding_all rfl) #[] (by with_unfolding_all rfl) (.agg Pat.zero.cells.toArray) (by with_unfolding_all exact fun w => run_buildP0 w) ?_) | (with_reducible refine wpList_put (o := ⟨none, .store 25 (.tmp 4) (.tmp 34), _, _, _, _⟩) (by with_unfolding_all rfl) 25 (.tmp 4) (.tmp 34) (by with_unfolding_all rfl) gr 0 (by with_unfolding_all rfl) (.agg Pat.zero.cells.toArray) (by with_unfolding_all rfl) hR Pat.zero.cells (by with_unfolding_all rfl) (by with_unfolding_all (rw [Pat.cells_length]; exact Tryd.szP)) (by with_unfolding_all (rw [Pat.cells_length]; omega)) (by with_unfolding_all (exact cells_one _)) ?_))
          intro w5 hu5 hR5
          rw [splice_all _ _ rfl, ← hXe.out] at hR5
          have hb5 := hbel.trans (hu5.below (B := w.heap.size) (by omega))
          go_wp2
          exact bodyPost_ret (results_cell_two rfl _ _ gr _ _ _ _ _ rfl rfl hR5 Tryd.underlying25 rfl (by rw [List.size_toArray, Pat.cells_length]; exact Tryd.szP)) rfl ⟨by rw [hDf.out]; rfl, hb5⟩
        · have hn1 := hnn.out rfl
          go_wp2_with (first | (with_reducible refine wpList_get (o := ⟨some 26, .load 23 (.tmp 25), _, _, _, _⟩) (by with_unfolding_all rfl) 23 (.tmp 25) (by with_unfolding_all rfl) gp 0 (by with_unfolding_all rfl) hP (H p.m) (cells_take_m p) _ (by exact Tryd.underlying23) (by with_unfolding_all rfl) (by rw [H_length]; exact Tryd.szH) ?_) | (with_reducible refine wpList_get (o := ⟨some 28, .load 23 (.tmp 27), _, _, _, _⟩) (by with_unfolding_all rfl) 23 (.tmp 27) (by with_unfolding_all rfl) gq 0 (by with_unfolding_all rfl) hQ (H q.m) (cells_take_m q) _ (by exact Tryd.underlying23) (by with_unfolding_all rfl) (by rw [H_length]; exact Tryd.szH) ?_) | (with_reducible refine wpList_build (o := ⟨some 34, .build 25 #[], _, _, _, _⟩) (by with_unfolding_all rfl) 25 #[] (by with_unfolding_all rfl) #[] (by with_unfolding_all rfl) (.agg Pat.zero.cells.toArray) (by with_unfolding_all exact fun w => run_buildP0 w) ?_) | (with_reducible refine wpList_put (o := ⟨none, .store 25 (.tmp 4) (.tmp 34), _, _, _, _⟩) (by with_unfolding_all rfl) 25 (.tmp 4) (.tmp 34) (by with_unfolding_all rfl) gr 0 (by with_unfolding_all rfl) (.agg Pat.zero.cells.toArray) (by with_unfolding_all rfl) hR Pat.zero.cells (by with_unfolding_all rfl) (by with_unfolding_all (rw [Pat.cells_length]; exact Tryd.szP)) (by with_unfolding_all (rw [Pat.cells_length]; omega)) (by with_unfolding_all (exact cells_one _)) ?_))
          intro w5 hu5 hR5
          rw [splice_all _ _ rfl, ← hXe.out] at hR5
          have hb5 := hbel.trans (hu5.below (B := w.heap.size) (by omega))
          go_wp2
          exact bodyPost_ret (results_cell_two rfl _ _ gr _ _ _ _ _ rfl rfl hR5 Tryd.underlying25 rfl (by rw [List.size_toArray, Pat.cells_length]; exact Tryd.szP)) rfl ⟨by rw [hDf.out]; rfl, hb5⟩
end Go.Proofs.YtbldnhpbmfmepaaDoor
