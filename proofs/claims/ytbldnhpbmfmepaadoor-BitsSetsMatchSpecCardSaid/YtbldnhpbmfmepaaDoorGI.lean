/-
  Contracts of the functions that the statement calls, part 9 of 26 (merged texts: Rf, Rg, Rh, Ri, Rj). Conditions: as the head of each part says.
-/
import Derived.Test.YtbldnhpbmfmepaaDoorGH

/-
  Contract of the walk over the reference's And. Conditions: right patterns.
-/
namespace Go.Proofs.YtbldnhpbmfmepaaDoor
set_option linter.unusedVariables false
set_option linter.unusedSimpArgs false
open Go.RowKit

theorem splice_m (p : Pat) (M : Nat → Bool) : splice p.cells 0 (H M) = (⟨M, p.b⟩ : Pat).cells := by
  unfold splice Pat.cells
  rw [List.take_zero, List.nil_append, Nat.zero_add, List.drop_left' (by rw [H_length, H_length])]
theorem splice_b (p : Pat) (B : Nat → Bool) : splice p.cells 10 (H B) = (⟨p.m, B⟩ : Pat).cells := by
  unfold splice Pat.cells
  rw [List.take_left' (H_length _), List.drop_eq_nil_of_le (by rw [List.length_append, H_length, H_length, H_length]; omega), List.append_nil]
/-- The first k bits are taken over. -/
def Pat.andTo (p q : Pat) (k : Nat) : Pat := ⟨fun i => p.m i || (decide (i < k) && q.m i), fun i => if i < k ∧ q.m i = true then q.b i else p.b i⟩
theorem Pat.andTo_zero (p q : Pat) : (p.andTo q 0).cells = p.cells := cells_congr ⟨fun i _ => by simp [Pat.andTo], fun i _ => by simp [Pat.andTo]⟩
theorem Pat.andTo_skip {p q : Pat} {k : Nat} (h : q.m k = false) : (p.andTo q k).cells = (p.andTo q (k + 1)).cells := by
  refine cells_congr ⟨fun i _ => ?_, fun i _ => ?_⟩
  · unfold Pat.andTo
    by_cases e : i = k
    · subst e; simp [h]
    · simp [show (i < k + 1) = (i < k) by simp; omega]
  · unfold Pat.andTo
    by_cases e : i = k
    · subst e; simp [h]
    · simp [show (i < k + 1) = (i < k) by simp; omega]
theorem Pat.andTo_next {p q : Pat} {k : Nat} (h : q.m k = true) : (⟨upd (p.andTo q k).m k true, upd (p.andTo q k).b k (q.b k)⟩ : Pat).cells = (p.andTo q (k + 1)).cells := by
  refine cells_congr ⟨fun i _ => ?_, fun i _ => ?_⟩
  · unfold Pat.andTo upd
    by_cases e : i = k
    · subst e; simp [h]
    · simp [e, show (i < k + 1) = (i < k) by simp; omega]
  · unfold Pat.andTo upd
    by_cases e : i = k
    · subst e; simp [h]
    · simp [e, show (i < k + 1) = (i < k) by simp; omega]
theorem Pat.andTo_m (p q : Pat) (k : Nat) : (p.andTo q k).m k = p.m k := by simp [Pat.andTo]
theorem Pat.andTo_b (p q : Pat) (k : Nat) : (p.andTo q k).b k = p.b k := by simp [Pat.andTo]
theorem Pat.over_iff {p q : Pat} : p.over q ↔ ∀ i, i < 160 → q.m i = true → p.m i = true → p.b i = q.b i := by
  unfold Pat.over Pat.lap
  refine forall_congr' fun i => forall_congr' fun _ => ?_
  cases p.m i <;> cases q.m i <;> cases p.b i <;> cases q.b i <;> decide
theorem Pat.andTo_all {p q : Pat} (hp : p.ok) (hq : q.ok) (h : p.over q) : (p.andTo q 160).cells = (p.and q).cells := by
  have ho := Pat.over_iff.1 h
  refine cells_congr ⟨fun i hi => ?_, fun i hi => ?_⟩
  · simp [Pat.andTo, Pat.and, hi]
  · have h1 := hp i hi
    have h2 := hq i hi
    have h3 := ho i hi
    unfold Pat.andTo Pat.and
    simp only [hi, true_and]
    revert h1 h2 h3
    cases p.m i <;> cases q.m i <;> cases p.b i <;> cases q.b i <;> decide
def RAndRel (p q : Pat) (gp gq gr : Nat) (w : World) (i : Value) (wr : World) : Prop :=
  ∃ k : Nat, k ≤ 160 ∧ i = .int .i64 k ∧ (∀ j, j < k → q.m j = true → p.m j = true → p.b j = q.b j) ∧ Blk wr gp 25 (p.andTo q k).cells ∧ Blk wr gq 25 q.cells ∧ Blk wr gr 25 Pat.zero.cells ∧ Below w.heap.size w wr
set_option maxRecDepth 100000 in
set_option maxHeartbeats 3200000 in
theorem rand_any (p q : Pat) (w : World) (hp : p.ok) (hq : q.ok) :
    Calls Tryd.prog 39 #[.agg p.cells.toArray, .agg q.cells.toArray] w fun e w' => e = .returned (.tuple #[.agg (p.andV q).cells.toArray, .bool (decide (p.over q))]) ∧ Below w.heap.size w w' := by
  obtain ⟨D, hD⟩ : ∃ D, Hid (decide (p.over q) = D) := ⟨_, rfl⟩
  obtain ⟨X, hX⟩ : ∃ X, Hid (p.andV q = X) := ⟨_, rfl⟩
  rw [hD.out, hX.out]
  have HP := Lib.hid hp
  have HQ := Lib.hid hq
  clear hp hq
  go_enter Tryd.func39, Tryd.ntmps39
  go_wp2_with (with_reducible refine wpList_box (o := ⟨some 2, .box 25 (.tmp 0), _, _, _, _⟩) ?g1 25 (.tmp 0) ?o1 (.agg p.cells.toArray) p.cells ?x1 ?c1 ?_)
  try (case g1 => rfl)
  try (case o1 => rfl)
  try (case x1 => rfl)
  try (case c1 => rfl)
  intro gp w1 hgp hs1 hb1 hP1
  go_wp2_with (with_reducible refine wpList_box (o := ⟨some 3, .box 25 (.tmp 1), _, _, _, _⟩) ?g2 25 (.tmp 1) ?o2 (.agg q.cells.toArray) q.cells ?x2 ?c2 ?_)
  try (case g2 => rfl)
  try (case o2 => rfl)
  try (case x2 => rfl)
  try (case c2 => rfl)
  intro gq w2 hgq hs2 hb2 hQ2
  go_wp2_with (with_reducible refine wpList_alloc (o := ⟨some 4, .alloc 25, _, _, _, _⟩) (by with_unfolding_all rfl) 25 (by with_unfolding_all rfl) (.agg (H no ++ H no).toArray) (H no ++ H no) (by exact Tryd.zeroPt) (by with_unfolding_all rfl) ?_)
  intro gr w3 hgr hs3 hb3 hR3
  rw [cells_zero] at hR3
  have hle : w.heap.size ≤ gp := Nat.le_of_eq hgp.out.symm
  have hab : gp < gq := by have := hgp.out; have := hs1.out; have := hgq.out; omega
  have hbr : gq < gr := by have := hgq.out; have := hs2.out; have := hgr.out; omega
  have hP3 := (hP1.next hb2 hab).next hb3 (by omega)
  have hQ3 := hQ2.next hb3 hbr
  have hbel := ((hb1.mono hle).trans (hb2.mono (by omega))).trans (hb3.mono (by omega : w.heap.size ≤ gr))
  clear hgp hs1 hb1 hP1 hgq hs2 hb2 hQ2 hgr hs3 hb3
  go_wp2
  go_loopw [6] (RAndRel p q gp gq gr w) (fun i _ => 160 - (intOf i).toNat)
  case atStart => exact ⟨0, by omega, rfl, fun j hj => absurd hj (by omega), by rw [Pat.andTo_zero]; exact hP3, hQ3, hR3, hbel⟩
  case round =>
    clear hP3 hQ3 hR3 hbel
    obtain ⟨k, hk, rfl, hz, hP, hQ, hR, hbel⟩ := hrel
    have HZ := Lib.hid hz
    clear hz
    by_cases hlt : k < 160
    · obtain ⟨P, hPe⟩ : ∃ P, p.andTo q k = P := ⟨_, rfl⟩
      obtain ⟨c, hc⟩ : ∃ c, q.b k = c := ⟨_, rfl⟩
      obtain ⟨m, hm⟩ : ∃ m, p.m k = m := ⟨_, rfl⟩
      obtain ⟨b, hb⟩ : ∃ b, p.b k = b := ⟨_, rfl⟩
      obtain ⟨y, hy⟩ : ∃ y, q.m k = y := ⟨_, rfl⟩
      have hmP := Pat.andTo_m p q k
      have hbP := Pat.andTo_b p q k
      rw [hPe, hm] at hmP
      rw [hPe, hb] at hbP
      have hbq := rbit_any q.m k
      have hbm := rbit_any P.m k
      have hbb := rbit_any P.b k
      have hbc := rbit_any q.b k
      rw [hy] at hbq
      rw [hmP] at hbm
      rw [hbP] at hbb
      rw [hc] at hbc
      have HBQ := Lib.hid hbq
      have HBM := Lib.hid hbm
      have HBB := Lib.hid hbb
      have HBC := Lib.hid hbc
      clear hbq hbm hbb hbc hmP hbP
      rw [hPe] at hP
      go_wp2_with (with_reducible refine wpList_get (o := ⟨some 12, .load 23 (.tmp 11), _, _, _, _⟩) (by with_unfolding_all rfl) 23 (.tmp 11) (by with_unfolding_all rfl) gq 0 (by with_unfolding_all rfl) hQ (H q.m) (cells_take_m q) _ (by exact Tryd.underlying23) (by with_unfolding_all rfl) (by rw [H_length]; exact Tryd.szH) ?_)
      (with_reducible refine (HBQ.out _ hlt).mono ?_)
      rintro e w2 ⟨rfl, hb2⟩
      have hP2 := hP.next hb2 hP.lt
      have hQ2 := hQ.next hb2 hQ.lt
      have hR2 := hR.next hb2 hR.lt
      have hbel2 := hbel.trans (hb2.mono hbel.size)
      clear hP hQ hR hb2 hbel
      rcases y with _ | _
      · rw [show ((false.toNat : Nat) : Int) = 0 from rfl] at *
        have hPn : Blk w2 gp 25 (p.andTo q (k + 1)).cells := by rw [← Pat.andTo_skip hy, hPe]; exact hP2
        have hzN : Hid (∀ j, j < k + 1 → q.m j = true → p.m j = true → p.b j = q.b j) := by
          have : ∀ j, j < k + 1 → q.m j = true → p.m j = true → p.b j = q.b j := fun j hj h1 h2 => by
            by_cases e : j = k
            · rw [e, hy] at h1; cases h1
            · exact HZ.out j (by omega) h1 h2
          exact this
        clear hP2 hy hm hb hc hPe
        go_wp2
        go_roundw
        case rel => exact ⟨k + 1, by omega, by go_num, hzN.out, hPn, hQ2, hR2, hbel2⟩
        case measure => simp [intOf]; omega
      · rw [show ((true.toNat : Nat) : Int) = 1 from rfl] at *
        obtain ⟨M, hM⟩ : ∃ M, upd P.m k true = M := ⟨_, rfl⟩
        obtain ⟨N, hN⟩ : ∃ N, upd P.b k c = N := ⟨_, rfl⟩
        have HN : Hid ((⟨M, N⟩ : Pat).cells = (p.andTo q (k + 1)).cells) := by
          have : (⟨M, N⟩ : Pat).cells = (p.andTo q (k + 1)).cells := by rw [← Pat.andTo_next hy, hPe, hM, hc, hN]
          exact this
        have hsm := fun w => rset_any P.m k true w
        have hsb := fun w => rset_any P.b k c w
        rw [hM, show ((true.toNat : Nat) : Int) = 1 from rfl] at hsm
        rw [hN] at hsb
        have HSM := Lib.hid hsm
        have HSB := Lib.hid hsb
        have HM := Lib.hid hm
        have HB := Lib.hid hb
        have HC := Lib.hid hc
        have HY := Lib.hid hy
        clear hsm hsb hM hN hm hb hc hy hPe
        go_wp2
        have hrg : ∀ w', Below w2.heap.size w2 w' → Below w2.heap.size w2 w' ∧ w'.rangeAt gp 0 (H P.m) ∧ w'.rangeAt gp 10 (H P.b) ∧ w'.rangeAt gq 10 (H q.b) := fun w' hw => ⟨hw, at_m (hP2.next hw hP2.lt), at_b (hP2.next hw hP2.lt), at_b (hQ2.next hw hQ2.lt)⟩
        have hun := Tryd.underlying23
        have hz1 : (Tryd.prog.info? 23).map (·.size) = some (H P.m).length := by rw [H_length]; exact Tryd.szH
        have hz2 : (Tryd.prog.info? 23).map (·.size) = some (H P.b).length := by rw [H_length]; exact Tryd.szH
        have hz3 : (Tryd.prog.info? 23).map (·.size) = some (H q.b).length := by rw [H_length]; exact Tryd.szH
        have HRG := Lib.hid hrg
        clear hrg
        have hdd := below_drew w2
        refine wp_region_held_drew (S := fun w' => Below w2.heap.size w2 w' ∧ w'.rangeAt gp 0 (H P.m) ∧ w'.rangeAt gp 10 (H P.b) ∧ w'.rangeAt gq 10 (H q.b)) (by kernel_rfl) (HRG.out _ hdd) (fun hHeld => ?_)
        generalize w2.drew = wd at hdd hHeld ⊢
        refine wpAnyH_take (i := 0) (v := ?vv0) rfl (by kernel_rfl) (by kernel_rfl) (by kernel_rfl) (fun _ _ _ h => h) (Or.inl ⟨by rfl, ?yv0⟩) (by assumption) ?rv0
        case yv0 => intro w hSw; (try dsimp only at hSw); go_simp <;> (try with_reducible rfl)
        (try simp only [List.getElem_toArray, List.getElem_cons_zero, Act.put, List.setIfInBounds_toArray, List.set_cons_zero, List.set_cons_succ])
        refine' wpAnyH_take (i := 1) (v := _) rfl (by kernel_rfl) (by kernel_rfl) (by kernel_rfl) (fun _ _ _ h => h) (yieldsIf_load_mid (by rfl) _ _ (by rfl) _ _ (by rfl) _ _ ?Sv1 ?uv1 ?dv1 ?iv1) (by assumption) ?rv1
        case Sv1 => exact (by intro w h; exact h.2.1)
        case uv1 => exact hun
        case dv1 => rfl
        case iv1 => exact hz1
        (try simp only [List.getElem_toArray, List.getElem_cons_succ, List.getElem_cons_zero, Act.put, List.setIfInBounds_toArray, List.set_cons_zero, List.set_cons_succ])
        refine wpAnyH_take (i := 2) (v := ?vv2) rfl (by kernel_rfl) (by kernel_rfl) (by kernel_rfl) (fun _ _ _ h => h) (Or.inl ⟨by rfl, ?yv2⟩) (by assumption) ?rv2
        case yv2 => intro w hSw; (try dsimp only at hSw); go_simp <;> (try with_reducible rfl)
        (try simp only [List.getElem_toArray, List.getElem_cons_succ, List.getElem_cons_zero, Act.put, List.setIfInBounds_toArray, List.set_cons_zero, List.set_cons_succ])
        refine wpAnyH_ready (rs := [3]) (by kernel_rfl) (by simp) ?_
        refine AllReadyH.cons rfl (fun K hK => ?_) AllReadyH.nil
        go_simp
        go_wp2_with fail
        (with_reducible refine (HBM.out _ hlt).mono ?_)
        rintro e wA ⟨rfl, hbA⟩
        have hkA := below_join hdd hbA
        refine hK.out _ _ (HRG.out _ hkA) (fun hHeld => ?_)
        clear hK K hdd hbA
        rcases m with _ | _
        · rw [show ((false.toNat : Nat) : Int) = 0 from rfl] at *
          refine wpAnyH_take (i := 4) (v := ?vv4) rfl (by kernel_rfl) (by kernel_rfl) (by kernel_rfl) (fun _ _ _ h => h) (Or.inl ⟨by rfl, ?yv4⟩) (by assumption) ?rv4
          case yv4 => intro w hSw; (try dsimp only at hSw); go_simp <;> (try with_reducible rfl)
          (try simp only [List.getElem_toArray, List.getElem_cons_succ, List.getElem_cons_zero, Act.put, List.setIfInBounds_toArray, List.set_cons_zero, List.set_cons_succ])
          refine wpAnyH_take (i := 5) (v := ?vv5) rfl (by kernel_rfl) (by kernel_rfl) (by kernel_rfl) (fun _ _ _ h => h) (Or.inl ⟨by rfl, ?yv5⟩) (by assumption) ?rv5
          case yv5 => intro w hSw; (try dsimp only at hSw); go_simp <;> (try with_reducible rfl)
          (try simp only [List.getElem_toArray, List.getElem_cons_succ, List.getElem_cons_zero, Act.put, List.setIfInBounds_toArray, List.set_cons_zero, List.set_cons_succ])
          refine wpAnyH_take (i := 6) (v := undef) rfl (by kernel_rfl) (by kernel_rfl) (by kernel_rfl) (fun _ _ _ h => h) (Or.inr ⟨by rfl, rfl⟩) (by assumption) ?rs6
          (try simp only [List.getElem_toArray, List.getElem_cons_succ, List.getElem_cons_zero, Act.put, List.setIfInBounds_toArray, List.set_cons_zero, List.set_cons_succ])
          refine wpAnyH_take (i := 7) (v := undef) rfl (by kernel_rfl) (by kernel_rfl) (by kernel_rfl) (fun _ _ _ h => h) (Or.inr ⟨by rfl, rfl⟩) (by assumption) ?rs7
          (try simp only [List.getElem_toArray, List.getElem_cons_succ, List.getElem_cons_zero, Act.put, List.setIfInBounds_toArray, List.set_cons_zero, List.set_cons_succ])
          refine wpAnyH_take (i := 8) (v := undef) rfl (by kernel_rfl) (by kernel_rfl) (by kernel_rfl) (fun _ _ _ h => h) (Or.inr ⟨by rfl, rfl⟩) (by assumption) ?rs8
          (try simp only [List.getElem_toArray, List.getElem_cons_succ, List.getElem_cons_zero, Act.put, List.setIfInBounds_toArray, List.set_cons_zero, List.set_cons_succ])
          refine wpAnyH_take (i := 9) (v := undef) rfl (by kernel_rfl) (by kernel_rfl) (by kernel_rfl) (fun _ _ _ h => h) (Or.inr ⟨by rfl, rfl⟩) (by assumption) ?rs9
          (try simp only [List.getElem_toArray, List.getElem_cons_succ, List.getElem_cons_zero, Act.put, List.setIfInBounds_toArray, List.set_cons_zero, List.set_cons_succ])
          refine wpAnyH_take (i := 10) (v := undef) rfl (by kernel_rfl) (by kernel_rfl) (by kernel_rfl) (fun _ _ _ h => h) (Or.inr ⟨by rfl, rfl⟩) (by assumption) ?rs10
          (try simp only [List.getElem_toArray, List.getElem_cons_succ, List.getElem_cons_zero, Act.put, List.setIfInBounds_toArray, List.set_cons_zero, List.set_cons_succ])
          refine wpAnyH_take (i := 11) (v := undef) rfl (by kernel_rfl) (by kernel_rfl) (by kernel_rfl) (fun _ _ _ h => h) (Or.inr ⟨by rfl, rfl⟩) (by assumption) ?rs11
          (try simp only [List.getElem_toArray, List.getElem_cons_succ, List.getElem_cons_zero, Act.put, List.setIfInBounds_toArray, List.set_cons_zero, List.set_cons_succ])
          refine wpAnyH_take (i := 12) (v := undef) rfl (by kernel_rfl) (by kernel_rfl) (by kernel_rfl) (fun _ _ _ h => h) (Or.inr ⟨by rfl, rfl⟩) (by assumption) ?rs12
          (try simp only [List.getElem_toArray, List.getElem_cons_succ, List.getElem_cons_zero, Act.put, List.setIfInBounds_toArray, List.set_cons_zero, List.set_cons_succ])
          refine wpAnyH_take (i := 13) (v := undef) rfl (by kernel_rfl) (by kernel_rfl) (by kernel_rfl) (fun _ _ _ h => h) (Or.inr ⟨by rfl, rfl⟩) (by assumption) ?rs13
          (try simp only [List.getElem_toArray, List.getElem_cons_succ, List.getElem_cons_zero, Act.put, List.setIfInBounds_toArray, List.set_cons_zero, List.set_cons_succ])
          refine wpAnyH_take (i := 14) (v := undef) rfl (by kernel_rfl) (by kernel_rfl) (by kernel_rfl) (fun _ _ _ h => h) (Or.inr ⟨by rfl, rfl⟩) (by assumption) ?rs14
          (try simp only [List.getElem_toArray, List.getElem_cons_succ, List.getElem_cons_zero, Act.put, List.setIfInBounds_toArray, List.set_cons_zero, List.set_cons_succ])
          refine wpAnyH_take (i := 15) (v := ?vs15) rfl (by kernel_rfl) (by kernel_rfl) (by kernel_rfl) (fun _ _ _ h => h) (Or.inl ⟨by rfl, ?ys15⟩) (by assumption) ?rs15
          case ys15 => intro w hSw; (try dsimp only at hSw); go_simp <;> (try with_reducible rfl)
          (try simp only [List.getElem_toArray, List.getElem_cons_succ, List.getElem_cons_zero, Act.put, List.setIfInBounds_toArray, List.set_cons_zero, List.set_cons_succ])
          refine wpAnyH_done (by kernel_rfl) ?_ _
          have hP3 := hP2.next hkA hP2.lt
          have hQ3 := hQ2.next hkA hQ2.lt
          have hR3 := hR2.next hkA hR2.lt
          have hbel3 := hbel2.trans (hkA.mono hbel2.size)
          have hzN : Hid (∀ j, j < k + 1 → q.m j = true → p.m j = true → p.b j = q.b j) := by
            have : ∀ j, j < k + 1 → q.m j = true → p.m j = true → p.b j = q.b j := fun j hj h1 h2 => by
              by_cases e : j = k
              · rw [e, HM.out] at h2; cases h2
              · exact HZ.out j (by omega) h1 h2
            exact this
          clear hP2 hQ2 hR2 hbel2 hkA hun hz1 hz2 hz3 HRG hHeld
          go_wp2_with (with_reducible refine wpList_get (o := ⟨some 34, .load 23 (.tmp 33), _, _, _, _⟩) (by with_unfolding_all rfl) 23 (.tmp 33) (by with_unfolding_all rfl) gp 0 (by with_unfolding_all rfl) hP3 (H P.m) (cells_take_m P) _ (by exact Tryd.underlying23) (by with_unfolding_all rfl) (by rw [H_length]; exact Tryd.szH) ?_)
          (with_reducible refine (HSM.out _ hlt).mono ?_)
          rintro e w4 ⟨rfl, hb4⟩
          have hP4 := hP3.next hb4 hP3.lt
          have hQ4 := hQ3.next hb4 hQ3.lt
          have hR4 := hR3.next hb4 hR3.lt
          have hbel4 := hbel3.trans (hb4.mono hbel3.size)
          clear hP3 hQ3 hR3 hb4 hbel3
          go_wp2_with (with_reducible refine wpList_put (o := ⟨none, .store 23 (.tmp 37) (.tmp 36), _, _, _, _⟩) (by with_unfolding_all rfl) 23 (.tmp 37) (.tmp 36) (by with_unfolding_all rfl) gp 0 (by with_unfolding_all rfl) (.agg (H M).toArray) (by with_unfolding_all rfl) hP4 (H M) (by with_unfolding_all rfl) (by with_unfolding_all (rw [H_length]; exact Tryd.szH)) (by with_unfolding_all (rw [H_length, Pat.cells_length]; omega)) (by with_unfolding_all (exact H_one _)) ?_)
          intro w5 hu5 hP5
          rw [splice_m] at hP5
          have hQ5 := hQ4.upd hu5 (by omega)
          have hR5 := hR4.upd hu5 (by omega)
          have hbel5 := hbel4.trans (hu5.below (B := w.heap.size) hle)
          clear hP4 hQ4 hR4 hu5 hbel4
          go_wp2
          have hun := Tryd.underlying23
          have hz2 : (Tryd.prog.info? 23).map (·.size) = some (H P.b).length := by rw [H_length]; exact Tryd.szH
          have hz4 : (Tryd.prog.info? 23).map (·.size) = some (H q.b).length := by rw [H_length]; exact Tryd.szH
          have hbw := below_drew w5
          have hP6 := hP5.next hbw hP5.lt
          have hQ6 := hQ5.next hbw hQ5.lt
          have hR6 := hR5.next hbw hR5.lt
          clear hP5 hQ5 hR5
          refine wp_region_held_drew (S := fun w' => w'.rangeAt gq 10 (H q.b)) (by kernel_rfl) (at_b hQ6) (fun hHeld => ?_)
          generalize w5.drew = wd at hP6 hQ6 hR6 hbw hHeld ⊢
          refine wpAnyH_take (i := 0) (v := ?vna0) rfl (by kernel_rfl) (by kernel_rfl) (by kernel_rfl) (fun _ _ _ h => h) (Or.inl ⟨by rfl, ?yna0⟩) (by assumption) ?rna0
          case yna0 => intro w hSw; (try dsimp only at hSw); go_simp <;> (try with_reducible rfl)
          (try simp only [List.getElem_toArray, List.getElem_cons_zero, Act.put, List.setIfInBounds_toArray, List.set_cons_zero, List.set_cons_succ])
          refine wpAnyH_take (i := 2) (v := ?vna2) rfl (by kernel_rfl) (by kernel_rfl) (by kernel_rfl) (fun _ _ _ h => h) (Or.inl ⟨by rfl, ?yna2⟩) (by assumption) ?rna2
          case yna2 => intro w hSw; (try dsimp only at hSw); go_simp <;> (try with_reducible rfl)
          (try simp only [List.getElem_toArray, List.getElem_cons_succ, List.getElem_cons_zero, Act.put, List.setIfInBounds_toArray, List.set_cons_zero, List.set_cons_succ])
          refine wpAnyH_take (i := 3) (v := ?vna3) rfl (by kernel_rfl) (by kernel_rfl) (by kernel_rfl) (fun _ _ _ h => h) (Or.inl ⟨by rfl, ?yna3⟩) (by assumption) ?rna3
          case yna3 => intro w hSw; (try dsimp only at hSw); go_simp <;> (try with_reducible rfl)
          (try simp only [List.getElem_toArray, List.getElem_cons_succ, List.getElem_cons_zero, Act.put, List.setIfInBounds_toArray, List.set_cons_zero, List.set_cons_succ])
          refine' wpAnyH_take (i := 4) (v := _) rfl (by kernel_rfl) (by kernel_rfl) (by kernel_rfl) (fun _ _ _ h => h) (yieldsIf_load_mid (by rfl) _ _ (by rfl) _ _ (by rfl) _ _ ?Sna4 ?una4 ?dna4 ?ina4) (by assumption) ?rna4
          case Sna4 => exact (by intro w h; exact h)
          case una4 => exact hun
          case dna4 => rfl
          case ina4 => exact hz4
          (try simp only [List.getElem_toArray, List.getElem_cons_succ, List.getElem_cons_zero, Act.put, List.setIfInBounds_toArray, List.set_cons_zero, List.set_cons_succ])
          refine wpAnyH_take (i := 5) (v := ?vna5) rfl (by kernel_rfl) (by kernel_rfl) (by kernel_rfl) (fun _ _ _ h => h) (Or.inl ⟨by rfl, ?yna5⟩) (by assumption) ?rna5
          case yna5 => intro w hSw; (try dsimp only at hSw); go_simp <;> (try with_reducible rfl)
          (try simp only [List.getElem_toArray, List.getElem_cons_succ, List.getElem_cons_zero, Act.put, List.setIfInBounds_toArray, List.set_cons_zero, List.set_cons_succ])
          apply rest1
          · intro hrest
            refine wpAnyH_ready (rs := [1, 6]) (by kernel_rfl) (by simp) ?_
            refine AllReadyH.cons rfl (fun K hK => ?_) (AllReadyH.cons rfl (fun K hK => ?_) AllReadyH.nil)
            · rw [if_pos (by rfl)]
              refine' wp_load_mid _ _ rfl gp 10 rfl (H P.b) _ ?ca1a ?ua1a ?da1a ?ia1a ?ra1a
              case ca1a => exact at_b (p := ⟨M, P.b⟩) hP6
              case ua1a => exact hun
              case da1a => rfl
              case ia1a => exact hz2
              (try simp only [List.getElem_toArray, List.getElem_cons_succ, List.getElem_cons_zero, Act.put, List.setIfInBounds_toArray, List.set_cons_zero, List.set_cons_succ])
              refine hK.out _ _ (at_b hQ6) (fun hHeld => ?_)
              clear hK K
              refine wpAnyH_ready (rs := [6]) (by kernel_rfl) (by simp) ?_
              refine AllReadyH.cons rfl (fun K hK => ?_) AllReadyH.nil
              go_simp
              go_wp2_with fail
              (with_reducible refine (HBC.out _ hlt).mono ?_)
              rintro e wa ⟨rfl, hbz⟩
              replace hP6 := hP6.next hbz hP6.lt
              replace hQ6 := hQ6.next hbz hQ6.lt
              replace hR6 := hR6.next hbz hR6.lt
              replace hbw := below_join hbw hbz
              refine hK.out _ _ (at_b hQ6) (fun hHeld => ?_)
              clear hK K hbz
              revert hP6 hQ6 hR6 hbw hHeld
              exact hrest wa
            · go_simp
              go_wp2_with fail
              (with_reducible refine (HBC.out _ hlt).mono ?_)
              rintro e wa ⟨rfl, hbz⟩
              replace hP6 := hP6.next hbz hP6.lt
              replace hQ6 := hQ6.next hbz hQ6.lt
              replace hR6 := hR6.next hbz hR6.lt
              replace hbw := below_join hbw hbz
              refine hK.out _ _ (at_b hQ6) (fun hHeld => ?_)
              clear hK K hbz
              refine wpAnyH_ready (rs := [1]) (by kernel_rfl) (by simp) ?_
              refine AllReadyH.cons rfl (fun K hK => ?_) AllReadyH.nil
              rw [if_pos (by rfl)]
              refine' wp_load_mid _ _ rfl gp 10 rfl (H P.b) _ ?ca2a ?ua2a ?da2a ?ia2a ?ra2a
              case ca2a => exact at_b (p := ⟨M, P.b⟩) hP6
              case ua2a => exact hun
              case da2a => rfl
              case ia2a => exact hz2
              (try simp only [List.getElem_toArray, List.getElem_cons_succ, List.getElem_cons_zero, Act.put, List.setIfInBounds_toArray, List.set_cons_zero, List.set_cons_succ])
              refine hK.out _ _ (at_b hQ6) (fun hHeld => ?_)
              clear hK K
              revert hP6 hQ6 hR6 hbw hHeld
              exact hrest wa
          intro wq hP6 hQ6 hR6 hbw hHeld
          refine wpAnyH_ready (rs := [7]) (by kernel_rfl) (by simp) ?_
          refine AllReadyH.cons rfl (fun K hK => ?_) AllReadyH.nil
          go_simp
          go_wp2_with fail
          (with_reducible refine (HSB.out _ hlt).mono ?_)
          rintro e wv ⟨rfl, hbv⟩
          replace hP6 := hP6.next hbv hP6.lt
          replace hQ6 := hQ6.next hbv hQ6.lt
          replace hR6 := hR6.next hbv hR6.lt
          replace hbw := below_join hbw hbv
          refine hK.out _ _ (at_b hQ6) (fun hHeld => ?_)
          clear hK K hbv
          refine wpAnyH_take (i := 8) (v := ?vna8) rfl (by kernel_rfl) (by kernel_rfl) (by kernel_rfl) (fun _ _ _ h => h) (Or.inl ⟨by rfl, ?yna8⟩) (by assumption) ?rna8
          case yna8 => intro w hSw; (try dsimp only at hSw); go_simp <;> (try with_reducible rfl)
          (try simp only [List.getElem_toArray, List.getElem_cons_succ, List.getElem_cons_zero, Act.put, List.setIfInBounds_toArray, List.set_cons_zero, List.set_cons_succ])
          refine wpAnyH_ready (rs := [9]) (by kernel_rfl) (by simp) ?_
          refine AllReadyH.cons rfl (fun K hK => ?_) AllReadyH.nil
          rw [if_pos (by rfl)]
          refine wp_put 23 (.tmp 46) (.tmp 45) rfl gp 10 rfl (.agg (H N).toArray) rfl hP6 (H N) rfl (by rw [H_length]; exact Tryd.szH) (by rw [H_length, Pat.cells_length]; omega) (H_one _) ?_
          intro wz huz hPz
          rw [splice_b, HN.out] at hPz
          have hQz := hQ6.upd huz (by omega)
          have hRz := hR6.upd huz (by omega)
          have hbz := (hbel5.trans (hbw.mono hbel5.size)).trans (huz.below (B := w.heap.size) hle)
          refine hK.out _ _ (at_b hQz) (fun hHeld => ?_)
          clear hK K hP6 hQ6 hR6 hbw huz hbel5
          refine wpAnyH_done (by kernel_rfl) ?_ _
          go_wp2
          go_roundw
          case rel => exact ⟨k + 1, by omega, by go_num, hzN.out, hPz, hQz, hRz, hbz⟩
          case measure => simp [intOf]; omega
        · rw [show ((true.toNat : Nat) : Int) = 1 from rfl] at *
          refine wpAnyH_take (i := 4) (v := ?vt4) rfl (by kernel_rfl) (by kernel_rfl) (by kernel_rfl) (fun _ _ _ h => h) (Or.inl ⟨by rfl, ?yt4⟩) (by assumption) ?rt4
          case yt4 => intro w hSw; (try dsimp only at hSw); go_simp <;> (try with_reducible rfl)
          (try simp only [List.getElem_toArray, List.getElem_cons_succ, List.getElem_cons_zero, Act.put, List.setIfInBounds_toArray, List.set_cons_zero, List.set_cons_succ])
          refine wpAnyH_take (i := 5) (v := ?vt5) rfl (by kernel_rfl) (by kernel_rfl) (by kernel_rfl) (fun _ _ _ h => h) (Or.inl ⟨by rfl, ?yt5⟩) (by assumption) ?rt5
          case yt5 => intro w hSw; (try dsimp only at hSw); go_simp <;> (try with_reducible rfl)
          (try simp only [List.getElem_toArray, List.getElem_cons_succ, List.getElem_cons_zero, Act.put, List.setIfInBounds_toArray, List.set_cons_zero, List.set_cons_succ])
          refine wpAnyH_take (i := 6) (v := ?vt6) rfl (by kernel_rfl) (by kernel_rfl) (by kernel_rfl) (fun _ _ _ h => h) (Or.inl ⟨by rfl, ?yt6⟩) (by assumption) ?rt6
          case yt6 => intro w hSw; (try dsimp only at hSw); go_simp <;> (try with_reducible rfl)
          (try simp only [List.getElem_toArray, List.getElem_cons_succ, List.getElem_cons_zero, Act.put, List.setIfInBounds_toArray, List.set_cons_zero, List.set_cons_succ])
          refine' wpAnyH_take (i := 7) (v := _) rfl (by kernel_rfl) (by kernel_rfl) (by kernel_rfl) (fun _ _ _ h => h) (yieldsIf_load_mid (by rfl) _ _ (by rfl) _ _ (by rfl) _ _ ?St7 ?ut7 ?dt7 ?it7) (by assumption) ?rt7
          case St7 => exact (by intro w h; exact h.2.2.1)
          case ut7 => exact hun
          case dt7 => rfl
          case it7 => exact hz2
          (try simp only [List.getElem_toArray, List.getElem_cons_succ, List.getElem_cons_zero, Act.put, List.setIfInBounds_toArray, List.set_cons_zero, List.set_cons_succ])
          refine wpAnyH_take (i := 8) (v := ?vt8) rfl (by kernel_rfl) (by kernel_rfl) (by kernel_rfl) (fun _ _ _ h => h) (Or.inl ⟨by rfl, ?yt8⟩) (by assumption) ?rt8
          case yt8 => intro w hSw; (try dsimp only at hSw); go_simp <;> (try with_reducible rfl)
          (try simp only [List.getElem_toArray, List.getElem_cons_succ, List.getElem_cons_zero, Act.put, List.setIfInBounds_toArray, List.set_cons_zero, List.set_cons_succ])
          refine wpAnyH_take (i := 10) (v := ?vt10) rfl (by kernel_rfl) (by kernel_rfl) (by kernel_rfl) (fun _ _ _ h => h) (Or.inl ⟨by rfl, ?yt10⟩) (by assumption) ?rt10
          case yt10 => intro w hSw; (try dsimp only at hSw); go_simp <;> (try with_reducible rfl)
          (try simp only [List.getElem_toArray, List.getElem_cons_succ, List.getElem_cons_zero, Act.put, List.setIfInBounds_toArray, List.set_cons_zero, List.set_cons_succ])
          refine' wpAnyH_take (i := 11) (v := _) rfl (by kernel_rfl) (by kernel_rfl) (by kernel_rfl) (fun _ _ _ h => h) (yieldsIf_load_mid (by rfl) _ _ (by rfl) _ _ (by rfl) _ _ ?St11 ?ut11 ?dt11 ?it11) (by assumption) ?rt11
          case St11 => exact (by intro w h; exact h.2.2.2)
          case ut11 => exact hun
          case dt11 => rfl
          case it11 => exact hz3
          (try simp only [List.getElem_toArray, List.getElem_cons_succ, List.getElem_cons_zero, Act.put, List.setIfInBounds_toArray, List.set_cons_zero, List.set_cons_succ])
          refine wpAnyH_take (i := 12) (v := ?vt12) rfl (by kernel_rfl) (by kernel_rfl) (by kernel_rfl) (fun _ _ _ h => h) (Or.inl ⟨by rfl, ?yt12⟩) (by assumption) ?rt12
          case yt12 => intro w hSw; (try dsimp only at hSw); go_simp <;> (try with_reducible rfl)
          (try simp only [List.getElem_toArray, List.getElem_cons_succ, List.getElem_cons_zero, Act.put, List.setIfInBounds_toArray, List.set_cons_zero, List.set_cons_succ])
          refine wpAnyH_ready (rs := [9]) (by kernel_rfl) (by simp) ?_
          refine AllReadyH.cons rfl (fun K hK => ?_) AllReadyH.nil
          go_simp
          go_wp2_with fail
          (with_reducible refine (HBB.out _ hlt).mono ?_)
          rintro e wB ⟨rfl, hbB⟩
          have hkB := below_join hkA hbB
          refine hK.out _ _ (HRG.out _ hkB) (fun hHeld => ?_)
          clear hK K hkA hbB
          refine wpAnyH_ready (rs := [13]) (by kernel_rfl) (by simp) ?_
          refine AllReadyH.cons rfl (fun K hK => ?_) AllReadyH.nil
          go_simp
          go_wp2_with fail
          (with_reducible refine (HBC.out _ hlt).mono ?_)
          rintro e wC ⟨rfl, hbC⟩
          have hkC := below_join hkB hbC
          refine hK.out _ _ (HRG.out _ hkC) (fun hHeld => ?_)
          clear hK K hkB hbC
          have hP3 := hP2.next hkC hP2.lt
          have hQ3 := hQ2.next hkC hQ2.lt
          have hR3 := hR2.next hkC hR2.lt
          have hbel3 := hbel2.trans (hkC.mono hbel2.size)
          clear hP2 hQ2 hR2 hbel2
          by_cases hbc : b = c
          · subst hbc
            refine wpAnyH_take (i := 14) (v := ?vu14) rfl (by kernel_rfl) (by kernel_rfl) (by kernel_rfl) (fun _ _ _ h => h) (Or.inl ⟨by rfl, ?yu14⟩) (by assumption) ?ru14
            case yu14 => intro w hSw; (try dsimp only at hSw); go_simp <;> (try with_reducible rfl)
            (try simp only [List.getElem_toArray, List.getElem_cons_succ, List.getElem_cons_zero, Act.put, List.setIfInBounds_toArray, List.set_cons_zero, List.set_cons_succ])
            refine wpAnyH_take (i := 15) (v := ?vu15) rfl (by kernel_rfl) (by kernel_rfl) (by kernel_rfl) (fun _ _ _ h => h) (Or.inl ⟨by rfl, ?yu15⟩) (by assumption) ?ru15
            case yu15 => intro w hSw; (try dsimp only at hSw); go_simp <;> (try with_reducible rfl)
            (try simp only [List.getElem_toArray, List.getElem_cons_succ, List.getElem_cons_zero, Act.put, List.setIfInBounds_toArray, List.set_cons_zero, List.set_cons_succ])
            refine wpAnyH_done (by kernel_rfl) ?_ _
            have hzN : Hid (∀ j, j < k + 1 → q.m j = true → p.m j = true → p.b j = q.b j) := by
              have : ∀ j, j < k + 1 → q.m j = true → p.m j = true → p.b j = q.b j := fun j hj h1 h2 => by
                by_cases e : j = k
                · rw [e, HB.out, HC.out]
                · exact HZ.out j (by omega) h1 h2
              exact this
            clear hkC hun hz1 hz2 hz3 HRG hHeld
            go_wp2_with (with_reducible refine wpList_get (o := ⟨some 34, .load 23 (.tmp 33), _, _, _, _⟩) (by with_unfolding_all rfl) 23 (.tmp 33) (by with_unfolding_all rfl) gp 0 (by with_unfolding_all rfl) hP3 (H P.m) (cells_take_m P) _ (by exact Tryd.underlying23) (by with_unfolding_all rfl) (by rw [H_length]; exact Tryd.szH) ?_)
            (with_reducible refine (HSM.out _ hlt).mono ?_)
            rintro e w4 ⟨rfl, hb4⟩
            have hP4 := hP3.next hb4 hP3.lt
            have hQ4 := hQ3.next hb4 hQ3.lt
            have hR4 := hR3.next hb4 hR3.lt
            have hbel4 := hbel3.trans (hb4.mono hbel3.size)
            clear hP3 hQ3 hR3 hb4 hbel3
            go_wp2_with (with_reducible refine wpList_put (o := ⟨none, .store 23 (.tmp 37) (.tmp 36), _, _, _, _⟩) (by with_unfolding_all rfl) 23 (.tmp 37) (.tmp 36) (by with_unfolding_all rfl) gp 0 (by with_unfolding_all rfl) (.agg (H M).toArray) (by with_unfolding_all rfl) hP4 (H M) (by with_unfolding_all rfl) (by with_unfolding_all (rw [H_length]; exact Tryd.szH)) (by with_unfolding_all (rw [H_length, Pat.cells_length]; omega)) (by with_unfolding_all (exact H_one _)) ?_)
            intro w5 hu5 hP5
            rw [splice_m] at hP5
            have hQ5 := hQ4.upd hu5 (by omega)
            have hR5 := hR4.upd hu5 (by omega)
            have hbel5 := hbel4.trans (hu5.below (B := w.heap.size) hle)
            clear hP4 hQ4 hR4 hu5 hbel4
            go_wp2
            have hun := Tryd.underlying23
            have hz2 : (Tryd.prog.info? 23).map (·.size) = some (H P.b).length := by rw [H_length]; exact Tryd.szH
            have hz4 : (Tryd.prog.info? 23).map (·.size) = some (H q.b).length := by rw [H_length]; exact Tryd.szH
            have hbw := below_drew w5
            have hP6 := hP5.next hbw hP5.lt
            have hQ6 := hQ5.next hbw hQ5.lt
            have hR6 := hR5.next hbw hR5.lt
            clear hP5 hQ5 hR5
            refine wp_region_held_drew (S := fun w' => w'.rangeAt gq 10 (H q.b)) (by kernel_rfl) (at_b hQ6) (fun hHeld => ?_)
            generalize w5.drew = wd at hP6 hQ6 hR6 hbw hHeld ⊢
            refine wpAnyH_take (i := 0) (v := ?vnb0) rfl (by kernel_rfl) (by kernel_rfl) (by kernel_rfl) (fun _ _ _ h => h) (Or.inl ⟨by rfl, ?ynb0⟩) (by assumption) ?rnb0
            case ynb0 => intro w hSw; (try dsimp only at hSw); go_simp <;> (try with_reducible rfl)
            (try simp only [List.getElem_toArray, List.getElem_cons_zero, Act.put, List.setIfInBounds_toArray, List.set_cons_zero, List.set_cons_succ])
            refine wpAnyH_take (i := 2) (v := ?vnb2) rfl (by kernel_rfl) (by kernel_rfl) (by kernel_rfl) (fun _ _ _ h => h) (Or.inl ⟨by rfl, ?ynb2⟩) (by assumption) ?rnb2
            case ynb2 => intro w hSw; (try dsimp only at hSw); go_simp <;> (try with_reducible rfl)
            (try simp only [List.getElem_toArray, List.getElem_cons_succ, List.getElem_cons_zero, Act.put, List.setIfInBounds_toArray, List.set_cons_zero, List.set_cons_succ])
            refine wpAnyH_take (i := 3) (v := ?vnb3) rfl (by kernel_rfl) (by kernel_rfl) (by kernel_rfl) (fun _ _ _ h => h) (Or.inl ⟨by rfl, ?ynb3⟩) (by assumption) ?rnb3
            case ynb3 => intro w hSw; (try dsimp only at hSw); go_simp <;> (try with_reducible rfl)
            (try simp only [List.getElem_toArray, List.getElem_cons_succ, List.getElem_cons_zero, Act.put, List.setIfInBounds_toArray, List.set_cons_zero, List.set_cons_succ])
            refine' wpAnyH_take (i := 4) (v := _) rfl (by kernel_rfl) (by kernel_rfl) (by kernel_rfl) (fun _ _ _ h => h) (yieldsIf_load_mid (by rfl) _ _ (by rfl) _ _ (by rfl) _ _ ?Snb4 ?unb4 ?dnb4 ?inb4) (by assumption) ?rnb4
            case Snb4 => exact (by intro w h; exact h)
            case unb4 => exact hun
            case dnb4 => rfl
            case inb4 => exact hz4
            (try simp only [List.getElem_toArray, List.getElem_cons_succ, List.getElem_cons_zero, Act.put, List.setIfInBounds_toArray, List.set_cons_zero, List.set_cons_succ])
            refine wpAnyH_take (i := 5) (v := ?vnb5) rfl (by kernel_rfl) (by kernel_rfl) (by kernel_rfl) (fun _ _ _ h => h) (Or.inl ⟨by rfl, ?ynb5⟩) (by assumption) ?rnb5
            case ynb5 => intro w hSw; (try dsimp only at hSw); go_simp <;> (try with_reducible rfl)
            (try simp only [List.getElem_toArray, List.getElem_cons_succ, List.getElem_cons_zero, Act.put, List.setIfInBounds_toArray, List.set_cons_zero, List.set_cons_succ])
            apply rest1
            · intro hrest
              refine wpAnyH_ready (rs := [1, 6]) (by kernel_rfl) (by simp) ?_
              refine AllReadyH.cons rfl (fun K hK => ?_) (AllReadyH.cons rfl (fun K hK => ?_) AllReadyH.nil)
              · rw [if_pos (by rfl)]
                refine' wp_load_mid _ _ rfl gp 10 rfl (H P.b) _ ?ca1b ?ua1b ?da1b ?ia1b ?ra1b
                case ca1b => exact at_b (p := ⟨M, P.b⟩) hP6
                case ua1b => exact hun
                case da1b => rfl
                case ia1b => exact hz2
                (try simp only [List.getElem_toArray, List.getElem_cons_succ, List.getElem_cons_zero, Act.put, List.setIfInBounds_toArray, List.set_cons_zero, List.set_cons_succ])
                refine hK.out _ _ (at_b hQ6) (fun hHeld => ?_)
                clear hK K
                refine wpAnyH_ready (rs := [6]) (by kernel_rfl) (by simp) ?_
                refine AllReadyH.cons rfl (fun K hK => ?_) AllReadyH.nil
                go_simp
                go_wp2_with fail
                (with_reducible refine (HBC.out _ hlt).mono ?_)
                rintro e wa ⟨rfl, hbz⟩
                replace hP6 := hP6.next hbz hP6.lt
                replace hQ6 := hQ6.next hbz hQ6.lt
                replace hR6 := hR6.next hbz hR6.lt
                replace hbw := below_join hbw hbz
                refine hK.out _ _ (at_b hQ6) (fun hHeld => ?_)
                clear hK K hbz
                revert hP6 hQ6 hR6 hbw hHeld
                exact hrest wa
              · go_simp
                go_wp2_with fail
                (with_reducible refine (HBC.out _ hlt).mono ?_)
                rintro e wa ⟨rfl, hbz⟩
                replace hP6 := hP6.next hbz hP6.lt
                replace hQ6 := hQ6.next hbz hQ6.lt
                replace hR6 := hR6.next hbz hR6.lt
                replace hbw := below_join hbw hbz
                refine hK.out _ _ (at_b hQ6) (fun hHeld => ?_)
                clear hK K hbz
                refine wpAnyH_ready (rs := [1]) (by kernel_rfl) (by simp) ?_
                refine AllReadyH.cons rfl (fun K hK => ?_) AllReadyH.nil
                rw [if_pos (by rfl)]
                refine' wp_load_mid _ _ rfl gp 10 rfl (H P.b) _ ?ca2b ?ua2b ?da2b ?ia2b ?ra2b
                case ca2b => exact at_b (p := ⟨M, P.b⟩) hP6
                case ua2b => exact hun
                case da2b => rfl
                case ia2b => exact hz2
                (try simp only [List.getElem_toArray, List.getElem_cons_succ, List.getElem_cons_zero, Act.put, List.setIfInBounds_toArray, List.set_cons_zero, List.set_cons_succ])
                refine hK.out _ _ (at_b hQ6) (fun hHeld => ?_)
                clear hK K
                revert hP6 hQ6 hR6 hbw hHeld
                exact hrest wa
            intro wq hP6 hQ6 hR6 hbw hHeld
            refine wpAnyH_ready (rs := [7]) (by kernel_rfl) (by simp) ?_
            refine AllReadyH.cons rfl (fun K hK => ?_) AllReadyH.nil
            go_simp
            go_wp2_with fail
            (with_reducible refine (HSB.out _ hlt).mono ?_)
            rintro e wv ⟨rfl, hbv⟩
            replace hP6 := hP6.next hbv hP6.lt
            replace hQ6 := hQ6.next hbv hQ6.lt
            replace hR6 := hR6.next hbv hR6.lt
            replace hbw := below_join hbw hbv
            refine hK.out _ _ (at_b hQ6) (fun hHeld => ?_)
            clear hK K hbv
            refine wpAnyH_take (i := 8) (v := ?vnb8) rfl (by kernel_rfl) (by kernel_rfl) (by kernel_rfl) (fun _ _ _ h => h) (Or.inl ⟨by rfl, ?ynb8⟩) (by assumption) ?rnb8
            case ynb8 => intro w hSw; (try dsimp only at hSw); go_simp <;> (try with_reducible rfl)
            (try simp only [List.getElem_toArray, List.getElem_cons_succ, List.getElem_cons_zero, Act.put, List.setIfInBounds_toArray, List.set_cons_zero, List.set_cons_succ])
            refine wpAnyH_ready (rs := [9]) (by kernel_rfl) (by simp) ?_
            refine AllReadyH.cons rfl (fun K hK => ?_) AllReadyH.nil
            rw [if_pos (by rfl)]
            refine wp_put 23 (.tmp 46) (.tmp 45) rfl gp 10 rfl (.agg (H N).toArray) rfl hP6 (H N) rfl (by rw [H_length]; exact Tryd.szH) (by rw [H_length, Pat.cells_length]; omega) (H_one _) ?_
            intro wz huz hPz
            rw [splice_b, HN.out] at hPz
            have hQz := hQ6.upd huz (by omega)
            have hRz := hR6.upd huz (by omega)
            have hbz := (hbel5.trans (hbw.mono hbel5.size)).trans (huz.below (B := w.heap.size) hle)
            refine hK.out _ _ (at_b hQz) (fun hHeld => ?_)
            clear hK K hP6 hQ6 hR6 hbw huz hbel5
            refine wpAnyH_done (by kernel_rfl) ?_ _
            go_wp2
            go_roundw
            case rel => exact ⟨k + 1, by omega, by go_num, hzN.out, hPz, hQz, hRz, hbz⟩
            case measure => simp [intOf]; omega
          · have hne : ((b.toNat : Int) != (c.toNat : Int)) = true := bne_iff_ne.2 (toNat_ne hbc)
            have hno : Hid (¬ p.over q) := by
              have : ¬ p.over q := fun h => hbc (by rw [← HB.out, ← HC.out]; exact Pat.over_iff.1 h k hlt HY.out HM.out)
              exact this
            have hDf : Hid (D = false) := by
              have : D = false := by rw [← hD.out]; exact decide_eq_false hno.out
              exact this
            have hXe : Hid (X = .zero) := by
              have : X = .zero := by rw [← hX.out]; unfold Pat.andV; rw [if_neg hno.out]
              exact this
            clear hbc hno
            refine wpAnyH_take (i := 14) (v := ?vx14) rfl (by kernel_rfl) (by kernel_rfl) (by kernel_rfl) (fun _ _ _ h => h) (Or.inl ⟨by rfl, ?yx14⟩) (by assumption) ?rx14
            case yx14 => intro w hSw; (try dsimp only at hSw); go_simp <;> (try with_reducible rfl)
            (try simp only [List.getElem_toArray, List.getElem_cons_succ, List.getElem_cons_zero, Act.put, List.setIfInBounds_toArray, List.set_cons_zero, List.set_cons_succ])
            refine wpAnyH_take (i := 15) (v := ?vx15) rfl (by kernel_rfl) (by kernel_rfl) (by kernel_rfl) (fun _ _ _ h => h) (Or.inl ⟨by rfl, ?yx15⟩) (by assumption) ?rx15
            case yx15 => intro w hSw; (try dsimp only at hSw); go_simp <;> (try with_reducible rfl)
            (try simp only [List.getElem_toArray, List.getElem_cons_succ, List.getElem_cons_zero, Act.put, List.setIfInBounds_toArray, List.set_cons_zero, List.set_cons_succ])
            refine wpAnyH_done (by kernel_rfl) ?_ _
            go_wp2_with (first | (with_reducible refine wpList_build (o := ⟨some 32, .build 25 #[], _, _, _, _⟩) (by with_unfolding_all rfl) 25 #[] (by with_unfolding_all rfl) #[] (by with_unfolding_all rfl) (.agg Pat.zero.cells.toArray) (by with_unfolding_all exact fun w => run_buildP0 w) ?_) | (with_reducible refine wpList_put (o := ⟨none, .store 25 (.tmp 4) (.tmp 32), _, _, _, _⟩) (by with_unfolding_all rfl) 25 (.tmp 4) (.tmp 32) (by with_unfolding_all rfl) gr 0 (by with_unfolding_all rfl) (.agg Pat.zero.cells.toArray) (by with_unfolding_all rfl) hR3 Pat.zero.cells (by with_unfolding_all rfl) (by with_unfolding_all (rw [Pat.cells_length]; exact Tryd.szP)) (by with_unfolding_all (rw [Pat.cells_length]; omega)) (by with_unfolding_all (exact cells_one _)) ?_))
            intro w5 hu5 hR5
            rw [splice_all _ _ rfl, ← hXe.out] at hR5
            have hb5 := hbel3.trans (hu5.below (B := w.heap.size) (by omega))
            go_wp2
            exact bodyPost_ret (results_cell_two rfl _ _ gr _ _ _ _ _ rfl rfl hR5 Tryd.underlying25 rfl (by rw [List.size_toArray, Pat.cells_length]; exact Tryd.szP)) rfl ⟨by rw [hDf.out]; rfl, hb5⟩
    · obtain rfl : k = 160 := by omega
      have hov : Hid (p.over q) := by
        have : p.over q := Pat.over_iff.2 HZ.out
        exact this
      have hDf : Hid (D = true) := by
        have : D = true := by rw [← hD.out]; exact decide_eq_true hov.out
        exact this
      have hXe : Hid (X = p.and q) := by
        have : X = p.and q := by rw [← hX.out]; unfold Pat.andV; rw [if_pos hov.out]
        exact this
      have hPx : Blk wr gp 25 X.cells := by rw [hXe.out, ← Pat.andTo_all HP.out HQ.out hov.out]; exact hP
      clear hP hk hov hXe
      go_wp2_with (first | (with_reducible refine wpList_get (o := ⟨some 47, .load 25 (.tmp 2), _, _, _, _⟩) (by with_unfolding_all rfl) 25 (.tmp 2) (by with_unfolding_all rfl) gp 0 (by with_unfolding_all rfl) hPx X.cells (cs_all _) _ (by exact Tryd.underlying25) (by with_unfolding_all rfl) (by rw [Pat.cells_length]; exact Tryd.szP) ?_) | (with_reducible refine wpList_put (o := ⟨none, .store 25 (.tmp 4) (.tmp 47), _, _, _, _⟩) (by with_unfolding_all rfl) 25 (.tmp 4) (.tmp 47) (by with_unfolding_all rfl) gr 0 (by with_unfolding_all rfl) (.agg X.cells.toArray) (by with_unfolding_all rfl) hR X.cells (by with_unfolding_all rfl) (by with_unfolding_all (rw [Pat.cells_length]; exact Tryd.szP)) (by with_unfolding_all (rw [Pat.cells_length, Pat.cells_length]; omega)) (by with_unfolding_all (exact cells_one _)) ?_))
      intro w5 hu5 hR5
      rw [splice_all _ _ (by rw [Pat.cells_length, Pat.cells_length])] at hR5
      have hb5 := hbel.trans (hu5.below (B := w.heap.size) (by omega))
      go_wp2
      exact bodyPost_ret (results_cell_two rfl _ _ gr _ _ _ _ _ rfl rfl hR5 Tryd.underlying25 rfl (by rw [List.size_toArray, Pat.cells_length]; exact Tryd.szP)) rfl ⟨by rw [hDf.out]; rfl, hb5⟩
end Go.Proofs.YtbldnhpbmfmepaaDoor

/-
  Contracts of the walks over the reference's Overlap, Covers and Apply. Conditions: right patterns.
-/
namespace Go.Proofs.YtbldnhpbmfmepaaDoor
set_option linter.unusedVariables false
set_option linter.unusedSimpArgs false
open Go.RowKit

set_option maxRecDepth 100000 in
set_option maxHeartbeats 1600000 in
theorem roverlap_any (p q : Pat) (w : World) (hp : p.ok) (hq : q.ok) :
    Calls Tryd.prog 35 #[.agg p.cells.toArray, .agg q.cells.toArray] w fun e w' => e = .returned (.bool (decide (p.over q))) ∧ Below w.heap.size w w' := by
  obtain ⟨D, hD⟩ : ∃ D, Hid (decide (p.over q) = D) := ⟨_, rfl⟩
  obtain ⟨X, hX⟩ : ∃ X, Hid (p.andV q = X) := ⟨_, rfl⟩
  rw [hD.out]
  have HP := Lib.hid hp
  have HQ := Lib.hid hq
  clear hp hq
  go_enter Tryd.func35, Tryd.ntmps35
  go_wp2_with (with_reducible refine wpList_box (o := ⟨some 2, .box 25 (.tmp 0), _, _, _, _⟩) ?g1 25 (.tmp 0) ?o1 (.agg p.cells.toArray) p.cells ?x1 ?c1 ?_)
  try (case g1 => rfl)
  try (case o1 => rfl)
  try (case x1 => rfl)
  try (case c1 => rfl)
  intro gp w1 hgp hs1 hb1 hP1
  go_wp2_with (with_reducible refine wpList_box (o := ⟨some 3, .box 25 (.tmp 1), _, _, _, _⟩) ?g2 25 (.tmp 1) ?o2 (.agg q.cells.toArray) q.cells ?x2 ?c2 ?_)
  try (case g2 => rfl)
  try (case o2 => rfl)
  try (case x2 => rfl)
  try (case c2 => rfl)
  intro gq w2 hgq hs2 hb2 hQ2
  have hle : w.heap.size ≤ gp := Nat.le_of_eq hgp.out.symm
  have hab : gp < gq := by have := hgp.out; have := hs1.out; have := hgq.out; omega
  have hP2 := hP1.next hb2 hab
  have hbel := (hb1.mono hle).trans (hb2.mono (by omega : w.heap.size ≤ gq))
  clear hgp hs1 hb1 hP1 hgq hs2 hb2
  go_wp2_with (first | (with_reducible refine wpList_get (o := ⟨some 8, .load 25 (.tmp 2), _, _, _, _⟩) (by with_unfolding_all rfl) 25 (.tmp 2) (by with_unfolding_all rfl) gp 0 (by with_unfolding_all rfl) hP2 p.cells (cs_all _) _ (by exact Tryd.underlying25) (by with_unfolding_all rfl) (by rw [Pat.cells_length]; exact Tryd.szP) ?_) | (with_reducible refine wpList_get (o := ⟨some 9, .load 25 (.tmp 3), _, _, _, _⟩) (by with_unfolding_all rfl) 25 (.tmp 3) (by with_unfolding_all rfl) gq 0 (by with_unfolding_all rfl) hQ2 q.cells (cs_all _) _ (by exact Tryd.underlying25) (by with_unfolding_all rfl) (by rw [Pat.cells_length]; exact Tryd.szP) ?_))
  (with_reducible refine (rand_any p q _ HP.out HQ.out).mono ?_)
  rintro e w3 ⟨rfl, hb3⟩
  rw [hD.out, hX.out]
  have hbel3 := hbel.trans (hb3.mono hbel.size)
  clear hP2 hQ2 hb3 hbel
  go_wp2_with (with_reducible refine wpList_alloc (o := ⟨some 5, .alloc 25, _, _, _, _⟩) (by with_unfolding_all rfl) 25 (by with_unfolding_all rfl) (.agg (H no ++ H no).toArray) (H no ++ H no) (by exact Tryd.zeroPt) (by with_unfolding_all rfl) ?_)
  intro g5 w4 hg5 hs4 hb4 hX4
  have hle5 : w.heap.size ≤ g5 := by rw [hg5.out]; exact hbel3.size
  have hbel4 := hbel3.trans (hb4.mono hle5)
  clear hg5 hs4 hb4
  rw [cells_zero] at hX4
  go_wp2_with (with_reducible refine wpList_put (o := ⟨none, .store 25 (.tmp 5) (.tmp 11), _, _, _, _⟩) (by with_unfolding_all rfl) 25 (.tmp 5) (.tmp 11) (by with_unfolding_all rfl) g5 0 (by with_unfolding_all rfl) (.agg X.cells.toArray) (by with_unfolding_all rfl) hX4 X.cells (by with_unfolding_all rfl) (by with_unfolding_all (rw [Pat.cells_length]; exact Tryd.szP)) (by with_unfolding_all (rw [Pat.cells_length, Pat.cells_length]; omega)) (by with_unfolding_all (exact cells_one _)) ?_)
  intro w5 hu5 hX5
  have hbel5 := hbel4.trans (hu5.below (B := w.heap.size) hle5)
  go_wp2
  go_ret
  exact ⟨rfl, hbel5⟩
theorem Pat.covers_iff {p q : Pat} : p.covers q = true ↔ ∀ i, i < 160 → (p.m i && q.m i) = p.m i ∧ (q.b i && p.m i) = p.b i := by
  unfold Pat.covers
  rw [Bool.and_eq_true, decide_eq_true_eq, decide_eq_true_eq]
  exact ⟨fun h i hi => ⟨HI_inj h.1 i hi, HI_inj h.2 i hi⟩, fun h => ⟨HI_congr fun i hi => (h i hi).1, HI_congr fun i hi => (h i hi).2⟩⟩
theorem Pat.covers_and {p q : Pat} (hp : p.ok) (hq : q.ok) : (decide (p.over q) && (p.andV q).same q) = p.covers q := by
  rw [Bool.eq_iff_iff, Bool.and_eq_true, decide_eq_true_eq, Pat.covers_iff]
  constructor
  · rintro ⟨ho, hs⟩ i hi
    unfold Pat.andV at hs
    rw [if_pos ho] at hs
    obtain ⟨h1, h2⟩ := Pat.same_iff.1 hs
    have h3 := h1 i hi
    have h4 := h2 i hi
    have h5 := hp i hi
    have h6 := hq i hi
    have h7 := Pat.over_iff.1 ho i hi
    unfold Pat.and at h3 h4
    simp only at h3 h4
    revert h3 h4 h5 h6 h7
    cases p.m i <;> cases q.m i <;> cases p.b i <;> cases q.b i <;> decide
  · intro h
    have ho : p.over q := Pat.over_iff.2 fun i hi h1 h2 => by
      have := (h i hi).2
      rw [h2, Bool.and_true] at this
      exact this.symm
    refine ⟨ho, ?_⟩
    unfold Pat.andV
    rw [if_pos ho, Pat.same_iff]
    refine ⟨fun i hi => ?_, fun i hi => ?_⟩
    · have h3 := (h i hi).1
      show (p.m i || q.m i) = q.m i
      revert h3
      cases p.m i <;> cases q.m i <;> decide
    · have h3 := (h i hi).2
      show (p.b i || q.b i) = q.b i
      revert h3
      cases p.m i <;> cases p.b i <;> cases q.b i <;> decide
set_option maxRecDepth 100000 in
set_option maxHeartbeats 1600000 in
theorem rcovers_any (p q : Pat) (w : World) (hp : p.ok) (hq : q.ok) :
    Calls Tryd.prog 37 #[.agg p.cells.toArray, .agg q.cells.toArray] w fun e w' => e = .returned (.bool (p.covers q)) ∧ Below w.heap.size w w' := by
  obtain ⟨C, hC⟩ : ∃ C, Hid (p.covers q = C) := ⟨_, rfl⟩
  obtain ⟨D, hD⟩ : ∃ D, Hid (decide (p.over q) = D) := ⟨_, rfl⟩
  obtain ⟨X, hX⟩ : ∃ X, Hid (p.andV q = X) := ⟨_, rfl⟩
  obtain ⟨E, hE⟩ : ∃ E, Hid (X.same q = E) := ⟨_, rfl⟩
  have hCv : Hid ((D && E) = C) := by
    have : (D && E) = C := by rw [← hD.out, ← hE.out, ← hX.out, ← hC.out]; exact Pat.covers_and hp hq
    exact this
  rw [hC.out]
  have heq : ∀ w, (binOp .eql 25 (.agg X.cells.toArray) (.agg q.cells.toArray)).run Tryd.prog w = .ok (.bool E) w := fun w => by rw [eql_pat, ← hE.out]; rfl
  have hgd := Tryd.guardP
  have HP := Lib.hid hp
  have HQ := Lib.hid hq
  clear hp hq hC hE
  go_enter Tryd.func37, Tryd.ntmps37
  go_wp2_with (with_reducible refine wpList_box (o := ⟨some 2, .box 25 (.tmp 0), _, _, _, _⟩) ?g1 25 (.tmp 0) ?o1 (.agg p.cells.toArray) p.cells ?x1 ?c1 ?_)
  try (case g1 => rfl)
  try (case o1 => rfl)
  try (case x1 => rfl)
  try (case c1 => rfl)
  intro gp w1 hgp hs1 hb1 hP1
  go_wp2_with (with_reducible refine wpList_box (o := ⟨some 3, .box 25 (.tmp 1), _, _, _, _⟩) ?g2 25 (.tmp 1) ?o2 (.agg q.cells.toArray) q.cells ?x2 ?c2 ?_)
  try (case g2 => rfl)
  try (case o2 => rfl)
  try (case x2 => rfl)
  try (case c2 => rfl)
  intro gq w2 hgq hs2 hb2 hQ2
  have hle : w.heap.size ≤ gp := Nat.le_of_eq hgp.out.symm
  have hab : gp < gq := by have := hgp.out; have := hs1.out; have := hgq.out; omega
  have hP2 := hP1.next hb2 hab
  have hbel := (hb1.mono hle).trans (hb2.mono (by omega : w.heap.size ≤ gq))
  clear hgp hs1 hb1 hP1 hgq hs2 hb2
  go_wp2_with (first | (with_reducible refine wpList_get (o := ⟨some 8, .load 25 (.tmp 2), _, _, _, _⟩) (by with_unfolding_all rfl) 25 (.tmp 2) (by with_unfolding_all rfl) gp 0 (by with_unfolding_all rfl) hP2 p.cells (cs_all _) _ (by exact Tryd.underlying25) (by with_unfolding_all rfl) (by rw [Pat.cells_length]; exact Tryd.szP) ?_) | (with_reducible refine wpList_get (o := ⟨some 9, .load 25 (.tmp 3), _, _, _, _⟩) (by with_unfolding_all rfl) 25 (.tmp 3) (by with_unfolding_all rfl) gq 0 (by with_unfolding_all rfl) hQ2 q.cells (cs_all _) _ (by exact Tryd.underlying25) (by with_unfolding_all rfl) (by rw [Pat.cells_length]; exact Tryd.szP) ?_))
  (with_reducible refine (rand_any p q _ HP.out HQ.out).mono ?_)
  rintro e w3 ⟨rfl, hb3⟩
  rw [hD.out, hX.out]
  have hQ3 := hQ2.next hb3 hQ2.lt
  have hbel3 := hbel.trans (hb3.mono hbel.size)
  clear hP2 hQ2 hb3 hbel
  go_wp2_with (with_reducible refine wpList_alloc (o := ⟨some 5, .alloc 25, _, _, _, _⟩) (by with_unfolding_all rfl) 25 (by with_unfolding_all rfl) (.agg (H no ++ H no).toArray) (H no ++ H no) (by exact Tryd.zeroPt) (by with_unfolding_all rfl) ?_)
  intro g5 w4 hg5 hs4 hb4 hX4
  have hle5 : w.heap.size ≤ g5 := by rw [hg5.out]; exact hbel3.size
  have hq5 : gq < g5 := by have := hQ3.lt; have := hg5.out; omega
  have hQ4 := hQ3.next hb4 hq5
  have hbel4 := hbel3.trans (hb4.mono hle5)
  clear hg5 hs4 hb4 hQ3 hbel3
  rw [cells_zero] at hX4
  go_wp2_with (with_reducible refine wpList_put (o := ⟨none, .store 25 (.tmp 5) (.tmp 11), _, _, _, _⟩) (by with_unfolding_all rfl) 25 (.tmp 5) (.tmp 11) (by with_unfolding_all rfl) g5 0 (by with_unfolding_all rfl) (.agg X.cells.toArray) (by with_unfolding_all rfl) hX4 X.cells (by with_unfolding_all rfl) (by with_unfolding_all (rw [Pat.cells_length]; exact Tryd.szP)) (by with_unfolding_all (rw [Pat.cells_length, Pat.cells_length]; omega)) (by with_unfolding_all (exact cells_one _)) ?_)
  intro w5 hu5 hX5
  rw [splice_all _ _ (by rw [Pat.cells_length, Pat.cells_length])] at hX5
  have hQ5 := hQ4.upd hu5 (by omega)
  have hbel5 := hbel4.trans (hu5.below (B := w.heap.size) hle5)
  clear hQ4 hu5 hbel4 hX4
  rcases D with _ | _
  · obtain rfl : false = C := hCv.out
    go_wp2
    go_ret
    exact ⟨rfl, hbel5⟩
  · obtain rfl : E = C := hCv.out
    go_wp2_with (first | (with_reducible refine wpList_getg (o := ⟨some 15, .load 25 (.tmp 5), _, _, _, _⟩) (by with_unfolding_all rfl) 25 (.tmp 5) (by with_unfolding_all rfl) g5 0 (by with_unfolding_all rfl) hX5 X.cells (cs_all _) _ (by exact Tryd.underlying25) (by with_unfolding_all rfl) (by rw [Pat.cells_length]; exact Tryd.szP) ?_) | (with_reducible refine wpList_getg (o := ⟨some 16, .load 25 (.tmp 3), _, _, _, _⟩) (by with_unfolding_all rfl) 25 (.tmp 3) (by with_unfolding_all rfl) gq 0 (by with_unfolding_all rfl) hQ5 q.cells (cs_all _) _ (by exact Tryd.underlying25) (by with_unfolding_all rfl) (by rw [Pat.cells_length]; exact Tryd.szP) ?_))
    go_ret
    exact ⟨rfl, hbel5⟩
end Go.Proofs.YtbldnhpbmfmepaaDoor

/-
  Contract of the walk over the reference's Apply. Conditions: a right mod.
-/
namespace Go.Proofs.YtbldnhpbmfmepaaDoor
set_option linter.unusedVariables false
set_option linter.unusedSimpArgs false
open Go.RowKit

/-- The first k bits of the mod are set. -/
def Pat.appTo (m : Pat) (f : Nat → Bool) (k : Nat) : Nat → Bool := fun i => if i < k ∧ m.m i = true then m.b i else f i
theorem Pat.appTo_zero (m : Pat) (f : Nat → Bool) : H (m.appTo f 0) = H f := H_congr fun i _ => by simp [Pat.appTo]
theorem Pat.appTo_skip {m : Pat} {f : Nat → Bool} {k : Nat} (h : m.m k = false) : H (m.appTo f k) = H (m.appTo f (k + 1)) := by
  refine H_congr fun i _ => ?_
  unfold Pat.appTo
  by_cases e : i = k
  · subst e; simp [h]
  · simp [show (i < k + 1) = (i < k) by simp; omega]
theorem Pat.appTo_next {m : Pat} {f : Nat → Bool} {k : Nat} (h : m.m k = true) : H (upd (m.appTo f k) k (m.b k)) = H (m.appTo f (k + 1)) := by
  refine H_congr fun i _ => ?_
  unfold Pat.appTo upd
  by_cases e : i = k
  · subst e; simp [h]
  · simp [e, show (i < k + 1) = (i < k) by simp; omega]
theorem Pat.appTo_all {m : Pat} (hm : m.ok) (f : Nat → Bool) : H (m.appTo f 160) = H (m.app f) := by
  refine H_congr fun i hi => ?_
  have h1 := hm i hi
  unfold Pat.appTo Pat.app
  simp only [hi, true_and]
  revert h1
  cases m.m i <;> cases m.b i <;> cases f i <;> decide
def RAppRel (m : Pat) (f : Nat → Bool) (gm gf gr : Nat) (w : World) (i : Value) (wr : World) : Prop :=
  ∃ k : Nat, k ≤ 160 ∧ i = .int .i64 k ∧ Blk wr gm 43 m.cells ∧ Blk wr gf 23 (H (m.appTo f k)) ∧ Blk wr gr 23 (H no) ∧ Below w.heap.size w wr
set_option maxRecDepth 100000 in
set_option maxHeartbeats 3200000 in
theorem rapply_any (m : Pat) (f : Nat → Bool) (w : World) (hm : m.ok) :
    Calls Tryd.prog 47 #[.agg m.cells.toArray, .agg (H f).toArray] w fun e w' => e = .returned (.agg (H (m.app f)).toArray) ∧ Below w.heap.size w w' := by
  obtain ⟨X, hX⟩ : ∃ X, Hid (m.app f = X) := ⟨_, rfl⟩
  have HX : Hid (H (m.appTo f 160) = H X) := by
    have : H (m.appTo f 160) = H X := by rw [Pat.appTo_all hm, hX.out]
    exact this
  rw [hX.out]
  clear hm hX
  go_enter Tryd.func47, Tryd.ntmps47
  go_wp2_with (with_reducible refine wpList_box (o := ⟨some 2, .box 43 (.tmp 0), _, _, _, _⟩) ?g1 43 (.tmp 0) ?o1 (.agg m.cells.toArray) m.cells ?x1 ?c1 ?_)
  try (case g1 => rfl)
  try (case o1 => rfl)
  try (case x1 => rfl)
  try (case c1 => rfl)
  intro gm w1 hgp hs1 hb1 hP1
  go_wp2_with (with_reducible refine wpList_box (o := ⟨some 3, .box 23 (.tmp 1), _, _, _, _⟩) ?g2 23 (.tmp 1) ?o2 (.agg (H f).toArray) (H f) ?x2 ?c2 ?_)
  try (case g2 => rfl)
  try (case o2 => rfl)
  try (case x2 => rfl)
  try (case c2 => rfl)
  intro gf w2 hgq hs2 hb2 hQ2
  go_wp2_with (with_reducible refine wpList_alloc (o := ⟨some 4, .alloc 23, _, _, _, _⟩) (by with_unfolding_all rfl) 23 (by with_unfolding_all rfl) (.agg (H no).toArray) (H no) (by exact Tryd.zeroH) (by with_unfolding_all rfl) ?_)
  intro gr w3 hgr hs3 hb3 hR3
  have hle : w.heap.size ≤ gm := Nat.le_of_eq hgp.out.symm
  have hab : gm < gf := by have := hgp.out; have := hs1.out; have := hgq.out; omega
  have hbr : gf < gr := by have := hgq.out; have := hs2.out; have := hgr.out; omega
  have hP3 := (hP1.next hb2 hab).next hb3 (by omega)
  have hQ3 := hQ2.next hb3 hbr
  have hbel := ((hb1.mono hle).trans (hb2.mono (by omega))).trans (hb3.mono (by omega : w.heap.size ≤ gr))
  clear hgp hs1 hb1 hP1 hgq hs2 hb2 hQ2 hgr hs3 hb3
  go_wp2
  go_loopw [5] (RAppRel m f gm gf gr w) (fun i _ => 160 - (intOf i).toNat)
  case atStart => exact ⟨0, by omega, rfl, hP3, by rw [Pat.appTo_zero]; exact hQ3, hR3, hbel⟩
  case round =>
    clear hP3 hQ3 hR3 hbel
    obtain ⟨k, hk, rfl, hP, hQ, hR, hbel⟩ := hrel
    by_cases hlt : k < 160
    · obtain ⟨F, hF⟩ : ∃ F, m.appTo f k = F := ⟨_, rfl⟩
      obtain ⟨c, hc⟩ : ∃ c, m.b k = c := ⟨_, rfl⟩
      obtain ⟨y, hy⟩ : ∃ y, m.m k = y := ⟨_, rfl⟩
      have hbm := rbit_any m.m k
      have hbb := rbit_any m.b k
      rw [hy] at hbm
      rw [hc] at hbb
      have HBM := Lib.hid hbm
      have HBB := Lib.hid hbb
      clear hbm hbb
      rw [hF] at hQ
      go_wp2_with (with_reducible refine wpList_get (o := ⟨some 11, .load 23 (.tmp 10), _, _, _, _⟩) (by with_unfolding_all rfl) 23 (.tmp 10) (by with_unfolding_all rfl) gm 0 (by with_unfolding_all rfl) hP (H m.m) (cells_take_m m) _ (by exact Tryd.underlying23) (by with_unfolding_all rfl) (by rw [H_length]; exact Tryd.szH) ?_)
      (with_reducible refine (HBM.out _ hlt).mono ?_)
      rintro e w2 ⟨rfl, hb2⟩
      have hP2 := hP.next hb2 hP.lt
      have hQ2 := hQ.next hb2 hQ.lt
      have hR2 := hR.next hb2 hR.lt
      have hbel2 := hbel.trans (hb2.mono hbel.size)
      clear hP hQ hR hb2 hbel
      rcases y with _ | _
      · rw [show ((false.toNat : Nat) : Int) = 0 from rfl] at *
        have hQn : Blk w2 gf 23 (H (m.appTo f (k + 1))) := by rw [← Pat.appTo_skip hy, hF]; exact hQ2
        clear hQ2 hy hc hF
        go_wp2
        go_roundw
        case rel => exact ⟨k + 1, by omega, by go_num, hP2, hQn, hR2, hbel2⟩
        case measure => simp [intOf]; omega
      · rw [show ((true.toNat : Nat) : Int) = 1 from rfl] at *
        obtain ⟨N, hN⟩ : ∃ N, upd F k c = N := ⟨_, rfl⟩
        have HN : Hid (H N = H (m.appTo f (k + 1))) := by
          have : H N = H (m.appTo f (k + 1)) := by rw [← Pat.appTo_next hy, hF, hc, hN]
          exact this
        have hsb := fun w => rset_any F k c w
        rw [hN] at hsb
        have HSB := Lib.hid hsb
        clear hsb hN hc hy hF
        go_wp2
        have hun := Tryd.underlying23
        have hz2 : (Tryd.prog.info? 23).map (·.size) = some (H F).length := by rw [H_length]; exact Tryd.szH
        have hz4 : (Tryd.prog.info? 23).map (·.size) = some (H m.b).length := by rw [H_length]; exact Tryd.szH
        have hbw := below_drew w2
        have hP6 := hP2.next hbw hP2.lt
        have hQ6 := hQ2.next hbw hQ2.lt
        have hR6 := hR2.next hbw hR2.lt
        clear hP2 hQ2 hR2
        refine wp_region_held_drew (S := fun w' => w'.rangeAt gm 10 (H m.b)) (by kernel_rfl) (at_b hP6) (fun hHeld => ?_)
        generalize w2.drew = wd at hP6 hQ6 hR6 hbw hHeld ⊢
        refine wpAnyH_take (i := 1) (v := ?vn1) rfl (by kernel_rfl) (by kernel_rfl) (by kernel_rfl) (fun _ _ _ h => h) (Or.inl ⟨by rfl, ?yn1⟩) (by assumption) ?rn1
        case yn1 => intro w hSw; (try dsimp only at hSw); go_simp <;> (try with_reducible rfl)
        (try simp only [List.getElem_toArray, List.getElem_cons_succ, List.getElem_cons_zero, Act.put, List.setIfInBounds_toArray, List.set_cons_zero, List.set_cons_succ])
        refine wpAnyH_take (i := 2) (v := ?vn2) rfl (by kernel_rfl) (by kernel_rfl) (by kernel_rfl) (fun _ _ _ h => h) (Or.inl ⟨by rfl, ?yn2⟩) (by assumption) ?rn2
        case yn2 => intro w hSw; (try dsimp only at hSw); go_simp <;> (try with_reducible rfl)
        (try simp only [List.getElem_toArray, List.getElem_cons_succ, List.getElem_cons_zero, Act.put, List.setIfInBounds_toArray, List.set_cons_zero, List.set_cons_succ])
        refine' wpAnyH_take (i := 3) (v := _) rfl (by kernel_rfl) (by kernel_rfl) (by kernel_rfl) (fun _ _ _ h => h) (yieldsIf_load_mid (by rfl) _ _ (by rfl) _ _ (by rfl) _ _ ?Sn3 ?un3 ?dn3 ?in3) (by assumption) ?rn3
        case Sn3 => exact (by intro w h; exact h)
        case un3 => exact hun
        case dn3 => rfl
        case in3 => exact hz4
        (try simp only [List.getElem_toArray, List.getElem_cons_succ, List.getElem_cons_zero, Act.put, List.setIfInBounds_toArray, List.set_cons_zero, List.set_cons_succ])
        refine wpAnyH_take (i := 4) (v := ?vn4) rfl (by kernel_rfl) (by kernel_rfl) (by kernel_rfl) (fun _ _ _ h => h) (Or.inl ⟨by rfl, ?yn4⟩) (by assumption) ?rn4
        case yn4 => intro w hSw; (try dsimp only at hSw); go_simp <;> (try with_reducible rfl)
        (try simp only [List.getElem_toArray, List.getElem_cons_succ, List.getElem_cons_zero, Act.put, List.setIfInBounds_toArray, List.set_cons_zero, List.set_cons_succ])
        apply rest1
        · intro hrest
          refine wpAnyH_ready (rs := [0, 5]) (by kernel_rfl) (by simp) ?_
          refine AllReadyH.cons rfl (fun K hK => ?_) (AllReadyH.cons rfl (fun K hK => ?_) AllReadyH.nil)
          · rw [if_pos (by rfl)]
            refine' wp_load_mid _ _ rfl gf 0 rfl (H F) _ ?ca1 ?ua1 ?da1 ?ia1 ?ra1
            case ca1 => exact blk_range hQ6
            case ua1 => exact hun
            case da1 => rfl
            case ia1 => exact hz2
            (try simp only [List.getElem_toArray, List.getElem_cons_zero, Act.put, List.setIfInBounds_toArray, List.set_cons_zero, List.set_cons_succ])
            refine hK.out _ _ (at_b hP6) (fun hHeld => ?_)
            clear hK K
            refine wpAnyH_ready (rs := [5]) (by kernel_rfl) (by simp) ?_
            refine AllReadyH.cons rfl (fun K hK => ?_) AllReadyH.nil
            go_simp
            go_wp2_with fail
            (with_reducible refine (HBB.out _ hlt).mono ?_)
            rintro e wa ⟨rfl, hbz⟩
            replace hP6 := hP6.next hbz hP6.lt
            replace hQ6 := hQ6.next hbz hQ6.lt
            replace hR6 := hR6.next hbz hR6.lt
            replace hbw := below_join hbw hbz
            refine hK.out _ _ (at_b hP6) (fun hHeld => ?_)
            clear hK K hbz
            revert hP6 hQ6 hR6 hbw hHeld
            exact hrest wa
          · go_simp
            go_wp2_with fail
            (with_reducible refine (HBB.out _ hlt).mono ?_)
            rintro e wa ⟨rfl, hbz⟩
            replace hP6 := hP6.next hbz hP6.lt
            replace hQ6 := hQ6.next hbz hQ6.lt
            replace hR6 := hR6.next hbz hR6.lt
            replace hbw := below_join hbw hbz
            refine hK.out _ _ (at_b hP6) (fun hHeld => ?_)
            clear hK K hbz
            refine wpAnyH_ready (rs := [0]) (by kernel_rfl) (by simp) ?_
            refine AllReadyH.cons rfl (fun K hK => ?_) AllReadyH.nil
            rw [if_pos (by rfl)]
            refine' wp_load_mid _ _ rfl gf 0 rfl (H F) _ ?ca2 ?ua2 ?da2 ?ia2 ?ra2
            case ca2 => exact blk_range hQ6
            case ua2 => exact hun
            case da2 => rfl
            case ia2 => exact hz2
            (try simp only [List.getElem_toArray, List.getElem_cons_zero, Act.put, List.setIfInBounds_toArray, List.set_cons_zero, List.set_cons_succ])
            refine hK.out _ _ (at_b hP6) (fun hHeld => ?_)
            clear hK K
            revert hP6 hQ6 hR6 hbw hHeld
            exact hrest wa
        intro wq hP6 hQ6 hR6 hbw hHeld
        refine wpAnyH_ready (rs := [6]) (by kernel_rfl) (by simp) ?_
        refine AllReadyH.cons rfl (fun K hK => ?_) AllReadyH.nil
        go_simp
        go_wp2_with fail
        (with_reducible refine (HSB.out _ hlt).mono ?_)
        rintro e wv ⟨rfl, hbv⟩
        replace hP6 := hP6.next hbv hP6.lt
        replace hQ6 := hQ6.next hbv hQ6.lt
        replace hR6 := hR6.next hbv hR6.lt
        replace hbw := below_join hbw hbv
        refine hK.out _ _ (at_b hP6) (fun hHeld => ?_)
        clear hK K hbv
        refine wpAnyH_ready (rs := [7]) (by kernel_rfl) (by simp) ?_
        refine AllReadyH.cons rfl (fun K hK => ?_) AllReadyH.nil
        rw [if_pos (by rfl)]
        refine wp_put 23 (.tmp 3) (.tmp 21) rfl gf 0 rfl (.agg (H N).toArray) rfl hQ6 (H N) rfl (by rw [H_length]; exact Tryd.szH) (by rw [H_length, H_length]; omega) (H_one _) ?_
        intro wz huz hQz
        rw [splice_all _ _ (by rw [H_length, H_length]), HN.out] at hQz
        have hPz := hP6.upd huz (by omega)
        have hRz := hR6.upd huz (by omega)
        have hbz := (hbel2.trans (hbw.mono hbel2.size)).trans (huz.below (B := w.heap.size) (by omega))
        refine hK.out _ _ (at_b hPz) (fun hHeld => ?_)
        clear hK K hP6 hQ6 hR6 hbw huz hbel2
        refine wpAnyH_done (by kernel_rfl) ?_ _
        go_wp2
        go_roundw
        case rel => exact ⟨k + 1, by omega, by go_num, hPz, hQz, hRz, hbz⟩
        case measure => simp [intOf]; omega
    · obtain rfl : k = 160 := by omega
      have hQx : Blk wr gf 23 (H X) := by rw [← HX.out]; exact hQ
      clear hQ hk HX
      go_wp2_with (first | (with_reducible refine wpList_get (o := ⟨some 22, .load 23 (.tmp 3), _, _, _, _⟩) (by with_unfolding_all rfl) 23 (.tmp 3) (by with_unfolding_all rfl) gf 0 (by with_unfolding_all rfl) hQx (H X) (cs_all _) _ (by exact Tryd.underlying23) (by with_unfolding_all rfl) (by rw [H_length]; exact Tryd.szH) ?_) | (with_reducible refine wpList_put (o := ⟨none, .store 23 (.tmp 4) (.tmp 22), _, _, _, _⟩) (by with_unfolding_all rfl) 23 (.tmp 4) (.tmp 22) (by with_unfolding_all rfl) gr 0 (by with_unfolding_all rfl) (.agg (H X).toArray) (by with_unfolding_all rfl) hR (H X) (by with_unfolding_all rfl) (by with_unfolding_all (rw [H_length]; exact Tryd.szH)) (by with_unfolding_all (rw [H_length, H_length]; omega)) (by with_unfolding_all (exact H_one _)) ?_))
      intro w5 hu5 hR5
      rw [splice_all _ _ (by rw [H_length, H_length])] at hR5
      have hb5 := hbel.trans (hu5.below (B := w.heap.size) (by omega))
      go_wp2
      refine bodyPost_ret (results_cell_row rfl _ _ gr _ _ _ _ rfl hR5 Tryd.underlying23 rfl (by rw [List.size_toArray, H_length]; exact Tryd.szH)) rfl ⟨rfl, hb5⟩
end Go.Proofs.YtbldnhpbmfmepaaDoor

/-
  Contracts of the walks over the reference's Then and Image. Conditions: a right mod.
-/
namespace Go.Proofs.YtbldnhpbmfmepaaDoor
set_option linter.unusedVariables false
set_option linter.unusedSimpArgs false
open Go.RowKit

set_option maxRecDepth 100000 in
set_option maxHeartbeats 3200000 in
theorem rthen_any (p q : Pat) (w : World) (hq : q.ok) :
    Calls Tryd.prog 49 #[.agg p.cells.toArray, .agg q.cells.toArray] w fun e w' => e = .returned (.agg (p.then q).cells.toArray) ∧ Below w.heap.size w w' := by
  obtain ⟨X, hX⟩ : ∃ X, Hid (p.then q = X) := ⟨_, rfl⟩
  obtain ⟨B, hB⟩ : ∃ B, q.app p.b = B := ⟨_, rfl⟩
  obtain ⟨M, hM⟩ : ∃ M, (⟨q.m, q.m⟩ : Pat).app p.m = M := ⟨_, rfl⟩
  have HX : Hid ((⟨M, B⟩ : Pat).cells = X.cells) := by
    have h : ∀ i, ((p.m i && !q.m i) || q.m i) = (p.m i || q.m i) := fun i => by cases p.m i <;> cases q.m i <;> rfl
    have : (⟨M, B⟩ : Pat).cells = X.cells := by
      rw [← hX.out, ← hB, ← hM]
      exact Pat.cells_congr ⟨fun i _ => h i, fun i _ => rfl⟩
    exact this
  rw [hX.out]
  have hab1 := fun w => rapply_any q p.b w hq
  have hab2 := fun w => rapply_any ⟨q.m, q.m⟩ p.m w (fun _ _ h => h)
  rw [hB] at hab1
  rw [hM] at hab2
  have H1 := Lib.hid hab1
  have H2 := Lib.hid hab2
  have hbd : ∀ w, (Instr.build 43 #[(0, .agg (H q.m).toArray), (1, .agg (H q.m).toArray)]).run Tryd.prog w = .ok (.agg (⟨q.m, q.m⟩ : Pat).cells.toArray) w := fun w => run_buildM w _ _ (H_length _) (H_length _)
  clear hq hX hB hM hab1 hab2
  go_enter Tryd.func49, Tryd.ntmps49
  go_wp2_with (with_reducible refine wpList_box (o := ⟨some 2, .box 43 (.tmp 0), _, _, _, _⟩) ?g1 43 (.tmp 0) ?o1 (.agg p.cells.toArray) p.cells ?x1 ?c1 ?_)
  try (case g1 => rfl)
  try (case o1 => rfl)
  try (case x1 => rfl)
  try (case c1 => rfl)
  intro gp w1 hgp hs1 hb1 hP1
  go_wp2_with (with_reducible refine wpList_box (o := ⟨some 3, .box 43 (.tmp 1), _, _, _, _⟩) ?g2 43 (.tmp 1) ?o2 (.agg q.cells.toArray) q.cells ?x2 ?c2 ?_)
  try (case g2 => rfl)
  try (case o2 => rfl)
  try (case x2 => rfl)
  try (case c2 => rfl)
  intro gq w2 hgq hs2 hb2 hQ2
  go_wp2_with (with_reducible refine wpList_alloc (o := ⟨some 4, .alloc 43, _, _, _, _⟩) (by with_unfolding_all rfl) 43 (by with_unfolding_all rfl) (.agg (H no ++ H no).toArray) (H no ++ H no) (by exact Tryd.zeroMd) (by with_unfolding_all rfl) ?_)
  intro gr w3 hgr hs3 hb3 hR3
  rw [cells_zero] at hR3
  have hle : w.heap.size ≤ gp := Nat.le_of_eq hgp.out.symm
  have hab : gp < gq := by have := hgp.out; have := hs1.out; have := hgq.out; omega
  have hbr : gq < gr := by have := hgq.out; have := hs2.out; have := hgr.out; omega
  have hP3 := (hP1.next hb2 hab).next hb3 (by omega)
  have hQ3 := hQ2.next hb3 hbr
  have hbel := ((hb1.mono hle).trans (hb2.mono (by omega))).trans (hb3.mono (by omega : w.heap.size ≤ gr))
  clear hgp hs1 hb1 hP1 hgq hs2 hb2 hQ2 hgr hs3 hb3
  go_wp2_with (first | (with_reducible refine wpList_get (o := ⟨some 5, .load 43 (.tmp 3), _, _, _, _⟩) (by with_unfolding_all rfl) 43 (.tmp 3) (by with_unfolding_all rfl) gq 0 (by with_unfolding_all rfl) hQ3 q.cells (cs_all _) _ (by exact Tryd.underlying43) (by with_unfolding_all rfl) (by rw [Pat.cells_length]; exact Tryd.szM) ?_) | (with_reducible refine wpList_get (o := ⟨some 7, .load 23 (.tmp 6), _, _, _, _⟩) (by with_unfolding_all rfl) 23 (.tmp 6) (by with_unfolding_all rfl) gp 10 (by with_unfolding_all rfl) hP3 (H p.b) (cells_take_b p) _ (by exact Tryd.underlying23) (by with_unfolding_all rfl) (by rw [H_length]; exact Tryd.szH) ?_))
  (with_reducible refine (H1.out _).mono ?_)
  rintro e w4 ⟨rfl, hb4⟩
  have hP4 := hP3.next hb4 hP3.lt
  have hQ4 := hQ3.next hb4 hQ3.lt
  have hR4 := hR3.next hb4 hR3.lt
  have hbel4 := hbel.trans (hb4.mono hbel.size)
  clear hP3 hQ3 hR3 hb4 hbel
  go_wp2_with (with_reducible refine wpList_put (o := ⟨none, .store 23 (.tmp 9) (.tmp 8), _, _, _, _⟩) (by with_unfolding_all rfl) 23 (.tmp 9) (.tmp 8) (by with_unfolding_all rfl) gp 10 (by with_unfolding_all rfl) (.agg (H B).toArray) (by with_unfolding_all rfl) hP4 (H B) (by with_unfolding_all rfl) (by with_unfolding_all (rw [H_length]; exact Tryd.szH)) (by with_unfolding_all (rw [H_length, Pat.cells_length]; omega)) (by with_unfolding_all (exact H_one _)) ?_)
  intro w5 hu5 hP5
  rw [splice_b] at hP5
  have hQ5 := hQ4.upd hu5 (by omega)
  have hR5 := hR4.upd hu5 (by omega)
  have hbel5 := hbel4.trans (hu5.below (B := w.heap.size) hle)
  clear hP4 hQ4 hR4 hu5 hbel4
  go_wp2_with (first | (with_reducible refine wpList_get (o := ⟨some 11, .load 23 (.tmp 10), _, _, _, _⟩) (by with_unfolding_all rfl) 23 (.tmp 10) (by with_unfolding_all rfl) gq 0 (by with_unfolding_all rfl) hQ5 (H q.m) (cells_take_m q) _ (by exact Tryd.underlying23) (by with_unfolding_all rfl) (by rw [H_length]; exact Tryd.szH) ?_) | (with_reducible refine wpList_get (o := ⟨some 13, .load 23 (.tmp 12), _, _, _, _⟩) (by with_unfolding_all rfl) 23 (.tmp 12) (by with_unfolding_all rfl) gq 0 (by with_unfolding_all rfl) hQ5 (H q.m) (cells_take_m q) _ (by exact Tryd.underlying23) (by with_unfolding_all rfl) (by rw [H_length]; exact Tryd.szH) ?_) | (with_reducible refine wpList_build (o := ⟨some 14, .build 43 #[(0, .tmp 11), (1, .tmp 13)], _, _, _, _⟩) (by with_unfolding_all rfl) 43 #[(0, .tmp 11), (1, .tmp 13)] (by with_unfolding_all rfl) #[(0, .agg (H q.m).toArray), (1, .agg (H q.m).toArray)] (by with_unfolding_all rfl) (.agg (⟨q.m, q.m⟩ : Pat).cells.toArray) hbd ?_) | (with_reducible refine wpList_get (o := ⟨some 16, .load 23 (.tmp 15), _, _, _, _⟩) (by with_unfolding_all rfl) 23 (.tmp 15) (by with_unfolding_all rfl) gp 0 (by with_unfolding_all rfl) hP5 (H p.m) (cells_take_m ⟨p.m, B⟩) _ (by exact Tryd.underlying23) (by with_unfolding_all rfl) (by rw [H_length]; exact Tryd.szH) ?_))
  (with_reducible refine (H2.out _).mono ?_)
  rintro e w6 ⟨rfl, hb6⟩
  have hP6 := hP5.next hb6 hP5.lt
  have hR6 := hR5.next hb6 hR5.lt
  have hbel6 := hbel5.trans (hb6.mono hbel5.size)
  clear hP5 hQ5 hR5 hb6 hbel5
  go_wp2_with (with_reducible refine wpList_put (o := ⟨none, .store 23 (.tmp 18) (.tmp 17), _, _, _, _⟩) (by with_unfolding_all rfl) 23 (.tmp 18) (.tmp 17) (by with_unfolding_all rfl) gp 0 (by with_unfolding_all rfl) (.agg (H M).toArray) (by with_unfolding_all rfl) hP6 (H M) (by with_unfolding_all rfl) (by with_unfolding_all (rw [H_length]; exact Tryd.szH)) (by with_unfolding_all (rw [H_length, Pat.cells_length]; omega)) (by with_unfolding_all (exact H_one _)) ?_)
  intro w7 hu7 hP7
  rw [splice_m] at hP7
  have hP7' : Blk w7 gp 43 X.cells := by rw [← HX.out]; exact hP7
  have hR7 := hR6.upd hu7 (by omega)
  have hbel7 := hbel6.trans (hu7.below (B := w.heap.size) hle)
  clear hP6 hR6 hu7 hbel6 hP7 HX
  go_wp2_with (first | (with_reducible refine wpList_get (o := ⟨some 19, .load 43 (.tmp 2), _, _, _, _⟩) (by with_unfolding_all rfl) 43 (.tmp 2) (by with_unfolding_all rfl) gp 0 (by with_unfolding_all rfl) hP7' X.cells (cs_all _) _ (by exact Tryd.underlying43) (by with_unfolding_all rfl) (by rw [Pat.cells_length]; exact Tryd.szM) ?_) | (with_reducible refine wpList_put (o := ⟨none, .store 43 (.tmp 4) (.tmp 19), _, _, _, _⟩) (by with_unfolding_all rfl) 43 (.tmp 4) (.tmp 19) (by with_unfolding_all rfl) gr 0 (by with_unfolding_all rfl) (.agg X.cells.toArray) (by with_unfolding_all rfl) hR7 X.cells (by with_unfolding_all rfl) (by with_unfolding_all (rw [Pat.cells_length]; exact Tryd.szM)) (by with_unfolding_all (rw [Pat.cells_length, Pat.cells_length]; omega)) (by with_unfolding_all (exact cells_one _)) ?_))
  intro w8 hu8 hR8
  rw [splice_all _ _ (by rw [Pat.cells_length, Pat.cells_length])] at hR8
  have hb8 := hbel7.trans (hu8.below (B := w.heap.size) (by omega))
  go_wp2
  refine bodyPost_ret (results_cell_row rfl _ _ gr _ _ _ _ rfl hR8 Tryd.underlying43 rfl (by rw [List.size_toArray, Pat.cells_length]; exact Tryd.szM)) rfl ⟨rfl, hb8⟩
set_option maxRecDepth 100000 in
set_option maxHeartbeats 3200000 in
theorem rimage_any (p q : Pat) (w : World) (hq : q.ok) :
    Calls Tryd.prog 51 #[.agg p.cells.toArray, .agg q.cells.toArray] w fun e w' => e = .returned (.agg (p.image q).cells.toArray) ∧ Below w.heap.size w w' := by
  obtain ⟨X, hX⟩ : ∃ X, Hid (p.image q = X) := ⟨_, rfl⟩
  have hth := fun w => rthen_any p q w hq
  rw [show p.then q = p.image q from rfl, hX.out] at hth
  rw [hX.out]
  have H1 := Lib.hid hth
  have hbd : ∀ w, (Instr.build 43 #[(0, .agg (H p.m).toArray), (1, .agg (H p.b).toArray)]).run Tryd.prog w = .ok (.agg p.cells.toArray) w := fun w => run_buildM w _ _ (H_length _) (H_length _)
  have hbx : ∀ w, (Instr.build 25 #[(0, .agg (H X.m).toArray), (1, .agg (H X.b).toArray)]).run Tryd.prog w = .ok (.agg X.cells.toArray) w := fun w => run_buildP w _ _ (H_length _) (H_length _)
  clear hq hX hth
  go_enter Tryd.func51, Tryd.ntmps51
  go_wp2_with (with_reducible refine wpList_box (o := ⟨some 2, .box 25 (.tmp 0), _, _, _, _⟩) ?g1 25 (.tmp 0) ?o1 (.agg p.cells.toArray) p.cells ?x1 ?c1 ?_)
  try (case g1 => rfl)
  try (case o1 => rfl)
  try (case x1 => rfl)
  try (case c1 => rfl)
  intro gp w1 hgp hs1 hb1 hP1
  go_wp2_with (with_reducible refine wpList_box (o := ⟨some 3, .box 43 (.tmp 1), _, _, _, _⟩) ?g2 43 (.tmp 1) ?o2 (.agg q.cells.toArray) q.cells ?x2 ?c2 ?_)
  try (case g2 => rfl)
  try (case o2 => rfl)
  try (case x2 => rfl)
  try (case c2 => rfl)
  intro gq w2 hgq hs2 hb2 hQ2
  go_wp2_with (with_reducible refine wpList_alloc (o := ⟨some 4, .alloc 25, _, _, _, _⟩) (by with_unfolding_all rfl) 25 (by with_unfolding_all rfl) (.agg (H no ++ H no).toArray) (H no ++ H no) (by exact Tryd.zeroPt) (by with_unfolding_all rfl) ?_)
  intro gr w3 hgr hs3 hb3 hR3
  rw [cells_zero] at hR3
  have hle : w.heap.size ≤ gp := Nat.le_of_eq hgp.out.symm
  have hab : gp < gq := by have := hgp.out; have := hs1.out; have := hgq.out; omega
  have hbr : gq < gr := by have := hgq.out; have := hs2.out; have := hgr.out; omega
  have hP3 := (hP1.next hb2 hab).next hb3 (by omega)
  have hQ3 := hQ2.next hb3 hbr
  have hbel := ((hb1.mono hle).trans (hb2.mono (by omega))).trans (hb3.mono (by omega : w.heap.size ≤ gr))
  clear hgp hs1 hb1 hP1 hgq hs2 hb2 hQ2 hgr hs3 hb3
  go_wp2_with (first | (with_reducible refine wpList_get (o := ⟨some 7, .load 23 (.tmp 6), _, _, _, _⟩) (by with_unfolding_all rfl) 23 (.tmp 6) (by with_unfolding_all rfl) gp 0 (by with_unfolding_all rfl) hP3 (H p.m) (cells_take_m p) _ (by exact Tryd.underlying23) (by with_unfolding_all rfl) (by rw [H_length]; exact Tryd.szH) ?_) | (with_reducible refine wpList_get (o := ⟨some 9, .load 23 (.tmp 8), _, _, _, _⟩) (by with_unfolding_all rfl) 23 (.tmp 8) (by with_unfolding_all rfl) gp 10 (by with_unfolding_all rfl) hP3 (H p.b) (cells_take_b p) _ (by exact Tryd.underlying23) (by with_unfolding_all rfl) (by rw [H_length]; exact Tryd.szH) ?_) | (with_reducible refine wpList_build (o := ⟨some 10, .build 43 #[(0, .tmp 7), (1, .tmp 9)], _, _, _, _⟩) (by with_unfolding_all rfl) 43 #[(0, .tmp 7), (1, .tmp 9)] (by with_unfolding_all rfl) #[(0, .agg (H p.m).toArray), (1, .agg (H p.b).toArray)] (by with_unfolding_all rfl) (.agg p.cells.toArray) hbd ?_) | (with_reducible refine wpList_get (o := ⟨some 11, .load 43 (.tmp 3), _, _, _, _⟩) (by with_unfolding_all rfl) 43 (.tmp 3) (by with_unfolding_all rfl) gq 0 (by with_unfolding_all rfl) hQ3 q.cells (cs_all _) _ (by exact Tryd.underlying43) (by with_unfolding_all rfl) (by rw [Pat.cells_length]; exact Tryd.szM) ?_))
  (with_reducible refine (H1.out _).mono ?_)
  rintro e w4 ⟨rfl, hb4⟩
  have hR4 := hR3.next hb4 hR3.lt
  have hbel4 := hbel.trans (hb4.mono hbel.size)
  clear hP3 hQ3 hR3 hb4 hbel
  go_wp2_with (with_reducible refine wpList_alloc (o := ⟨some 5, .alloc 43, _, _, _, _⟩) (by with_unfolding_all rfl) 43 (by with_unfolding_all rfl) (.agg (H no ++ H no).toArray) (H no ++ H no) (by exact Tryd.zeroMd) (by with_unfolding_all rfl) ?_)
  intro g5 w5 hg5 hs5 hb5 hX5
  have hle5 : w.heap.size ≤ g5 := by rw [hg5.out]; exact hbel4.size
  have hr5 : gr < g5 := by have := hR4.lt; have := hg5.out; omega
  have hR5 := hR4.next hb5 hr5
  have hbel5 := hbel4.trans (hb5.mono hle5)
  clear hg5 hs5 hb5 hR4 hbel4
  rw [cells_zero] at hX5
  go_wp2_with (with_reducible refine wpList_put (o := ⟨none, .store 43 (.tmp 5) (.tmp 12), _, _, _, _⟩) (by with_unfolding_all rfl) 43 (.tmp 5) (.tmp 12) (by with_unfolding_all rfl) g5 0 (by with_unfolding_all rfl) (.agg X.cells.toArray) (by with_unfolding_all rfl) hX5 X.cells (by with_unfolding_all rfl) (by with_unfolding_all (rw [Pat.cells_length]; exact Tryd.szM)) (by with_unfolding_all (rw [Pat.cells_length, Pat.cells_length]; omega)) (by with_unfolding_all (exact cells_one _)) ?_)
  intro w6 hu6 hX6
  rw [splice_all _ _ (by rw [Pat.cells_length, Pat.cells_length])] at hX6
  have hR6 := hR5.upd hu6 (by omega)
  have hbel6 := hbel5.trans (hu6.below (B := w.heap.size) hle5)
  clear hR5 hu6 hbel5 hX5
  go_wp2_with (first | (with_reducible refine wpList_get (o := ⟨some 14, .load 23 (.tmp 13), _, _, _, _⟩) (by with_unfolding_all rfl) 23 (.tmp 13) (by with_unfolding_all rfl) g5 0 (by with_unfolding_all rfl) hX6 (H X.m) (cells_take_m X) _ (by exact Tryd.underlying23) (by with_unfolding_all rfl) (by rw [H_length]; exact Tryd.szH) ?_) | (with_reducible refine wpList_get (o := ⟨some 16, .load 23 (.tmp 15), _, _, _, _⟩) (by with_unfolding_all rfl) 23 (.tmp 15) (by with_unfolding_all rfl) g5 10 (by with_unfolding_all rfl) hX6 (H X.b) (cells_take_b X) _ (by exact Tryd.underlying23) (by with_unfolding_all rfl) (by rw [H_length]; exact Tryd.szH) ?_) | (with_reducible refine wpList_build (o := ⟨some 17, .build 25 #[(0, .tmp 14), (1, .tmp 16)], _, _, _, _⟩) (by with_unfolding_all rfl) 25 #[(0, .tmp 14), (1, .tmp 16)] (by with_unfolding_all rfl) #[(0, .agg (H X.m).toArray), (1, .agg (H X.b).toArray)] (by with_unfolding_all rfl) (.agg X.cells.toArray) hbx ?_) | (with_reducible refine wpList_put (o := ⟨none, .store 25 (.tmp 4) (.tmp 17), _, _, _, _⟩) (by with_unfolding_all rfl) 25 (.tmp 4) (.tmp 17) (by with_unfolding_all rfl) gr 0 (by with_unfolding_all rfl) (.agg X.cells.toArray) (by with_unfolding_all rfl) hR6 X.cells (by with_unfolding_all rfl) (by with_unfolding_all (rw [Pat.cells_length]; exact Tryd.szP)) (by with_unfolding_all (rw [Pat.cells_length, Pat.cells_length]; omega)) (by with_unfolding_all (exact cells_one _)) ?_))
  intro w8 hu8 hR8
  rw [splice_all _ _ (by rw [Pat.cells_length, Pat.cells_length])] at hR8
  have hb8 := hbel6.trans (hu8.below (B := w.heap.size) (by omega))
  go_wp2
  refine bodyPost_ret (results_cell_row rfl _ _ gr _ _ _ _ rfl hR8 Tryd.underlying25 rfl (by rw [List.size_toArray, Pat.cells_length]; exact Tryd.szP)) rfl ⟨rfl, hb8⟩
end Go.Proofs.YtbldnhpbmfmepaaDoor

/-
  Contract of the walk over the reference's Back. Conditions: right pattern and mod.
-/
namespace Go.Proofs.YtbldnhpbmfmepaaDoor
set_option linter.unusedVariables false
set_option linter.unusedSimpArgs false
open Go.RowKit

/-- The first k bits are given back. -/
def Pat.backTo (p q : Pat) (k : Nat) : Pat := ⟨fun i => if i < k ∧ q.m i = true ∧ p.m i = true then false else p.m i, fun i => if i < k ∧ q.m i = true ∧ p.m i = true then false else p.b i⟩
theorem Pat.backTo_zero (p q : Pat) : (p.backTo q 0).cells = p.cells := cells_congr ⟨fun i _ => by simp [Pat.backTo], fun i _ => by simp [Pat.backTo]⟩
theorem Pat.backTo_skip {p q : Pat} {k : Nat} (h : ¬ (q.m k = true ∧ p.m k = true)) : (p.backTo q k).cells = (p.backTo q (k + 1)).cells := by
  have key : ∀ i, (i < k ∧ q.m i = true ∧ p.m i = true) ↔ (i < k + 1 ∧ q.m i = true ∧ p.m i = true) := fun i => by
    by_cases e : i = k
    · subst e; exact ⟨fun hh => absurd hh.1 (by omega), fun hh => absurd hh.2 h⟩
    · exact ⟨fun hh => ⟨by omega, hh.2⟩, fun hh => ⟨by omega, hh.2⟩⟩
  refine cells_congr ⟨fun i _ => ?_, fun i _ => ?_⟩
  · unfold Pat.backTo
    simp only [key i]
  · unfold Pat.backTo
    simp only [key i]
theorem Pat.backTo_next {p q : Pat} {k : Nat} (h : q.m k = true) (h2 : p.m k = true) : (⟨upd (p.backTo q k).m k false, upd (p.backTo q k).b k false⟩ : Pat).cells = (p.backTo q (k + 1)).cells := by
  refine cells_congr ⟨fun i _ => ?_, fun i _ => ?_⟩
  · unfold Pat.backTo upd
    by_cases e : i = k
    · subst e; simp [h]
    · simp [e, show (i < k + 1) = (i < k) by simp; omega]
  · unfold Pat.backTo upd
    by_cases e : i = k
    · subst e; simp [h, h2]
    · simp [e, show (i < k + 1) = (i < k) by simp; omega]
theorem Pat.backTo_m (p q : Pat) (k : Nat) : (p.backTo q k).m k = p.m k := by simp [Pat.backTo]
theorem Pat.backTo_b (p q : Pat) (k : Nat) : (p.backTo q k).b k = p.b k := by simp [Pat.backTo]
theorem Pat.backTo_all {p q : Pat} (hp : p.ok) : (p.backTo q 160).cells = (p.back q).cells := by
  refine cells_congr ⟨fun i hi => ?_, fun i hi => ?_⟩
  · unfold Pat.backTo Pat.back
    simp only [hi, true_and]
    cases p.m i <;> cases q.m i <;> decide
  · have h1 := hp i hi
    unfold Pat.backTo Pat.back
    simp only [hi, true_and]
    revert h1
    cases p.m i <;> cases q.m i <;> cases p.b i <;> decide
def RBackRel (p q : Pat) (gp gq gr : Nat) (w : World) (i : Value) (wr : World) : Prop :=
  ∃ k : Nat, k ≤ 160 ∧ i = .int .i64 k ∧ (∀ j, j < k → q.m j = true → p.m j = true → p.b j = q.b j) ∧ Blk wr gp 25 (p.backTo q k).cells ∧ Blk wr gq 43 q.cells ∧ Blk wr gr 25 Pat.zero.cells ∧ Below w.heap.size w wr
set_option maxRecDepth 100000 in
set_option maxHeartbeats 3200000 in
theorem rback_any (p q : Pat) (w : World) (hp : p.ok) :
    Calls Tryd.prog 45 #[.agg p.cells.toArray, .agg q.cells.toArray] w fun e w' => e = .returned (.tuple #[.agg (p.backV q).cells.toArray, .bool (decide (p.over q))]) ∧ Below w.heap.size w w' := by
  obtain ⟨D, hD⟩ : ∃ D, Hid (decide (p.over q) = D) := ⟨_, rfl⟩
  obtain ⟨X, hX⟩ : ∃ X, Hid (p.backV q = X) := ⟨_, rfl⟩
  rw [hD.out, hX.out]
  have HP := Lib.hid hp
  clear hp
  go_enter Tryd.func45, Tryd.ntmps45
  go_wp2_with (with_reducible refine wpList_box (o := ⟨some 2, .box 25 (.tmp 0), _, _, _, _⟩) ?g1 25 (.tmp 0) ?o1 (.agg p.cells.toArray) p.cells ?x1 ?c1 ?_)
  try (case g1 => rfl)
  try (case o1 => rfl)
  try (case x1 => rfl)
  try (case c1 => rfl)
  intro gp w1 hgp hs1 hb1 hP1
  go_wp2_with (with_reducible refine wpList_box (o := ⟨some 3, .box 43 (.tmp 1), _, _, _, _⟩) ?g2 43 (.tmp 1) ?o2 (.agg q.cells.toArray) q.cells ?x2 ?c2 ?_)
  try (case g2 => rfl)
  try (case o2 => rfl)
  try (case x2 => rfl)
  try (case c2 => rfl)
  intro gq w2 hgq hs2 hb2 hQ2
  go_wp2_with (with_reducible refine wpList_alloc (o := ⟨some 4, .alloc 25, _, _, _, _⟩) (by with_unfolding_all rfl) 25 (by with_unfolding_all rfl) (.agg (H no ++ H no).toArray) (H no ++ H no) (by exact Tryd.zeroPt) (by with_unfolding_all rfl) ?_)
  intro gr w3 hgr hs3 hb3 hR3
  rw [cells_zero] at hR3
  have hle : w.heap.size ≤ gp := Nat.le_of_eq hgp.out.symm
  have hab : gp < gq := by have := hgp.out; have := hs1.out; have := hgq.out; omega
  have hbr : gq < gr := by have := hgq.out; have := hs2.out; have := hgr.out; omega
  have hP3 := (hP1.next hb2 hab).next hb3 (by omega)
  have hQ3 := hQ2.next hb3 hbr
  have hbel := ((hb1.mono hle).trans (hb2.mono (by omega))).trans (hb3.mono (by omega : w.heap.size ≤ gr))
  clear hgp hs1 hb1 hP1 hgq hs2 hb2 hQ2 hgr hs3 hb3
  go_wp2
  go_loopw [6] (RBackRel p q gp gq gr w) (fun i _ => 160 - (intOf i).toNat)
  case atStart => exact ⟨0, by omega, rfl, fun j hj => absurd hj (by omega), by rw [Pat.backTo_zero]; exact hP3, hQ3, hR3, hbel⟩
  case round =>
    clear hP3 hQ3 hR3 hbel
    obtain ⟨k, hk, rfl, hz, hP, hQ, hR, hbel⟩ := hrel
    have HZ := Lib.hid hz
    clear hz
    by_cases hlt : k < 160
    · obtain ⟨P, hPe⟩ : ∃ P, p.backTo q k = P := ⟨_, rfl⟩
      obtain ⟨c, hc⟩ : ∃ c, q.b k = c := ⟨_, rfl⟩
      obtain ⟨m, hm⟩ : ∃ m, p.m k = m := ⟨_, rfl⟩
      obtain ⟨b, hb⟩ : ∃ b, p.b k = b := ⟨_, rfl⟩
      obtain ⟨y, hy⟩ : ∃ y, q.m k = y := ⟨_, rfl⟩
      have hmP := Pat.backTo_m p q k
      have hbP := Pat.backTo_b p q k
      rw [hPe, hm] at hmP
      rw [hPe, hb] at hbP
      have hbq := rbit_any q.m k
      have hbm := rbit_any P.m k
      have hbb := rbit_any P.b k
      have hbc := rbit_any q.b k
      rw [hy] at hbq
      rw [hmP] at hbm
      rw [hbP] at hbb
      rw [hc] at hbc
      have HBQ := Lib.hid hbq
      have HBM := Lib.hid hbm
      have HBB := Lib.hid hbb
      have HBC := Lib.hid hbc
      clear hbq hbm hbb hbc hmP hbP
      rw [hPe] at hP
      go_wp2_with (with_reducible refine wpList_get (o := ⟨some 12, .load 23 (.tmp 11), _, _, _, _⟩) (by with_unfolding_all rfl) 23 (.tmp 11) (by with_unfolding_all rfl) gq 0 (by with_unfolding_all rfl) hQ (H q.m) (cells_take_m q) _ (by exact Tryd.underlying23) (by with_unfolding_all rfl) (by rw [H_length]; exact Tryd.szH) ?_)
      (with_reducible refine (HBQ.out _ hlt).mono ?_)
      rintro e w2 ⟨rfl, hb2⟩
      have hP2 := hP.next hb2 hP.lt
      have hQ2 := hQ.next hb2 hQ.lt
      have hR2 := hR.next hb2 hR.lt
      have hbel2 := hbel.trans (hb2.mono hbel.size)
      clear hP hQ hR hb2 hbel
      rcases y with _ | _
      · rw [show ((false.toNat : Nat) : Int) = 0 from rfl] at *
        have hPn : Blk w2 gp 25 (p.backTo q (k + 1)).cells := by rw [← Pat.backTo_skip (by rw [hy]; exact fun h => Bool.noConfusion h.1), hPe]; exact hP2
        have hzN : Hid (∀ j, j < k + 1 → q.m j = true → p.m j = true → p.b j = q.b j) := by
          have : ∀ j, j < k + 1 → q.m j = true → p.m j = true → p.b j = q.b j := fun j hj h1 h2 => by
            by_cases e : j = k
            · rw [e, hy] at h1; cases h1
            · exact HZ.out j (by omega) h1 h2
          exact this
        clear hP2 hy hm hb hc hPe
        go_wp2
        go_roundw
        case rel => exact ⟨k + 1, by omega, by go_num, hzN.out, hPn, hQ2, hR2, hbel2⟩
        case measure => simp [intOf]; omega
      · rw [show ((true.toNat : Nat) : Int) = 1 from rfl] at *
        go_wp2_with (with_reducible refine wpList_getg (o := ⟨some 18, .load 23 (.tmp 17), _, _, _, _⟩) (by with_unfolding_all rfl) 23 (.tmp 17) (by with_unfolding_all rfl) gp 0 (by with_unfolding_all rfl) hP2 (H P.m) (cells_take_m P) _ (by exact Tryd.underlying23) (by with_unfolding_all rfl) (by rw [H_length]; exact Tryd.szH) ?_)
        (with_reducible refine (HBM.out _ hlt).mono ?_)
        rintro e w3 ⟨rfl, hb3⟩
        replace hP2 := hP2.next hb3 hP2.lt
        replace hQ2 := hQ2.next hb3 hQ2.lt
        replace hR2 := hR2.next hb3 hR2.lt
        replace hbel2 := hbel2.trans (hb3.mono hbel2.size)
        clear hb3
        rcases m with _ | _
        · rw [show ((false.toNat : Nat) : Int) = 0 from rfl] at *
          have hPn : Blk w3 gp 25 (p.backTo q (k + 1)).cells := by rw [← Pat.backTo_skip (by rw [hm]; exact fun h => Bool.noConfusion h.2), hPe]; exact hP2
          have hzN : Hid (∀ j, j < k + 1 → q.m j = true → p.m j = true → p.b j = q.b j) := by
            have : ∀ j, j < k + 1 → q.m j = true → p.m j = true → p.b j = q.b j := fun j hj h1 h2 => by
              by_cases e : j = k
              · rw [e, hm] at h2; cases h2
              · exact HZ.out j (by omega) h1 h2
            exact this
          clear hP2 hy hm hb hc hPe
          go_wp2
          go_roundw
          case rel => exact ⟨k + 1, by omega, by go_num, hzN.out, hPn, hQ2, hR2, hbel2⟩
          case measure => simp [intOf]; omega
        · rw [show ((true.toNat : Nat) : Int) = 1 from rfl] at *
          obtain ⟨M, hM⟩ : ∃ M, upd P.m k false = M := ⟨_, rfl⟩
          obtain ⟨N, hN⟩ : ∃ N, upd P.b k false = N := ⟨_, rfl⟩
          have HN : Hid ((⟨M, N⟩ : Pat).cells = (p.backTo q (k + 1)).cells) := by
            have : (⟨M, N⟩ : Pat).cells = (p.backTo q (k + 1)).cells := by rw [← Pat.backTo_next hy hm, hPe, hM, hN]
            exact this
          have hsm := fun w => rset_any P.m k false w
          have hsb := fun w => rset_any P.b k false w
          rw [hM, show ((false.toNat : Nat) : Int) = 0 from rfl] at hsm
          rw [hN, show ((false.toNat : Nat) : Int) = 0 from rfl] at hsb
          have HSM := Lib.hid hsm
          have HSB := Lib.hid hsb
          have HM := Lib.hid hm
          have HB := Lib.hid hb
          have HC := Lib.hid hc
          have HY := Lib.hid hy
          clear hsm hsb hM hN hm hb hc hy hPe
          go_wp2
          have hrg : ∀ w', Below w3.heap.size w3 w' → Below w3.heap.size w3 w' ∧ w'.rangeAt gp 10 (H P.b) ∧ w'.rangeAt gq 10 (H q.b) := fun w' hw => ⟨hw, at_b (hP2.next hw hP2.lt), at_b (hQ2.next hw hQ2.lt)⟩
          have hun := Tryd.underlying23
          have hz2 : (Tryd.prog.info? 23).map (·.size) = some (H P.b).length := by rw [H_length]; exact Tryd.szH
          have hz3 : (Tryd.prog.info? 23).map (·.size) = some (H q.b).length := by rw [H_length]; exact Tryd.szH
          have HRG := Lib.hid hrg
          clear hrg
          have hdd := below_drew w3
          refine wp_region_held_drew (S := fun w' => Below w3.heap.size w3 w' ∧ w'.rangeAt gp 10 (H P.b) ∧ w'.rangeAt gq 10 (H q.b)) (by kernel_rfl) (HRG.out _ hdd) (fun hHeld => ?_)
          generalize w3.drew = wd at hdd hHeld ⊢
          refine wpAnyH_take (i := 0) (v := ?vt0) rfl (by kernel_rfl) (by kernel_rfl) (by kernel_rfl) (fun _ _ _ h => h) (Or.inl ⟨by rfl, ?yt0⟩) (by assumption) ?rt0
          case yt0 => intro w hSw; (try dsimp only at hSw); go_simp <;> (try with_reducible rfl)
          (try simp only [List.getElem_toArray, List.getElem_cons_zero, Act.put, List.setIfInBounds_toArray, List.set_cons_zero, List.set_cons_succ])
          refine' wpAnyH_take (i := 1) (v := _) rfl (by kernel_rfl) (by kernel_rfl) (by kernel_rfl) (fun _ _ _ h => h) (yieldsIf_load_mid (by rfl) _ _ (by rfl) _ _ (by rfl) _ _ ?St1 ?ut1 ?dt1 ?it1) (by assumption) ?rt1
          case St1 => exact (by intro w h; exact h.2.2)
          case ut1 => exact hun
          case dt1 => rfl
          case it1 => exact hz3
          (try simp only [List.getElem_toArray, List.getElem_cons_succ, List.getElem_cons_zero, Act.put, List.setIfInBounds_toArray, List.set_cons_zero, List.set_cons_succ])
          refine wpAnyH_take (i := 2) (v := ?vt2) rfl (by kernel_rfl) (by kernel_rfl) (by kernel_rfl) (fun _ _ _ h => h) (Or.inl ⟨by rfl, ?yt2⟩) (by assumption) ?rt2
          case yt2 => intro w hSw; (try dsimp only at hSw); go_simp <;> (try with_reducible rfl)
          (try simp only [List.getElem_toArray, List.getElem_cons_succ, List.getElem_cons_zero, Act.put, List.setIfInBounds_toArray, List.set_cons_zero, List.set_cons_succ])
          refine wpAnyH_take (i := 4) (v := ?vt4) rfl (by kernel_rfl) (by kernel_rfl) (by kernel_rfl) (fun _ _ _ h => h) (Or.inl ⟨by rfl, ?yt4⟩) (by assumption) ?rt4
          case yt4 => intro w hSw; (try dsimp only at hSw); go_simp <;> (try with_reducible rfl)
          (try simp only [List.getElem_toArray, List.getElem_cons_succ, List.getElem_cons_zero, Act.put, List.setIfInBounds_toArray, List.set_cons_zero, List.set_cons_succ])
          refine' wpAnyH_take (i := 5) (v := _) rfl (by kernel_rfl) (by kernel_rfl) (by kernel_rfl) (fun _ _ _ h => h) (yieldsIf_load_mid (by rfl) _ _ (by rfl) _ _ (by rfl) _ _ ?St5 ?ut5 ?dt5 ?it5) (by assumption) ?rt5
          case St5 => exact (by intro w h; exact h.2.1)
          case ut5 => exact hun
          case dt5 => rfl
          case it5 => exact hz2
          (try simp only [List.getElem_toArray, List.getElem_cons_succ, List.getElem_cons_zero, Act.put, List.setIfInBounds_toArray, List.set_cons_zero, List.set_cons_succ])
          refine wpAnyH_take (i := 6) (v := ?vt6) rfl (by kernel_rfl) (by kernel_rfl) (by kernel_rfl) (fun _ _ _ h => h) (Or.inl ⟨by rfl, ?yt6⟩) (by assumption) ?rt6
          case yt6 => intro w hSw; (try dsimp only at hSw); go_simp <;> (try with_reducible rfl)
          (try simp only [List.getElem_toArray, List.getElem_cons_succ, List.getElem_cons_zero, Act.put, List.setIfInBounds_toArray, List.set_cons_zero, List.set_cons_succ])
          refine wpAnyH_ready (rs := [3]) (by kernel_rfl) (by simp) ?_
          refine AllReadyH.cons rfl (fun K hK => ?_) AllReadyH.nil
          go_simp
          go_wp2_with fail
          (with_reducible refine (HBC.out _ hlt).mono ?_)
          rintro e wB ⟨rfl, hbB⟩
          have hkB := below_join hdd hbB
          refine hK.out _ _ (HRG.out _ hkB) (fun hHeld => ?_)
          clear hK K hdd hbB
          refine wpAnyH_ready (rs := [7]) (by kernel_rfl) (by simp) ?_
          refine AllReadyH.cons rfl (fun K hK => ?_) AllReadyH.nil
          go_simp
          go_wp2_with fail
          (with_reducible refine (HBB.out _ hlt).mono ?_)
          rintro e wC ⟨rfl, hbC⟩
          have hkC := below_join hkB hbC
          refine hK.out _ _ (HRG.out _ hkC) (fun hHeld => ?_)
          clear hK K hkB hbC
          have hP3 := hP2.next hkC hP2.lt
          have hQ3 := hQ2.next hkC hQ2.lt
          have hR3 := hR2.next hkC hR2.lt
          have hbel3 := hbel2.trans (hkC.mono hbel2.size)
          clear hP2 hQ2 hR2 hbel2
          by_cases hbc : c = b
          · subst hbc
            refine wpAnyH_take (i := 8) (v := ?vu8) rfl (by kernel_rfl) (by kernel_rfl) (by kernel_rfl) (fun _ _ _ h => h) (Or.inl ⟨by rfl, ?yu8⟩) (by assumption) ?ru8
            case yu8 => intro w hSw; (try dsimp only at hSw); go_simp <;> (try with_reducible rfl)
            (try simp only [List.getElem_toArray, List.getElem_cons_succ, List.getElem_cons_zero, Act.put, List.setIfInBounds_toArray, List.set_cons_zero, List.set_cons_succ])
            refine wpAnyH_done (by kernel_rfl) ?_ _
            have hzN : Hid (∀ j, j < k + 1 → q.m j = true → p.m j = true → p.b j = q.b j) := by
              have : ∀ j, j < k + 1 → q.m j = true → p.m j = true → p.b j = q.b j := fun j hj h1 h2 => by
                by_cases e : j = k
                · rw [e, HB.out, HC.out]
                · exact HZ.out j (by omega) h1 h2
              exact this
            clear hkC hun hz2 hz3 HRG hHeld
            go_wp2_with (with_reducible refine wpList_get (o := ⟨some 34, .load 23 (.tmp 33), _, _, _, _⟩) (by with_unfolding_all rfl) 23 (.tmp 33) (by with_unfolding_all rfl) gp 0 (by with_unfolding_all rfl) hP3 (H P.m) (cells_take_m P) _ (by exact Tryd.underlying23) (by with_unfolding_all rfl) (by rw [H_length]; exact Tryd.szH) ?_)
            (with_reducible refine (HSM.out _ hlt).mono ?_)
            rintro e w4 ⟨rfl, hb4⟩
            have hP4 := hP3.next hb4 hP3.lt
            have hQ4 := hQ3.next hb4 hQ3.lt
            have hR4 := hR3.next hb4 hR3.lt
            have hbel4 := hbel3.trans (hb4.mono hbel3.size)
            clear hP3 hQ3 hR3 hb4 hbel3
            go_wp2_with (with_reducible refine wpList_put (o := ⟨none, .store 23 (.tmp 37) (.tmp 36), _, _, _, _⟩) (by with_unfolding_all rfl) 23 (.tmp 37) (.tmp 36) (by with_unfolding_all rfl) gp 0 (by with_unfolding_all rfl) (.agg (H M).toArray) (by with_unfolding_all rfl) hP4 (H M) (by with_unfolding_all rfl) (by with_unfolding_all (rw [H_length]; exact Tryd.szH)) (by with_unfolding_all (rw [H_length, Pat.cells_length]; omega)) (by with_unfolding_all (exact H_one _)) ?_)
            intro w5 hu5 hP5
            rw [splice_m] at hP5
            have hQ5 := hQ4.upd hu5 (by omega)
            have hR5 := hR4.upd hu5 (by omega)
            have hbel5 := hbel4.trans (hu5.below (B := w.heap.size) hle)
            clear hP4 hQ4 hR4 hu5 hbel4
            go_wp2_with (with_reducible refine wpList_get (o := ⟨some 39, .load 23 (.tmp 38), _, _, _, _⟩) (by with_unfolding_all rfl) 23 (.tmp 38) (by with_unfolding_all rfl) gp 10 (by with_unfolding_all rfl) hP5 (H P.b) (cells_take_b ⟨M, P.b⟩) _ (by exact Tryd.underlying23) (by with_unfolding_all rfl) (by rw [H_length]; exact Tryd.szH) ?_)
            (with_reducible refine (HSB.out _ hlt).mono ?_)
            rintro e w6 ⟨rfl, hb6⟩
            have hP6 := hP5.next hb6 hP5.lt
            have hQ6 := hQ5.next hb6 hQ5.lt
            have hR6 := hR5.next hb6 hR5.lt
            have hbel6 := hbel5.trans (hb6.mono hbel5.size)
            clear hP5 hQ5 hR5 hb6 hbel5
            go_wp2_with (with_reducible refine wpList_put (o := ⟨none, .store 23 (.tmp 42) (.tmp 41), _, _, _, _⟩) (by with_unfolding_all rfl) 23 (.tmp 42) (.tmp 41) (by with_unfolding_all rfl) gp 10 (by with_unfolding_all rfl) (.agg (H N).toArray) (by with_unfolding_all rfl) hP6 (H N) (by with_unfolding_all rfl) (by with_unfolding_all (rw [H_length]; exact Tryd.szH)) (by with_unfolding_all (rw [H_length, Pat.cells_length]; omega)) (by with_unfolding_all (exact H_one _)) ?_)
            intro wz huz hPz
            rw [splice_b, HN.out] at hPz
            have hQz := hQ6.upd huz (by omega)
            have hRz := hR6.upd huz (by omega)
            have hbz := hbel6.trans (huz.below (B := w.heap.size) hle)
            clear hP6 hQ6 hR6 huz hbel6
            go_wp2
            go_roundw
            case rel => exact ⟨k + 1, by omega, by go_num, hzN.out, hPz, hQz, hRz, hbz⟩
            case measure => simp [intOf]; omega
          · have hne : ((c.toNat : Int) != (b.toNat : Int)) = true := bne_iff_ne.2 (toNat_ne hbc)
            have hno : Hid (¬ p.over q) := by
              have : ¬ p.over q := fun h => hbc (by rw [← HB.out, ← HC.out]; exact (Pat.over_iff.1 h k hlt HY.out HM.out).symm)
              exact this
            have hDf : Hid (D = false) := by
              have : D = false := by rw [← hD.out]; exact decide_eq_false hno.out
              exact this
            have hXe : Hid (X = .zero) := by
              have : X = .zero := by rw [← hX.out]; unfold Pat.backV; rw [if_neg hno.out]
              exact this
            clear hbc hno
            refine wpAnyH_take (i := 8) (v := ?vx8) rfl (by kernel_rfl) (by kernel_rfl) (by kernel_rfl) (fun _ _ _ h => h) (Or.inl ⟨by rfl, ?yx8⟩) (by assumption) ?rx8
            case yx8 => intro w hSw; (try dsimp only at hSw); go_simp <;> (try with_reducible rfl)
            (try simp only [List.getElem_toArray, List.getElem_cons_succ, List.getElem_cons_zero, Act.put, List.setIfInBounds_toArray, List.set_cons_zero, List.set_cons_succ])
            refine wpAnyH_done (by kernel_rfl) ?_ _
            go_wp2_with (first | (with_reducible refine wpList_build (o := ⟨some 32, .build 25 #[], _, _, _, _⟩) (by with_unfolding_all rfl) 25 #[] (by with_unfolding_all rfl) #[] (by with_unfolding_all rfl) (.agg Pat.zero.cells.toArray) (by with_unfolding_all exact fun w => run_buildP0 w) ?_) | (with_reducible refine wpList_put (o := ⟨none, .store 25 (.tmp 4) (.tmp 32), _, _, _, _⟩) (by with_unfolding_all rfl) 25 (.tmp 4) (.tmp 32) (by with_unfolding_all rfl) gr 0 (by with_unfolding_all rfl) (.agg Pat.zero.cells.toArray) (by with_unfolding_all rfl) hR3 Pat.zero.cells (by with_unfolding_all rfl) (by with_unfolding_all (rw [Pat.cells_length]; exact Tryd.szP)) (by with_unfolding_all (rw [Pat.cells_length]; omega)) (by with_unfolding_all (exact cells_one _)) ?_))
            intro w5 hu5 hR5
            rw [splice_all _ _ rfl, ← hXe.out] at hR5
            have hb5 := hbel3.trans (hu5.below (B := w.heap.size) (by omega))
            go_wp2
            exact bodyPost_ret (results_cell_two rfl _ _ gr _ _ _ _ _ rfl rfl hR5 Tryd.underlying25 rfl (by rw [List.size_toArray, Pat.cells_length]; exact Tryd.szP)) rfl ⟨by rw [hDf.out]; rfl, hb5⟩
    · obtain rfl : k = 160 := by omega
      have hov : Hid (p.over q) := by
        have : p.over q := Pat.over_iff.2 HZ.out
        exact this
      have hDf : Hid (D = true) := by
        have : D = true := by rw [← hD.out]; exact decide_eq_true hov.out
        exact this
      have hXe : Hid (X = p.back q) := by
        have : X = p.back q := by rw [← hX.out]; unfold Pat.backV; rw [if_pos hov.out]
        exact this
      have hPx : Blk wr gp 25 X.cells := by rw [hXe.out, ← Pat.backTo_all (q := q) HP.out]; exact hP
      clear hP hk hov hXe
      go_wp2_with (first | (with_reducible refine wpList_get (o := ⟨some 43, .load 25 (.tmp 2), _, _, _, _⟩) (by with_unfolding_all rfl) 25 (.tmp 2) (by with_unfolding_all rfl) gp 0 (by with_unfolding_all rfl) hPx X.cells (cs_all _) _ (by exact Tryd.underlying25) (by with_unfolding_all rfl) (by rw [Pat.cells_length]; exact Tryd.szP) ?_) | (with_reducible refine wpList_put (o := ⟨none, .store 25 (.tmp 4) (.tmp 43), _, _, _, _⟩) (by with_unfolding_all rfl) 25 (.tmp 4) (.tmp 43) (by with_unfolding_all rfl) gr 0 (by with_unfolding_all rfl) (.agg X.cells.toArray) (by with_unfolding_all rfl) hR X.cells (by with_unfolding_all rfl) (by with_unfolding_all (rw [Pat.cells_length]; exact Tryd.szP)) (by with_unfolding_all (rw [Pat.cells_length, Pat.cells_length]; omega)) (by with_unfolding_all (exact cells_one _)) ?_))
      intro w5 hu5 hR5
      rw [splice_all _ _ (by rw [Pat.cells_length, Pat.cells_length])] at hR5
      have hb5 := hbel.trans (hu5.below (B := w.heap.size) (by omega))
      go_wp2
      exact bodyPost_ret (results_cell_two rfl _ _ gr _ _ _ _ _ rfl rfl hR5 Tryd.underlying25 rfl (by rw [List.size_toArray, Pat.cells_length]; exact Tryd.szP)) rfl ⟨by rw [hDf.out]; rfl, hb5⟩
end Go.Proofs.YtbldnhpbmfmepaaDoor
