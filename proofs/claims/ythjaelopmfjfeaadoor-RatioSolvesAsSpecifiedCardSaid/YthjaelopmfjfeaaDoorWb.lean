/-
  Contracts of the walks over the closures of divide and subtract. Conditions: the ratios lie there.
-/
import Derived.Test.YthjaelopmfjfeaaDoorWa
namespace Go.Proofs.YthjaelopmfjfeaaDoor
set_option linter.unusedVariables false
set_option linter.unusedSimpArgs false
open Go.RowKit

theorem range_below {w w' : World} {g o : Nat} {l : List Value} (h : w.rangeAt g o l) (hb : Below w.heap.size w w') : w'.rangeAt g o l := fun q u hu => by rw [hb.cell (World.block_lt_of_cell? w _ (h q u hu))]; exact h q u hu
theorem cellq_below {w w' : World} (hb : Below w.heap.size w w') {a : Addr} {v : Value} (hc : w.cell? a = some v) : w'.cell? a = some v := (hb.cell (World.block_lt_of_cell? w a hc)).trans hc
theorem Tryd.szQl (l : List Value) (h : l.length = 2) : (Tryd.prog.info? 23).map (·.size) = some l.length := by rw [h]; exact Tryd.szQ
set_option maxRecDepth 100000 in
set_option maxHeartbeats 3200000 in
theorem divide1_any (gr gb g o k n c : Nat) (x d : Rat) (w : World) (hx : fits x) (hd : fits d) (hk : k < n)
    (h1 : w.cell? ⟨gr, 0, none⟩ = some (.slice (some ⟨g, o, none⟩) n c)) (h2 : w.rangeAt g (o + k * 2) (qC x)) (h3 : w.rangeAt gb 0 (qC d)) :
    Calls Tryd.prog 78 #[.int .i64 (k : Int), .pointer (some ⟨gr, 0, none⟩), .pointer (some ⟨gb, 0, none⟩)] w fun e w' => e = divE x d ∧ Below w.heap.size w w' := by
  obtain ⟨N, D, q, hE⟩ := divE_form x d
  have HDV := Lib.hid (fun w => div_any x d w hx hd)
  rw [hE] at HDV ⊢
  obtain ⟨X, hX⟩ : ∃ X, qC x = X := ⟨_, rfl⟩
  obtain ⟨Y, hY⟩ : ∃ X, qC d = X := ⟨_, rfl⟩
  have hXl : X.length = 2 := by rw [← hX]; rfl
  have hYl : Y.length = 2 := by rw [← hY]; rfl
  have hzX := Tryd.szQl X hXl
  have hzY := Tryd.szQl Y hYl
  rw [hX, hY] at HDV
  rw [hX] at h2
  rw [hY] at h3
  have hkk : (0 : Int) ≤ (k : Int) := by omega
  have hkn : (k : Int) < (n : Int) := by omega
  have HS := Lib.hid (show ∀ w', Below w.heap.size w w' → w'.cell? ⟨gr, 0, none⟩ = some (.slice (some ⟨g, o, none⟩) n c) ∧ w'.rangeAt g (o + k * 2) X ∧ w'.rangeAt gb 0 Y from fun w' hb => ⟨cellq_below hb h1, range_below h2 hb, range_below h3 hb⟩)
  clear hX hY hXl hYl hE hx hd h1 h2 h3
  go_enter Tryd.func78, Tryd.ntmps78
  go_wp2_with (with_reducible refine wpList_alloc (o := ⟨some 4, .alloc 23, _, _, _, _⟩) (by with_unfolding_all rfl) 23 (by with_unfolding_all rfl) (.agg zC.toArray) zC (by exact Tryd.zeroQ) (by with_unfolding_all rfl) ?_)
  intro g4 w1 hg4 hs1 hb1 hC1
  have hl4 : w.heap.size ≤ g4 := Nat.le_of_eq hg4.out.symm
  have hbe : Below w.heap.size w w1 := hb1.mono hl4
  clear hb1 hs1 hg4
  go_wp2
  have hdd := below_drew w1
  have hbe2 := below_join hbe hdd
  refine wp_region_held_drew (S := fun w' => w'.cell? ⟨gr, 0, none⟩ = some (.slice (some ⟨g, o, none⟩) n c) ∧ w'.rangeAt g (o + k * 2) X ∧ w'.rangeAt gb 0 Y) (by kernel_rfl) (HS.out _ hbe2) (fun hHeld => ?_)
  generalize w1.drew = wd at hdd hHeld hbe2 ⊢
  have hC2 := hC1.next hdd hC1.lt
  refine wpAnyH_take (i := 0) (v := ?vv0) rfl (by kernel_rfl) (by kernel_rfl) (by kernel_rfl) (fun _ _ _ h => h) (Or.inl ⟨by rfl, ?yv0⟩) (by assumption) ?rv0
  case yv0 => intro w hSw; (try dsimp only at hSw); go_simp <;> (try with_reducible rfl)
  (try simp only [List.getElem_toArray, List.getElem_cons_zero, Act.put, List.setIfInBounds_toArray, List.set_cons_zero, List.set_cons_succ])
  refine wpAnyH_take (i := 1) (v := ?vv1) rfl (by kernel_rfl) (by kernel_rfl) (by kernel_rfl) (fun _ _ _ h => h) (Or.inl ⟨by rfl, ?yv1⟩) (by assumption) ?rv1
  case yv1 => intro w hSw; (try dsimp only at hSw); go_simp <;> (try with_reducible rfl)
  (try simp only [List.getElem_toArray, List.getElem_cons_succ, List.getElem_cons_zero, Act.put, List.setIfInBounds_toArray, List.set_cons_zero, List.set_cons_succ])
  refine wpAnyH_take (i := 2) (v := ?vv2) rfl (by kernel_rfl) (by kernel_rfl) (by kernel_rfl) (fun _ _ _ h => h) (Or.inl ⟨by rfl, ?yv2⟩) (by assumption) ?rv2
  case yv2 => intro w hSw; (try dsimp only at hSw); go_simp <;> (try with_reducible rfl)
  (try simp only [List.getElem_toArray, List.getElem_cons_succ, List.getElem_cons_zero, Act.put, List.setIfInBounds_toArray, List.set_cons_zero, List.set_cons_succ])
  refine' wpAnyH_take (i := 3) (v := _) rfl (by kernel_rfl) (by kernel_rfl) (by kernel_rfl) (fun _ _ _ h => h) (yieldsIf_load_mid (by rfl) _ _ (by rfl) _ _ (by rfl) _ _ ?Sv3 ?uv3 ?dv3 ?iv3) (by assumption) ?rv3
  case Sv3 => exact (by intro w h; exact h.2.1)
  case uv3 => exact Tryd.underlying23
  case dv3 => rfl
  case iv3 => exact hzX
  (try simp only [List.getElem_toArray, List.getElem_cons_succ, List.getElem_cons_zero, Act.put, List.setIfInBounds_toArray, List.set_cons_zero, List.set_cons_succ])
  refine' wpAnyH_take (i := 4) (v := _) rfl (by kernel_rfl) (by kernel_rfl) (by kernel_rfl) (fun _ _ _ h => h) (yieldsIf_load_mid (by rfl) _ _ (by rfl) _ _ (by rfl) _ _ ?Sv4 ?uv4 ?dv4 ?iv4) (by assumption) ?rv4
  case Sv4 => exact (by intro w h; exact h.2.2)
  case uv4 => exact Tryd.underlying23
  case dv4 => rfl
  case iv4 => exact hzY
  (try simp only [List.getElem_toArray, List.getElem_cons_succ, List.getElem_cons_zero, Act.put, List.setIfInBounds_toArray, List.set_cons_zero, List.set_cons_succ])
  refine wpAnyH_ready (rs := [5]) (by kernel_rfl) (by simp) ?_
  refine AllReadyH.cons rfl (fun K hK => ?_) AllReadyH.nil
  go_simp
  go_wp2_with fail
  (with_reducible refine (HDV.out _).mono ?_)
  rintro e w3 ⟨rfl, hb3⟩
  have hbe3 := below_join hbe2 hb3
  have hC3 := hC2.next hb3 hC2.lt
  refine hK.out _ _ (HS.out _ hbe3) (fun hHeld => ?_)
  clear hK K hb3 hC1 hC2 hdd
  refine wpAnyH_take (i := 6) (v := ?vv6) rfl (by kernel_rfl) (by kernel_rfl) (by kernel_rfl) (fun _ _ _ h => h) (Or.inl ⟨by rfl, ?yv6⟩) (by assumption) ?rv6
  case yv6 => intro w hSw; (try dsimp only at hSw); go_simp <;> (try with_reducible rfl)
  (try simp only [List.getElem_toArray, List.getElem_cons_succ, List.getElem_cons_zero, Act.put, List.setIfInBounds_toArray, List.set_cons_zero, List.set_cons_succ])
  refine wpAnyH_take (i := 7) (v := ?vv7) rfl (by kernel_rfl) (by kernel_rfl) (by kernel_rfl) (fun _ _ _ h => h) (Or.inl ⟨by rfl, ?yv7⟩) (by assumption) ?rv7
  case yv7 => intro w hSw; (try dsimp only at hSw); go_simp <;> (try with_reducible rfl)
  (try simp only [List.getElem_toArray, List.getElem_cons_succ, List.getElem_cons_zero, Act.put, List.setIfInBounds_toArray, List.set_cons_zero, List.set_cons_succ])
  refine wpAnyH_ready (rs := [8]) (by kernel_rfl) (by simp) ?_
  refine AllReadyH.cons rfl (fun K hK => ?_) AllReadyH.nil
  rw [if_pos (by rfl)]
  refine wp_put 23 (.tmp 4) (.tmp 12) rfl g4 0 rfl (.agg [Value.int .i64 N, Value.int .i64 D].toArray) rfl hC3 [Value.int .i64 N, Value.int .i64 D] rfl Tryd.szQ (Nat.le_refl 2) (int_one N D) ?_
  intro w4 hu4 hC4
  rw [splice_all _ _ (by rfl)] at hC4
  have hbe4 := hbe3.trans (hu4.below (B := w.heap.size) hl4)
  refine hK.out _ _ (HS.out _ hbe4) (fun hHeld => ?_)
  clear hK K hu4
  refine wpAnyH_take (i := 9) (v := ?vv9) rfl (by kernel_rfl) (by kernel_rfl) (by kernel_rfl) (fun _ _ _ h => h) (Or.inl ⟨by rfl, ?yv9⟩) (by assumption) ?rv9
  case yv9 => intro w hSw; (try dsimp only at hSw); go_simp <;> (try with_reducible rfl)
  (try simp only [List.getElem_toArray, List.getElem_cons_succ, List.getElem_cons_zero, Act.put, List.setIfInBounds_toArray, List.set_cons_zero, List.set_cons_succ])
  refine wpAnyH_done (by kernel_rfl) ?_ _
  go_wp2
  exact bodyPost_ret (results_cell_two rfl _ _ g4 _ _ _ _ _ rfl rfl hC4 Tryd.underlying23 rfl Tryd.szQ) rfl ⟨by rfl, hbe4⟩
/-- An element minus a product. -/
def subE (t o x : Rat) : Ending := if fits (t * o) then ansQ (x - t * o) else zret 17
theorem subE_form (t o x : Rat) : ∃ N D k : Int, subE t o x = .returned (.tuple #[.agg #[.int .i64 N, .int .i64 D], .int .i64 k]) := by
  unfold subE
  split
  · exact ansQ_form _
  · exact ⟨_, _, _, rfl⟩
theorem ansQ_two (p : Rat) : ∃ N D k : Int, ansQ p = .returned (.tuple #[.agg #[.int .i64 N, .int .i64 D], .int .i64 k]) ∧ ((fits p ∧ k = 0 ∧ N = p.num ∧ D = (p.den : Int)) ∨ (¬ fits p ∧ k = 17)) := by
  unfold ansQ
  split
  next h => exact ⟨_, _, _, rfl, .inl ⟨h, rfl, rfl, rfl⟩⟩
  next h => exact ⟨_, _, _, rfl, .inr ⟨h, rfl⟩⟩
set_option maxRecDepth 100000 in
set_option maxHeartbeats 3200000 in
theorem subtract1_any (gt go gr ga g f k n m c e : Nat) (t o x : Rat) (w : World) (ht : fits t) (ho : fits o) (hx : fits x) (hk : k < n) (hkm : k < m)
    (h0 : w.rangeAt gt 0 (qC t)) (h1 : w.cell? ⟨go, 0, none⟩ = some (.slice (some ⟨ga, 0, none⟩) m e)) (h2 : w.rangeAt ga (k * 2) (qC o)) (h3 : w.cell? ⟨gr, 0, none⟩ = some (.slice (some ⟨g, f, none⟩) n c)) (h4 : w.rangeAt g (f + k * 2) (qC x)) :
    Calls Tryd.prog 90 #[.int .i64 (k : Int), .pointer (some ⟨gt, 0, none⟩), .pointer (some ⟨go, 0, none⟩), .pointer (some ⟨gr, 0, none⟩)] w fun e w' => e = subE t o x ∧ Below w.heap.size w w' := by
  obtain ⟨N, D, q, hE, hq⟩ := ansQ_two (t * o)
  have HMU := Lib.hid (fun w => mul_any t o w ht ho)
  rw [hE] at HMU
  have HSB := Lib.hid (fun w (h : fits (t * o)) => sub_any x (t * o) w hx h)
  obtain ⟨N2, D2, q2, hE2⟩ := subE_form t o x
  have HSE : Hid ((fits (t * o) ∧ q = 0 → ansQ (x - t * o) = .returned (.tuple #[.agg #[.int .i64 N2, .int .i64 D2], .int .i64 q2])) ∧ (¬ fits (t * o) → N2 = 0 ∧ D2 = 0 ∧ q2 = 17)) := by
    have : (fits (t * o) ∧ q = 0 → ansQ (x - t * o) = .returned (.tuple #[.agg #[.int .i64 N2, .int .i64 D2], .int .i64 q2])) ∧ (¬ fits (t * o) → N2 = 0 ∧ D2 = 0 ∧ q2 = 17) := by
      refine ⟨fun h => ?_, fun h => ?_⟩
      · unfold subE at hE2; rw [if_pos h.1] at hE2; exact hE2
      · unfold subE zret at hE2
        rw [if_neg h] at hE2
        injection hE2 with hE2
        injection hE2 with hE2
        simp [zC] at hE2
        exact ⟨hE2.1.1.symm, hE2.1.2.symm, hE2.2.symm⟩
    exact this
  rw [hE2]
  obtain ⟨P, hP⟩ : ∃ P, t * o = P := ⟨_, rfl⟩
  rw [hP] at HSB HSE hq
  have HQ := Lib.hid hq
  obtain ⟨T, hT⟩ : ∃ X, qC t = X := ⟨_, rfl⟩
  obtain ⟨Y, hY⟩ : ∃ X, qC o = X := ⟨_, rfl⟩
  obtain ⟨X, hX⟩ : ∃ X, qC x = X := ⟨_, rfl⟩
  have hTl : T.length = 2 := by rw [← hT]; rfl
  have hYl : Y.length = 2 := by rw [← hY]; rfl
  have hXl : X.length = 2 := by rw [← hX]; rfl
  have hzT := Tryd.szQl T hTl
  have hzY := Tryd.szQl Y hYl
  have hzX := Tryd.szQl X hXl
  rw [hT, hY] at HMU
  rw [hX] at HSB
  rw [hT] at h0
  rw [hY] at h2
  rw [hX] at h4
  have hkk : (0 : Int) ≤ (k : Int) := by omega
  have hkn : (k : Int) < (n : Int) := by omega
  have hkm' : (k : Int) < (m : Int) := by omega
  have HS := Lib.hid (show ∀ w', Below w.heap.size w w' → w'.rangeAt gt 0 T ∧ w'.cell? ⟨go, 0, none⟩ = some (.slice (some ⟨ga, 0, none⟩) m e) ∧ w'.rangeAt ga (k * 2) Y from fun w' hb => ⟨range_below h0 hb, cellq_below hb h1, range_below h2 hb⟩)
  have HS2 := Lib.hid (show ∀ w', Below w.heap.size w w' → w'.cell? ⟨gr, 0, none⟩ = some (.slice (some ⟨g, f, none⟩) n c) ∧ w'.rangeAt g (f + k * 2) X from fun w' hb => ⟨cellq_below hb h3, range_below h4 hb⟩)
  clear hT hY hX hTl hYl hXl hE hE2 hP hq ht ho hx h0 h1 h2 h3 h4
  go_enter Tryd.func90, Tryd.ntmps90
  go_wp2_with (with_reducible refine wpList_alloc (o := ⟨some 5, .alloc 23, _, _, _, _⟩) (by with_unfolding_all rfl) 23 (by with_unfolding_all rfl) (.agg zC.toArray) zC (by exact Tryd.zeroQ) (by with_unfolding_all rfl) ?_)
  intro g5 w1 hg5 hs1 hb1 hC1
  have hl5 : w.heap.size ≤ g5 := Nat.le_of_eq hg5.out.symm
  have hbe : Below w.heap.size w w1 := hb1.mono hl5
  clear hb1 hs1 hg5
  go_wp2
  have hdd := below_drew w1
  have hbe2 := below_join hbe hdd
  have hC2 := hC1.next hdd hC1.lt
  refine wp_region_held_drew (S := fun w' => w'.rangeAt gt 0 T ∧ w'.cell? ⟨go, 0, none⟩ = some (.slice (some ⟨ga, 0, none⟩) m e) ∧ w'.rangeAt ga (k * 2) Y) (by kernel_rfl) (HS.out _ hbe2) (fun hHeld => ?_)
  generalize w1.drew = wd at hdd hHeld hbe2 hC2 ⊢
  clear hC1 hdd hbe
  refine' wpAnyH_take (i := 0) (v := _) rfl (by kernel_rfl) (by kernel_rfl) (by kernel_rfl) (fun _ _ _ h => h) (yieldsIf_load_mid (by rfl) _ _ (by rfl) _ _ (by rfl) _ _ ?Sv0 ?uv0 ?dv0 ?iv0) (by assumption) ?rv0
  case Sv0 => exact (by intro w h; exact h.1)
  case uv0 => exact Tryd.underlying23
  case dv0 => rfl
  case iv0 => exact hzT
  (try simp only [List.getElem_toArray, List.getElem_cons_zero, Act.put, List.setIfInBounds_toArray, List.set_cons_zero, List.set_cons_succ])
  refine wpAnyH_take (i := 1) (v := ?vv1) rfl (by kernel_rfl) (by kernel_rfl) (by kernel_rfl) (fun _ _ _ h => h) (Or.inl ⟨by rfl, ?yv1⟩) (by assumption) ?rv1
  case yv1 => intro w hSw; (try dsimp only at hSw); go_simp <;> (try with_reducible rfl)
  (try simp only [List.getElem_toArray, List.getElem_cons_succ, List.getElem_cons_zero, Act.put, List.setIfInBounds_toArray, List.set_cons_zero, List.set_cons_succ])
  refine wpAnyH_take (i := 2) (v := ?vv2) rfl (by kernel_rfl) (by kernel_rfl) (by kernel_rfl) (fun _ _ _ h => h) (Or.inl ⟨by rfl, ?yv2⟩) (by assumption) ?rv2
  case yv2 => intro w hSw; (try dsimp only at hSw); go_simp <;> (try with_reducible rfl)
  (try simp only [List.getElem_toArray, List.getElem_cons_succ, List.getElem_cons_zero, Act.put, List.setIfInBounds_toArray, List.set_cons_zero, List.set_cons_succ])
  refine wpAnyH_take (i := 3) (v := ?vv3) rfl (by kernel_rfl) (by kernel_rfl) (by kernel_rfl) (fun _ _ _ h => h) (Or.inl ⟨by rfl, ?yv3⟩) (by assumption) ?rv3
  case yv3 => intro w hSw; (try dsimp only at hSw); go_simp <;> (try with_reducible rfl)
  (try simp only [List.getElem_toArray, List.getElem_cons_succ, List.getElem_cons_zero, Act.put, List.setIfInBounds_toArray, List.set_cons_zero, List.set_cons_succ])
  refine' wpAnyH_take (i := 4) (v := _) rfl (by kernel_rfl) (by kernel_rfl) (by kernel_rfl) (fun _ _ _ h => h) (yieldsIf_load_mid (by rfl) _ _ (by rfl) _ _ (by rfl) _ _ ?Sv4 ?uv4 ?dv4 ?iv4) (by assumption) ?rv4
  case Sv4 => exact (by intro w h; exact h.2.2)
  case uv4 => exact Tryd.underlying23
  case dv4 => rfl
  case iv4 => exact hzY
  (try simp only [List.getElem_toArray, List.getElem_cons_succ, List.getElem_cons_zero, Act.put, List.setIfInBounds_toArray, List.set_cons_zero, List.set_cons_succ])
  refine wpAnyH_ready (rs := [5, 9]) (by kernel_rfl) (by simp) ?_
  refine AllReadyH.cons rfl (fun K hK => ?_) (AllReadyH.cons rfl (fun K hK => ?_) AllReadyH.nil)
  · go_simp
    go_wp2_with fail
    (with_reducible refine (HMU.out _).mono ?_)
    rintro e w3 ⟨rfl, hb3⟩
    have hbe3 := below_join hbe2 hb3
    have hC3 := hC2.next hb3 hC2.lt
    refine hK.out _ _ (HS.out _ hbe3) (fun hHeld => ?_)
    clear hK K hb3 hC2 hbe2
    refine wpAnyH_take (i := 6) (v := ?va6) rfl (by kernel_rfl) (by kernel_rfl) (by kernel_rfl) (fun _ _ _ h => h) (Or.inl ⟨by rfl, ?ya6⟩) (by assumption) ?ra6
    case ya6 => intro w hSw; (try dsimp only at hSw); go_simp <;> (try with_reducible rfl)
    (try simp only [List.getElem_toArray, List.getElem_cons_succ, List.getElem_cons_zero, Act.put, List.setIfInBounds_toArray, List.set_cons_zero, List.set_cons_succ])
    refine wpAnyH_take (i := 7) (v := ?va7) rfl (by kernel_rfl) (by kernel_rfl) (by kernel_rfl) (fun _ _ _ h => h) (Or.inl ⟨by rfl, ?ya7⟩) (by assumption) ?ra7
    case ya7 => intro w hSw; (try dsimp only at hSw); go_simp <;> (try with_reducible rfl)
    (try simp only [List.getElem_toArray, List.getElem_cons_succ, List.getElem_cons_zero, Act.put, List.setIfInBounds_toArray, List.set_cons_zero, List.set_cons_succ])
    refine wpAnyH_take (i := 8) (v := ?va8) rfl (by kernel_rfl) (by kernel_rfl) (by kernel_rfl) (fun _ _ _ h => h) (Or.inl ⟨by rfl, ?ya8⟩) (by assumption) ?ra8
    case ya8 => intro w hSw; (try dsimp only at hSw); go_simp <;> (try with_reducible rfl)
    (try simp only [List.getElem_toArray, List.getElem_cons_succ, List.getElem_cons_zero, Act.put, List.setIfInBounds_toArray, List.set_cons_zero, List.set_cons_succ])
    refine wpAnyH_ready (rs := [9]) (by kernel_rfl) (by simp) ?_
    refine AllReadyH.cons rfl (fun K hK => ?_) AllReadyH.nil
    rw [if_pos (by rfl)]
    refine wp_allocz 23 rfl (.agg zC.toArray) zC Tryd.zeroQ rfl ?_
    intro g7 w5 hg7 hs5 hb5 hP5
    have hb5 := hb5.mono (Nat.le_of_eq hg7.out.symm)
    have h57 : g5 < g7 := by have := hC3.lt; have := hg7.out; omega
    have hC5 := hC3.next hb5 hC3.lt
    have hbe5 := below_join hbe3 hb5
    refine hK.out _ _ (HS.out _ hbe5) (fun hHeld => ?_)
    clear hK K hb5 hC3 hbe3 hg7 hs5
    refine wpAnyH_ready (rs := [10]) (by kernel_rfl) (by simp) ?_
    refine AllReadyH.cons rfl (fun K hK => ?_) AllReadyH.nil
    rw [if_pos (by rfl)]
    refine wp_put 23 (.tmp 7) (.tmp 16) rfl g7 0 rfl (.agg [Value.int .i64 N, Value.int .i64 D].toArray) rfl hP5 [Value.int .i64 N, Value.int .i64 D] rfl Tryd.szQ (Nat.le_refl 2) (int_one N D) ?_
    intro w6 hu6 hP6
    rw [splice_all _ _ (by rfl)] at hP6
    have hC6 := hC5.upd hu6 (by omega)
    have hbe6 := hbe5.trans (hu6.below (B := w.heap.size) (by omega))
    refine hK.out _ _ (HS.out _ hbe6) (fun hHeld => ?_)
    clear hK K hu6 hC5 hP5 hbe5
    refine wpAnyH_take (i := 11) (v := ?va11) rfl (by kernel_rfl) (by kernel_rfl) (by kernel_rfl) (fun _ _ _ h => h) (Or.inl ⟨by rfl, ?ya11⟩) (by assumption) ?ra11
    case ya11 => intro w hSw; (try dsimp only at hSw); go_simp <;> (try with_reducible rfl)
    (try simp only [List.getElem_toArray, List.getElem_cons_succ, List.getElem_cons_zero, Act.put, List.setIfInBounds_toArray, List.set_cons_zero, List.set_cons_succ])
    refine wpAnyH_done (by kernel_rfl) ?_ _
    clear hHeld
    rcases HQ.out with ⟨hf, rfl, rfl, rfl⟩ | ⟨hf, rfl⟩
    · have HSB2 := HSB.out
      have HS3 := Lib.hid (fun w => HSB.out w hf)
      rw [HSE.out.1 ⟨hf, rfl⟩] at HS3
      have hPC : [Value.int .i64 P.num, Value.int .i64 (P.den : Int)] = qC P := rfl
      rw [hPC] at hP6
      obtain ⟨Z, hZ⟩ : ∃ Z, qC P = Z := ⟨_, rfl⟩
      have hzZ : (Tryd.prog.info? 23).map (·.size) = some Z.length := by rw [← hZ]; exact Tryd.szQ
      rw [hZ] at hP6 HS3
      clear HSB2 HSB hPC hZ hf
      go_wp2
      have hdd := below_drew w6
      have hbe7 := below_join hbe6 hdd
      have hC7 := hC6.next hdd hC6.lt
      have HP := Lib.hid (show ∀ w', Below w6.heap.size w6 w' → w'.rangeAt g7 0 Z from fun w' hb => blk_range (hP6.next hb hP6.lt))
      refine wp_region_held_drew (S := fun w' => w'.cell? ⟨gr, 0, none⟩ = some (.slice (some ⟨g, f, none⟩) n c) ∧ w'.rangeAt g (f + k * 2) X ∧ w'.rangeAt g7 0 Z) (by kernel_rfl) ⟨(HS2.out _ hbe7).1, (HS2.out _ hbe7).2, HP.out _ hdd⟩ (fun hHeld => ?_)
      generalize w6.drew = wd at hdd hHeld hbe7 hC7 ⊢
      refine wpAnyH_take (i := 0) (v := ?vya0) rfl (by kernel_rfl) (by kernel_rfl) (by kernel_rfl) (fun _ _ _ h => h) (Or.inl ⟨by rfl, ?yya0⟩) (by assumption) ?rya0
      case yya0 => intro w hSw; (try dsimp only at hSw); go_simp <;> (try with_reducible rfl)
      (try simp only [List.getElem_toArray, List.getElem_cons_zero, Act.put, List.setIfInBounds_toArray, List.set_cons_zero, List.set_cons_succ])
      refine wpAnyH_take (i := 1) (v := ?vya1) rfl (by kernel_rfl) (by kernel_rfl) (by kernel_rfl) (fun _ _ _ h => h) (Or.inl ⟨by rfl, ?yya1⟩) (by assumption) ?rya1
      case yya1 => intro w hSw; (try dsimp only at hSw); go_simp <;> (try with_reducible rfl)
      (try simp only [List.getElem_toArray, List.getElem_cons_succ, List.getElem_cons_zero, Act.put, List.setIfInBounds_toArray, List.set_cons_zero, List.set_cons_succ])
      refine wpAnyH_take (i := 2) (v := ?vya2) rfl (by kernel_rfl) (by kernel_rfl) (by kernel_rfl) (fun _ _ _ h => h) (Or.inl ⟨by rfl, ?yya2⟩) (by assumption) ?rya2
      case yya2 => intro w hSw; (try dsimp only at hSw); go_simp <;> (try with_reducible rfl)
      (try simp only [List.getElem_toArray, List.getElem_cons_succ, List.getElem_cons_zero, Act.put, List.setIfInBounds_toArray, List.set_cons_zero, List.set_cons_succ])
      refine' wpAnyH_take (i := 3) (v := _) rfl (by kernel_rfl) (by kernel_rfl) (by kernel_rfl) (fun _ _ _ h => h) (yieldsIf_load_mid (by rfl) _ _ (by rfl) _ _ (by rfl) _ _ ?Sya3 ?uya3 ?dya3 ?iya3) (by assumption) ?rya3
      case Sya3 => exact (by intro w h; exact h.2.1)
      case uya3 => exact Tryd.underlying23
      case dya3 => rfl
      case iya3 => exact hzX
      (try simp only [List.getElem_toArray, List.getElem_cons_succ, List.getElem_cons_zero, Act.put, List.setIfInBounds_toArray, List.set_cons_zero, List.set_cons_succ])
      refine' wpAnyH_take (i := 4) (v := _) rfl (by kernel_rfl) (by kernel_rfl) (by kernel_rfl) (fun _ _ _ h => h) (yieldsIf_load_mid (by rfl) _ _ (by rfl) _ _ (by rfl) _ _ ?Sya4 ?uya4 ?dya4 ?iya4) (by assumption) ?rya4
      case Sya4 => exact (by intro w h; exact h.2.2)
      case uya4 => exact Tryd.underlying23
      case dya4 => rfl
      case iya4 => exact hzZ
      (try simp only [List.getElem_toArray, List.getElem_cons_succ, List.getElem_cons_zero, Act.put, List.setIfInBounds_toArray, List.set_cons_zero, List.set_cons_succ])
      refine wpAnyH_ready (rs := [5]) (by kernel_rfl) (by simp) ?_
      refine AllReadyH.cons rfl (fun K hK => ?_) AllReadyH.nil
      go_simp
      go_wp2_with fail
      (with_reducible refine (HS3.out _).mono ?_)
      rintro e w8 ⟨rfl, hb8⟩
      have hbe8 := below_join hbe7 hb8
      have hdd8 := below_join hdd hb8
      have hC8 := hC7.next hb8 hC7.lt
      refine hK.out _ _ ⟨(HS2.out _ hbe8).1, (HS2.out _ hbe8).2, HP.out _ hdd8⟩ (fun hHeld => ?_)
      clear hK K hb8 hC7 hbe7
      refine wpAnyH_take (i := 6) (v := ?vya6) rfl (by kernel_rfl) (by kernel_rfl) (by kernel_rfl) (fun _ _ _ h => h) (Or.inl ⟨by rfl, ?yya6⟩) (by assumption) ?rya6
      case yya6 => intro w hSw; (try dsimp only at hSw); go_simp <;> (try with_reducible rfl)
      (try simp only [List.getElem_toArray, List.getElem_cons_succ, List.getElem_cons_zero, Act.put, List.setIfInBounds_toArray, List.set_cons_zero, List.set_cons_succ])
      refine wpAnyH_take (i := 7) (v := ?vya7) rfl (by kernel_rfl) (by kernel_rfl) (by kernel_rfl) (fun _ _ _ h => h) (Or.inl ⟨by rfl, ?yya7⟩) (by assumption) ?rya7
      case yya7 => intro w hSw; (try dsimp only at hSw); go_simp <;> (try with_reducible rfl)
      (try simp only [List.getElem_toArray, List.getElem_cons_succ, List.getElem_cons_zero, Act.put, List.setIfInBounds_toArray, List.set_cons_zero, List.set_cons_succ])
      refine wpAnyH_ready (rs := [8]) (by kernel_rfl) (by simp) ?_
      refine AllReadyH.cons rfl (fun K hK => ?_) AllReadyH.nil
      rw [if_pos (by rfl)]
      refine wp_put 23 (.tmp 5) (.tmp 28) rfl g5 0 rfl (.agg [Value.int .i64 N2, Value.int .i64 D2].toArray) rfl hC8 [Value.int .i64 N2, Value.int .i64 D2] rfl Tryd.szQ (Nat.le_refl 2) (int_one N2 D2) ?_
      intro w9 hu9 hC9
      rw [splice_all _ _ (by rfl)] at hC9
      have hbe9 := hbe8.trans (hu9.below (B := w.heap.size) hl5)
      have hP8 := hP6.next hdd8 hP6.lt
      refine hK.out _ _ ⟨(HS2.out _ hbe9).1, (HS2.out _ hbe9).2, blk_range (hP8.upd hu9 (by omega))⟩ (fun hHeld => ?_)
      clear hK K hu9
      refine wpAnyH_take (i := 9) (v := ?vya9) rfl (by kernel_rfl) (by kernel_rfl) (by kernel_rfl) (fun _ _ _ h => h) (Or.inl ⟨by rfl, ?yya9⟩) (by assumption) ?rya9
      case yya9 => intro w hSw; (try dsimp only at hSw); go_simp <;> (try with_reducible rfl)
      (try simp only [List.getElem_toArray, List.getElem_cons_succ, List.getElem_cons_zero, Act.put, List.setIfInBounds_toArray, List.set_cons_zero, List.set_cons_succ])
      refine wpAnyH_done (by kernel_rfl) ?_ _
      go_wp2
      exact bodyPost_ret (results_cell_two rfl _ _ g5 _ _ _ _ _ rfl rfl hC9 Tryd.underlying23 rfl Tryd.szQ) rfl ⟨by rfl, hbe9⟩
    · obtain ⟨rfl, rfl, rfl⟩ := HSE.out.2 hf
      clear HSB hf
      go_wp2_with (first | (with_reducible refine wpList_build (o := ⟨some 20, .build 23 #[], _, _, _, _⟩) (by with_unfolding_all rfl) 23 #[] (by with_unfolding_all rfl) #[] (by with_unfolding_all rfl) (.agg zC.toArray) (by with_unfolding_all exact fun w => run_buildQ0 w) ?_) | (with_reducible refine wpList_put (o := ⟨none, .store 23 (.tmp 5) (.tmp 20), _, _, _, _⟩) (by with_unfolding_all rfl) 23 (.tmp 5) (.tmp 20) (by with_unfolding_all rfl) g5 0 (by with_unfolding_all rfl) (.agg zC.toArray) (by with_unfolding_all rfl) hC6 zC (by with_unfolding_all rfl) (by with_unfolding_all (exact Tryd.szQ)) (by with_unfolding_all (exact Nat.le_refl 2)) (by with_unfolding_all (exact int_one 0 0)) ?_))
      intro w9 hu9 hC9
      rw [splice_all _ _ (by rfl)] at hC9
      have hbe9 := hbe6.trans (hu9.below (B := w.heap.size) hl5)
      go_wp2
      exact bodyPost_ret (results_cell_two rfl _ _ g5 _ _ _ _ _ rfl rfl hC9 Tryd.underlying23 rfl Tryd.szQ) rfl ⟨by rfl, hbe9⟩
  · rw [if_pos (by rfl)]
    refine wp_allocz 23 rfl (.agg zC.toArray) zC Tryd.zeroQ rfl ?_
    intro g7 w3 hg7 hs3 hb3 hP3
    have hb3 := hb3.mono (Nat.le_of_eq hg7.out.symm)
    have h57 : g5 < g7 := by have := hC2.lt; have := hg7.out; omega
    have hC3 := hC2.next hb3 hC2.lt
    have hbe3 := below_join hbe2 hb3
    refine hK.out _ _ (HS.out _ hbe3) (fun hHeld => ?_)
    clear hK K hb3 hC2 hbe2 hg7 hs3
    refine wpAnyH_ready (rs := [5]) (by kernel_rfl) (by simp) ?_
    refine AllReadyH.cons rfl (fun K hK => ?_) AllReadyH.nil
    go_simp
    go_wp2_with fail
    (with_reducible refine (HMU.out _).mono ?_)
    rintro e w5 ⟨rfl, hb5⟩
    have hbe5 := below_join hbe3 hb5
    have hC5 := hC3.next hb5 hC3.lt
    have hP5 := hP3.next hb5 hP3.lt
    refine hK.out _ _ (HS.out _ hbe5) (fun hHeld => ?_)
    clear hK K hb5 hC3 hbe3 hP3
    refine wpAnyH_take (i := 6) (v := ?vb6) rfl (by kernel_rfl) (by kernel_rfl) (by kernel_rfl) (fun _ _ _ h => h) (Or.inl ⟨by rfl, ?yb6⟩) (by assumption) ?rb6
    case yb6 => intro w hSw; (try dsimp only at hSw); go_simp <;> (try with_reducible rfl)
    (try simp only [List.getElem_toArray, List.getElem_cons_succ, List.getElem_cons_zero, Act.put, List.setIfInBounds_toArray, List.set_cons_zero, List.set_cons_succ])
    refine wpAnyH_take (i := 7) (v := ?vb7) rfl (by kernel_rfl) (by kernel_rfl) (by kernel_rfl) (fun _ _ _ h => h) (Or.inl ⟨by rfl, ?yb7⟩) (by assumption) ?rb7
    case yb7 => intro w hSw; (try dsimp only at hSw); go_simp <;> (try with_reducible rfl)
    (try simp only [List.getElem_toArray, List.getElem_cons_succ, List.getElem_cons_zero, Act.put, List.setIfInBounds_toArray, List.set_cons_zero, List.set_cons_succ])
    refine wpAnyH_take (i := 8) (v := ?vb8) rfl (by kernel_rfl) (by kernel_rfl) (by kernel_rfl) (fun _ _ _ h => h) (Or.inl ⟨by rfl, ?yb8⟩) (by assumption) ?rb8
    case yb8 => intro w hSw; (try dsimp only at hSw); go_simp <;> (try with_reducible rfl)
    (try simp only [List.getElem_toArray, List.getElem_cons_succ, List.getElem_cons_zero, Act.put, List.setIfInBounds_toArray, List.set_cons_zero, List.set_cons_succ])
    refine wpAnyH_ready (rs := [10]) (by kernel_rfl) (by simp) ?_
    refine AllReadyH.cons rfl (fun K hK => ?_) AllReadyH.nil
    rw [if_pos (by rfl)]
    refine wp_put 23 (.tmp 7) (.tmp 16) rfl g7 0 rfl (.agg [Value.int .i64 N, Value.int .i64 D].toArray) rfl hP5 [Value.int .i64 N, Value.int .i64 D] rfl Tryd.szQ (Nat.le_refl 2) (int_one N D) ?_
    intro w6 hu6 hP6
    rw [splice_all _ _ (by rfl)] at hP6
    have hC6 := hC5.upd hu6 (by omega)
    have hbe6 := hbe5.trans (hu6.below (B := w.heap.size) (by omega))
    refine hK.out _ _ (HS.out _ hbe6) (fun hHeld => ?_)
    clear hK K hu6 hC5 hP5 hbe5
    refine wpAnyH_take (i := 11) (v := ?vb11) rfl (by kernel_rfl) (by kernel_rfl) (by kernel_rfl) (fun _ _ _ h => h) (Or.inl ⟨by rfl, ?yb11⟩) (by assumption) ?rb11
    case yb11 => intro w hSw; (try dsimp only at hSw); go_simp <;> (try with_reducible rfl)
    (try simp only [List.getElem_toArray, List.getElem_cons_succ, List.getElem_cons_zero, Act.put, List.setIfInBounds_toArray, List.set_cons_zero, List.set_cons_succ])
    refine wpAnyH_done (by kernel_rfl) ?_ _
    clear hHeld
    rcases HQ.out with ⟨hf, rfl, rfl, rfl⟩ | ⟨hf, rfl⟩
    · have HSB2 := HSB.out
      have HS3 := Lib.hid (fun w => HSB.out w hf)
      rw [HSE.out.1 ⟨hf, rfl⟩] at HS3
      have hPC : [Value.int .i64 P.num, Value.int .i64 (P.den : Int)] = qC P := rfl
      rw [hPC] at hP6
      obtain ⟨Z, hZ⟩ : ∃ Z, qC P = Z := ⟨_, rfl⟩
      have hzZ : (Tryd.prog.info? 23).map (·.size) = some Z.length := by rw [← hZ]; exact Tryd.szQ
      rw [hZ] at hP6 HS3
      clear HSB2 HSB hPC hZ hf
      go_wp2
      have hdd := below_drew w6
      have hbe7 := below_join hbe6 hdd
      have hC7 := hC6.next hdd hC6.lt
      have HP := Lib.hid (show ∀ w', Below w6.heap.size w6 w' → w'.rangeAt g7 0 Z from fun w' hb => blk_range (hP6.next hb hP6.lt))
      refine wp_region_held_drew (S := fun w' => w'.cell? ⟨gr, 0, none⟩ = some (.slice (some ⟨g, f, none⟩) n c) ∧ w'.rangeAt g (f + k * 2) X ∧ w'.rangeAt g7 0 Z) (by kernel_rfl) ⟨(HS2.out _ hbe7).1, (HS2.out _ hbe7).2, HP.out _ hdd⟩ (fun hHeld => ?_)
      generalize w6.drew = wd at hdd hHeld hbe7 hC7 ⊢
      refine wpAnyH_take (i := 0) (v := ?vyb0) rfl (by kernel_rfl) (by kernel_rfl) (by kernel_rfl) (fun _ _ _ h => h) (Or.inl ⟨by rfl, ?yyb0⟩) (by assumption) ?ryb0
      case yyb0 => intro w hSw; (try dsimp only at hSw); go_simp <;> (try with_reducible rfl)
      (try simp only [List.getElem_toArray, List.getElem_cons_zero, Act.put, List.setIfInBounds_toArray, List.set_cons_zero, List.set_cons_succ])
      refine wpAnyH_take (i := 1) (v := ?vyb1) rfl (by kernel_rfl) (by kernel_rfl) (by kernel_rfl) (fun _ _ _ h => h) (Or.inl ⟨by rfl, ?yyb1⟩) (by assumption) ?ryb1
      case yyb1 => intro w hSw; (try dsimp only at hSw); go_simp <;> (try with_reducible rfl)
      (try simp only [List.getElem_toArray, List.getElem_cons_succ, List.getElem_cons_zero, Act.put, List.setIfInBounds_toArray, List.set_cons_zero, List.set_cons_succ])
      refine wpAnyH_take (i := 2) (v := ?vyb2) rfl (by kernel_rfl) (by kernel_rfl) (by kernel_rfl) (fun _ _ _ h => h) (Or.inl ⟨by rfl, ?yyb2⟩) (by assumption) ?ryb2
      case yyb2 => intro w hSw; (try dsimp only at hSw); go_simp <;> (try with_reducible rfl)
      (try simp only [List.getElem_toArray, List.getElem_cons_succ, List.getElem_cons_zero, Act.put, List.setIfInBounds_toArray, List.set_cons_zero, List.set_cons_succ])
      refine' wpAnyH_take (i := 3) (v := _) rfl (by kernel_rfl) (by kernel_rfl) (by kernel_rfl) (fun _ _ _ h => h) (yieldsIf_load_mid (by rfl) _ _ (by rfl) _ _ (by rfl) _ _ ?Syb3 ?uyb3 ?dyb3 ?iyb3) (by assumption) ?ryb3
      case Syb3 => exact (by intro w h; exact h.2.1)
      case uyb3 => exact Tryd.underlying23
      case dyb3 => rfl
      case iyb3 => exact hzX
      (try simp only [List.getElem_toArray, List.getElem_cons_succ, List.getElem_cons_zero, Act.put, List.setIfInBounds_toArray, List.set_cons_zero, List.set_cons_succ])
      refine' wpAnyH_take (i := 4) (v := _) rfl (by kernel_rfl) (by kernel_rfl) (by kernel_rfl) (fun _ _ _ h => h) (yieldsIf_load_mid (by rfl) _ _ (by rfl) _ _ (by rfl) _ _ ?Syb4 ?uyb4 ?dyb4 ?iyb4) (by assumption) ?ryb4
      case Syb4 => exact (by intro w h; exact h.2.2)
      case uyb4 => exact Tryd.underlying23
      case dyb4 => rfl
      case iyb4 => exact hzZ
      (try simp only [List.getElem_toArray, List.getElem_cons_succ, List.getElem_cons_zero, Act.put, List.setIfInBounds_toArray, List.set_cons_zero, List.set_cons_succ])
      refine wpAnyH_ready (rs := [5]) (by kernel_rfl) (by simp) ?_
      refine AllReadyH.cons rfl (fun K hK => ?_) AllReadyH.nil
      go_simp
      go_wp2_with fail
      (with_reducible refine (HS3.out _).mono ?_)
      rintro e w8 ⟨rfl, hb8⟩
      have hbe8 := below_join hbe7 hb8
      have hdd8 := below_join hdd hb8
      have hC8 := hC7.next hb8 hC7.lt
      refine hK.out _ _ ⟨(HS2.out _ hbe8).1, (HS2.out _ hbe8).2, HP.out _ hdd8⟩ (fun hHeld => ?_)
      clear hK K hb8 hC7 hbe7
      refine wpAnyH_take (i := 6) (v := ?vyb6) rfl (by kernel_rfl) (by kernel_rfl) (by kernel_rfl) (fun _ _ _ h => h) (Or.inl ⟨by rfl, ?yyb6⟩) (by assumption) ?ryb6
      case yyb6 => intro w hSw; (try dsimp only at hSw); go_simp <;> (try with_reducible rfl)
      (try simp only [List.getElem_toArray, List.getElem_cons_succ, List.getElem_cons_zero, Act.put, List.setIfInBounds_toArray, List.set_cons_zero, List.set_cons_succ])
      refine wpAnyH_take (i := 7) (v := ?vyb7) rfl (by kernel_rfl) (by kernel_rfl) (by kernel_rfl) (fun _ _ _ h => h) (Or.inl ⟨by rfl, ?yyb7⟩) (by assumption) ?ryb7
      case yyb7 => intro w hSw; (try dsimp only at hSw); go_simp <;> (try with_reducible rfl)
      (try simp only [List.getElem_toArray, List.getElem_cons_succ, List.getElem_cons_zero, Act.put, List.setIfInBounds_toArray, List.set_cons_zero, List.set_cons_succ])
      refine wpAnyH_ready (rs := [8]) (by kernel_rfl) (by simp) ?_
      refine AllReadyH.cons rfl (fun K hK => ?_) AllReadyH.nil
      rw [if_pos (by rfl)]
      refine wp_put 23 (.tmp 5) (.tmp 28) rfl g5 0 rfl (.agg [Value.int .i64 N2, Value.int .i64 D2].toArray) rfl hC8 [Value.int .i64 N2, Value.int .i64 D2] rfl Tryd.szQ (Nat.le_refl 2) (int_one N2 D2) ?_
      intro w9 hu9 hC9
      rw [splice_all _ _ (by rfl)] at hC9
      have hbe9 := hbe8.trans (hu9.below (B := w.heap.size) hl5)
      have hP8 := hP6.next hdd8 hP6.lt
      refine hK.out _ _ ⟨(HS2.out _ hbe9).1, (HS2.out _ hbe9).2, blk_range (hP8.upd hu9 (by omega))⟩ (fun hHeld => ?_)
      clear hK K hu9
      refine wpAnyH_take (i := 9) (v := ?vyb9) rfl (by kernel_rfl) (by kernel_rfl) (by kernel_rfl) (fun _ _ _ h => h) (Or.inl ⟨by rfl, ?yyb9⟩) (by assumption) ?ryb9
      case yyb9 => intro w hSw; (try dsimp only at hSw); go_simp <;> (try with_reducible rfl)
      (try simp only [List.getElem_toArray, List.getElem_cons_succ, List.getElem_cons_zero, Act.put, List.setIfInBounds_toArray, List.set_cons_zero, List.set_cons_succ])
      refine wpAnyH_done (by kernel_rfl) ?_ _
      go_wp2
      exact bodyPost_ret (results_cell_two rfl _ _ g5 _ _ _ _ _ rfl rfl hC9 Tryd.underlying23 rfl Tryd.szQ) rfl ⟨by rfl, hbe9⟩
    · obtain ⟨rfl, rfl, rfl⟩ := HSE.out.2 hf
      clear HSB hf
      go_wp2_with (first | (with_reducible refine wpList_build (o := ⟨some 20, .build 23 #[], _, _, _, _⟩) (by with_unfolding_all rfl) 23 #[] (by with_unfolding_all rfl) #[] (by with_unfolding_all rfl) (.agg zC.toArray) (by with_unfolding_all exact fun w => run_buildQ0 w) ?_) | (with_reducible refine wpList_put (o := ⟨none, .store 23 (.tmp 5) (.tmp 20), _, _, _, _⟩) (by with_unfolding_all rfl) 23 (.tmp 5) (.tmp 20) (by with_unfolding_all rfl) g5 0 (by with_unfolding_all rfl) (.agg zC.toArray) (by with_unfolding_all rfl) hC6 zC (by with_unfolding_all rfl) (by with_unfolding_all (exact Tryd.szQ)) (by with_unfolding_all (exact Nat.le_refl 2)) (by with_unfolding_all (exact int_one 0 0)) ?_))
      intro w9 hu9 hC9
      rw [splice_all _ _ (by rfl)] at hC9
      have hbe9 := hbe6.trans (hu9.below (B := w.heap.size) hl5)
      go_wp2
      exact bodyPost_ret (results_cell_two rfl _ _ g5 _ _ _ _ _ rfl rfl hC9 Tryd.underlying23 rfl Tryd.szQ) rfl ⟨by rfl, hbe9⟩
end Go.Proofs.YthjaelopmfjfeaaDoor
