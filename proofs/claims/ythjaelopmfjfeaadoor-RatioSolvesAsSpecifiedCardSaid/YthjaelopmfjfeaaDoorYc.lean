/-
  Contracts of the walks over Dot of both sides. Conditions: the lists lie there.
-/
import Derived.Test.YthjaelopmfjfeaaDoorYb
namespace Go.Proofs.YthjaelopmfjfeaaDoor
set_option linter.unusedVariables false
set_option linter.unusedSimpArgs false
open Go.RowKit Go.Shelf
set_option linter.unusedVariables false

structure DotI (a b : List Rat) (g4 g6 : Nat) (w : World) (k : Nat) (s : Rat) (wr : World) : Prop where
  v : dotM a b k = some s
  b4 : Blk wr g4 23 zC
  b6 : Blk wr g6 23 (qC s)
  below : Below w.heap.size w wr
theorem dot_step {a b : List Rat} {k : Nat} {s x y : Rat} (hv : dotM a b k = some s) (hx : a[k]? = some x) (hy : b[k]? = some y) : dotM a b (k + 1) = (okQ (x * y)).bind fun p => okQ (s + p) := by
  show (dotM a b k).bind _ = _
  rw [hv, Option.bind_some, nth_get hx, nth_get hy]
def dotR (a b : List Rat) (n g4 g6 : Nat) (w : World) (i : Value) (wr : World) : Prop := ∃ k s, k ≤ n ∧ i = .int .i64 (k : Int) ∧ DotI a b g4 g6 w k s wr
set_option maxRecDepth 100000 in
set_option maxHeartbeats 3200000 in
theorem dot_any (A B : Option Addr) (c d : Nat) (a b : List Rat) (w : World) (ha : a.length ≤ 140737488355328) (hb : b.length ≤ 140737488355328) (fa : ∀ x ∈ a, fits x) (fb : ∀ x ∈ b, fits x) (hA : PsAt w A (prs a)) (hB : PsAt w B (prs b)) :
    Calls Tryd.prog 38 #[.slice A a.length c, .slice B b.length d] w fun e w' => e = dotE a b ∧ Below w.heap.size w w' := by
  obtain ⟨n, hn⟩ : ∃ n, Hid (a.length = n) := ⟨_, rfl⟩
  obtain ⟨m, hm⟩ : ∃ m, Hid (b.length = m) := ⟨_, rfl⟩
  obtain ⟨E, hE⟩ : ∃ E, Hid ((if n = m then ansO (dotM a b n) else zret 1) = E) := ⟨_, rfl⟩
  have hEq : dotE a b = E := by rw [← hE.out]; unfold dotE; rw [hn.out, hm.out]
  rw [hEq, hn.out, hm.out]
  rw [hn.out] at ha
  rw [hm.out] at hb
  have HA := Lib.hid hA
  have HB := Lib.hid hB
  have FA := Lib.hid fa
  have FB := Lib.hid fb
  have hni : (n : Int) ≤ 140737488355328 := by omega
  clear hA hB fa fb hEq hb
  go_enter Tryd.func38, Tryd.ntmps38
  go_wp2_with (with_reducible refine wpList_alloc (o := ⟨some 4, .alloc 23, _, _, _, _⟩) (by with_unfolding_all rfl) 23 (by with_unfolding_all rfl) (.agg zC.toArray) zC (by exact Tryd.zeroQ) (by with_unfolding_all rfl) ?_)
  intro g4 w1 hg4 hs1 hb1 B4
  have hl4 : w.heap.size ≤ g4 := Nat.le_of_eq hg4.out.symm
  have hb1 := hb1.mono (Nat.le_of_eq hg4.out.symm)
  have hbe : Below w.heap.size w w1 := hb1
  clear hb1 hg4 hs1
  by_cases hnm : n = m
  · skip
    subst hnm
    have hne : ((n : Int) != (n : Int)) = false := by simp
    have hEn : Hid (ansO (dotM a b n) = E) := by
      have := hE.out
      rw [if_pos rfl] at this
      exact this
    go_wp2_with fail
    (with_reducible refine (whole_any 0 _).mono ?_)
    rintro e w2 ⟨rfl, hb2⟩
    have B4 := B4.next hb2 B4.lt
    have hbe := below_join hbe hb2
    clear hb2
    go_wp2_with (with_reducible refine wpList_alloc (o := ⟨some 6, .alloc 23, _, _, _, _⟩) (by with_unfolding_all rfl) 23 (by with_unfolding_all rfl) (.agg zC.toArray) zC (by exact Tryd.zeroQ) (by with_unfolding_all rfl) ?_)
    intro g6 w3 hg6 hs3 hb3 B6
    have hl6 : w.heap.size ≤ g6 := Nat.le_trans hbe.size (Nat.le_of_eq hg6.out.symm)
    have ne4_6 : g4 ≠ g6 := by have := B4.lt; have := hg6.out; omega
    have hb3 := hb3.mono (Nat.le_of_eq hg6.out.symm)
    have B4 := B4.next hb3 B4.lt
    have hbe := below_join hbe hb3
    clear hb3 hg6 hs3
    go_wp2_with (with_reducible refine wpList_put (o := ⟨none, .store 23 (.tmp 6) (.tmp 16), _, _, _, _⟩) (by with_unfolding_all rfl) 23 (.tmp 6) (.tmp 16) (by with_unfolding_all rfl) g6 0 (by with_unfolding_all rfl) (.agg [Value.int .i64 0, Value.int .i64 1].toArray) (by with_unfolding_all rfl) B6 [Value.int .i64 0, Value.int .i64 1] (by with_unfolding_all rfl) (by with_unfolding_all (exact Tryd.szQ)) (by with_unfolding_all (exact Nat.le_refl 2)) (by with_unfolding_all (exact int_one _ _)) ?_)
    clear B6
    intro w4 hu4 B6
    rw [splice_all _ _ (by rfl)] at B6
    have hbe := hbe.trans (hu4.below (B := w.heap.size) hl6)
    have B4 := B4.upd hu4 (by first | exact ne4_6 | exact ne6_4.symm)
    clear hu4
    have H0 : Hid (DotI a b g4 g6 w 0 0 w4) := (⟨rfl, B4, B6, hbe⟩ : DotI a b g4 g6 w 0 0 w4)
    clear B4 B6 hbe hne
    go_wp2
    go_loopw [19] (dotR a b n g4 g6 w) (fun i _ => n - (intOf i).toNat)
    case atStart => exact ⟨0, 0, Nat.zero_le _, rfl, H0.out⟩
    case round =>
      clear H0
      obtain ⟨k, s, hk, rfl, hI⟩ := hrel
      have hbe := hI.below
      have B4 := hI.b4
      have B6 : Blk wr g6 23 [Value.int .i64 s.num, Value.int .i64 (s.den : Int)] := hI.b6
      have HV := Lib.hid hI.v
      clear hI
      by_cases hlt : k < n
      · skip
        have hki : (k : Int) < (n : Int) := by omega
        have hk0 : (0 : Int) ≤ (k : Int) := by omega
        obtain ⟨x, hx⟩ : ∃ x, a[k]? = some x := ⟨_, List.getElem?_eq_getElem (by rw [hn.out]; exact hlt)⟩
        obtain ⟨y, hy⟩ : ∃ x, b[k]? = some x := ⟨_, List.getElem?_eq_getElem (by rw [hm.out]; exact hlt)⟩
        obtain ⟨ga, oa, hA, c0, c1⟩ := (HA.out.next hbe) k _ (prs_get hx)
        obtain ⟨gb, ob, hB, d0, d1⟩ := (HB.out.next hbe) k _ (prs_get hy)
        subst hA hB
        have fx := FA.out x (List.mem_of_getElem? hx)
        have fy := FB.out y (List.mem_of_getElem? hy)
        have fs := dotM_fits HV.out
        obtain ⟨N1, D1, k1, h1, g1⟩ := ansQ_two (x * y)
        have x1 := fun w => mul_any x y w fx fy
        rw [h1] at x1
        have X1 := Lib.hid x1
        obtain ⟨N2, D2, k2, h2, g2⟩ := ansQ_two (s + x * y)
        have x2 : fits (x * y) → ∀ w, Calls Tryd.prog 17 #[.agg [Value.int .i64 (s).num, Value.int .i64 ((s).den : Int)].toArray, .agg [Value.int .i64 (x * y).num, Value.int .i64 ((x * y).den : Int)].toArray] w fun e w' => e = .returned (.tuple #[.agg #[.int .i64 N2, .int .i64 D2], .int .i64 k2]) ∧ Below w.heap.size w w' := fun h w => by
          have x0 := add_any s (x * y) w fs h
          rw [h2, show qC s = [Value.int .i64 (s).num, Value.int .i64 ((s).den : Int)] from rfl, show qC (x * y) = [Value.int .i64 (x * y).num, Value.int .i64 ((x * y).den : Int)] from rfl] at x0
          exact x0
        have X2 := Lib.hid x2
        have G1 := Lib.hid g1
        have G2 := Lib.hid g2
        have HST := Lib.hid (dot_step HV.out hx hy)
        have KX : Hid (∀ w', Below wr.heap.size wr w' → w'.rangeAt ga (oa + k * 2) (qC x)) := (fun w' h => range_two (cellq_below h c0) (cellq_below h c1) : ∀ w', Below wr.heap.size wr w' → w'.rangeAt ga (oa + k * 2) (qC x))
        have KY : Hid (∀ w', Below wr.heap.size wr w' → w'.rangeAt gb (ob + k * 2) (qC y)) := (fun w' h => range_two (cellq_below h d0) (cellq_below h d1) : ∀ w', Below wr.heap.size wr w' → w'.rangeAt gb (ob + k * 2) (qC y))
        have h6w : g6 < wr.heap.size := B6.lt
        have h4w : g4 < wr.heap.size := B4.lt
        clear h1 x1 h2 x2 g1 g2 hx hy fx fy fs c0 c1 d0 d1
        go_wp2
        have hdd := below_drew wr
        refine wp_region_held_drew (S := fun w' => Below wr.heap.size wr w') (by kernel_rfl) hdd (fun hHeld => ?_)
        generalize wr.drew = wd at hdd hHeld ⊢
        refine wpAnyH_take (i := 0) (v := ?vaa_0) rfl (by kernel_rfl) (by kernel_rfl) (by kernel_rfl) (fun _ _ _ h => h) (Or.inl ⟨by rfl, ?yaa_0⟩) (by assumption) ?raa_0
        case yaa_0 => intro w hSw; (try dsimp only at hSw); go_simp <;> (try with_reducible rfl)
        (try simp only [List.getElem_toArray, List.getElem_cons_zero, Act.put, List.setIfInBounds_toArray, List.set_cons_zero, List.set_cons_succ])
        refine wpAnyH_take (i := 1) (v := ?vaa_1) rfl (by kernel_rfl) (by kernel_rfl) (by kernel_rfl) (fun _ _ _ h => h) (Or.inl ⟨by rfl, ?yaa_1⟩) (by assumption) ?raa_1
        case yaa_1 => intro w hSw; (try dsimp only at hSw); go_simp <;> (try with_reducible rfl)
        (try simp only [List.getElem_toArray, List.getElem_cons_succ, List.getElem_cons_zero, Act.put, List.setIfInBounds_toArray, List.set_cons_zero, List.set_cons_succ])
        refine wpAnyH_take (i := 2) (v := ?vaa_2) rfl (by kernel_rfl) (by kernel_rfl) (by kernel_rfl) (fun _ _ _ h => h) (Or.inl ⟨by rfl, ?yaa_2⟩) (by assumption) ?raa_2
        case yaa_2 => intro w hSw; (try dsimp only at hSw); go_simp <;> (try with_reducible rfl)
        (try simp only [List.getElem_toArray, List.getElem_cons_succ, List.getElem_cons_zero, Act.put, List.setIfInBounds_toArray, List.set_cons_zero, List.set_cons_succ])
        refine' wpAnyH_take (i := 3) (v := _) rfl (by kernel_rfl) (by kernel_rfl) (by kernel_rfl) (fun _ _ _ h => h) (yieldsIf_load_mid (by rfl) _ _ (by rfl) _ _ (by rfl) _ _ ?Saa_3 ?uaa_3 ?daa_3 ?iaa_3) (by assumption) ?raa_3
        case Saa_3 => exact (by intro w h; exact KX.out _ h)
        case uaa_3 => exact Tryd.underlying23
        case daa_3 => rfl
        case iaa_3 => exact Tryd.szQ
        (try simp only [List.getElem_toArray, List.getElem_cons_succ, List.getElem_cons_zero, Act.put, List.setIfInBounds_toArray, List.set_cons_zero, List.set_cons_succ])
        refine wpAnyH_take (i := 4) (v := ?vaa_4) rfl (by kernel_rfl) (by kernel_rfl) (by kernel_rfl) (fun _ _ _ h => h) (Or.inl ⟨by rfl, ?yaa_4⟩) (by assumption) ?raa_4
        case yaa_4 => intro w hSw; (try dsimp only at hSw); go_simp <;> (try with_reducible rfl)
        (try simp only [List.getElem_toArray, List.getElem_cons_succ, List.getElem_cons_zero, Act.put, List.setIfInBounds_toArray, List.set_cons_zero, List.set_cons_succ])
        refine wpAnyH_take (i := 5) (v := ?vaa_5) rfl (by kernel_rfl) (by kernel_rfl) (by kernel_rfl) (fun _ _ _ h => h) (Or.inl ⟨by rfl, ?yaa_5⟩) (by assumption) ?raa_5
        case yaa_5 => intro w hSw; (try dsimp only at hSw); go_simp <;> (try with_reducible rfl)
        (try simp only [List.getElem_toArray, List.getElem_cons_succ, List.getElem_cons_zero, Act.put, List.setIfInBounds_toArray, List.set_cons_zero, List.set_cons_succ])
        refine wpAnyH_take (i := 6) (v := ?vaa_6) rfl (by kernel_rfl) (by kernel_rfl) (by kernel_rfl) (fun _ _ _ h => h) (Or.inl ⟨by rfl, ?yaa_6⟩) (by assumption) ?raa_6
        case yaa_6 => intro w hSw; (try dsimp only at hSw); go_simp <;> (try with_reducible rfl)
        (try simp only [List.getElem_toArray, List.getElem_cons_succ, List.getElem_cons_zero, Act.put, List.setIfInBounds_toArray, List.set_cons_zero, List.set_cons_succ])
        refine' wpAnyH_take (i := 7) (v := _) rfl (by kernel_rfl) (by kernel_rfl) (by kernel_rfl) (fun _ _ _ h => h) (yieldsIf_load_mid (by rfl) _ _ (by rfl) _ _ (by rfl) _ _ ?Saa_7 ?uaa_7 ?daa_7 ?iaa_7) (by assumption) ?raa_7
        case Saa_7 => exact (by intro w h; exact KY.out _ h)
        case uaa_7 => exact Tryd.underlying23
        case daa_7 => rfl
        case iaa_7 => exact Tryd.szQ
        (try simp only [List.getElem_toArray, List.getElem_cons_succ, List.getElem_cons_zero, Act.put, List.setIfInBounds_toArray, List.set_cons_zero, List.set_cons_succ])
        refine wpAnyH_ready (rs := [8, 12]) (by kernel_rfl) (by simp) ?_
        refine AllReadyH.cons rfl (fun K hK => ?_) (AllReadyH.cons rfl (fun K hK => ?_) AllReadyH.nil)
        · skip
          go_simp
          go_wp2_with fail
          (with_reducible refine (X1.out _).mono ?_)
          rintro e w5 ⟨rfl, hb5⟩
          have hk5 := below_join hdd hb5
          refine hK.out _ _ hk5 (fun hHeld => ?_)
          clear hK K hb5 hdd
          refine wpAnyH_take (i := 9) (v := ?vab_9) rfl (by kernel_rfl) (by kernel_rfl) (by kernel_rfl) (fun _ _ _ h => h) (Or.inl ⟨by rfl, ?yab_9⟩) (by assumption) ?rab_9
          case yab_9 => intro w hSw; (try dsimp only at hSw); go_simp <;> (try with_reducible rfl)
          (try simp only [List.getElem_toArray, List.getElem_cons_succ, List.getElem_cons_zero, Act.put, List.setIfInBounds_toArray, List.set_cons_zero, List.set_cons_succ])
          refine wpAnyH_take (i := 10) (v := ?vab_10) rfl (by kernel_rfl) (by kernel_rfl) (by kernel_rfl) (fun _ _ _ h => h) (Or.inl ⟨by rfl, ?yab_10⟩) (by assumption) ?rab_10
          case yab_10 => intro w hSw; (try dsimp only at hSw); go_simp <;> (try with_reducible rfl)
          (try simp only [List.getElem_toArray, List.getElem_cons_succ, List.getElem_cons_zero, Act.put, List.setIfInBounds_toArray, List.set_cons_zero, List.set_cons_succ])
          refine wpAnyH_take (i := 11) (v := ?vab_11) rfl (by kernel_rfl) (by kernel_rfl) (by kernel_rfl) (fun _ _ _ h => h) (Or.inl ⟨by rfl, ?yab_11⟩) (by assumption) ?rab_11
          case yab_11 => intro w hSw; (try dsimp only at hSw); go_simp <;> (try with_reducible rfl)
          (try simp only [List.getElem_toArray, List.getElem_cons_succ, List.getElem_cons_zero, Act.put, List.setIfInBounds_toArray, List.set_cons_zero, List.set_cons_succ])
          refine wpAnyH_ready (rs := [12]) (by kernel_rfl) (by simp) ?_
          refine AllReadyH.cons rfl (fun K hK => ?_) AllReadyH.nil
          rw [if_pos (by rfl)]
          refine wp_allocz 23 rfl (.agg zC.toArray) zC Tryd.zeroQ rfl ?_
          intro g8 w6 hg8 hs6 hb6 B8
          have hb6 := hb6.mono (Nat.le_of_eq hg8.out.symm)
          have hk6 := below_join hk5 hb6
          have hle8 : wr.heap.size ≤ g8 := by have := hk5.size; have := hg8.out; omega
          refine hK.out _ _ hk6 (fun hHeld => ?_)
          clear hK K hb6 hg8 hs6 hk5
          refine wpAnyH_ready (rs := [13]) (by kernel_rfl) (by simp) ?_
          refine AllReadyH.cons rfl (fun K hK => ?_) AllReadyH.nil
          rw [if_pos (by rfl)]
          refine wp_put 23 (.tmp 8) (.tmp 32) rfl g8 0 rfl (.agg [Value.int .i64 N1, Value.int .i64 D1].toArray) rfl B8 [Value.int .i64 N1, Value.int .i64 D1] rfl (by exact Tryd.szQ) (by exact Nat.le_refl 2) (int_one _ _) ?_
          intro w7 hu7 hB7
          rw [splice_all _ _ (by rfl)] at hB7
          clear B8
          have B8 := hB7
          have hk7 := hk6.trans (hu7.below (B := wr.heap.size) hle8)
          refine hK.out _ _ hk7 (fun hHeld => ?_)
          clear hK K hu7 hB7 hk6
          refine wpAnyH_take (i := 14) (v := ?vab_14) rfl (by kernel_rfl) (by kernel_rfl) (by kernel_rfl) (fun _ _ _ h => h) (Or.inl ⟨by rfl, ?yab_14⟩) (by assumption) ?rab_14
          case yab_14 => intro w hSw; (try dsimp only at hSw); go_simp <;> (try with_reducible rfl)
          (try simp only [List.getElem_toArray, List.getElem_cons_succ, List.getElem_cons_zero, Act.put, List.setIfInBounds_toArray, List.set_cons_zero, List.set_cons_succ])
          refine wpAnyH_done (by kernel_rfl) ?_ _
          clear hHeld KX KY
          have B4 := B4.next hk7 B4.lt
          have B6 := B6.next hk7 B6.lt
          have hbe := below_join hbe hk7
          clear hk7
          rcases G1.out with ⟨f1, rfl, rfl, rfl⟩ | ⟨f1, rfl⟩
          · skip
            have X2 := Lib.hid (X2.out f1)
            have z60 := B6.cell (k := 0) rfl
            have z61 := B6.cell (k := 1) rfl
            have z80 := B8.cell (k := 0) rfl
            have z81 := B8.cell (k := 1) rfl
            go_wp2_with fail
            (with_reducible refine (X2.out _).mono ?_)
            rintro e w8 ⟨rfl, hb8⟩
            have B4 := B4.next hb8 B4.lt
            have B6 := B6.next hb8 B6.lt
            have B8 := B8.next hb8 B8.lt
            have hbe := below_join hbe hb8
            clear hb8
            clear z60 z61 z80 z81
            have ne8_6 : g8 ≠ g6 := by omega
            have ne8_4 : g8 ≠ g4 := by omega
            go_wp2_with (with_reducible refine wpList_put (o := ⟨none, .store 23 (.tmp 6) (.tmp 40), _, _, _, _⟩) (by with_unfolding_all rfl) 23 (.tmp 6) (.tmp 40) (by with_unfolding_all rfl) g6 0 (by with_unfolding_all rfl) (.agg [Value.int .i64 N2, Value.int .i64 D2].toArray) (by with_unfolding_all rfl) B6 [Value.int .i64 N2, Value.int .i64 D2] (by with_unfolding_all rfl) (by with_unfolding_all (exact Tryd.szQ)) (by with_unfolding_all (exact Nat.le_refl 2)) (by with_unfolding_all (exact int_one _ _)) ?_)
            clear B6
            intro w9 hu9 B6
            rw [splice_all _ _ (by rfl)] at B6
            have hbe := hbe.trans (hu9.below (B := w.heap.size) hl6)
            have B4 := B4.upd hu9 (by first | exact ne4_6 | exact ne6_4.symm)
            clear hu9
            rcases G2.out with ⟨f2, rfl, rfl, rfl⟩ | ⟨f2, rfl⟩
            · skip
              have HI2 : Hid (DotI a b g4 g6 w (k + 1) (s + x * y) w9) := by
                have : DotI a b g4 g6 w (k + 1) (s + x * y) w9 := ⟨by rw [HST.out]; unfold okQ; rw [if_pos f1, Option.bind_some, if_pos f2], B4, B6, hbe⟩
                exact this
              clear B4 B6 hbe X1 X2
              go_wp2
              go_roundw
              case rel => exact ⟨k + 1, (s + x * y), by omega, by go_num, HI2.out⟩
              case measure => simp [intOf]; omega
            · skip
              have he : E = zret 17 := by
                have h1 : dotM a b (k + 1) = none := by rw [HST.out]; unfold okQ; rw [if_pos f1, Option.bind_some, if_neg f2]
                rw [← hEn.out, dotM_fell h1 n (by omega)]; rfl
              have HE := Lib.hid he
              clear he
              go_wp2_with (first | (with_reducible refine wpList_build (o := ⟨some 44, .build 23 #[], _, _, _, _⟩) (by with_unfolding_all rfl) 23 #[] (by with_unfolding_all rfl) #[] (by with_unfolding_all rfl) (.agg zC.toArray) (by with_unfolding_all exact fun w => run_buildQ0 w) ?_) | (with_reducible refine wpList_put (o := ⟨none, .store 23 (.tmp 4) (.tmp 44), _, _, _, _⟩) (by with_unfolding_all rfl) 23 (.tmp 4) (.tmp 44) (by with_unfolding_all rfl) g4 0 (by with_unfolding_all rfl) (.agg zC.toArray) (by with_unfolding_all rfl) B4 zC (by with_unfolding_all rfl) (by with_unfolding_all (exact Tryd.szQ)) (by with_unfolding_all (exact Nat.le_refl 2)) (by with_unfolding_all (exact int_one _ _)) ?_))
              clear B4
              intro w10 hu10 B4
              rw [splice_all _ _ (by rfl)] at B4
              have hbe := hbe.trans (hu10.below (B := w.heap.size) hl4)
              clear hu10
              go_wp2
              exact bodyPost_ret (results_cell_two rfl _ _ g4 _ _ _ _ _ rfl rfl B4 Tryd.underlying23 rfl Tryd.szQ) rfl ⟨by rw [HE.out]; rfl, hbe⟩
          · skip
            have he : E = zret 17 := by
              have h1 : dotM a b (k + 1) = none := by rw [HST.out]; unfold okQ; rw [if_neg f1]; rfl
              rw [← hEn.out, dotM_fell h1 n (by omega)]; rfl
            have HE := Lib.hid he
            clear he
            go_wp2_with (first | (with_reducible refine wpList_build (o := ⟨some 44, .build 23 #[], _, _, _, _⟩) (by with_unfolding_all rfl) 23 #[] (by with_unfolding_all rfl) #[] (by with_unfolding_all rfl) (.agg zC.toArray) (by with_unfolding_all exact fun w => run_buildQ0 w) ?_) | (with_reducible refine wpList_put (o := ⟨none, .store 23 (.tmp 4) (.tmp 44), _, _, _, _⟩) (by with_unfolding_all rfl) 23 (.tmp 4) (.tmp 44) (by with_unfolding_all rfl) g4 0 (by with_unfolding_all rfl) (.agg zC.toArray) (by with_unfolding_all rfl) B4 zC (by with_unfolding_all rfl) (by with_unfolding_all (exact Tryd.szQ)) (by with_unfolding_all (exact Nat.le_refl 2)) (by with_unfolding_all (exact int_one _ _)) ?_))
            clear B4
            intro w8 hu8 B4
            rw [splice_all _ _ (by rfl)] at B4
            have hbe := hbe.trans (hu8.below (B := w.heap.size) hl4)
            clear hu8
            go_wp2
            exact bodyPost_ret (results_cell_two rfl _ _ g4 _ _ _ _ _ rfl rfl B4 Tryd.underlying23 rfl Tryd.szQ) rfl ⟨by rw [HE.out]; rfl, hbe⟩
        · skip
          rw [if_pos (by rfl)]
          refine wp_allocz 23 rfl (.agg zC.toArray) zC Tryd.zeroQ rfl ?_
          intro g8 w5 hg8 hs5 hb5 B8
          have hb5 := hb5.mono (Nat.le_of_eq hg8.out.symm)
          have hk5 := below_join hdd hb5
          have hle8 : wr.heap.size ≤ g8 := by have := hdd.size; have := hg8.out; omega
          refine hK.out _ _ hk5 (fun hHeld => ?_)
          clear hK K hb5 hg8 hs5 hdd
          refine wpAnyH_ready (rs := [8]) (by kernel_rfl) (by simp) ?_
          refine AllReadyH.cons rfl (fun K hK => ?_) AllReadyH.nil
          go_simp
          go_wp2_with fail
          (with_reducible refine (X1.out _).mono ?_)
          rintro e w6 ⟨rfl, hb6⟩
          have B8 := B8.next hb6 B8.lt
          have hk6 := below_join hk5 hb6
          refine hK.out _ _ hk6 (fun hHeld => ?_)
          clear hK K hb6 hk5
          refine wpAnyH_take (i := 9) (v := ?vac_9) rfl (by kernel_rfl) (by kernel_rfl) (by kernel_rfl) (fun _ _ _ h => h) (Or.inl ⟨by rfl, ?yac_9⟩) (by assumption) ?rac_9
          case yac_9 => intro w hSw; (try dsimp only at hSw); go_simp <;> (try with_reducible rfl)
          (try simp only [List.getElem_toArray, List.getElem_cons_succ, List.getElem_cons_zero, Act.put, List.setIfInBounds_toArray, List.set_cons_zero, List.set_cons_succ])
          refine wpAnyH_take (i := 10) (v := ?vac_10) rfl (by kernel_rfl) (by kernel_rfl) (by kernel_rfl) (fun _ _ _ h => h) (Or.inl ⟨by rfl, ?yac_10⟩) (by assumption) ?rac_10
          case yac_10 => intro w hSw; (try dsimp only at hSw); go_simp <;> (try with_reducible rfl)
          (try simp only [List.getElem_toArray, List.getElem_cons_succ, List.getElem_cons_zero, Act.put, List.setIfInBounds_toArray, List.set_cons_zero, List.set_cons_succ])
          refine wpAnyH_take (i := 11) (v := ?vac_11) rfl (by kernel_rfl) (by kernel_rfl) (by kernel_rfl) (fun _ _ _ h => h) (Or.inl ⟨by rfl, ?yac_11⟩) (by assumption) ?rac_11
          case yac_11 => intro w hSw; (try dsimp only at hSw); go_simp <;> (try with_reducible rfl)
          (try simp only [List.getElem_toArray, List.getElem_cons_succ, List.getElem_cons_zero, Act.put, List.setIfInBounds_toArray, List.set_cons_zero, List.set_cons_succ])
          refine wpAnyH_ready (rs := [13]) (by kernel_rfl) (by simp) ?_
          refine AllReadyH.cons rfl (fun K hK => ?_) AllReadyH.nil
          rw [if_pos (by rfl)]
          refine wp_put 23 (.tmp 8) (.tmp 32) rfl g8 0 rfl (.agg [Value.int .i64 N1, Value.int .i64 D1].toArray) rfl B8 [Value.int .i64 N1, Value.int .i64 D1] rfl (by exact Tryd.szQ) (by exact Nat.le_refl 2) (int_one _ _) ?_
          intro w7 hu7 hB7
          rw [splice_all _ _ (by rfl)] at hB7
          clear B8
          have B8 := hB7
          have hk7 := hk6.trans (hu7.below (B := wr.heap.size) hle8)
          refine hK.out _ _ hk7 (fun hHeld => ?_)
          clear hK K hu7 hB7 hk6
          refine wpAnyH_take (i := 14) (v := ?vac_14) rfl (by kernel_rfl) (by kernel_rfl) (by kernel_rfl) (fun _ _ _ h => h) (Or.inl ⟨by rfl, ?yac_14⟩) (by assumption) ?rac_14
          case yac_14 => intro w hSw; (try dsimp only at hSw); go_simp <;> (try with_reducible rfl)
          (try simp only [List.getElem_toArray, List.getElem_cons_succ, List.getElem_cons_zero, Act.put, List.setIfInBounds_toArray, List.set_cons_zero, List.set_cons_succ])
          refine wpAnyH_done (by kernel_rfl) ?_ _
          clear hHeld KX KY
          have B4 := B4.next hk7 B4.lt
          have B6 := B6.next hk7 B6.lt
          have hbe := below_join hbe hk7
          clear hk7
          rcases G1.out with ⟨f1, rfl, rfl, rfl⟩ | ⟨f1, rfl⟩
          · skip
            have X2 := Lib.hid (X2.out f1)
            have z60 := B6.cell (k := 0) rfl
            have z61 := B6.cell (k := 1) rfl
            have z80 := B8.cell (k := 0) rfl
            have z81 := B8.cell (k := 1) rfl
            go_wp2_with fail
            (with_reducible refine (X2.out _).mono ?_)
            rintro e w8 ⟨rfl, hb8⟩
            have B4 := B4.next hb8 B4.lt
            have B6 := B6.next hb8 B6.lt
            have B8 := B8.next hb8 B8.lt
            have hbe := below_join hbe hb8
            clear hb8
            clear z60 z61 z80 z81
            have ne8_6 : g8 ≠ g6 := by omega
            have ne8_4 : g8 ≠ g4 := by omega
            go_wp2_with (with_reducible refine wpList_put (o := ⟨none, .store 23 (.tmp 6) (.tmp 40), _, _, _, _⟩) (by with_unfolding_all rfl) 23 (.tmp 6) (.tmp 40) (by with_unfolding_all rfl) g6 0 (by with_unfolding_all rfl) (.agg [Value.int .i64 N2, Value.int .i64 D2].toArray) (by with_unfolding_all rfl) B6 [Value.int .i64 N2, Value.int .i64 D2] (by with_unfolding_all rfl) (by with_unfolding_all (exact Tryd.szQ)) (by with_unfolding_all (exact Nat.le_refl 2)) (by with_unfolding_all (exact int_one _ _)) ?_)
            clear B6
            intro w9 hu9 B6
            rw [splice_all _ _ (by rfl)] at B6
            have hbe := hbe.trans (hu9.below (B := w.heap.size) hl6)
            have B4 := B4.upd hu9 (by first | exact ne4_6 | exact ne6_4.symm)
            clear hu9
            rcases G2.out with ⟨f2, rfl, rfl, rfl⟩ | ⟨f2, rfl⟩
            · skip
              have HI2 : Hid (DotI a b g4 g6 w (k + 1) (s + x * y) w9) := by
                have : DotI a b g4 g6 w (k + 1) (s + x * y) w9 := ⟨by rw [HST.out]; unfold okQ; rw [if_pos f1, Option.bind_some, if_pos f2], B4, B6, hbe⟩
                exact this
              clear B4 B6 hbe X1 X2
              go_wp2
              go_roundw
              case rel => exact ⟨k + 1, (s + x * y), by omega, by go_num, HI2.out⟩
              case measure => simp [intOf]; omega
            · skip
              have he : E = zret 17 := by
                have h1 : dotM a b (k + 1) = none := by rw [HST.out]; unfold okQ; rw [if_pos f1, Option.bind_some, if_neg f2]
                rw [← hEn.out, dotM_fell h1 n (by omega)]; rfl
              have HE := Lib.hid he
              clear he
              go_wp2_with (first | (with_reducible refine wpList_build (o := ⟨some 44, .build 23 #[], _, _, _, _⟩) (by with_unfolding_all rfl) 23 #[] (by with_unfolding_all rfl) #[] (by with_unfolding_all rfl) (.agg zC.toArray) (by with_unfolding_all exact fun w => run_buildQ0 w) ?_) | (with_reducible refine wpList_put (o := ⟨none, .store 23 (.tmp 4) (.tmp 44), _, _, _, _⟩) (by with_unfolding_all rfl) 23 (.tmp 4) (.tmp 44) (by with_unfolding_all rfl) g4 0 (by with_unfolding_all rfl) (.agg zC.toArray) (by with_unfolding_all rfl) B4 zC (by with_unfolding_all rfl) (by with_unfolding_all (exact Tryd.szQ)) (by with_unfolding_all (exact Nat.le_refl 2)) (by with_unfolding_all (exact int_one _ _)) ?_))
              clear B4
              intro w10 hu10 B4
              rw [splice_all _ _ (by rfl)] at B4
              have hbe := hbe.trans (hu10.below (B := w.heap.size) hl4)
              clear hu10
              go_wp2
              exact bodyPost_ret (results_cell_two rfl _ _ g4 _ _ _ _ _ rfl rfl B4 Tryd.underlying23 rfl Tryd.szQ) rfl ⟨by rw [HE.out]; rfl, hbe⟩
          · skip
            have he : E = zret 17 := by
              have h1 : dotM a b (k + 1) = none := by rw [HST.out]; unfold okQ; rw [if_neg f1]; rfl
              rw [← hEn.out, dotM_fell h1 n (by omega)]; rfl
            have HE := Lib.hid he
            clear he
            go_wp2_with (first | (with_reducible refine wpList_build (o := ⟨some 44, .build 23 #[], _, _, _, _⟩) (by with_unfolding_all rfl) 23 #[] (by with_unfolding_all rfl) #[] (by with_unfolding_all rfl) (.agg zC.toArray) (by with_unfolding_all exact fun w => run_buildQ0 w) ?_) | (with_reducible refine wpList_put (o := ⟨none, .store 23 (.tmp 4) (.tmp 44), _, _, _, _⟩) (by with_unfolding_all rfl) 23 (.tmp 4) (.tmp 44) (by with_unfolding_all rfl) g4 0 (by with_unfolding_all rfl) (.agg zC.toArray) (by with_unfolding_all rfl) B4 zC (by with_unfolding_all rfl) (by with_unfolding_all (exact Tryd.szQ)) (by with_unfolding_all (exact Nat.le_refl 2)) (by with_unfolding_all (exact int_one _ _)) ?_))
            clear B4
            intro w8 hu8 B4
            rw [splice_all _ _ (by rfl)] at B4
            have hbe := hbe.trans (hu8.below (B := w.heap.size) hl4)
            clear hu8
            go_wp2
            exact bodyPost_ret (results_cell_two rfl _ _ g4 _ _ _ _ _ rfl rfl B4 Tryd.underlying23 rfl Tryd.szQ) rfl ⟨by rw [HE.out]; rfl, hbe⟩
      · obtain rfl : k = n := by omega
        have he : E = .returned (.tuple #[.agg [Value.int .i64 s.num, Value.int .i64 (s.den : Int)].toArray, .int .i64 0]) := by rw [← hEn.out, HV.out]; rfl
        have HE := Lib.hid he
        clear he
        have z60 := B6.cell (k := 0) rfl
        have z61 := B6.cell (k := 1) rfl
        go_wp2_with (with_reducible refine wpList_put (o := ⟨none, .store 23 (.tmp 4) (.tmp 47), _, _, _, _⟩) (by with_unfolding_all rfl) 23 (.tmp 4) (.tmp 47) (by with_unfolding_all rfl) g4 0 (by with_unfolding_all rfl) (.agg [Value.int .i64 s.num, Value.int .i64 (s.den : Int)].toArray) (by with_unfolding_all rfl) B4 [Value.int .i64 s.num, Value.int .i64 (s.den : Int)] (by with_unfolding_all rfl) (by with_unfolding_all (exact Tryd.szQ)) (by with_unfolding_all (exact Nat.le_refl 2)) (by with_unfolding_all (exact int_one _ _)) ?_)
        clear B4
        intro w5 hu5 B4
        rw [splice_all _ _ (by rfl)] at B4
        have hbe := hbe.trans (hu5.below (B := w.heap.size) hl4)
        clear hu5
        go_wp2
        exact bodyPost_ret (results_cell_two rfl _ _ g4 _ _ _ _ _ rfl rfl B4 Tryd.underlying23 rfl Tryd.szQ) rfl ⟨by rw [HE.out]; rfl, hbe⟩
  · skip
    have hne : ((n : Int) != (m : Int)) = true := bne_iff_ne.2 (by omega)
    have hEn : Hid (E = zret 1) := by
      have : E = zret 1 := by rw [← hE.out, if_neg hnm]
      exact this
    go_wp2_with (first | (with_reducible refine wpList_build (o := ⟨some 15, .build 23 #[], _, _, _, _⟩) (by with_unfolding_all rfl) 23 #[] (by with_unfolding_all rfl) #[] (by with_unfolding_all rfl) (.agg zC.toArray) (by with_unfolding_all exact fun w => run_buildQ0 w) ?_) | (with_reducible refine wpList_put (o := ⟨none, .store 23 (.tmp 4) (.tmp 15), _, _, _, _⟩) (by with_unfolding_all rfl) 23 (.tmp 4) (.tmp 15) (by with_unfolding_all rfl) g4 0 (by with_unfolding_all rfl) (.agg zC.toArray) (by with_unfolding_all rfl) B4 zC (by with_unfolding_all rfl) (by with_unfolding_all (exact Tryd.szQ)) (by with_unfolding_all (exact Nat.le_refl 2)) (by with_unfolding_all (exact int_one _ _)) ?_))
    clear B4
    intro w2 hu2 B4
    rw [splice_all _ _ (by rfl)] at B4
    have hbe := hbe.trans (hu2.below (B := w.heap.size) hl4)
    clear hu2
    go_wp2
    exact bodyPost_ret (results_cell_two rfl _ _ g4 _ _ _ _ _ rfl rfl B4 Tryd.underlying23 rfl Tryd.szQ) rfl ⟨by rw [hEn.out]; rfl, hbe⟩
def rdotR (a b : List Rat) (n g4 g6 : Nat) (w : World) (i : Value) (wr : World) : Prop := ∃ k s, k ≤ n ∧ i = .int .i64 (k : Int) ∧ DotI a b g4 g6 w k s wr
set_option maxRecDepth 100000 in
set_option maxHeartbeats 3200000 in
theorem rdot_any (A B : Option Addr) (c d : Nat) (a b : List Rat) (w : World) (ha : a.length ≤ 140737488355328) (hb : b.length ≤ 140737488355328) (fa : ∀ x ∈ a, fits x) (fb : ∀ x ∈ b, fits x) (hA : PsAt w A (prs a)) (hB : PsAt w B (prs b)) :
    Calls Tryd.prog 39 #[.slice A a.length c, .slice B b.length d] w fun e w' => e = dotE a b ∧ Below w.heap.size w w' := by
  obtain ⟨n, hn⟩ : ∃ n, Hid (a.length = n) := ⟨_, rfl⟩
  obtain ⟨m, hm⟩ : ∃ m, Hid (b.length = m) := ⟨_, rfl⟩
  obtain ⟨E, hE⟩ : ∃ E, Hid ((if n = m then ansO (dotM a b n) else zret 1) = E) := ⟨_, rfl⟩
  have hEq : dotE a b = E := by rw [← hE.out]; unfold dotE; rw [hn.out, hm.out]
  rw [hEq, hn.out, hm.out]
  rw [hn.out] at ha
  rw [hm.out] at hb
  have HA := Lib.hid hA
  have HB := Lib.hid hB
  have FA := Lib.hid fa
  have FB := Lib.hid fb
  have hni : (n : Int) ≤ 140737488355328 := by omega
  clear hA hB fa fb hEq hb
  go_enter Tryd.func39, Tryd.ntmps39
  go_wp2_with (with_reducible refine wpList_alloc (o := ⟨some 4, .alloc 23, _, _, _, _⟩) (by with_unfolding_all rfl) 23 (by with_unfolding_all rfl) (.agg zC.toArray) zC (by exact Tryd.zeroQ) (by with_unfolding_all rfl) ?_)
  intro g4 w1 hg4 hs1 hb1 B4
  have hl4 : w.heap.size ≤ g4 := Nat.le_of_eq hg4.out.symm
  have hb1 := hb1.mono (Nat.le_of_eq hg4.out.symm)
  have hbe : Below w.heap.size w w1 := hb1
  clear hb1 hg4 hs1
  by_cases hnm : n = m
  · skip
    subst hnm
    have hne : ((n : Int) != (n : Int)) = false := by simp
    have hEn : Hid (ansO (dotM a b n) = E) := by
      have := hE.out
      rw [if_pos rfl] at this
      exact this
    go_wp2_with (first | (with_reducible refine wpList_build (o := ⟨some 18, .build 23 #[(1, .const (.int .i64 1))], _, _, _, _⟩) (by with_unfolding_all rfl) 23 #[(1, .const (.int .i64 1))] (by with_unfolding_all rfl) #[(1, .int .i64 1)] (by with_unfolding_all rfl) (.agg [Value.int .i64 0, Value.int .i64 1].toArray) (by with_unfolding_all exact fun w => run_buildQ1 w) ?_) | (with_reducible refine wpList_alloc (o := ⟨some 6, .alloc 23, _, _, _, _⟩) (by with_unfolding_all rfl) 23 (by with_unfolding_all rfl) (.agg zC.toArray) zC (by exact Tryd.zeroQ) (by with_unfolding_all rfl) ?_))
    intro g6 w2 hg6 hs2 hb2 B6
    have hl6 : w.heap.size ≤ g6 := Nat.le_trans hbe.size (Nat.le_of_eq hg6.out.symm)
    have ne4_6 : g4 ≠ g6 := by have := B4.lt; have := hg6.out; omega
    have hb2 := hb2.mono (Nat.le_of_eq hg6.out.symm)
    have B4 := B4.next hb2 B4.lt
    have hbe := below_join hbe hb2
    clear hb2 hg6 hs2
    go_wp2_with (with_reducible refine wpList_put (o := ⟨none, .store 23 (.tmp 6) (.tmp 18), _, _, _, _⟩) (by with_unfolding_all rfl) 23 (.tmp 6) (.tmp 18) (by with_unfolding_all rfl) g6 0 (by with_unfolding_all rfl) (.agg [Value.int .i64 0, Value.int .i64 1].toArray) (by with_unfolding_all rfl) B6 [Value.int .i64 0, Value.int .i64 1] (by with_unfolding_all rfl) (by with_unfolding_all (exact Tryd.szQ)) (by with_unfolding_all (exact Nat.le_refl 2)) (by with_unfolding_all (exact int_one _ _)) ?_)
    clear B6
    intro w3 hu3 B6
    rw [splice_all _ _ (by rfl)] at B6
    have hbe := hbe.trans (hu3.below (B := w.heap.size) hl6)
    have B4 := B4.upd hu3 (by first | exact ne4_6 | exact ne6_4.symm)
    clear hu3
    have H0 : Hid (DotI a b g4 g6 w 0 0 w3) := (⟨rfl, B4, B6, hbe⟩ : DotI a b g4 g6 w 0 0 w3)
    clear B4 B6 hbe hne
    go_wp2
    go_loopw [7] (rdotR a b n g4 g6 w) (fun i _ => n - (intOf i).toNat)
    case atStart => exact ⟨0, 0, Nat.zero_le _, rfl, H0.out⟩
    case round =>
      clear H0
      obtain ⟨k, s, hk, rfl, hI⟩ := hrel
      have hbe := hI.below
      have B4 := hI.b4
      have B6 : Blk wr g6 23 [Value.int .i64 s.num, Value.int .i64 (s.den : Int)] := hI.b6
      have HV := Lib.hid hI.v
      clear hI
      by_cases hlt : k < n
      · skip
        have hki : (k : Int) < (n : Int) := by omega
        have hk0 : (0 : Int) ≤ (k : Int) := by omega
        obtain ⟨x, hx⟩ : ∃ x, a[k]? = some x := ⟨_, List.getElem?_eq_getElem (by rw [hn.out]; exact hlt)⟩
        obtain ⟨y, hy⟩ : ∃ x, b[k]? = some x := ⟨_, List.getElem?_eq_getElem (by rw [hm.out]; exact hlt)⟩
        obtain ⟨ga, oa, hA, c0, c1⟩ := (HA.out.next hbe) k _ (prs_get hx)
        obtain ⟨gb, ob, hB, d0, d1⟩ := (HB.out.next hbe) k _ (prs_get hy)
        subst hA hB
        have fx := FA.out x (List.mem_of_getElem? hx)
        have fy := FB.out y (List.mem_of_getElem? hy)
        have fs := dotM_fits HV.out
        obtain ⟨N1, D1, k1, h1, g1⟩ := ansQ_two (x * y)
        have x1 := fun w => rmul_any x y w fx fy
        rw [h1] at x1
        have X1 := Lib.hid x1
        obtain ⟨N2, D2, k2, h2, g2⟩ := ansQ_two (s + x * y)
        have x2 : fits (x * y) → ∀ w, Calls Tryd.prog 18 #[.agg [Value.int .i64 (s).num, Value.int .i64 ((s).den : Int)].toArray, .agg [Value.int .i64 (x * y).num, Value.int .i64 ((x * y).den : Int)].toArray] w fun e w' => e = .returned (.tuple #[.agg #[.int .i64 N2, .int .i64 D2], .int .i64 k2]) ∧ Below w.heap.size w w' := fun h w => by
          have x0 := radd_any s (x * y) w fs h
          rw [h2, show qC s = [Value.int .i64 (s).num, Value.int .i64 ((s).den : Int)] from rfl, show qC (x * y) = [Value.int .i64 (x * y).num, Value.int .i64 ((x * y).den : Int)] from rfl] at x0
          exact x0
        have X2 := Lib.hid x2
        have G1 := Lib.hid g1
        have G2 := Lib.hid g2
        have HST := Lib.hid (dot_step HV.out hx hy)
        have KX : Hid (∀ w', Below wr.heap.size wr w' → w'.rangeAt ga (oa + k * 2) (qC x)) := (fun w' h => range_two (cellq_below h c0) (cellq_below h c1) : ∀ w', Below wr.heap.size wr w' → w'.rangeAt ga (oa + k * 2) (qC x))
        have KY : Hid (∀ w', Below wr.heap.size wr w' → w'.rangeAt gb (ob + k * 2) (qC y)) := (fun w' h => range_two (cellq_below h d0) (cellq_below h d1) : ∀ w', Below wr.heap.size wr w' → w'.rangeAt gb (ob + k * 2) (qC y))
        have h6w : g6 < wr.heap.size := B6.lt
        have h4w : g4 < wr.heap.size := B4.lt
        clear h1 x1 h2 x2 g1 g2 hx hy fx fy fs c0 c1 d0 d1
        go_wp2
        have hdd := below_drew wr
        refine wp_region_held_drew (S := fun w' => Below wr.heap.size wr w') (by kernel_rfl) hdd (fun hHeld => ?_)
        generalize wr.drew = wd at hdd hHeld ⊢
        refine wpAnyH_take (i := 0) (v := ?vad_0) rfl (by kernel_rfl) (by kernel_rfl) (by kernel_rfl) (fun _ _ _ h => h) (Or.inl ⟨by rfl, ?yad_0⟩) (by assumption) ?rad_0
        case yad_0 => intro w hSw; (try dsimp only at hSw); go_simp <;> (try with_reducible rfl)
        (try simp only [List.getElem_toArray, List.getElem_cons_zero, Act.put, List.setIfInBounds_toArray, List.set_cons_zero, List.set_cons_succ])
        refine wpAnyH_take (i := 1) (v := ?vad_1) rfl (by kernel_rfl) (by kernel_rfl) (by kernel_rfl) (fun _ _ _ h => h) (Or.inl ⟨by rfl, ?yad_1⟩) (by assumption) ?rad_1
        case yad_1 => intro w hSw; (try dsimp only at hSw); go_simp <;> (try with_reducible rfl)
        (try simp only [List.getElem_toArray, List.getElem_cons_succ, List.getElem_cons_zero, Act.put, List.setIfInBounds_toArray, List.set_cons_zero, List.set_cons_succ])
        refine wpAnyH_take (i := 2) (v := ?vad_2) rfl (by kernel_rfl) (by kernel_rfl) (by kernel_rfl) (fun _ _ _ h => h) (Or.inl ⟨by rfl, ?yad_2⟩) (by assumption) ?rad_2
        case yad_2 => intro w hSw; (try dsimp only at hSw); go_simp <;> (try with_reducible rfl)
        (try simp only [List.getElem_toArray, List.getElem_cons_succ, List.getElem_cons_zero, Act.put, List.setIfInBounds_toArray, List.set_cons_zero, List.set_cons_succ])
        refine' wpAnyH_take (i := 3) (v := _) rfl (by kernel_rfl) (by kernel_rfl) (by kernel_rfl) (fun _ _ _ h => h) (yieldsIf_load_mid (by rfl) _ _ (by rfl) _ _ (by rfl) _ _ ?Sad_3 ?uad_3 ?dad_3 ?iad_3) (by assumption) ?rad_3
        case Sad_3 => exact (by intro w h; exact KX.out _ h)
        case uad_3 => exact Tryd.underlying23
        case dad_3 => rfl
        case iad_3 => exact Tryd.szQ
        (try simp only [List.getElem_toArray, List.getElem_cons_succ, List.getElem_cons_zero, Act.put, List.setIfInBounds_toArray, List.set_cons_zero, List.set_cons_succ])
        refine wpAnyH_take (i := 4) (v := ?vad_4) rfl (by kernel_rfl) (by kernel_rfl) (by kernel_rfl) (fun _ _ _ h => h) (Or.inl ⟨by rfl, ?yad_4⟩) (by assumption) ?rad_4
        case yad_4 => intro w hSw; (try dsimp only at hSw); go_simp <;> (try with_reducible rfl)
        (try simp only [List.getElem_toArray, List.getElem_cons_succ, List.getElem_cons_zero, Act.put, List.setIfInBounds_toArray, List.set_cons_zero, List.set_cons_succ])
        refine wpAnyH_take (i := 5) (v := ?vad_5) rfl (by kernel_rfl) (by kernel_rfl) (by kernel_rfl) (fun _ _ _ h => h) (Or.inl ⟨by rfl, ?yad_5⟩) (by assumption) ?rad_5
        case yad_5 => intro w hSw; (try dsimp only at hSw); go_simp <;> (try with_reducible rfl)
        (try simp only [List.getElem_toArray, List.getElem_cons_succ, List.getElem_cons_zero, Act.put, List.setIfInBounds_toArray, List.set_cons_zero, List.set_cons_succ])
        refine wpAnyH_take (i := 6) (v := ?vad_6) rfl (by kernel_rfl) (by kernel_rfl) (by kernel_rfl) (fun _ _ _ h => h) (Or.inl ⟨by rfl, ?yad_6⟩) (by assumption) ?rad_6
        case yad_6 => intro w hSw; (try dsimp only at hSw); go_simp <;> (try with_reducible rfl)
        (try simp only [List.getElem_toArray, List.getElem_cons_succ, List.getElem_cons_zero, Act.put, List.setIfInBounds_toArray, List.set_cons_zero, List.set_cons_succ])
        refine' wpAnyH_take (i := 7) (v := _) rfl (by kernel_rfl) (by kernel_rfl) (by kernel_rfl) (fun _ _ _ h => h) (yieldsIf_load_mid (by rfl) _ _ (by rfl) _ _ (by rfl) _ _ ?Sad_7 ?uad_7 ?dad_7 ?iad_7) (by assumption) ?rad_7
        case Sad_7 => exact (by intro w h; exact KY.out _ h)
        case uad_7 => exact Tryd.underlying23
        case dad_7 => rfl
        case iad_7 => exact Tryd.szQ
        (try simp only [List.getElem_toArray, List.getElem_cons_succ, List.getElem_cons_zero, Act.put, List.setIfInBounds_toArray, List.set_cons_zero, List.set_cons_succ])
        refine wpAnyH_ready (rs := [8, 12]) (by kernel_rfl) (by simp) ?_
        refine AllReadyH.cons rfl (fun K hK => ?_) (AllReadyH.cons rfl (fun K hK => ?_) AllReadyH.nil)
        · skip
          go_simp
          go_wp2_with fail
          (with_reducible refine (X1.out _).mono ?_)
          rintro e w4 ⟨rfl, hb4⟩
          have hk4 := below_join hdd hb4
          refine hK.out _ _ hk4 (fun hHeld => ?_)
          clear hK K hb4 hdd
          refine wpAnyH_take (i := 9) (v := ?vae_9) rfl (by kernel_rfl) (by kernel_rfl) (by kernel_rfl) (fun _ _ _ h => h) (Or.inl ⟨by rfl, ?yae_9⟩) (by assumption) ?rae_9
          case yae_9 => intro w hSw; (try dsimp only at hSw); go_simp <;> (try with_reducible rfl)
          (try simp only [List.getElem_toArray, List.getElem_cons_succ, List.getElem_cons_zero, Act.put, List.setIfInBounds_toArray, List.set_cons_zero, List.set_cons_succ])
          refine wpAnyH_take (i := 10) (v := ?vae_10) rfl (by kernel_rfl) (by kernel_rfl) (by kernel_rfl) (fun _ _ _ h => h) (Or.inl ⟨by rfl, ?yae_10⟩) (by assumption) ?rae_10
          case yae_10 => intro w hSw; (try dsimp only at hSw); go_simp <;> (try with_reducible rfl)
          (try simp only [List.getElem_toArray, List.getElem_cons_succ, List.getElem_cons_zero, Act.put, List.setIfInBounds_toArray, List.set_cons_zero, List.set_cons_succ])
          refine wpAnyH_take (i := 11) (v := ?vae_11) rfl (by kernel_rfl) (by kernel_rfl) (by kernel_rfl) (fun _ _ _ h => h) (Or.inl ⟨by rfl, ?yae_11⟩) (by assumption) ?rae_11
          case yae_11 => intro w hSw; (try dsimp only at hSw); go_simp <;> (try with_reducible rfl)
          (try simp only [List.getElem_toArray, List.getElem_cons_succ, List.getElem_cons_zero, Act.put, List.setIfInBounds_toArray, List.set_cons_zero, List.set_cons_succ])
          refine wpAnyH_ready (rs := [12]) (by kernel_rfl) (by simp) ?_
          refine AllReadyH.cons rfl (fun K hK => ?_) AllReadyH.nil
          rw [if_pos (by rfl)]
          refine wp_allocz 23 rfl (.agg zC.toArray) zC Tryd.zeroQ rfl ?_
          intro g8 w5 hg8 hs5 hb5 B8
          have hb5 := hb5.mono (Nat.le_of_eq hg8.out.symm)
          have hk5 := below_join hk4 hb5
          have hle8 : wr.heap.size ≤ g8 := by have := hk4.size; have := hg8.out; omega
          refine hK.out _ _ hk5 (fun hHeld => ?_)
          clear hK K hb5 hg8 hs5 hk4
          refine wpAnyH_ready (rs := [13]) (by kernel_rfl) (by simp) ?_
          refine AllReadyH.cons rfl (fun K hK => ?_) AllReadyH.nil
          rw [if_pos (by rfl)]
          refine wp_put 23 (.tmp 8) (.tmp 35) rfl g8 0 rfl (.agg [Value.int .i64 N1, Value.int .i64 D1].toArray) rfl B8 [Value.int .i64 N1, Value.int .i64 D1] rfl (by exact Tryd.szQ) (by exact Nat.le_refl 2) (int_one _ _) ?_
          intro w6 hu6 hB6
          rw [splice_all _ _ (by rfl)] at hB6
          clear B8
          have B8 := hB6
          have hk6 := hk5.trans (hu6.below (B := wr.heap.size) hle8)
          refine hK.out _ _ hk6 (fun hHeld => ?_)
          clear hK K hu6 hB6 hk5
          refine wpAnyH_take (i := 14) (v := ?vae_14) rfl (by kernel_rfl) (by kernel_rfl) (by kernel_rfl) (fun _ _ _ h => h) (Or.inl ⟨by rfl, ?yae_14⟩) (by assumption) ?rae_14
          case yae_14 => intro w hSw; (try dsimp only at hSw); go_simp <;> (try with_reducible rfl)
          (try simp only [List.getElem_toArray, List.getElem_cons_succ, List.getElem_cons_zero, Act.put, List.setIfInBounds_toArray, List.set_cons_zero, List.set_cons_succ])
          refine wpAnyH_done (by kernel_rfl) ?_ _
          clear hHeld KX KY
          have B4 := B4.next hk6 B4.lt
          have B6 := B6.next hk6 B6.lt
          have hbe := below_join hbe hk6
          clear hk6
          rcases G1.out with ⟨f1, rfl, rfl, rfl⟩ | ⟨f1, rfl⟩
          · skip
            have X2 := Lib.hid (X2.out f1)
            have z60 := B6.cell (k := 0) rfl
            have z61 := B6.cell (k := 1) rfl
            have z80 := B8.cell (k := 0) rfl
            have z81 := B8.cell (k := 1) rfl
            go_wp2_with fail
            (with_reducible refine (X2.out _).mono ?_)
            rintro e w7 ⟨rfl, hb7⟩
            have B4 := B4.next hb7 B4.lt
            have B6 := B6.next hb7 B6.lt
            have B8 := B8.next hb7 B8.lt
            have hbe := below_join hbe hb7
            clear hb7
            clear z60 z61 z80 z81
            have ne8_6 : g8 ≠ g6 := by omega
            have ne8_4 : g8 ≠ g4 := by omega
            go_wp2_with (with_reducible refine wpList_alloc (o := ⟨some 10, .alloc 23, _, _, _, _⟩) (by with_unfolding_all rfl) 23 (by with_unfolding_all rfl) (.agg zC.toArray) zC (by exact Tryd.zeroQ) (by with_unfolding_all rfl) ?_)
            intro g10 w8 hg10 hs8 hb8 B10
            have hl10 : w.heap.size ≤ g10 := Nat.le_trans hbe.size (Nat.le_of_eq hg10.out.symm)
            have ne4_10 : g4 ≠ g10 := by have := B4.lt; have := hg10.out; omega
            have ne6_10 : g6 ≠ g10 := by have := B6.lt; have := hg10.out; omega
            have hb8 := hb8.mono (Nat.le_of_eq hg10.out.symm)
            have B4 := B4.next hb8 B4.lt
            have B6 := B6.next hb8 B6.lt
            have hbe := below_join hbe hb8
            clear hb8 hg10 hs8
            go_wp2_with (with_reducible refine wpList_put (o := ⟨none, .store 23 (.tmp 10) (.tmp 45), _, _, _, _⟩) (by with_unfolding_all rfl) 23 (.tmp 10) (.tmp 45) (by with_unfolding_all rfl) g10 0 (by with_unfolding_all rfl) (.agg [Value.int .i64 N2, Value.int .i64 D2].toArray) (by with_unfolding_all rfl) B10 [Value.int .i64 N2, Value.int .i64 D2] (by with_unfolding_all rfl) (by with_unfolding_all (exact Tryd.szQ)) (by with_unfolding_all (exact Nat.le_refl 2)) (by with_unfolding_all (exact int_one _ _)) ?_)
            clear B10
            intro w9 hu9 B10
            rw [splice_all _ _ (by rfl)] at B10
            have hbe := hbe.trans (hu9.below (B := w.heap.size) hl10)
            have B4 := B4.upd hu9 (by first | exact ne4_10 | exact ne10_4.symm)
            have B6 := B6.upd hu9 (by first | exact ne6_10 | exact ne10_6.symm)
            clear hu9
            rcases G2.out with ⟨f2, rfl, rfl, rfl⟩ | ⟨f2, rfl⟩
            · skip
              have z100 := B10.cell (k := 0) rfl
              have z101 := B10.cell (k := 1) rfl
              go_wp2_with (with_reducible refine wpList_put (o := ⟨none, .store 23 (.tmp 6) (.tmp 51), _, _, _, _⟩) (by with_unfolding_all rfl) 23 (.tmp 6) (.tmp 51) (by with_unfolding_all rfl) g6 0 (by with_unfolding_all rfl) (.agg [Value.int .i64 (s + x * y).num, Value.int .i64 ((s + x * y).den : Int)].toArray) (by with_unfolding_all rfl) B6 [Value.int .i64 (s + x * y).num, Value.int .i64 ((s + x * y).den : Int)] (by with_unfolding_all rfl) (by with_unfolding_all (exact Tryd.szQ)) (by with_unfolding_all (exact Nat.le_refl 2)) (by with_unfolding_all (exact int_one _ _)) ?_)
              clear B6
              intro w10 hu10 B6
              rw [splice_all _ _ (by rfl)] at B6
              have hbe := hbe.trans (hu10.below (B := w.heap.size) hl6)
              have B4 := B4.upd hu10 (by first | exact ne4_6 | exact ne6_4.symm)
              have B10 := B10.upd hu10 (by first | exact ne10_6 | exact ne6_10.symm)
              clear hu10
              clear z100 z101
              have HI2 : Hid (DotI a b g4 g6 w (k + 1) (s + x * y) w10) := by
                have : DotI a b g4 g6 w (k + 1) (s + x * y) w10 := ⟨by rw [HST.out]; unfold okQ; rw [if_pos f1, Option.bind_some, if_pos f2], B4, B6, hbe⟩
                exact this
              clear B4 B6 hbe X1 X2
              go_wp2
              go_roundw
              case rel => exact ⟨k + 1, (s + x * y), by omega, by go_num, HI2.out⟩
              case measure => simp [intOf]; omega
            · skip
              have he : E = zret 17 := by
                have h1 : dotM a b (k + 1) = none := by rw [HST.out]; unfold okQ; rw [if_pos f1, Option.bind_some, if_neg f2]
                rw [← hEn.out, dotM_fell h1 n (by omega)]; rfl
              have HE := Lib.hid he
              clear he
              go_wp2_with (first | (with_reducible refine wpList_build (o := ⟨some 49, .build 23 #[], _, _, _, _⟩) (by with_unfolding_all rfl) 23 #[] (by with_unfolding_all rfl) #[] (by with_unfolding_all rfl) (.agg zC.toArray) (by with_unfolding_all exact fun w => run_buildQ0 w) ?_) | (with_reducible refine wpList_put (o := ⟨none, .store 23 (.tmp 4) (.tmp 49), _, _, _, _⟩) (by with_unfolding_all rfl) 23 (.tmp 4) (.tmp 49) (by with_unfolding_all rfl) g4 0 (by with_unfolding_all rfl) (.agg zC.toArray) (by with_unfolding_all rfl) B4 zC (by with_unfolding_all rfl) (by with_unfolding_all (exact Tryd.szQ)) (by with_unfolding_all (exact Nat.le_refl 2)) (by with_unfolding_all (exact int_one _ _)) ?_))
              clear B4
              intro w10 hu10 B4
              rw [splice_all _ _ (by rfl)] at B4
              have hbe := hbe.trans (hu10.below (B := w.heap.size) hl4)
              clear hu10
              go_wp2
              exact bodyPost_ret (results_cell_two rfl _ _ g4 _ _ _ _ _ rfl rfl B4 Tryd.underlying23 rfl Tryd.szQ) rfl ⟨by rw [HE.out]; rfl, hbe⟩
          · skip
            have he : E = zret 17 := by
              have h1 : dotM a b (k + 1) = none := by rw [HST.out]; unfold okQ; rw [if_neg f1]; rfl
              rw [← hEn.out, dotM_fell h1 n (by omega)]; rfl
            have HE := Lib.hid he
            clear he
            go_wp2_with (first | (with_reducible refine wpList_build (o := ⟨some 39, .build 23 #[], _, _, _, _⟩) (by with_unfolding_all rfl) 23 #[] (by with_unfolding_all rfl) #[] (by with_unfolding_all rfl) (.agg zC.toArray) (by with_unfolding_all exact fun w => run_buildQ0 w) ?_) | (with_reducible refine wpList_put (o := ⟨none, .store 23 (.tmp 4) (.tmp 39), _, _, _, _⟩) (by with_unfolding_all rfl) 23 (.tmp 4) (.tmp 39) (by with_unfolding_all rfl) g4 0 (by with_unfolding_all rfl) (.agg zC.toArray) (by with_unfolding_all rfl) B4 zC (by with_unfolding_all rfl) (by with_unfolding_all (exact Tryd.szQ)) (by with_unfolding_all (exact Nat.le_refl 2)) (by with_unfolding_all (exact int_one _ _)) ?_))
            clear B4
            intro w7 hu7 B4
            rw [splice_all _ _ (by rfl)] at B4
            have hbe := hbe.trans (hu7.below (B := w.heap.size) hl4)
            clear hu7
            go_wp2
            exact bodyPost_ret (results_cell_two rfl _ _ g4 _ _ _ _ _ rfl rfl B4 Tryd.underlying23 rfl Tryd.szQ) rfl ⟨by rw [HE.out]; rfl, hbe⟩
        · skip
          rw [if_pos (by rfl)]
          refine wp_allocz 23 rfl (.agg zC.toArray) zC Tryd.zeroQ rfl ?_
          intro g8 w4 hg8 hs4 hb4 B8
          have hb4 := hb4.mono (Nat.le_of_eq hg8.out.symm)
          have hk4 := below_join hdd hb4
          have hle8 : wr.heap.size ≤ g8 := by have := hdd.size; have := hg8.out; omega
          refine hK.out _ _ hk4 (fun hHeld => ?_)
          clear hK K hb4 hg8 hs4 hdd
          refine wpAnyH_ready (rs := [8]) (by kernel_rfl) (by simp) ?_
          refine AllReadyH.cons rfl (fun K hK => ?_) AllReadyH.nil
          go_simp
          go_wp2_with fail
          (with_reducible refine (X1.out _).mono ?_)
          rintro e w5 ⟨rfl, hb5⟩
          have B8 := B8.next hb5 B8.lt
          have hk5 := below_join hk4 hb5
          refine hK.out _ _ hk5 (fun hHeld => ?_)
          clear hK K hb5 hk4
          refine wpAnyH_take (i := 9) (v := ?vaf_9) rfl (by kernel_rfl) (by kernel_rfl) (by kernel_rfl) (fun _ _ _ h => h) (Or.inl ⟨by rfl, ?yaf_9⟩) (by assumption) ?raf_9
          case yaf_9 => intro w hSw; (try dsimp only at hSw); go_simp <;> (try with_reducible rfl)
          (try simp only [List.getElem_toArray, List.getElem_cons_succ, List.getElem_cons_zero, Act.put, List.setIfInBounds_toArray, List.set_cons_zero, List.set_cons_succ])
          refine wpAnyH_take (i := 10) (v := ?vaf_10) rfl (by kernel_rfl) (by kernel_rfl) (by kernel_rfl) (fun _ _ _ h => h) (Or.inl ⟨by rfl, ?yaf_10⟩) (by assumption) ?raf_10
          case yaf_10 => intro w hSw; (try dsimp only at hSw); go_simp <;> (try with_reducible rfl)
          (try simp only [List.getElem_toArray, List.getElem_cons_succ, List.getElem_cons_zero, Act.put, List.setIfInBounds_toArray, List.set_cons_zero, List.set_cons_succ])
          refine wpAnyH_take (i := 11) (v := ?vaf_11) rfl (by kernel_rfl) (by kernel_rfl) (by kernel_rfl) (fun _ _ _ h => h) (Or.inl ⟨by rfl, ?yaf_11⟩) (by assumption) ?raf_11
          case yaf_11 => intro w hSw; (try dsimp only at hSw); go_simp <;> (try with_reducible rfl)
          (try simp only [List.getElem_toArray, List.getElem_cons_succ, List.getElem_cons_zero, Act.put, List.setIfInBounds_toArray, List.set_cons_zero, List.set_cons_succ])
          refine wpAnyH_ready (rs := [13]) (by kernel_rfl) (by simp) ?_
          refine AllReadyH.cons rfl (fun K hK => ?_) AllReadyH.nil
          rw [if_pos (by rfl)]
          refine wp_put 23 (.tmp 8) (.tmp 35) rfl g8 0 rfl (.agg [Value.int .i64 N1, Value.int .i64 D1].toArray) rfl B8 [Value.int .i64 N1, Value.int .i64 D1] rfl (by exact Tryd.szQ) (by exact Nat.le_refl 2) (int_one _ _) ?_
          intro w6 hu6 hB6
          rw [splice_all _ _ (by rfl)] at hB6
          clear B8
          have B8 := hB6
          have hk6 := hk5.trans (hu6.below (B := wr.heap.size) hle8)
          refine hK.out _ _ hk6 (fun hHeld => ?_)
          clear hK K hu6 hB6 hk5
          refine wpAnyH_take (i := 14) (v := ?vaf_14) rfl (by kernel_rfl) (by kernel_rfl) (by kernel_rfl) (fun _ _ _ h => h) (Or.inl ⟨by rfl, ?yaf_14⟩) (by assumption) ?raf_14
          case yaf_14 => intro w hSw; (try dsimp only at hSw); go_simp <;> (try with_reducible rfl)
          (try simp only [List.getElem_toArray, List.getElem_cons_succ, List.getElem_cons_zero, Act.put, List.setIfInBounds_toArray, List.set_cons_zero, List.set_cons_succ])
          refine wpAnyH_done (by kernel_rfl) ?_ _
          clear hHeld KX KY
          have B4 := B4.next hk6 B4.lt
          have B6 := B6.next hk6 B6.lt
          have hbe := below_join hbe hk6
          clear hk6
          rcases G1.out with ⟨f1, rfl, rfl, rfl⟩ | ⟨f1, rfl⟩
          · skip
            have X2 := Lib.hid (X2.out f1)
            have z60 := B6.cell (k := 0) rfl
            have z61 := B6.cell (k := 1) rfl
            have z80 := B8.cell (k := 0) rfl
            have z81 := B8.cell (k := 1) rfl
            go_wp2_with fail
            (with_reducible refine (X2.out _).mono ?_)
            rintro e w7 ⟨rfl, hb7⟩
            have B4 := B4.next hb7 B4.lt
            have B6 := B6.next hb7 B6.lt
            have B8 := B8.next hb7 B8.lt
            have hbe := below_join hbe hb7
            clear hb7
            clear z60 z61 z80 z81
            have ne8_6 : g8 ≠ g6 := by omega
            have ne8_4 : g8 ≠ g4 := by omega
            go_wp2_with (with_reducible refine wpList_alloc (o := ⟨some 10, .alloc 23, _, _, _, _⟩) (by with_unfolding_all rfl) 23 (by with_unfolding_all rfl) (.agg zC.toArray) zC (by exact Tryd.zeroQ) (by with_unfolding_all rfl) ?_)
            intro g10 w8 hg10 hs8 hb8 B10
            have hl10 : w.heap.size ≤ g10 := Nat.le_trans hbe.size (Nat.le_of_eq hg10.out.symm)
            have ne4_10 : g4 ≠ g10 := by have := B4.lt; have := hg10.out; omega
            have ne6_10 : g6 ≠ g10 := by have := B6.lt; have := hg10.out; omega
            have hb8 := hb8.mono (Nat.le_of_eq hg10.out.symm)
            have B4 := B4.next hb8 B4.lt
            have B6 := B6.next hb8 B6.lt
            have hbe := below_join hbe hb8
            clear hb8 hg10 hs8
            go_wp2_with (with_reducible refine wpList_put (o := ⟨none, .store 23 (.tmp 10) (.tmp 45), _, _, _, _⟩) (by with_unfolding_all rfl) 23 (.tmp 10) (.tmp 45) (by with_unfolding_all rfl) g10 0 (by with_unfolding_all rfl) (.agg [Value.int .i64 N2, Value.int .i64 D2].toArray) (by with_unfolding_all rfl) B10 [Value.int .i64 N2, Value.int .i64 D2] (by with_unfolding_all rfl) (by with_unfolding_all (exact Tryd.szQ)) (by with_unfolding_all (exact Nat.le_refl 2)) (by with_unfolding_all (exact int_one _ _)) ?_)
            clear B10
            intro w9 hu9 B10
            rw [splice_all _ _ (by rfl)] at B10
            have hbe := hbe.trans (hu9.below (B := w.heap.size) hl10)
            have B4 := B4.upd hu9 (by first | exact ne4_10 | exact ne10_4.symm)
            have B6 := B6.upd hu9 (by first | exact ne6_10 | exact ne10_6.symm)
            clear hu9
            rcases G2.out with ⟨f2, rfl, rfl, rfl⟩ | ⟨f2, rfl⟩
            · skip
              have z100 := B10.cell (k := 0) rfl
              have z101 := B10.cell (k := 1) rfl
              go_wp2_with (with_reducible refine wpList_put (o := ⟨none, .store 23 (.tmp 6) (.tmp 51), _, _, _, _⟩) (by with_unfolding_all rfl) 23 (.tmp 6) (.tmp 51) (by with_unfolding_all rfl) g6 0 (by with_unfolding_all rfl) (.agg [Value.int .i64 (s + x * y).num, Value.int .i64 ((s + x * y).den : Int)].toArray) (by with_unfolding_all rfl) B6 [Value.int .i64 (s + x * y).num, Value.int .i64 ((s + x * y).den : Int)] (by with_unfolding_all rfl) (by with_unfolding_all (exact Tryd.szQ)) (by with_unfolding_all (exact Nat.le_refl 2)) (by with_unfolding_all (exact int_one _ _)) ?_)
              clear B6
              intro w10 hu10 B6
              rw [splice_all _ _ (by rfl)] at B6
              have hbe := hbe.trans (hu10.below (B := w.heap.size) hl6)
              have B4 := B4.upd hu10 (by first | exact ne4_6 | exact ne6_4.symm)
              have B10 := B10.upd hu10 (by first | exact ne10_6 | exact ne6_10.symm)
              clear hu10
              clear z100 z101
              have HI2 : Hid (DotI a b g4 g6 w (k + 1) (s + x * y) w10) := by
                have : DotI a b g4 g6 w (k + 1) (s + x * y) w10 := ⟨by rw [HST.out]; unfold okQ; rw [if_pos f1, Option.bind_some, if_pos f2], B4, B6, hbe⟩
                exact this
              clear B4 B6 hbe X1 X2
              go_wp2
              go_roundw
              case rel => exact ⟨k + 1, (s + x * y), by omega, by go_num, HI2.out⟩
              case measure => simp [intOf]; omega
            · skip
              have he : E = zret 17 := by
                have h1 : dotM a b (k + 1) = none := by rw [HST.out]; unfold okQ; rw [if_pos f1, Option.bind_some, if_neg f2]
                rw [← hEn.out, dotM_fell h1 n (by omega)]; rfl
              have HE := Lib.hid he
              clear he
              go_wp2_with (first | (with_reducible refine wpList_build (o := ⟨some 49, .build 23 #[], _, _, _, _⟩) (by with_unfolding_all rfl) 23 #[] (by with_unfolding_all rfl) #[] (by with_unfolding_all rfl) (.agg zC.toArray) (by with_unfolding_all exact fun w => run_buildQ0 w) ?_) | (with_reducible refine wpList_put (o := ⟨none, .store 23 (.tmp 4) (.tmp 49), _, _, _, _⟩) (by with_unfolding_all rfl) 23 (.tmp 4) (.tmp 49) (by with_unfolding_all rfl) g4 0 (by with_unfolding_all rfl) (.agg zC.toArray) (by with_unfolding_all rfl) B4 zC (by with_unfolding_all rfl) (by with_unfolding_all (exact Tryd.szQ)) (by with_unfolding_all (exact Nat.le_refl 2)) (by with_unfolding_all (exact int_one _ _)) ?_))
              clear B4
              intro w10 hu10 B4
              rw [splice_all _ _ (by rfl)] at B4
              have hbe := hbe.trans (hu10.below (B := w.heap.size) hl4)
              clear hu10
              go_wp2
              exact bodyPost_ret (results_cell_two rfl _ _ g4 _ _ _ _ _ rfl rfl B4 Tryd.underlying23 rfl Tryd.szQ) rfl ⟨by rw [HE.out]; rfl, hbe⟩
          · skip
            have he : E = zret 17 := by
              have h1 : dotM a b (k + 1) = none := by rw [HST.out]; unfold okQ; rw [if_neg f1]; rfl
              rw [← hEn.out, dotM_fell h1 n (by omega)]; rfl
            have HE := Lib.hid he
            clear he
            go_wp2_with (first | (with_reducible refine wpList_build (o := ⟨some 39, .build 23 #[], _, _, _, _⟩) (by with_unfolding_all rfl) 23 #[] (by with_unfolding_all rfl) #[] (by with_unfolding_all rfl) (.agg zC.toArray) (by with_unfolding_all exact fun w => run_buildQ0 w) ?_) | (with_reducible refine wpList_put (o := ⟨none, .store 23 (.tmp 4) (.tmp 39), _, _, _, _⟩) (by with_unfolding_all rfl) 23 (.tmp 4) (.tmp 39) (by with_unfolding_all rfl) g4 0 (by with_unfolding_all rfl) (.agg zC.toArray) (by with_unfolding_all rfl) B4 zC (by with_unfolding_all rfl) (by with_unfolding_all (exact Tryd.szQ)) (by with_unfolding_all (exact Nat.le_refl 2)) (by with_unfolding_all (exact int_one _ _)) ?_))
            clear B4
            intro w7 hu7 B4
            rw [splice_all _ _ (by rfl)] at B4
            have hbe := hbe.trans (hu7.below (B := w.heap.size) hl4)
            clear hu7
            go_wp2
            exact bodyPost_ret (results_cell_two rfl _ _ g4 _ _ _ _ _ rfl rfl B4 Tryd.underlying23 rfl Tryd.szQ) rfl ⟨by rw [HE.out]; rfl, hbe⟩
      · obtain rfl : k = n := by omega
        have he : E = .returned (.tuple #[.agg [Value.int .i64 s.num, Value.int .i64 (s.den : Int)].toArray, .int .i64 0]) := by rw [← hEn.out, HV.out]; rfl
        have HE := Lib.hid he
        clear he
        have z60 := B6.cell (k := 0) rfl
        have z61 := B6.cell (k := 1) rfl
        go_wp2_with (with_reducible refine wpList_put (o := ⟨none, .store 23 (.tmp 4) (.tmp 52), _, _, _, _⟩) (by with_unfolding_all rfl) 23 (.tmp 4) (.tmp 52) (by with_unfolding_all rfl) g4 0 (by with_unfolding_all rfl) (.agg [Value.int .i64 s.num, Value.int .i64 (s.den : Int)].toArray) (by with_unfolding_all rfl) B4 [Value.int .i64 s.num, Value.int .i64 (s.den : Int)] (by with_unfolding_all rfl) (by with_unfolding_all (exact Tryd.szQ)) (by with_unfolding_all (exact Nat.le_refl 2)) (by with_unfolding_all (exact int_one _ _)) ?_)
        clear B4
        intro w4 hu4 B4
        rw [splice_all _ _ (by rfl)] at B4
        have hbe := hbe.trans (hu4.below (B := w.heap.size) hl4)
        clear hu4
        go_wp2
        exact bodyPost_ret (results_cell_two rfl _ _ g4 _ _ _ _ _ rfl rfl B4 Tryd.underlying23 rfl Tryd.szQ) rfl ⟨by rw [HE.out]; rfl, hbe⟩
  · skip
    have hne : ((n : Int) != (m : Int)) = true := bne_iff_ne.2 (by omega)
    have hEn : Hid (E = zret 1) := by
      have : E = zret 1 := by rw [← hE.out, if_neg hnm]
      exact this
    go_wp2_with (first | (with_reducible refine wpList_build (o := ⟨some 17, .build 23 #[], _, _, _, _⟩) (by with_unfolding_all rfl) 23 #[] (by with_unfolding_all rfl) #[] (by with_unfolding_all rfl) (.agg zC.toArray) (by with_unfolding_all exact fun w => run_buildQ0 w) ?_) | (with_reducible refine wpList_put (o := ⟨none, .store 23 (.tmp 4) (.tmp 17), _, _, _, _⟩) (by with_unfolding_all rfl) 23 (.tmp 4) (.tmp 17) (by with_unfolding_all rfl) g4 0 (by with_unfolding_all rfl) (.agg zC.toArray) (by with_unfolding_all rfl) B4 zC (by with_unfolding_all rfl) (by with_unfolding_all (exact Tryd.szQ)) (by with_unfolding_all (exact Nat.le_refl 2)) (by with_unfolding_all (exact int_one _ _)) ?_))
    clear B4
    intro w2 hu2 B4
    rw [splice_all _ _ (by rfl)] at B4
    have hbe := hbe.trans (hu2.below (B := w.heap.size) hl4)
    clear hu2
    go_wp2
    exact bodyPost_ret (results_cell_two rfl _ _ g4 _ _ _ _ _ rfl rfl B4 Tryd.underlying23 rfl Tryd.szQ) rfl ⟨by rw [hEn.out]; rfl, hbe⟩
end Go.Proofs.YthjaelopmfjfeaaDoor
