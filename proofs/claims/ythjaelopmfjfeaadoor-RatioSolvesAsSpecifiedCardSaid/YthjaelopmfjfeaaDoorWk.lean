/-
  The walk over eliminate. Conditions: the table lies there.
-/
import Derived.Test.YthjaelopmfjfeaaDoorWj
import Derived.Deep.LoopGhost
namespace Go.Proofs.YthjaelopmfjfeaaDoor
set_option linter.unusedVariables false
set_option linter.unusedSimpArgs false
open Go.RowKit Go.Shelf

set_option maxRecDepth 100000 in
set_option maxHeartbeats 6400000 in
theorem eliminate_any (B T gr ge N n m cr : Nat) (M0 : List RowM) (C : List (List Rat)) (w : World) (hT : T ≤ w.heap.size) (hBT : B ≤ T) (hm : M0.length = m) (hm9 : m ≤ 900) (hnN : n ≤ N) (hN : N ≤ 900) (hE : EL B T gr ge N M0 C w) :
    Calls Tryd.prog 62 #[.slice (some ⟨gr, 0, none⟩) m cr, .int .i64 (n : Int), doV ge] w fun e w' => Below B w w' ∧
      ((∃ h hs M C2, elimM C n = some (C2, hs) ∧ e = .returned (.tuple #[h, .int .i64 0]) ∧ EL B T gr ge N M C2 w' ∧ M.length = m ∧ hs.length ≤ m ∧ w'.ownsRow T 3 1 h hs.length (headsV hs)) ∨
        (elimM C n = none ∧ e = .returned (.tuple #[.slice none 0 0, .int .i64 17]))) := by
  have HE0 : Hid (ElRel B T gr ge N n m C w (.slice none 0 0) (.int .i64 0) w) := (⟨0, [], M0, C, Nat.zero_le _, rfl, rfl, hE, hm, Nat.zero_le _, World.ownsRow_nil _ _ _ _, Below.refl _ _, hT⟩ : ElRel B T gr ge N n m C w (.slice none 0 0) (.int .i64 0) w)
  clear hE hm
  obtain ⟨DO, hDO⟩ : ∃ D, doV ge = D := ⟨_, rfl⟩
  rw [hDO]
  have HDO := Lib.hid hDO
  clear hDO
  go_enter Tryd.func62, Tryd.ntmps62
  go_wp2
  go_step3
  go_wp2
  go_step3
  go_wp2
  go_loopg [8, 17] n (fun g h i wx => (intOf i).toNat + g = n ∧ ElRel B T gr ge N n m C w h i wx)
  case atStart => exact ⟨by simp [intOf], HE0.out⟩
  case round =>
    clear HE0
    obtain ⟨hgk, hrel⟩ := hrel
    obtain ⟨k, hs, M, C2, hk, rfl, hel, hE, hM, hu, hown, hbe, hsz⟩ := hrel
    obtain ⟨u, hul⟩ : ∃ u, hs.length = u := ⟨_, rfl⟩
    rw [hul] at hown hu
    have hgk : k + gk = n := by simpa [intOf] using hgk
    obtain ⟨A, ch, rfl, _⟩ := own_shape hown
    by_cases hlt : k < n
    · have hki : (k : Int) < (n : Int) := by omega
      have hkN : k < N := by omega
      have hkN1 : (k : Int) < (N : Int) := by omega
      have hk0 : (0 : Int) ≤ (k : Int) := by omega
      have HEL := Lib.hid hel
      have HOW := Lib.hid hown
      have HEE := Lib.hid hE
      have HUL := Lib.hid hul
      clear hel hown hE hul
      go_wp2
      go_loopg [11] (m - u) (fun g i wx => (intOf i).toNat + g = m ∧ PivRel C2 u k m wr i wx)
      case atStart => exact ⟨by simp [intOf]; omega, u, Nat.le_refl _, hu, rfl, (fun x h1 h2 => absurd h2 (by omega)), rfl⟩
      case round =>
        obtain ⟨hgi, i, hi, him, rfl, hz, rfl⟩ := hrel
        have hgi : i + gk = m := by simpa [intOf] using hgi
        have hMC := HEE.out.same
        by_cases hlt2 : i < m
        · have hii : (i : Int) < (m : Int) := by omega
          have hin : ¬ (m : Int) ≤ (i : Int) := by omega
          have hi0 : (0 : Int) ≤ (i : Int) := by omega
          obtain ⟨r, hr⟩ : ∃ r, M[i]? = some r := ⟨_, List.getElem?_eq_getElem (by omega)⟩
          obtain ⟨l, hl⟩ : ∃ l, C2[i]? = some l := ⟨_, List.getElem?_eq_getElem (by omega)⟩
          obtain ⟨hll, hlf, hlB⟩ := HEE.out.rows i r l hr hl
          obtain ⟨x, hx⟩ : ∃ x, l[k]? = some x := ⟨_, List.getElem?_eq_getElem (by omega)⟩
          have hc1 := HEE.out.hdrs.cell (k := i) (v := rowV N r) (by rw [List.getElem?_map, hr]; rfl)
          have hc2 := hlB.cell (rowR_cell (R := r.2.2) (prs_get hx)).1
          have hat : at2 C2 i k = x := by unfold at2; rw [hl, Option.bind_some, hx]; rfl
          obtain ⟨g, c, R⟩ := r
          unfold rowV at hc1
          dsimp only at hc1 hc2
          have HLB := Lib.hid hlB
          have HR := Lib.hid hr
          have HL := Lib.hid hl
          have HX := Lib.hid hx
          have HLF := Lib.hid hlf
          have HZ := Lib.hid hz
          clear hlB hr hl hx hlf hz
          by_cases hx0 : x.num = 0
          · have hxz : x = 0 := Rat.num_eq_zero.1 hx0
            rw [hx0] at hc2
            go_wp2
            go_roundg (m - (i + 1))
            case measure => omega
            case rel => exact ⟨by simp [intOf]; omega, i + 1, by omega, by omega, by go_num, (fun y h1 h2 => by
              rcases Nat.lt_or_ge y i with h3 | h3
              · exact HZ.out y h1 h3
              · obtain rfl : y = i := by omega
                rw [hat, hxz]), rfl⟩
          · have hxz : x ≠ 0 := fun e => hx0 (by rw [e]; rfl)
            have hpv : pivot C2 u k = some i := pivot_some (by omega) hi (by rw [hat]; exact hxz) HZ.out
            have HPV := Lib.hid hpv
            clear hpv
            go_wp2
            have hum : u < m := by omega
            have hui : (u : Int) < (m : Int) := by omega
            have hu0 : (0 : Int) ≤ (u : Int) := by omega
            obtain ⟨ru, hru⟩ : ∃ r, M[u]? = some r := ⟨_, List.getElem?_eq_getElem (by omega)⟩
            obtain ⟨lu, hlu⟩ : ∃ l, C2[u]? = some l := ⟨_, List.getElem?_eq_getElem (by omega)⟩
            have hdd := below_drew wr
            have hddT := hdd.mono hsz
            have hEd := HEE.out.keep hddT
            have hOd := own_only (L := []) HOW.out (Only.of_below hdd) (fun k hk => by cases hk)
            have hbd := hbe.trans (hdd.mono (Nat.le_trans hBT hsz))
            have hsd := Nat.le_trans hsz hdd.size
            refine wp_region_held_drew (S := fun _ => True) (by kernel_rfl) trivial (fun hHeld => ?_)
            generalize wr.drew = wd at hdd hddT hEd hOd hbd hsd hHeld ⊢
            have hci := hEd.hdrs.cell (k := i) (v := rowV N (g, c, R)) (by rw [List.getElem?_map, HR.out]; rfl)
            have hcu := hEd.hdrs.cell (k := u) (v := rowV N ru) (by rw [List.getElem?_map, hru]; rfl)
            refine wpAnyH_take (i := 0) (v := ?vv0) rfl (by kernel_rfl) (by kernel_rfl) (by kernel_rfl) (fun _ _ _ h => h) (Or.inl ⟨by rfl, ?yv0⟩) (by assumption) ?rv0
            case yv0 => intro w hSw; (try dsimp only at hSw); go_simp <;> (try with_reducible rfl)
            (try simp only [List.getElem_toArray, List.getElem_cons_zero, Act.put, List.setIfInBounds_toArray, List.set_cons_zero, List.set_cons_succ])
            refine wpAnyH_take (i := 1) (v := ?vv1) rfl (by kernel_rfl) (by kernel_rfl) (by kernel_rfl) (fun _ _ _ h => h) (Or.inl ⟨by rfl, ?yv1⟩) (by assumption) ?rv1
            case yv1 => intro w hSw; (try dsimp only at hSw); go_simp <;> (try with_reducible rfl)
            (try simp only [List.getElem_toArray, List.getElem_cons_succ, List.getElem_cons_zero, Act.put, List.setIfInBounds_toArray, List.set_cons_zero, List.set_cons_succ])
            refine wpAnyH_take (i := 2) (v := ?vv2) rfl (by kernel_rfl) (by kernel_rfl) (by kernel_rfl) (fun _ _ _ h => h) (Or.inl ⟨by rfl, ?yv2⟩) (by assumption) ?rv2
            case yv2 => intro w hSw; (try dsimp only at hSw); go_simp <;> (try with_reducible rfl)
            (try simp only [List.getElem_toArray, List.getElem_cons_succ, List.getElem_cons_zero, Act.put, List.setIfInBounds_toArray, List.set_cons_zero, List.set_cons_succ])
            refine wpAnyH_take (i := 3) (v := ?vv3) rfl (by kernel_rfl) (by kernel_rfl) (by kernel_rfl) (fun _ _ _ h => h) (Or.inl ⟨by rfl, ?yv3⟩) (by assumption) ?rv3
            case yv3 => intro w hSw; (try dsimp only at hSw); go_simp <;> (try with_reducible rfl)
            (try simp only [List.getElem_toArray, List.getElem_cons_succ, List.getElem_cons_zero, Act.put, List.setIfInBounds_toArray, List.set_cons_zero, List.set_cons_succ])
            refine wpAnyH_take (i := 4) (v := ?vv4) rfl (by kernel_rfl) (by kernel_rfl) (by kernel_rfl) (fun _ _ _ h => h) (Or.inl ⟨by rfl, ?yv4⟩) (by assumption) ?rv4
            case yv4 => intro w hSw; (try dsimp only at hSw); go_simp <;> (try with_reducible rfl)
            (try simp only [List.getElem_toArray, List.getElem_cons_succ, List.getElem_cons_zero, Act.put, List.setIfInBounds_toArray, List.set_cons_zero, List.set_cons_succ])
            refine wpAnyH_take (i := 5) (v := ?vv5) rfl (by kernel_rfl) (by kernel_rfl) (by kernel_rfl) (fun _ _ _ h => h) (Or.inl ⟨by rfl, ?yv5⟩) (by assumption) ?rv5
            case yv5 => intro w hSw; (try dsimp only at hSw); go_simp <;> (try with_reducible rfl)
            (try simp only [List.getElem_toArray, List.getElem_cons_succ, List.getElem_cons_zero, Act.put, List.setIfInBounds_toArray, List.set_cons_zero, List.set_cons_succ])
            refine wpAnyH_take (i := 6) (v := ?vv6) rfl (by kernel_rfl) (by kernel_rfl) (by kernel_rfl) (fun _ _ _ h => h) (Or.inl ⟨by rfl, ?yv6⟩) (by assumption) ?rv6
            case yv6 => intro w hSw; (try dsimp only at hSw); go_simp <;> (try with_reducible rfl)
            (try simp only [List.getElem_toArray, List.getElem_cons_succ, List.getElem_cons_zero, Act.put, List.setIfInBounds_toArray, List.set_cons_zero, List.set_cons_succ])
            refine wpAnyH_take (i := 8) (v := ?vv8) rfl (by kernel_rfl) (by kernel_rfl) (by kernel_rfl) (fun _ _ _ h => h) (Or.inl ⟨by rfl, ?yv8⟩) (by assumption) ?rv8
            case yv8 => intro w hSw; (try dsimp only at hSw); go_simp <;> (try with_reducible rfl)
            (try simp only [List.getElem_toArray, List.getElem_cons_succ, List.getElem_cons_zero, Act.put, List.setIfInBounds_toArray, List.set_cons_zero, List.set_cons_succ])
            refine wpAnyH_take (i := 9) (v := ?vv9) rfl (by kernel_rfl) (by kernel_rfl) (by kernel_rfl) (fun _ _ _ h => h) (Or.inl ⟨by rfl, ?yv9⟩) (by assumption) ?rv9
            case yv9 => intro w hSw; (try dsimp only at hSw); go_simp <;> (try with_reducible rfl)
            (try simp only [List.getElem_toArray, List.getElem_cons_succ, List.getElem_cons_zero, Act.put, List.setIfInBounds_toArray, List.set_cons_zero, List.set_cons_succ])
            refine wpAnyH_take (i := 10) (v := ?vv10) rfl (by kernel_rfl) (by kernel_rfl) (by kernel_rfl) (fun _ _ _ h => h) (Or.inl ⟨by rfl, ?yv10⟩) (by assumption) ?rv10
            case yv10 => intro w hSw; (try dsimp only at hSw); go_simp <;> (try with_reducible rfl)
            (try simp only [List.getElem_toArray, List.getElem_cons_succ, List.getElem_cons_zero, Act.put, List.setIfInBounds_toArray, List.set_cons_zero, List.set_cons_succ])
            apply rest0
            · intro hrest
              refine wpAnyH_ready (rs := [7, 11]) (by kernel_rfl) (by simp) ?_
              refine AllReadyH.cons rfl (fun K hK => ?_) (AllReadyH.cons rfl (fun K hK => ?_) AllReadyH.nil)
              · rw [if_pos (by rfl)]
                refine wp_ld (.tmp 44) rfl gr i rfl _ _ _ hci ?_
                refine hK.out _ _ trivial (fun hHeld => ?_)
                clear hK K
                refine wpAnyH_ready (rs := [11]) (by kernel_rfl) (by simp) ?_
                refine AllReadyH.cons rfl (fun K hK => ?_) AllReadyH.nil
                rw [if_pos (by rfl)]
                refine wp_ld (.tmp 48) rfl gr u rfl _ _ _ hcu ?_
                refine hK.out _ _ trivial (fun hHeld => ?_)
                clear hK K
                exact hrest
              · rw [if_pos (by rfl)]
                refine wp_ld (.tmp 48) rfl gr u rfl _ _ _ hcu ?_
                refine hK.out _ _ trivial (fun hHeld => ?_)
                clear hK K
                refine wpAnyH_ready (rs := [7]) (by kernel_rfl) (by simp) ?_
                refine AllReadyH.cons rfl (fun K hK => ?_) AllReadyH.nil
                rw [if_pos (by rfl)]
                refine wp_ld (.tmp 44) rfl gr i rfl _ _ _ hci ?_
                refine hK.out _ _ trivial (fun hHeld => ?_)
                clear hK K
                exact hrest
            (try simp only [List.getElem_toArray, List.getElem_cons_succ, List.getElem_cons_zero, Act.put, List.setIfInBounds_toArray, List.set_cons_zero, List.set_cons_succ])
            refine wpAnyH_take (i := 12) (v := ?vw12) rfl (by kernel_rfl) (by kernel_rfl) (by kernel_rfl) (fun _ _ _ h => h) (Or.inl ⟨by rfl, ?yw12⟩) (by assumption) ?rw12
            case yw12 => intro w hSw; (try dsimp only at hSw); go_simp <;> (try with_reducible rfl)
            (try simp only [List.getElem_toArray, List.getElem_cons_succ, List.getElem_cons_zero, Act.put, List.setIfInBounds_toArray, List.set_cons_zero, List.set_cons_succ])
            refine wpAnyH_ready (rs := [13]) (by kernel_rfl) (by simp) ?_
            refine AllReadyH.cons rfl (fun K hK => ?_) AllReadyH.nil
            rw [if_pos (by rfl)]
            refine wp_put 40 (.tmp 50) (.tmp 45) rfl gr u rfl (rowV N (g, c, R)) rfl hEd.hdrs [rowV N (g, c, R)] rfl Tryd.szL (by rw [List.length_map]; show u + 1 ≤ M.length; omega) (one_cell1 rfl) ?_
            intro w4 hu4 hB4
            rw [splice_set1 _ _ _ (by rw [List.length_map]; omega)] at hB4
            refine hK.out _ _ trivial (fun hHeld => ?_)
            clear hK K
            refine wpAnyH_take (i := 14) (v := ?vx14) rfl (by kernel_rfl) (by kernel_rfl) (by kernel_rfl) (fun _ _ _ h => h) (Or.inl ⟨by rfl, ?yx14⟩) (by assumption) ?rx14
            case yx14 => intro w hSw; (try dsimp only at hSw); go_simp <;> (try with_reducible rfl)
            (try simp only [List.getElem_toArray, List.getElem_cons_succ, List.getElem_cons_zero, Act.put, List.setIfInBounds_toArray, List.set_cons_zero, List.set_cons_succ])
            refine wpAnyH_ready (rs := [15]) (by kernel_rfl) (by simp) ?_
            refine AllReadyH.cons rfl (fun K hK => ?_) AllReadyH.nil
            rw [if_pos (by rfl)]
            refine wp_put 40 (.tmp 51) (.tmp 49) rfl gr i rfl (rowV N ru) rfl hB4 [rowV N ru] rfl Tryd.szL (by rw [List.length_set, List.length_map]; show i + 1 ≤ M.length; omega) (one_cell1 rfl) ?_
            intro w5 hu5 hB5
            rw [splice_set1 _ _ _ (by rw [List.length_set, List.length_map]; omega), swap_cells] at hB5
            refine hK.out _ _ trivial (fun hHeld => ?_)
            clear hK K
            refine wpAnyH_done (by kernel_rfl) ?_ _
            have ho5 : Only [gr] wd w5 := (Only.of_upd hu4 (List.mem_singleton.2 rfl)).trans (Only.of_upd hu5 (List.mem_singleton.2 rfl))
            have hE5 := hEd.swap hru HR.out hlu HL.out ho5 hB5
            have hgrT := hEd.base.2.2.2.1
            have hO5 := own_only hOd ho5 (fun k hk => by rw [List.mem_singleton.1 hk]; exact hgrT)
            have hb5 := hbd.trans (ho5.below (B := B) (fun k hk => by rw [List.mem_singleton.1 hk]; exact hEd.base.1) (Nat.le_trans hBT hsd))
            have hs5 := Nat.le_trans hsd ho5.size
            obtain ⟨M1, hM1⟩ : ∃ Y, swapR M u i ru (g, c, R) = Y := ⟨_, rfl⟩
            obtain ⟨C1, hC1⟩ : ∃ Y, swapR C2 u i lu l = Y := ⟨_, rfl⟩
            have hr1 : M1[u]? = some (g, c, R) := by rw [← hM1]; exact swap_at hru HR.out
            have hl1 : C1[u]? = some l := by rw [← hC1]; exact swap_at hlu HL.out
            have hm1 : M1.length = m := by rw [← hM1, swap_len]; exact hM
            have hc1l : C1.length = m := by rw [← hC1, swap_len]; omega
            have hst := elimM_step HEL.out HUL.out HPV.out hat HL.out hlu
            rw [hC1] at hst
            rw [hM1, hC1] at hE5
            have HST := Lib.hid hst
            have HR1 := Lib.hid hr1
            have HL1 := Lib.hid hl1
            have hcg := hE5.hdrs.cell (k := u) (v := rowV N (g, c, R)) (by rw [List.getElem?_map, hr1]; rfl)
            unfold rowV at hcg
            dsimp only at hcg
            have hB5g : Blk w5 g 23 (rowC l ++ R) := (hE5.rows u _ l hr1 hl1).2.2
            have hap := hE5.apart u _ hr1
            have hfx := HLF.out x (List.mem_of_getElem? HX.out)
            obtain ⟨X0, hX0⟩ : ∃ Y, Value.int .i64 x.num = Y := ⟨_, rfl⟩
            obtain ⟨X1, hX1⟩ : ∃ Y, Value.int .i64 (x.den : Int) = Y := ⟨_, rfl⟩
            have hq0 := hB5g.cell (rowR_cell (R := R) (prs_get HX.out)).1
            have hq1 := hB5g.cell (rowR_cell (R := R) (prs_get HX.out)).2
            dsimp only at hq0 hq1
            rw [hX0] at hq0
            rw [hX1] at hq1
            have hDV := divide_any x g 0 ge N c [] R l w5 rfl hfx hxz hll (by omega) HLF.out hap.2.1 hB5g hE5.err
            have hqx : qC x = [X0, X1] := by rw [← hX0, ← hX1]; rfl
            rw [hqx, HDO.out] at hDV
            have HDV := Lib.hid hDV
            have HX0 := Lib.hid hxz
            have HAT := Lib.hid hat
            clear hst hr1 hl1 hc1 hc2 hci hcu hB4 hB5 hu4 hu5 ho5 hOd hbd hsd hdd hddT hEd hDV hX0 hX1 hqx hat hxz hB5g hM1 hC1 hru hlu
            go_wp2_with fail
            (with_reducible refine HDV.out.mono ?_)
            rintro e w6 ⟨ho6, hcase⟩
            have hL6 : ∀ k ∈ [g, ge], B ≤ k ∧ k < T := fun k hk => by
              simp at hk
              rcases hk with rfl | rfl
              · exact ⟨hap.2.2.1, hap.2.2.2⟩
              · exact ⟨hE5.base.2.1, hE5.base.2.2.2.2⟩
            have hO6 := own_only hO5 ho6 (fun k hk => (hL6 k hk).2)
            have hb6 := hb5.trans (ho6.below (B := B) (fun k hk => (hL6 k hk).1) (Nat.le_trans hBT hs5))
            have hs6 := Nat.le_trans hs5 ho6.size
            clear HDV hq0 hq1
            rcases hcase with ⟨l', h1, rfl, h3, h4⟩ | ⟨h1, rfl, h3, h4⟩
            · have hl'N : l'.length = N := (opTo_size l 0 l' h1).trans hll
              have hl'f := opTo_fits (fun _ _ _ h => okQ_fits h) l 0 l' h1
              have hE6 := hE5.change HR1.out hl'N hl'f ho6 h3 h4
              obtain ⟨C3, hC3⟩ : ∃ Y, C1.set u l' = Y := ⟨_, rfl⟩
              have hc3l : C3.length = m := by rw [← hC3, List.length_set]; exact hc1l
              have hl3 : C3[u]? = some l' := by rw [← hC3, List.getElem?_set_self (by omega)]
              have hst2 : elimM C (k + 1) = (mapO (rowF u k l') 0 C3).map fun C4 => (C4, hs ++ [k]) := by rw [HST.out, h1, Option.bind_some, hC3]
              rw [hC3] at hE6
              have HS2 := Lib.hid hst2
              have HR0 : Hid (RowsRel B T gr ge N m M1 C3 (rowF u k l') w (.slice A u ch) u (headsV hs) (.int .i64 0) (.int .i64 0) w6) := (⟨0, Nat.zero_le _, rfl, hO6, hb6, hs6, .inl ⟨[], rfl, rfl, rfl, hE6⟩⟩ : RowsRel B T gr ge N m M1 C3 (rowF u k l') w (.slice A u ch) u (headsV hs) (.int .i64 0) (.int .i64 0) w6)
              have HL3 := Lib.hid hl3
              have HLF2 := Lib.hid hl'f
              clear hst2 hE6 hO6 hb6 hs6 hC3 hl3 hl'f h1 h3 h4 ho6
              go_wp2
              go_loopg [13, 65] m (fun g e i wx => (intOf i).toNat + g = m ∧ RowsRel B T gr ge N m M1 C3 (rowF u k l') w (.slice A u ch) u (headsV hs) e i wx)
              case atStart => exact ⟨by simp [intOf], HR0.out⟩
              case round =>
                clear HR0
                obtain ⟨hgj, j, hj, rfl, hown, hbw, hsw, hcase⟩ := hrel
                have hgj : j + gk = m := by simpa [intOf] using hgj
                rcases hcase with ⟨D, hDl, hmo, rfl, hEj⟩ | ⟨hno, rfl, hXj⟩
                · by_cases hjm : j < m
                  · have hji : (j : Int) < (m : Int) := by omega
                    have hj0 : (0 : Int) ≤ (j : Int) := by omega
                    obtain ⟨rj, hrj⟩ : ∃ r, M1[j]? = some r := ⟨_, List.getElem?_eq_getElem (by omega)⟩
                    obtain ⟨lj, hlj⟩ : ∃ l, C3[j]? = some l := ⟨_, List.getElem?_eq_getElem (by omega)⟩
                    obtain ⟨hljN, hljf, hljB⟩ := hEj.rows j rj lj hrj (mid_get hDl hlj)
                    obtain ⟨y, hy⟩ : ∃ y, lj[k]? = some y := ⟨_, List.getElem?_eq_getElem (by omega)⟩
                    have hcj := hEj.hdrs.cell (k := j) (v := rowV N rj) (by rw [List.getElem?_map, hrj]; rfl)
                    have hstj := mapO_step hlj hmo
                    have hapj := hEj.apart j rj hrj
                    have hnej : j ≠ u → g ≠ rj.1 := fun hn e => hn (hEj.diff u j _ _ HR1.out hrj e).symm
                    obtain ⟨gj, cj, Rj⟩ := rj
                    unfold rowV at hcj
                    dsimp only at hcj hljB hapj hnej
                    have hq0 := hljB.cell (rowR_cell (R := Rj) (prs_get hy)).1
                    have hq1 := hljB.cell (rowR_cell (R := Rj) (prs_get hy)).2
                    dsimp only at hq0 hq1
                    have HLJ := Lib.hid hlj
                    have HST2 := Lib.hid hstj
                    have HEJ := Lib.hid hEj
                    have HY := Lib.hid hy
                    clear hlj hstj hEj hy
                    by_cases hju : j = u
                    · subst hju
                      have hD2 := HST2.out
                      rw [rowF_skip (.inl rfl)] at hD2
                      have HD2 := Lib.hid hD2
                      clear hD2
                      go_wp2
                      go_roundg (m - (j + 1))
                      case measure => omega
                      case rel => exact ⟨by simp [intOf]; omega, j + 1, by omega, by go_num, hown, hbw, hsw, .inl ⟨D ++ [lj], by simp; omega, HD2.out, rfl, by rw [← mid_next HLJ.out]; exact HEJ.out⟩⟩
                    · have hjui : ¬ (j : Int) = (u : Int) := by omega
                      by_cases hy0 : y.num = 0
                      · have hD2 := HST2.out
                        rw [rowF_skip (.inr (by rw [HY.out]; exact Rat.num_eq_zero.1 hy0))] at hD2
                        have HD2 := Lib.hid hD2
                        clear hD2
                        rw [hy0] at hq0
                        go_wp2
                        go_roundg (m - (j + 1))
                        case measure => omega
                        case rel => exact ⟨by simp [intOf]; omega, j + 1, by omega, by go_num, hown, hbw, hsw, .inl ⟨D ++ [lj], by simp; omega, HD2.out, rfl, by rw [← mid_next HLJ.out]; exact HEJ.out⟩⟩
                      · have hyz : y ≠ 0 := fun e => hy0 (by rw [e]; rfl)
                        have hsub := HST2.out
                        rw [rowF_sub hju HY.out hyz] at hsub
                        have HSUB := Lib.hid hsub
                        have hBg : Blk wr g 23 (rowC l' ++ R) := (HEJ.out.rows u _ l' HR1.out (head_keep hmo hDl HL3.out)).2.2
                        have hSB := subtract_any y l' gj 0 g ge N cj c [] Rj lj wr rfl (hljf y (List.mem_of_getElem? HY.out)) HLF2.out hl'N R hBg (hnej hju) hap.2.1 hljN (by omega) hljf hapj.2.1 hljB HEJ.out.err
                        have hqy : qC y = [Value.int .i64 y.num, Value.int .i64 (y.den : Int)] := rfl
                        rw [hqy, HDO.out] at hSB
                        have HSB := Lib.hid hSB
                        clear hSB hsub hBg hqy
                        go_wp2_with fail
                        (with_reducible refine HSB.out.mono ?_)
                        rintro e w7 ⟨ho7, hc7⟩
                        have hL7 : ∀ k ∈ [gj, ge], B ≤ k ∧ k < T := fun k hk => by
                          simp at hk
                          rcases hk with rfl | rfl
                          · exact hapj.2.2
                          · exact ⟨HEJ.out.base.2.1, HEJ.out.base.2.2.2.2⟩
                        have hown7 := own_only hown ho7 (fun k hk => (hL7 k hk).2)
                        have hb7 := hbw.trans (ho7.below (B := B) (fun k hk => (hL7 k hk).1) (Nat.le_trans hBT hsw))
                        have hs7 := Nat.le_trans hsw ho7.size
                        clear HSB hq0 hq1 hcj
                        rcases hc7 with ⟨l2, h1, rfl, h3, h4⟩ | ⟨h1, rfl, h3, h4⟩
                        · have hE7 := HEJ.out.change hrj ((opTo_size lj 0 l2 h1).trans hljN) (opTo_fits (fun _ _ _ h => subF_fits h) lj 0 l2 h1) ho7 h3 h4
                          rw [mid_set hDl HLJ.out] at hE7
                          have hD2 := HSUB.out
                          rw [h1] at hD2
                          have HD2 := Lib.hid hD2
                          have HE7 := Lib.hid hE7
                          clear hD2 hE7 h1 h3 h4 ho7
                          go_wp2
                          go_roundg (m - (j + 1))
                          case measure => omega
                          case rel => exact ⟨by simp [intOf]; omega, j + 1, by omega, by go_num, hown7, hb7, hs7, .inl ⟨D ++ [l2], by simp; omega, HD2.out, rfl, HE7.out⟩⟩
                        · have hX7 := HEJ.out.fell hrj ho7 h3 h4
                          have hno : mapO (rowF u k l') 0 C3 = none := mapO_fell (k := j + 1) (by rw [HSUB.out, h1]; rfl)
                          have HNO := Lib.hid hno
                          have HX7 := Lib.hid hX7
                          clear hno hX7 h1 h3 h4 ho7
                          go_wp2
                          go_roundg (m - (j + 1))
                          case measure => omega
                          case rel => exact ⟨by simp [intOf]; omega, j + 1, by omega, by go_num, hown7, hb7, hs7, .inr ⟨HNO.out, rfl, HX7.out⟩⟩
                        · exfalso
                          rename_i h9
                          simp at h9
                          rcases h9 with h9 | h9
                          · exact hju (by omega)
                          · exact hyz h9
                  · obtain rfl : j = m := by omega
                    have hjn : ¬ (j : Int) < (j : Int) := by omega
                    rw [List.take_of_length_le (by omega)] at hmo
                    rw [List.drop_eq_nil_of_le (by omega), List.append_nil] at hEj
                    have hst3 : elimM C (k + 1) = some (D, hs ++ [k]) := by rw [HS2.out, hmo]; rfl
                    have HST3 := Lib.hid hst3
                    have HEJ := Lib.hid hEj
                    clear hst3 hEj hmo
                    go_wp2_with (with_reducible refine wpList_rowI (o := ⟨some 95, .buildSlice 68 1 #[(0, .tmp 94)], _, _, _, _⟩) (by with_unfolding_all rfl) (.tmp 94) (by with_unfolding_all rfl) (k : Int) (by with_unfolding_all rfl) ?_)
                    intro gi wi hgi2 hbi hBi
                    have hEi := HEJ.out.keep (hbi.mono hsw)
                    have hoi := own_only (L := []) hown (Only.of_below hbi) (fun k hk => by cases hk)
                    have hbi2 := hbw.trans (hbi.mono (Nat.le_trans hBT hsw))
                    have hsi := Nat.le_trans hsw hbi.size
                    clear hbi hgi2
                    go_wp2_with (with_reducible refine wpList_appI (o := ⟨some 96, .call ⟨.builtin .append, #[.tmp 93, .tmp 95], #[68, 68]⟩, _, _, _, _⟩) (by with_unfolding_all rfl) (.tmp 93) (.tmp 95) (by with_unfolding_all rfl) T (.slice A u ch) u (headsV hs) (by with_unfolding_all rfl) hoi gi (.int .i64 (k : Int)) (by with_unfolding_all rfl) hBi rfl (by omega) hsi ?_)
                    intro v9 w9 hown9 hgr9
                    have hb9 := below_grown hgr9 (fun q hq => (own_base hoi q hq).1) hsi
                    have HE9 := Lib.hid (hEi.keep hb9)
                    clear hEi
                    go_wp2
                    go_roundg (n - (k + 1))
                    case measure => omega
                    case rel => exact ⟨by simp [intOf]; omega, k + 1, hs ++ [k], M1, D, by omega, by go_num, HST3.out, HE9.out, hm1, by rw [List.length_append, HUL.out]; simp; omega, by rw [List.length_append, HUL.out, ← headsV_add]; exact hown9, hbi2.trans (hb9.mono hBT), Nat.le_trans hsi hb9.size⟩
                · have hmM : M1.length = m := hm1
                  by_cases hjm : j < m
                  · have hji : (j : Int) < (m : Int) := by omega
                    have hj0 : (0 : Int) ≤ (j : Int) := by omega
                    obtain ⟨rj, hrj⟩ : ∃ r, M1[j]? = some r := ⟨_, List.getElem?_eq_getElem (by omega)⟩
                    obtain ⟨raw, hrl, hrB⟩ := hXj.rows j rj hrj
                    have hcj := hXj.hdrs.cell (k := j) (v := rowV N rj) (by rw [List.getElem?_map, hrj]; rfl)
                    obtain ⟨gj, cj, Rj⟩ := rj
                    unfold rowV at hcj
                    dsimp only at hcj hrB
                    obtain ⟨p, hp⟩ : ∃ p, raw[k]? = some p := ⟨_, List.getElem?_eq_getElem (by omega)⟩
                    have hq0 := hrB.cell (rowR_cell (R := Rj) hp).1
                    have hq1 := hrB.cell (rowR_cell (R := Rj) hp).2
                    obtain ⟨a, b⟩ := p
                    dsimp only at hq0 hq1
                    have HXJ := Lib.hid hXj
                    clear hXj hrB hp hrj
                    by_cases hju : j = u
                    · subst hju
                      go_wp2
                      go_roundg (m - (j + 1))
                      case measure => omega
                      case rel => exact ⟨by simp [intOf]; omega, j + 1, by omega, by go_num, own_only (L := []) hown (Only.of_below (Below.refl wr.heap.size wr)) (fun k hk => by cases hk), hbw.trans ((Below.refl wr.heap.size wr).mono (Nat.le_trans hBT hsw)), Nat.le_trans hsw (Below.refl wr.heap.size wr).size, .inr ⟨hno, rfl, HXJ.out.keep ((Below.refl wr.heap.size wr).mono hsw)⟩⟩
                    · have hjui : ¬ (j : Int) = (u : Int) := by omega
                      by_cases ha : a = 0
                      · rw [ha] at hq0
                        go_wp2
                        go_roundg (m - (j + 1))
                        case measure => omega
                        case rel => exact ⟨by simp [intOf]; omega, j + 1, by omega, by go_num, own_only (L := []) hown (Only.of_below (Below.refl wr.heap.size wr)) (fun k hk => by cases hk), hbw.trans ((Below.refl wr.heap.size wr).mono (Nat.le_trans hBT hsw)), Nat.le_trans hsw (Below.refl wr.heap.size wr).size, .inr ⟨hno, rfl, HXJ.out.keep ((Below.refl wr.heap.size wr).mono hsw)⟩⟩
                      · have hST := subtract_still gj 0 g ge N cj c a b wr (by omega) HXJ.out.err
                        rw [HDO.out] at hST
                        have HST2 := Lib.hid hST
                        clear hST
                        go_wp2_with fail
                        (with_reducible refine HST2.out.mono ?_)
                        rintro e w7 ⟨rfl, hb7⟩
                        clear HST2 hq0 hq1 hcj
                        go_wp2
                        go_roundg (m - (j + 1))
                        case measure => omega
                        case rel => exact ⟨by simp [intOf]; omega, j + 1, by omega, by go_num, own_only (L := []) hown (Only.of_below hb7) (fun k hk => by cases hk), hbw.trans (hb7.mono (Nat.le_trans hBT hsw)), Nat.le_trans hsw hb7.size, .inr ⟨hno, rfl, HXJ.out.keep (hb7.mono hsw)⟩⟩
                        exfalso
                        rename_i h9
                        simp at h9
                        omega
                  · obtain rfl : j = m := by omega
                    have hjn : ¬ (j : Int) < (j : Int) := by omega
                    clear hXj
                    go_wp2
                    try rw [Exit.noGoto_ret]
                    go_ret2
                    exact ⟨hbw, .inr ⟨elimM_none (by rw [HS2.out, hno]; rfl) n (by omega), rfl⟩⟩
            · have hX6 := hE5.fell HR1.out ho6 h3 h4
              have HNO := Lib.hid h1
              have HR0 : Hid (DeadRel B T gr ge N m M1 w (.int .i64 17) (.int .i64 0) w6) := (⟨0, Nat.zero_le _, rfl, hb6, hs6, rfl, hX6⟩ : DeadRel B T gr ge N m M1 w (.int .i64 17) (.int .i64 0) w6)
              clear hX6 hO6 hb6 hs6 h1 h3 h4 ho6
              go_wp2
              go_loopg [13, 65] m (fun g e i wx => (intOf i).toNat + g = m ∧ DeadRel B T gr ge N m M1 w e i wx)
              case atStart => exact ⟨by simp [intOf], HR0.out⟩
              case round =>
                clear HR0
                obtain ⟨hgj, j, hj, rfl, hbw, hsw, rfl, hXj⟩ := hrel
                have hgj : j + gk = m := by simpa [intOf] using hgj
                have hmM : M1.length = m := hm1
                by_cases hjm : j < m
                · have hji : (j : Int) < (m : Int) := by omega
                  have hj0 : (0 : Int) ≤ (j : Int) := by omega
                  obtain ⟨rj, hrj⟩ : ∃ r, M1[j]? = some r := ⟨_, List.getElem?_eq_getElem (by omega)⟩
                  obtain ⟨raw, hrl, hrB⟩ := hXj.rows j rj hrj
                  have hcj := hXj.hdrs.cell (k := j) (v := rowV N rj) (by rw [List.getElem?_map, hrj]; rfl)
                  obtain ⟨gj, cj, Rj⟩ := rj
                  unfold rowV at hcj
                  dsimp only at hcj hrB
                  obtain ⟨p, hp⟩ : ∃ p, raw[k]? = some p := ⟨_, List.getElem?_eq_getElem (by omega)⟩
                  have hq0 := hrB.cell (rowR_cell (R := Rj) hp).1
                  have hq1 := hrB.cell (rowR_cell (R := Rj) hp).2
                  obtain ⟨a, b⟩ := p
                  dsimp only at hq0 hq1
                  have HXJ := Lib.hid hXj
                  clear hXj hrB hp hrj
                  by_cases hju : j = u
                  · subst hju
                    go_wp2
                    go_roundg (m - (j + 1))
                    case measure => omega
                    case rel => exact ⟨by simp [intOf]; omega, j + 1, by omega, by go_num, hbw.trans ((Below.refl wr.heap.size wr).mono (Nat.le_trans hBT hsw)), Nat.le_trans hsw (Below.refl wr.heap.size wr).size, rfl, HXJ.out.keep ((Below.refl wr.heap.size wr).mono hsw)⟩
                  · have hjui : ¬ (j : Int) = (u : Int) := by omega
                    by_cases ha : a = 0
                    · rw [ha] at hq0
                      go_wp2
                      go_roundg (m - (j + 1))
                      case measure => omega
                      case rel => exact ⟨by simp [intOf]; omega, j + 1, by omega, by go_num, hbw.trans ((Below.refl wr.heap.size wr).mono (Nat.le_trans hBT hsw)), Nat.le_trans hsw (Below.refl wr.heap.size wr).size, rfl, HXJ.out.keep ((Below.refl wr.heap.size wr).mono hsw)⟩
                    · have hST := subtract_still gj 0 g ge N cj c a b wr (by omega) HXJ.out.err
                      rw [HDO.out] at hST
                      have HST2 := Lib.hid hST
                      clear hST
                      go_wp2_with fail
                      (with_reducible refine HST2.out.mono ?_)
                      rintro e w7 ⟨rfl, hb7⟩
                      clear HST2 hq0 hq1 hcj
                      go_wp2
                      go_roundg (m - (j + 1))
                      case measure => omega
                      case rel => exact ⟨by simp [intOf]; omega, j + 1, by omega, by go_num, hbw.trans (hb7.mono (Nat.le_trans hBT hsw)), Nat.le_trans hsw hb7.size, rfl, HXJ.out.keep (hb7.mono hsw)⟩
                      exfalso
                      rename_i h9
                      simp at h9
                      omega
                · obtain rfl : j = m := by omega
                  have hjn : ¬ (j : Int) < (j : Int) := by omega
                  clear hXj
                  go_wp2
                  try rw [Exit.noGoto_ret]
                  go_ret2
                  exact ⟨hbw, .inr ⟨elimM_none (by rw [HST.out, HNO.out]; rfl) n (by omega), rfl⟩⟩
        · obtain rfl : i = m := by omega
          have hin : (i : Int) ≤ (i : Int) := by omega
          have HZ := Lib.hid hz
          clear hz
          go_wp2
          go_roundg (n - (k + 1))
          case measure => omega
          case rel =>
            have hpn : pivot C2 u k = none := pivot_none fun j h1 h2 => HZ.out j h1 (by omega)
            have hel2 : elimM C (k + 1) = some (C2, hs) := by
              show (elimM C k).bind (stepE k) = _
              rw [HEL.out, Option.bind_some]
              unfold stepE
              dsimp only
              rw [HUL.out, hpn]
            exact ⟨by simp [intOf]; omega, k + 1, hs, M, C2, by omega, by go_num, hel2, HEE.out, hM, by rw [HUL.out]; exact hu, by rw [HUL.out]; exact HOW.out, hbe, hsz⟩
    · obtain rfl : k = n := by omega
      have hki : ¬ (k : Int) < (k : Int) := by omega
      have HEL := Lib.hid hel
      clear hel
      go_wp2
      try rw [Exit.noGoto_ret]
      go_ret2
      exact ⟨hbe, .inl ⟨_, hs, M, C2, HEL.out, rfl, hE, hM, by omega, by rw [hul]; exact hown⟩⟩
end Go.Proofs.YthjaelopmfjfeaaDoor
