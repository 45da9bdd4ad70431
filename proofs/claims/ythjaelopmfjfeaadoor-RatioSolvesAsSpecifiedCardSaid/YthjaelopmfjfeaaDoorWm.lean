/-
  The walk over Solve. Conditions: the system lies there, none of its rows is nil, its numbers are normal.
-/
import Derived.Test.YthjaelopmfjfeaaDoorWl
namespace Go.Proofs.YthjaelopmfjfeaaDoor
set_option linter.unusedVariables false
set_option linter.unusedSimpArgs false
open Go.RowKit Go.Shelf

/-- What Solve returns of a system. -/
def SolvedR (f : Found) (n m : Nat) (w : World) (e : Ending) (w' : World) : Prop :=
  match f with
  | .large => e = .returned (.tuple #[.slice none 0 0, .slice none 0 0, .int .i64 17])
  | .marks y => ∃ g o c, e = .returned (.tuple #[.slice none 0 0, .slice (some ⟨g, o, none⟩) m c, .int .i64 20]) ∧ w.heap.size ≤ g ∧ y.length = m ∧ (∀ x ∈ y, fits x) ∧ ∀ j u, (rowC y)[j]? = some u → w'.cell? ⟨g, o + j, none⟩ = some u
  | .numbers x => ∃ g, e = .returned (.tuple #[.slice (some ⟨g, 0, none⟩) n n, .slice none 0 0, .int .i64 0]) ∧ w.heap.size ≤ g ∧ x.length = n ∧ (∀ y ∈ x, fits y) ∧ Blk w' g 23 (rowC x)
def FreeRel (C : List (List Rat)) (u c d : Nat) (w0 : World) (i : Value) (wr : World) : Prop :=
  ∃ j : Nat, j ≤ d ∧ i = .int .i64 (j : Int) ∧ (∀ x, u ≤ x → x < u + j → at2 C x c = 0) ∧ wr = w0
set_option maxRecDepth 100000 in
set_option maxHeartbeats 6400000 in
theorem solve_at (A : Option Addr) (c : Nat) (rs : List (Hdr × List Rat)) (B : Option Addr) (cb m n : Nat) (bs : List Rat) (w : World) (hm : rs.length = m) (hm20 : m ≤ 20) (hn20 : n ≤ 20) (hcn : colsN (rs.map fun p => p.1) = n) (hform : formedB (rs.map fun p => p.1) m = true)
    (hS : HdrsAt w A (rs.map fun p => p.1)) (hls : ∀ p ∈ rs, p.2.length = n ∧ ∀ x ∈ p.2, fits x) (hbf : ∀ x ∈ bs, fits x) (hbl : bs.length = m)
    (hT : ∀ w1, Below w.heap.size w w1 → Calls Tryd.prog 60 #[.slice A m c, .slice B m cb] w1 fun e w' => ∃ gr M, e = .returned (.slice (some ⟨gr, 0, none⟩) m m) ∧ w1.heap.size ≤ gr ∧ TabTo w1 gr m n rs bs m M w') :
    Calls Tryd.prog 41 #[.slice A m c, .slice B m cb] w fun e w' => Below w.heap.size w w' ∧ SolvedR (solveM (tabC m (rs.map fun p => p.2) bs) n) n m w e w' := by
  have hml : (rs.map fun p => p.1).length = m := by rw [List.length_map, hm]
  have hFO := formed_any A B c m cb (rs.map fun p => p.1) w (by omega) (by omega) (by omega) hS
  rw [hml, hform] at hFO
  have HCO : Hid (∀ w1, Below w.heap.size w w1 → Calls Tryd.prog 59 #[.slice A m c] w1 fun e w' => e = .returned (.int .i64 (n : Int)) ∧ w1 = w') := (fun w1 h1 => by
    have h := columns_any A c (rs.map fun p => p.1) w1 (hS.next h1)
    rw [hml, hcn] at h
    exact h : ∀ w1, Below w.heap.size w w1 → Calls Tryd.prog 59 #[.slice A m c] w1 fun e w' => e = .returned (.int .i64 (n : Int)) ∧ w1 = w')
  have HTA := Lib.hid hT
  have HLS := Lib.hid hls
  have HBF := Lib.hid hbf
  have HM := Lib.hid hm
  have HBL := Lib.hid hbl
  have HFO := Lib.hid hFO
  obtain ⟨C, hC⟩ : ∃ C, tabC m (rs.map fun p => p.2) bs = C := ⟨_, rfl⟩
  rw [hC]
  have HC := Lib.hid hC
  clear hC
  clear hS hls hT hbf hbl hcn hform hml hm hFO
  go_enter Tryd.func41, Tryd.ntmps41
  go_wp2_with fail
  (with_reducible refine HFO.out.mono ?_)
  rintro e w1 ⟨rfl, hb1⟩
  clear HFO
  go_wp2_with fail
  (with_reducible refine (HCO.out _ hb1).mono ?_)
  rintro e w1c ⟨rfl, rfl⟩
  clear HCO
  go_wp2_with fail
  (with_reducible refine (HTA.out _ hb1).mono ?_)
  rintro e w2 ⟨gr, M, rfl, hgr, hTab⟩
  clear HTA
  go_wp2_with fail
  (with_reducible refine (changer_any _).mono ?_)
  rintro e w3 ⟨ge, rfl, hge, hE3, hb3⟩
  have hb2 := hTab.below
  have hbw := below_join hb1 (below_join hb2 hb3)
  have hsz := hbw.size
  have hge3 := hE3.lt
  have hEL := hTab.el (B := w.heap.size) (T := w3.heap.size) (ge := ge) HM.out HBL.out hb1.size hgr HLS.out HBF.out hge hge3 hb3 hE3
  have hMm := hTab.cnt
  have HEM := Lib.hid (eliminate_any w.heap.size w3.heap.size gr ge (n + 1 + m) n m m M (tabC m (rs.map fun p => p.2) bs) w3 (Nat.le_refl _) hsz hMm (by omega) (by omega) (by omega) hEL)
  obtain ⟨T, hT⟩ : ∃ T, w3.heap.size = T := ⟨_, rfl⟩
  rw [hT, HC.out] at HEM
  obtain ⟨DO, hDO⟩ : ∃ D, doV ge = D := ⟨_, rfl⟩
  rw [hDO] at HEM
  rw [hDO]
  have HDO := Lib.hid hDO
  clear hDO hEL hTab hb1 hb2 hb3 hE3 hgr hMm HLS HBF HM HBL
  go_wp2_with fail
  (with_reducible refine HEM.out.mono ?_)
  rintro e w4 ⟨hb4, hcase⟩
  clear HEM
  have hbw4 := hbw.trans hb4
  have hsT : T ≤ w4.heap.size := by rw [← hT]; exact hb4.size
  rcases hcase with ⟨h, hs, M2, C2, hel, rfl, hE4, hM4, hu, hown⟩ | ⟨hel, rfl⟩
  · obtain ⟨u, hul⟩ : ∃ u, hs.length = u := ⟨_, rfl⟩
    rw [hul] at hown hu
    obtain ⟨A2, ch, rfl, _⟩ := own_shape hown
    obtain ⟨N, hN⟩ : ∃ N, n + 1 + m = N := ⟨_, rfl⟩
    rw [hN] at hE4
    have HNN := Lib.hid hN
    clear hN
    have hMC := hE4.same
    have HEL := Lib.hid hel
    have HE4 := Lib.hid hE4
    have HOW := Lib.hid hown
    have HUL := Lib.hid hul
    clear hel hE4 hown hul
    have hui : (u : Int) ≤ (m : Int) := by omega
    have hu0 : (0 : Int) ≤ (u : Int) := by omega
    have hmm : (m : Int) ≤ (m : Int) := Int.le_refl _
    by_cases hum : u < m
    · have hnm : ¬ m = u := by omega
      go_wp2
      obtain ⟨d, hd⟩ : ∃ d, m - u = d := ⟨_, rfl⟩
      rw [hd]
      go_loopw [44] (FreeRel C2 u n d w4) (fun i _ => d - (intOf i).toNat)
      case atStart => exact ⟨0, Nat.zero_le _, rfl, (fun x h1 h2 => absurd h2 (by omega)), rfl⟩
      case round =>
        obtain ⟨j, hj, rfl, hz, rfl⟩ := hrel
        by_cases hlt : j < d
        · have hji : (j : Int) < (d : Int) := by omega
          have hj0 : (0 : Int) ≤ (j : Int) := by omega
          have hd20 : d ≤ 20 := by omega
          obtain ⟨r, hr⟩ : ∃ r, M2[u + j]? = some r := ⟨_, List.getElem?_eq_getElem (by omega)⟩
          obtain ⟨l, hl⟩ : ∃ l, C2[u + j]? = some l := ⟨_, List.getElem?_eq_getElem (by omega)⟩
          obtain ⟨hll, hlf, hlB⟩ := HE4.out.rows (u + j) r l hr hl
          obtain ⟨x, hx⟩ : ∃ x, l[n]? = some x := ⟨_, List.getElem?_eq_getElem (by have := HNN.out; omega)⟩
          have hc1 := HE4.out.hdrs.cell (k := u + j) (v := rowV N r) (by rw [List.getElem?_map, hr]; rfl)
          have hq0 := hlB.cell (rowR_cell (R := r.2.2) (prs_get hx)).1
          have hq1 := hlB.cell (rowR_cell (R := r.2.2) (prs_get hx)).2
          have hap := HE4.out.apart _ _ hr
          have hcap := HE4.out.caps _ _ hr
          have hat : at2 C2 (u + j) n = x := by unfold at2; rw [hl, Option.bind_some, hx]; rfl
          obtain ⟨g, c3, R⟩ := r
          unfold rowV at hc1
          dsimp only at hc1 hq0 hq1 hap hcap hlB
          have hnN : (n : Int) < (N : Int) := by have := HNN.out; omega
          have hn0 : (0 : Int) ≤ (n : Int) := by omega
          have HLB := Lib.hid hlB
          have HR := Lib.hid hr
          have HL := Lib.hid hl
          have HX := Lib.hid hx
          have HLF := Lib.hid hlf
          have HZ := Lib.hid hz
          have HLL := Lib.hid hll
          have HD := Lib.hid hd
          clear hlB hr hl hx hlf hz hll hd
          by_cases hx0 : x.num = 0
          · rw [hx0] at hq0
            go_wp2
            go_roundw
            case rel => exact ⟨j + 1, by omega, by go_num, (fun y h1 h2 => by
              rcases Nat.lt_or_ge y (u + j) with h3 | h3
              · exact HZ.out y h1 h3
              · obtain rfl : y = u + j := by omega
                rw [hat]
                exact Rat.num_eq_zero.1 hx0), rfl⟩
            case measure => simp [intOf]; omega
          · have hpv : pivot C2 u n = some (u + j) := pivot_some (by rw [← hMC, hM4]; have := HD.out; omega) (by omega) (by rw [hat]; exact fun e => hx0 (by rw [e]; rfl)) HZ.out
            have HPV := Lib.hid hpv
            clear hpv
            have hw1 : IntKind.i64.wrap ((n : Int) + 1) = (n : Int) + 1 := by simp only [IntKind.wrap_i64]; omega
            have hNm : N - (n + 1) = m := by have := HNN.out; omega
            have hn1 : (n : Int) + 1 ≤ (N : Int) := by omega
            have hn4 : ¬ c3 = n + 1 := by have := HNN.out; omega
            have hxz : x ≠ 0 := fun e => hx0 (by rw [e]; rfl)
            have hn2 : (0 : Int) ≤ (n : Int) + 1 := by omega
            have hn3 : (N : Int) ≤ (c3 : Int) := by omega
            have hDV := divide_any x g ((n + 1) * 2) ge m (c3 - (n + 1)) (rowC (l.take (n + 1))) R (l.drop (n + 1)) wr (by rw [rowC_length, List.length_take, HLL.out]; omega) (HLF.out x (List.mem_of_getElem? HX.out)) hxz (by rw [List.length_drop, HLL.out]; exact hNm) (by omega) (fun y hy => HLF.out y (List.mem_of_mem_drop hy)) hap.2.1
              (by rw [← List.append_assoc, ← rowC_append, List.take_append_drop]; exact HLB.out) HE4.out.err
            rw [HDO.out] at hDV
            have hqx : qC x = [Value.int .i64 x.num, Value.int .i64 (x.den : Int)] := rfl
            rw [hqx] at hDV
            have HDV := Lib.hid hDV
            have HNM := Lib.hid hNm
            have HAT := Lib.hid hat
            have HXZ := Lib.hid hxz
            clear hDV hqx hNm hat hxz
            go_wp2_with fail
            rw [HNM.out]
            (with_reducible refine HDV.out.mono ?_)
            rintro e w6 ⟨ho6, hc6⟩
            have hb6 := hbw4.trans (ho6.below (B := w.heap.size) (fun k hk => by
              simp at hk
              rcases hk with rfl | rfl
              · exact hap.2.2.1
              · exact HE4.out.base.2.1) hbw4.size)
            clear HDV hq0 hq1
            rcases hc6 with ⟨l', h1, rfl, h3, h4⟩ | ⟨h1, rfl, h3, h4⟩
            · have HOP := Lib.hid h1
              clear h1
              go_wp2
              go_ret3
              refine ⟨hb6, ?_⟩
              have he : solveM C n = .marks l' := by
                unfold solveM
                rw [HEL.out]
                dsimp only
                rw [HUL.out, HPV.out]
                dsimp only
                rw [HAT.out, HL.out]
                show (match opTo (fun _ y => okQ (y / x)) 0 (l.drop (n + 1)) with | none => Found.large | some y => Found.marks y) = _
                rw [HOP.out]
              rw [he]
              refine ⟨g, (n + 1) * 2, c3 - (n + 1), rfl, hap.2.2.1, (opTo_size _ 0 l' HOP.out).trans (by rw [List.length_drop, HLL.out]; exact HNM.out), opTo_fits (fun _ _ _ h => okQ_fits h) _ 0 l' HOP.out, fun q y hy => ?_⟩
              refine h3.cell ?_
              have hPl : (rowC (l.take (n + 1))).length = (n + 1) * 2 := by rw [rowC_length, List.length_take, HLL.out]; omega
              rw [List.getElem?_append_right (by omega), hPl, Nat.add_sub_cancel_left, List.getElem?_append_left (List.getElem?_eq_some_iff.1 hy).1]
              exact hy
            · have HOP := Lib.hid h1
              clear h1
              go_wp2
              go_ret3
              refine ⟨hb6, ?_⟩
              have he : solveM C n = .large := by
                unfold solveM
                rw [HEL.out]
                dsimp only
                rw [HUL.out, HPV.out]
                dsimp only
                rw [HAT.out, HL.out]
                show (match opTo (fun _ y => okQ (y / x)) 0 (l.drop (n + 1)) with | none => Found.large | some y => Found.marks y) = _
                rw [HOP.out]
              rw [he]
              exact rfl
        · obtain rfl : j = d := by omega
          have hjn : ¬ (j : Int) < (j : Int) := by omega
          have hpn : pivot C2 u n = none := pivot_none fun y h1 h2 => hz y h1 (by omega)
          have HPN := Lib.hid hpn
          clear hpn hz hd
          go_wp2_with fail
          (with_reducible refine (whole_any 0 _).mono ?_)
          rintro e w5 ⟨rfl, hb5⟩
          go_wp2_with (with_reducible refine wpList_row1 (o := ⟨some 71, .buildSlice 40 1 #[(0, .tmp 70)], _, _, _, _⟩) (by with_unfolding_all rfl) (.tmp 70) (by with_unfolding_all rfl) 0 1 (by with_unfolding_all rfl) ?_)
          intro gx w6 hgx hb6 hX
          have hx0 : w6.rangeAt gx 0 (qC 0) := blk_range hX
          go_wp2_with fail
          (with_reducible refine (repeat_any gx 1 n 0 w6 (by omega) hx0).mono ?_)
          rintro e w7 ⟨gz, rfl, hgz, hZ, hb7⟩
          have hb456 := below_join hb5 hb6
          have hb47 := below_join hb456 hb7
          have hgz4 : wr.heap.size ≤ gz := Nat.le_trans hb456.size hgz
          have HN0 : Hid (NumRel C2 n u gz hs wr (.int .i64 0) w7) := (⟨0, Nat.zero_le _, rfl, hZ, hb47⟩ : NumRel C2 n u gz hs wr (.int .i64 0) w7)
          clear hb5 hb6 hb7 hX hx0 hgx hZ hb456 hb47 hgz
          go_wp2
          go_loopw [76] (NumRel C2 n u gz hs wr) (fun i _ => u - (intOf i).toNat)
          case atStart => exact HN0.out
          case round =>
            clear HN0
            obtain ⟨i, hi, rfl, hB, hb8⟩ := hrel
            have hE8 := HE4.out.keep (hb8.mono hsT)
            have hO8 := own_only (L := []) HOW.out (Only.of_below hb8) (fun k hk => by cases hk)
            by_cases hlt8 : i < u
            · have hii : (i : Int) < (u : Int) := by omega
              have hi0 : (0 : Int) ≤ (i : Int) := by omega
              obtain ⟨c9, hc9⟩ : ∃ c, hs[i]? = some c := ⟨_, List.getElem?_eq_getElem (by rw [HUL.out]; omega)⟩
              have hcn9 : c9 < n := elimM_lt n C2 hs HEL.out c9 (List.mem_of_getElem? hc9)
              have hci9 : (c9 : Int) < (n : Int) := by omega
              have hc90 : (0 : Int) ≤ (c9 : Int) := by omega
              obtain ⟨ga, hA, hca⟩ := own_cellI hO8 (y := .int .i64 (c9 : Int)) (i := i) (by unfold headsV; rw [List.getElem?_map, hc9]; rfl)
              subst hA
              obtain ⟨r, hr⟩ : ∃ r, M2[i]? = some r := ⟨_, List.getElem?_eq_getElem (by omega)⟩
              obtain ⟨l, hl⟩ : ∃ l, C2[i]? = some l := ⟨_, List.getElem?_eq_getElem (by omega)⟩
              obtain ⟨hll, hlf, hlB⟩ := hE8.rows i r l hr hl
              obtain ⟨x, hx⟩ : ∃ x, l[n]? = some x := ⟨_, List.getElem?_eq_getElem (by have := HNN.out; omega)⟩
              have hc1 := hE8.hdrs.cell (k := i) (v := rowV N r) (by rw [List.getElem?_map, hr]; rfl)
              have hq0 := hlB.cell (rowR_cell (R := r.2.2) (prs_get hx)).1
              have hq1 := hlB.cell (rowR_cell (R := r.2.2) (prs_get hx)).2
              have hat : at2 C2 i n = x := by unfold at2; rw [hl, Option.bind_some, hx]; rfl
              obtain ⟨g, c3, R⟩ := r
              unfold rowV at hc1
              dsimp only at hc1 hq0 hq1
              have hnN : (n : Int) < (N : Int) := by have := HNN.out; omega
              have hn0 : (0 : Int) ≤ (n : Int) := by omega
              have hui9 : (i : Int) < (M2.length : Int) := by omega
              have hstp := setTo_step (C := C2) (n := n) (x := List.replicate n 0) hc9
              have hSl := setTo_length C2 n (hs.take i) 0 (List.replicate n 0)
              rw [List.length_replicate] at hSl
              rw [hat] at hstp
              obtain ⟨S, hS⟩ : ∃ S, setTo C2 n 0 (hs.take i) (List.replicate n 0) = S := ⟨_, rfl⟩
              rw [hS] at hB hstp hSl
              have hone : (rowC S).length = n * 2 := by rw [rowC_length, hSl]
              have HSP := Lib.hid hstp
              clear hstp hS hlB hr hl hx hlf hll hat hc9
              go_wp2_with (with_reducible refine wpList_put (o := ⟨none, .store 23 (.tmp 90) (.tmp 89), _, _, _, _⟩) (by with_unfolding_all rfl) 23 (.tmp 90) (.tmp 89) (by with_unfolding_all rfl) gz (c9 * 2) (by with_unfolding_all rfl) (.agg [Value.int .i64 x.num, Value.int .i64 (x.den : Int)].toArray) (by with_unfolding_all rfl) hB [Value.int .i64 x.num, Value.int .i64 (x.den : Int)] (by with_unfolding_all rfl) (by with_unfolding_all (exact Tryd.szQ)) (by with_unfolding_all (rw [hone]; show c9 * 2 + 2 ≤ n * 2; omega)) (by with_unfolding_all (exact int_one _ _)) ?_)
              intro w9 hu9 hB9
              have hmk : splice (rowC S) (c9 * 2) [Value.int .i64 x.num, Value.int .i64 (x.den : Int)] = rowC (S.set c9 x) := by
                have h := rowR_set (l := prs S) (k := c9) (p := (x.num, (x.den : Int))) (R := []) (by rw [prs_length, hSl]; exact hcn9)
                rw [List.append_nil, List.append_nil, prs_set] at h
                exact h
              rw [hmk, ← HSP.out] at hB9
              have hb9 := hb8.trans (hu9.below hgz4)
              clear hmk hB hu9
              go_wp2
              go_roundw
              case rel => exact ⟨i + 1, by omega, by go_num, hB9, hb9⟩
              case measure => simp [intOf]; omega
            · obtain rfl : i = u := by omega
              have hin : ¬ (i : Int) < (i : Int) := by omega
              rw [List.take_of_length_le (by rw [HUL.out]; omega)] at hB
              have HB := Lib.hid hB
              clear hB
              go_wp2
              go_ret3
              refine ⟨hbw4.trans (hb8.mono hbw4.size), ?_⟩
              have he : solveM C n = .numbers (setTo C2 n 0 hs (List.replicate n 0)) := by
                unfold solveM
                rw [HEL.out]
                dsimp only
                rw [HUL.out, HPN.out]
              rw [he]
              exact ⟨gz, rfl, Nat.le_trans hbw4.size hgz4, by rw [setTo_length, List.length_replicate], setTo_fits hE8.at2_fits hs 0 _ (fun y hy => by rw [(List.mem_replicate.1 hy).2]; exact fits_zero), HB.out⟩
    · obtain rfl : u = m := by omega
      have hpn : pivot C2 u n = none := pivot_none fun y h1 h2 => absurd h2 (by omega)
      have HPN := Lib.hid hpn
      clear hpn
      go_wp2
      go_loopw [44] (fun i wr => i = .int .i64 0 ∧ wr = w4) (fun _ _ => 0)
      case atStart => exact ⟨rfl, rfl⟩
      case round =>
        obtain ⟨rfl, rfl⟩ := hrel
        go_wp2_with fail
        (with_reducible refine (whole_any 0 _).mono ?_)
        rintro e w5 ⟨rfl, hb5⟩
        go_wp2_with (with_reducible refine wpList_row1 (o := ⟨some 71, .buildSlice 40 1 #[(0, .tmp 70)], _, _, _, _⟩) (by with_unfolding_all rfl) (.tmp 70) (by with_unfolding_all rfl) 0 1 (by with_unfolding_all rfl) ?_)
        intro gx w6 hgx hb6 hX
        have hx0 : w6.rangeAt gx 0 (qC 0) := blk_range hX
        go_wp2_with fail
        (with_reducible refine (repeat_any gx 1 n 0 w6 (by omega) hx0).mono ?_)
        rintro e w7 ⟨gz, rfl, hgz, hZ, hb7⟩
        have hb456 := below_join hb5 hb6
        have hb47 := below_join hb456 hb7
        have hgz4 : wr.heap.size ≤ gz := Nat.le_trans hb456.size hgz
        have HN0 : Hid (NumRel C2 n u gz hs wr (.int .i64 0) w7) := (⟨0, Nat.zero_le _, rfl, hZ, hb47⟩ : NumRel C2 n u gz hs wr (.int .i64 0) w7)
        clear hb5 hb6 hb7 hX hx0 hgx hZ hb456 hb47 hgz
        go_wp2
        go_loopw [76] (NumRel C2 n u gz hs wr) (fun i _ => u - (intOf i).toNat)
        case atStart => exact HN0.out
        case round =>
          clear HN0
          obtain ⟨i, hi, rfl, hB, hb8⟩ := hrel
          have hE8 := HE4.out.keep (hb8.mono hsT)
          have hO8 := own_only (L := []) HOW.out (Only.of_below hb8) (fun k hk => by cases hk)
          by_cases hlt8 : i < u
          · have hii : (i : Int) < (u : Int) := by omega
            have hi0 : (0 : Int) ≤ (i : Int) := by omega
            obtain ⟨c9, hc9⟩ : ∃ c, hs[i]? = some c := ⟨_, List.getElem?_eq_getElem (by rw [HUL.out]; omega)⟩
            have hcn9 : c9 < n := elimM_lt n C2 hs HEL.out c9 (List.mem_of_getElem? hc9)
            have hci9 : (c9 : Int) < (n : Int) := by omega
            have hc90 : (0 : Int) ≤ (c9 : Int) := by omega
            obtain ⟨ga, hA, hca⟩ := own_cellI hO8 (y := .int .i64 (c9 : Int)) (i := i) (by unfold headsV; rw [List.getElem?_map, hc9]; rfl)
            subst hA
            obtain ⟨r, hr⟩ : ∃ r, M2[i]? = some r := ⟨_, List.getElem?_eq_getElem (by omega)⟩
            obtain ⟨l, hl⟩ : ∃ l, C2[i]? = some l := ⟨_, List.getElem?_eq_getElem (by omega)⟩
            obtain ⟨hll, hlf, hlB⟩ := hE8.rows i r l hr hl
            obtain ⟨x, hx⟩ : ∃ x, l[n]? = some x := ⟨_, List.getElem?_eq_getElem (by have := HNN.out; omega)⟩
            have hc1 := hE8.hdrs.cell (k := i) (v := rowV N r) (by rw [List.getElem?_map, hr]; rfl)
            have hq0 := hlB.cell (rowR_cell (R := r.2.2) (prs_get hx)).1
            have hq1 := hlB.cell (rowR_cell (R := r.2.2) (prs_get hx)).2
            have hat : at2 C2 i n = x := by unfold at2; rw [hl, Option.bind_some, hx]; rfl
            obtain ⟨g, c3, R⟩ := r
            unfold rowV at hc1
            dsimp only at hc1 hq0 hq1
            have hnN : (n : Int) < (N : Int) := by have := HNN.out; omega
            have hn0 : (0 : Int) ≤ (n : Int) := by omega
            have hui9 : (i : Int) < (M2.length : Int) := by omega
            have hstp := setTo_step (C := C2) (n := n) (x := List.replicate n 0) hc9
            have hSl := setTo_length C2 n (hs.take i) 0 (List.replicate n 0)
            rw [List.length_replicate] at hSl
            rw [hat] at hstp
            obtain ⟨S, hS⟩ : ∃ S, setTo C2 n 0 (hs.take i) (List.replicate n 0) = S := ⟨_, rfl⟩
            rw [hS] at hB hstp hSl
            have hone : (rowC S).length = n * 2 := by rw [rowC_length, hSl]
            have HSP := Lib.hid hstp
            clear hstp hS hlB hr hl hx hlf hll hat hc9
            go_wp2_with (with_reducible refine wpList_put (o := ⟨none, .store 23 (.tmp 90) (.tmp 89), _, _, _, _⟩) (by with_unfolding_all rfl) 23 (.tmp 90) (.tmp 89) (by with_unfolding_all rfl) gz (c9 * 2) (by with_unfolding_all rfl) (.agg [Value.int .i64 x.num, Value.int .i64 (x.den : Int)].toArray) (by with_unfolding_all rfl) hB [Value.int .i64 x.num, Value.int .i64 (x.den : Int)] (by with_unfolding_all rfl) (by with_unfolding_all (exact Tryd.szQ)) (by with_unfolding_all (rw [hone]; show c9 * 2 + 2 ≤ n * 2; omega)) (by with_unfolding_all (exact int_one _ _)) ?_)
            intro w9 hu9 hB9
            have hmk : splice (rowC S) (c9 * 2) [Value.int .i64 x.num, Value.int .i64 (x.den : Int)] = rowC (S.set c9 x) := by
              have h := rowR_set (l := prs S) (k := c9) (p := (x.num, (x.den : Int))) (R := []) (by rw [prs_length, hSl]; exact hcn9)
              rw [List.append_nil, List.append_nil, prs_set] at h
              exact h
            rw [hmk, ← HSP.out] at hB9
            have hb9 := hb8.trans (hu9.below hgz4)
            clear hmk hB hu9
            go_wp2
            go_roundw
            case rel => exact ⟨i + 1, by omega, by go_num, hB9, hb9⟩
            case measure => simp [intOf]; omega
          · obtain rfl : i = u := by omega
            have hin : ¬ (i : Int) < (i : Int) := by omega
            rw [List.take_of_length_le (by rw [HUL.out]; omega)] at hB
            have HB := Lib.hid hB
            clear hB
            go_wp2
            go_ret3
            refine ⟨hbw4.trans (hb8.mono hbw4.size), ?_⟩
            have he : solveM C n = .numbers (setTo C2 n 0 hs (List.replicate n 0)) := by
              unfold solveM
              rw [HEL.out]
              dsimp only
              rw [HUL.out, HPN.out]
            rw [he]
            exact ⟨gz, rfl, Nat.le_trans hbw4.size hgz4, by rw [setTo_length, List.length_replicate], setTo_fits hE8.at2_fits hs 0 _ (fun y hy => by rw [(List.mem_replicate.1 hy).2]; exact fits_zero), HB.out⟩
  · have HEL := Lib.hid hel
    clear hel
    go_wp2
    go_ret3
    refine ⟨hbw4, ?_⟩
    unfold solveM
    rw [HEL.out]
    exact rfl
theorem solve_any (A : Option Addr) (c : Nat) (rs : List (Hdr × List Rat)) (ab : Addr) (cb m n : Nat) (bs : List Rat) (w : World) (hm : rs.length = m) (hm20 : m ≤ 20) (hn20 : n ≤ 20) (hcn : colsN (rs.map fun p => p.1) = n) (hform : formedB (rs.map fun p => p.1) m = true)
    (hS : HdrsAt w A (rs.map fun p => p.1)) (hR : ∀ p ∈ rs, GivenRow w n p) (hf : ∀ p ∈ rs, ∀ x ∈ p.2, fits x) (hbf : ∀ x ∈ bs, fits x) (hbl : bs.length = m) (hcb : m ≤ cb) (hb : ∀ j u, (rowC bs)[j]? = some u → w.cell? (ab.add j) = some u) :
    Calls Tryd.prog 41 #[.slice A m c, .slice (some ab) m cb] w fun e w' => Below w.heap.size w w' ∧ SolvedR (solveM (tabC m (rs.map fun p => p.2) bs) n) n m w e w' :=
  solve_at A c rs (some ab) cb m n bs w hm hm20 hn20 hcn hform hS (fun p hp => ⟨(hR p hp).size, hf p hp⟩) hbf hbl
    (fun w1 h1 => tableOf_any A c rs ab cb m n bs w1 hm (by omega) (by omega) (hS.next h1) (fun p hp => (hR p hp).next h1) hbl hcb (fun j u hu => cellq_below h1 (hb j u hu)))
set_option maxRecDepth 100000 in
set_option maxHeartbeats 1600000 in
theorem tableOf_none (A B : Option Addr) (c cb n : Nat) (w : World) :
    Calls Tryd.prog 60 #[.slice A 0 c, .slice B 0 cb] w fun e w' => ∃ gr M, e = .returned (.slice (some ⟨gr, 0, none⟩) 0 0) ∧ w.heap.size ≤ gr ∧ TabTo w gr 0 n [] [] 0 M w' := by
  go_enter Tryd.func60, Tryd.ntmps60
  go_wp2_with (with_reducible refine wpList_makeL (o := ⟨some 10, .makeSlice 45 (.tmp 9) (.tmp 9), _, _, _, _⟩) (by with_unfolding_all rfl) (.tmp 9) (.tmp 9) (by with_unfolding_all rfl) 0 (by omega) (by with_unfolding_all rfl) (by with_unfolding_all rfl) ?_)
  intro gr w1 hgr hb1 hB1
  have hl : w.heap.size ≤ gr := Nat.le_of_eq hgr.out.symm
  have hT0 : Hid (TabTo w gr 0 n [] [] 0 [] w1) := (⟨hB1, rfl, (fun i r p b h1 => by cases h1), (fun i j r p h1 => by cases h1), (fun i r h1 => by cases h1), hb1, (fun i r h1 => by cases h1)⟩ : TabTo w gr 0 n [] [] 0 [] w1)
  clear hB1 hb1 hgr
  go_wp2
  go_loopw [13] (fun i wr => i = .int .i64 0 ∧ wr = w1) (fun _ _ => 0)
  case atStart => exact ⟨rfl, rfl⟩
  case round =>
    obtain ⟨rfl, rfl⟩ := hrel
    go_wp2
    go_ret
    exact ⟨gr, [], rfl, hl, hT0.out⟩
end Go.Proofs.YthjaelopmfjfeaaDoor
