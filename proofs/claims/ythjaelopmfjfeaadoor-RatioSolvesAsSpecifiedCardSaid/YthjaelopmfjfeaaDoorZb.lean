/-
  Contract of the walk over Refutes. Conditions: the system and the lists lie there.
-/
import Derived.Test.YthjaelopmfjfeaaDoorZa
namespace Go.Proofs.YthjaelopmfjfeaaDoor
set_option linter.unusedVariables false
set_option linter.unusedSimpArgs false
open Go.RowKit Go.Shelf
set_option linter.unusedVariables false

theorem splice_next (A J : List Value) (k : Nat) (a b : Value) (hA : A.length = k * 2) (hJ : 2 ≤ J.length) : splice (A ++ J) (k * 2) [a, b] = (A ++ [a, b]) ++ J.drop 2 := by
  unfold splice
  rw [← hA, List.take_left, ← List.drop_drop, List.drop_left, List.append_assoc]; rfl
theorem col_step {al : List (List Rat)} {c k : Nat} {r : List Rat} {x : Rat} (hr : al[k]? = some r) (hx : r[c]? = some x) : rowC (colL (al.take (k + 1)) c) = rowC (colL (al.take k) c) ++ [Value.int .i64 x.num, Value.int .i64 (x.den : Int)] := by
  obtain ⟨hk, e⟩ := List.getElem?_eq_some_iff.1 hr
  rw [List.take_succ_eq_append_getElem hk, e]
  unfold colL
  rw [List.map_append, rowC_append, List.map_cons, List.map_nil, nth_get hx]; rfl
theorem col_len (al : List (List Rat)) (c : Nat) : (colL al c).length = al.length := by unfold colL; rw [List.length_map]
def ColRel (al : List (List Rat)) (c m g : Nat) (w : World) (i : Value) (wr : World) : Prop := ∃ (k : Nat) (J : List Value), k ≤ m ∧ i = .int .i64 (k : Int) ∧ J.length = (m - k) * 2 ∧ Blk wr g 23 (rowC (colL (al.take k) c) ++ J) ∧ Below w.heap.size w wr
def ReRel (al : List (List Rat)) (ys : List Rat) (n : Nat) (w : World) (i : Value) (wr : World) : Prop := ∃ k : Nat, k ≤ n ∧ i = .int .i64 (k : Int) ∧ refTo al ys k = 0 ∧ Below w.heap.size w wr
set_option maxRecDepth 100000 in
set_option maxHeartbeats 6400000 in
theorem refutes_any (A B X : Option Addr) (c d e m n xl : Nat) (rs : List (Hdr × List Rat)) (bs ys : List Rat) (w : World) (hm : rs.length = m) (hm20 : m ≤ 20) (hn20 : n ≤ 20) (hcn : colsN (rs.map fun p => p.1) = n) (hform : formedB (rs.map fun p => p.1) m = true) (hbl : bs.length = m) (hxl : ys.length = xl) (hx : xl ≤ 140737488355328)
    (hS : HdrsAt w A (rs.map fun p => p.1)) (hR : ∀ p ∈ rs, RowQ w n p) (hf : ∀ p ∈ rs, ∀ x ∈ p.2, fits x) (hB : PsAt w B (prs bs)) (hbf : ∀ x ∈ bs, fits x) (hX : PsAt w X (prs ys)) (hxf : ∀ x ∈ ys, fits x) :
    Calls Tryd.prog 46 #[.slice A m c, .slice B m d, .slice X xl e] w fun e w' => e = .returned (.int .i64 (if xl = m then (if refTo (rs.map fun p => p.2) ys n = 0 then expI ys bs 1 else refTo (rs.map fun p => p.2) ys n) else 1)) ∧ Below w.heap.size w w' := by
  have hml : (rs.map fun p => p.1).length = m := by rw [List.length_map, hm]
  have hFO := formed_any A B c m d (rs.map fun p => p.1) w (by omega) (by omega) (by omega) hS
  rw [hml, hform] at hFO
  have HCO : Hid (∀ w1, Below w.heap.size w w1 → Calls Tryd.prog 59 #[.slice A m c] w1 fun e w' => e = .returned (.int .i64 (n : Int)) ∧ w1 = w') := (fun w1 h1 => by
    have h := columns_any A c (rs.map fun p => p.1) w1 (hS.next h1)
    rw [hml, hcn] at h
    exact h : ∀ w1, Below w.heap.size w w1 → Calls Tryd.prog 59 #[.slice A m c] w1 fun e w' => e = .returned (.int .i64 (n : Int)) ∧ w1 = w')
  have hget : ∀ k, k < m → ∃ p, rs[k]? = some p ∧ RowQ w n p ∧ ∃ ad, A = some ad ∧ w.cell? (ad.add k) = some (hdrV p.1) := fun k hk => by
    have h1 : rs[k]? = some (rs[k]'(by omega)) := List.getElem?_eq_getElem (by omega)
    exact ⟨_, h1, hR _ (List.mem_of_getElem? h1), hS k _ (by rw [List.getElem?_map, h1]; rfl)⟩
  have hcf : ∀ c, ∀ x ∈ colL (rs.map fun p => p.2) c, fits x := fun c x hx => by
    unfold colL at hx
    obtain ⟨r, hr, rfl⟩ := List.mem_map.1 hx
    obtain ⟨p, hp, rfl⟩ := List.mem_map.1 hr
    exact nth_fits (hf p hp) c
  obtain ⟨al, hal⟩ : ∃ al, (rs.map fun p => p.2) = al := ⟨_, rfl⟩
  have hall : al.length = m := by rw [← hal, List.length_map, hm]
  have hag : ∀ (k : Nat) (p : Hdr × List Rat), rs[k]? = some p → al[k]? = some p.2 := fun k p hp => by rw [← hal, List.getElem?_map, hp]; rfl
  rw [hal] at hcf ⊢
  have HGT := Lib.hid hget
  have HCF := Lib.hid hcf
  have HAG := Lib.hid hag
  have HAL := Lib.hid hall
  have HB := Lib.hid hB
  have HX := Lib.hid hX
  have HXF := Lib.hid hxf
  have HXL := Lib.hid hxl
  have HBF := Lib.hid hbf
  have HBL := Lib.hid hbl
  obtain ⟨R, hRR⟩ : ∃ R, Hid ((if xl = m then (if refTo al ys n = 0 then expI ys bs 1 else refTo al ys n) else 1) = R) := ⟨_, rfl⟩
  rw [hRR.out]
  have HFO := Lib.hid hFO
  have hmi : (m : Int) ≤ 20 := by omega
  have hni : (n : Int) ≤ 20 := by omega
  have hxi : (xl : Int) ≤ 140737488355328 := by omega
  clear hS hR hf hbf hxf hX hB hget hFO hml hcn hform hm hbl hxl hcf hag hall hal
  go_enter Tryd.func46, Tryd.ntmps46
  go_wp2_with fail
  (with_reducible refine HFO.out.mono ?_)
  rintro e w1 ⟨rfl, hb1⟩
  by_cases hxn : xl = m
  · have hxb : ((xl : Int) != (m : Int)) = false := by rw [hxn]; simp
    have hR2 : Hid ((if refTo al ys n = 0 then expI ys bs 1 else refTo al ys n) = R) := by
      have := hRR.out
      rw [if_pos hxn] at this
      exact this
    have HXN := Lib.hid hxn
    clear hxn
    go_wp2_with fail
    (with_reducible refine (HCO.out _ hb1).mono ?_)
    rintro e w2 ⟨rfl, rfl⟩
    go_wp2
    go_loopw [25] (ReRel al ys n w) (fun i _ => n - (intOf i).toNat)
    case atStart => exact ⟨0, Nat.zero_le _, rfl, rfl, hb1⟩
    case round =>
      clear hb1
      obtain ⟨k, hk, rfl, hz, hbe⟩ := hrel
      have HZ := Lib.hid hz
      clear hz
      obtain ⟨W1, hW1⟩ : ∃ W, W = wr := ⟨wr, rfl⟩
      subst hW1
      by_cases hlt : k < n
      · have hki : (k : Int) < (n : Int) := by omega
        have hk0 : (0 : Int) ≤ (k : Int) := by omega
        go_wp2_with (with_reducible refine wpList_makeQ (o := ⟨some 30, .makeSlice 40 (.tmp 29) (.tmp 29), _, _, _, _⟩) (by with_unfolding_all rfl) (.tmp 29) (.tmp 29) (by with_unfolding_all rfl) m (by omega) (by with_unfolding_all rfl) (by with_unfolding_all rfl) ?_)
        intro g w2 L hg hb2 hL hB2
        have hlg : W1.heap.size ≤ g := Nat.le_of_eq hg.out.symm
        have hL2 : L.length = (m - 0) * 2 := by omega
        have hC0 : Hid (ColRel al k m g W1 (.int .i64 0) w2) := (⟨0, L, Nat.zero_le _, rfl, hL2, hB2, hb2⟩ : ColRel al k m g W1 (.int .i64 0) w2)
        clear hg hb2 hL hL2 hB2
        go_wp2
        go_loopw [33] (ColRel al k m g W1) (fun i _ => m - (intOf i).toNat)
        case atStart => exact hC0.out
        case round =>
          clear hC0
          obtain ⟨j, J, hj, rfl, hJ, hBg, hb3⟩ := hrel
          by_cases hjm : j < m
          · have hji : (j : Int) < (m : Int) := by omega
            have hj0 : (0 : Int) ≤ (j : Int) := by omega
            obtain ⟨p, hp, hrow, ad, rfl, hc⟩ := HGT.out j hjm
            have har := HAG.out j p hp
            have hrw := (hrow.next hbe).next hb3
            obtain ⟨⟨C, q, f⟩, r⟩ := p
            have hqn : q = n := hrw.len
            subst hqn
            have hc0 : wr.cell? (ad.add j) = some (.slice C q f) := cellq_below hb3 (cellq_below hbe hc)
            obtain ⟨x, hx⟩ : ∃ x, r[k]? = some x := ⟨_, List.getElem?_eq_getElem (by have := hrw.size; dsimp only at this; omega)⟩
            obtain ⟨gc, oc, hCa, x0, x1⟩ := hrw.lies k _ (prs_get hx)
            dsimp only at hCa
            subst hCa
            have hcl : (rowC (colL (al.take j) k)).length = j * 2 := by rw [rowC_length, col_len, List.length_take, HAL.out]; omega
            have hsp := splice_next (rowC (colL (al.take j) k)) J j (Value.int .i64 x.num) (Value.int .i64 (x.den : Int)) hcl (by omega)
            rw [← col_step har hx] at hsp
            have HSP := Lib.hid hsp
            have hlen : j * 2 + 2 ≤ (rowC (colL (al.take j) k) ++ J).length := by rw [List.length_append, hcl]; omega
            have HJ2 : Hid ((J.drop 2).length = (m - (j + 1)) * 2) := by
              have : (J.drop 2).length = (m - (j + 1)) * 2 := by rw [List.length_drop]; omega
              exact this
            have HLE := Lib.hid hlen
            clear hsp hlen hcl har hrw hrow hp hx hc hJ
            go_wp2_with (with_reducible refine wpList_put (o := ⟨none, .store 23 (.tmp 44) (.tmp 43), _, _, _, _⟩) (by with_unfolding_all rfl) 23 (.tmp 44) (.tmp 43) (by with_unfolding_all rfl) g (j * 2) (by with_unfolding_all rfl) (.agg [Value.int .i64 x.num, Value.int .i64 (x.den : Int)].toArray) (by with_unfolding_all rfl) hBg [Value.int .i64 x.num, Value.int .i64 (x.den : Int)] (by with_unfolding_all rfl) (by with_unfolding_all (exact Tryd.szQ)) (by with_unfolding_all (exact HLE.out)) (by with_unfolding_all (exact int_one _ _)) ?_)
            intro w4 hu4 hB4
            rw [HSP.out] at hB4
            have hb4 := hb3.trans (hu4.below (B := W1.heap.size) hlg)
            clear hBg hu4 hb3 x0 x1 hc0
            go_wp2
            go_roundw
            case rel => exact ⟨j + 1, J.drop 2, by omega, by go_num, HJ2.out, hB4, hb4⟩
            case measure => simp [intOf]; omega
          · obtain rfl : j = m := by omega
            have hJ0 : J = [] := List.eq_nil_of_length_eq_zero (by omega)
            subst hJ0
            have hjj : ¬ (j : Int) < (j : Int) := by omega
            rw [List.append_nil, List.take_of_length_le (by rw [HAL.out]; exact Nat.le_refl _)] at hBg
            have hbw := below_join hbe hb3
            have hclen : (colL al k).length = j := by rw [col_len, HAL.out]
            have hstep : refTo al ys (k + 1) = expI ys (colL al k) 0 := by
              show (if refTo al ys k = 0 then _ else _) = _
              rw [if_pos HZ.out]
            obtain ⟨E, hE⟩ : ∃ E, refTo al ys (k + 1) = E := ⟨_, rfl⟩
            have hex := fun (w' : World) (hA : PsAt w' X (prs ys)) (hB : PsAt w' (some ⟨g, 0, none⟩) (prs (colL al k))) => expect_any X (some ⟨g, 0, none⟩) e j xl j ys (colL al k) 0 w' HXL.out hclen (by omega) (by omega) HXF.out (HCF.out k) hA hB
            rw [← hstep, hE] at hex
            have HEX := Lib.hid hex
            have HE := Lib.hid hE
            have hX3 := (HX.out.next hbe).next hb3
            have hC3 : PsAt wr (some ⟨g, 0, none⟩) (prs (colL al k)) := psAt_blk hBg
            have HX3 := Lib.hid hX3
            have HC3 := Lib.hid hC3
            have hz : (Value.agg [Value.int .i64 (0 : Rat).num, Value.int .i64 ((0 : Rat).den : Int)].toArray) = .agg [Value.int .i64 0, Value.int .i64 1].toArray := rfl
            rw [hz] at HEX
            clear hE hstep hex hX3 hC3 hBg hclen hb3 hbe hJ hz
            go_wp2_with fail
            (with_reducible refine (whole_any 0 _).mono ?_)
            rintro e w5 ⟨rfl, hb5⟩
            go_wp2_with fail
            (with_reducible refine (HEX.out _ (HX3.out.next hb5) (HC3.out.next hb5)).mono ?_)
            rintro e w6 ⟨rfl, hb6⟩
            have hbe6 := below_join hbw (below_join hb5 hb6)
            clear hb5 hb6 hbw HX3 HC3 HEX
            by_cases h0 : E = 0
            · subst h0
              go_wp2
              go_roundw
              case rel => exact ⟨k + 1, by omega, by go_num, HE.out, hbe6⟩
              case measure => simp [intOf]; omega
            · have h0b : (E != 0) = true := bne_iff_ne.2 h0
              have hER : Hid (E = R) := by
                have : E = R := by
                  have h9 := refTo_stop (al := al) (ys := ys) (k := k + 1) (by rw [HE.out]; exact h0) n (by omega)
                  rw [HE.out] at h9
                  rw [← hR2.out, if_neg (by rw [h9]; exact h0), h9]
                exact this
              clear h0
              go_wp2
              go_ret
              exact ⟨by rw [hER.out]; rfl, hbe6⟩
      · obtain rfl : k = n := by omega
        have hfin : expI ys bs 1 = R := by rw [← hR2.out, if_pos HZ.out]
        have hex := fun (w' : World) (hA : PsAt w' X (prs ys)) (hB : PsAt w' B (prs bs)) => expect_any X B e d xl m ys bs 1 w' HXL.out HBL.out (by omega) (by omega) HXF.out HBF.out hA hB
        have hz : (Value.agg [Value.int .i64 (1 : Rat).num, Value.int .i64 ((1 : Rat).den : Int)].toArray) = .agg [Value.int .i64 1, Value.int .i64 1].toArray := rfl
        rw [hfin, hz] at hex
        have HEX := Lib.hid hex
        have HBE := Lib.hid hbe
        clear hex hfin hz hbe
        go_wp2_with fail
        (with_reducible refine (whole_any 1 _).mono ?_)
        rintro e w5 ⟨rfl, hb5⟩
        have hbw5 := below_join HBE.out hb5
        go_wp2_with fail
        (with_reducible refine (HEX.out _ (HX.out.next hbw5) (HB.out.next hbw5)).mono ?_)
        rintro e w6 ⟨rfl, hb6⟩
        have hbe6 := below_join hbw5 hb6
        clear hb5 hb6 hbw5
        go_wp2
        go_ret
        exact ⟨rfl, hbe6⟩
  · have hxb : ((xl : Int) != (m : Int)) = true := bne_iff_ne.2 (by omega)
    have hfin : Hid (R = 1) := by
      have : R = 1 := by rw [← hRR.out, if_neg hxn]
      exact this
    clear hxn
    go_wp2
    go_ret
    exact ⟨by rw [hfin.out]; rfl, hb1⟩
end Go.Proofs.YthjaelopmfjfeaaDoor
