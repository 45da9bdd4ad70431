/-
  Contract of the walk over the reference's Minus. Conditions: right patterns.
-/
import Derived.Test.YtbldnhpbmfmepaaDoorGP
import Derived.Test.YtbldnhpbmfmepaaDoorGI
namespace Go.Proofs.YtbldnhpbmfmepaaDoor
set_option linter.unusedVariables false
set_option linter.unusedSimpArgs false
open Go.RowKit

theorem upd_upd (f : Nat → Bool) (k : Nat) (a b : Bool) : upd (upd f k a) k b = upd f k b := by
  funext i
  unfold upd
  by_cases e : i = k
  · simp [e]
  · simp [e]
theorem onesTo_le (f : Nat → Bool) (k : Nat) : (onesTo f k).length ≤ k := by
  have := List.length_filter_le f (List.range k)
  rw [List.length_range] at this
  exact this
structure RMinI (p q : Pat) (gp gq : Nat) (w : World) (k : Nat) (D : List Pat) (A : Option Addr) (c : Nat) (wr : World) : Prop where
  own : wr.ownsRow (gq + 1) 25 20 (.slice A D.length c) D.length (patCells D)
  all : D = (onesTo (p.only q) k).map (p.piece q)
  hk : k ≤ 160
  hp : Blk wr gp 25 (p.rest q k).cells
  hq : Blk wr gq 25 q.cells
  below : Below w.heap.size w wr
def RMinRel (p q : Pat) (gp gq : Nat) (w : World) (lv jv : Value) (wr : World) : Prop :=
  ∃ (k : Nat) (D : List Pat) (A : Option Addr) (c : Nat), jv = .int .i64 (k : Int) ∧ lv = .slice A D.length c ∧ RMinI p q gp gq w k D A c wr
set_option maxRecDepth 100000 in
set_option maxHeartbeats 3200000 in
theorem rminus_any (p q : Pat) (w : World) (hp : p.ok) (hq : q.ok) :
    Calls Tryd.prog 55 #[.agg p.cells.toArray, .agg q.cells.toArray] w fun e w' => ∃ v', e = .returned v' ∧ w'.ownsRow w.heap.size 25 20 v' (p.minus q).length (patCells (p.minus q)) ∧ Below w.heap.size w w' := by
  obtain ⟨i0, hi0, hz0, hz1, hz2⟩ := info_parts Tryd.infoPt
  have HI := Lib.hid hi0
  have HZ0 := Lib.hid hz0
  have HZ1 := Lib.hid hz1
  have HZ2 := Lib.hid hz2
  have hzs : (Value.agg (H no ++ H no).toArray).cells.size = 20 := by
    show (H no ++ H no).toArray.size = 20
    rw [List.size_toArray, List.length_append, H_length]
  have HZS := Lib.hid hzs
  clear hi0 hz0 hz1 hz2 hzs
  obtain ⟨L, hL⟩ : ∃ L, Hid (p.minus q = L) := ⟨_, rfl⟩
  rw [hL.out]
  have hov := fun w => roverlap_any p q w hp hq
  have HOV := Lib.hid hov
  clear hp hq hov
  go_enter Tryd.func55, Tryd.ntmps55
  go_wp2_with (with_reducible refine wpList_box (o := ⟨some 2, .box 25 (.tmp 0), _, _, _, _⟩) ?g1 25 (.tmp 0) ?o1 (.agg p.cells.toArray) p.cells ?x1 ?c1 ?_)
  try (case g1 => rfl)
  try (case o1 => rfl)
  try (case x1 => rfl)
  try (case c1 => rfl)
  intro gp w1 hgp hs1 hb1 hP1
  go_wp2_with (with_reducible refine wpList_box (o := ⟨some 3, .box 25 (.tmp 1), _, _, _, _⟩) ?g2 25 (.tmp 1) ?o2 (.agg q.cells.toArray) q.cells ?x2 ?c2 ?_)
  try (case g2 => rfl)
  try (case o2 => rfl)
  try (case x2 => rfl)
  try (case c2 => rfl)
  intro gq w2 hgq hs2 hb2 hQ2
  have hle : w.heap.size ≤ gp := Nat.le_of_eq hgp.out.symm
  have hab : gp < gq := by have := hgp.out; have := hs1.out; have := hgq.out; omega
  have hP2 := hP1.next hb2 hab
  have hbel := (hb1.mono hle).trans (hb2.mono (by omega))
  clear hgp hs1 hb1 hP1 hgq hs2 hb2
  go_wp2_with (first | (with_reducible refine wpList_get (o := ⟨some 9, .load 25 (.tmp 2), _, _, _, _⟩) (by with_unfolding_all rfl) 25 (.tmp 2) (by with_unfolding_all rfl) gp 0 (by with_unfolding_all rfl) hP2 p.cells (cs_all _) _ (by exact Tryd.underlying25) (by with_unfolding_all rfl) (by rw [Pat.cells_length]; exact Tryd.szP) ?_) | (with_reducible refine wpList_get (o := ⟨some 10, .load 25 (.tmp 3), _, _, _, _⟩) (by with_unfolding_all rfl) 25 (.tmp 3) (by with_unfolding_all rfl) gq 0 (by with_unfolding_all rfl) hQ2 q.cells (cs_all _) _ (by exact Tryd.underlying25) (by with_unfolding_all rfl) (by rw [Pat.cells_length]; exact Tryd.szP) ?_) | fail)
  (with_reducible refine (HOV.out _).mono ?_)
  rintro e w3 ⟨rfl, hb3'⟩
  have hP3 := hP2.next hb3' hP2.lt
  have hQ3 := hQ2.next hb3' hQ2.lt
  have hb3 := below_join hbel hb3'
  clear hP2 hQ2 hbel hb3' HOV
  by_cases ho : p.over q
  · have hLe : Hid (p.pieces q = L) := by
      have : p.pieces q = L := by rw [← hL.out]; unfold Pat.minus; rw [if_pos ho]
      exact this
    have H0 : Hid (RMinI p q gp gq w 0 [] none 0 w3) := by
      have : RMinI p q gp gq w 0 [] none 0 w3 := ⟨World.ownsRow_nil _ _ _ _, rfl, Nat.zero_le _, by rw [Pat.rest_zero]; exact hP3, hQ3, hb3⟩
      exact this
    rw [decide_eq_true ho]
    clear ho hL hP3 hQ3 hb3
    go_wp2
    go_loopw [6, 7] (RMinRel p q gp gq w) (fun _ i _ => 160 - (intOf i).toNat)
    case atStart => exact ⟨0, [], none, 0, rfl, rfl, H0.out⟩
    case round =>
      clear H0
      obtain ⟨k, D, A, c0, rfl, rfl, hR⟩ := hrel
      have HR := Lib.hid hR
      obtain ⟨how, hall, hk, hP, hQ, hbel⟩ := hR
      obtain ⟨m, hm⟩ : ∃ m, Hid (D.length = m) := ⟨_, rfl⟩
      have hm1 : m ≤ 160 := by rw [← hm.out, hall, List.length_map]; exact Nat.le_trans (onesTo_le _ _) hk
      obtain ⟨Y, hY⟩ : ∃ Y, Hid (patCells D = Y) := ⟨_, rfl⟩
      rw [hm.out, hY.out] at how
      have HOW := Lib.hid how
      have HALL := Lib.hid hall
      rw [hm.out]
      clear how hall HR
      by_cases hlt : k < 160
      · obtain ⟨R, hRe⟩ : ∃ R, p.rest q k = R := ⟨_, rfl⟩
        obtain ⟨c, hc⟩ : ∃ c, q.b k = c := ⟨_, rfl⟩
        obtain ⟨x, hx⟩ : ∃ x, p.m k = x := ⟨_, rfl⟩
        obtain ⟨y, hy⟩ : ∃ y, q.m k = y := ⟨_, rfl⟩
        have hmP := Pat.rest_m p q k
        rw [hRe, hx] at hmP
        have hbq := rbit_any q.m k
        have hbm := rbit_any R.m k
        have hbc := rbit_any q.b k
        rw [hy] at hbq
        rw [hmP] at hbm
        rw [hc] at hbc
        have HBQ := Lib.hid hbq
        have HBM := Lib.hid hbm
        have HBC := Lib.hid hbc
        clear hbq hbm hbc hmP
        rw [hRe] at hP
        go_wp2_with (with_reducible refine wpList_get (o := ⟨some 21, .load 23 (.tmp 20), _, _, _, _⟩) (by with_unfolding_all rfl) 23 (.tmp 20) (by with_unfolding_all rfl) gq 0 (by with_unfolding_all rfl) hQ (H q.m) (cells_take_m q) _ (by exact Tryd.underlying23) (by with_unfolding_all rfl) (by rw [H_length]; exact Tryd.szH) ?_)
        (with_reducible refine (HBQ.out _ hlt).mono ?_)
        rintro e w4 ⟨rfl, hb4⟩
        have hP4 := hP.next hb4 hP.lt
        have hQ4 := hQ.next hb4 hQ.lt
        have HOW4 := Lib.hid (own_keep HOW.out (fun g hg => hb4.block g (HOW.out.lt g hg).2))
        have hbel4 := below_join hbel hb4
        clear hP hQ HOW hbel hb4
        rcases y with _ | _
        · rw [show ((false.toNat : Nat) : Int) = 0 from rfl] at *
          have hof : p.only q k = false := by unfold Pat.only; rw [hy]; rfl
          have hI : Hid (RMinI p q gp gq w (k + 1) D A c0 w4) := by
            have : RMinI p q gp gq w (k + 1) D A c0 w4 := ⟨by rw [hm.out, hY.out]; exact HOW4.out, by rw [onesTo_succ, hof, if_neg (by decide), List.append_nil]; exact HALL.out, by omega, by rw [← Pat.rest_skip hof, hRe]; exact hP4, hQ4, hbel4⟩
            exact this
          clear hP4 hQ4 HOW4 hbel4 hy hx hc hRe hof
          go_wp2
          go_roundw
          case rel => exact ⟨k + 1, D, A, c0, by go_num, by rw [hm.out], hI.out⟩
          case measure => simp [intOf]; omega
        · rw [show ((true.toNat : Nat) : Int) = 1 from rfl] at *
          go_wp2_with (with_reducible refine wpList_getg (o := ⟨some 27, .load 23 (.tmp 26), _, _, _, _⟩) (by with_unfolding_all rfl) 23 (.tmp 26) (by with_unfolding_all rfl) gp 0 (by with_unfolding_all rfl) hP4 (H R.m) (cells_take_m R) _ (by exact Tryd.underlying23) (by with_unfolding_all rfl) (by rw [H_length]; exact Tryd.szH) ?_)
          (with_reducible refine (HBM.out _ hlt).mono ?_)
          rintro e w5 ⟨rfl, hb5⟩
          have hP5 := hP4.next hb5 hP4.lt
          have hQ5 := hQ4.next hb5 hQ4.lt
          have HOW5 := Lib.hid (own_keep HOW4.out (fun g hg => hb5.block g (HOW4.out.lt g hg).2))
          have hbel5 := below_join hbel4 hb5
          clear hP4 hQ4 HOW4 hbel4 hb5
          rcases x with _ | _
          rotate_left
          · rw [show ((true.toNat : Nat) : Int) = 1 from rfl] at *
            have hof : p.only q k = false := by unfold Pat.only; rw [hx, hy]; rfl
            have hI : Hid (RMinI p q gp gq w (k + 1) D A c0 w5) := by
              have : RMinI p q gp gq w (k + 1) D A c0 w5 := ⟨by rw [hm.out, hY.out]; exact HOW5.out, by rw [onesTo_succ, hof, if_neg (by decide), List.append_nil]; exact HALL.out, by omega, by rw [← Pat.rest_skip hof, hRe]; exact hP5, hQ5, hbel5⟩
              exact this
            clear hP5 hQ5 HOW5 hbel5 hy hx hc hRe hof
            go_wp2
            go_roundw
            case rel => exact ⟨k + 1, D, A, c0, by go_num, by rw [hm.out], hI.out⟩
            case measure => simp [intOf]; omega
          · rw [show ((false.toNat : Nat) : Int) = 0 from rfl] at *
            have hof : p.only q k = true := by unfold Pat.only; rw [hx, hy]; rfl
            obtain ⟨M, hM⟩ : ∃ M, upd R.m k true = M := ⟨_, rfl⟩
            obtain ⟨N1, hN1⟩ : ∃ N, upd R.b k (!c) = N := ⟨_, rfl⟩
            obtain ⟨N2, hN2⟩ : ∃ N, upd N1 k c = N := ⟨_, rfl⟩
            have HX : Hid ((⟨M, N1⟩ : Pat) = p.piece q k) := by
              have : (⟨M, N1⟩ : Pat) = p.piece q k := by rw [← hM, ← hN1, ← hc, ← hRe]; rfl
              exact this
            have HN : Hid ((⟨M, N2⟩ : Pat).cells = (p.rest q (k + 1)).cells) := by
              have : (⟨M, N2⟩ : Pat).cells = (p.rest q (k + 1)).cells := by rw [← Pat.rest_next hof, hRe, hM, hc, ← hN2, ← hN1, upd_upd]
              exact this
            have hAN : Hid (D ++ [p.piece q k] = (onesTo (p.only q) (k + 1)).map (p.piece q)) := by
              have : D ++ [p.piece q k] = (onesTo (p.only q) (k + 1)).map (p.piece q) := by rw [onesTo_succ, hof, if_pos rfl, List.map_append, ← HALL.out]; rfl
              exact this
            have hsm := fun w => rset_any R.m k true w
            have hs1 := fun w => rset_any R.b k (!c) w
            have hs2 := fun w => rset_any N1 k c w
            rw [hM, show ((true.toNat : Nat) : Int) = 1 from rfl] at hsm
            rw [hN1] at hs1
            rw [hN2] at hs2
            have hwc : IntKind.i64.wrap (1 - (c.toNat : Int)) = ((!c).toNat : Int) := by cases c <;> rfl
            have HSM := Lib.hid hsm
            have HS1 := Lib.hid hs1
            have HS2 := Lib.hid hs2
            clear hsm hs1 hs2 hM hN1 hN2 hx hy hc hRe hof HALL
            go_wp2_with (with_reducible refine wpList_get (o := ⟨some 33, .load 23 (.tmp 32), _, _, _, _⟩) (by with_unfolding_all rfl) 23 (.tmp 32) (by with_unfolding_all rfl) gq 10 (by with_unfolding_all rfl) hQ5 (H q.b) (cells_take_b q) _ (by exact Tryd.underlying23) (by with_unfolding_all rfl) (by rw [H_length]; exact Tryd.szH) ?_)
            (with_reducible refine (HBC.out _ hlt).mono ?_)
            rintro e w6 ⟨rfl, hb6⟩
            have hP6 := hP5.next hb6 hP5.lt
            have hQ6 := hQ5.next hb6 hQ5.lt
            have HOW6 := Lib.hid (own_keep HOW5.out (fun g hg => hb6.block g (HOW5.out.lt g hg).2))
            have hbel6 := below_join hbel5 hb6
            clear hP5 hQ5 HOW5 hbel5 hb6
            go_wp2_with (with_reducible refine wpList_get (o := ⟨some 37, .load 23 (.tmp 36), _, _, _, _⟩) (by with_unfolding_all rfl) 23 (.tmp 36) (by with_unfolding_all rfl) gp 0 (by with_unfolding_all rfl) hP6 (H R.m) (cells_take_m R) _ (by exact Tryd.underlying23) (by with_unfolding_all rfl) (by rw [H_length]; exact Tryd.szH) ?_)
            (with_reducible refine (HSM.out _ hlt).mono ?_)
            rintro e w7 ⟨rfl, hb7⟩
            have hP7 := hP6.next hb7 hP6.lt
            have hQ7 := hQ6.next hb7 hQ6.lt
            have HOW7 := Lib.hid (own_keep HOW6.out (fun g hg => hb7.block g (HOW6.out.lt g hg).2))
            have hbel7 := below_join hbel6 hb7
            clear hP6 hQ6 HOW6 hbel6 hb7
            go_wp2_with (with_reducible refine wpList_put (o := ⟨none, .store 23 (.tmp 40) (.tmp 39), _, _, _, _⟩) (by with_unfolding_all rfl) 23 (.tmp 40) (.tmp 39) (by with_unfolding_all rfl) gp 0 (by with_unfolding_all rfl) (.agg (H M).toArray) (by with_unfolding_all rfl) hP7 (H M) (by with_unfolding_all rfl) (by with_unfolding_all (rw [H_length]; exact Tryd.szH)) (by with_unfolding_all (rw [H_length, Pat.cells_length]; omega)) (by with_unfolding_all (exact H_one _)) ?_)
            intro w8 hu8 hP8
            rw [splice_m] at hP8
            have hQ8 := hQ7.upd hu8 (by omega)
            have HOW8 := Lib.hid (own_keep HOW7.out (fun g hg => hu8.block g (by have := (HOW7.out.lt g hg).1; omega)))
            have hbel8 := hbel7.trans (hu8.below (B := w.heap.size) hle)
            clear hP7 hQ7 HOW7 hbel7 hu8
            go_wp2_with (with_reducible refine wpList_get (o := ⟨some 42, .load 23 (.tmp 41), _, _, _, _⟩) (by with_unfolding_all rfl) 23 (.tmp 41) (by with_unfolding_all rfl) gp 10 (by with_unfolding_all rfl) hP8 (H R.b) (cells_take_b ⟨M, R.b⟩) _ (by exact Tryd.underlying23) (by with_unfolding_all rfl) (by rw [H_length]; exact Tryd.szH) ?_)
            (with_reducible refine (HS1.out _ hlt).mono ?_)
            rintro e w9 ⟨rfl, hb9⟩
            have hP9 := hP8.next hb9 hP8.lt
            have hQ9 := hQ8.next hb9 hQ8.lt
            have HOW9 := Lib.hid (own_keep HOW8.out (fun g hg => hb9.block g (HOW8.out.lt g hg).2))
            have hbel9 := below_join hbel8 hb9
            clear hP8 hQ8 HOW8 hbel8 hb9
            go_wp2_with (with_reducible refine wpList_put (o := ⟨none, .store 23 (.tmp 47) (.tmp 46), _, _, _, _⟩) (by with_unfolding_all rfl) 23 (.tmp 47) (.tmp 46) (by with_unfolding_all rfl) gp 10 (by with_unfolding_all rfl) (.agg (H N1).toArray) (by with_unfolding_all rfl) hP9 (H N1) (by with_unfolding_all rfl) (by with_unfolding_all (rw [H_length]; exact Tryd.szH)) (by with_unfolding_all (rw [H_length, Pat.cells_length]; omega)) (by with_unfolding_all (exact H_one _)) ?_)
            intro wa hua hPa
            rw [splice_b] at hPa
            have hQa := hQ9.upd hua (by omega)
            have HOWa := Lib.hid (own_keep HOW9.out (fun g hg => hua.block g (by have := (HOW9.out.lt g hg).1; omega)))
            have hbela := hbel9.trans (hua.below (B := w.heap.size) hle)
            clear hP9 hQ9 HOW9 hbel9 hua
            obtain ⟨X, hX⟩ : ∃ X, (⟨M, N1⟩ : Pat) = X := ⟨_, rfl⟩
            have HPX : Hid (X.cells = (⟨M, N1⟩ : Pat).cells) := by
              have : X.cells = (⟨M, N1⟩ : Pat).cells := by rw [← hX]
              exact this
            dsimp only at hPa
            rw [hX] at hPa HX
            clear hX
            go_wp2_with (first | (with_reducible refine wpList_get (o := ⟨some 49, .load 25 (.tmp 2), _, _, _, _⟩) (by with_unfolding_all rfl) 25 (.tmp 2) (by with_unfolding_all rfl) gp 0 (by with_unfolding_all rfl) hPa X.cells (cs_all _) _ (by exact Tryd.underlying25) (by with_unfolding_all rfl) (by rw [Pat.cells_length]; exact Tryd.szP) ?_) | (with_reducible refine wpList_slicePat (o := ⟨some 50, .buildSlice 31 1 #[(0, .tmp 49)], _, _, _, _⟩) (by with_unfolding_all rfl) (.tmp 49) (by with_unfolding_all rfl) X.cells (by with_unfolding_all rfl) (Pat.cells_length _) ?_))
            intro g5 wb hgb hbb hBb
            have hPb := hPa.next hbb hPa.lt
            have hQb := hQa.next hbb hQa.lt
            have HOWb := Lib.hid (own_keep HOWa.out (fun g hg => hbb.block g (HOWa.out.lt g hg).2))
            have hbelb := below_join hbela hbb
            have HNW := Lib.hid (blk_add hBb)
            have hxl : X.cells.length = 1 * 20 := by rw [Pat.cells_length]
            have HXL := Lib.hid hxl
            have hmx : m + 1 ≤ maxLen := by unfold maxLen; omega
            have HMX := Lib.hid hmx
            have hby : (m + 1) * 160 ≤ 140737488355328 := by omega
            have HBY := Lib.hid hby
            have hbc : gq + 1 ≤ wb.heap.size := hQb.lt
            have HBC2 := Lib.hid hbc
            clear hPa hQa HOWa hbela hxl hmx hby hBb hgb hbb hbc
            go_wp2_with (with_reducible refine wpList_appendN wb (o := ⟨some 51, .call ⟨.builtin .append, #[.tmp 48, .tmp 50], #[31, 31]⟩, _, _, _, _⟩) (by with_unfolding_all rfl) (.tmp 48) (.tmp 50) 31 (by with_unfolding_all rfl) (gq + 1) 25 i0 (.agg (H no ++ H no).toArray) 20 160 Tryd.underlying31 HI.out HZ0.out HZ1.out HZ2.out HZS.out (by decide) (.slice A m c0) m Y (by with_unfolding_all rfl) HOWb.out ⟨g5, 0, none⟩ 1 1 X.cells (by with_unfolding_all rfl) HXL.out HNW.out (cells_one _) HMX.out HBY.out HBC2.out ?_)
            intro vc wc hownc hgrc hnewc
            obtain ⟨Ac, cc, rfl, _⟩ := own_shape hownc
            have HOWc := Lib.hid hownc
            have hPc := hPb.grown hgrc (fun e => by have := (HOWb.out.lt gp e).1; omega)
            have hQc := hQb.grown hgrc (fun e => by have := (HOWb.out.lt gq e).1; omega)
            have hbelc := hbelb.grown hgrc hbelb.size (fun g hg => by have := (HOWb.out.lt g hg).1; omega)
            rw [HPX.out] at hPc
            clear hPb hQb HOWb hbelb hownc hgrc hnewc HNW HXL HMX HBY HBC2
            go_wp2_with (with_reducible refine wpList_get (o := ⟨some 53, .load 23 (.tmp 52), _, _, _, _⟩) (by with_unfolding_all rfl) 23 (.tmp 52) (by with_unfolding_all rfl) gp 10 (by with_unfolding_all rfl) hPc (H N1) (cells_take_b ⟨M, N1⟩) _ (by exact Tryd.underlying23) (by with_unfolding_all rfl) (by rw [H_length]; exact Tryd.szH) ?_)
            (with_reducible refine (HS2.out _ hlt).mono ?_)
            rintro e wd ⟨rfl, hbd⟩
            have hPd := hPc.next hbd hPc.lt
            have hQd := hQc.next hbd hQc.lt
            have HOWd := Lib.hid (own_keep HOWc.out (fun g hg => hbd.block g (HOWc.out.lt g hg).2))
            have hbeld := below_join hbelc hbd
            clear hPc hQc HOWc hbelc hbd
            go_wp2_with (with_reducible refine wpList_put (o := ⟨none, .store 23 (.tmp 57) (.tmp 56), _, _, _, _⟩) (by with_unfolding_all rfl) 23 (.tmp 57) (.tmp 56) (by with_unfolding_all rfl) gp 10 (by with_unfolding_all rfl) (.agg (H N2).toArray) (by with_unfolding_all rfl) hPd (H N2) (by with_unfolding_all rfl) (by with_unfolding_all (rw [H_length]; exact Tryd.szH)) (by with_unfolding_all (rw [H_length, Pat.cells_length]; omega)) (by with_unfolding_all (exact H_one _)) ?_)
            intro wf huf hPf
            rw [splice_b] at hPf
            dsimp only at hPf
            rw [HN.out] at hPf
            have hQf := hQd.upd huf (by omega)
            have HOWf := Lib.hid (own_keep HOWd.out (fun g hg => huf.block g (by have := (HOWd.out.lt g hg).1; omega)))
            have hbelf := hbeld.trans (huf.below (B := w.heap.size) hle)
            clear hPd hQd HOWd hbeld huf
            have hDl : (D ++ [X]).length = m + 1 := by rw [List.length_append, List.length_singleton, hm.out]
            have hI : Hid (RMinI p q gp gq w (k + 1) (D ++ [X]) Ac cc wf) := by
              have : RMinI p q gp gq w (k + 1) (D ++ [X]) Ac cc wf := ⟨by rw [hDl, patCells_snoc, hY.out]; exact HOWf.out, by rw [HX.out]; exact hAN.out, by omega, hPf, hQf, hbelf⟩
              exact this
            have HDL := Lib.hid hDl
            clear hPf hQf HOWf hbelf hDl hAN HN HX HPX
            go_wp2
            go_roundw
            case rel => exact ⟨k + 1, D ++ [X], Ac, cc, by go_num, by rw [HDL.out], hI.out⟩
            case measure => simp [intOf]; omega
      · obtain rfl : k = 160 := by omega
        have HO : Hid (wr.ownsRow w.heap.size 25 20 (.slice A m c0) m Y) := by
          have hw := hQ.lt
          have hs := hab
          have : wr.ownsRow w.heap.size 25 20 (.slice A m c0) m Y := own_mono HOW.out (fun g hg => by have := (HOW.out.lt g hg).1; omega)
          exact this
        have HLD : Hid (L = D) := by
          have : L = D := by rw [← hLe.out, HALL.out]; rfl
          exact this
        have hbe := hbel
        clear hP hQ hbel
        go_wp2
        go_ret
        exact ⟨_, rfl, by rw [HLD.out, hm.out, hY.out]; exact HO.out, hbe⟩
  · have hLe : Hid ([p] = L) := by
      have : [p] = L := by rw [← hL.out]; unfold Pat.minus; rw [if_neg ho]
      exact this
    rw [decide_eq_false ho]
    clear ho hL
    go_wp2_with (first | (with_reducible refine wpList_get (o := ⟨some 14, .load 25 (.tmp 2), _, _, _, _⟩) (by with_unfolding_all rfl) 25 (.tmp 2) (by with_unfolding_all rfl) gp 0 (by with_unfolding_all rfl) hP3 p.cells (cs_all _) _ (by exact Tryd.underlying25) (by with_unfolding_all rfl) (by rw [Pat.cells_length]; exact Tryd.szP) ?_) | (with_reducible refine wpList_slicePat (o := ⟨some 15, .buildSlice 31 1 #[(0, .tmp 14)], _, _, _, _⟩) (by with_unfolding_all rfl) (.tmp 14) (by with_unfolding_all rfl) p.cells (by with_unfolding_all rfl) (Pat.cells_length _) ?_))
    intro g4 w4 hg4 hb4 hB4
    have hle4 : w.heap.size ≤ g4 := by rw [hg4.out]; exact hb3.size
    have hb5 := below_join hb3 hb4
    have hown : w4.ownsRow w.heap.size 25 20 (.slice (some ⟨g4, 0, none⟩) 1 1) 1 p.cells := ⟨by rw [Pat.cells_length], .inr ⟨g4, 1, p.cells.toArray, rfl, hle4, hB4, Nat.le_refl _, by decide, by rw [List.size_toArray, Pat.cells_length], by rw [List.toList_toArray, List.take_of_length_le (by rw [Pat.cells_length]; exact Nat.le_refl _)]⟩⟩
    have HO := Lib.hid hown
    clear hown hB4 hb3 hb4 hg4 hP3 hQ3
    go_wp2
    go_ret
    refine ⟨_, rfl, ?_, hb5⟩
    rw [← hLe.out]
    have e : patCells [p] = p.cells := by simp [patCells]
    rw [e]
    exact HO.out
end Go.Proofs.YtbldnhpbmfmepaaDoor
