/-
  The walk of BitsRangesAreExact. Conditions: the library's variable lies there.
-/
import Derived.Test.YtbldnhpbmfmepaaDoorKLg
namespace Go.Proofs.YtbldnhpbmfmepaaDoor
set_option linter.unusedVariables false
set_option linter.unusedSimpArgs false
open Go.RowKit

def NumRel2 (h : Nat → Bool) (a wd g9 : Nat) (A : Option Addr) (L : List Pat) (w0 w : World) (nv iv : Value) (wr : World) : Prop :=
  ∃ k N : Nat, k ≤ wd ∧ iv = .int .i64 (k : Int) ∧ nv = .int .i64 (N : Int) ∧ wordB h a k = N ∧ Blk wr g9 23 (H h) ∧ PatsAt wr A L ∧ Below w.heap.size w wr
def OutRel (n g9 : Nat) (A : Option Addr) (L : List Pat) (w : World) (iv : Value) (wr : World) : Prop :=
  ∃ k : Nat, k ≤ n ∧ iv = .int .i64 (k : Int) ∧ PatsAt wr A L ∧ Below w.heap.size w wr
def InRel (i : Nat) (A : Option Addr) (L : List Pat) (w : World) (kv : Value) (wr : World) : Prop :=
  ∃ k : Nat, k ≤ i ∧ kv = .int .i64 (k : Int) ∧ PatsAt wr A L ∧ Below w.heap.size w wr
set_option maxRecDepth 100000 in
set_option maxHeartbeats 3200000 in
theorem rexact_bad (a wd lo hi : Int) (lh : List Int) (w : World) (h5 : lh.length = 10) (hb : ¬ rangeOk a wd lo hi) (hG : GOk w) :
    Calls Tryd.prog 13 #[.int .i64 a, .int .i64 wd, .int .i64 lo, .int .i64 hi, .agg (lh.map iV).toArray] w fun e w' => e = .returned (.bool true) ∧ Below w.heap.size w w' := by
  have HG := Lib.hid hG
  have C1 := Lib.hid (fun w => (range_bad a wd lo hi w hb).mono fun e w' h => (⟨h.1, h.2 ▸ Below.refl _ _⟩ : _ ∧ Below w.heap.size w w'))
  clear hG hb h5
  go_enter Tryd.func13, Tryd.ntmps13
  go_wp2_with (with_reducible refine wpList_box (o := ⟨some 9, .box 23 (.tmp 4), _, _, _, _⟩) ?g9 23 (.tmp 4) ?o9 (.agg (lh.map iV).toArray) (lh.map iV) ?x9 ?c9 ?_)
  try (case g9 => rfl)
  try (case o9 => rfl)
  try (case x9 => rfl)
  try (case c9 => rfl)
  intro g9 w1 hg9 hs1 hb1 B9
  have hb1 := hb1.mono (Nat.le_of_eq hg9.out.symm)
  have hbe : Below w.heap.size w w1 := hb1
  clear hb1 hg9 hs1
  go_wp2_with fail
  (with_reducible refine (sanity_any _ (HG.out.next hbe)).mono ?_)
  rintro e w2 ⟨rfl, hb2⟩
  have B9 := B9.next hb2 B9.lt
  have hbe := below_join hbe hb2
  clear hb2
  go_wp2_with fail
  (with_reducible refine (C1.out _).mono ?_)
  rintro e w3 ⟨rfl, hb3⟩
  have B9 := B9.next hb3 B9.lt
  have hbe := below_join hbe hb3
  clear hb3
  go_wp2
  go_ret
  exact ⟨rfl, hbe⟩
set_option maxRecDepth 100000 in
set_option maxHeartbeats 3200000 in
theorem rexact_raw (a wd lo hi : Nat) (lh : List Int) (w : World) (h6 : lh.length = 10) (hr : ¬ rightI lh) (h1 : 1 ≤ wd) (h2 : a % 16 + wd ≤ 16) (h3 : a + wd ≤ 160) (h4 : lo ≤ hi) (h5 : hi < 2 ^ wd) (hG : GOk w) :
    Calls Tryd.prog 13 #[.int .i64 (a : Int), .int .i64 (wd : Int), .int .i64 (lo : Int), .int .i64 (hi : Int), .agg (lh.map iV).toArray] w fun e w' => e = .returned (.bool true) ∧ Below w.heap.size w w' := by
  have HG := Lib.hid hG
  obtain ⟨n, hn⟩ : ∃ n, (rangeL a wd lo hi).length = n := ⟨_, rfl⟩
  have c1 := fun w => range_pats a wd lo hi w n hn h1 h2 h3 h4 h5
  have c2 := fun w => heads_any lh lh w h6 h6
  rw [decide_eq_false hr] at c2
  have C1 := Lib.hid c1
  have C2 := Lib.hid c2
  have z1 : (Tryd.prog.info? 23).map (·.size) = some (lh.map iV).length := by rw [List.length_map, h6]; exact Tryd.szH
  have Z1 := Lib.hid z1
  clear c1 c2 hn h1 h2 h3 h4 h5 hG h6 hr z1
  go_enter Tryd.func13, Tryd.ntmps13
  go_wp2_with (with_reducible refine wpList_box (o := ⟨some 9, .box 23 (.tmp 4), _, _, _, _⟩) ?g9 23 (.tmp 4) ?o9 (.agg (lh.map iV).toArray) (lh.map iV) ?x9 ?c9 ?_)
  try (case g9 => rfl)
  try (case o9 => rfl)
  try (case x9 => rfl)
  try (case c9 => rfl)
  intro g9 w1 hg9 hs1 hb1 B9
  have hb1 := hb1.mono (Nat.le_of_eq hg9.out.symm)
  have hbe : Below w.heap.size w w1 := hb1
  clear hb1 hg9 hs1
  go_wp2_with fail
  (with_reducible refine (sanity_any _ (HG.out.next hbe)).mono ?_)
  rintro e w2 ⟨rfl, hb2⟩
  have B9 := B9.next hb2 B9.lt
  have hbe := below_join hbe hb2
  clear hb2
  go_wp2_with fail
  (with_reducible refine (C1.out _).mono ?_)
  rintro e w3 ⟨A1, c1, rfl, M1, hb3⟩
  have B9 := B9.next hb3 B9.lt
  have hbe := below_join hbe hb3
  clear hb3
  go_wp2_with (first | (with_reducible refine wpList_getg (o := ⟨some 32, .load 23 (.tmp 9), _, _, _, _⟩) (by with_unfolding_all rfl) 23 (.tmp 9) (by with_unfolding_all rfl) g9 0 (by with_unfolding_all rfl) B9 (lh.map iV) (cs_all _) _ (by exact Tryd.underlying23) (by with_unfolding_all rfl) (by (exact Z1.out)) ?_) | (with_reducible refine wpList_getg (o := ⟨some 33, .load 23 (.tmp 9), _, _, _, _⟩) (by with_unfolding_all rfl) 23 (.tmp 9) (by with_unfolding_all rfl) g9 0 (by with_unfolding_all rfl) B9 (lh.map iV) (cs_all _) _ (by exact Tryd.underlying23) (by with_unfolding_all rfl) (by (exact Z1.out)) ?_))
  (with_reducible refine (C2.out _).mono ?_)
  rintro e w4 ⟨rfl, hb4⟩
  have B9 := B9.next hb4 B9.lt
  have hbe := below_join hbe hb4
  clear hb4
  go_wp2
  go_ret
  exact ⟨rfl, hbe⟩
set_option maxRecDepth 100000 in
set_option maxHeartbeats 12800000 in
theorem rexact_good (a wd lo hi : Nat) (h : Nat → Bool) (w : World) (h1 : 1 ≤ wd) (h2 : a % 16 + wd ≤ 16) (h3 : a + wd ≤ 160) (h4 : lo ≤ hi) (h5 : hi < 2 ^ wd) (hG : GOk w) :
    Calls Tryd.prog 13 #[.int .i64 (a : Int), .int .i64 (wd : Int), .int .i64 (lo : Int), .int .i64 (hi : Int), .agg (H h).toArray] w fun e w' => e = .returned (.bool true) ∧ Below w.heap.size w w' := by
  have HG := Lib.hid hG
  have hw16 : wd ≤ 16 := by omega
  have hi16 : hi < 65536 := Nat.lt_of_lt_of_le h5 (Nat.pow_le_pow_right (by decide) hw16)
  obtain ⟨n, hn⟩ : ∃ n, (rangeL a wd lo hi).length = n := ⟨_, rfl⟩
  have hfew := range_len (a := a) h1 h2 h4 h5
  rw [hn] at hfew
  have hap := range_apart (a := a) (wd := wd) (hi := hi) h3 hi16 h5 65537 lo
  have hcnt := range_count (a := a) (wd := wd) (hi := hi) h h3 hi16 h5 65537 lo (by omega)
  have c1 := fun w => range_pats a wd lo hi w n hn h1 h2 h3 h4 h5
  obtain ⟨L, hL⟩ : ∃ L, rangeL a wd lo hi = L := ⟨_, rfl⟩
  rw [hL] at c1 hn
  rw [show rangeGo a wd hi 65537 lo = L from hL] at hap hcnt
  have hnl : n ≤ 31 := by omega
  obtain ⟨C, hC⟩ : ∃ C, (L.countP fun p => decide (p.hit h)) = C := ⟨_, rfl⟩
  have c2 : ∀ A c w, PatsAt w A L → Calls Tryd.prog 70 #[.slice A n c, .agg (H h).toArray] w fun e w' => e = .returned (.int .i64 (C : Int)) ∧ Below w.heap.size w w' := fun A c w hp => by
    have := rin_any A c L h w (by rw [hn]; omega) hp
    rw [hn, hC] at this
    exact this
  rw [hC] at hcnt
  have c3 : ∀ k p q, k < n → ∀ i, i < n → k < i → L[k]? = some p → L[i]? = some q → (∀ w, Calls Tryd.prog 40 #[.agg p.cells.toArray, .agg q.cells.toArray] w fun e w' => e = .returned (.tuple #[.agg Pat.zero.cells.toArray, .bool false]) ∧ Below w.heap.size w w') ∧ ∀ w, Calls Tryd.prog 34 #[.agg p.cells.toArray, .agg q.cells.toArray] w fun e w' => e = .returned (.bool false) ∧ Below w.heap.size w w' := fun k p q hk i hi hki hp hq => by
    have hr := (List.pairwise_iff_getElem.1 hap) k i (by omega) (by omega) hki
    rw [(List.getElem?_eq_some_iff.1 hp).2, (List.getElem?_eq_some_iff.1 hq).2] at hr
    refine ⟨fun w => ?_, fun w => ?_⟩
    · have := join2_any p q w
      rw [show p.joinV q = .zero from if_neg (by rw [hr.2]; decide), hr.2] at this
      exact this
    · have := overlapV_any p q w
      rw [decide_eq_false hr.1] at this
      exact this
  have hget : ∀ k, k < n → ∃ p, L[k]? = some p := fun k hk => ⟨_, List.getElem?_eq_getElem (by omega)⟩
  have C1 := Lib.hid c1
  have C2 := Lib.hid c2
  have C3 := Lib.hid c3
  have HGET := Lib.hid hget
  have HCNT := Lib.hid hcnt
  have hfw : (n : Int) ≤ max 1 (2 * (wd : Int) - 2) := by omega
  obtain ⟨MX, hMX⟩ : ∃ MX : Int, max 1 (2 * (wd : Int) - 2) = MX := ⟨_, rfl⟩
  rw [hMX] at hfw
  have HMX := Lib.hid hMX
  have hng : ¬ ((n : Int) > MX) := by omega
  have hwm1 : IntKind.i64.wrap (2 * (wd : Int)) = 2 * (wd : Int) := by simp only [IntKind.wrap_i64]; omega
  have hwm2 : IntKind.i64.wrap (2 * (wd : Int) - 2) = 2 * (wd : Int) - 2 := by simp only [IntKind.wrap_i64]; omega
  clear c1 c2 c3 hL hn hap hC hget hcnt hfew h4 h2 hG hfw hMX
  go_enter Tryd.func13, Tryd.ntmps13
  go_wp2_with (with_reducible refine wpList_box (o := ⟨some 9, .box 23 (.tmp 4), _, _, _, _⟩) ?g9 23 (.tmp 4) ?o9 (.agg (H h).toArray) (H h) ?x9 ?c9 ?_)
  try (case g9 => rfl)
  try (case o9 => rfl)
  try (case x9 => rfl)
  try (case c9 => rfl)
  intro g9 w1 hg9 hs1 hb1 B9
  have hb1 := hb1.mono (Nat.le_of_eq hg9.out.symm)
  have hbe : Below w.heap.size w w1 := hb1
  clear hb1 hg9 hs1
  go_wp2_with fail
  (with_reducible refine (sanity_any _ (HG.out.next hbe)).mono ?_)
  rintro e w2 ⟨rfl, hb2⟩
  have B9 := B9.next hb2 B9.lt
  have hbe := below_join hbe hb2
  clear hb2
  go_wp2_with fail
  (with_reducible refine (C1.out _).mono ?_)
  rintro e w3 ⟨A1, c1, rfl, M1, hb3⟩
  have B9 := B9.next hb3 B9.lt
  have hbe := below_join hbe hb3
  clear hb3
  go_wp2_with (first | (with_reducible refine wpList_getg (o := ⟨some 32, .load 23 (.tmp 9), _, _, _, _⟩) (by with_unfolding_all rfl) 23 (.tmp 9) (by with_unfolding_all rfl) g9 0 (by with_unfolding_all rfl) B9 (H h) (cs_all _) _ (by exact Tryd.underlying23) (by with_unfolding_all rfl) (by (rw [H_length]; exact Tryd.szH)) ?_) | (with_reducible refine wpList_getg (o := ⟨some 33, .load 23 (.tmp 9), _, _, _, _⟩) (by with_unfolding_all rfl) 23 (.tmp 9) (by with_unfolding_all rfl) g9 0 (by with_unfolding_all rfl) B9 (H h) (cs_all _) _ (by exact Tryd.underlying23) (by with_unfolding_all rfl) (by (rw [H_length]; exact Tryd.szH)) ?_))
  (with_reducible refine (heads_h _ _ _).mono ?_)
  rintro e w4 ⟨rfl, hb4⟩
  have B9 := B9.next hb4 B9.lt
  have M1 := M1.next hb4
  have hbe := below_join hbe hb4
  clear hb4
  go_wp2
  go_loopw [14, 15] (fun nv iv wr => NumRel2 h a wd g9 A1 L w4 w nv iv wr) (fun _ i _ => wd - (intOf i).toNat)
  case atStart => exact ⟨0, 0, Nat.zero_le _, rfl, rfl, rfl, B9, M1, hbe⟩
  case round =>
    clear B9 M1 hbe
    obtain ⟨k, N, hk, rfl, rfl, hN, B9, M1, hbe⟩ := hrel
    have hNl : N < 65536 := by rw [← hN]; exact Nat.lt_of_lt_of_le (wordB_lt h a k) (Nat.pow_le_pow_right (by decide) (show k ≤ 16 by omega))
    have HN := Lib.hid hN
    clear hN
    by_cases hlt : k < wd
    · have hki : (k : Int) < (wd : Int) := by omega
      obtain ⟨B, hB⟩ : ∃ B : Nat, Hid ((h (a + k)).toNat = B) := ⟨_, rfl⟩
      have hB1 : B ≤ 1 := by rw [← hB.out]; exact Bool.toNat_le _
      have cb : ∀ w, Calls Tryd.prog 22 #[.agg (H h).toArray, .int .i64 ((a : Int) + (k : Int))] w fun e w' => e = .returned (.int .i64 (B : Int)) ∧ Below w.heap.size w w' := fun w => by
        have := rbit_any h (a + k) w (by omega)
        rw [hB.out] at this
        exact this
      have CB := Lib.hid cb
      clear cb
      have e1 : IntKind.i64.wrap (2 * (N : Int)) = 2 * (N : Int) := by simp only [IntKind.wrap_i64]; omega
      have e2 : IntKind.i64.wrap ((a : Int) + (k : Int)) = (a : Int) + (k : Int) := by simp only [IntKind.wrap_i64]; omega
      have e3 : IntKind.i64.wrap (2 * (N : Int) + (B : Int)) = 2 * (N : Int) + (B : Int) := by simp only [IntKind.wrap_i64]; omega
      go_wp2_with (first | (with_reducible refine wpList_getg (o := ⟨some 54, .load 23 (.tmp 9), _, _, _, _⟩) (by with_unfolding_all rfl) 23 (.tmp 9) (by with_unfolding_all rfl) g9 0 (by with_unfolding_all rfl) B9 (H h) (cs_all _) _ (by exact Tryd.underlying23) (by with_unfolding_all rfl) (by (rw [H_length]; exact Tryd.szH)) ?_))
      (with_reducible refine (CB.out _).mono ?_)
      rintro e w5 ⟨rfl, hb5⟩
      have B9 := B9.next hb5 B9.lt
      have M1 := M1.next hb5
      have hbe := below_join hbe hb5
      clear hb5
      go_wp2
      go_roundw
      case rel => exact ⟨k + 1, 2 * N + B, by omega, by go_num, by go_num, by rw [← HN.out, ← hB.out]; rfl, B9, M1, hbe⟩
      case measure => simp [intOf]; omega
    · obtain rfl : k = wd := by omega
      have hcn : C = if lo ≤ N ∧ N ≤ hi then 1 else 0 := by rw [HCNT.out]; unfold fieldN; rw [HN.out]
      by_cases c1 : lo ≤ N
      · by_cases c2 : N ≤ hi
        · have i1 : (lo : Int) ≤ (N : Int) := by omega
          have i2 : ((N : Int) ≤ (hi : Int)) := by omega
          rw [if_pos (by omega)] at hcn
          subst hcn
          go_wp2_with (first | (with_reducible refine wpList_getg (o := ⟨some 61, .load 23 (.tmp 9), _, _, _, _⟩) (by with_unfolding_all rfl) 23 (.tmp 9) (by with_unfolding_all rfl) g9 0 (by with_unfolding_all rfl) B9 (H h) (cs_all _) _ (by exact Tryd.underlying23) (by with_unfolding_all rfl) (by (rw [H_length]; exact Tryd.szH)) ?_))
          (with_reducible refine (C2.out _ _ _ M1).mono ?_)
          rintro e w5 ⟨rfl, hb5⟩
          have B9 := B9.next hb5 B9.lt
          have M1 := M1.next hb5
          have hbe := below_join hbe hb5
          clear hb5
          go_wp2_with fail
          (with_reducible refine (count1_any true _).mono ?_)
          rintro e w6 ⟨rfl, hb6⟩
          have B9 := B9.next hb6 B9.lt
          have M1 := M1.next hb6
          have hbe := below_join hbe hb6
          clear hb6
          go_wp2_with (first | (with_reducible refine wpList_maxZ (o := ⟨some 79, .call ⟨.builtin .max, #[.const (.int .i64 1), .tmp 78], #[3, 3]⟩, _, _, _, _⟩) (by with_unfolding_all rfl) (.const (.int .i64 1)) (.tmp 78) 3 3 (by with_unfolding_all rfl) 1 (2 * (k : Int) - 2) MX (by with_unfolding_all rfl) (by with_unfolding_all rfl) HMX.out ?_))
          clear B9
          go_loopw [16] (fun iv wr => OutRel n g9 A1 L w iv wr) (fun i _ => n - (intOf i).toNat)
          case atStart => exact ⟨0, Nat.zero_le _, rfl, M1, hbe⟩
          case round =>
            clear M1 hbe
            obtain ⟨i, hi1, rfl, M1, hbe⟩ := hrel
            by_cases hin : i < n
            · have hii : (i : Int) < (n : Int) := by omega
              obtain ⟨q, hq⟩ := HGET.out i hin
              have HQ := Lib.hid hq
              clear hq
              go_wp2
              go_loopw [17] (fun iv wr => InRel i A1 L w iv wr) (fun j _ => i - (intOf j).toNat)
              case atStart => exact ⟨0, Nat.zero_le _, rfl, M1, hbe⟩
              case round =>
                clear M1 hbe
                obtain ⟨j, hj1, rfl, M1, hbe⟩ := hrel
                by_cases hji : j < i
                · have hjj : (j : Int) < (i : Int) := by omega
                  have hjn : (j : Int) < (n : Int) := by omega
                  obtain ⟨p, hp⟩ := HGET.out j (by omega)
                  have hpair := C3.out j p q (by omega) i hin hji hp HQ.out
                  have HJ := Lib.hid hpair.1
                  have HO := Lib.hid hpair.2
                  obtain ⟨ga, oa, rfl, hca⟩ := M1 j p hp
                  obtain ⟨gb, ob, eab, hcb⟩ := M1 i q HQ.out
                  injection eab with eab
                  injection eab with ea eb _
                  subst ea eb
                  have hun := Tryd.underlying25
                  have zp : (Tryd.prog.info? 25).map (·.size) = some p.cells.length := by rw [Pat.cells_length]; exact Tryd.szP
                  have zq : (Tryd.prog.info? 25).map (·.size) = some q.cells.length := by rw [Pat.cells_length]; exact Tryd.szP
                  have HPP := Lib.hid hp
                  clear hpair hp
                  go_wp2
                  have hdd := below_drew wr
                  have KP : Hid (∀ w', Below wr.heap.size wr w' → w'.rangeAt ga (oa + j * 20) p.cells) := (fun w' hw v u hu => by rw [hw.cell (World.block_lt_of_cell? wr _ (hca v u hu))]; exact hca v u hu : ∀ w', Below wr.heap.size wr w' → w'.rangeAt ga (oa + j * 20) p.cells)
                  have KQ : Hid (∀ w', Below wr.heap.size wr w' → w'.rangeAt ga (oa + i * 20) q.cells) := (fun w' hw v u hu => by rw [hw.cell (World.block_lt_of_cell? wr _ (hcb v u hu))]; exact hcb v u hu : ∀ w', Below wr.heap.size wr w' → w'.rangeAt ga (oa + i * 20) q.cells)
                  clear hca hcb
                  refine wp_region_held_drew (S := fun w' => Below wr.heap.size wr w') (by kernel_rfl) hdd (fun hHeld => ?_)
                  generalize wr.drew = wd at hdd hHeld ⊢
                  refine wpAnyH_take (i := 0) (v := ?vaa_0) rfl (by kernel_rfl) (by kernel_rfl) (by kernel_rfl) (fun _ _ _ h => h) (Or.inl ⟨by rfl, ?yaa_0⟩) (by assumption) ?raa_0
                  case yaa_0 => intro w hSw; (try dsimp only at hSw); go_simp <;> (try with_reducible rfl)
                  (try simp only [List.getElem_toArray, List.getElem_cons_zero, Act.put, List.setIfInBounds_toArray, List.set_cons_zero, List.set_cons_succ])
                  refine wpAnyH_take (i := 1) (v := ?vaa_1) rfl (by kernel_rfl) (by kernel_rfl) (by kernel_rfl) (fun _ _ _ h => h) (Or.inl ⟨by rfl, ?yaa_1⟩) (by assumption) ?raa_1
                  case yaa_1 => intro w hSw; (try dsimp only at hSw); go_simp <;> (try with_reducible rfl)
                  (try simp only [List.getElem_toArray, List.getElem_cons_succ, List.getElem_cons_zero, Act.put, List.setIfInBounds_toArray, List.set_cons_zero, List.set_cons_succ])
                  refine wpAnyH_take (i := 2) (v := ?vaa_2) rfl (by kernel_rfl) (by kernel_rfl) (by kernel_rfl) (fun _ _ _ h => h) (Or.inl ⟨by rfl, ?yaa_2⟩) (by assumption) ?raa_2
                  case yaa_2 => intro w hSw; (try dsimp only at hSw); go_simp <;> (try with_reducible rfl)
                  (try simp only [List.getElem_toArray, List.getElem_cons_succ, List.getElem_cons_zero, Act.put, List.setIfInBounds_toArray, List.set_cons_zero, List.set_cons_succ])
                  refine' wpAnyH_take (i := 3) (v := _) rfl (by kernel_rfl) (by kernel_rfl) (by kernel_rfl) (fun _ _ _ h => h) (yieldsIf_load_mid (by rfl) _ _ (by rfl) _ _ (by rfl) _ _ ?Saa_3 ?uaa_3 ?daa_3 ?iaa_3) (by assumption) ?raa_3
                  case Saa_3 => exact (by intro w h; exact KP.out _ h)
                  case uaa_3 => exact hun
                  case daa_3 => rfl
                  case iaa_3 => exact zp
                  (try simp only [List.getElem_toArray, List.getElem_cons_succ, List.getElem_cons_zero, Act.put, List.setIfInBounds_toArray, List.set_cons_zero, List.set_cons_succ])
                  refine wpAnyH_take (i := 4) (v := ?vaa_4) rfl (by kernel_rfl) (by kernel_rfl) (by kernel_rfl) (fun _ _ _ h => h) (Or.inl ⟨by rfl, ?yaa_4⟩) (by assumption) ?raa_4
                  case yaa_4 => intro w hSw; (try dsimp only at hSw); go_simp <;> (try with_reducible rfl)
                  (try simp only [List.getElem_toArray, List.getElem_cons_succ, List.getElem_cons_zero, Act.put, List.setIfInBounds_toArray, List.set_cons_zero, List.set_cons_succ])
                  refine wpAnyH_take (i := 5) (v := ?vaa_5) rfl (by kernel_rfl) (by kernel_rfl) (by kernel_rfl) (fun _ _ _ h => h) (Or.inl ⟨by rfl, ?yaa_5⟩) (by assumption) ?raa_5
                  case yaa_5 => intro w hSw; (try dsimp only at hSw); go_simp <;> (try with_reducible rfl)
                  (try simp only [List.getElem_toArray, List.getElem_cons_succ, List.getElem_cons_zero, Act.put, List.setIfInBounds_toArray, List.set_cons_zero, List.set_cons_succ])
                  refine wpAnyH_take (i := 6) (v := ?vaa_6) rfl (by kernel_rfl) (by kernel_rfl) (by kernel_rfl) (fun _ _ _ h => h) (Or.inl ⟨by rfl, ?yaa_6⟩) (by assumption) ?raa_6
                  case yaa_6 => intro w hSw; (try dsimp only at hSw); go_simp <;> (try with_reducible rfl)
                  (try simp only [List.getElem_toArray, List.getElem_cons_succ, List.getElem_cons_zero, Act.put, List.setIfInBounds_toArray, List.set_cons_zero, List.set_cons_succ])
                  refine' wpAnyH_take (i := 7) (v := _) rfl (by kernel_rfl) (by kernel_rfl) (by kernel_rfl) (fun _ _ _ h => h) (yieldsIf_load_mid (by rfl) _ _ (by rfl) _ _ (by rfl) _ _ ?Saa_7 ?uaa_7 ?daa_7 ?iaa_7) (by assumption) ?raa_7
                  case Saa_7 => exact (by intro w h; exact KQ.out _ h)
                  case uaa_7 => exact hun
                  case daa_7 => rfl
                  case iaa_7 => exact zq
                  (try simp only [List.getElem_toArray, List.getElem_cons_succ, List.getElem_cons_zero, Act.put, List.setIfInBounds_toArray, List.set_cons_zero, List.set_cons_succ])
                  refine wpAnyH_ready (rs := [8, 12]) (by kernel_rfl) (by simp) ?_
                  refine AllReadyH.cons rfl (fun K hK => ?_) (AllReadyH.cons rfl (fun K hK => ?_) AllReadyH.nil)
                  · skip
                    go_simp
                    go_wp2_with fail
                    (with_reducible refine (HJ.out _).mono ?_)
                    rintro e w7 ⟨rfl, hb7⟩
                    have hk7 := below_join hdd hb7
                    refine hK.out _ _ hk7 (fun hHeld => ?_)
                    clear hK K hb7 hdd
                    refine wpAnyH_take (i := 9) (v := ?vab_9) rfl (by kernel_rfl) (by kernel_rfl) (by kernel_rfl) (fun _ _ _ h => h) (Or.inl ⟨by rfl, ?yab_9⟩) (by assumption) ?rab_9
                    case yab_9 => intro w hSw; (try dsimp only at hSw); go_simp <;> (try with_reducible rfl)
                    (try simp only [List.getElem_toArray, List.getElem_cons_succ, List.getElem_cons_zero, Act.put, List.setIfInBounds_toArray, List.set_cons_zero, List.set_cons_succ])
                    refine wpAnyH_take (i := 10) (v := ?vab_10) rfl (by kernel_rfl) (by kernel_rfl) (by kernel_rfl) (fun _ _ _ h => h) (Or.inl ⟨by rfl, ?yab_10⟩) (by assumption) ?rab_10
                    case yab_10 => intro w hSw; (try dsimp only at hSw); go_simp <;> (try with_reducible rfl)
                    (try simp only [List.getElem_toArray, List.getElem_cons_succ, List.getElem_cons_zero, Act.put, List.setIfInBounds_toArray, List.set_cons_zero, List.set_cons_succ])
                    refine wpAnyH_take (i := 11) (v := ?vab_11) rfl (by kernel_rfl) (by kernel_rfl) (by kernel_rfl) (fun _ _ _ h => h) (Or.inl ⟨by rfl, ?yab_11⟩) (by assumption) ?rab_11
                    case yab_11 => intro w hSw; (try dsimp only at hSw); go_simp <;> (try with_reducible rfl)
                    (try simp only [List.getElem_toArray, List.getElem_cons_succ, List.getElem_cons_zero, Act.put, List.setIfInBounds_toArray, List.set_cons_zero, List.set_cons_succ])
                    refine wpAnyH_ready (rs := [12]) (by kernel_rfl) (by simp) ?_
                    refine AllReadyH.cons rfl (fun K hK => ?_) AllReadyH.nil
                    rw [if_pos (by rfl)]
                    refine wp_allocz 25 rfl (.agg (H no ++ H no).toArray) (H no ++ H no) Tryd.zeroPt rfl ?_
                    intro g18 w8 hg18 hs8 hb8 B18
                    have hb8 := hb8.mono (Nat.le_of_eq hg18.out.symm)
                    have hk8 := below_join hk7 hb8
                    have hle18 : wr.heap.size ≤ g18 := by have := hk7.size; have := hg18.out; omega
                    refine hK.out _ _ hk8 (fun hHeld => ?_)
                    clear hK K hb8 hg18 hs8 hk7
                    refine wpAnyH_ready (rs := [13]) (by kernel_rfl) (by simp) ?_
                    refine AllReadyH.cons rfl (fun K hK => ?_) AllReadyH.nil
                    rw [if_pos (by rfl)]
                    refine wp_put 25 (.tmp 18) (.tmp 103) rfl g18 0 rfl (.agg Pat.zero.cells.toArray) rfl B18 Pat.zero.cells rfl (by rw [Pat.cells_length]; exact Tryd.szP) (by rw [Pat.cells_length, List.length_append, H_length]; omega) (cells_one _) ?_
                    intro w9 hu9 hB9
                    rw [splice_all _ _ (by rw [Pat.cells_length, List.length_append, H_length])] at hB9
                    clear B18
                    have B18 := hB9
                    have hk9 := hk8.trans (hu9.below (B := wr.heap.size) hle18)
                    refine hK.out _ _ hk9 (fun hHeld => ?_)
                    clear hK K hu9 hB9 hk8
                    refine wpAnyH_take (i := 14) (v := ?vab_14) rfl (by kernel_rfl) (by kernel_rfl) (by kernel_rfl) (fun _ _ _ h => h) (Or.inl ⟨by rfl, ?yab_14⟩) (by assumption) ?rab_14
                    case yab_14 => intro w hSw; (try dsimp only at hSw); go_simp <;> (try with_reducible rfl)
                    (try simp only [List.getElem_toArray, List.getElem_cons_succ, List.getElem_cons_zero, Act.put, List.setIfInBounds_toArray, List.set_cons_zero, List.set_cons_succ])
                    refine wpAnyH_done (by kernel_rfl) ?_ _
                    clear hHeld KP KQ
                    have M1 := M1.next hk9
                    have hbe := below_join hbe hk9
                    clear hk9
                    have hpp := HPP.out
                    obtain ⟨gc, oc, ec, hca⟩ := M1 j p hpp
                    injection ec with ec
                    injection ec with ec1 ec2 _
                    subst ec1 ec2
                    obtain ⟨gd, od, ed, hcb⟩ := M1 i q HQ.out
                    injection ed with ed
                    injection ed with ed1 ed2 _
                    subst ed1 ed2
                    clear hpp
                    go_wp2
                    have hdd := below_drew w9
                    have KP : Hid (∀ w', Below w9.heap.size w9 w' → w'.rangeAt ga (oa + j * 20) p.cells) := (fun w' hw v u hu => by rw [hw.cell (World.block_lt_of_cell? w9 _ (hca v u hu))]; exact hca v u hu : ∀ w', Below w9.heap.size w9 w' → w'.rangeAt ga (oa + j * 20) p.cells)
                    have KQ : Hid (∀ w', Below w9.heap.size w9 w' → w'.rangeAt ga (oa + i * 20) q.cells) := (fun w' hw v u hu => by rw [hw.cell (World.block_lt_of_cell? w9 _ (hcb v u hu))]; exact hcb v u hu : ∀ w', Below w9.heap.size w9 w' → w'.rangeAt ga (oa + i * 20) q.cells)
                    clear hca hcb
                    refine wp_region_held_drew (S := fun w' => Below w9.heap.size w9 w') (by kernel_rfl) hdd (fun hHeld => ?_)
                    generalize w9.drew = wd at hdd hHeld ⊢
                    refine wpAnyH_take (i := 0) (v := ?vac_0) rfl (by kernel_rfl) (by kernel_rfl) (by kernel_rfl) (fun _ _ _ h => h) (Or.inl ⟨by rfl, ?yac_0⟩) (by assumption) ?rac_0
                    case yac_0 => intro w hSw; (try dsimp only at hSw); go_simp <;> (try with_reducible rfl)
                    (try simp only [List.getElem_toArray, List.getElem_cons_zero, Act.put, List.setIfInBounds_toArray, List.set_cons_zero, List.set_cons_succ])
                    refine wpAnyH_take (i := 1) (v := ?vac_1) rfl (by kernel_rfl) (by kernel_rfl) (by kernel_rfl) (fun _ _ _ h => h) (Or.inl ⟨by rfl, ?yac_1⟩) (by assumption) ?rac_1
                    case yac_1 => intro w hSw; (try dsimp only at hSw); go_simp <;> (try with_reducible rfl)
                    (try simp only [List.getElem_toArray, List.getElem_cons_succ, List.getElem_cons_zero, Act.put, List.setIfInBounds_toArray, List.set_cons_zero, List.set_cons_succ])
                    refine wpAnyH_take (i := 2) (v := ?vac_2) rfl (by kernel_rfl) (by kernel_rfl) (by kernel_rfl) (fun _ _ _ h => h) (Or.inl ⟨by rfl, ?yac_2⟩) (by assumption) ?rac_2
                    case yac_2 => intro w hSw; (try dsimp only at hSw); go_simp <;> (try with_reducible rfl)
                    (try simp only [List.getElem_toArray, List.getElem_cons_succ, List.getElem_cons_zero, Act.put, List.setIfInBounds_toArray, List.set_cons_zero, List.set_cons_succ])
                    refine wpAnyH_take (i := 3) (v := ?vac_3) rfl (by kernel_rfl) (by kernel_rfl) (by kernel_rfl) (fun _ _ _ h => h) (Or.inl ⟨by rfl, ?yac_3⟩) (by assumption) ?rac_3
                    case yac_3 => intro w hSw; (try dsimp only at hSw); go_simp <;> (try with_reducible rfl)
                    (try simp only [List.getElem_toArray, List.getElem_cons_succ, List.getElem_cons_zero, Act.put, List.setIfInBounds_toArray, List.set_cons_zero, List.set_cons_succ])
                    refine wpAnyH_take (i := 4) (v := ?vac_4) rfl (by kernel_rfl) (by kernel_rfl) (by kernel_rfl) (fun _ _ _ h => h) (Or.inl ⟨by rfl, ?yac_4⟩) (by assumption) ?rac_4
                    case yac_4 => intro w hSw; (try dsimp only at hSw); go_simp <;> (try with_reducible rfl)
                    (try simp only [List.getElem_toArray, List.getElem_cons_succ, List.getElem_cons_zero, Act.put, List.setIfInBounds_toArray, List.set_cons_zero, List.set_cons_succ])
                    refine' wpAnyH_take (i := 5) (v := _) rfl (by kernel_rfl) (by kernel_rfl) (by kernel_rfl) (fun _ _ _ h => h) (yieldsIf_load_mid (by rfl) _ _ (by rfl) _ _ (by rfl) _ _ ?Sac_5 ?uac_5 ?dac_5 ?iac_5) (by assumption) ?rac_5
                    case Sac_5 => exact (by intro w h; exact KP.out _ h)
                    case uac_5 => exact hun
                    case dac_5 => rfl
                    case iac_5 => exact zp
                    (try simp only [List.getElem_toArray, List.getElem_cons_succ, List.getElem_cons_zero, Act.put, List.setIfInBounds_toArray, List.set_cons_zero, List.set_cons_succ])
                    refine wpAnyH_take (i := 6) (v := ?vac_6) rfl (by kernel_rfl) (by kernel_rfl) (by kernel_rfl) (fun _ _ _ h => h) (Or.inl ⟨by rfl, ?yac_6⟩) (by assumption) ?rac_6
                    case yac_6 => intro w hSw; (try dsimp only at hSw); go_simp <;> (try with_reducible rfl)
                    (try simp only [List.getElem_toArray, List.getElem_cons_succ, List.getElem_cons_zero, Act.put, List.setIfInBounds_toArray, List.set_cons_zero, List.set_cons_succ])
                    refine wpAnyH_take (i := 7) (v := ?vac_7) rfl (by kernel_rfl) (by kernel_rfl) (by kernel_rfl) (fun _ _ _ h => h) (Or.inl ⟨by rfl, ?yac_7⟩) (by assumption) ?rac_7
                    case yac_7 => intro w hSw; (try dsimp only at hSw); go_simp <;> (try with_reducible rfl)
                    (try simp only [List.getElem_toArray, List.getElem_cons_succ, List.getElem_cons_zero, Act.put, List.setIfInBounds_toArray, List.set_cons_zero, List.set_cons_succ])
                    refine wpAnyH_take (i := 8) (v := ?vac_8) rfl (by kernel_rfl) (by kernel_rfl) (by kernel_rfl) (fun _ _ _ h => h) (Or.inl ⟨by rfl, ?yac_8⟩) (by assumption) ?rac_8
                    case yac_8 => intro w hSw; (try dsimp only at hSw); go_simp <;> (try with_reducible rfl)
                    (try simp only [List.getElem_toArray, List.getElem_cons_succ, List.getElem_cons_zero, Act.put, List.setIfInBounds_toArray, List.set_cons_zero, List.set_cons_succ])
                    refine' wpAnyH_take (i := 9) (v := _) rfl (by kernel_rfl) (by kernel_rfl) (by kernel_rfl) (fun _ _ _ h => h) (yieldsIf_load_mid (by rfl) _ _ (by rfl) _ _ (by rfl) _ _ ?Sac_9 ?uac_9 ?dac_9 ?iac_9) (by assumption) ?rac_9
                    case Sac_9 => exact (by intro w h; exact KQ.out _ h)
                    case uac_9 => exact hun
                    case dac_9 => rfl
                    case iac_9 => exact zq
                    (try simp only [List.getElem_toArray, List.getElem_cons_succ, List.getElem_cons_zero, Act.put, List.setIfInBounds_toArray, List.set_cons_zero, List.set_cons_succ])
                    refine wpAnyH_ready (rs := [10]) (by kernel_rfl) (by simp) ?_
                    refine AllReadyH.cons rfl (fun K hK => ?_) AllReadyH.nil
                    go_simp
                    go_wp2_with fail
                    (with_reducible refine (HO.out _).mono ?_)
                    rintro e w10 ⟨rfl, hb10⟩
                    have hk10 := below_join hdd hb10
                    refine hK.out _ _ hk10 (fun hHeld => ?_)
                    clear hK K hb10 hdd
                    refine wpAnyH_take (i := 11) (v := ?vac_11) rfl (by kernel_rfl) (by kernel_rfl) (by kernel_rfl) (fun _ _ _ h => h) (Or.inl ⟨by rfl, ?yac_11⟩) (by assumption) ?rac_11
                    case yac_11 => intro w hSw; (try dsimp only at hSw); go_simp <;> (try with_reducible rfl)
                    (try simp only [List.getElem_toArray, List.getElem_cons_succ, List.getElem_cons_zero, Act.put, List.setIfInBounds_toArray, List.set_cons_zero, List.set_cons_succ])
                    refine wpAnyH_done (by kernel_rfl) ?_ _
                    clear hHeld KP KQ
                    have M1 := M1.next hk10
                    have hbe := below_join hbe hk10
                    clear hk10
                    go_wp2
                    go_roundw
                    case rel => exact ⟨j + 1, by omega, by go_num, M1, hbe⟩
                    case measure => simp [intOf]; omega
                  · skip
                    rw [if_pos (by rfl)]
                    refine wp_allocz 25 rfl (.agg (H no ++ H no).toArray) (H no ++ H no) Tryd.zeroPt rfl ?_
                    intro g18 w7 hg18 hs7 hb7 B18
                    have hb7 := hb7.mono (Nat.le_of_eq hg18.out.symm)
                    have hk7 := below_join hdd hb7
                    have hle18 : wr.heap.size ≤ g18 := by have := hdd.size; have := hg18.out; omega
                    refine hK.out _ _ hk7 (fun hHeld => ?_)
                    clear hK K hb7 hg18 hs7 hdd
                    refine wpAnyH_ready (rs := [8]) (by kernel_rfl) (by simp) ?_
                    refine AllReadyH.cons rfl (fun K hK => ?_) AllReadyH.nil
                    go_simp
                    go_wp2_with fail
                    (with_reducible refine (HJ.out _).mono ?_)
                    rintro e w8 ⟨rfl, hb8⟩
                    have B18 := B18.next hb8 B18.lt
                    have hk8 := below_join hk7 hb8
                    refine hK.out _ _ hk8 (fun hHeld => ?_)
                    clear hK K hb8 hk7
                    refine wpAnyH_take (i := 9) (v := ?vad_9) rfl (by kernel_rfl) (by kernel_rfl) (by kernel_rfl) (fun _ _ _ h => h) (Or.inl ⟨by rfl, ?yad_9⟩) (by assumption) ?rad_9
                    case yad_9 => intro w hSw; (try dsimp only at hSw); go_simp <;> (try with_reducible rfl)
                    (try simp only [List.getElem_toArray, List.getElem_cons_succ, List.getElem_cons_zero, Act.put, List.setIfInBounds_toArray, List.set_cons_zero, List.set_cons_succ])
                    refine wpAnyH_take (i := 10) (v := ?vad_10) rfl (by kernel_rfl) (by kernel_rfl) (by kernel_rfl) (fun _ _ _ h => h) (Or.inl ⟨by rfl, ?yad_10⟩) (by assumption) ?rad_10
                    case yad_10 => intro w hSw; (try dsimp only at hSw); go_simp <;> (try with_reducible rfl)
                    (try simp only [List.getElem_toArray, List.getElem_cons_succ, List.getElem_cons_zero, Act.put, List.setIfInBounds_toArray, List.set_cons_zero, List.set_cons_succ])
                    refine wpAnyH_take (i := 11) (v := ?vad_11) rfl (by kernel_rfl) (by kernel_rfl) (by kernel_rfl) (fun _ _ _ h => h) (Or.inl ⟨by rfl, ?yad_11⟩) (by assumption) ?rad_11
                    case yad_11 => intro w hSw; (try dsimp only at hSw); go_simp <;> (try with_reducible rfl)
                    (try simp only [List.getElem_toArray, List.getElem_cons_succ, List.getElem_cons_zero, Act.put, List.setIfInBounds_toArray, List.set_cons_zero, List.set_cons_succ])
                    refine wpAnyH_ready (rs := [13]) (by kernel_rfl) (by simp) ?_
                    refine AllReadyH.cons rfl (fun K hK => ?_) AllReadyH.nil
                    rw [if_pos (by rfl)]
                    refine wp_put 25 (.tmp 18) (.tmp 103) rfl g18 0 rfl (.agg Pat.zero.cells.toArray) rfl B18 Pat.zero.cells rfl (by rw [Pat.cells_length]; exact Tryd.szP) (by rw [Pat.cells_length, List.length_append, H_length]; omega) (cells_one _) ?_
                    intro w9 hu9 hB9
                    rw [splice_all _ _ (by rw [Pat.cells_length, List.length_append, H_length])] at hB9
                    clear B18
                    have B18 := hB9
                    have hk9 := hk8.trans (hu9.below (B := wr.heap.size) hle18)
                    refine hK.out _ _ hk9 (fun hHeld => ?_)
                    clear hK K hu9 hB9 hk8
                    refine wpAnyH_take (i := 14) (v := ?vad_14) rfl (by kernel_rfl) (by kernel_rfl) (by kernel_rfl) (fun _ _ _ h => h) (Or.inl ⟨by rfl, ?yad_14⟩) (by assumption) ?rad_14
                    case yad_14 => intro w hSw; (try dsimp only at hSw); go_simp <;> (try with_reducible rfl)
                    (try simp only [List.getElem_toArray, List.getElem_cons_succ, List.getElem_cons_zero, Act.put, List.setIfInBounds_toArray, List.set_cons_zero, List.set_cons_succ])
                    refine wpAnyH_done (by kernel_rfl) ?_ _
                    clear hHeld KP KQ
                    have M1 := M1.next hk9
                    have hbe := below_join hbe hk9
                    clear hk9
                    have hpp := HPP.out
                    obtain ⟨gc, oc, ec, hca⟩ := M1 j p hpp
                    injection ec with ec
                    injection ec with ec1 ec2 _
                    subst ec1 ec2
                    obtain ⟨gd, od, ed, hcb⟩ := M1 i q HQ.out
                    injection ed with ed
                    injection ed with ed1 ed2 _
                    subst ed1 ed2
                    clear hpp
                    go_wp2
                    have hdd := below_drew w9
                    have KP : Hid (∀ w', Below w9.heap.size w9 w' → w'.rangeAt ga (oa + j * 20) p.cells) := (fun w' hw v u hu => by rw [hw.cell (World.block_lt_of_cell? w9 _ (hca v u hu))]; exact hca v u hu : ∀ w', Below w9.heap.size w9 w' → w'.rangeAt ga (oa + j * 20) p.cells)
                    have KQ : Hid (∀ w', Below w9.heap.size w9 w' → w'.rangeAt ga (oa + i * 20) q.cells) := (fun w' hw v u hu => by rw [hw.cell (World.block_lt_of_cell? w9 _ (hcb v u hu))]; exact hcb v u hu : ∀ w', Below w9.heap.size w9 w' → w'.rangeAt ga (oa + i * 20) q.cells)
                    clear hca hcb
                    refine wp_region_held_drew (S := fun w' => Below w9.heap.size w9 w') (by kernel_rfl) hdd (fun hHeld => ?_)
                    generalize w9.drew = wd at hdd hHeld ⊢
                    refine wpAnyH_take (i := 0) (v := ?vae_0) rfl (by kernel_rfl) (by kernel_rfl) (by kernel_rfl) (fun _ _ _ h => h) (Or.inl ⟨by rfl, ?yae_0⟩) (by assumption) ?rae_0
                    case yae_0 => intro w hSw; (try dsimp only at hSw); go_simp <;> (try with_reducible rfl)
                    (try simp only [List.getElem_toArray, List.getElem_cons_zero, Act.put, List.setIfInBounds_toArray, List.set_cons_zero, List.set_cons_succ])
                    refine wpAnyH_take (i := 1) (v := ?vae_1) rfl (by kernel_rfl) (by kernel_rfl) (by kernel_rfl) (fun _ _ _ h => h) (Or.inl ⟨by rfl, ?yae_1⟩) (by assumption) ?rae_1
                    case yae_1 => intro w hSw; (try dsimp only at hSw); go_simp <;> (try with_reducible rfl)
                    (try simp only [List.getElem_toArray, List.getElem_cons_succ, List.getElem_cons_zero, Act.put, List.setIfInBounds_toArray, List.set_cons_zero, List.set_cons_succ])
                    refine wpAnyH_take (i := 2) (v := ?vae_2) rfl (by kernel_rfl) (by kernel_rfl) (by kernel_rfl) (fun _ _ _ h => h) (Or.inl ⟨by rfl, ?yae_2⟩) (by assumption) ?rae_2
                    case yae_2 => intro w hSw; (try dsimp only at hSw); go_simp <;> (try with_reducible rfl)
                    (try simp only [List.getElem_toArray, List.getElem_cons_succ, List.getElem_cons_zero, Act.put, List.setIfInBounds_toArray, List.set_cons_zero, List.set_cons_succ])
                    refine wpAnyH_take (i := 3) (v := ?vae_3) rfl (by kernel_rfl) (by kernel_rfl) (by kernel_rfl) (fun _ _ _ h => h) (Or.inl ⟨by rfl, ?yae_3⟩) (by assumption) ?rae_3
                    case yae_3 => intro w hSw; (try dsimp only at hSw); go_simp <;> (try with_reducible rfl)
                    (try simp only [List.getElem_toArray, List.getElem_cons_succ, List.getElem_cons_zero, Act.put, List.setIfInBounds_toArray, List.set_cons_zero, List.set_cons_succ])
                    refine wpAnyH_take (i := 4) (v := ?vae_4) rfl (by kernel_rfl) (by kernel_rfl) (by kernel_rfl) (fun _ _ _ h => h) (Or.inl ⟨by rfl, ?yae_4⟩) (by assumption) ?rae_4
                    case yae_4 => intro w hSw; (try dsimp only at hSw); go_simp <;> (try with_reducible rfl)
                    (try simp only [List.getElem_toArray, List.getElem_cons_succ, List.getElem_cons_zero, Act.put, List.setIfInBounds_toArray, List.set_cons_zero, List.set_cons_succ])
                    refine' wpAnyH_take (i := 5) (v := _) rfl (by kernel_rfl) (by kernel_rfl) (by kernel_rfl) (fun _ _ _ h => h) (yieldsIf_load_mid (by rfl) _ _ (by rfl) _ _ (by rfl) _ _ ?Sae_5 ?uae_5 ?dae_5 ?iae_5) (by assumption) ?rae_5
                    case Sae_5 => exact (by intro w h; exact KP.out _ h)
                    case uae_5 => exact hun
                    case dae_5 => rfl
                    case iae_5 => exact zp
                    (try simp only [List.getElem_toArray, List.getElem_cons_succ, List.getElem_cons_zero, Act.put, List.setIfInBounds_toArray, List.set_cons_zero, List.set_cons_succ])
                    refine wpAnyH_take (i := 6) (v := ?vae_6) rfl (by kernel_rfl) (by kernel_rfl) (by kernel_rfl) (fun _ _ _ h => h) (Or.inl ⟨by rfl, ?yae_6⟩) (by assumption) ?rae_6
                    case yae_6 => intro w hSw; (try dsimp only at hSw); go_simp <;> (try with_reducible rfl)
                    (try simp only [List.getElem_toArray, List.getElem_cons_succ, List.getElem_cons_zero, Act.put, List.setIfInBounds_toArray, List.set_cons_zero, List.set_cons_succ])
                    refine wpAnyH_take (i := 7) (v := ?vae_7) rfl (by kernel_rfl) (by kernel_rfl) (by kernel_rfl) (fun _ _ _ h => h) (Or.inl ⟨by rfl, ?yae_7⟩) (by assumption) ?rae_7
                    case yae_7 => intro w hSw; (try dsimp only at hSw); go_simp <;> (try with_reducible rfl)
                    (try simp only [List.getElem_toArray, List.getElem_cons_succ, List.getElem_cons_zero, Act.put, List.setIfInBounds_toArray, List.set_cons_zero, List.set_cons_succ])
                    refine wpAnyH_take (i := 8) (v := ?vae_8) rfl (by kernel_rfl) (by kernel_rfl) (by kernel_rfl) (fun _ _ _ h => h) (Or.inl ⟨by rfl, ?yae_8⟩) (by assumption) ?rae_8
                    case yae_8 => intro w hSw; (try dsimp only at hSw); go_simp <;> (try with_reducible rfl)
                    (try simp only [List.getElem_toArray, List.getElem_cons_succ, List.getElem_cons_zero, Act.put, List.setIfInBounds_toArray, List.set_cons_zero, List.set_cons_succ])
                    refine' wpAnyH_take (i := 9) (v := _) rfl (by kernel_rfl) (by kernel_rfl) (by kernel_rfl) (fun _ _ _ h => h) (yieldsIf_load_mid (by rfl) _ _ (by rfl) _ _ (by rfl) _ _ ?Sae_9 ?uae_9 ?dae_9 ?iae_9) (by assumption) ?rae_9
                    case Sae_9 => exact (by intro w h; exact KQ.out _ h)
                    case uae_9 => exact hun
                    case dae_9 => rfl
                    case iae_9 => exact zq
                    (try simp only [List.getElem_toArray, List.getElem_cons_succ, List.getElem_cons_zero, Act.put, List.setIfInBounds_toArray, List.set_cons_zero, List.set_cons_succ])
                    refine wpAnyH_ready (rs := [10]) (by kernel_rfl) (by simp) ?_
                    refine AllReadyH.cons rfl (fun K hK => ?_) AllReadyH.nil
                    go_simp
                    go_wp2_with fail
                    (with_reducible refine (HO.out _).mono ?_)
                    rintro e w10 ⟨rfl, hb10⟩
                    have hk10 := below_join hdd hb10
                    refine hK.out _ _ hk10 (fun hHeld => ?_)
                    clear hK K hb10 hdd
                    refine wpAnyH_take (i := 11) (v := ?vae_11) rfl (by kernel_rfl) (by kernel_rfl) (by kernel_rfl) (fun _ _ _ h => h) (Or.inl ⟨by rfl, ?yae_11⟩) (by assumption) ?rae_11
                    case yae_11 => intro w hSw; (try dsimp only at hSw); go_simp <;> (try with_reducible rfl)
                    (try simp only [List.getElem_toArray, List.getElem_cons_succ, List.getElem_cons_zero, Act.put, List.setIfInBounds_toArray, List.set_cons_zero, List.set_cons_succ])
                    refine wpAnyH_done (by kernel_rfl) ?_ _
                    clear hHeld KP KQ
                    have M1 := M1.next hk10
                    have hbe := below_join hbe hk10
                    clear hk10
                    go_wp2
                    go_roundw
                    case rel => exact ⟨j + 1, by omega, by go_num, M1, hbe⟩
                    case measure => simp [intOf]; omega
                · obtain rfl : j = i := by omega
                  go_wp2
                  go_roundw
                  case rel => exact ⟨j + 1, by omega, by go_num, M1, hbe⟩
                  case measure => simp [intOf]; omega
            · obtain rfl : i = n := by omega
              go_wp2
              go_ret
              exact ⟨rfl, hbe⟩
        · have i1 : (lo : Int) ≤ (N : Int) := by omega
          have i2 : ¬ ((N : Int) ≤ (hi : Int)) := by omega
          rw [if_neg (by omega)] at hcn
          subst hcn
          go_wp2_with (first | (with_reducible refine wpList_getg (o := ⟨some 61, .load 23 (.tmp 9), _, _, _, _⟩) (by with_unfolding_all rfl) 23 (.tmp 9) (by with_unfolding_all rfl) g9 0 (by with_unfolding_all rfl) B9 (H h) (cs_all _) _ (by exact Tryd.underlying23) (by with_unfolding_all rfl) (by (rw [H_length]; exact Tryd.szH)) ?_))
          (with_reducible refine (C2.out _ _ _ M1).mono ?_)
          rintro e w5 ⟨rfl, hb5⟩
          have B9 := B9.next hb5 B9.lt
          have M1 := M1.next hb5
          have hbe := below_join hbe hb5
          clear hb5
          go_wp2_with fail
          (with_reducible refine (count1_any false _).mono ?_)
          rintro e w6 ⟨rfl, hb6⟩
          have B9 := B9.next hb6 B9.lt
          have M1 := M1.next hb6
          have hbe := below_join hbe hb6
          clear hb6
          go_wp2_with (first | (with_reducible refine wpList_maxZ (o := ⟨some 79, .call ⟨.builtin .max, #[.const (.int .i64 1), .tmp 78], #[3, 3]⟩, _, _, _, _⟩) (by with_unfolding_all rfl) (.const (.int .i64 1)) (.tmp 78) 3 3 (by with_unfolding_all rfl) 1 (2 * (k : Int) - 2) MX (by with_unfolding_all rfl) (by with_unfolding_all rfl) HMX.out ?_))
          clear B9
          go_loopw [16] (fun iv wr => OutRel n g9 A1 L w iv wr) (fun i _ => n - (intOf i).toNat)
          case atStart => exact ⟨0, Nat.zero_le _, rfl, M1, hbe⟩
          case round =>
            clear M1 hbe
            obtain ⟨i, hi1, rfl, M1, hbe⟩ := hrel
            by_cases hin : i < n
            · have hii : (i : Int) < (n : Int) := by omega
              obtain ⟨q, hq⟩ := HGET.out i hin
              have HQ := Lib.hid hq
              clear hq
              go_wp2
              go_loopw [17] (fun iv wr => InRel i A1 L w iv wr) (fun j _ => i - (intOf j).toNat)
              case atStart => exact ⟨0, Nat.zero_le _, rfl, M1, hbe⟩
              case round =>
                clear M1 hbe
                obtain ⟨j, hj1, rfl, M1, hbe⟩ := hrel
                by_cases hji : j < i
                · have hjj : (j : Int) < (i : Int) := by omega
                  have hjn : (j : Int) < (n : Int) := by omega
                  obtain ⟨p, hp⟩ := HGET.out j (by omega)
                  have hpair := C3.out j p q (by omega) i hin hji hp HQ.out
                  have HJ := Lib.hid hpair.1
                  have HO := Lib.hid hpair.2
                  obtain ⟨ga, oa, rfl, hca⟩ := M1 j p hp
                  obtain ⟨gb, ob, eab, hcb⟩ := M1 i q HQ.out
                  injection eab with eab
                  injection eab with ea eb _
                  subst ea eb
                  have hun := Tryd.underlying25
                  have zp : (Tryd.prog.info? 25).map (·.size) = some p.cells.length := by rw [Pat.cells_length]; exact Tryd.szP
                  have zq : (Tryd.prog.info? 25).map (·.size) = some q.cells.length := by rw [Pat.cells_length]; exact Tryd.szP
                  have HPP := Lib.hid hp
                  clear hpair hp
                  go_wp2
                  have hdd := below_drew wr
                  have KP : Hid (∀ w', Below wr.heap.size wr w' → w'.rangeAt ga (oa + j * 20) p.cells) := (fun w' hw v u hu => by rw [hw.cell (World.block_lt_of_cell? wr _ (hca v u hu))]; exact hca v u hu : ∀ w', Below wr.heap.size wr w' → w'.rangeAt ga (oa + j * 20) p.cells)
                  have KQ : Hid (∀ w', Below wr.heap.size wr w' → w'.rangeAt ga (oa + i * 20) q.cells) := (fun w' hw v u hu => by rw [hw.cell (World.block_lt_of_cell? wr _ (hcb v u hu))]; exact hcb v u hu : ∀ w', Below wr.heap.size wr w' → w'.rangeAt ga (oa + i * 20) q.cells)
                  clear hca hcb
                  refine wp_region_held_drew (S := fun w' => Below wr.heap.size wr w') (by kernel_rfl) hdd (fun hHeld => ?_)
                  generalize wr.drew = wd at hdd hHeld ⊢
                  refine wpAnyH_take (i := 0) (v := ?vaf_0) rfl (by kernel_rfl) (by kernel_rfl) (by kernel_rfl) (fun _ _ _ h => h) (Or.inl ⟨by rfl, ?yaf_0⟩) (by assumption) ?raf_0
                  case yaf_0 => intro w hSw; (try dsimp only at hSw); go_simp <;> (try with_reducible rfl)
                  (try simp only [List.getElem_toArray, List.getElem_cons_zero, Act.put, List.setIfInBounds_toArray, List.set_cons_zero, List.set_cons_succ])
                  refine wpAnyH_take (i := 1) (v := ?vaf_1) rfl (by kernel_rfl) (by kernel_rfl) (by kernel_rfl) (fun _ _ _ h => h) (Or.inl ⟨by rfl, ?yaf_1⟩) (by assumption) ?raf_1
                  case yaf_1 => intro w hSw; (try dsimp only at hSw); go_simp <;> (try with_reducible rfl)
                  (try simp only [List.getElem_toArray, List.getElem_cons_succ, List.getElem_cons_zero, Act.put, List.setIfInBounds_toArray, List.set_cons_zero, List.set_cons_succ])
                  refine wpAnyH_take (i := 2) (v := ?vaf_2) rfl (by kernel_rfl) (by kernel_rfl) (by kernel_rfl) (fun _ _ _ h => h) (Or.inl ⟨by rfl, ?yaf_2⟩) (by assumption) ?raf_2
                  case yaf_2 => intro w hSw; (try dsimp only at hSw); go_simp <;> (try with_reducible rfl)
                  (try simp only [List.getElem_toArray, List.getElem_cons_succ, List.getElem_cons_zero, Act.put, List.setIfInBounds_toArray, List.set_cons_zero, List.set_cons_succ])
                  refine' wpAnyH_take (i := 3) (v := _) rfl (by kernel_rfl) (by kernel_rfl) (by kernel_rfl) (fun _ _ _ h => h) (yieldsIf_load_mid (by rfl) _ _ (by rfl) _ _ (by rfl) _ _ ?Saf_3 ?uaf_3 ?daf_3 ?iaf_3) (by assumption) ?raf_3
                  case Saf_3 => exact (by intro w h; exact KP.out _ h)
                  case uaf_3 => exact hun
                  case daf_3 => rfl
                  case iaf_3 => exact zp
                  (try simp only [List.getElem_toArray, List.getElem_cons_succ, List.getElem_cons_zero, Act.put, List.setIfInBounds_toArray, List.set_cons_zero, List.set_cons_succ])
                  refine wpAnyH_take (i := 4) (v := ?vaf_4) rfl (by kernel_rfl) (by kernel_rfl) (by kernel_rfl) (fun _ _ _ h => h) (Or.inl ⟨by rfl, ?yaf_4⟩) (by assumption) ?raf_4
                  case yaf_4 => intro w hSw; (try dsimp only at hSw); go_simp <;> (try with_reducible rfl)
                  (try simp only [List.getElem_toArray, List.getElem_cons_succ, List.getElem_cons_zero, Act.put, List.setIfInBounds_toArray, List.set_cons_zero, List.set_cons_succ])
                  refine wpAnyH_take (i := 5) (v := ?vaf_5) rfl (by kernel_rfl) (by kernel_rfl) (by kernel_rfl) (fun _ _ _ h => h) (Or.inl ⟨by rfl, ?yaf_5⟩) (by assumption) ?raf_5
                  case yaf_5 => intro w hSw; (try dsimp only at hSw); go_simp <;> (try with_reducible rfl)
                  (try simp only [List.getElem_toArray, List.getElem_cons_succ, List.getElem_cons_zero, Act.put, List.setIfInBounds_toArray, List.set_cons_zero, List.set_cons_succ])
                  refine wpAnyH_take (i := 6) (v := ?vaf_6) rfl (by kernel_rfl) (by kernel_rfl) (by kernel_rfl) (fun _ _ _ h => h) (Or.inl ⟨by rfl, ?yaf_6⟩) (by assumption) ?raf_6
                  case yaf_6 => intro w hSw; (try dsimp only at hSw); go_simp <;> (try with_reducible rfl)
                  (try simp only [List.getElem_toArray, List.getElem_cons_succ, List.getElem_cons_zero, Act.put, List.setIfInBounds_toArray, List.set_cons_zero, List.set_cons_succ])
                  refine' wpAnyH_take (i := 7) (v := _) rfl (by kernel_rfl) (by kernel_rfl) (by kernel_rfl) (fun _ _ _ h => h) (yieldsIf_load_mid (by rfl) _ _ (by rfl) _ _ (by rfl) _ _ ?Saf_7 ?uaf_7 ?daf_7 ?iaf_7) (by assumption) ?raf_7
                  case Saf_7 => exact (by intro w h; exact KQ.out _ h)
                  case uaf_7 => exact hun
                  case daf_7 => rfl
                  case iaf_7 => exact zq
                  (try simp only [List.getElem_toArray, List.getElem_cons_succ, List.getElem_cons_zero, Act.put, List.setIfInBounds_toArray, List.set_cons_zero, List.set_cons_succ])
                  refine wpAnyH_ready (rs := [8, 12]) (by kernel_rfl) (by simp) ?_
                  refine AllReadyH.cons rfl (fun K hK => ?_) (AllReadyH.cons rfl (fun K hK => ?_) AllReadyH.nil)
                  · skip
                    go_simp
                    go_wp2_with fail
                    (with_reducible refine (HJ.out _).mono ?_)
                    rintro e w7 ⟨rfl, hb7⟩
                    have hk7 := below_join hdd hb7
                    refine hK.out _ _ hk7 (fun hHeld => ?_)
                    clear hK K hb7 hdd
                    refine wpAnyH_take (i := 9) (v := ?vag_9) rfl (by kernel_rfl) (by kernel_rfl) (by kernel_rfl) (fun _ _ _ h => h) (Or.inl ⟨by rfl, ?yag_9⟩) (by assumption) ?rag_9
                    case yag_9 => intro w hSw; (try dsimp only at hSw); go_simp <;> (try with_reducible rfl)
                    (try simp only [List.getElem_toArray, List.getElem_cons_succ, List.getElem_cons_zero, Act.put, List.setIfInBounds_toArray, List.set_cons_zero, List.set_cons_succ])
                    refine wpAnyH_take (i := 10) (v := ?vag_10) rfl (by kernel_rfl) (by kernel_rfl) (by kernel_rfl) (fun _ _ _ h => h) (Or.inl ⟨by rfl, ?yag_10⟩) (by assumption) ?rag_10
                    case yag_10 => intro w hSw; (try dsimp only at hSw); go_simp <;> (try with_reducible rfl)
                    (try simp only [List.getElem_toArray, List.getElem_cons_succ, List.getElem_cons_zero, Act.put, List.setIfInBounds_toArray, List.set_cons_zero, List.set_cons_succ])
                    refine wpAnyH_take (i := 11) (v := ?vag_11) rfl (by kernel_rfl) (by kernel_rfl) (by kernel_rfl) (fun _ _ _ h => h) (Or.inl ⟨by rfl, ?yag_11⟩) (by assumption) ?rag_11
                    case yag_11 => intro w hSw; (try dsimp only at hSw); go_simp <;> (try with_reducible rfl)
                    (try simp only [List.getElem_toArray, List.getElem_cons_succ, List.getElem_cons_zero, Act.put, List.setIfInBounds_toArray, List.set_cons_zero, List.set_cons_succ])
                    refine wpAnyH_ready (rs := [12]) (by kernel_rfl) (by simp) ?_
                    refine AllReadyH.cons rfl (fun K hK => ?_) AllReadyH.nil
                    rw [if_pos (by rfl)]
                    refine wp_allocz 25 rfl (.agg (H no ++ H no).toArray) (H no ++ H no) Tryd.zeroPt rfl ?_
                    intro g18 w8 hg18 hs8 hb8 B18
                    have hb8 := hb8.mono (Nat.le_of_eq hg18.out.symm)
                    have hk8 := below_join hk7 hb8
                    have hle18 : wr.heap.size ≤ g18 := by have := hk7.size; have := hg18.out; omega
                    refine hK.out _ _ hk8 (fun hHeld => ?_)
                    clear hK K hb8 hg18 hs8 hk7
                    refine wpAnyH_ready (rs := [13]) (by kernel_rfl) (by simp) ?_
                    refine AllReadyH.cons rfl (fun K hK => ?_) AllReadyH.nil
                    rw [if_pos (by rfl)]
                    refine wp_put 25 (.tmp 18) (.tmp 103) rfl g18 0 rfl (.agg Pat.zero.cells.toArray) rfl B18 Pat.zero.cells rfl (by rw [Pat.cells_length]; exact Tryd.szP) (by rw [Pat.cells_length, List.length_append, H_length]; omega) (cells_one _) ?_
                    intro w9 hu9 hB9
                    rw [splice_all _ _ (by rw [Pat.cells_length, List.length_append, H_length])] at hB9
                    clear B18
                    have B18 := hB9
                    have hk9 := hk8.trans (hu9.below (B := wr.heap.size) hle18)
                    refine hK.out _ _ hk9 (fun hHeld => ?_)
                    clear hK K hu9 hB9 hk8
                    refine wpAnyH_take (i := 14) (v := ?vag_14) rfl (by kernel_rfl) (by kernel_rfl) (by kernel_rfl) (fun _ _ _ h => h) (Or.inl ⟨by rfl, ?yag_14⟩) (by assumption) ?rag_14
                    case yag_14 => intro w hSw; (try dsimp only at hSw); go_simp <;> (try with_reducible rfl)
                    (try simp only [List.getElem_toArray, List.getElem_cons_succ, List.getElem_cons_zero, Act.put, List.setIfInBounds_toArray, List.set_cons_zero, List.set_cons_succ])
                    refine wpAnyH_done (by kernel_rfl) ?_ _
                    clear hHeld KP KQ
                    have M1 := M1.next hk9
                    have hbe := below_join hbe hk9
                    clear hk9
                    have hpp := HPP.out
                    obtain ⟨gc, oc, ec, hca⟩ := M1 j p hpp
                    injection ec with ec
                    injection ec with ec1 ec2 _
                    subst ec1 ec2
                    obtain ⟨gd, od, ed, hcb⟩ := M1 i q HQ.out
                    injection ed with ed
                    injection ed with ed1 ed2 _
                    subst ed1 ed2
                    clear hpp
                    go_wp2
                    have hdd := below_drew w9
                    have KP : Hid (∀ w', Below w9.heap.size w9 w' → w'.rangeAt ga (oa + j * 20) p.cells) := (fun w' hw v u hu => by rw [hw.cell (World.block_lt_of_cell? w9 _ (hca v u hu))]; exact hca v u hu : ∀ w', Below w9.heap.size w9 w' → w'.rangeAt ga (oa + j * 20) p.cells)
                    have KQ : Hid (∀ w', Below w9.heap.size w9 w' → w'.rangeAt ga (oa + i * 20) q.cells) := (fun w' hw v u hu => by rw [hw.cell (World.block_lt_of_cell? w9 _ (hcb v u hu))]; exact hcb v u hu : ∀ w', Below w9.heap.size w9 w' → w'.rangeAt ga (oa + i * 20) q.cells)
                    clear hca hcb
                    refine wp_region_held_drew (S := fun w' => Below w9.heap.size w9 w') (by kernel_rfl) hdd (fun hHeld => ?_)
                    generalize w9.drew = wd at hdd hHeld ⊢
                    refine wpAnyH_take (i := 0) (v := ?vah_0) rfl (by kernel_rfl) (by kernel_rfl) (by kernel_rfl) (fun _ _ _ h => h) (Or.inl ⟨by rfl, ?yah_0⟩) (by assumption) ?rah_0
                    case yah_0 => intro w hSw; (try dsimp only at hSw); go_simp <;> (try with_reducible rfl)
                    (try simp only [List.getElem_toArray, List.getElem_cons_zero, Act.put, List.setIfInBounds_toArray, List.set_cons_zero, List.set_cons_succ])
                    refine wpAnyH_take (i := 1) (v := ?vah_1) rfl (by kernel_rfl) (by kernel_rfl) (by kernel_rfl) (fun _ _ _ h => h) (Or.inl ⟨by rfl, ?yah_1⟩) (by assumption) ?rah_1
                    case yah_1 => intro w hSw; (try dsimp only at hSw); go_simp <;> (try with_reducible rfl)
                    (try simp only [List.getElem_toArray, List.getElem_cons_succ, List.getElem_cons_zero, Act.put, List.setIfInBounds_toArray, List.set_cons_zero, List.set_cons_succ])
                    refine wpAnyH_take (i := 2) (v := ?vah_2) rfl (by kernel_rfl) (by kernel_rfl) (by kernel_rfl) (fun _ _ _ h => h) (Or.inl ⟨by rfl, ?yah_2⟩) (by assumption) ?rah_2
                    case yah_2 => intro w hSw; (try dsimp only at hSw); go_simp <;> (try with_reducible rfl)
                    (try simp only [List.getElem_toArray, List.getElem_cons_succ, List.getElem_cons_zero, Act.put, List.setIfInBounds_toArray, List.set_cons_zero, List.set_cons_succ])
                    refine wpAnyH_take (i := 3) (v := ?vah_3) rfl (by kernel_rfl) (by kernel_rfl) (by kernel_rfl) (fun _ _ _ h => h) (Or.inl ⟨by rfl, ?yah_3⟩) (by assumption) ?rah_3
                    case yah_3 => intro w hSw; (try dsimp only at hSw); go_simp <;> (try with_reducible rfl)
                    (try simp only [List.getElem_toArray, List.getElem_cons_succ, List.getElem_cons_zero, Act.put, List.setIfInBounds_toArray, List.set_cons_zero, List.set_cons_succ])
                    refine wpAnyH_take (i := 4) (v := ?vah_4) rfl (by kernel_rfl) (by kernel_rfl) (by kernel_rfl) (fun _ _ _ h => h) (Or.inl ⟨by rfl, ?yah_4⟩) (by assumption) ?rah_4
                    case yah_4 => intro w hSw; (try dsimp only at hSw); go_simp <;> (try with_reducible rfl)
                    (try simp only [List.getElem_toArray, List.getElem_cons_succ, List.getElem_cons_zero, Act.put, List.setIfInBounds_toArray, List.set_cons_zero, List.set_cons_succ])
                    refine' wpAnyH_take (i := 5) (v := _) rfl (by kernel_rfl) (by kernel_rfl) (by kernel_rfl) (fun _ _ _ h => h) (yieldsIf_load_mid (by rfl) _ _ (by rfl) _ _ (by rfl) _ _ ?Sah_5 ?uah_5 ?dah_5 ?iah_5) (by assumption) ?rah_5
                    case Sah_5 => exact (by intro w h; exact KP.out _ h)
                    case uah_5 => exact hun
                    case dah_5 => rfl
                    case iah_5 => exact zp
                    (try simp only [List.getElem_toArray, List.getElem_cons_succ, List.getElem_cons_zero, Act.put, List.setIfInBounds_toArray, List.set_cons_zero, List.set_cons_succ])
                    refine wpAnyH_take (i := 6) (v := ?vah_6) rfl (by kernel_rfl) (by kernel_rfl) (by kernel_rfl) (fun _ _ _ h => h) (Or.inl ⟨by rfl, ?yah_6⟩) (by assumption) ?rah_6
                    case yah_6 => intro w hSw; (try dsimp only at hSw); go_simp <;> (try with_reducible rfl)
                    (try simp only [List.getElem_toArray, List.getElem_cons_succ, List.getElem_cons_zero, Act.put, List.setIfInBounds_toArray, List.set_cons_zero, List.set_cons_succ])
                    refine wpAnyH_take (i := 7) (v := ?vah_7) rfl (by kernel_rfl) (by kernel_rfl) (by kernel_rfl) (fun _ _ _ h => h) (Or.inl ⟨by rfl, ?yah_7⟩) (by assumption) ?rah_7
                    case yah_7 => intro w hSw; (try dsimp only at hSw); go_simp <;> (try with_reducible rfl)
                    (try simp only [List.getElem_toArray, List.getElem_cons_succ, List.getElem_cons_zero, Act.put, List.setIfInBounds_toArray, List.set_cons_zero, List.set_cons_succ])
                    refine wpAnyH_take (i := 8) (v := ?vah_8) rfl (by kernel_rfl) (by kernel_rfl) (by kernel_rfl) (fun _ _ _ h => h) (Or.inl ⟨by rfl, ?yah_8⟩) (by assumption) ?rah_8
                    case yah_8 => intro w hSw; (try dsimp only at hSw); go_simp <;> (try with_reducible rfl)
                    (try simp only [List.getElem_toArray, List.getElem_cons_succ, List.getElem_cons_zero, Act.put, List.setIfInBounds_toArray, List.set_cons_zero, List.set_cons_succ])
                    refine' wpAnyH_take (i := 9) (v := _) rfl (by kernel_rfl) (by kernel_rfl) (by kernel_rfl) (fun _ _ _ h => h) (yieldsIf_load_mid (by rfl) _ _ (by rfl) _ _ (by rfl) _ _ ?Sah_9 ?uah_9 ?dah_9 ?iah_9) (by assumption) ?rah_9
                    case Sah_9 => exact (by intro w h; exact KQ.out _ h)
                    case uah_9 => exact hun
                    case dah_9 => rfl
                    case iah_9 => exact zq
                    (try simp only [List.getElem_toArray, List.getElem_cons_succ, List.getElem_cons_zero, Act.put, List.setIfInBounds_toArray, List.set_cons_zero, List.set_cons_succ])
                    refine wpAnyH_ready (rs := [10]) (by kernel_rfl) (by simp) ?_
                    refine AllReadyH.cons rfl (fun K hK => ?_) AllReadyH.nil
                    go_simp
                    go_wp2_with fail
                    (with_reducible refine (HO.out _).mono ?_)
                    rintro e w10 ⟨rfl, hb10⟩
                    have hk10 := below_join hdd hb10
                    refine hK.out _ _ hk10 (fun hHeld => ?_)
                    clear hK K hb10 hdd
                    refine wpAnyH_take (i := 11) (v := ?vah_11) rfl (by kernel_rfl) (by kernel_rfl) (by kernel_rfl) (fun _ _ _ h => h) (Or.inl ⟨by rfl, ?yah_11⟩) (by assumption) ?rah_11
                    case yah_11 => intro w hSw; (try dsimp only at hSw); go_simp <;> (try with_reducible rfl)
                    (try simp only [List.getElem_toArray, List.getElem_cons_succ, List.getElem_cons_zero, Act.put, List.setIfInBounds_toArray, List.set_cons_zero, List.set_cons_succ])
                    refine wpAnyH_done (by kernel_rfl) ?_ _
                    clear hHeld KP KQ
                    have M1 := M1.next hk10
                    have hbe := below_join hbe hk10
                    clear hk10
                    go_wp2
                    go_roundw
                    case rel => exact ⟨j + 1, by omega, by go_num, M1, hbe⟩
                    case measure => simp [intOf]; omega
                  · skip
                    rw [if_pos (by rfl)]
                    refine wp_allocz 25 rfl (.agg (H no ++ H no).toArray) (H no ++ H no) Tryd.zeroPt rfl ?_
                    intro g18 w7 hg18 hs7 hb7 B18
                    have hb7 := hb7.mono (Nat.le_of_eq hg18.out.symm)
                    have hk7 := below_join hdd hb7
                    have hle18 : wr.heap.size ≤ g18 := by have := hdd.size; have := hg18.out; omega
                    refine hK.out _ _ hk7 (fun hHeld => ?_)
                    clear hK K hb7 hg18 hs7 hdd
                    refine wpAnyH_ready (rs := [8]) (by kernel_rfl) (by simp) ?_
                    refine AllReadyH.cons rfl (fun K hK => ?_) AllReadyH.nil
                    go_simp
                    go_wp2_with fail
                    (with_reducible refine (HJ.out _).mono ?_)
                    rintro e w8 ⟨rfl, hb8⟩
                    have B18 := B18.next hb8 B18.lt
                    have hk8 := below_join hk7 hb8
                    refine hK.out _ _ hk8 (fun hHeld => ?_)
                    clear hK K hb8 hk7
                    refine wpAnyH_take (i := 9) (v := ?vai_9) rfl (by kernel_rfl) (by kernel_rfl) (by kernel_rfl) (fun _ _ _ h => h) (Or.inl ⟨by rfl, ?yai_9⟩) (by assumption) ?rai_9
                    case yai_9 => intro w hSw; (try dsimp only at hSw); go_simp <;> (try with_reducible rfl)
                    (try simp only [List.getElem_toArray, List.getElem_cons_succ, List.getElem_cons_zero, Act.put, List.setIfInBounds_toArray, List.set_cons_zero, List.set_cons_succ])
                    refine wpAnyH_take (i := 10) (v := ?vai_10) rfl (by kernel_rfl) (by kernel_rfl) (by kernel_rfl) (fun _ _ _ h => h) (Or.inl ⟨by rfl, ?yai_10⟩) (by assumption) ?rai_10
                    case yai_10 => intro w hSw; (try dsimp only at hSw); go_simp <;> (try with_reducible rfl)
                    (try simp only [List.getElem_toArray, List.getElem_cons_succ, List.getElem_cons_zero, Act.put, List.setIfInBounds_toArray, List.set_cons_zero, List.set_cons_succ])
                    refine wpAnyH_take (i := 11) (v := ?vai_11) rfl (by kernel_rfl) (by kernel_rfl) (by kernel_rfl) (fun _ _ _ h => h) (Or.inl ⟨by rfl, ?yai_11⟩) (by assumption) ?rai_11
                    case yai_11 => intro w hSw; (try dsimp only at hSw); go_simp <;> (try with_reducible rfl)
                    (try simp only [List.getElem_toArray, List.getElem_cons_succ, List.getElem_cons_zero, Act.put, List.setIfInBounds_toArray, List.set_cons_zero, List.set_cons_succ])
                    refine wpAnyH_ready (rs := [13]) (by kernel_rfl) (by simp) ?_
                    refine AllReadyH.cons rfl (fun K hK => ?_) AllReadyH.nil
                    rw [if_pos (by rfl)]
                    refine wp_put 25 (.tmp 18) (.tmp 103) rfl g18 0 rfl (.agg Pat.zero.cells.toArray) rfl B18 Pat.zero.cells rfl (by rw [Pat.cells_length]; exact Tryd.szP) (by rw [Pat.cells_length, List.length_append, H_length]; omega) (cells_one _) ?_
                    intro w9 hu9 hB9
                    rw [splice_all _ _ (by rw [Pat.cells_length, List.length_append, H_length])] at hB9
                    clear B18
                    have B18 := hB9
                    have hk9 := hk8.trans (hu9.below (B := wr.heap.size) hle18)
                    refine hK.out _ _ hk9 (fun hHeld => ?_)
                    clear hK K hu9 hB9 hk8
                    refine wpAnyH_take (i := 14) (v := ?vai_14) rfl (by kernel_rfl) (by kernel_rfl) (by kernel_rfl) (fun _ _ _ h => h) (Or.inl ⟨by rfl, ?yai_14⟩) (by assumption) ?rai_14
                    case yai_14 => intro w hSw; (try dsimp only at hSw); go_simp <;> (try with_reducible rfl)
                    (try simp only [List.getElem_toArray, List.getElem_cons_succ, List.getElem_cons_zero, Act.put, List.setIfInBounds_toArray, List.set_cons_zero, List.set_cons_succ])
                    refine wpAnyH_done (by kernel_rfl) ?_ _
                    clear hHeld KP KQ
                    have M1 := M1.next hk9
                    have hbe := below_join hbe hk9
                    clear hk9
                    have hpp := HPP.out
                    obtain ⟨gc, oc, ec, hca⟩ := M1 j p hpp
                    injection ec with ec
                    injection ec with ec1 ec2 _
                    subst ec1 ec2
                    obtain ⟨gd, od, ed, hcb⟩ := M1 i q HQ.out
                    injection ed with ed
                    injection ed with ed1 ed2 _
                    subst ed1 ed2
                    clear hpp
                    go_wp2
                    have hdd := below_drew w9
                    have KP : Hid (∀ w', Below w9.heap.size w9 w' → w'.rangeAt ga (oa + j * 20) p.cells) := (fun w' hw v u hu => by rw [hw.cell (World.block_lt_of_cell? w9 _ (hca v u hu))]; exact hca v u hu : ∀ w', Below w9.heap.size w9 w' → w'.rangeAt ga (oa + j * 20) p.cells)
                    have KQ : Hid (∀ w', Below w9.heap.size w9 w' → w'.rangeAt ga (oa + i * 20) q.cells) := (fun w' hw v u hu => by rw [hw.cell (World.block_lt_of_cell? w9 _ (hcb v u hu))]; exact hcb v u hu : ∀ w', Below w9.heap.size w9 w' → w'.rangeAt ga (oa + i * 20) q.cells)
                    clear hca hcb
                    refine wp_region_held_drew (S := fun w' => Below w9.heap.size w9 w') (by kernel_rfl) hdd (fun hHeld => ?_)
                    generalize w9.drew = wd at hdd hHeld ⊢
                    refine wpAnyH_take (i := 0) (v := ?vaj_0) rfl (by kernel_rfl) (by kernel_rfl) (by kernel_rfl) (fun _ _ _ h => h) (Or.inl ⟨by rfl, ?yaj_0⟩) (by assumption) ?raj_0
                    case yaj_0 => intro w hSw; (try dsimp only at hSw); go_simp <;> (try with_reducible rfl)
                    (try simp only [List.getElem_toArray, List.getElem_cons_zero, Act.put, List.setIfInBounds_toArray, List.set_cons_zero, List.set_cons_succ])
                    refine wpAnyH_take (i := 1) (v := ?vaj_1) rfl (by kernel_rfl) (by kernel_rfl) (by kernel_rfl) (fun _ _ _ h => h) (Or.inl ⟨by rfl, ?yaj_1⟩) (by assumption) ?raj_1
                    case yaj_1 => intro w hSw; (try dsimp only at hSw); go_simp <;> (try with_reducible rfl)
                    (try simp only [List.getElem_toArray, List.getElem_cons_succ, List.getElem_cons_zero, Act.put, List.setIfInBounds_toArray, List.set_cons_zero, List.set_cons_succ])
                    refine wpAnyH_take (i := 2) (v := ?vaj_2) rfl (by kernel_rfl) (by kernel_rfl) (by kernel_rfl) (fun _ _ _ h => h) (Or.inl ⟨by rfl, ?yaj_2⟩) (by assumption) ?raj_2
                    case yaj_2 => intro w hSw; (try dsimp only at hSw); go_simp <;> (try with_reducible rfl)
                    (try simp only [List.getElem_toArray, List.getElem_cons_succ, List.getElem_cons_zero, Act.put, List.setIfInBounds_toArray, List.set_cons_zero, List.set_cons_succ])
                    refine wpAnyH_take (i := 3) (v := ?vaj_3) rfl (by kernel_rfl) (by kernel_rfl) (by kernel_rfl) (fun _ _ _ h => h) (Or.inl ⟨by rfl, ?yaj_3⟩) (by assumption) ?raj_3
                    case yaj_3 => intro w hSw; (try dsimp only at hSw); go_simp <;> (try with_reducible rfl)
                    (try simp only [List.getElem_toArray, List.getElem_cons_succ, List.getElem_cons_zero, Act.put, List.setIfInBounds_toArray, List.set_cons_zero, List.set_cons_succ])
                    refine wpAnyH_take (i := 4) (v := ?vaj_4) rfl (by kernel_rfl) (by kernel_rfl) (by kernel_rfl) (fun _ _ _ h => h) (Or.inl ⟨by rfl, ?yaj_4⟩) (by assumption) ?raj_4
                    case yaj_4 => intro w hSw; (try dsimp only at hSw); go_simp <;> (try with_reducible rfl)
                    (try simp only [List.getElem_toArray, List.getElem_cons_succ, List.getElem_cons_zero, Act.put, List.setIfInBounds_toArray, List.set_cons_zero, List.set_cons_succ])
                    refine' wpAnyH_take (i := 5) (v := _) rfl (by kernel_rfl) (by kernel_rfl) (by kernel_rfl) (fun _ _ _ h => h) (yieldsIf_load_mid (by rfl) _ _ (by rfl) _ _ (by rfl) _ _ ?Saj_5 ?uaj_5 ?daj_5 ?iaj_5) (by assumption) ?raj_5
                    case Saj_5 => exact (by intro w h; exact KP.out _ h)
                    case uaj_5 => exact hun
                    case daj_5 => rfl
                    case iaj_5 => exact zp
                    (try simp only [List.getElem_toArray, List.getElem_cons_succ, List.getElem_cons_zero, Act.put, List.setIfInBounds_toArray, List.set_cons_zero, List.set_cons_succ])
                    refine wpAnyH_take (i := 6) (v := ?vaj_6) rfl (by kernel_rfl) (by kernel_rfl) (by kernel_rfl) (fun _ _ _ h => h) (Or.inl ⟨by rfl, ?yaj_6⟩) (by assumption) ?raj_6
                    case yaj_6 => intro w hSw; (try dsimp only at hSw); go_simp <;> (try with_reducible rfl)
                    (try simp only [List.getElem_toArray, List.getElem_cons_succ, List.getElem_cons_zero, Act.put, List.setIfInBounds_toArray, List.set_cons_zero, List.set_cons_succ])
                    refine wpAnyH_take (i := 7) (v := ?vaj_7) rfl (by kernel_rfl) (by kernel_rfl) (by kernel_rfl) (fun _ _ _ h => h) (Or.inl ⟨by rfl, ?yaj_7⟩) (by assumption) ?raj_7
                    case yaj_7 => intro w hSw; (try dsimp only at hSw); go_simp <;> (try with_reducible rfl)
                    (try simp only [List.getElem_toArray, List.getElem_cons_succ, List.getElem_cons_zero, Act.put, List.setIfInBounds_toArray, List.set_cons_zero, List.set_cons_succ])
                    refine wpAnyH_take (i := 8) (v := ?vaj_8) rfl (by kernel_rfl) (by kernel_rfl) (by kernel_rfl) (fun _ _ _ h => h) (Or.inl ⟨by rfl, ?yaj_8⟩) (by assumption) ?raj_8
                    case yaj_8 => intro w hSw; (try dsimp only at hSw); go_simp <;> (try with_reducible rfl)
                    (try simp only [List.getElem_toArray, List.getElem_cons_succ, List.getElem_cons_zero, Act.put, List.setIfInBounds_toArray, List.set_cons_zero, List.set_cons_succ])
                    refine' wpAnyH_take (i := 9) (v := _) rfl (by kernel_rfl) (by kernel_rfl) (by kernel_rfl) (fun _ _ _ h => h) (yieldsIf_load_mid (by rfl) _ _ (by rfl) _ _ (by rfl) _ _ ?Saj_9 ?uaj_9 ?daj_9 ?iaj_9) (by assumption) ?raj_9
                    case Saj_9 => exact (by intro w h; exact KQ.out _ h)
                    case uaj_9 => exact hun
                    case daj_9 => rfl
                    case iaj_9 => exact zq
                    (try simp only [List.getElem_toArray, List.getElem_cons_succ, List.getElem_cons_zero, Act.put, List.setIfInBounds_toArray, List.set_cons_zero, List.set_cons_succ])
                    refine wpAnyH_ready (rs := [10]) (by kernel_rfl) (by simp) ?_
                    refine AllReadyH.cons rfl (fun K hK => ?_) AllReadyH.nil
                    go_simp
                    go_wp2_with fail
                    (with_reducible refine (HO.out _).mono ?_)
                    rintro e w10 ⟨rfl, hb10⟩
                    have hk10 := below_join hdd hb10
                    refine hK.out _ _ hk10 (fun hHeld => ?_)
                    clear hK K hb10 hdd
                    refine wpAnyH_take (i := 11) (v := ?vaj_11) rfl (by kernel_rfl) (by kernel_rfl) (by kernel_rfl) (fun _ _ _ h => h) (Or.inl ⟨by rfl, ?yaj_11⟩) (by assumption) ?raj_11
                    case yaj_11 => intro w hSw; (try dsimp only at hSw); go_simp <;> (try with_reducible rfl)
                    (try simp only [List.getElem_toArray, List.getElem_cons_succ, List.getElem_cons_zero, Act.put, List.setIfInBounds_toArray, List.set_cons_zero, List.set_cons_succ])
                    refine wpAnyH_done (by kernel_rfl) ?_ _
                    clear hHeld KP KQ
                    have M1 := M1.next hk10
                    have hbe := below_join hbe hk10
                    clear hk10
                    go_wp2
                    go_roundw
                    case rel => exact ⟨j + 1, by omega, by go_num, M1, hbe⟩
                    case measure => simp [intOf]; omega
                · obtain rfl : j = i := by omega
                  go_wp2
                  go_roundw
                  case rel => exact ⟨j + 1, by omega, by go_num, M1, hbe⟩
                  case measure => simp [intOf]; omega
            · obtain rfl : i = n := by omega
              go_wp2
              go_ret
              exact ⟨rfl, hbe⟩
      · have i1 : ¬ ((lo : Int) ≤ (N : Int)) := by omega
        rw [if_neg (by omega)] at hcn
        subst hcn
        go_wp2_with (first | (with_reducible refine wpList_getg (o := ⟨some 61, .load 23 (.tmp 9), _, _, _, _⟩) (by with_unfolding_all rfl) 23 (.tmp 9) (by with_unfolding_all rfl) g9 0 (by with_unfolding_all rfl) B9 (H h) (cs_all _) _ (by exact Tryd.underlying23) (by with_unfolding_all rfl) (by (rw [H_length]; exact Tryd.szH)) ?_))
        (with_reducible refine (C2.out _ _ _ M1).mono ?_)
        rintro e w5 ⟨rfl, hb5⟩
        have B9 := B9.next hb5 B9.lt
        have M1 := M1.next hb5
        have hbe := below_join hbe hb5
        clear hb5
        go_wp2_with fail
        (with_reducible refine (count1_any false _).mono ?_)
        rintro e w6 ⟨rfl, hb6⟩
        have B9 := B9.next hb6 B9.lt
        have M1 := M1.next hb6
        have hbe := below_join hbe hb6
        clear hb6
        go_wp2_with (first | (with_reducible refine wpList_maxZ (o := ⟨some 79, .call ⟨.builtin .max, #[.const (.int .i64 1), .tmp 78], #[3, 3]⟩, _, _, _, _⟩) (by with_unfolding_all rfl) (.const (.int .i64 1)) (.tmp 78) 3 3 (by with_unfolding_all rfl) 1 (2 * (k : Int) - 2) MX (by with_unfolding_all rfl) (by with_unfolding_all rfl) HMX.out ?_))
        clear B9
        go_loopw [16] (fun iv wr => OutRel n g9 A1 L w iv wr) (fun i _ => n - (intOf i).toNat)
        case atStart => exact ⟨0, Nat.zero_le _, rfl, M1, hbe⟩
        case round =>
          clear M1 hbe
          obtain ⟨i, hi1, rfl, M1, hbe⟩ := hrel
          by_cases hin : i < n
          · have hii : (i : Int) < (n : Int) := by omega
            obtain ⟨q, hq⟩ := HGET.out i hin
            have HQ := Lib.hid hq
            clear hq
            go_wp2
            go_loopw [17] (fun iv wr => InRel i A1 L w iv wr) (fun j _ => i - (intOf j).toNat)
            case atStart => exact ⟨0, Nat.zero_le _, rfl, M1, hbe⟩
            case round =>
              clear M1 hbe
              obtain ⟨j, hj1, rfl, M1, hbe⟩ := hrel
              by_cases hji : j < i
              · have hjj : (j : Int) < (i : Int) := by omega
                have hjn : (j : Int) < (n : Int) := by omega
                obtain ⟨p, hp⟩ := HGET.out j (by omega)
                have hpair := C3.out j p q (by omega) i hin hji hp HQ.out
                have HJ := Lib.hid hpair.1
                have HO := Lib.hid hpair.2
                obtain ⟨ga, oa, rfl, hca⟩ := M1 j p hp
                obtain ⟨gb, ob, eab, hcb⟩ := M1 i q HQ.out
                injection eab with eab
                injection eab with ea eb _
                subst ea eb
                have hun := Tryd.underlying25
                have zp : (Tryd.prog.info? 25).map (·.size) = some p.cells.length := by rw [Pat.cells_length]; exact Tryd.szP
                have zq : (Tryd.prog.info? 25).map (·.size) = some q.cells.length := by rw [Pat.cells_length]; exact Tryd.szP
                have HPP := Lib.hid hp
                clear hpair hp
                go_wp2
                have hdd := below_drew wr
                have KP : Hid (∀ w', Below wr.heap.size wr w' → w'.rangeAt ga (oa + j * 20) p.cells) := (fun w' hw v u hu => by rw [hw.cell (World.block_lt_of_cell? wr _ (hca v u hu))]; exact hca v u hu : ∀ w', Below wr.heap.size wr w' → w'.rangeAt ga (oa + j * 20) p.cells)
                have KQ : Hid (∀ w', Below wr.heap.size wr w' → w'.rangeAt ga (oa + i * 20) q.cells) := (fun w' hw v u hu => by rw [hw.cell (World.block_lt_of_cell? wr _ (hcb v u hu))]; exact hcb v u hu : ∀ w', Below wr.heap.size wr w' → w'.rangeAt ga (oa + i * 20) q.cells)
                clear hca hcb
                refine wp_region_held_drew (S := fun w' => Below wr.heap.size wr w') (by kernel_rfl) hdd (fun hHeld => ?_)
                generalize wr.drew = wd at hdd hHeld ⊢
                refine wpAnyH_take (i := 0) (v := ?vak_0) rfl (by kernel_rfl) (by kernel_rfl) (by kernel_rfl) (fun _ _ _ h => h) (Or.inl ⟨by rfl, ?yak_0⟩) (by assumption) ?rak_0
                case yak_0 => intro w hSw; (try dsimp only at hSw); go_simp <;> (try with_reducible rfl)
                (try simp only [List.getElem_toArray, List.getElem_cons_zero, Act.put, List.setIfInBounds_toArray, List.set_cons_zero, List.set_cons_succ])
                refine wpAnyH_take (i := 1) (v := ?vak_1) rfl (by kernel_rfl) (by kernel_rfl) (by kernel_rfl) (fun _ _ _ h => h) (Or.inl ⟨by rfl, ?yak_1⟩) (by assumption) ?rak_1
                case yak_1 => intro w hSw; (try dsimp only at hSw); go_simp <;> (try with_reducible rfl)
                (try simp only [List.getElem_toArray, List.getElem_cons_succ, List.getElem_cons_zero, Act.put, List.setIfInBounds_toArray, List.set_cons_zero, List.set_cons_succ])
                refine wpAnyH_take (i := 2) (v := ?vak_2) rfl (by kernel_rfl) (by kernel_rfl) (by kernel_rfl) (fun _ _ _ h => h) (Or.inl ⟨by rfl, ?yak_2⟩) (by assumption) ?rak_2
                case yak_2 => intro w hSw; (try dsimp only at hSw); go_simp <;> (try with_reducible rfl)
                (try simp only [List.getElem_toArray, List.getElem_cons_succ, List.getElem_cons_zero, Act.put, List.setIfInBounds_toArray, List.set_cons_zero, List.set_cons_succ])
                refine' wpAnyH_take (i := 3) (v := _) rfl (by kernel_rfl) (by kernel_rfl) (by kernel_rfl) (fun _ _ _ h => h) (yieldsIf_load_mid (by rfl) _ _ (by rfl) _ _ (by rfl) _ _ ?Sak_3 ?uak_3 ?dak_3 ?iak_3) (by assumption) ?rak_3
                case Sak_3 => exact (by intro w h; exact KP.out _ h)
                case uak_3 => exact hun
                case dak_3 => rfl
                case iak_3 => exact zp
                (try simp only [List.getElem_toArray, List.getElem_cons_succ, List.getElem_cons_zero, Act.put, List.setIfInBounds_toArray, List.set_cons_zero, List.set_cons_succ])
                refine wpAnyH_take (i := 4) (v := ?vak_4) rfl (by kernel_rfl) (by kernel_rfl) (by kernel_rfl) (fun _ _ _ h => h) (Or.inl ⟨by rfl, ?yak_4⟩) (by assumption) ?rak_4
                case yak_4 => intro w hSw; (try dsimp only at hSw); go_simp <;> (try with_reducible rfl)
                (try simp only [List.getElem_toArray, List.getElem_cons_succ, List.getElem_cons_zero, Act.put, List.setIfInBounds_toArray, List.set_cons_zero, List.set_cons_succ])
                refine wpAnyH_take (i := 5) (v := ?vak_5) rfl (by kernel_rfl) (by kernel_rfl) (by kernel_rfl) (fun _ _ _ h => h) (Or.inl ⟨by rfl, ?yak_5⟩) (by assumption) ?rak_5
                case yak_5 => intro w hSw; (try dsimp only at hSw); go_simp <;> (try with_reducible rfl)
                (try simp only [List.getElem_toArray, List.getElem_cons_succ, List.getElem_cons_zero, Act.put, List.setIfInBounds_toArray, List.set_cons_zero, List.set_cons_succ])
                refine wpAnyH_take (i := 6) (v := ?vak_6) rfl (by kernel_rfl) (by kernel_rfl) (by kernel_rfl) (fun _ _ _ h => h) (Or.inl ⟨by rfl, ?yak_6⟩) (by assumption) ?rak_6
                case yak_6 => intro w hSw; (try dsimp only at hSw); go_simp <;> (try with_reducible rfl)
                (try simp only [List.getElem_toArray, List.getElem_cons_succ, List.getElem_cons_zero, Act.put, List.setIfInBounds_toArray, List.set_cons_zero, List.set_cons_succ])
                refine' wpAnyH_take (i := 7) (v := _) rfl (by kernel_rfl) (by kernel_rfl) (by kernel_rfl) (fun _ _ _ h => h) (yieldsIf_load_mid (by rfl) _ _ (by rfl) _ _ (by rfl) _ _ ?Sak_7 ?uak_7 ?dak_7 ?iak_7) (by assumption) ?rak_7
                case Sak_7 => exact (by intro w h; exact KQ.out _ h)
                case uak_7 => exact hun
                case dak_7 => rfl
                case iak_7 => exact zq
                (try simp only [List.getElem_toArray, List.getElem_cons_succ, List.getElem_cons_zero, Act.put, List.setIfInBounds_toArray, List.set_cons_zero, List.set_cons_succ])
                refine wpAnyH_ready (rs := [8, 12]) (by kernel_rfl) (by simp) ?_
                refine AllReadyH.cons rfl (fun K hK => ?_) (AllReadyH.cons rfl (fun K hK => ?_) AllReadyH.nil)
                · skip
                  go_simp
                  go_wp2_with fail
                  (with_reducible refine (HJ.out _).mono ?_)
                  rintro e w7 ⟨rfl, hb7⟩
                  have hk7 := below_join hdd hb7
                  refine hK.out _ _ hk7 (fun hHeld => ?_)
                  clear hK K hb7 hdd
                  refine wpAnyH_take (i := 9) (v := ?val_9) rfl (by kernel_rfl) (by kernel_rfl) (by kernel_rfl) (fun _ _ _ h => h) (Or.inl ⟨by rfl, ?yal_9⟩) (by assumption) ?ral_9
                  case yal_9 => intro w hSw; (try dsimp only at hSw); go_simp <;> (try with_reducible rfl)
                  (try simp only [List.getElem_toArray, List.getElem_cons_succ, List.getElem_cons_zero, Act.put, List.setIfInBounds_toArray, List.set_cons_zero, List.set_cons_succ])
                  refine wpAnyH_take (i := 10) (v := ?val_10) rfl (by kernel_rfl) (by kernel_rfl) (by kernel_rfl) (fun _ _ _ h => h) (Or.inl ⟨by rfl, ?yal_10⟩) (by assumption) ?ral_10
                  case yal_10 => intro w hSw; (try dsimp only at hSw); go_simp <;> (try with_reducible rfl)
                  (try simp only [List.getElem_toArray, List.getElem_cons_succ, List.getElem_cons_zero, Act.put, List.setIfInBounds_toArray, List.set_cons_zero, List.set_cons_succ])
                  refine wpAnyH_take (i := 11) (v := ?val_11) rfl (by kernel_rfl) (by kernel_rfl) (by kernel_rfl) (fun _ _ _ h => h) (Or.inl ⟨by rfl, ?yal_11⟩) (by assumption) ?ral_11
                  case yal_11 => intro w hSw; (try dsimp only at hSw); go_simp <;> (try with_reducible rfl)
                  (try simp only [List.getElem_toArray, List.getElem_cons_succ, List.getElem_cons_zero, Act.put, List.setIfInBounds_toArray, List.set_cons_zero, List.set_cons_succ])
                  refine wpAnyH_ready (rs := [12]) (by kernel_rfl) (by simp) ?_
                  refine AllReadyH.cons rfl (fun K hK => ?_) AllReadyH.nil
                  rw [if_pos (by rfl)]
                  refine wp_allocz 25 rfl (.agg (H no ++ H no).toArray) (H no ++ H no) Tryd.zeroPt rfl ?_
                  intro g18 w8 hg18 hs8 hb8 B18
                  have hb8 := hb8.mono (Nat.le_of_eq hg18.out.symm)
                  have hk8 := below_join hk7 hb8
                  have hle18 : wr.heap.size ≤ g18 := by have := hk7.size; have := hg18.out; omega
                  refine hK.out _ _ hk8 (fun hHeld => ?_)
                  clear hK K hb8 hg18 hs8 hk7
                  refine wpAnyH_ready (rs := [13]) (by kernel_rfl) (by simp) ?_
                  refine AllReadyH.cons rfl (fun K hK => ?_) AllReadyH.nil
                  rw [if_pos (by rfl)]
                  refine wp_put 25 (.tmp 18) (.tmp 103) rfl g18 0 rfl (.agg Pat.zero.cells.toArray) rfl B18 Pat.zero.cells rfl (by rw [Pat.cells_length]; exact Tryd.szP) (by rw [Pat.cells_length, List.length_append, H_length]; omega) (cells_one _) ?_
                  intro w9 hu9 hB9
                  rw [splice_all _ _ (by rw [Pat.cells_length, List.length_append, H_length])] at hB9
                  clear B18
                  have B18 := hB9
                  have hk9 := hk8.trans (hu9.below (B := wr.heap.size) hle18)
                  refine hK.out _ _ hk9 (fun hHeld => ?_)
                  clear hK K hu9 hB9 hk8
                  refine wpAnyH_take (i := 14) (v := ?val_14) rfl (by kernel_rfl) (by kernel_rfl) (by kernel_rfl) (fun _ _ _ h => h) (Or.inl ⟨by rfl, ?yal_14⟩) (by assumption) ?ral_14
                  case yal_14 => intro w hSw; (try dsimp only at hSw); go_simp <;> (try with_reducible rfl)
                  (try simp only [List.getElem_toArray, List.getElem_cons_succ, List.getElem_cons_zero, Act.put, List.setIfInBounds_toArray, List.set_cons_zero, List.set_cons_succ])
                  refine wpAnyH_done (by kernel_rfl) ?_ _
                  clear hHeld KP KQ
                  have M1 := M1.next hk9
                  have hbe := below_join hbe hk9
                  clear hk9
                  have hpp := HPP.out
                  obtain ⟨gc, oc, ec, hca⟩ := M1 j p hpp
                  injection ec with ec
                  injection ec with ec1 ec2 _
                  subst ec1 ec2
                  obtain ⟨gd, od, ed, hcb⟩ := M1 i q HQ.out
                  injection ed with ed
                  injection ed with ed1 ed2 _
                  subst ed1 ed2
                  clear hpp
                  go_wp2
                  have hdd := below_drew w9
                  have KP : Hid (∀ w', Below w9.heap.size w9 w' → w'.rangeAt ga (oa + j * 20) p.cells) := (fun w' hw v u hu => by rw [hw.cell (World.block_lt_of_cell? w9 _ (hca v u hu))]; exact hca v u hu : ∀ w', Below w9.heap.size w9 w' → w'.rangeAt ga (oa + j * 20) p.cells)
                  have KQ : Hid (∀ w', Below w9.heap.size w9 w' → w'.rangeAt ga (oa + i * 20) q.cells) := (fun w' hw v u hu => by rw [hw.cell (World.block_lt_of_cell? w9 _ (hcb v u hu))]; exact hcb v u hu : ∀ w', Below w9.heap.size w9 w' → w'.rangeAt ga (oa + i * 20) q.cells)
                  clear hca hcb
                  refine wp_region_held_drew (S := fun w' => Below w9.heap.size w9 w') (by kernel_rfl) hdd (fun hHeld => ?_)
                  generalize w9.drew = wd at hdd hHeld ⊢
                  refine wpAnyH_take (i := 0) (v := ?vam_0) rfl (by kernel_rfl) (by kernel_rfl) (by kernel_rfl) (fun _ _ _ h => h) (Or.inl ⟨by rfl, ?yam_0⟩) (by assumption) ?ram_0
                  case yam_0 => intro w hSw; (try dsimp only at hSw); go_simp <;> (try with_reducible rfl)
                  (try simp only [List.getElem_toArray, List.getElem_cons_zero, Act.put, List.setIfInBounds_toArray, List.set_cons_zero, List.set_cons_succ])
                  refine wpAnyH_take (i := 1) (v := ?vam_1) rfl (by kernel_rfl) (by kernel_rfl) (by kernel_rfl) (fun _ _ _ h => h) (Or.inl ⟨by rfl, ?yam_1⟩) (by assumption) ?ram_1
                  case yam_1 => intro w hSw; (try dsimp only at hSw); go_simp <;> (try with_reducible rfl)
                  (try simp only [List.getElem_toArray, List.getElem_cons_succ, List.getElem_cons_zero, Act.put, List.setIfInBounds_toArray, List.set_cons_zero, List.set_cons_succ])
                  refine wpAnyH_take (i := 2) (v := ?vam_2) rfl (by kernel_rfl) (by kernel_rfl) (by kernel_rfl) (fun _ _ _ h => h) (Or.inl ⟨by rfl, ?yam_2⟩) (by assumption) ?ram_2
                  case yam_2 => intro w hSw; (try dsimp only at hSw); go_simp <;> (try with_reducible rfl)
                  (try simp only [List.getElem_toArray, List.getElem_cons_succ, List.getElem_cons_zero, Act.put, List.setIfInBounds_toArray, List.set_cons_zero, List.set_cons_succ])
                  refine wpAnyH_take (i := 3) (v := ?vam_3) rfl (by kernel_rfl) (by kernel_rfl) (by kernel_rfl) (fun _ _ _ h => h) (Or.inl ⟨by rfl, ?yam_3⟩) (by assumption) ?ram_3
                  case yam_3 => intro w hSw; (try dsimp only at hSw); go_simp <;> (try with_reducible rfl)
                  (try simp only [List.getElem_toArray, List.getElem_cons_succ, List.getElem_cons_zero, Act.put, List.setIfInBounds_toArray, List.set_cons_zero, List.set_cons_succ])
                  refine wpAnyH_take (i := 4) (v := ?vam_4) rfl (by kernel_rfl) (by kernel_rfl) (by kernel_rfl) (fun _ _ _ h => h) (Or.inl ⟨by rfl, ?yam_4⟩) (by assumption) ?ram_4
                  case yam_4 => intro w hSw; (try dsimp only at hSw); go_simp <;> (try with_reducible rfl)
                  (try simp only [List.getElem_toArray, List.getElem_cons_succ, List.getElem_cons_zero, Act.put, List.setIfInBounds_toArray, List.set_cons_zero, List.set_cons_succ])
                  refine' wpAnyH_take (i := 5) (v := _) rfl (by kernel_rfl) (by kernel_rfl) (by kernel_rfl) (fun _ _ _ h => h) (yieldsIf_load_mid (by rfl) _ _ (by rfl) _ _ (by rfl) _ _ ?Sam_5 ?uam_5 ?dam_5 ?iam_5) (by assumption) ?ram_5
                  case Sam_5 => exact (by intro w h; exact KP.out _ h)
                  case uam_5 => exact hun
                  case dam_5 => rfl
                  case iam_5 => exact zp
                  (try simp only [List.getElem_toArray, List.getElem_cons_succ, List.getElem_cons_zero, Act.put, List.setIfInBounds_toArray, List.set_cons_zero, List.set_cons_succ])
                  refine wpAnyH_take (i := 6) (v := ?vam_6) rfl (by kernel_rfl) (by kernel_rfl) (by kernel_rfl) (fun _ _ _ h => h) (Or.inl ⟨by rfl, ?yam_6⟩) (by assumption) ?ram_6
                  case yam_6 => intro w hSw; (try dsimp only at hSw); go_simp <;> (try with_reducible rfl)
                  (try simp only [List.getElem_toArray, List.getElem_cons_succ, List.getElem_cons_zero, Act.put, List.setIfInBounds_toArray, List.set_cons_zero, List.set_cons_succ])
                  refine wpAnyH_take (i := 7) (v := ?vam_7) rfl (by kernel_rfl) (by kernel_rfl) (by kernel_rfl) (fun _ _ _ h => h) (Or.inl ⟨by rfl, ?yam_7⟩) (by assumption) ?ram_7
                  case yam_7 => intro w hSw; (try dsimp only at hSw); go_simp <;> (try with_reducible rfl)
                  (try simp only [List.getElem_toArray, List.getElem_cons_succ, List.getElem_cons_zero, Act.put, List.setIfInBounds_toArray, List.set_cons_zero, List.set_cons_succ])
                  refine wpAnyH_take (i := 8) (v := ?vam_8) rfl (by kernel_rfl) (by kernel_rfl) (by kernel_rfl) (fun _ _ _ h => h) (Or.inl ⟨by rfl, ?yam_8⟩) (by assumption) ?ram_8
                  case yam_8 => intro w hSw; (try dsimp only at hSw); go_simp <;> (try with_reducible rfl)
                  (try simp only [List.getElem_toArray, List.getElem_cons_succ, List.getElem_cons_zero, Act.put, List.setIfInBounds_toArray, List.set_cons_zero, List.set_cons_succ])
                  refine' wpAnyH_take (i := 9) (v := _) rfl (by kernel_rfl) (by kernel_rfl) (by kernel_rfl) (fun _ _ _ h => h) (yieldsIf_load_mid (by rfl) _ _ (by rfl) _ _ (by rfl) _ _ ?Sam_9 ?uam_9 ?dam_9 ?iam_9) (by assumption) ?ram_9
                  case Sam_9 => exact (by intro w h; exact KQ.out _ h)
                  case uam_9 => exact hun
                  case dam_9 => rfl
                  case iam_9 => exact zq
                  (try simp only [List.getElem_toArray, List.getElem_cons_succ, List.getElem_cons_zero, Act.put, List.setIfInBounds_toArray, List.set_cons_zero, List.set_cons_succ])
                  refine wpAnyH_ready (rs := [10]) (by kernel_rfl) (by simp) ?_
                  refine AllReadyH.cons rfl (fun K hK => ?_) AllReadyH.nil
                  go_simp
                  go_wp2_with fail
                  (with_reducible refine (HO.out _).mono ?_)
                  rintro e w10 ⟨rfl, hb10⟩
                  have hk10 := below_join hdd hb10
                  refine hK.out _ _ hk10 (fun hHeld => ?_)
                  clear hK K hb10 hdd
                  refine wpAnyH_take (i := 11) (v := ?vam_11) rfl (by kernel_rfl) (by kernel_rfl) (by kernel_rfl) (fun _ _ _ h => h) (Or.inl ⟨by rfl, ?yam_11⟩) (by assumption) ?ram_11
                  case yam_11 => intro w hSw; (try dsimp only at hSw); go_simp <;> (try with_reducible rfl)
                  (try simp only [List.getElem_toArray, List.getElem_cons_succ, List.getElem_cons_zero, Act.put, List.setIfInBounds_toArray, List.set_cons_zero, List.set_cons_succ])
                  refine wpAnyH_done (by kernel_rfl) ?_ _
                  clear hHeld KP KQ
                  have M1 := M1.next hk10
                  have hbe := below_join hbe hk10
                  clear hk10
                  go_wp2
                  go_roundw
                  case rel => exact ⟨j + 1, by omega, by go_num, M1, hbe⟩
                  case measure => simp [intOf]; omega
                · skip
                  rw [if_pos (by rfl)]
                  refine wp_allocz 25 rfl (.agg (H no ++ H no).toArray) (H no ++ H no) Tryd.zeroPt rfl ?_
                  intro g18 w7 hg18 hs7 hb7 B18
                  have hb7 := hb7.mono (Nat.le_of_eq hg18.out.symm)
                  have hk7 := below_join hdd hb7
                  have hle18 : wr.heap.size ≤ g18 := by have := hdd.size; have := hg18.out; omega
                  refine hK.out _ _ hk7 (fun hHeld => ?_)
                  clear hK K hb7 hg18 hs7 hdd
                  refine wpAnyH_ready (rs := [8]) (by kernel_rfl) (by simp) ?_
                  refine AllReadyH.cons rfl (fun K hK => ?_) AllReadyH.nil
                  go_simp
                  go_wp2_with fail
                  (with_reducible refine (HJ.out _).mono ?_)
                  rintro e w8 ⟨rfl, hb8⟩
                  have B18 := B18.next hb8 B18.lt
                  have hk8 := below_join hk7 hb8
                  refine hK.out _ _ hk8 (fun hHeld => ?_)
                  clear hK K hb8 hk7
                  refine wpAnyH_take (i := 9) (v := ?van_9) rfl (by kernel_rfl) (by kernel_rfl) (by kernel_rfl) (fun _ _ _ h => h) (Or.inl ⟨by rfl, ?yan_9⟩) (by assumption) ?ran_9
                  case yan_9 => intro w hSw; (try dsimp only at hSw); go_simp <;> (try with_reducible rfl)
                  (try simp only [List.getElem_toArray, List.getElem_cons_succ, List.getElem_cons_zero, Act.put, List.setIfInBounds_toArray, List.set_cons_zero, List.set_cons_succ])
                  refine wpAnyH_take (i := 10) (v := ?van_10) rfl (by kernel_rfl) (by kernel_rfl) (by kernel_rfl) (fun _ _ _ h => h) (Or.inl ⟨by rfl, ?yan_10⟩) (by assumption) ?ran_10
                  case yan_10 => intro w hSw; (try dsimp only at hSw); go_simp <;> (try with_reducible rfl)
                  (try simp only [List.getElem_toArray, List.getElem_cons_succ, List.getElem_cons_zero, Act.put, List.setIfInBounds_toArray, List.set_cons_zero, List.set_cons_succ])
                  refine wpAnyH_take (i := 11) (v := ?van_11) rfl (by kernel_rfl) (by kernel_rfl) (by kernel_rfl) (fun _ _ _ h => h) (Or.inl ⟨by rfl, ?yan_11⟩) (by assumption) ?ran_11
                  case yan_11 => intro w hSw; (try dsimp only at hSw); go_simp <;> (try with_reducible rfl)
                  (try simp only [List.getElem_toArray, List.getElem_cons_succ, List.getElem_cons_zero, Act.put, List.setIfInBounds_toArray, List.set_cons_zero, List.set_cons_succ])
                  refine wpAnyH_ready (rs := [13]) (by kernel_rfl) (by simp) ?_
                  refine AllReadyH.cons rfl (fun K hK => ?_) AllReadyH.nil
                  rw [if_pos (by rfl)]
                  refine wp_put 25 (.tmp 18) (.tmp 103) rfl g18 0 rfl (.agg Pat.zero.cells.toArray) rfl B18 Pat.zero.cells rfl (by rw [Pat.cells_length]; exact Tryd.szP) (by rw [Pat.cells_length, List.length_append, H_length]; omega) (cells_one _) ?_
                  intro w9 hu9 hB9
                  rw [splice_all _ _ (by rw [Pat.cells_length, List.length_append, H_length])] at hB9
                  clear B18
                  have B18 := hB9
                  have hk9 := hk8.trans (hu9.below (B := wr.heap.size) hle18)
                  refine hK.out _ _ hk9 (fun hHeld => ?_)
                  clear hK K hu9 hB9 hk8
                  refine wpAnyH_take (i := 14) (v := ?van_14) rfl (by kernel_rfl) (by kernel_rfl) (by kernel_rfl) (fun _ _ _ h => h) (Or.inl ⟨by rfl, ?yan_14⟩) (by assumption) ?ran_14
                  case yan_14 => intro w hSw; (try dsimp only at hSw); go_simp <;> (try with_reducible rfl)
                  (try simp only [List.getElem_toArray, List.getElem_cons_succ, List.getElem_cons_zero, Act.put, List.setIfInBounds_toArray, List.set_cons_zero, List.set_cons_succ])
                  refine wpAnyH_done (by kernel_rfl) ?_ _
                  clear hHeld KP KQ
                  have M1 := M1.next hk9
                  have hbe := below_join hbe hk9
                  clear hk9
                  have hpp := HPP.out
                  obtain ⟨gc, oc, ec, hca⟩ := M1 j p hpp
                  injection ec with ec
                  injection ec with ec1 ec2 _
                  subst ec1 ec2
                  obtain ⟨gd, od, ed, hcb⟩ := M1 i q HQ.out
                  injection ed with ed
                  injection ed with ed1 ed2 _
                  subst ed1 ed2
                  clear hpp
                  go_wp2
                  have hdd := below_drew w9
                  have KP : Hid (∀ w', Below w9.heap.size w9 w' → w'.rangeAt ga (oa + j * 20) p.cells) := (fun w' hw v u hu => by rw [hw.cell (World.block_lt_of_cell? w9 _ (hca v u hu))]; exact hca v u hu : ∀ w', Below w9.heap.size w9 w' → w'.rangeAt ga (oa + j * 20) p.cells)
                  have KQ : Hid (∀ w', Below w9.heap.size w9 w' → w'.rangeAt ga (oa + i * 20) q.cells) := (fun w' hw v u hu => by rw [hw.cell (World.block_lt_of_cell? w9 _ (hcb v u hu))]; exact hcb v u hu : ∀ w', Below w9.heap.size w9 w' → w'.rangeAt ga (oa + i * 20) q.cells)
                  clear hca hcb
                  refine wp_region_held_drew (S := fun w' => Below w9.heap.size w9 w') (by kernel_rfl) hdd (fun hHeld => ?_)
                  generalize w9.drew = wd at hdd hHeld ⊢
                  refine wpAnyH_take (i := 0) (v := ?vao_0) rfl (by kernel_rfl) (by kernel_rfl) (by kernel_rfl) (fun _ _ _ h => h) (Or.inl ⟨by rfl, ?yao_0⟩) (by assumption) ?rao_0
                  case yao_0 => intro w hSw; (try dsimp only at hSw); go_simp <;> (try with_reducible rfl)
                  (try simp only [List.getElem_toArray, List.getElem_cons_zero, Act.put, List.setIfInBounds_toArray, List.set_cons_zero, List.set_cons_succ])
                  refine wpAnyH_take (i := 1) (v := ?vao_1) rfl (by kernel_rfl) (by kernel_rfl) (by kernel_rfl) (fun _ _ _ h => h) (Or.inl ⟨by rfl, ?yao_1⟩) (by assumption) ?rao_1
                  case yao_1 => intro w hSw; (try dsimp only at hSw); go_simp <;> (try with_reducible rfl)
                  (try simp only [List.getElem_toArray, List.getElem_cons_succ, List.getElem_cons_zero, Act.put, List.setIfInBounds_toArray, List.set_cons_zero, List.set_cons_succ])
                  refine wpAnyH_take (i := 2) (v := ?vao_2) rfl (by kernel_rfl) (by kernel_rfl) (by kernel_rfl) (fun _ _ _ h => h) (Or.inl ⟨by rfl, ?yao_2⟩) (by assumption) ?rao_2
                  case yao_2 => intro w hSw; (try dsimp only at hSw); go_simp <;> (try with_reducible rfl)
                  (try simp only [List.getElem_toArray, List.getElem_cons_succ, List.getElem_cons_zero, Act.put, List.setIfInBounds_toArray, List.set_cons_zero, List.set_cons_succ])
                  refine wpAnyH_take (i := 3) (v := ?vao_3) rfl (by kernel_rfl) (by kernel_rfl) (by kernel_rfl) (fun _ _ _ h => h) (Or.inl ⟨by rfl, ?yao_3⟩) (by assumption) ?rao_3
                  case yao_3 => intro w hSw; (try dsimp only at hSw); go_simp <;> (try with_reducible rfl)
                  (try simp only [List.getElem_toArray, List.getElem_cons_succ, List.getElem_cons_zero, Act.put, List.setIfInBounds_toArray, List.set_cons_zero, List.set_cons_succ])
                  refine wpAnyH_take (i := 4) (v := ?vao_4) rfl (by kernel_rfl) (by kernel_rfl) (by kernel_rfl) (fun _ _ _ h => h) (Or.inl ⟨by rfl, ?yao_4⟩) (by assumption) ?rao_4
                  case yao_4 => intro w hSw; (try dsimp only at hSw); go_simp <;> (try with_reducible rfl)
                  (try simp only [List.getElem_toArray, List.getElem_cons_succ, List.getElem_cons_zero, Act.put, List.setIfInBounds_toArray, List.set_cons_zero, List.set_cons_succ])
                  refine' wpAnyH_take (i := 5) (v := _) rfl (by kernel_rfl) (by kernel_rfl) (by kernel_rfl) (fun _ _ _ h => h) (yieldsIf_load_mid (by rfl) _ _ (by rfl) _ _ (by rfl) _ _ ?Sao_5 ?uao_5 ?dao_5 ?iao_5) (by assumption) ?rao_5
                  case Sao_5 => exact (by intro w h; exact KP.out _ h)
                  case uao_5 => exact hun
                  case dao_5 => rfl
                  case iao_5 => exact zp
                  (try simp only [List.getElem_toArray, List.getElem_cons_succ, List.getElem_cons_zero, Act.put, List.setIfInBounds_toArray, List.set_cons_zero, List.set_cons_succ])
                  refine wpAnyH_take (i := 6) (v := ?vao_6) rfl (by kernel_rfl) (by kernel_rfl) (by kernel_rfl) (fun _ _ _ h => h) (Or.inl ⟨by rfl, ?yao_6⟩) (by assumption) ?rao_6
                  case yao_6 => intro w hSw; (try dsimp only at hSw); go_simp <;> (try with_reducible rfl)
                  (try simp only [List.getElem_toArray, List.getElem_cons_succ, List.getElem_cons_zero, Act.put, List.setIfInBounds_toArray, List.set_cons_zero, List.set_cons_succ])
                  refine wpAnyH_take (i := 7) (v := ?vao_7) rfl (by kernel_rfl) (by kernel_rfl) (by kernel_rfl) (fun _ _ _ h => h) (Or.inl ⟨by rfl, ?yao_7⟩) (by assumption) ?rao_7
                  case yao_7 => intro w hSw; (try dsimp only at hSw); go_simp <;> (try with_reducible rfl)
                  (try simp only [List.getElem_toArray, List.getElem_cons_succ, List.getElem_cons_zero, Act.put, List.setIfInBounds_toArray, List.set_cons_zero, List.set_cons_succ])
                  refine wpAnyH_take (i := 8) (v := ?vao_8) rfl (by kernel_rfl) (by kernel_rfl) (by kernel_rfl) (fun _ _ _ h => h) (Or.inl ⟨by rfl, ?yao_8⟩) (by assumption) ?rao_8
                  case yao_8 => intro w hSw; (try dsimp only at hSw); go_simp <;> (try with_reducible rfl)
                  (try simp only [List.getElem_toArray, List.getElem_cons_succ, List.getElem_cons_zero, Act.put, List.setIfInBounds_toArray, List.set_cons_zero, List.set_cons_succ])
                  refine' wpAnyH_take (i := 9) (v := _) rfl (by kernel_rfl) (by kernel_rfl) (by kernel_rfl) (fun _ _ _ h => h) (yieldsIf_load_mid (by rfl) _ _ (by rfl) _ _ (by rfl) _ _ ?Sao_9 ?uao_9 ?dao_9 ?iao_9) (by assumption) ?rao_9
                  case Sao_9 => exact (by intro w h; exact KQ.out _ h)
                  case uao_9 => exact hun
                  case dao_9 => rfl
                  case iao_9 => exact zq
                  (try simp only [List.getElem_toArray, List.getElem_cons_succ, List.getElem_cons_zero, Act.put, List.setIfInBounds_toArray, List.set_cons_zero, List.set_cons_succ])
                  refine wpAnyH_ready (rs := [10]) (by kernel_rfl) (by simp) ?_
                  refine AllReadyH.cons rfl (fun K hK => ?_) AllReadyH.nil
                  go_simp
                  go_wp2_with fail
                  (with_reducible refine (HO.out _).mono ?_)
                  rintro e w10 ⟨rfl, hb10⟩
                  have hk10 := below_join hdd hb10
                  refine hK.out _ _ hk10 (fun hHeld => ?_)
                  clear hK K hb10 hdd
                  refine wpAnyH_take (i := 11) (v := ?vao_11) rfl (by kernel_rfl) (by kernel_rfl) (by kernel_rfl) (fun _ _ _ h => h) (Or.inl ⟨by rfl, ?yao_11⟩) (by assumption) ?rao_11
                  case yao_11 => intro w hSw; (try dsimp only at hSw); go_simp <;> (try with_reducible rfl)
                  (try simp only [List.getElem_toArray, List.getElem_cons_succ, List.getElem_cons_zero, Act.put, List.setIfInBounds_toArray, List.set_cons_zero, List.set_cons_succ])
                  refine wpAnyH_done (by kernel_rfl) ?_ _
                  clear hHeld KP KQ
                  have M1 := M1.next hk10
                  have hbe := below_join hbe hk10
                  clear hk10
                  go_wp2
                  go_roundw
                  case rel => exact ⟨j + 1, by omega, by go_num, M1, hbe⟩
                  case measure => simp [intOf]; omega
              · obtain rfl : j = i := by omega
                go_wp2
                go_roundw
                case rel => exact ⟨j + 1, by omega, by go_num, M1, hbe⟩
                case measure => simp [intOf]; omega
          · obtain rfl : i = n := by omega
            go_wp2
            go_ret
            exact ⟨rfl, hbe⟩
/-- Whatever comes in. -/
theorem rexactLaw_any (a wd lo hi : Int) (lh : List Int) (w : World) (h6 : lh.length = 10) (hG : GOk w) :
    Calls Tryd.prog 13 #[.int .i64 a, .int .i64 wd, .int .i64 lo, .int .i64 hi, .agg (lh.map iV).toArray] w fun e w' => e = .returned (.bool true) ∧ Below w.heap.size w w' := by
  by_cases hc : rangeOk a wd lo hi
  · obtain ⟨a, wd, lo, hi, rfl, rfl, rfl, rfl, h1, h2, h3, h4, h5⟩ := ok_nat hc
    by_cases hr : rightI lh
    · obtain ⟨h, rfl⟩ := right_head h6 hr
      rw [← H_iV]
      exact rexact_good a wd lo hi h w h1 h2 h3 h4 h5 hG
    · exact rexact_raw a wd lo hi lh w h6 hr h1 h2 h3 h4 h5 hG
  · exact rexact_bad a wd lo hi lh w h6 hc hG
end Go.Proofs.YtbldnhpbmfmepaaDoor
