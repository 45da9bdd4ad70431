/-
  Contract of the walk over the reference's outsideAll. Conditions: right patterns, of which at most 5000 are ever left.
-/
import Derived.Test.YtbldnhpbmfmepaaDoorKTf
import Derived.Test.YtbldnhpbmfmepaaDoorKMa2
namespace Go.Proofs.YtbldnhpbmfmepaaDoor
set_option linter.unusedVariables false
set_option linter.unusedSimpArgs false
open Go.RowKit

/-- The better of what was found and of what one more pattern gives. -/
theorem found_keep {b : List Pat} {p : Pat} {R : Bnd} (h : Pat.found b p none none) : Pat.found b p R R := by
  rcases h with ⟨m, _, _, e⟩ | ⟨n, _⟩
  · cases e
  · exact .inr ⟨fun g hg ho _ => n g hg ho trivial, rfl⟩
theorem found_new {b : List Pat} {p : Pat} {m : Nat → Bool} {R : Bnd} (h : Pat.found b p none (some m)) (hb : Bnd.below R m) : Pat.found b p R (some m) := by
  rcases h with ⟨m', hm, _, e⟩ | ⟨_, e⟩
  · injection e with e
    subst e
    exact .inl ⟨m, hm, hb, rfl⟩
  · cases e
theorem found_old {b : List Pat} {p : Pat} {m : Nat → Bool} {R : Bnd} (h : Pat.found b p none (some m)) (hb : ¬ Bnd.below R m) : Pat.found b p R R := by
  rcases h with ⟨m', ⟨_, _, h3⟩, _, e⟩ | ⟨_, e⟩
  · injection e with e
    subst e
    exact .inr ⟨fun g hg ho hc => hb (Bnd.below_le (h3 g hg ho) hc), rfl⟩
  · cases e
theorem cmp_neg {f g : Nat → Bool} : cmpH f g < 0 ↔ num f < num g := by
  unfold cmpH
  constructor
  · intro h
    refine Classical.byContradiction fun hc => ?_
    rw [if_neg hc] at h
    split at h <;> exact absurd h (by decide)
  · intro h
    rw [if_pos h]
    decide
structure AllI (la lb : List Pat) (g4 g6 : Nat) (w : World) (k : Nat) (R : Bnd) (wr : World) : Prop where
  fnd : foundIn (la.take k) lb none R
  b4 : Blk wr g4 23 (H no)
  b6 : Blk wr g6 23 (H (R.getD no))
  below : Below w.heap.size w wr
def AllR (la lb : List Pat) (g4 g6 n : Nat) (w : World) (fv iv : Value) (wr : World) : Prop :=
  ∃ (k : Nat) (R : Bnd), k ≤ n ∧ iv = .int .i64 (k : Int) ∧ fv = .bool R.isSome ∧ AllI la lb g4 g6 w k R wr
set_option maxRecDepth 100000 in
set_option maxHeartbeats 6400000 in
theorem routsideAll_any (ca cb : Nat) (Aa Ab : Option Addr) (la lb : List Pat) (w : World) (hoa : ∀ q, q ∈ la → q.ok) (hob : ∀ q, q ∈ lb → q.ok) (hla : la.length ≤ 1000000) (hlb : lb.length ≤ 1000000) (hfew : ∀ x, x ∈ la → ∀ k, (leftTo x lb k).length ≤ 5000) (ha : PatsAt w Aa la) (hb : PatsAt w Ab lb) :
    Calls Tryd.prog 95 #[.slice Aa la.length ca, .slice Ab lb.length cb] w fun e w' => ∃ R, e = .returned (outV R) ∧ foundIn la lb none R ∧ Below w.heap.size w w' := by
  have HL := Lib.hid ha
  obtain ⟨n, hn⟩ : ∃ n, Hid (la.length = n) := ⟨_, rfl⟩
  obtain ⟨m, hm⟩ : ∃ m, Hid (lb.length = m) := ⟨_, rfl⟩
  have hout : ∀ x W, x ∈ la → Below w.heap.size w W → Calls Tryd.prog 61 #[.agg x.cells.toArray, .slice Ab m cb] W fun e w' => ((e = .returned (.tuple #[.agg (H no).toArray, .bool false]) ∧ Pat.found lb x none none) ∨ ∃ h, e = .returned (.tuple #[.agg (H h).toArray, .bool true]) ∧ Pat.found lb x none (some h)) ∧ Below W.heap.size W w' := fun x W hx hbw => by
    rw [← hm.out]
    refine (routside_any cb Ab lb x W hob (hoa x hx) hlb (hfew x hx) (hb.next hbw)).mono fun e w' h => ?_
    obtain ⟨R, rfl, hf, hb⟩ := h
    cases R with
    | none => exact ⟨.inl ⟨rfl, hf⟩, hb⟩
    | some h => exact ⟨.inr ⟨h, rfl, hf⟩, hb⟩
  have HOUT := Lib.hid hout
  rw [hn.out] at hla ⊢
  rw [hm.out]
  have hunP := Tryd.underlying25
  have hunH := Tryd.underlying23
  have hzp : ∀ x : Pat, (Tryd.prog.info? 25).map (·.size) = some x.cells.length := fun x => by rw [Pat.cells_length]; exact Tryd.szP
  have HZP := Lib.hid hzp
  clear hout hoa hob hlb hfew ha hb hzp
  go_enter Tryd.func95, Tryd.ntmps95
  go_wp2_with (with_reducible refine wpList_alloc (o := ⟨some 4, .alloc 23, _, _, _, _⟩) (by with_unfolding_all rfl) 23 (by with_unfolding_all rfl) (.agg (H no).toArray) (H no) (by exact Tryd.zeroH) (by with_unfolding_all rfl) ?_)
  intro g4 w1 hg4 hs1 hb1 B4
  have hl4 : w.heap.size ≤ g4 := Nat.le_of_eq hg4.out.symm
  have hbe : Below w.heap.size w w1 := hb1.mono hl4
  clear hb1 hs1 hg4
  go_wp2_with (with_reducible refine wpList_alloc (o := ⟨some 6, .alloc 23, _, _, _, _⟩) (by with_unfolding_all rfl) 23 (by with_unfolding_all rfl) (.agg (H no).toArray) (H no) (by exact Tryd.zeroH) (by with_unfolding_all rfl) ?_)
  intro g6 w2 hg6 hs2 hb2 B6
  have h46 : g4 < g6 := by have := B4.lt; have := hg6.out; omega
  have hb2 := hb2.mono (Nat.le_of_eq hg6.out.symm)
  have B4 := B4.next hb2 B4.lt
  have hbe := below_join hbe hb2
  have H0 : Hid (AllI la lb g4 g6 w 0 none w2) := (⟨foundIn_nil _ _, B4, B6, hbe⟩ : AllI la lb g4 g6 w 0 none w2)
  clear hb2 hs2 hg6 B4 B6 hbe
  go_wp2
  go_loopw [7, 8] (AllR la lb g4 g6 n w) (fun _ i _ => n - (intOf i).toNat)
  case atStart => exact ⟨0, none, Nat.zero_le _, rfl, rfl, H0.out⟩
  case round =>
    clear H0
    obtain ⟨k, R, hk, rfl, rfl, hI⟩ := hrel
    have hbe := hI.below
    have B4 := hI.b4
    have B6 := hI.b6
    have HFN := Lib.hid hI.fnd
    obtain ⟨FF, hF⟩ : ∃ FF, Hid (R.isSome = FF) := ⟨_, rfl⟩
    obtain ⟨y, hy⟩ : ∃ y, Hid (R.getD no = y) := ⟨_, rfl⟩
    rw [hy.out] at B6
    rw [hF.out]
    clear hI
    by_cases hlt : k < n
    · have hki : (k : Int) < (n : Int) := by omega
      obtain ⟨x, hx⟩ : ∃ x, la[k]? = some x := ⟨_, List.getElem?_eq_getElem (by rw [hn.out]; exact hlt)⟩
      have htk : la.take (k + 1) = la.take k ++ [x] := by
        rw [List.take_succ_eq_append_getElem (by rw [hn.out]; exact hlt), (List.getElem?_eq_some_iff.1 hx).2]
      have HTK := Lib.hid htk
      obtain ⟨ga, oa, hAl, hca⟩ := (HL.out.next hbe) k x hx
      subst hAl
      have hc2 : ∀ (j : Nat) (u : Value), x.cells[j]? = some u → wr.cell? ((⟨ga, oa + k * 20, none⟩ : Addr).add j) = some u := fun j u hu => by rw [addr_mid]; exact hca j u hu
      have zx := HZP.out x
      have hxm := List.mem_of_getElem? hx
      clear htk hca hx
      go_wp2_with (with_reducible refine wpList_load_add (op := ⟨some 21, .load 25 (.tmp 20), _, _, _, _⟩) (by with_unfolding_all rfl) 25 (.tmp 20) (by with_unfolding_all rfl) ⟨ga, oa + k * 20, none⟩ (by with_unfolding_all rfl) x.cells _ hc2 hunP (by with_unfolding_all rfl) zx ?_)
      (with_reducible refine (HOUT.out _ _ hxm hbe).mono ?_)
      rintro e w3 ⟨hR, hb3⟩
      have B4 := B4.next hb3 B4.lt
      have B6 := B6.next hb3 B6.lt
      have hbe := below_join hbe hb3
      clear hb3 hc2 hxm
      rcases hR with ⟨rfl, hf⟩ | ⟨h, rfl, hf⟩
      · have HN : Hid (foundIn (la.take (k + 1)) lb none R) := by
          have : foundIn (la.take (k + 1)) lb none R := by rw [HTK.out]; exact foundIn_next HFN.out (found_keep hf)
          exact this
        clear hf
        go_wp2_with (with_reducible refine wpList_alloc (o := ⟨some 9, .alloc 23, _, _, _, _⟩) (by with_unfolding_all rfl) 23 (by with_unfolding_all rfl) (.agg (H no).toArray) (H no) (by exact Tryd.zeroH) (by with_unfolding_all rfl) ?_)
        intro g9 wa9 hg9 hs9 hb9 hB9
        have hl9 := Nat.le_of_eq hg9.out.symm
        have hbl9 := hb9.mono hl9
        have hn49 : g4 < g9 := by have := B4.lt; have := hg9.out; omega
        have hn69 : g6 < g9 := by have := B6.lt; have := hg9.out; omega
        go_wp2_with (with_reducible refine wpList_put (o := ⟨none, .store 23 (.tmp 9) (.tmp 24), _, _, _, _⟩) (by with_unfolding_all rfl) 23 (.tmp 9) (.tmp 24) (by with_unfolding_all rfl) g9 0 (by with_unfolding_all rfl) (.agg (H no).toArray) (by with_unfolding_all rfl) hB9 (H no) (by with_unfolding_all rfl) (by with_unfolding_all (rw [H_length]; exact Tryd.szH)) (by with_unfolding_all (simp only [H_length] <;> omega)) (by with_unfolding_all (exact H_one _)) ?_)
        intro wb9 hu9 B9
        rw [splice_all _ _ (by simp only [H_length])] at B9
        have hbu9 := hbl9.trans (hu9.below hl9)
        have B4 := B4.next hbu9 B4.lt
        have B6 := B6.next hbu9 B6.lt
        have hbe := below_join hbe hbu9
        clear hg9 hs9 hb9 hB9 hl9 hbl9 hu9 hbu9
        have HI2 : Hid (AllI la lb g4 g6 w (k + 1) R wb9) := (⟨HN.out, B4, by rw [hy.out]; exact B6, hbe⟩ : AllI la lb g4 g6 w (k + 1) R wb9)
        clear B4 B6 B9 hbe
        go_wp2
        go_roundw
        case rel => exact ⟨k + 1, R, by omega, by go_num, by rw [hF.out], HI2.out⟩
        case measure => simp [intOf]; omega
      · have HFO := Lib.hid hf
        clear hf
        go_wp2_with (with_reducible refine wpList_alloc (o := ⟨some 9, .alloc 23, _, _, _, _⟩) (by with_unfolding_all rfl) 23 (by with_unfolding_all rfl) (.agg (H no).toArray) (H no) (by exact Tryd.zeroH) (by with_unfolding_all rfl) ?_)
        intro g9 wa9 hg9 hs9 hb9 hB9
        have hl9 := Nat.le_of_eq hg9.out.symm
        have hbl9 := hb9.mono hl9
        have hn49 : g4 < g9 := by have := B4.lt; have := hg9.out; omega
        have hn69 : g6 < g9 := by have := B6.lt; have := hg9.out; omega
        go_wp2_with (with_reducible refine wpList_put (o := ⟨none, .store 23 (.tmp 9) (.tmp 24), _, _, _, _⟩) (by with_unfolding_all rfl) 23 (.tmp 9) (.tmp 24) (by with_unfolding_all rfl) g9 0 (by with_unfolding_all rfl) (.agg (H h).toArray) (by with_unfolding_all rfl) hB9 (H h) (by with_unfolding_all rfl) (by with_unfolding_all (rw [H_length]; exact Tryd.szH)) (by with_unfolding_all (simp only [H_length] <;> omega)) (by with_unfolding_all (exact H_one _)) ?_)
        intro wb9 hu9 B9
        rw [splice_all _ _ (by simp only [H_length])] at B9
        have hbu9 := hbl9.trans (hu9.below hl9)
        have B4 := B4.next hbu9 B4.lt
        have B6 := B6.next hbu9 B6.lt
        have hbe := below_join hbe hbu9
        clear hg9 hs9 hb9 hB9 hl9 hbl9 hu9 hbu9
        rcases FF with _ | _
        · have hRn : R = none := by
            have := hF.out
            cases R with
            | none => rfl
            | some r => cases this
          have HN : Hid (foundIn (la.take (k + 1)) lb none (some h)) := by
            have : foundIn (la.take (k + 1)) lb none (some h) := by rw [HTK.out]; exact foundIn_next HFN.out (found_new HFO.out (by rw [hRn]; trivial))
            exact this
          clear hRn
          go_wp2_with (first | (with_reducible refine wpList_get (o := ⟨some 37, .load 23 (.tmp 9), _, _, _, _⟩) (by with_unfolding_all rfl) 23 (.tmp 9) (by with_unfolding_all rfl) g9 0 (by with_unfolding_all rfl) B9 (H h) (cs_all _) _ (by exact hunH) (by with_unfolding_all rfl) (by rw [H_length]; exact Tryd.szH) ?_) | (with_reducible refine wpList_put (o := ⟨none, .store 23 (.tmp 6) (.tmp 37), _, _, _, _⟩) (by with_unfolding_all rfl) 23 (.tmp 6) (.tmp 37) (by with_unfolding_all rfl) g6 0 (by with_unfolding_all rfl) (.agg (H h).toArray) (by with_unfolding_all rfl) B6 (H h) (by with_unfolding_all rfl) (by with_unfolding_all (rw [H_length]; exact Tryd.szH)) (by with_unfolding_all (simp only [H_length] <;> omega)) (by with_unfolding_all (exact H_one _)) ?_))
          intro w7 hu7 B67
          rw [splice_all _ _ (by simp only [H_length])] at B67
          have B4 := B4.upd hu7 (by omega)
          have hbe := hbe.trans (hu7.below (B := w.heap.size) (by omega))
          have HI2 : Hid (AllI la lb g4 g6 w (k + 1) (some h) w7) := (⟨HN.out, B4, B67, hbe⟩ : AllI la lb g4 g6 w (k + 1) (some h) w7)
          clear B4 B6 B67 B9 hbe hu7
          go_wp2
          go_roundw
          case rel => exact ⟨k + 1, some h, by omega, by go_num, rfl, HI2.out⟩
          case measure => simp [intOf]; omega
        · have hRs : Hid (R = some y) := by
            have : R = some y := by
              have h1 := hF.out
              have h2 := hy.out
              cases R with
              | none => cases h1
              | some r => exact congrArg some h2
            exact this
          have hcmp := fun w => rcompareHeads_any h y w
          obtain ⟨I, hI⟩ : ∃ I, Hid (cmpH h y = I) := ⟨_, rfl⟩
          obtain ⟨C, hC⟩ : ∃ C, decide (I < 0) = C := ⟨_, rfl⟩
          rw [hI.out] at hcmp
          have HCMP := Lib.hid hcmp
          have HC : Hid (decide (cmpH h y < 0) = C) := by
            have : decide (cmpH h y < 0) = C := by rw [hI.out]; exact hC
            exact this
          clear hcmp
          go_wp2_with (first | (with_reducible refine wpList_getg (o := ⟨some 31, .load 23 (.tmp 9), _, _, _, _⟩) (by with_unfolding_all rfl) 23 (.tmp 9) (by with_unfolding_all rfl) g9 0 (by with_unfolding_all rfl) B9 (H h) (cs_all _) _ (by exact hunH) (by with_unfolding_all rfl) (by rw [H_length]; exact Tryd.szH) ?_) | (with_reducible refine wpList_getg (o := ⟨some 32, .load 23 (.tmp 6), _, _, _, _⟩) (by with_unfolding_all rfl) 23 (.tmp 6) (by with_unfolding_all rfl) g6 0 (by with_unfolding_all rfl) B6 (H y) (cs_all _) _ (by exact hunH) (by with_unfolding_all rfl) (by rw [H_length]; exact Tryd.szH) ?_))
          (with_reducible refine (HCMP.out _).mono ?_)
          rintro e w5 ⟨rfl, hb5⟩
          have B4 := B4.next hb5 B4.lt
          have B6 := B6.next hb5 B6.lt
          have B9 := B9.next hb5 B9.lt
          have hbe := below_join hbe hb5
          clear hb5
          cases C with
          | true =>
            have HN : Hid (foundIn (la.take (k + 1)) lb none (some h)) := by
              have : foundIn (la.take (k + 1)) lb none (some h) := by rw [HTK.out]; exact foundIn_next HFN.out (found_new HFO.out (by rw [hRs.out]; exact cmp_neg.1 (of_decide_eq_true HC.out)))
              exact this
            go_wp2_with (first | (with_reducible refine wpList_get (o := ⟨some 37, .load 23 (.tmp 9), _, _, _, _⟩) (by with_unfolding_all rfl) 23 (.tmp 9) (by with_unfolding_all rfl) g9 0 (by with_unfolding_all rfl) B9 (H h) (cs_all _) _ (by exact hunH) (by with_unfolding_all rfl) (by rw [H_length]; exact Tryd.szH) ?_) | (with_reducible refine wpList_put (o := ⟨none, .store 23 (.tmp 6) (.tmp 37), _, _, _, _⟩) (by with_unfolding_all rfl) 23 (.tmp 6) (.tmp 37) (by with_unfolding_all rfl) g6 0 (by with_unfolding_all rfl) (.agg (H h).toArray) (by with_unfolding_all rfl) B6 (H h) (by with_unfolding_all rfl) (by with_unfolding_all (rw [H_length]; exact Tryd.szH)) (by with_unfolding_all (simp only [H_length] <;> omega)) (by with_unfolding_all (exact H_one _)) ?_))
            intro w7 hu7 B67
            rw [splice_all _ _ (by simp only [H_length])] at B67
            have B4 := B4.upd hu7 (by omega)
            have hbe := hbe.trans (hu7.below (B := w.heap.size) (by omega))
            have HI2 : Hid (AllI la lb g4 g6 w (k + 1) (some h) w7) := (⟨HN.out, B4, B67, hbe⟩ : AllI la lb g4 g6 w (k + 1) (some h) w7)
            clear B4 B6 B67 B9 hbe hu7
            go_wp2
            go_roundw
            case rel => exact ⟨k + 1, some h, by omega, by go_num, rfl, HI2.out⟩
            case measure => simp [intOf]; omega
          | false =>
            have HN : Hid (foundIn (la.take (k + 1)) lb none R) := by
              have : foundIn (la.take (k + 1)) lb none R := by rw [HTK.out]; exact foundIn_next HFN.out (found_old HFO.out (by rw [hRs.out]; exact fun hc => of_decide_eq_false HC.out (cmp_neg.2 hc)))
              exact this
            have HI2 : Hid (AllI la lb g4 g6 w (k + 1) R w5) := (⟨HN.out, B4, by rw [hy.out]; exact B6, hbe⟩ : AllI la lb g4 g6 w (k + 1) R w5)
            clear B4 B6 B9 hbe
            go_wp2
            go_roundw
            case rel => exact ⟨k + 1, R, by omega, by go_num, by rw [hF.out], HI2.out⟩
            case measure => simp [intOf]; omega
    · obtain rfl : k = n := by omega
      have HN : Hid (foundIn la lb none R) := by
        have : foundIn la lb none R := by
          have h1 := HFN.out
          rw [List.take_of_length_le (by rw [hn.out]; exact Nat.le_refl _)] at h1
          exact h1
        exact this
      have hov : Hid (.returned (.tuple #[.agg (H y).toArray, .bool FF]) = Ending.returned (outV R)) := by
        have : Ending.returned (.tuple #[.agg (H y).toArray, .bool FF]) = .returned (outV R) := by
          rw [← hy.out, ← hF.out]
          cases R <;> rfl
        exact this
      go_wp2_with (first | (with_reducible refine wpList_get (o := ⟨some 38, .load 23 (.tmp 6), _, _, _, _⟩) (by with_unfolding_all rfl) 23 (.tmp 6) (by with_unfolding_all rfl) g6 0 (by with_unfolding_all rfl) B6 (H y) (cs_all _) _ (by exact hunH) (by with_unfolding_all rfl) (by rw [H_length]; exact Tryd.szH) ?_) | (with_reducible refine wpList_put (o := ⟨none, .store 23 (.tmp 4) (.tmp 38), _, _, _, _⟩) (by with_unfolding_all rfl) 23 (.tmp 4) (.tmp 38) (by with_unfolding_all rfl) g4 0 (by with_unfolding_all rfl) (.agg (H y).toArray) (by with_unfolding_all rfl) B4 (H y) (by with_unfolding_all rfl) (by with_unfolding_all (rw [H_length]; exact Tryd.szH)) (by with_unfolding_all (simp only [H_length] <;> omega)) (by with_unfolding_all (exact H_one _)) ?_))
      intro w11 hu11 hB11
      rw [splice_all _ _ (by simp only [H_length])] at hB11
      have hfin := hbe.trans (hu11.below (B := w.heap.size) (by omega))
      go_wp2
      exact bodyPost_ret (results_cell_two rfl _ _ g4 _ _ _ _ _ rfl rfl hB11 Tryd.underlying23 rfl (by rw [List.size_toArray, H_length]; exact Tryd.szH)) rfl ⟨R, by rw [← hov.out]; rfl, HN.out, hfin⟩
end Go.Proofs.YtbldnhpbmfmepaaDoor
