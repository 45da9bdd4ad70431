/-
  The walk of BitsDifferencesAreExact. Conditions: the library's variable lies there.
-/
import Derived.Test.YtbldnhpbmfmepaaDoorKSe
import Derived.Test.YtbldnhpbmfmepaaDoorKLg
namespace Go.Proofs.YtbldnhpbmfmepaaDoor
set_option linter.unusedVariables false
set_option linter.unusedSimpArgs false
open Go.RowKit

theorem okWide_cap {P : Program} {w : World} {r : Reach} {base : Nat} {t e : TypeId} {A : Option Addr} {len cap : Nat} (hu : P.underlying t = some (.slice e)) (h : Value.okWide P w r base t (.slice A len cap)) : len ≤ cap := by
  have h' : Cell.ok P w r base t (.slice A len cap) := by
    simp only [Value.okWide, hu, Cell.okWide] at h
    exact h
  unfold Cell.ok at h'
  rw [hu] at h'
  cases A with
  | none =>
    cases len with
    | zero => exact Nat.zero_le _
    | succ l => exact absurd h' (by simp)
  | some a =>
    have h2 : len ≤ cap ∧ (cap : Int) ≤ IntKind.i64.max ∧ w.has P r base a _ cap := h'
    exact h2.1
theorem onesTo_cnt (f : Nat → Bool) : ∀ k, (onesTo f k).length = cnt f 0 k
  | 0 => rfl
  | k + 1 => by
    rw [onesTo_succ, List.length_append, onesTo_cnt f k]
    show _ = cnt f 0 k + (f (0 + k)).toNat
    rw [Nat.zero_add]
    cases f k <;> rfl
theorem minus_few (p q : Pat) : (p.minus q).length ≤ max 1 (cnt (fixTo [q] 1) 0 160) := by
  unfold Pat.minus
  by_cases ho : p.over q
  · rw [if_pos ho]
    unfold Pat.pieces
    rw [List.length_map, onesTo_cnt]
    have := cnt_mono (f := p.only q) (g := fixTo [q] 1) (b := 0) (k := 160) (fun i _ hi => by
      show ([q].take 1).any (fun x => x.m (0 + i)) = true
      have := (Pat.only_iff.1 hi).1
      simpa using this)
    omega
  · rw [if_neg ho]
    show 1 ≤ _
    omega

set_option maxRecDepth 100000 in
set_option maxHeartbeats 6400000 in
theorem dex_bad (A0 : Option Addr) (c0 : Nat) (la : List (List Int × List Int)) (pm pb lh : List Int) (w : World) (h1 : pm.length = 10) (h2 : pb.length = 10) (h3 : lh.length = 10) (hTa : Tens la) (hRa : RawAt w A0 la) (hn0 : A0 = none → la.length = 0 ∧ c0 = 0) (hla : la.length * 160 ≤ 140737488351232) (hG : GOk w)
    (F : Bool) (hF : ∀ (A : Option Addr) (c : Nat) (w : World), RawAt w A ((pm, pb) :: la) → Calls Tryd.prog 52 #[.slice A (1 + la.length) c, .int .i64 9] w fun e w' => e = .returned (.bool F) ∧ Below w.heap.size w w')
    (hbad : ¬ (F = true ∧ rightI lh)) :
    Calls Tryd.prog 9 #[.agg (pm.map iV ++ pb.map iV).toArray, .slice A0 la.length c0, .agg (lh.map iV).toArray] w fun e w' => e = .returned (.bool true) ∧ Below w.heap.size w w' := by
  have c4 := fun w => heads_any lh lh w h3 h3
  obtain ⟨D, hD⟩ : ∃ D, (decide (rightI lh) && decide (rightI lh)) = D := ⟨_, rfl⟩
  have hno : Hid (¬ (F = true ∧ D = true)) := by
    have : ¬ (F = true ∧ D = true) := fun hc => hbad (by
      have a3 := hD.trans hc.2
      rw [Bool.and_self, decide_eq_true_eq] at a3
      exact ⟨hc.1, a3⟩)
    exact this
  rw [hD] at c4
  have C4 := Lib.hid c4
  have HG := Lib.hid hG
  have hcA := hRa.cells hTa
  have hlA : (rawRow la).length = la.length * 20 := rawRow_length hTa
  have hT3 : Tens ((pm, pb) :: la) := fun x hx => by
    rcases List.mem_cons.1 hx with rfl | hx
    · exact ⟨h1, h2⟩
    · exact hTa x hx
  have hlen : ((pm, pb) :: la).length = 1 + la.length := by rw [List.length_cons]; omega
  have hfin : ∀ w (v : Value), w.ownsRow 0 25 20 v (1 + la.length) (rawCells (pm, pb) ++ rawRow la) → ∃ A c, v = .slice A (1 + la.length) c ∧ RawAt w A ((pm, pb) :: la) := fun w v how => by
    obtain ⟨A, c, rfl, _⟩ := own_shape how
    exact ⟨A, c, rfl, own_raws hT3 hlen how⟩
  have HFIN := Lib.hid hfin
  have HF := Lib.hid hF
  have HCA := Lib.hid hcA
  have HLA := Lib.hid hlA
  have HN0 := Lib.hid hn0
  have HP := Lib.hid (⟨h1, h2⟩ : (pm, pb).1.length = 10 ∧ (pm, pb).2.length = 10)
  have z1 : (Tryd.prog.info? 25).map (·.size) = some (pm.map iV ++ pb.map iV).length := by rw [List.length_append, List.length_map, List.length_map, h1, h2]; exact Tryd.szP
  have z2 : (Tryd.prog.info? 23).map (·.size) = some (lh.map iV).length := by rw [List.length_map, h3]; exact Tryd.szH
  have Z1 := Lib.hid z1
  have Z2 := Lib.hid z2
  obtain ⟨Ya, hYa⟩ : ∃ Y, Hid (rawRow la = Y) := ⟨_, rfl⟩
  have Y1a := Lib.hid (rawRow_one la)
  rw [hYa.out] at HCA HLA Y1a HFIN
  obtain ⟨n, hn⟩ : ∃ n, Hid (la.length = n) := ⟨_, rfl⟩
  rw [hn.out] at HF HLA HN0 HFIN hla
  rw [hn.out]
  clear c4 h1 h2 h3 hTa hRa hn0 hG hF hbad hD hcA hlA hT3 hlen hfin z1 z2
  go_enter Tryd.func9, Tryd.ntmps9
  go_wp2_with (with_reducible refine wpList_box (o := ⟨some 3, .box 25 (.tmp 0), _, _, _, _⟩) ?g3 25 (.tmp 0) ?o3 (.agg (pm.map iV ++ pb.map iV).toArray) (pm.map iV ++ pb.map iV) ?x3 ?c3 ?_)
  try (case g3 => rfl)
  try (case o3 => rfl)
  try (case x3 => rfl)
  try (case c3 => rfl)
  intro g3 w1 hg3 hs1 hb1 B3
  have hb1 := hb1.mono (Nat.le_of_eq hg3.out.symm)
  have hbe : Below w.heap.size w w1 := hb1
  clear hb1 hg3 hs1
  go_wp2_with (with_reducible refine wpList_box (o := ⟨some 5, .box 23 (.tmp 2), _, _, _, _⟩) ?g5 23 (.tmp 2) ?o5 (.agg (lh.map iV).toArray) (lh.map iV) ?x5 ?c5 ?_)
  try (case g5 => rfl)
  try (case o5 => rfl)
  try (case x5 => rfl)
  try (case c5 => rfl)
  intro g5 w2 hg5 hs2 hb2 B5
  have hb2 := hb2.mono (Nat.le_of_eq hg5.out.symm)
  have B3 := B3.next hb2 B3.lt
  have hbe := below_join hbe hb2
  clear hb2 hg5 hs2
  go_wp2_with fail
  (with_reducible refine (sanity_any _ (HG.out.next hbe)).mono ?_)
  rintro e w3 ⟨rfl, hb3⟩
  have B3 := B3.next hb3 B3.lt
  have B5 := B5.next hb3 B5.lt
  have hbe := below_join hbe hb3
  clear hb3
  have B3o := B3
  have B5o := B5
  have hbe0 := hbe
  go_wp2_with (first | (with_reducible refine wpList_getg (o := ⟨some 16, .load 25 (.tmp 3), _, _, _, _⟩) (by with_unfolding_all rfl) 25 (.tmp 3) (by with_unfolding_all rfl) g3 0 (by with_unfolding_all rfl) B3 (pm.map iV ++ pb.map iV) (cs_all _) _ (by exact Tryd.underlying25) (by with_unfolding_all rfl) (by (exact Z1.out)) ?_) | (with_reducible refine wpList_row1 (o := ⟨some 17, .buildSlice 31 1 #[(0, .tmp 16)], _, _, _, _⟩) (by with_unfolding_all rfl) (.tmp 16) (by with_unfolding_all rfl) (rawCells (pm, pb)) (by with_unfolding_all rfl) (rawCells_length HP.out) ?_))
  intro v0 w4 hb4 OW
  have B3 := B3.next hb4 B3.lt
  have B5 := B5.next hb4 B5.lt
  have hbe := below_join hbe hb4
  have hbx := hb4
  clear hb4
  have hbs := hbx.size
  go_wp2_with (first | (with_reducible refine wpList_appR _ (o := ⟨some 19, .call ⟨.builtin .append, #[.tmp 17, .tmp 18], #[31, 31]⟩, _, _, _, _⟩) (by with_unfolding_all rfl) (.tmp 17) (.tmp 18) (by with_unfolding_all rfl) w3.heap.size _ 1 (rawCells (pm, pb)) (by with_unfolding_all rfl) OW A0 n c0 Ya (by with_unfolding_all rfl) HLA.out (HCA.out.next hbe) Y1a.out HN0.out (by omega) hbs ?_))
  intro v1 w5 OW1 GR1
  have hbx := hbx.grown GR1 hbs (fun g hg => (OW.lt g hg).1)
  have hbe := below_join hbe0 hbx
  clear GR1 OW hbs
  have B3 := B3o.next hbx B3o.lt
  clear B3o
  have B5 := B5o.next hbx B5o.lt
  clear B5o
  clear hbx hbe0
  obtain ⟨AF, cF, rfl, HRW⟩ := HFIN.out _ _ (own_mono OW1 (fun _ _ => Nat.zero_le _))
  clear OW1
  go_wp2_with fail
  (with_reducible refine (HF.out _ _ _ HRW).mono ?_)
  rintro e w6 ⟨rfl, hb6⟩
  have B3 := B3.next hb6 B3.lt
  have B5 := B5.next hb6 B5.lt
  have hbe := below_join hbe hb6
  clear hb6
  clear HRW
  rcases F with _ | _
  · go_wp2
    go_ret
    exact ⟨rfl, hbe⟩
  · skip
    go_wp2_with (first | (with_reducible refine wpList_getg (o := ⟨some 23, .load 23 (.tmp 5), _, _, _, _⟩) (by with_unfolding_all rfl) 23 (.tmp 5) (by with_unfolding_all rfl) g5 0 (by with_unfolding_all rfl) B5 (lh.map iV) (cs_all _) _ (by exact Tryd.underlying23) (by with_unfolding_all rfl) (by (exact Z2.out)) ?_) | (with_reducible refine wpList_getg (o := ⟨some 24, .load 23 (.tmp 5), _, _, _, _⟩) (by with_unfolding_all rfl) 23 (.tmp 5) (by with_unfolding_all rfl) g5 0 (by with_unfolding_all rfl) B5 (lh.map iV) (cs_all _) _ (by exact Tryd.underlying23) (by with_unfolding_all rfl) (by (exact Z2.out)) ?_))
    (with_reducible refine (C4.out _).mono ?_)
    rintro e w7 ⟨rfl, hb7⟩
    have B3 := B3.next hb7 B3.lt
    have B5 := B5.next hb7 B5.lt
    have hbe := below_join hbe hb7
    clear hb7
    rcases D with _ | _
    · go_wp2
      go_ret
      exact ⟨rfl, hbe⟩
    · exact absurd (by refine ⟨?_, ?_⟩ <;> trivial) hno.out
set_option maxRecDepth 100000 in
set_option maxHeartbeats 25600000 in
theorem dex_good (A0 : Option Addr) (c0 : Nat) (la : List Pat) (p : Pat) (h : Nat → Bool) (w : World) (hoa : ∀ q ∈ la, q.ok) (hp : p.ok) (ha : PatsAt w A0 la) (hn0 : A0 = none → la.length = 0 ∧ c0 = 0) (hcap : la.length ≤ c0) (hla : 1 + la.length ≤ 9) (hcn : cnt (fixTo (p :: la) (1 + la.length)) 0 160 ≤ 12) (hG : GOk w) :
    Calls Tryd.prog 9 #[.agg p.cells.toArray, .slice A0 la.length c0, .agg (H h).toArray] w fun e w' => e = .returned (.bool true) ∧ Below w.heap.size w w' := by
  have HG := Lib.hid hG
  have HP := Lib.hid hp
  have hcA := ha.cellsAt
  have hlen : (p :: la).length = 1 + la.length := by rw [List.length_cons]; omega
  have hfin : ∀ w (v : Value), w.ownsRow 0 25 20 v (1 + la.length) (p.cells ++ patCells la) → ∃ A c, v = .slice A (1 + la.length) c ∧ PatsAt w A (p :: la) := fun w v how => by
    obtain ⟨A, c, rfl, _⟩ := own_shape how
    rw [show p.cells ++ patCells la = patCells (p :: la) from rfl, ← hlen] at how
    exact ⟨A, c, rfl, own_pats how⟩
  have hfew : ∀ A c w, PatsAt w A (p :: la) → Calls Tryd.prog 52 #[.slice A (1 + la.length) c, .int .i64 9] w fun e w' => e = .returned (.bool true) ∧ Below w.heap.size w w' := fun A c w hw => by
    have := rfew_pats A c (p :: la) 9 w (by rw [hlen]; omega) (by decide) (fun x hx => by
      rcases List.mem_cons.1 hx with rfl | hx
      · exact hp
      · exact hoa x hx) hw
    rw [hlen, decide_eq_true hla, decide_eq_true hcn] at this
    exact this
  have hcnt : ∀ (l : List Pat) (g : Nat → Bool), (l.countP fun q => decide (q.hit g)) = 0 ↔ ¬ Pat.inSome l g := fun l g => by
    rw [List.countP_eq_zero]
    constructor
    · rintro h ⟨q, hq, hh⟩
      exact h q hq (by simpa using hh)
    · intro h q hq hh
      exact h ⟨q, hq, by simpa using hh⟩
  obtain ⟨I, hI⟩ := bool_of (Pat.inSome la h)
  obtain ⟨x1, hx1⟩ : ∃ x : Int, (((la.countP fun q => decide (q.hit h) : Nat) : Int)) = x := ⟨_, rfl⟩
  have e1 : decide (x1 > 0) = I := by
    rw [← hx1]
    cases I
    · have hh : ¬ Pat.inSome la h := fun hc => Bool.noConfusion (hI.2 hc)
      rw [(hcnt la h).2 hh]
      exact decide_eq_false (by decide)
    · have : (la.countP fun q => decide (q.hit h)) ≠ 0 := fun hc => (hcnt la h).1 hc (hI.1 rfl)
      exact decide_eq_true (by omega)
  have c1' : ∀ w, PatsAt w A0 la → Calls Tryd.prog 70 #[.slice A0 la.length c0, .agg (H h).toArray] w fun e w' => e = .returned (.int .i64 x1) ∧ Below w.heap.size w w' := fun w hw => by
    have := rin_any A0 c0 la h w (by omega) hw
    rw [hx1] at this
    exact this
  obtain ⟨M, hM⟩ : ∃ M, decide (p.hit h) = M := ⟨_, rfl⟩
  have c2' := fun w => rmatch_m w p h hM
  have c3' := fun w hw => bigMinusAll_any c0 A0 la p w hoa hp (by omega) hw
  have c4' := fun w hw => sum_any c0 A0 la w hoa (by omega) hw
  obtain ⟨n, hn⟩ : ∃ n, la.length = n := ⟨_, rfl⟩
  -- what is left, and the sum: how often they match the head
  have hcl := count_left p h la la.length (Nat.le_refl _)
  rw [List.take_length] at hcl
  have hcs := count_sum la h la.length (Nat.le_refl _)
  rw [List.take_length] at hcs
  obtain ⟨L, hL⟩ : ∃ L, leftTo p la la.length = L := ⟨_, rfl⟩
  obtain ⟨U, hU⟩ : ∃ U, sumTo la la.length = U := ⟨_, rfl⟩
  rw [hL] at hcl
  rw [hU] at hcs
  have hMI : ∀ (b : Bool), (b = (M && !I)) → ∀ (A : Option Addr) (c : Nat) w, L.length ≤ 4000 → PatsAt w A L → Calls Tryd.prog 70 #[.slice A L.length c, .agg (H h).toArray] w fun e w' => e = .returned (.int .i64 (if b then 1 else 0)) ∧ Below w.heap.size w w' := fun b hb A c w hl hw => by
    have := rin_any A c L h w (by omega) hw
    subst hb
    by_cases hc : p.hit h ∧ ¬ Pat.inSome la h
    · rw [hcl.1 hc] at this
      rw [← hM, decide_eq_true hc.1, show I = false from Bool.eq_false_iff.2 (fun hIv => hc.2 (hI.1 hIv))]
      exact this
    · rw [hcl.2 hc] at this
      have hz : (M && !I) = false := by
        rw [Bool.eq_false_iff]
        intro hh
        rw [Bool.and_eq_true] at hh
        apply hc
        refine ⟨of_decide_eq_true (hM.trans hh.1), fun hin => ?_⟩
        rw [hI.2 hin] at hh
        exact Bool.noConfusion hh.2
      rw [hz]
      exact this
  have hUI : ∀ (A : Option Addr) (c : Nat) w, U.length ≤ 4000 → PatsAt w A U → Calls Tryd.prog 70 #[.slice A U.length c, .agg (H h).toArray] w fun e w' => e = .returned (.int .i64 (if I then 1 else 0)) ∧ Below w.heap.size w w' := fun A c w hl hw => by
    have := rin_any A c U h w (by omega) hw
    by_cases hc : Pat.inSome la h
    · rw [hcs.1 hc] at this
      rw [hI.2 hc]
      exact this
    · rw [hcs.2 hc] at this
      rw [show I = false from Bool.eq_false_iff.2 (fun hIv => hc (hI.1 hIv))]
      exact this
  have hlA : (patCells la).length = n * 20 := by rw [patCells_length, hn]
  have y1a := patCells_one la
  obtain ⟨Ya, hYa⟩ : ∃ Y, patCells la = Y := ⟨_, rfl⟩
  rw [hYa] at hcA hlA y1a hfin
  rw [hn] at hfin hfew hn0 c1' c3' c4' hla hcap
  have hget : 0 < n → ∃ q, la[0]? = some q := fun h0 => ⟨_, List.getElem?_eq_getElem (by omega)⟩
  rw [hn]
  have PA := ha
  have HFIN := Lib.hid hfin
  have HF := Lib.hid hfew
  have HCA := Lib.hid hcA
  have HLA := Lib.hid hlA
  have Y1a := Lib.hid y1a
  have HN0 := Lib.hid hn0
  have C1 := Lib.hid c1'
  have C2 := Lib.hid c2'
  have C3 := Lib.hid c3'
  have C4 := Lib.hid c4'
  have HMI := Lib.hid hMI
  have HUI := Lib.hid hUI
  have HGET := Lib.hid hget
  have HOA := Lib.hid hoa
  have HM := Lib.hid hM
  have HL := Lib.hid hL
  have HU := Lib.hid hU
  have HLN := Lib.hid hn
  have e3 : decide (0 < x1) = I := e1
  clear hfin hfew hcA hlA y1a hn0 c1' c2' c3' c4' hMI hUI hget hoa hM hL hU hn hYa hlen hp ha hI hx1 hcnt hcl hcs hG hcn
  go_enter Tryd.func9, Tryd.ntmps9
  go_wp2_with (with_reducible refine wpList_box (o := ⟨some 3, .box 25 (.tmp 0), _, _, _, _⟩) ?g3 25 (.tmp 0) ?o3 (.agg p.cells.toArray) p.cells ?x3 ?c3 ?_)
  try (case g3 => rfl)
  try (case o3 => rfl)
  try (case x3 => rfl)
  try (case c3 => rfl)
  intro g3 w1 hg3 hs1 hb1 B3
  have hb1 := hb1.mono (Nat.le_of_eq hg3.out.symm)
  have PA := PA.next hb1
  have hbe : Below w.heap.size w w1 := hb1
  clear hb1 hg3 hs1
  go_wp2_with (with_reducible refine wpList_box (o := ⟨some 5, .box 23 (.tmp 2), _, _, _, _⟩) ?g5 23 (.tmp 2) ?o5 (.agg (H h).toArray) (H h) ?x5 ?c5 ?_)
  try (case g5 => rfl)
  try (case o5 => rfl)
  try (case x5 => rfl)
  try (case c5 => rfl)
  intro g5 w2 hg5 hs2 hb2 B5
  have hb2 := hb2.mono (Nat.le_of_eq hg5.out.symm)
  have PA := PA.next hb2
  have B3 := B3.next hb2 B3.lt
  have hbe := below_join hbe hb2
  clear hb2 hg5 hs2
  go_wp2_with fail
  (with_reducible refine (sanity_any _ (HG.out.next hbe)).mono ?_)
  rintro e w3 ⟨rfl, hb3⟩
  have PA := PA.next hb3
  have B3 := B3.next hb3 B3.lt
  have B5 := B5.next hb3 B5.lt
  have hbe := below_join hbe hb3
  clear hb3
  have PAo := PA
  have B3o := B3
  have B5o := B5
  have hbe0 := hbe
  go_wp2_with (first | (with_reducible refine wpList_getg (o := ⟨some 16, .load 25 (.tmp 3), _, _, _, _⟩) (by with_unfolding_all rfl) 25 (.tmp 3) (by with_unfolding_all rfl) g3 0 (by with_unfolding_all rfl) B3 p.cells (cs_all _) _ (by exact Tryd.underlying25) (by with_unfolding_all rfl) (by (rw [Pat.cells_length]; exact Tryd.szP)) ?_) | (with_reducible refine wpList_row1 (o := ⟨some 17, .buildSlice 31 1 #[(0, .tmp 16)], _, _, _, _⟩) (by with_unfolding_all rfl) (.tmp 16) (by with_unfolding_all rfl) p.cells (by with_unfolding_all rfl) (Pat.cells_length p) ?_))
  intro v0 w4 hb4 OW
  have PA := PA.next hb4
  have B3 := B3.next hb4 B3.lt
  have B5 := B5.next hb4 B5.lt
  have hbe := below_join hbe hb4
  have hbx := hb4
  clear hb4
  have hbs := hbx.size
  go_wp2_with (first | (with_reducible refine wpList_appR _ (o := ⟨some 19, .call ⟨.builtin .append, #[.tmp 17, .tmp 18], #[31, 31]⟩, _, _, _, _⟩) (by with_unfolding_all rfl) (.tmp 17) (.tmp 18) (by with_unfolding_all rfl) w3.heap.size _ 1 p.cells (by with_unfolding_all rfl) OW A0 n c0 Ya (by with_unfolding_all rfl) HLA.out (HCA.out.next hbe) Y1a.out HN0.out (by omega) hbs ?_))
  intro v1 w5 OW1 GR1
  have hbx := hbx.grown GR1 hbs (fun g hg => (OW.lt g hg).1)
  have hbe := below_join hbe0 hbx
  clear GR1 OW hbs
  have PA := PAo.next hbx
  clear PAo
  have B3 := B3o.next hbx B3o.lt
  clear B3o
  have B5 := B5o.next hbx B5o.lt
  clear B5o
  clear hbx hbe0
  obtain ⟨AF, cF, rfl, HRW⟩ := HFIN.out _ _ (own_mono OW1 (fun _ _ => Nat.zero_le _))
  clear OW1
  go_wp2_with fail
  (with_reducible refine (HF.out _ _ _ HRW).mono ?_)
  rintro e w6 ⟨rfl, hb6⟩
  have PA := PA.next hb6
  have B3 := B3.next hb6 B3.lt
  have B5 := B5.next hb6 B5.lt
  have hbe := below_join hbe hb6
  clear hb6
  clear HRW
  go_wp2_with (first | (with_reducible refine wpList_getg (o := ⟨some 23, .load 23 (.tmp 5), _, _, _, _⟩) (by with_unfolding_all rfl) 23 (.tmp 5) (by with_unfolding_all rfl) g5 0 (by with_unfolding_all rfl) B5 (H h) (cs_all _) _ (by exact Tryd.underlying23) (by with_unfolding_all rfl) (by (rw [H_length]; exact Tryd.szH)) ?_) | (with_reducible refine wpList_getg (o := ⟨some 24, .load 23 (.tmp 5), _, _, _, _⟩) (by with_unfolding_all rfl) 23 (.tmp 5) (by with_unfolding_all rfl) g5 0 (by with_unfolding_all rfl) B5 (H h) (cs_all _) _ (by exact Tryd.underlying23) (by with_unfolding_all rfl) (by (rw [H_length]; exact Tryd.szH)) ?_))
  (with_reducible refine (heads_h _ _ _).mono ?_)
  rintro e w7 ⟨rfl, hb7⟩
  have PA := PA.next hb7
  have B3 := B3.next hb7 B3.lt
  have B5 := B5.next hb7 B5.lt
  have hbe := below_join hbe hb7
  clear hb7
  go_wp2_with (first | (with_reducible refine wpList_getg (o := ⟨some 30, .load 23 (.tmp 5), _, _, _, _⟩) (by with_unfolding_all rfl) 23 (.tmp 5) (by with_unfolding_all rfl) g5 0 (by with_unfolding_all rfl) B5 (H h) (cs_all _) _ (by exact Tryd.underlying23) (by with_unfolding_all rfl) (by (rw [H_length]; exact Tryd.szH)) ?_))
  (with_reducible refine (C1.out _ PA).mono ?_)
  rintro e w8 ⟨rfl, hb8⟩
  have PA := PA.next hb8
  have B3 := B3.next hb8 B3.lt
  have B5 := B5.next hb8 B5.lt
  have hbe := below_join hbe hb8
  clear hb8
  go_wp2_with (first | (with_reducible refine wpList_getg (o := ⟨some 33, .load 25 (.tmp 3), _, _, _, _⟩) (by with_unfolding_all rfl) 25 (.tmp 3) (by with_unfolding_all rfl) g3 0 (by with_unfolding_all rfl) B3 p.cells (cs_all _) _ (by exact Tryd.underlying25) (by with_unfolding_all rfl) (by (rw [Pat.cells_length]; exact Tryd.szP)) ?_) | (with_reducible refine wpList_getg (o := ⟨some 34, .load 23 (.tmp 5), _, _, _, _⟩) (by with_unfolding_all rfl) 23 (.tmp 5) (by with_unfolding_all rfl) g5 0 (by with_unfolding_all rfl) B5 (H h) (cs_all _) _ (by exact Tryd.underlying23) (by with_unfolding_all rfl) (by (rw [H_length]; exact Tryd.szH)) ?_))
  (with_reducible refine (C2.out _).mono ?_)
  rintro e w9 ⟨rfl, hb9⟩
  have PA := PA.next hb9
  have B3 := B3.next hb9 B3.lt
  have B5 := B5.next hb9 B5.lt
  have hbe := below_join hbe hb9
  clear hb9
  have hbk0 := hbe.size
  go_wp2_with (first | (with_reducible refine wpList_getg (o := ⟨some 37, .load 25 (.tmp 3), _, _, _, _⟩) (by with_unfolding_all rfl) 25 (.tmp 3) (by with_unfolding_all rfl) g3 0 (by with_unfolding_all rfl) B3 p.cells (cs_all _) _ (by exact Tryd.underlying25) (by with_unfolding_all rfl) (by (rw [Pat.cells_length]; exact Tryd.szP)) ?_))
  (with_reducible refine (C3.out _ PA).mono ?_)
  rintro e w10 ⟨hR1, hb10⟩
  have PA := PA.next hb10
  have B3 := B3.next hb10 B3.lt
  have B5 := B5.next hb10 B5.lt
  have hbe := below_join hbe hb10
  clear hb10
  rcases hR1 with ⟨hf1, A1, c1, hE1, O1⟩ | ⟨hnf1, hE1⟩
  rotate_left
  · subst hE1
    go_wp2_with fail
    (with_reducible refine (C4.out _ PA).mono ?_)
    rintro e w11 ⟨hR2, hb11⟩
    have PA := PA.next hb11
    have B3 := B3.next hb11 B3.lt
    have B5 := B5.next hb11 B5.lt
    have hbe := below_join hbe hb11
    clear hb11
    rcases hR2 with ⟨_, A2, c2, hE2, _⟩ | ⟨_, hE2⟩
    · subst hE2
      go_wp2
      go_ret
      exact ⟨rfl, hbe⟩
    · subst hE2
      go_wp2
      go_ret
      exact ⟨rfl, hbe⟩
  · subst hE1
    have hl1 := hf1 la.length (Nat.le_refl _)
    rw [HL.out] at hl1 O1
    rw [HL.out]
    have PL : PatsAt _ A1 L := own_pats O1
    have hl1' : L.length ≤ 4000 := by omega
    have HL1 := Lib.hid hl1'
    clear hf1 O1 hl1 hl1'
    go_wp2_with fail
    (with_reducible refine (C4.out _ PA).mono ?_)
    rintro e w11 ⟨hR2, hb11⟩
    have PA := PA.next hb11
    have B3 := B3.next hb11 B3.lt
    have B5 := B5.next hb11 B5.lt
    have PL := PL.next hb11
    have hbe := below_join hbe hb11
    clear hb11
    rcases hR2 with ⟨hf2, A2, c2, hE2, O2⟩ | ⟨_, hE2⟩
    rotate_left
    · subst hE2
      go_wp2
      go_ret
      exact ⟨rfl, hbe⟩
    · subst hE2
      have hl2 := sum_le la.length hf2
      rw [HU.out] at hl2 O2
      rw [HU.out]
      have PU : PatsAt _ A2 U := own_pats O2
      have hl2' : U.length ≤ 4000 := by omega
      have HU1 := Lib.hid hl2'
      clear hf2 O2 hl2 hl2'
      obtain ⟨nL, hnL⟩ : ∃ k, L.length = k := ⟨_, rfl⟩
      obtain ⟨nU, hnU⟩ : ∃ k, U.length = k := ⟨_, rfl⟩
      rw [hnL] at HL1 HMI
      rw [hnU] at HU1 HUI
      rw [hnL, hnU]
      clear hnL hnU
      rcases M with _ | _
      · skip
        have f1 := HMI.out false rfl A1 c1
        have f2 := HUI.out A2 c2
        have k1 := fun w => count1_any false w
        have k2 := fun w => count1_any I w
        obtain ⟨y1, hy1⟩ : ∃ y : Int, (if false then (1 : Int) else 0) = y := ⟨_, rfl⟩
        obtain ⟨y2, hy2⟩ : ∃ y : Int, (if I then (1 : Int) else 0) = y := ⟨_, rfl⟩
        rw [hy1] at f1 k1
        rw [hy2] at f2 k2
        have F1 := Lib.hid f1
        have K1 := Lib.hid k1
        have F2 := Lib.hid f2
        have K2 := Lib.hid k2
        clear HMI HUI f1 f2 k1 k2 hy1 hy2
        go_wp2_with (first | (with_reducible refine wpList_getg (o := ⟨some 62, .load 23 (.tmp 5), _, _, _, _⟩) (by with_unfolding_all rfl) 23 (.tmp 5) (by with_unfolding_all rfl) g5 0 (by with_unfolding_all rfl) B5 (H h) (cs_all _) _ (by exact Tryd.underlying23) (by with_unfolding_all rfl) (by (rw [H_length]; exact Tryd.szH)) ?_))
        (with_reducible refine (F1.out _ HL1.out PL).mono ?_)
        rintro e w12 ⟨rfl, hb12⟩
        have PA := PA.next hb12
        have B3 := B3.next hb12 B3.lt
        have B5 := B5.next hb12 B5.lt
        have PL := PL.next hb12
        have PU := PU.next hb12
        have hbe := below_join hbe hb12
        clear hb12
        go_wp2_with fail
        (with_reducible refine (K1.out _).mono ?_)
        rintro e w13 ⟨rfl, hb13⟩
        have PA := PA.next hb13
        have B3 := B3.next hb13 B3.lt
        have B5 := B5.next hb13 B5.lt
        have PL := PL.next hb13
        have PU := PU.next hb13
        have hbe := below_join hbe hb13
        clear hb13
        go_wp2_with (first | (with_reducible refine wpList_getg (o := ⟨some 74, .load 23 (.tmp 5), _, _, _, _⟩) (by with_unfolding_all rfl) 23 (.tmp 5) (by with_unfolding_all rfl) g5 0 (by with_unfolding_all rfl) B5 (H h) (cs_all _) _ (by exact Tryd.underlying23) (by with_unfolding_all rfl) (by (rw [H_length]; exact Tryd.szH)) ?_))
        (with_reducible refine (F2.out _ HU1.out PU).mono ?_)
        rintro e w14 ⟨rfl, hb14⟩
        have PA := PA.next hb14
        have B3 := B3.next hb14 B3.lt
        have B5 := B5.next hb14 B5.lt
        have PL := PL.next hb14
        have PU := PU.next hb14
        have hbe := below_join hbe hb14
        clear hb14
        go_wp2_with fail
        (with_reducible refine (K2.out _).mono ?_)
        rintro e w15 ⟨rfl, hb15⟩
        have PA := PA.next hb15
        have B3 := B3.next hb15 B3.lt
        have B5 := B5.next hb15 B5.lt
        have PL := PL.next hb15
        have PU := PU.next hb15
        have hbe := below_join hbe hb15
        clear hb15
        by_cases hn0 : n = 0
        · subst hn0
          go_wp2
          go_ret
          exact ⟨rfl, hbe⟩
        · have hnz : ((n : Int) == 0) = false := beq_eq_false_iff_ne.2 (by omega)
          have hnd : decide ((n : Int) = 0) = false := decide_eq_false (by omega)
          have hni : (0 : Int) < (n : Int) := by omega
          have hn1 : ¬ ((n : Int) = 0) := by omega
          have hnp : 0 < n := by omega
          have hnc : 1 ≤ c0 := by omega
          obtain ⟨q, hq⟩ := HGET.out (by omega)
          have HQ := Lib.hid hq
          have HQO := Lib.hid (HOA.out q (List.mem_of_getElem? hq))
          obtain ⟨ga, oa, hA0, hca⟩ := PA 0 q hq
          subst hA0
          rw [Nat.zero_mul, Nat.add_zero] at hca
          clear hq
          have zq : (Tryd.prog.info? 25).map (·.size) = some q.cells.length := by rw [Pat.cells_length]; exact Tryd.szP
          have hunP := Tryd.underlying25
          have hmn := fun w => minus_any p q w HP.out
          have HMN := Lib.hid hmn
          clear hmn
          go_wp2
          have hdd := below_drew w15
          have K3_0 : Hid (∀ w', Below w15.heap.size w15 w' → w'.rangeAt g3 0 p.cells) := (fun w' h => blk_range (B3.next h B3.lt) : ∀ w', Below w15.heap.size w15 w' → w'.rangeAt g3 0 p.cells)
          have Z3_0 : (Tryd.prog.info? 25).map (·.size) = some p.cells.length := by (rw [Pat.cells_length]; exact Tryd.szP)
          have KQ : Hid (∀ w', Below w15.heap.size w15 w' → w'.rangeAt ga oa q.cells) := (fun w' hw v u hu => by rw [hw.cell (World.block_lt_of_cell? w15 _ (hca v u hu))]; exact hca v u hu : ∀ w', Below w15.heap.size w15 w' → w'.rangeAt ga oa q.cells)
          refine wp_region_held_drew (S := fun w' => Below w15.heap.size w15 w') (by kernel_rfl) hdd (fun hHeld => ?_)
          generalize w15.drew = wd at hdd hHeld ⊢
          refine' wpAnyH_take (i := 0) (v := _) rfl (by kernel_rfl) (by kernel_rfl) (by kernel_rfl) (fun _ _ _ h => h) (yieldsIf_load_mid (by rfl) _ _ (by rfl) _ _ (by rfl) _ _ ?Saa_0 ?uaa_0 ?daa_0 ?iaa_0) (by assumption) ?raa_0
          case Saa_0 => exact (by intro w h; exact K3_0.out _ h)
          case uaa_0 => exact Tryd.underlying25
          case daa_0 => rfl
          case iaa_0 => exact Z3_0
          (try simp only [List.getElem_toArray, List.getElem_cons_zero, Act.put, List.setIfInBounds_toArray, List.set_cons_zero, List.set_cons_succ])
          refine wpAnyH_take (i := 1) (v := ?vaa_1) rfl (by kernel_rfl) (by kernel_rfl) (by kernel_rfl) (fun _ _ _ h => h) (Or.inl ⟨by rfl, ?yaa_1⟩) (by assumption) ?raa_1
          case yaa_1 => intro w hSw; (try dsimp only at hSw); go_simp <;> (try with_reducible rfl)
          (try simp only [List.getElem_toArray, List.getElem_cons_succ, List.getElem_cons_zero, Act.put, List.setIfInBounds_toArray, List.set_cons_zero, List.set_cons_succ])
          refine wpAnyH_take (i := 2) (v := ?vaa_2) rfl (by kernel_rfl) (by kernel_rfl) (by kernel_rfl) (fun _ _ _ h => h) (Or.inl ⟨by rfl, ?yaa_2⟩) (by assumption) ?raa_2
          case yaa_2 => intro w hSw; (try dsimp only at hSw); go_simp <;> (try with_reducible rfl)
          (try simp only [List.getElem_toArray, List.getElem_cons_succ, List.getElem_cons_zero, Act.put, List.setIfInBounds_toArray, List.set_cons_zero, List.set_cons_succ])
          refine' wpAnyH_take (i := 3) (v := _) rfl (by kernel_rfl) (by kernel_rfl) (by kernel_rfl) (fun _ _ _ h => h) (yieldsIf_load_mid (by rfl) _ _ (by rfl) _ _ (by rfl) _ _ ?Saa_3 ?uaa_3 ?daa_3 ?iaa_3) (by assumption) ?raa_3
          case Saa_3 => exact (by intro w h; exact KQ.out _ h)
          case uaa_3 => exact hunP
          case daa_3 => rfl
          case iaa_3 => exact zq
          (try simp only [List.getElem_toArray, List.getElem_cons_succ, List.getElem_cons_zero, Act.put, List.setIfInBounds_toArray, List.set_cons_zero, List.set_cons_succ])
          refine wpAnyH_ready (rs := [4]) (by kernel_rfl) (by simp) ?_
          refine AllReadyH.cons rfl (fun K hK => ?_) AllReadyH.nil
          go_simp
          go_wp2_with fail
          (with_reducible refine (HMN.out _).mono ?_)
          rintro e w16 ⟨vm, rfl, OM, hb16⟩
          have hk16 := below_join hdd hb16
          refine hK.out _ _ hk16 (fun hHeld => ?_)
          clear hK K hb16 hdd
          refine wpAnyH_take (i := 5) (v := ?vaa_5) rfl (by kernel_rfl) (by kernel_rfl) (by kernel_rfl) (fun _ _ _ h => h) (Or.inl ⟨by rfl, ?yaa_5⟩) (by assumption) ?raa_5
          case yaa_5 => intro w hSw; (try dsimp only at hSw); go_simp <;> (try with_reducible rfl)
          (try simp only [List.getElem_toArray, List.getElem_cons_succ, List.getElem_cons_zero, Act.put, List.setIfInBounds_toArray, List.set_cons_zero, List.set_cons_succ])
          refine wpAnyH_done (by kernel_rfl) ?_ _
          clear hHeld K3_0 Z3_0 KQ
          have PA := PA.next hk16
          have B3 := B3.next hk16 B3.lt
          have B5 := B5.next hk16 B5.lt
          have PL := PL.next hk16
          have PU := PU.next hk16
          have hbe := below_join hbe hk16
          clear hk16
          obtain ⟨Am, cm, rfl, _⟩ := own_shape OM
          have PM : PatsAt _ Am (p.minus q) := own_pats OM
          clear OM
          have hmf := minus_few p q
          have hcm := Pat.count_minus (p := p) (q := q) h
          obtain ⟨D, hD⟩ : ∃ D, p.minus q = D := ⟨_, rfl⟩
          rw [hD] at hmf hcm PM
          rw [hD]
          obtain ⟨nd, hnD⟩ : ∃ k, D.length = k := ⟨_, rfl⟩
          rw [hnD] at hmf
          rw [hnD]
          obtain ⟨Qb, hQb⟩ : ∃ Q, decide (q.hit h) = Q := ⟨_, rfl⟩
          have hrm := fun w => rmatch_m w q h hQb
          have HRM := Lib.hid hrm
          have hrf := fun w (hw : PatsAt w (some ⟨ga, oa, none⟩) [q]) => rfixed_any (some ⟨ga, oa, none⟩) c0 [q] w (by show 1 ≤ _; decide) hw
          obtain ⟨f, hf⟩ : ∃ f : Int, ((cnt (fixTo [q] [q].length) 0 160 : Nat) : Int) = f := ⟨_, rfl⟩
          rw [hf] at hrf
          have HRF : Hid (∀ w, PatsAt w (some ⟨ga, oa, none⟩) [q] → Calls Tryd.prog 72 #[.slice (some ⟨ga, oa, none⟩) 1 c0] w fun e w' => e = .returned (.int .i64 f) ∧ Below w.heap.size w w') := hrf
          have hfl : (nd : Int) ≤ max 1 f := by rw [← hf]; show (nd : Int) ≤ max 1 ((cnt (fixTo [q] 1) 0 160 : Nat) : Int); omega
          have P1 : ∀ w', PatsAt w' (some ⟨ga, oa, none⟩) la → PatsAt w' (some ⟨ga, oa, none⟩) [q] := fun w' hw k y hy => by
            cases k with
            | zero =>
              have e : q = y := by simpa using hy
              subst e
              exact hw 0 q HQ.out
            | succ k => cases hy
          have HP1 := Lib.hid P1
          have hc1 : (1 : Int) ≤ (c0 : Int) := by omega
          have hcin : ∀ (b : Bool), (p.hit h ∧ ¬ q.hit h ↔ b = true) → ∀ w, PatsAt w Am D → Calls Tryd.prog 70 #[.slice Am nd cm, .agg (H h).toArray] w fun e w' => e = .returned (.int .i64 (if b then 1 else 0)) ∧ Below w.heap.size w w' := fun b hb w hw => by
            have := rin_any Am cm D h w (by rw [hnD]; have h160 := minus_length p q; rw [hD, hnD] at h160; omega) hw
            rw [hnD] at this
            by_cases hc : p.hit h ∧ ¬ q.hit h
            · rw [hcm, if_pos hc] at this; rw [hb.1 hc]; exact this
            · rw [hcm, if_neg hc] at this; rw [show b = false from Bool.eq_false_iff.2 (fun hbv => hc (hb.2 hbv))]; exact this
          have HCIN := Lib.hid hcin
          have HQB := Lib.hid hQb
          clear hmf hcm hrm hrf hf P1 hcin hD hnD hQb
          obtain ⟨gc, oc, ec, hca⟩ := PA 0 q HQ.out
          injection ec with ec
          injection ec with ec1 ec2 _
          subst ec1 ec2
          rw [Nat.zero_mul, Nat.add_zero] at hca
          have G1 := Lib.hid (HCIN.out false ⟨fun hc => absurd hc.1 (of_decide_eq_false HM.out), fun hc => Bool.noConfusion hc⟩)
          clear HCIN
          go_wp2
          have hdd := below_drew w16
          have K5_0 : Hid (∀ w', Below w16.heap.size w16 w' → w'.rangeAt g5 0 (H h)) := (fun w' h => blk_range (B5.next h B5.lt) : ∀ w', Below w16.heap.size w16 w' → w'.rangeAt g5 0 (H h))
          have Z5_0 : (Tryd.prog.info? 23).map (·.size) = some (H h).length := by (rw [H_length]; exact Tryd.szH)
          have KQ : Hid (∀ w', Below w16.heap.size w16 w' → w'.rangeAt ga oa q.cells) := (fun w' hw v u hu => by rw [hw.cell (World.block_lt_of_cell? w16 _ (hca v u hu))]; exact hca v u hu : ∀ w', Below w16.heap.size w16 w' → w'.rangeAt ga oa q.cells)
          refine wp_region_held_drew (S := fun w' => Below w16.heap.size w16 w') (by kernel_rfl) hdd (fun hHeld => ?_)
          generalize w16.drew = wd at hdd hHeld ⊢
          refine wpAnyH_take (i := 0) (v := ?vab_0) rfl (by kernel_rfl) (by kernel_rfl) (by kernel_rfl) (fun _ _ _ h => h) (Or.inl ⟨by rfl, ?yab_0⟩) (by assumption) ?rab_0
          case yab_0 => intro w hSw; (try dsimp only at hSw); go_simp <;> (try with_reducible rfl)
          (try simp only [List.getElem_toArray, List.getElem_cons_zero, Act.put, List.setIfInBounds_toArray, List.set_cons_zero, List.set_cons_succ])
          refine wpAnyH_take (i := 1) (v := ?vab_1) rfl (by kernel_rfl) (by kernel_rfl) (by kernel_rfl) (fun _ _ _ h => h) (Or.inl ⟨by rfl, ?yab_1⟩) (by assumption) ?rab_1
          case yab_1 => intro w hSw; (try dsimp only at hSw); go_simp <;> (try with_reducible rfl)
          (try simp only [List.getElem_toArray, List.getElem_cons_succ, List.getElem_cons_zero, Act.put, List.setIfInBounds_toArray, List.set_cons_zero, List.set_cons_succ])
          refine wpAnyH_take (i := 2) (v := ?vab_2) rfl (by kernel_rfl) (by kernel_rfl) (by kernel_rfl) (fun _ _ _ h => h) (Or.inl ⟨by rfl, ?yab_2⟩) (by assumption) ?rab_2
          case yab_2 => intro w hSw; (try dsimp only at hSw); go_simp <;> (try with_reducible rfl)
          (try simp only [List.getElem_toArray, List.getElem_cons_succ, List.getElem_cons_zero, Act.put, List.setIfInBounds_toArray, List.set_cons_zero, List.set_cons_succ])
          refine' wpAnyH_take (i := 3) (v := _) rfl (by kernel_rfl) (by kernel_rfl) (by kernel_rfl) (fun _ _ _ h => h) (yieldsIf_load_mid (by rfl) _ _ (by rfl) _ _ (by rfl) _ _ ?Sab_3 ?uab_3 ?dab_3 ?iab_3) (by assumption) ?rab_3
          case Sab_3 => exact (by intro w h; exact K5_0.out _ h)
          case uab_3 => exact Tryd.underlying23
          case dab_3 => rfl
          case iab_3 => exact Z5_0
          (try simp only [List.getElem_toArray, List.getElem_cons_succ, List.getElem_cons_zero, Act.put, List.setIfInBounds_toArray, List.set_cons_zero, List.set_cons_succ])
          refine wpAnyH_take (i := 5) (v := ?vab_5) rfl (by kernel_rfl) (by kernel_rfl) (by kernel_rfl) (fun _ _ _ h => h) (Or.inl ⟨by rfl, ?yab_5⟩) (by assumption) ?rab_5
          case yab_5 => intro w hSw; (try dsimp only at hSw); go_simp <;> (try with_reducible rfl)
          (try simp only [List.getElem_toArray, List.getElem_cons_succ, List.getElem_cons_zero, Act.put, List.setIfInBounds_toArray, List.set_cons_zero, List.set_cons_succ])
          refine wpAnyH_ready (rs := [4]) (by kernel_rfl) (by simp) ?_
          refine AllReadyH.cons rfl (fun K hK => ?_) AllReadyH.nil
          go_simp
          go_wp2_with fail
          (with_reducible refine (G1.out _ (PM.next hdd)).mono ?_)
          rintro e w17 ⟨rfl, hb17⟩
          have hk17 := below_join hdd hb17
          refine hK.out _ _ hk17 (fun hHeld => ?_)
          clear hK K hb17 hdd
          refine wpAnyH_take (i := 6) (v := ?vab_6) rfl (by kernel_rfl) (by kernel_rfl) (by kernel_rfl) (fun _ _ _ h => h) (Or.inl ⟨by rfl, ?yab_6⟩) (by assumption) ?rab_6
          case yab_6 => intro w hSw; (try dsimp only at hSw); go_simp <;> (try with_reducible rfl)
          (try simp only [List.getElem_toArray, List.getElem_cons_succ, List.getElem_cons_zero, Act.put, List.setIfInBounds_toArray, List.set_cons_zero, List.set_cons_succ])
          refine wpAnyH_take (i := 7) (v := undef) rfl (by kernel_rfl) (by kernel_rfl) (by kernel_rfl) (fun _ _ _ h => h) (Or.inr ⟨by rfl, rfl⟩) (by assumption) ?rab_7
          (try simp only [List.getElem_toArray, List.getElem_cons_succ, List.getElem_cons_zero, Act.put, List.setIfInBounds_toArray, List.set_cons_zero, List.set_cons_succ])
          refine wpAnyH_take (i := 8) (v := undef) rfl (by kernel_rfl) (by kernel_rfl) (by kernel_rfl) (fun _ _ _ h => h) (Or.inr ⟨by rfl, rfl⟩) (by assumption) ?rab_8
          (try simp only [List.getElem_toArray, List.getElem_cons_succ, List.getElem_cons_zero, Act.put, List.setIfInBounds_toArray, List.set_cons_zero, List.set_cons_succ])
          refine wpAnyH_take (i := 9) (v := undef) rfl (by kernel_rfl) (by kernel_rfl) (by kernel_rfl) (fun _ _ _ h => h) (Or.inr ⟨by rfl, rfl⟩) (by assumption) ?rab_9
          (try simp only [List.getElem_toArray, List.getElem_cons_succ, List.getElem_cons_zero, Act.put, List.setIfInBounds_toArray, List.set_cons_zero, List.set_cons_succ])
          refine wpAnyH_take (i := 10) (v := undef) rfl (by kernel_rfl) (by kernel_rfl) (by kernel_rfl) (fun _ _ _ h => h) (Or.inr ⟨by rfl, rfl⟩) (by assumption) ?rab_10
          (try simp only [List.getElem_toArray, List.getElem_cons_succ, List.getElem_cons_zero, Act.put, List.setIfInBounds_toArray, List.set_cons_zero, List.set_cons_succ])
          refine wpAnyH_take (i := 11) (v := undef) rfl (by kernel_rfl) (by kernel_rfl) (by kernel_rfl) (fun _ _ _ h => h) (Or.inr ⟨by rfl, rfl⟩) (by assumption) ?rab_11
          (try simp only [List.getElem_toArray, List.getElem_cons_succ, List.getElem_cons_zero, Act.put, List.setIfInBounds_toArray, List.set_cons_zero, List.set_cons_succ])
          refine wpAnyH_take (i := 12) (v := undef) rfl (by kernel_rfl) (by kernel_rfl) (by kernel_rfl) (fun _ _ _ h => h) (Or.inr ⟨by rfl, rfl⟩) (by assumption) ?rab_12
          (try simp only [List.getElem_toArray, List.getElem_cons_succ, List.getElem_cons_zero, Act.put, List.setIfInBounds_toArray, List.set_cons_zero, List.set_cons_succ])
          refine wpAnyH_take (i := 13) (v := ?vab_13) rfl (by kernel_rfl) (by kernel_rfl) (by kernel_rfl) (fun _ _ _ h => h) (Or.inl ⟨by rfl, ?yab_13⟩) (by assumption) ?rab_13
          case yab_13 => intro w hSw; (try dsimp only at hSw); go_simp <;> (try with_reducible rfl)
          (try simp only [List.getElem_toArray, List.getElem_cons_succ, List.getElem_cons_zero, Act.put, List.setIfInBounds_toArray, List.set_cons_zero, List.set_cons_succ])
          refine wpAnyH_ready (rs := [14]) (by kernel_rfl) (by simp) ?_
          refine AllReadyH.cons rfl (fun K hK => ?_) AllReadyH.nil
          go_simp
          go_wp2_with fail
          (with_reducible refine (count1_any false _).mono ?_)
          rintro e w18 ⟨rfl, hb18⟩
          have hk18 := below_join hk17 hb18
          refine hK.out _ _ hk18 (fun hHeld => ?_)
          clear hK K hb18 hk17
          refine wpAnyH_take (i := 15) (v := ?vab_15) rfl (by kernel_rfl) (by kernel_rfl) (by kernel_rfl) (fun _ _ _ h => h) (Or.inl ⟨by rfl, ?yab_15⟩) (by assumption) ?rab_15
          case yab_15 => intro w hSw; (try dsimp only at hSw); go_simp <;> (try with_reducible rfl)
          (try simp only [List.getElem_toArray, List.getElem_cons_succ, List.getElem_cons_zero, Act.put, List.setIfInBounds_toArray, List.set_cons_zero, List.set_cons_succ])
          refine wpAnyH_take (i := 16) (v := ?vab_16) rfl (by kernel_rfl) (by kernel_rfl) (by kernel_rfl) (fun _ _ _ h => h) (Or.inl ⟨by rfl, ?yab_16⟩) (by assumption) ?rab_16
          case yab_16 => intro w hSw; (try dsimp only at hSw); go_simp <;> (try with_reducible rfl)
          (try simp only [List.getElem_toArray, List.getElem_cons_succ, List.getElem_cons_zero, Act.put, List.setIfInBounds_toArray, List.set_cons_zero, List.set_cons_succ])
          refine wpAnyH_take (i := 17) (v := ?vab_17) rfl (by kernel_rfl) (by kernel_rfl) (by kernel_rfl) (fun _ _ _ h => h) (Or.inl ⟨by rfl, ?yab_17⟩) (by assumption) ?rab_17
          case yab_17 => intro w hSw; (try dsimp only at hSw); go_simp <;> (try with_reducible rfl)
          (try simp only [List.getElem_toArray, List.getElem_cons_succ, List.getElem_cons_zero, Act.put, List.setIfInBounds_toArray, List.set_cons_zero, List.set_cons_succ])
          refine wpAnyH_take (i := 18) (v := ?vab_18) rfl (by kernel_rfl) (by kernel_rfl) (by kernel_rfl) (fun _ _ _ h => h) (Or.inl ⟨by rfl, ?yab_18⟩) (by assumption) ?rab_18
          case yab_18 => intro w hSw; (try dsimp only at hSw); go_simp <;> (try with_reducible rfl)
          (try simp only [List.getElem_toArray, List.getElem_cons_succ, List.getElem_cons_zero, Act.put, List.setIfInBounds_toArray, List.set_cons_zero, List.set_cons_succ])
          refine wpAnyH_take (i := 19) (v := ?vab_19) rfl (by kernel_rfl) (by kernel_rfl) (by kernel_rfl) (fun _ _ _ h => h) (Or.inl ⟨by rfl, ?yab_19⟩) (by assumption) ?rab_19
          case yab_19 => intro w hSw; (try dsimp only at hSw); go_simp <;> (try with_reducible rfl)
          (try simp only [List.getElem_toArray, List.getElem_cons_succ, List.getElem_cons_zero, Act.put, List.setIfInBounds_toArray, List.set_cons_zero, List.set_cons_succ])
          refine wpAnyH_take (i := 20) (v := ?vab_20) rfl (by kernel_rfl) (by kernel_rfl) (by kernel_rfl) (fun _ _ _ h => h) (Or.inl ⟨by rfl, ?yab_20⟩) (by assumption) ?rab_20
          case yab_20 => intro w hSw; (try dsimp only at hSw); go_simp <;> (try with_reducible rfl)
          (try simp only [List.getElem_toArray, List.getElem_cons_succ, List.getElem_cons_zero, Act.put, List.setIfInBounds_toArray, List.set_cons_zero, List.set_cons_succ])
          refine wpAnyH_take (i := 21) (v := ?vab_21) rfl (by kernel_rfl) (by kernel_rfl) (by kernel_rfl) (fun _ _ _ h => h) (Or.inl ⟨by rfl, ?yab_21⟩) (by assumption) ?rab_21
          case yab_21 => intro w hSw; (try dsimp only at hSw); go_simp <;> (try with_reducible rfl)
          (try simp only [List.getElem_toArray, List.getElem_cons_succ, List.getElem_cons_zero, Act.put, List.setIfInBounds_toArray, List.set_cons_zero, List.set_cons_succ])
          refine wpAnyH_ready (rs := [22]) (by kernel_rfl) (by simp) ?_
          refine AllReadyH.cons rfl (fun K hK => ?_) AllReadyH.nil
          go_simp
          go_wp2_with fail
          (with_reducible refine (HRF.out _ (HP1.out _ (PA.next hk18))).mono ?_)
          rintro e w19 ⟨rfl, hb19⟩
          have hk19 := below_join hk18 hb19
          refine hK.out _ _ hk19 (fun hHeld => ?_)
          clear hK K hb19 hk18
          refine wpAnyH_take (i := 23) (v := ?vab_23) rfl (by kernel_rfl) (by kernel_rfl) (by kernel_rfl) (fun _ _ _ h => h) (Or.inl ⟨by rfl, ?yab_23⟩) (by assumption) ?rab_23
          case yab_23 => intro w hSw; (try dsimp only at hSw); go_simp <;> (try with_reducible rfl)
          (try simp only [List.getElem_toArray, List.getElem_cons_succ, List.getElem_cons_zero, Act.put, List.setIfInBounds_toArray, List.set_cons_zero, List.set_cons_succ])
          refine wpAnyH_take (i := 24) (v := ?vab_24) rfl (by kernel_rfl) (by kernel_rfl) (by kernel_rfl) (fun _ _ _ h => h) (Or.inl ⟨by rfl, ?yab_24⟩) (by assumption) ?rab_24
          case yab_24 => intro w hSw; (try dsimp only at hSw); go_simp <;> (try with_reducible rfl)
          (try simp only [List.getElem_toArray, List.getElem_cons_succ, List.getElem_cons_zero, Act.put, List.setIfInBounds_toArray, List.set_cons_zero, List.set_cons_succ])
          refine wpAnyH_take (i := 25) (v := ?vab_25) rfl (by kernel_rfl) (by kernel_rfl) (by kernel_rfl) (fun _ _ _ h => h) (Or.inl ⟨by rfl, ?yab_25⟩) (by assumption) ?rab_25
          case yab_25 => intro w hSw; (try dsimp only at hSw); go_simp <;> (try with_reducible rfl)
          (try simp only [List.getElem_toArray, List.getElem_cons_succ, List.getElem_cons_zero, Act.put, List.setIfInBounds_toArray, List.set_cons_zero, List.set_cons_succ])
          refine wpAnyH_take (i := 26) (v := ?vab_26) rfl (by kernel_rfl) (by kernel_rfl) (by kernel_rfl) (fun _ _ _ h => h) (Or.inl ⟨by rfl, ?yab_26⟩) (by assumption) ?rab_26
          case yab_26 => intro w hSw; (try dsimp only at hSw); go_simp <;> (try with_reducible rfl)
          (try simp only [List.getElem_toArray, List.getElem_cons_succ, List.getElem_cons_zero, Act.put, List.setIfInBounds_toArray, List.set_cons_zero, List.set_cons_succ])
          refine wpAnyH_done (by kernel_rfl) ?_ _
          clear hHeld K5_0 Z5_0 KQ
          have PA := PA.next hk19
          have B3 := B3.next hk19 B3.lt
          have B5 := B5.next hk19 B5.lt
          have PL := PL.next hk19
          have PU := PU.next hk19
          have PM := PM.next hk19
          have hbe := below_join hbe hk19
          clear hk19
          go_wp2
          go_ret
          exact ⟨rfl, hbe⟩
      · skip
        obtain ⟨J, hJ⟩ : ∃ J, (!I) = J := ⟨_, rfl⟩
        have f1 := HMI.out J (by rw [← hJ]; rfl) A1 c1
        have f2 := HUI.out A2 c2
        have k1 := fun w => count1_any J w
        have k2 := fun w => count1_any I w
        obtain ⟨y1, hy1⟩ : ∃ y : Int, (if J then (1 : Int) else 0) = y := ⟨_, rfl⟩
        obtain ⟨y2, hy2⟩ : ∃ y : Int, (if I then (1 : Int) else 0) = y := ⟨_, rfl⟩
        rw [hy1] at f1 k1
        rw [hy2] at f2 k2
        have F1 := Lib.hid f1
        have K1 := Lib.hid k1
        have F2 := Lib.hid f2
        have K2 := Lib.hid k2
        clear HMI HUI f1 f2 k1 k2 hy1 hy2
        go_wp2_with (first | (with_reducible refine wpList_getg (o := ⟨some 62, .load 23 (.tmp 5), _, _, _, _⟩) (by with_unfolding_all rfl) 23 (.tmp 5) (by with_unfolding_all rfl) g5 0 (by with_unfolding_all rfl) B5 (H h) (cs_all _) _ (by exact Tryd.underlying23) (by with_unfolding_all rfl) (by (rw [H_length]; exact Tryd.szH)) ?_))
        (with_reducible refine (F1.out _ HL1.out PL).mono ?_)
        rintro e w12 ⟨rfl, hb12⟩
        have PA := PA.next hb12
        have B3 := B3.next hb12 B3.lt
        have B5 := B5.next hb12 B5.lt
        have PL := PL.next hb12
        have PU := PU.next hb12
        have hbe := below_join hbe hb12
        clear hb12
        go_wp2_with fail
        (with_reducible refine (K1.out _).mono ?_)
        rintro e w13 ⟨rfl, hb13⟩
        have PA := PA.next hb13
        have B3 := B3.next hb13 B3.lt
        have B5 := B5.next hb13 B5.lt
        have PL := PL.next hb13
        have PU := PU.next hb13
        have hbe := below_join hbe hb13
        clear hb13
        go_wp2_with (first | (with_reducible refine wpList_getg (o := ⟨some 74, .load 23 (.tmp 5), _, _, _, _⟩) (by with_unfolding_all rfl) 23 (.tmp 5) (by with_unfolding_all rfl) g5 0 (by with_unfolding_all rfl) B5 (H h) (cs_all _) _ (by exact Tryd.underlying23) (by with_unfolding_all rfl) (by (rw [H_length]; exact Tryd.szH)) ?_))
        (with_reducible refine (F2.out _ HU1.out PU).mono ?_)
        rintro e w14 ⟨rfl, hb14⟩
        have PA := PA.next hb14
        have B3 := B3.next hb14 B3.lt
        have B5 := B5.next hb14 B5.lt
        have PL := PL.next hb14
        have PU := PU.next hb14
        have hbe := below_join hbe hb14
        clear hb14
        go_wp2_with fail
        (with_reducible refine (K2.out _).mono ?_)
        rintro e w15 ⟨rfl, hb15⟩
        have PA := PA.next hb15
        have B3 := B3.next hb15 B3.lt
        have B5 := B5.next hb15 B5.lt
        have PL := PL.next hb15
        have PU := PU.next hb15
        have hbe := below_join hbe hb15
        clear hb15
        by_cases hn0 : n = 0
        · subst hn0
          go_wp2
          go_ret
          exact ⟨rfl, hbe⟩
        · have hnz : ((n : Int) == 0) = false := beq_eq_false_iff_ne.2 (by omega)
          have hnd : decide ((n : Int) = 0) = false := decide_eq_false (by omega)
          have hni : (0 : Int) < (n : Int) := by omega
          have hn1 : ¬ ((n : Int) = 0) := by omega
          have hnp : 0 < n := by omega
          have hnc : 1 ≤ c0 := by omega
          obtain ⟨q, hq⟩ := HGET.out (by omega)
          have HQ := Lib.hid hq
          have HQO := Lib.hid (HOA.out q (List.mem_of_getElem? hq))
          obtain ⟨ga, oa, hA0, hca⟩ := PA 0 q hq
          subst hA0
          rw [Nat.zero_mul, Nat.add_zero] at hca
          clear hq
          have zq : (Tryd.prog.info? 25).map (·.size) = some q.cells.length := by rw [Pat.cells_length]; exact Tryd.szP
          have hunP := Tryd.underlying25
          have hmn := fun w => minus_any p q w HP.out
          have HMN := Lib.hid hmn
          clear hmn
          go_wp2
          have hdd := below_drew w15
          have K3_0 : Hid (∀ w', Below w15.heap.size w15 w' → w'.rangeAt g3 0 p.cells) := (fun w' h => blk_range (B3.next h B3.lt) : ∀ w', Below w15.heap.size w15 w' → w'.rangeAt g3 0 p.cells)
          have Z3_0 : (Tryd.prog.info? 25).map (·.size) = some p.cells.length := by (rw [Pat.cells_length]; exact Tryd.szP)
          have KQ : Hid (∀ w', Below w15.heap.size w15 w' → w'.rangeAt ga oa q.cells) := (fun w' hw v u hu => by rw [hw.cell (World.block_lt_of_cell? w15 _ (hca v u hu))]; exact hca v u hu : ∀ w', Below w15.heap.size w15 w' → w'.rangeAt ga oa q.cells)
          refine wp_region_held_drew (S := fun w' => Below w15.heap.size w15 w') (by kernel_rfl) hdd (fun hHeld => ?_)
          generalize w15.drew = wd at hdd hHeld ⊢
          refine' wpAnyH_take (i := 0) (v := _) rfl (by kernel_rfl) (by kernel_rfl) (by kernel_rfl) (fun _ _ _ h => h) (yieldsIf_load_mid (by rfl) _ _ (by rfl) _ _ (by rfl) _ _ ?Sac_0 ?uac_0 ?dac_0 ?iac_0) (by assumption) ?rac_0
          case Sac_0 => exact (by intro w h; exact K3_0.out _ h)
          case uac_0 => exact Tryd.underlying25
          case dac_0 => rfl
          case iac_0 => exact Z3_0
          (try simp only [List.getElem_toArray, List.getElem_cons_zero, Act.put, List.setIfInBounds_toArray, List.set_cons_zero, List.set_cons_succ])
          refine wpAnyH_take (i := 1) (v := ?vac_1) rfl (by kernel_rfl) (by kernel_rfl) (by kernel_rfl) (fun _ _ _ h => h) (Or.inl ⟨by rfl, ?yac_1⟩) (by assumption) ?rac_1
          case yac_1 => intro w hSw; (try dsimp only at hSw); go_simp <;> (try with_reducible rfl)
          (try simp only [List.getElem_toArray, List.getElem_cons_succ, List.getElem_cons_zero, Act.put, List.setIfInBounds_toArray, List.set_cons_zero, List.set_cons_succ])
          refine wpAnyH_take (i := 2) (v := ?vac_2) rfl (by kernel_rfl) (by kernel_rfl) (by kernel_rfl) (fun _ _ _ h => h) (Or.inl ⟨by rfl, ?yac_2⟩) (by assumption) ?rac_2
          case yac_2 => intro w hSw; (try dsimp only at hSw); go_simp <;> (try with_reducible rfl)
          (try simp only [List.getElem_toArray, List.getElem_cons_succ, List.getElem_cons_zero, Act.put, List.setIfInBounds_toArray, List.set_cons_zero, List.set_cons_succ])
          refine' wpAnyH_take (i := 3) (v := _) rfl (by kernel_rfl) (by kernel_rfl) (by kernel_rfl) (fun _ _ _ h => h) (yieldsIf_load_mid (by rfl) _ _ (by rfl) _ _ (by rfl) _ _ ?Sac_3 ?uac_3 ?dac_3 ?iac_3) (by assumption) ?rac_3
          case Sac_3 => exact (by intro w h; exact KQ.out _ h)
          case uac_3 => exact hunP
          case dac_3 => rfl
          case iac_3 => exact zq
          (try simp only [List.getElem_toArray, List.getElem_cons_succ, List.getElem_cons_zero, Act.put, List.setIfInBounds_toArray, List.set_cons_zero, List.set_cons_succ])
          refine wpAnyH_ready (rs := [4]) (by kernel_rfl) (by simp) ?_
          refine AllReadyH.cons rfl (fun K hK => ?_) AllReadyH.nil
          go_simp
          go_wp2_with fail
          (with_reducible refine (HMN.out _).mono ?_)
          rintro e w16 ⟨vm, rfl, OM, hb16⟩
          have hk16 := below_join hdd hb16
          refine hK.out _ _ hk16 (fun hHeld => ?_)
          clear hK K hb16 hdd
          refine wpAnyH_take (i := 5) (v := ?vac_5) rfl (by kernel_rfl) (by kernel_rfl) (by kernel_rfl) (fun _ _ _ h => h) (Or.inl ⟨by rfl, ?yac_5⟩) (by assumption) ?rac_5
          case yac_5 => intro w hSw; (try dsimp only at hSw); go_simp <;> (try with_reducible rfl)
          (try simp only [List.getElem_toArray, List.getElem_cons_succ, List.getElem_cons_zero, Act.put, List.setIfInBounds_toArray, List.set_cons_zero, List.set_cons_succ])
          refine wpAnyH_done (by kernel_rfl) ?_ _
          clear hHeld K3_0 Z3_0 KQ
          have PA := PA.next hk16
          have B3 := B3.next hk16 B3.lt
          have B5 := B5.next hk16 B5.lt
          have PL := PL.next hk16
          have PU := PU.next hk16
          have hbe := below_join hbe hk16
          clear hk16
          obtain ⟨Am, cm, rfl, _⟩ := own_shape OM
          have PM : PatsAt _ Am (p.minus q) := own_pats OM
          clear OM
          have hmf := minus_few p q
          have hcm := Pat.count_minus (p := p) (q := q) h
          obtain ⟨D, hD⟩ : ∃ D, p.minus q = D := ⟨_, rfl⟩
          rw [hD] at hmf hcm PM
          rw [hD]
          obtain ⟨nd, hnD⟩ : ∃ k, D.length = k := ⟨_, rfl⟩
          rw [hnD] at hmf
          rw [hnD]
          obtain ⟨Qb, hQb⟩ : ∃ Q, decide (q.hit h) = Q := ⟨_, rfl⟩
          have hrm := fun w => rmatch_m w q h hQb
          have HRM := Lib.hid hrm
          have hrf := fun w (hw : PatsAt w (some ⟨ga, oa, none⟩) [q]) => rfixed_any (some ⟨ga, oa, none⟩) c0 [q] w (by show 1 ≤ _; decide) hw
          obtain ⟨f, hf⟩ : ∃ f : Int, ((cnt (fixTo [q] [q].length) 0 160 : Nat) : Int) = f := ⟨_, rfl⟩
          rw [hf] at hrf
          have HRF : Hid (∀ w, PatsAt w (some ⟨ga, oa, none⟩) [q] → Calls Tryd.prog 72 #[.slice (some ⟨ga, oa, none⟩) 1 c0] w fun e w' => e = .returned (.int .i64 f) ∧ Below w.heap.size w w') := hrf
          have hfl : (nd : Int) ≤ max 1 f := by rw [← hf]; show (nd : Int) ≤ max 1 ((cnt (fixTo [q] 1) 0 160 : Nat) : Int); omega
          have P1 : ∀ w', PatsAt w' (some ⟨ga, oa, none⟩) la → PatsAt w' (some ⟨ga, oa, none⟩) [q] := fun w' hw k y hy => by
            cases k with
            | zero =>
              have e : q = y := by simpa using hy
              subst e
              exact hw 0 q HQ.out
            | succ k => cases hy
          have HP1 := Lib.hid P1
          have hc1 : (1 : Int) ≤ (c0 : Int) := by omega
          have hcin : ∀ (b : Bool), (p.hit h ∧ ¬ q.hit h ↔ b = true) → ∀ w, PatsAt w Am D → Calls Tryd.prog 70 #[.slice Am nd cm, .agg (H h).toArray] w fun e w' => e = .returned (.int .i64 (if b then 1 else 0)) ∧ Below w.heap.size w w' := fun b hb w hw => by
            have := rin_any Am cm D h w (by rw [hnD]; have h160 := minus_length p q; rw [hD, hnD] at h160; omega) hw
            rw [hnD] at this
            by_cases hc : p.hit h ∧ ¬ q.hit h
            · rw [hcm, if_pos hc] at this; rw [hb.1 hc]; exact this
            · rw [hcm, if_neg hc] at this; rw [show b = false from Bool.eq_false_iff.2 (fun hbv => hc (hb.2 hbv))]; exact this
          have HCIN := Lib.hid hcin
          have HQB := Lib.hid hQb
          clear hmf hcm hrm hrf hf P1 hcin hD hnD hQb
          obtain ⟨gc, oc, ec, hca⟩ := PA 0 q HQ.out
          injection ec with ec
          injection ec with ec1 ec2 _
          subst ec1 ec2
          rw [Nat.zero_mul, Nat.add_zero] at hca
          rcases Qb with _ | _
          · skip
            have G1 := Lib.hid (HCIN.out true ⟨fun _ => rfl, fun _ => ⟨of_decide_eq_true HM.out, of_decide_eq_false HQB.out⟩⟩)
            clear HCIN
            go_wp2
            have hdd := below_drew w16
            have K5_0 : Hid (∀ w', Below w16.heap.size w16 w' → w'.rangeAt g5 0 (H h)) := (fun w' h => blk_range (B5.next h B5.lt) : ∀ w', Below w16.heap.size w16 w' → w'.rangeAt g5 0 (H h))
            have Z5_0 : (Tryd.prog.info? 23).map (·.size) = some (H h).length := by (rw [H_length]; exact Tryd.szH)
            have KQ : Hid (∀ w', Below w16.heap.size w16 w' → w'.rangeAt ga oa q.cells) := (fun w' hw v u hu => by rw [hw.cell (World.block_lt_of_cell? w16 _ (hca v u hu))]; exact hca v u hu : ∀ w', Below w16.heap.size w16 w' → w'.rangeAt ga oa q.cells)
            refine wp_region_held_drew (S := fun w' => Below w16.heap.size w16 w') (by kernel_rfl) hdd (fun hHeld => ?_)
            generalize w16.drew = wd at hdd hHeld ⊢
            refine wpAnyH_take (i := 0) (v := ?vad_0) rfl (by kernel_rfl) (by kernel_rfl) (by kernel_rfl) (fun _ _ _ h => h) (Or.inl ⟨by rfl, ?yad_0⟩) (by assumption) ?rad_0
            case yad_0 => intro w hSw; (try dsimp only at hSw); go_simp <;> (try with_reducible rfl)
            (try simp only [List.getElem_toArray, List.getElem_cons_zero, Act.put, List.setIfInBounds_toArray, List.set_cons_zero, List.set_cons_succ])
            refine wpAnyH_take (i := 1) (v := ?vad_1) rfl (by kernel_rfl) (by kernel_rfl) (by kernel_rfl) (fun _ _ _ h => h) (Or.inl ⟨by rfl, ?yad_1⟩) (by assumption) ?rad_1
            case yad_1 => intro w hSw; (try dsimp only at hSw); go_simp <;> (try with_reducible rfl)
            (try simp only [List.getElem_toArray, List.getElem_cons_succ, List.getElem_cons_zero, Act.put, List.setIfInBounds_toArray, List.set_cons_zero, List.set_cons_succ])
            refine wpAnyH_take (i := 2) (v := ?vad_2) rfl (by kernel_rfl) (by kernel_rfl) (by kernel_rfl) (fun _ _ _ h => h) (Or.inl ⟨by rfl, ?yad_2⟩) (by assumption) ?rad_2
            case yad_2 => intro w hSw; (try dsimp only at hSw); go_simp <;> (try with_reducible rfl)
            (try simp only [List.getElem_toArray, List.getElem_cons_succ, List.getElem_cons_zero, Act.put, List.setIfInBounds_toArray, List.set_cons_zero, List.set_cons_succ])
            refine' wpAnyH_take (i := 3) (v := _) rfl (by kernel_rfl) (by kernel_rfl) (by kernel_rfl) (fun _ _ _ h => h) (yieldsIf_load_mid (by rfl) _ _ (by rfl) _ _ (by rfl) _ _ ?Sad_3 ?uad_3 ?dad_3 ?iad_3) (by assumption) ?rad_3
            case Sad_3 => exact (by intro w h; exact K5_0.out _ h)
            case uad_3 => exact Tryd.underlying23
            case dad_3 => rfl
            case iad_3 => exact Z5_0
            (try simp only [List.getElem_toArray, List.getElem_cons_succ, List.getElem_cons_zero, Act.put, List.setIfInBounds_toArray, List.set_cons_zero, List.set_cons_succ])
            refine wpAnyH_take (i := 5) (v := ?vad_5) rfl (by kernel_rfl) (by kernel_rfl) (by kernel_rfl) (fun _ _ _ h => h) (Or.inl ⟨by rfl, ?yad_5⟩) (by assumption) ?rad_5
            case yad_5 => intro w hSw; (try dsimp only at hSw); go_simp <;> (try with_reducible rfl)
            (try simp only [List.getElem_toArray, List.getElem_cons_succ, List.getElem_cons_zero, Act.put, List.setIfInBounds_toArray, List.set_cons_zero, List.set_cons_succ])
            refine wpAnyH_ready (rs := [4]) (by kernel_rfl) (by simp) ?_
            refine AllReadyH.cons rfl (fun K hK => ?_) AllReadyH.nil
            go_simp
            go_wp2_with fail
            (with_reducible refine (G1.out _ (PM.next hdd)).mono ?_)
            rintro e w17 ⟨rfl, hb17⟩
            have hk17 := below_join hdd hb17
            refine hK.out _ _ hk17 (fun hHeld => ?_)
            clear hK K hb17 hdd
            refine wpAnyH_take (i := 6) (v := ?vad_6) rfl (by kernel_rfl) (by kernel_rfl) (by kernel_rfl) (fun _ _ _ h => h) (Or.inl ⟨by rfl, ?yad_6⟩) (by assumption) ?rad_6
            case yad_6 => intro w hSw; (try dsimp only at hSw); go_simp <;> (try with_reducible rfl)
            (try simp only [List.getElem_toArray, List.getElem_cons_succ, List.getElem_cons_zero, Act.put, List.setIfInBounds_toArray, List.set_cons_zero, List.set_cons_succ])
            refine wpAnyH_take (i := 7) (v := ?vad_7) rfl (by kernel_rfl) (by kernel_rfl) (by kernel_rfl) (fun _ _ _ h => h) (Or.inl ⟨by rfl, ?yad_7⟩) (by assumption) ?rad_7
            case yad_7 => intro w hSw; (try dsimp only at hSw); go_simp <;> (try with_reducible rfl)
            (try simp only [List.getElem_toArray, List.getElem_cons_succ, List.getElem_cons_zero, Act.put, List.setIfInBounds_toArray, List.set_cons_zero, List.set_cons_succ])
            refine wpAnyH_take (i := 8) (v := ?vad_8) rfl (by kernel_rfl) (by kernel_rfl) (by kernel_rfl) (fun _ _ _ h => h) (Or.inl ⟨by rfl, ?yad_8⟩) (by assumption) ?rad_8
            case yad_8 => intro w hSw; (try dsimp only at hSw); go_simp <;> (try with_reducible rfl)
            (try simp only [List.getElem_toArray, List.getElem_cons_succ, List.getElem_cons_zero, Act.put, List.setIfInBounds_toArray, List.set_cons_zero, List.set_cons_succ])
            refine' wpAnyH_take (i := 9) (v := _) rfl (by kernel_rfl) (by kernel_rfl) (by kernel_rfl) (fun _ _ _ h => h) (yieldsIf_load_mid (by rfl) _ _ (by rfl) _ _ (by rfl) _ _ ?Sad_9 ?uad_9 ?dad_9 ?iad_9) (by assumption) ?rad_9
            case Sad_9 => exact (by intro w h; exact KQ.out _ h)
            case uad_9 => exact hunP
            case dad_9 => rfl
            case iad_9 => exact zq
            (try simp only [List.getElem_toArray, List.getElem_cons_succ, List.getElem_cons_zero, Act.put, List.setIfInBounds_toArray, List.set_cons_zero, List.set_cons_succ])
            refine' wpAnyH_take (i := 10) (v := _) rfl (by kernel_rfl) (by kernel_rfl) (by kernel_rfl) (fun _ _ _ h => h) (yieldsIf_load_mid (by rfl) _ _ (by rfl) _ _ (by rfl) _ _ ?Sad_10 ?uad_10 ?dad_10 ?iad_10) (by assumption) ?rad_10
            case Sad_10 => exact (by intro w h; exact K5_0.out _ h)
            case uad_10 => exact Tryd.underlying23
            case dad_10 => rfl
            case iad_10 => exact Z5_0
            (try simp only [List.getElem_toArray, List.getElem_cons_succ, List.getElem_cons_zero, Act.put, List.setIfInBounds_toArray, List.set_cons_zero, List.set_cons_succ])
            refine wpAnyH_ready (rs := [11]) (by kernel_rfl) (by simp) ?_
            refine AllReadyH.cons rfl (fun K hK => ?_) AllReadyH.nil
            go_simp
            go_wp2_with fail
            (with_reducible refine (HRM.out _).mono ?_)
            rintro e w18 ⟨rfl, hb18⟩
            have hk18 := below_join hk17 hb18
            refine hK.out _ _ hk18 (fun hHeld => ?_)
            clear hK K hb18 hk17
            refine wpAnyH_take (i := 12) (v := ?vad_12) rfl (by kernel_rfl) (by kernel_rfl) (by kernel_rfl) (fun _ _ _ h => h) (Or.inl ⟨by rfl, ?yad_12⟩) (by assumption) ?rad_12
            case yad_12 => intro w hSw; (try dsimp only at hSw); go_simp <;> (try with_reducible rfl)
            (try simp only [List.getElem_toArray, List.getElem_cons_succ, List.getElem_cons_zero, Act.put, List.setIfInBounds_toArray, List.set_cons_zero, List.set_cons_succ])
            refine wpAnyH_take (i := 13) (v := ?vad_13) rfl (by kernel_rfl) (by kernel_rfl) (by kernel_rfl) (fun _ _ _ h => h) (Or.inl ⟨by rfl, ?yad_13⟩) (by assumption) ?rad_13
            case yad_13 => intro w hSw; (try dsimp only at hSw); go_simp <;> (try with_reducible rfl)
            (try simp only [List.getElem_toArray, List.getElem_cons_succ, List.getElem_cons_zero, Act.put, List.setIfInBounds_toArray, List.set_cons_zero, List.set_cons_succ])
            refine wpAnyH_ready (rs := [14]) (by kernel_rfl) (by simp) ?_
            refine AllReadyH.cons rfl (fun K hK => ?_) AllReadyH.nil
            go_simp
            go_wp2_with fail
            (with_reducible refine (count1_any true _).mono ?_)
            rintro e w19 ⟨rfl, hb19⟩
            have hk19 := below_join hk18 hb19
            refine hK.out _ _ hk19 (fun hHeld => ?_)
            clear hK K hb19 hk18
            refine wpAnyH_take (i := 15) (v := ?vad_15) rfl (by kernel_rfl) (by kernel_rfl) (by kernel_rfl) (fun _ _ _ h => h) (Or.inl ⟨by rfl, ?yad_15⟩) (by assumption) ?rad_15
            case yad_15 => intro w hSw; (try dsimp only at hSw); go_simp <;> (try with_reducible rfl)
            (try simp only [List.getElem_toArray, List.getElem_cons_succ, List.getElem_cons_zero, Act.put, List.setIfInBounds_toArray, List.set_cons_zero, List.set_cons_succ])
            refine wpAnyH_take (i := 16) (v := ?vad_16) rfl (by kernel_rfl) (by kernel_rfl) (by kernel_rfl) (fun _ _ _ h => h) (Or.inl ⟨by rfl, ?yad_16⟩) (by assumption) ?rad_16
            case yad_16 => intro w hSw; (try dsimp only at hSw); go_simp <;> (try with_reducible rfl)
            (try simp only [List.getElem_toArray, List.getElem_cons_succ, List.getElem_cons_zero, Act.put, List.setIfInBounds_toArray, List.set_cons_zero, List.set_cons_succ])
            refine wpAnyH_take (i := 17) (v := ?vad_17) rfl (by kernel_rfl) (by kernel_rfl) (by kernel_rfl) (fun _ _ _ h => h) (Or.inl ⟨by rfl, ?yad_17⟩) (by assumption) ?rad_17
            case yad_17 => intro w hSw; (try dsimp only at hSw); go_simp <;> (try with_reducible rfl)
            (try simp only [List.getElem_toArray, List.getElem_cons_succ, List.getElem_cons_zero, Act.put, List.setIfInBounds_toArray, List.set_cons_zero, List.set_cons_succ])
            refine wpAnyH_take (i := 18) (v := ?vad_18) rfl (by kernel_rfl) (by kernel_rfl) (by kernel_rfl) (fun _ _ _ h => h) (Or.inl ⟨by rfl, ?yad_18⟩) (by assumption) ?rad_18
            case yad_18 => intro w hSw; (try dsimp only at hSw); go_simp <;> (try with_reducible rfl)
            (try simp only [List.getElem_toArray, List.getElem_cons_succ, List.getElem_cons_zero, Act.put, List.setIfInBounds_toArray, List.set_cons_zero, List.set_cons_succ])
            refine wpAnyH_take (i := 19) (v := ?vad_19) rfl (by kernel_rfl) (by kernel_rfl) (by kernel_rfl) (fun _ _ _ h => h) (Or.inl ⟨by rfl, ?yad_19⟩) (by assumption) ?rad_19
            case yad_19 => intro w hSw; (try dsimp only at hSw); go_simp <;> (try with_reducible rfl)
            (try simp only [List.getElem_toArray, List.getElem_cons_succ, List.getElem_cons_zero, Act.put, List.setIfInBounds_toArray, List.set_cons_zero, List.set_cons_succ])
            refine wpAnyH_take (i := 20) (v := ?vad_20) rfl (by kernel_rfl) (by kernel_rfl) (by kernel_rfl) (fun _ _ _ h => h) (Or.inl ⟨by rfl, ?yad_20⟩) (by assumption) ?rad_20
            case yad_20 => intro w hSw; (try dsimp only at hSw); go_simp <;> (try with_reducible rfl)
            (try simp only [List.getElem_toArray, List.getElem_cons_succ, List.getElem_cons_zero, Act.put, List.setIfInBounds_toArray, List.set_cons_zero, List.set_cons_succ])
            refine wpAnyH_take (i := 21) (v := ?vad_21) rfl (by kernel_rfl) (by kernel_rfl) (by kernel_rfl) (fun _ _ _ h => h) (Or.inl ⟨by rfl, ?yad_21⟩) (by assumption) ?rad_21
            case yad_21 => intro w hSw; (try dsimp only at hSw); go_simp <;> (try with_reducible rfl)
            (try simp only [List.getElem_toArray, List.getElem_cons_succ, List.getElem_cons_zero, Act.put, List.setIfInBounds_toArray, List.set_cons_zero, List.set_cons_succ])
            refine wpAnyH_ready (rs := [22]) (by kernel_rfl) (by simp) ?_
            refine AllReadyH.cons rfl (fun K hK => ?_) AllReadyH.nil
            go_simp
            go_wp2_with fail
            (with_reducible refine (HRF.out _ (HP1.out _ (PA.next hk19))).mono ?_)
            rintro e w20 ⟨rfl, hb20⟩
            have hk20 := below_join hk19 hb20
            refine hK.out _ _ hk20 (fun hHeld => ?_)
            clear hK K hb20 hk19
            refine wpAnyH_take (i := 23) (v := ?vad_23) rfl (by kernel_rfl) (by kernel_rfl) (by kernel_rfl) (fun _ _ _ h => h) (Or.inl ⟨by rfl, ?yad_23⟩) (by assumption) ?rad_23
            case yad_23 => intro w hSw; (try dsimp only at hSw); go_simp <;> (try with_reducible rfl)
            (try simp only [List.getElem_toArray, List.getElem_cons_succ, List.getElem_cons_zero, Act.put, List.setIfInBounds_toArray, List.set_cons_zero, List.set_cons_succ])
            refine wpAnyH_take (i := 24) (v := ?vad_24) rfl (by kernel_rfl) (by kernel_rfl) (by kernel_rfl) (fun _ _ _ h => h) (Or.inl ⟨by rfl, ?yad_24⟩) (by assumption) ?rad_24
            case yad_24 => intro w hSw; (try dsimp only at hSw); go_simp <;> (try with_reducible rfl)
            (try simp only [List.getElem_toArray, List.getElem_cons_succ, List.getElem_cons_zero, Act.put, List.setIfInBounds_toArray, List.set_cons_zero, List.set_cons_succ])
            refine wpAnyH_take (i := 25) (v := ?vad_25) rfl (by kernel_rfl) (by kernel_rfl) (by kernel_rfl) (fun _ _ _ h => h) (Or.inl ⟨by rfl, ?yad_25⟩) (by assumption) ?rad_25
            case yad_25 => intro w hSw; (try dsimp only at hSw); go_simp <;> (try with_reducible rfl)
            (try simp only [List.getElem_toArray, List.getElem_cons_succ, List.getElem_cons_zero, Act.put, List.setIfInBounds_toArray, List.set_cons_zero, List.set_cons_succ])
            refine wpAnyH_take (i := 26) (v := ?vad_26) rfl (by kernel_rfl) (by kernel_rfl) (by kernel_rfl) (fun _ _ _ h => h) (Or.inl ⟨by rfl, ?yad_26⟩) (by assumption) ?rad_26
            case yad_26 => intro w hSw; (try dsimp only at hSw); go_simp <;> (try with_reducible rfl)
            (try simp only [List.getElem_toArray, List.getElem_cons_succ, List.getElem_cons_zero, Act.put, List.setIfInBounds_toArray, List.set_cons_zero, List.set_cons_succ])
            refine wpAnyH_done (by kernel_rfl) ?_ _
            clear hHeld K5_0 Z5_0 KQ
            have PA := PA.next hk20
            have B3 := B3.next hk20 B3.lt
            have B5 := B5.next hk20 B5.lt
            have PL := PL.next hk20
            have PU := PU.next hk20
            have PM := PM.next hk20
            have hbe := below_join hbe hk20
            clear hk20
            go_wp2
            go_ret
            exact ⟨rfl, hbe⟩
          · skip
            have G1 := Lib.hid (HCIN.out false ⟨fun hc => absurd (of_decide_eq_true HQB.out) hc.2, fun hc => Bool.noConfusion hc⟩)
            clear HCIN
            go_wp2
            have hdd := below_drew w16
            have K5_0 : Hid (∀ w', Below w16.heap.size w16 w' → w'.rangeAt g5 0 (H h)) := (fun w' h => blk_range (B5.next h B5.lt) : ∀ w', Below w16.heap.size w16 w' → w'.rangeAt g5 0 (H h))
            have Z5_0 : (Tryd.prog.info? 23).map (·.size) = some (H h).length := by (rw [H_length]; exact Tryd.szH)
            have KQ : Hid (∀ w', Below w16.heap.size w16 w' → w'.rangeAt ga oa q.cells) := (fun w' hw v u hu => by rw [hw.cell (World.block_lt_of_cell? w16 _ (hca v u hu))]; exact hca v u hu : ∀ w', Below w16.heap.size w16 w' → w'.rangeAt ga oa q.cells)
            refine wp_region_held_drew (S := fun w' => Below w16.heap.size w16 w') (by kernel_rfl) hdd (fun hHeld => ?_)
            generalize w16.drew = wd at hdd hHeld ⊢
            refine wpAnyH_take (i := 0) (v := ?vae_0) rfl (by kernel_rfl) (by kernel_rfl) (by kernel_rfl) (fun _ _ _ h => h) (Or.inl ⟨by rfl, ?yae_0⟩) (by assumption) ?rae_0
            case yae_0 => intro w hSw; (try dsimp only at hSw); go_simp <;> (try with_reducible rfl)
            (try simp only [List.getElem_toArray, List.getElem_cons_zero, Act.put, List.setIfInBounds_toArray, List.set_cons_zero, List.set_cons_succ])
            refine wpAnyH_take (i := 1) (v := ?vae_1) rfl (by kernel_rfl) (by kernel_rfl) (by kernel_rfl) (fun _ _ _ h => h) (Or.inl ⟨by rfl, ?yae_1⟩) (by assumption) ?rae_1
            case yae_1 => intro w hSw; (try dsimp only at hSw); go_simp <;> (try with_reducible rfl)
            (try simp only [List.getElem_toArray, List.getElem_cons_succ, List.getElem_cons_zero, Act.put, List.setIfInBounds_toArray, List.set_cons_zero, List.set_cons_succ])
            refine wpAnyH_take (i := 2) (v := ?vae_2) rfl (by kernel_rfl) (by kernel_rfl) (by kernel_rfl) (fun _ _ _ h => h) (Or.inl ⟨by rfl, ?yae_2⟩) (by assumption) ?rae_2
            case yae_2 => intro w hSw; (try dsimp only at hSw); go_simp <;> (try with_reducible rfl)
            (try simp only [List.getElem_toArray, List.getElem_cons_succ, List.getElem_cons_zero, Act.put, List.setIfInBounds_toArray, List.set_cons_zero, List.set_cons_succ])
            refine' wpAnyH_take (i := 3) (v := _) rfl (by kernel_rfl) (by kernel_rfl) (by kernel_rfl) (fun _ _ _ h => h) (yieldsIf_load_mid (by rfl) _ _ (by rfl) _ _ (by rfl) _ _ ?Sae_3 ?uae_3 ?dae_3 ?iae_3) (by assumption) ?rae_3
            case Sae_3 => exact (by intro w h; exact K5_0.out _ h)
            case uae_3 => exact Tryd.underlying23
            case dae_3 => rfl
            case iae_3 => exact Z5_0
            (try simp only [List.getElem_toArray, List.getElem_cons_succ, List.getElem_cons_zero, Act.put, List.setIfInBounds_toArray, List.set_cons_zero, List.set_cons_succ])
            refine wpAnyH_take (i := 5) (v := ?vae_5) rfl (by kernel_rfl) (by kernel_rfl) (by kernel_rfl) (fun _ _ _ h => h) (Or.inl ⟨by rfl, ?yae_5⟩) (by assumption) ?rae_5
            case yae_5 => intro w hSw; (try dsimp only at hSw); go_simp <;> (try with_reducible rfl)
            (try simp only [List.getElem_toArray, List.getElem_cons_succ, List.getElem_cons_zero, Act.put, List.setIfInBounds_toArray, List.set_cons_zero, List.set_cons_succ])
            refine wpAnyH_ready (rs := [4]) (by kernel_rfl) (by simp) ?_
            refine AllReadyH.cons rfl (fun K hK => ?_) AllReadyH.nil
            go_simp
            go_wp2_with fail
            (with_reducible refine (G1.out _ (PM.next hdd)).mono ?_)
            rintro e w17 ⟨rfl, hb17⟩
            have hk17 := below_join hdd hb17
            refine hK.out _ _ hk17 (fun hHeld => ?_)
            clear hK K hb17 hdd
            refine wpAnyH_take (i := 6) (v := ?vae_6) rfl (by kernel_rfl) (by kernel_rfl) (by kernel_rfl) (fun _ _ _ h => h) (Or.inl ⟨by rfl, ?yae_6⟩) (by assumption) ?rae_6
            case yae_6 => intro w hSw; (try dsimp only at hSw); go_simp <;> (try with_reducible rfl)
            (try simp only [List.getElem_toArray, List.getElem_cons_succ, List.getElem_cons_zero, Act.put, List.setIfInBounds_toArray, List.set_cons_zero, List.set_cons_succ])
            refine wpAnyH_take (i := 7) (v := ?vae_7) rfl (by kernel_rfl) (by kernel_rfl) (by kernel_rfl) (fun _ _ _ h => h) (Or.inl ⟨by rfl, ?yae_7⟩) (by assumption) ?rae_7
            case yae_7 => intro w hSw; (try dsimp only at hSw); go_simp <;> (try with_reducible rfl)
            (try simp only [List.getElem_toArray, List.getElem_cons_succ, List.getElem_cons_zero, Act.put, List.setIfInBounds_toArray, List.set_cons_zero, List.set_cons_succ])
            refine wpAnyH_take (i := 8) (v := ?vae_8) rfl (by kernel_rfl) (by kernel_rfl) (by kernel_rfl) (fun _ _ _ h => h) (Or.inl ⟨by rfl, ?yae_8⟩) (by assumption) ?rae_8
            case yae_8 => intro w hSw; (try dsimp only at hSw); go_simp <;> (try with_reducible rfl)
            (try simp only [List.getElem_toArray, List.getElem_cons_succ, List.getElem_cons_zero, Act.put, List.setIfInBounds_toArray, List.set_cons_zero, List.set_cons_succ])
            refine' wpAnyH_take (i := 9) (v := _) rfl (by kernel_rfl) (by kernel_rfl) (by kernel_rfl) (fun _ _ _ h => h) (yieldsIf_load_mid (by rfl) _ _ (by rfl) _ _ (by rfl) _ _ ?Sae_9 ?uae_9 ?dae_9 ?iae_9) (by assumption) ?rae_9
            case Sae_9 => exact (by intro w h; exact KQ.out _ h)
            case uae_9 => exact hunP
            case dae_9 => rfl
            case iae_9 => exact zq
            (try simp only [List.getElem_toArray, List.getElem_cons_succ, List.getElem_cons_zero, Act.put, List.setIfInBounds_toArray, List.set_cons_zero, List.set_cons_succ])
            refine' wpAnyH_take (i := 10) (v := _) rfl (by kernel_rfl) (by kernel_rfl) (by kernel_rfl) (fun _ _ _ h => h) (yieldsIf_load_mid (by rfl) _ _ (by rfl) _ _ (by rfl) _ _ ?Sae_10 ?uae_10 ?dae_10 ?iae_10) (by assumption) ?rae_10
            case Sae_10 => exact (by intro w h; exact K5_0.out _ h)
            case uae_10 => exact Tryd.underlying23
            case dae_10 => rfl
            case iae_10 => exact Z5_0
            (try simp only [List.getElem_toArray, List.getElem_cons_succ, List.getElem_cons_zero, Act.put, List.setIfInBounds_toArray, List.set_cons_zero, List.set_cons_succ])
            refine wpAnyH_ready (rs := [11]) (by kernel_rfl) (by simp) ?_
            refine AllReadyH.cons rfl (fun K hK => ?_) AllReadyH.nil
            go_simp
            go_wp2_with fail
            (with_reducible refine (HRM.out _).mono ?_)
            rintro e w18 ⟨rfl, hb18⟩
            have hk18 := below_join hk17 hb18
            refine hK.out _ _ hk18 (fun hHeld => ?_)
            clear hK K hb18 hk17
            refine wpAnyH_take (i := 12) (v := ?vae_12) rfl (by kernel_rfl) (by kernel_rfl) (by kernel_rfl) (fun _ _ _ h => h) (Or.inl ⟨by rfl, ?yae_12⟩) (by assumption) ?rae_12
            case yae_12 => intro w hSw; (try dsimp only at hSw); go_simp <;> (try with_reducible rfl)
            (try simp only [List.getElem_toArray, List.getElem_cons_succ, List.getElem_cons_zero, Act.put, List.setIfInBounds_toArray, List.set_cons_zero, List.set_cons_succ])
            refine wpAnyH_take (i := 13) (v := ?vae_13) rfl (by kernel_rfl) (by kernel_rfl) (by kernel_rfl) (fun _ _ _ h => h) (Or.inl ⟨by rfl, ?yae_13⟩) (by assumption) ?rae_13
            case yae_13 => intro w hSw; (try dsimp only at hSw); go_simp <;> (try with_reducible rfl)
            (try simp only [List.getElem_toArray, List.getElem_cons_succ, List.getElem_cons_zero, Act.put, List.setIfInBounds_toArray, List.set_cons_zero, List.set_cons_succ])
            refine wpAnyH_ready (rs := [14]) (by kernel_rfl) (by simp) ?_
            refine AllReadyH.cons rfl (fun K hK => ?_) AllReadyH.nil
            go_simp
            go_wp2_with fail
            (with_reducible refine (count1_any false _).mono ?_)
            rintro e w19 ⟨rfl, hb19⟩
            have hk19 := below_join hk18 hb19
            refine hK.out _ _ hk19 (fun hHeld => ?_)
            clear hK K hb19 hk18
            refine wpAnyH_take (i := 15) (v := ?vae_15) rfl (by kernel_rfl) (by kernel_rfl) (by kernel_rfl) (fun _ _ _ h => h) (Or.inl ⟨by rfl, ?yae_15⟩) (by assumption) ?rae_15
            case yae_15 => intro w hSw; (try dsimp only at hSw); go_simp <;> (try with_reducible rfl)
            (try simp only [List.getElem_toArray, List.getElem_cons_succ, List.getElem_cons_zero, Act.put, List.setIfInBounds_toArray, List.set_cons_zero, List.set_cons_succ])
            refine wpAnyH_take (i := 16) (v := ?vae_16) rfl (by kernel_rfl) (by kernel_rfl) (by kernel_rfl) (fun _ _ _ h => h) (Or.inl ⟨by rfl, ?yae_16⟩) (by assumption) ?rae_16
            case yae_16 => intro w hSw; (try dsimp only at hSw); go_simp <;> (try with_reducible rfl)
            (try simp only [List.getElem_toArray, List.getElem_cons_succ, List.getElem_cons_zero, Act.put, List.setIfInBounds_toArray, List.set_cons_zero, List.set_cons_succ])
            refine wpAnyH_take (i := 17) (v := ?vae_17) rfl (by kernel_rfl) (by kernel_rfl) (by kernel_rfl) (fun _ _ _ h => h) (Or.inl ⟨by rfl, ?yae_17⟩) (by assumption) ?rae_17
            case yae_17 => intro w hSw; (try dsimp only at hSw); go_simp <;> (try with_reducible rfl)
            (try simp only [List.getElem_toArray, List.getElem_cons_succ, List.getElem_cons_zero, Act.put, List.setIfInBounds_toArray, List.set_cons_zero, List.set_cons_succ])
            refine wpAnyH_take (i := 18) (v := ?vae_18) rfl (by kernel_rfl) (by kernel_rfl) (by kernel_rfl) (fun _ _ _ h => h) (Or.inl ⟨by rfl, ?yae_18⟩) (by assumption) ?rae_18
            case yae_18 => intro w hSw; (try dsimp only at hSw); go_simp <;> (try with_reducible rfl)
            (try simp only [List.getElem_toArray, List.getElem_cons_succ, List.getElem_cons_zero, Act.put, List.setIfInBounds_toArray, List.set_cons_zero, List.set_cons_succ])
            refine wpAnyH_take (i := 19) (v := ?vae_19) rfl (by kernel_rfl) (by kernel_rfl) (by kernel_rfl) (fun _ _ _ h => h) (Or.inl ⟨by rfl, ?yae_19⟩) (by assumption) ?rae_19
            case yae_19 => intro w hSw; (try dsimp only at hSw); go_simp <;> (try with_reducible rfl)
            (try simp only [List.getElem_toArray, List.getElem_cons_succ, List.getElem_cons_zero, Act.put, List.setIfInBounds_toArray, List.set_cons_zero, List.set_cons_succ])
            refine wpAnyH_take (i := 20) (v := ?vae_20) rfl (by kernel_rfl) (by kernel_rfl) (by kernel_rfl) (fun _ _ _ h => h) (Or.inl ⟨by rfl, ?yae_20⟩) (by assumption) ?rae_20
            case yae_20 => intro w hSw; (try dsimp only at hSw); go_simp <;> (try with_reducible rfl)
            (try simp only [List.getElem_toArray, List.getElem_cons_succ, List.getElem_cons_zero, Act.put, List.setIfInBounds_toArray, List.set_cons_zero, List.set_cons_succ])
            refine wpAnyH_take (i := 21) (v := ?vae_21) rfl (by kernel_rfl) (by kernel_rfl) (by kernel_rfl) (fun _ _ _ h => h) (Or.inl ⟨by rfl, ?yae_21⟩) (by assumption) ?rae_21
            case yae_21 => intro w hSw; (try dsimp only at hSw); go_simp <;> (try with_reducible rfl)
            (try simp only [List.getElem_toArray, List.getElem_cons_succ, List.getElem_cons_zero, Act.put, List.setIfInBounds_toArray, List.set_cons_zero, List.set_cons_succ])
            refine wpAnyH_ready (rs := [22]) (by kernel_rfl) (by simp) ?_
            refine AllReadyH.cons rfl (fun K hK => ?_) AllReadyH.nil
            go_simp
            go_wp2_with fail
            (with_reducible refine (HRF.out _ (HP1.out _ (PA.next hk19))).mono ?_)
            rintro e w20 ⟨rfl, hb20⟩
            have hk20 := below_join hk19 hb20
            refine hK.out _ _ hk20 (fun hHeld => ?_)
            clear hK K hb20 hk19
            refine wpAnyH_take (i := 23) (v := ?vae_23) rfl (by kernel_rfl) (by kernel_rfl) (by kernel_rfl) (fun _ _ _ h => h) (Or.inl ⟨by rfl, ?yae_23⟩) (by assumption) ?rae_23
            case yae_23 => intro w hSw; (try dsimp only at hSw); go_simp <;> (try with_reducible rfl)
            (try simp only [List.getElem_toArray, List.getElem_cons_succ, List.getElem_cons_zero, Act.put, List.setIfInBounds_toArray, List.set_cons_zero, List.set_cons_succ])
            refine wpAnyH_take (i := 24) (v := ?vae_24) rfl (by kernel_rfl) (by kernel_rfl) (by kernel_rfl) (fun _ _ _ h => h) (Or.inl ⟨by rfl, ?yae_24⟩) (by assumption) ?rae_24
            case yae_24 => intro w hSw; (try dsimp only at hSw); go_simp <;> (try with_reducible rfl)
            (try simp only [List.getElem_toArray, List.getElem_cons_succ, List.getElem_cons_zero, Act.put, List.setIfInBounds_toArray, List.set_cons_zero, List.set_cons_succ])
            refine wpAnyH_take (i := 25) (v := ?vae_25) rfl (by kernel_rfl) (by kernel_rfl) (by kernel_rfl) (fun _ _ _ h => h) (Or.inl ⟨by rfl, ?yae_25⟩) (by assumption) ?rae_25
            case yae_25 => intro w hSw; (try dsimp only at hSw); go_simp <;> (try with_reducible rfl)
            (try simp only [List.getElem_toArray, List.getElem_cons_succ, List.getElem_cons_zero, Act.put, List.setIfInBounds_toArray, List.set_cons_zero, List.set_cons_succ])
            refine wpAnyH_take (i := 26) (v := ?vae_26) rfl (by kernel_rfl) (by kernel_rfl) (by kernel_rfl) (fun _ _ _ h => h) (Or.inl ⟨by rfl, ?yae_26⟩) (by assumption) ?rae_26
            case yae_26 => intro w hSw; (try dsimp only at hSw); go_simp <;> (try with_reducible rfl)
            (try simp only [List.getElem_toArray, List.getElem_cons_succ, List.getElem_cons_zero, Act.put, List.setIfInBounds_toArray, List.set_cons_zero, List.set_cons_succ])
            refine wpAnyH_done (by kernel_rfl) ?_ _
            clear hHeld K5_0 Z5_0 KQ
            have PA := PA.next hk20
            have B3 := B3.next hk20 B3.lt
            have B5 := B5.next hk20 B5.lt
            have PL := PL.next hk20
            have PU := PU.next hk20
            have PM := PM.next hk20
            have hbe := below_join hbe hk20
            clear hk20
            go_wp2
            go_ret
            exact ⟨rfl, hbe⟩
/-- Whatever comes in. -/
theorem dexLaw_any (A0 : Option Addr) (c0 : Nat) (la : List (List Int × List Int)) (pm pb lh : List Int) (w : World) (h1 : pm.length = 10) (h2 : pb.length = 10) (h3 : lh.length = 10) (hTa : Tens la) (hRa : RawAt w A0 la) (hn0 : A0 = none → la.length = 0 ∧ c0 = 0) (hcap : la.length ≤ c0) (hla : la.length * 160 ≤ 140737488351232) (hG : GOk w) :
    Calls Tryd.prog 9 #[.agg (pm.map iV ++ pb.map iV).toArray, .slice A0 la.length c0, .agg (lh.map iV).toArray] w fun e w' => e = .returned (.bool true) ∧ Below w.heap.size w w' := by
  have hT3 : Tens ((pm, pb) :: la) := fun x hx => by
    rcases List.mem_cons.1 hx with rfl | hx
    · exact ⟨h1, h2⟩
    · exact hTa x hx
  obtain ⟨F, hF1, hF2⟩ := few_bool ((pm, pb) :: la) 9 (1 + la.length) (by rw [List.length_cons]; omega) hT3 (by omega) (by decide)
  by_cases hg : F = true ∧ rightI lh
  · obtain ⟨ps, q1, q2, q3, q4⟩ := hF1.1 hg.1
    cases ps with
    | nil => cases q2
    | cons p qs =>
      have q2' : (HI p.m, HI p.b) :: rawOf qs = (pm, pb) :: la := q2
      injection q2' with e1 e2
      injection e1 with e1 e3
      obtain ⟨h, rfl⟩ := right_head h3 hg.2
      subst e1 e2 e3
      have la' : (rawOf qs).length = qs.length := by unfold rawOf; rw [List.length_map]
      rw [la'] at hn0 hcap ⊢
      have hl3 : (p :: qs).length = 1 + qs.length := by rw [List.length_cons]; omega
      rw [hl3] at q3 q4
      rw [← H_iV, ← H_iV, ← H_iV]
      exact dex_good A0 c0 qs p h w (fun q hq => q1 q (List.mem_cons_of_mem _ hq)) (q1 p (List.mem_cons_self ..)) (RawAt.pats hRa) hn0 hcap q3 q4 hG
  · exact dex_bad A0 c0 la pm pb lh w h1 h2 h3 hTa hRa hn0 hla hG F hF2 hg
end Go.Proofs.YtbldnhpbmfmepaaDoor
