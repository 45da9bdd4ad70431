/-
  The walk of BitsSetsAreDecided. Conditions: the library's variable lies there.
-/
import Derived.Test.YtbldnhpbmfmepaaDoorKSa
namespace Go.Proofs.YtbldnhpbmfmepaaDoor
set_option linter.unusedVariables false
set_option linter.unusedSimpArgs false
open Go.RowKit

set_option maxRecDepth 100000 in
set_option maxHeartbeats 6400000 in
theorem dec_bad (A0 A1 : Option Addr) (c0 c1 : Nat) (la lb : List (List Int × List Int)) (pm pb lh : List Int) (w : World) (h1 : pm.length = 10) (h2 : pb.length = 10) (h3 : lh.length = 10) (hTa : Tens la) (hTb : Tens lb) (hRa : RawAt w A0 la) (hRb : RawAt w A1 lb) (hn0 : A0 = none → la.length = 0 ∧ c0 = 0) (hn1 : A1 = none → lb.length = 0 ∧ c1 = 0) (hlb : lb.length * 160 ≤ 140737488351232) (hG : GOk w)
    (F : Bool) (hF : la.length ≤ 6 → ∀ (A : Option Addr) (c : Nat) (w : World), RawAt w A ((pm, pb) :: (la ++ lb)) → Calls Tryd.prog 52 #[.slice A (1 + la.length + lb.length) c, .int .i64 13] w fun e w' => e = .returned (.bool F) ∧ Below w.heap.size w w')
    (hbad : ¬ (la.length ≤ 6 ∧ F = true ∧ rightI lh)) :
    Calls Tryd.prog 10 #[.slice A0 la.length c0, .slice A1 lb.length c1, .agg (pm.map iV ++ pb.map iV).toArray, .agg (lh.map iV).toArray] w fun e w' => e = .returned (.bool true) ∧ Below w.heap.size w w' := by
  have c4 := fun w => heads_any lh lh w h3 h3
  obtain ⟨D, hD⟩ : ∃ D, (decide (rightI lh) && decide (rightI lh)) = D := ⟨_, rfl⟩
  have hno : Hid (¬ (la.length ≤ 6 ∧ F = true ∧ D = true)) := by
    have : ¬ (la.length ≤ 6 ∧ F = true ∧ D = true) := fun hc => hbad (by
      have a3 := hD.trans hc.2.2
      rw [Bool.and_self, decide_eq_true_eq] at a3
      exact ⟨hc.1, hc.2.1, a3⟩)
    exact this
  rw [hD] at c4
  have C4 := Lib.hid c4
  have HG := Lib.hid hG
  have hcA := hRa.cells hTa
  have hcB := hRb.cells hTb
  have hlA : (rawRow la).length = la.length * 20 := rawRow_length hTa
  have hlB : (rawRow lb).length = lb.length * 20 := rawRow_length hTb
  have hT3 : Tens ((pm, pb) :: (la ++ lb)) := fun x hx => by
    rcases List.mem_cons.1 hx with rfl | hx
    · exact ⟨h1, h2⟩
    · rcases List.mem_append.1 hx with hx | hx
      · exact hTa x hx
      · exact hTb x hx
  have hrow : rawRow ((pm, pb) :: (la ++ lb)) = rawCells (pm, pb) ++ (rawRow la ++ rawRow lb) := by
    show rawCells (pm, pb) ++ rawRow (la ++ lb) = _
    rw [show rawRow (la ++ lb) = rawRow la ++ rawRow lb from List.flatMap_append]
  have hlen : ((pm, pb) :: (la ++ lb)).length = 1 + la.length + lb.length := by rw [List.length_cons, List.length_append]; omega
  have hfin : ∀ w (v : Value), w.ownsRow 0 25 20 v (1 + la.length + lb.length) (rawCells (pm, pb) ++ (rawRow la ++ rawRow lb)) → ∃ A c, v = .slice A (1 + la.length + lb.length) c ∧ RawAt w A ((pm, pb) :: (la ++ lb)) := fun w v how => by
    obtain ⟨A, c, rfl, _⟩ := own_shape how
    rw [← hrow] at how
    exact ⟨A, c, rfl, own_raws hT3 hlen how⟩
  have HFIN := Lib.hid hfin
  have HF := Lib.hid hF
  have HCA := Lib.hid hcA
  have HCB := Lib.hid hcB
  have HLA := Lib.hid hlA
  have HLB := Lib.hid hlB
  have HN0 := Lib.hid hn0
  have HN1 := Lib.hid hn1
  have HP := Lib.hid (⟨h1, h2⟩ : (pm, pb).1.length = 10 ∧ (pm, pb).2.length = 10)
  have z1 : (Tryd.prog.info? 25).map (·.size) = some (pm.map iV ++ pb.map iV).length := by rw [List.length_append, List.length_map, List.length_map, h1, h2]; exact Tryd.szP
  have z2 : (Tryd.prog.info? 23).map (·.size) = some (lh.map iV).length := by rw [List.length_map, h3]; exact Tryd.szH
  have Z1 := Lib.hid z1
  have Z2 := Lib.hid z2
  obtain ⟨Ya, hYa⟩ : ∃ Y, Hid (rawRow la = Y) := ⟨_, rfl⟩
  obtain ⟨Yb, hYb⟩ : ∃ Y, Hid (rawRow lb = Y) := ⟨_, rfl⟩
  have Y1a := Lib.hid (rawRow_one la)
  have Y1b := Lib.hid (rawRow_one lb)
  rw [hYa.out] at HCA HLA Y1a HFIN
  rw [hYb.out] at HCB HLB Y1b HFIN
  obtain ⟨n, hn⟩ : ∃ n, Hid (la.length = n) := ⟨_, rfl⟩
  obtain ⟨m, hm⟩ : ∃ m, Hid (lb.length = m) := ⟨_, rfl⟩
  rw [hn.out] at HF HLA HN0 HFIN hno
  rw [hm.out] at HF HLB HN1 HFIN hlb
  rw [hn.out, hm.out]
  clear c4 h1 h2 h3 hTa hTb hRa hRb hn0 hn1 hG hF hbad hD hcA hcB hlA hlB hT3 hrow hlen hfin z1 z2
  go_enter Tryd.func10, Tryd.ntmps10
  go_wp2_with (with_reducible refine wpList_box (o := ⟨some 6, .box 25 (.tmp 2), _, _, _, _⟩) ?g6 25 (.tmp 2) ?o6 (.agg (pm.map iV ++ pb.map iV).toArray) (pm.map iV ++ pb.map iV) ?x6 ?c6 ?_)
  try (case g6 => rfl)
  try (case o6 => rfl)
  try (case x6 => rfl)
  try (case c6 => rfl)
  intro g6 w1 hg6 hs1 hb1 B6
  have hb1 := hb1.mono (Nat.le_of_eq hg6.out.symm)
  have hbe : Below w.heap.size w w1 := hb1
  clear hb1 hg6 hs1
  go_wp2_with (with_reducible refine wpList_box (o := ⟨some 7, .box 23 (.tmp 3), _, _, _, _⟩) ?g7 23 (.tmp 3) ?o7 (.agg (lh.map iV).toArray) (lh.map iV) ?x7 ?c7 ?_)
  try (case g7 => rfl)
  try (case o7 => rfl)
  try (case x7 => rfl)
  try (case c7 => rfl)
  intro g7 w2 hg7 hs2 hb2 B7
  have hb2 := hb2.mono (Nat.le_of_eq hg7.out.symm)
  have B6 := B6.next hb2 B6.lt
  have hbe := below_join hbe hb2
  clear hb2 hg7 hs2
  go_wp2_with fail
  (with_reducible refine (sanity_any _ (HG.out.next hbe)).mono ?_)
  rintro e w3 ⟨rfl, hb3⟩
  have B6 := B6.next hb3 B6.lt
  have B7 := B7.next hb3 B7.lt
  have hbe := below_join hbe hb3
  clear hb3
  by_cases hn6 : n ≤ 6
  · have hg6 : decide ((6 : Int) < (n : Int)) = false := decide_eq_false (by omega)
    have B6o := B6
    have B7o := B7
    have hbe0 := hbe
    go_wp2_with (first | (with_reducible refine wpList_getg (o := ⟨some 21, .load 25 (.tmp 6), _, _, _, _⟩) (by with_unfolding_all rfl) 25 (.tmp 6) (by with_unfolding_all rfl) g6 0 (by with_unfolding_all rfl) B6 (pm.map iV ++ pb.map iV) (cs_all _) _ (by exact Tryd.underlying25) (by with_unfolding_all rfl) (by (exact Z1.out)) ?_) | (with_reducible refine wpList_row1 (o := ⟨some 22, .buildSlice 31 1 #[(0, .tmp 21)], _, _, _, _⟩) (by with_unfolding_all rfl) (.tmp 21) (by with_unfolding_all rfl) (rawCells (pm, pb)) (by with_unfolding_all rfl) (rawCells_length HP.out) ?_))
    intro v0 w4 hb4 OW
    have B6 := B6.next hb4 B6.lt
    have B7 := B7.next hb4 B7.lt
    have hbe := below_join hbe hb4
    have hbx := hb4
    clear hb4
    have hbs := hbx.size
    go_wp2_with (first | (with_reducible refine wpList_appR _ (o := ⟨some 24, .call ⟨.builtin .append, #[.tmp 22, .tmp 23], #[31, 31]⟩, _, _, _, _⟩) (by with_unfolding_all rfl) (.tmp 22) (.tmp 23) (by with_unfolding_all rfl) w3.heap.size _ 1 (rawCells (pm, pb)) (by with_unfolding_all rfl) OW A0 n c0 Ya (by with_unfolding_all rfl) HLA.out (HCA.out.next hbe) Y1a.out HN0.out (by omega) hbs ?_))
    intro v1 w5 OW1 GR1
    have hbx := hbx.grown GR1 hbs (fun g hg => (OW.lt g hg).1)
    have hbe := below_join hbe0 hbx
    clear GR1 OW
    have hbs := hbx.size
    go_wp2_with (first | (with_reducible refine wpList_appR _ (o := ⟨some 26, .call ⟨.builtin .append, #[.tmp 24, .tmp 25], #[31, 31]⟩, _, _, _, _⟩) (by with_unfolding_all rfl) (.tmp 24) (.tmp 25) (by with_unfolding_all rfl) w3.heap.size _ (1 + n) ((rawCells (pm, pb)) ++ Ya) (by with_unfolding_all rfl) OW1 A1 m c1 Yb (by with_unfolding_all rfl) HLB.out (HCB.out.next hbe) Y1b.out HN1.out (by omega) hbs ?_))
    intro v2 w6 OW2 GR2
    have hbx := hbx.grown GR2 hbs (fun g hg => (OW1.lt g hg).1)
    have hbe := below_join hbe0 hbx
    clear GR2 OW1 hbs
    have B6 := B6o.next hbx B6o.lt
    clear B6o
    have B7 := B7o.next hbx B7o.lt
    clear B7o
    clear hbx hbe0
    obtain ⟨AF, cF, rfl, HRW⟩ := HFIN.out _ _ (own_mono OW2 (fun _ _ => Nat.zero_le _))
    clear OW2
    go_wp2_with fail
    (with_reducible refine (HF.out hn6 _ _ _ HRW).mono ?_)
    rintro e w7 ⟨rfl, hb7⟩
    have B6 := B6.next hb7 B6.lt
    have B7 := B7.next hb7 B7.lt
    have hbe := below_join hbe hb7
    clear hb7
    clear HRW
    rcases F with _ | _
    · go_wp2
      go_ret
      exact ⟨rfl, hbe⟩
    · skip
      go_wp2_with (first | (with_reducible refine wpList_getg (o := ⟨some 31, .load 23 (.tmp 7), _, _, _, _⟩) (by with_unfolding_all rfl) 23 (.tmp 7) (by with_unfolding_all rfl) g7 0 (by with_unfolding_all rfl) B7 (lh.map iV) (cs_all _) _ (by exact Tryd.underlying23) (by with_unfolding_all rfl) (by (exact Z2.out)) ?_) | (with_reducible refine wpList_getg (o := ⟨some 32, .load 23 (.tmp 7), _, _, _, _⟩) (by with_unfolding_all rfl) 23 (.tmp 7) (by with_unfolding_all rfl) g7 0 (by with_unfolding_all rfl) B7 (lh.map iV) (cs_all _) _ (by exact Tryd.underlying23) (by with_unfolding_all rfl) (by (exact Z2.out)) ?_))
      (with_reducible refine (C4.out _).mono ?_)
      rintro e w8 ⟨rfl, hb8⟩
      have B6 := B6.next hb8 B6.lt
      have B7 := B7.next hb8 B7.lt
      have hbe := below_join hbe hb8
      clear hb8
      rcases D with _ | _
      · go_wp2
        go_ret
        exact ⟨rfl, hbe⟩
      · exact absurd (by refine ⟨hn6, ?_, ?_⟩ <;> trivial) hno.out
  · have hg6 : decide ((6 : Int) < (n : Int)) = true := decide_eq_true (by omega)
    go_wp2
    go_ret
    exact ⟨rfl, hbe⟩
set_option maxRecDepth 100000 in
set_option maxHeartbeats 25600000 in
theorem dec_good (A0 A1 : Option Addr) (c0 c1 : Nat) (la lb : List Pat) (p : Pat) (h : Nat → Bool) (w : World) (hoa : ∀ q ∈ la, q.ok) (hob : ∀ q ∈ lb, q.ok) (hp : p.ok) (ha : PatsAt w A0 la) (hb : PatsAt w A1 lb) (hn0 : A0 = none → la.length = 0 ∧ c0 = 0) (hn1 : A1 = none → lb.length = 0 ∧ c1 = 0) (hg0 : ∀ g o, A0 = some ⟨g, o, none⟩ → g < w.heap.size) (hg1 : ∀ g o, A1 = some ⟨g, o, none⟩ → g < w.heap.size) (hla : la.length ≤ 6) (hlb : 1 + la.length + lb.length ≤ 13) (hcn : cnt (fixTo (p :: (la ++ lb)) (1 + la.length + lb.length)) 0 160 ≤ 12) (hG : GOk w) :
    Calls Tryd.prog 10 #[.slice A0 la.length c0, .slice A1 lb.length c1, .agg p.cells.toArray, .agg (H h).toArray] w fun e w' => e = .returned (.bool true) ∧ Below w.heap.size w w' := by
  have HG := Lib.hid hG
  have HP := Lib.hid hp
  have hcA := ha.cellsAt
  have hcB := hb.cellsAt
  have hrow : patCells (p :: (la ++ lb)) = p.cells ++ (patCells la ++ patCells lb) := by
    show p.cells ++ patCells (la ++ lb) = _
    rw [show patCells (la ++ lb) = patCells la ++ patCells lb from List.flatMap_append]
  have hlen : (p :: (la ++ lb)).length = 1 + la.length + lb.length := by rw [List.length_cons, List.length_append]; omega
  have hfin : ∀ w (v : Value), w.ownsRow 0 25 20 v (1 + la.length + lb.length) (p.cells ++ (patCells la ++ patCells lb)) → ∃ A c, v = .slice A (1 + la.length + lb.length) c ∧ PatsAt w A (p :: (la ++ lb)) := fun w v how => by
    obtain ⟨A, c, rfl, _⟩ := own_shape how
    rw [← hrow, ← hlen] at how
    exact ⟨A, c, rfl, own_pats how⟩
  have hfew : ∀ A c w, PatsAt w A (p :: (la ++ lb)) → Calls Tryd.prog 52 #[.slice A (1 + la.length + lb.length) c, .int .i64 13] w fun e w' => e = .returned (.bool true) ∧ Below w.heap.size w w' := fun A c w hw => by
    have := rfew_pats A c (p :: (la ++ lb)) 13 w (by rw [hlen]; omega) (by decide) (fun x hx => by
      rcases List.mem_cons.1 hx with rfl | hx
      · exact hp
      · rcases List.mem_append.1 hx with hx | hx
        · exact hoa x hx
        · exact hob x hx) hw
    rw [hlen, decide_eq_true hlb, decide_eq_true hcn] at this
    exact this
  -- how many match a head
  have hcnt : ∀ (l : List Pat) (g : Nat → Bool), (l.countP fun q => decide (q.hit g)) = 0 ↔ ¬ Pat.inSome l g := fun l g => by
    rw [List.countP_eq_zero]
    constructor
    · rintro h ⟨q, hq, hh⟩
      exact h q hq (by simpa using hh)
    · intro h q hq hh
      exact h ⟨q, hq, by simpa using hh⟩
  have hin : ∀ (A : Option Addr) (c : Nat) (l : List Pat) (g : Nat → Bool) (w : World), l.length ≤ 100 → PatsAt w A l → Calls Tryd.prog 70 #[.slice A l.length c, .agg (H g).toArray] w fun e w' => e = .returned (.int .i64 ((l.countP fun q => decide (q.hit g) : Nat) : Int)) ∧ Below w.heap.size w w' := fun A c l g w hl hw => rin_any A c l g w (by omega) hw
  obtain ⟨I1, hI1⟩ := bool_of (Pat.inSome la h)
  obtain ⟨I2, hI2⟩ := bool_of (Pat.inSome lb h)
  have gt0 : ∀ (l : List Pat) (g : Nat → Bool) (I : Bool), (I = true ↔ Pat.inSome l g) → decide ((((l.countP fun q => decide (q.hit g) : Nat) : Int)) > 0) = I := fun l g I hI => by
    cases I
    · have hh : ¬ Pat.inSome l g := fun hc => Bool.noConfusion (hI.2 hc)
      rw [(hcnt l g).2 hh]
      exact decide_eq_false (by decide)
    · have : (l.countP fun q => decide (q.hit g)) ≠ 0 := fun hc => (hcnt l g).1 hc (hI.1 rfl)
      exact decide_eq_true (by omega)
  obtain ⟨x1, hx1⟩ : ∃ x : Int, (((la.countP fun q => decide (q.hit h) : Nat) : Int)) = x := ⟨_, rfl⟩
  obtain ⟨x2, hx2⟩ : ∃ x : Int, (((lb.countP fun q => decide (q.hit h) : Nat) : Int)) = x := ⟨_, rfl⟩
  have e1 : decide (x1 > 0) = I1 := by rw [← hx1, gt0 la h I1 hI1]
  have e2 : decide (x2 > 0) = I2 := by rw [← hx2, gt0 lb h I2 hI2]
  have c1' := fun w hw => hin A0 c0 la h w (by omega) hw
  have c2' := fun w hw => hin A1 c1 lb h w (by omega) hw
  rw [hx1] at c1'
  rw [hx2] at c2'
  obtain ⟨Df, hDf⟩ : ∃ D : Bool, (!(I1 == I2)) = D := ⟨_, rfl⟩
  have hsame := fun w h1 h2 h3 h4 => sameSet_any c0 c1 A0 A1 la lb w hoa hob (by omega) (by omega) h1 h2 h3 h4
  have i1 := hI1
  have i2 := hI2
  have hodd : Df = true ↔ odd2 la lb h := by
    rw [← hDf]
    unfold odd2
    rw [← i1, ← i2]
    cases I1 <;> cases I2 <;> simp
  have hina := fun g w hw => hin A0 c0 la g w (by omega) hw
  have hinb := fun g w hw => hin A1 c1 lb g w (by omega) hw
  have hout := fun w h1 h3 => outside_any c0 A0 la p w hoa hp (by omega) h1 h3
  obtain ⟨M, hM⟩ : ∃ M, decide (p.hit h) = M := ⟨_, rfl⟩
  have c3' := fun w => rmatch_m w p h hM
  obtain ⟨Z, hZ⟩ : ∃ Z : Bool, decide (x1 = 0) = Z := ⟨_, rfl⟩
  have hZi : Z = true ↔ ¬ Pat.inSome la h := by
    rw [← hZ, ← hx1, decide_eq_true_eq, ← hcnt la h]
    omega
  obtain ⟨n, hn⟩ : ∃ n, la.length = n := ⟨_, rfl⟩
  obtain ⟨m, hm⟩ : ∃ m, lb.length = m := ⟨_, rfl⟩
  have hlA : (patCells la).length = n * 20 := by rw [patCells_length, hn]
  have hlB : (patCells lb).length = m * 20 := by rw [patCells_length, hm]
  have y1a := patCells_one la
  have y1b := patCells_one lb
  obtain ⟨Ya, hYa⟩ : ∃ Y, patCells la = Y := ⟨_, rfl⟩
  obtain ⟨Yb, hYb⟩ : ∃ Y, patCells lb = Y := ⟨_, rfl⟩
  rw [hYa] at hcA hlA y1a hfin
  rw [hYb] at hcB hlB y1b hfin
  rw [hn] at hfin hfew hn0 c1' hsame hina hout hla hlb
  rw [hm] at hfin hfew hn1 c2' hsame hinb hlb
  rw [hn, hm]
  have PA := ha
  have PB := hb
  have HFIN := Lib.hid hfin
  have HF := Lib.hid hfew
  have HCA := Lib.hid hcA
  have HCB := Lib.hid hcB
  have HLA := Lib.hid hlA
  have HLB := Lib.hid hlB
  have Y1a := Lib.hid y1a
  have Y1b := Lib.hid y1b
  have HN0 := Lib.hid hn0
  have HN1 := Lib.hid hn1
  have C1 := Lib.hid c1'
  have C2 := Lib.hid c2'
  have C3 := Lib.hid c3'
  have HSAME := Lib.hid hsame
  have HODD := Lib.hid hodd
  have HINA := Lib.hid hina
  have HINB := Lib.hid hinb
  have HOUT := Lib.hid hout
  have HM := Lib.hid hM
  have HZI := Lib.hid hZi
  have HCNT := Lib.hid hcnt
  have HGT := Lib.hid gt0
  have HG0 := Lib.hid hg0
  have HG1 := Lib.hid hg1
  have HX1 := Lib.hid hx1
  have g1 : ∀ w, (binOp .gtr 3 (.int .i64 x1) (.int .i64 0)).run Tryd.prog w = .ok (.bool I1) w := fun w => by rw [← e1]; rfl
  have g2 : ∀ w, (binOp .gtr 3 (.int .i64 x2) (.int .i64 0)).run Tryd.prog w = .ok (.bool I2) w := fun w => by rw [← e2]; rfl
  have G1 := Lib.hid g1
  have G2 := Lib.hid g2
  have e3 : decide (0 < x1) = I1 := e1
  have z2 : (x1 == 0) = Z := by rw [← hZ]; rfl
  have e4 : decide (0 < x2) = I2 := e2
  have n6 : decide ((6 : Int) < (n : Int)) = false := decide_eq_false (by omega)
  clear hfin hfew hcA hcB hlA hlB y1a y1b hn0 hn1 c1' c2' c3' hsame hodd hina hinb hout hM hZi hcnt gt0 hg0 hg1 hn hm hYa hYb hin hrow hlen hoa hob hp ha hb hI1 hI2 hx1 hx2 hG hcn i1 i2
  go_enter Tryd.func10, Tryd.ntmps10
  go_wp2_with (with_reducible refine wpList_box (o := ⟨some 6, .box 25 (.tmp 2), _, _, _, _⟩) ?g6 25 (.tmp 2) ?o6 (.agg p.cells.toArray) p.cells ?x6 ?c6 ?_)
  try (case g6 => rfl)
  try (case o6 => rfl)
  try (case x6 => rfl)
  try (case c6 => rfl)
  intro g6 w1 hg6 hs1 hb1 B6
  have hb1 := hb1.mono (Nat.le_of_eq hg6.out.symm)
  have PA := PA.next hb1
  have PB := PB.next hb1
  have hbe : Below w.heap.size w w1 := hb1
  clear hb1 hg6 hs1
  go_wp2_with (with_reducible refine wpList_box (o := ⟨some 7, .box 23 (.tmp 3), _, _, _, _⟩) ?g7 23 (.tmp 3) ?o7 (.agg (H h).toArray) (H h) ?x7 ?c7 ?_)
  try (case g7 => rfl)
  try (case o7 => rfl)
  try (case x7 => rfl)
  try (case c7 => rfl)
  intro g7 w2 hg7 hs2 hb2 B7
  have hb2 := hb2.mono (Nat.le_of_eq hg7.out.symm)
  have PA := PA.next hb2
  have PB := PB.next hb2
  have B6 := B6.next hb2 B6.lt
  have hbe := below_join hbe hb2
  clear hb2 hg7 hs2
  go_wp2_with fail
  (with_reducible refine (sanity_any _ (HG.out.next hbe)).mono ?_)
  rintro e w3 ⟨rfl, hb3⟩
  have PA := PA.next hb3
  have PB := PB.next hb3
  have B6 := B6.next hb3 B6.lt
  have B7 := B7.next hb3 B7.lt
  have hbe := below_join hbe hb3
  clear hb3
  have PAo := PA
  have PBo := PB
  have B6o := B6
  have B7o := B7
  have hbe0 := hbe
  go_wp2_with (first | (with_reducible refine wpList_getg (o := ⟨some 21, .load 25 (.tmp 6), _, _, _, _⟩) (by with_unfolding_all rfl) 25 (.tmp 6) (by with_unfolding_all rfl) g6 0 (by with_unfolding_all rfl) B6 p.cells (cs_all _) _ (by exact Tryd.underlying25) (by with_unfolding_all rfl) (by (rw [Pat.cells_length]; exact Tryd.szP)) ?_) | (with_reducible refine wpList_row1 (o := ⟨some 22, .buildSlice 31 1 #[(0, .tmp 21)], _, _, _, _⟩) (by with_unfolding_all rfl) (.tmp 21) (by with_unfolding_all rfl) p.cells (by with_unfolding_all rfl) (Pat.cells_length p) ?_))
  intro v0 w4 hb4 OW
  have PA := PA.next hb4
  have PB := PB.next hb4
  have B6 := B6.next hb4 B6.lt
  have B7 := B7.next hb4 B7.lt
  have hbe := below_join hbe hb4
  have hbx := hb4
  clear hb4
  have hbs := hbx.size
  go_wp2_with (first | (with_reducible refine wpList_appR _ (o := ⟨some 24, .call ⟨.builtin .append, #[.tmp 22, .tmp 23], #[31, 31]⟩, _, _, _, _⟩) (by with_unfolding_all rfl) (.tmp 22) (.tmp 23) (by with_unfolding_all rfl) w3.heap.size _ 1 p.cells (by with_unfolding_all rfl) OW A0 n c0 Ya (by with_unfolding_all rfl) HLA.out (HCA.out.next hbe) Y1a.out HN0.out (by omega) hbs ?_))
  intro v1 w5 OW1 GR1
  have hbx := hbx.grown GR1 hbs (fun g hg => (OW.lt g hg).1)
  have hbe := below_join hbe0 hbx
  clear GR1 OW
  have hbs := hbx.size
  go_wp2_with (first | (with_reducible refine wpList_appR _ (o := ⟨some 26, .call ⟨.builtin .append, #[.tmp 24, .tmp 25], #[31, 31]⟩, _, _, _, _⟩) (by with_unfolding_all rfl) (.tmp 24) (.tmp 25) (by with_unfolding_all rfl) w3.heap.size _ (1 + n) (p.cells ++ Ya) (by with_unfolding_all rfl) OW1 A1 m c1 Yb (by with_unfolding_all rfl) HLB.out (HCB.out.next hbe) Y1b.out HN1.out (by omega) hbs ?_))
  intro v2 w6 OW2 GR2
  have hbx := hbx.grown GR2 hbs (fun g hg => (OW1.lt g hg).1)
  have hbe := below_join hbe0 hbx
  clear GR2 OW1 hbs
  have PA := PAo.next hbx
  clear PAo
  have PB := PBo.next hbx
  clear PBo
  have B6 := B6o.next hbx B6o.lt
  clear B6o
  have B7 := B7o.next hbx B7o.lt
  clear B7o
  clear hbx hbe0
  obtain ⟨AF, cF, rfl, HRW⟩ := HFIN.out _ _ (own_mono OW2 (fun _ _ => Nat.zero_le _))
  clear OW2
  go_wp2_with fail
  (with_reducible refine (HF.out _ _ _ HRW).mono ?_)
  rintro e w7 ⟨rfl, hb7⟩
  have PA := PA.next hb7
  have PB := PB.next hb7
  have B6 := B6.next hb7 B6.lt
  have B7 := B7.next hb7 B7.lt
  have hbe := below_join hbe hb7
  clear hb7
  clear HRW
  go_wp2_with (first | (with_reducible refine wpList_getg (o := ⟨some 31, .load 23 (.tmp 7), _, _, _, _⟩) (by with_unfolding_all rfl) 23 (.tmp 7) (by with_unfolding_all rfl) g7 0 (by with_unfolding_all rfl) B7 (H h) (cs_all _) _ (by exact Tryd.underlying23) (by with_unfolding_all rfl) (by (rw [H_length]; exact Tryd.szH)) ?_) | (with_reducible refine wpList_getg (o := ⟨some 32, .load 23 (.tmp 7), _, _, _, _⟩) (by with_unfolding_all rfl) 23 (.tmp 7) (by with_unfolding_all rfl) g7 0 (by with_unfolding_all rfl) B7 (H h) (cs_all _) _ (by exact Tryd.underlying23) (by with_unfolding_all rfl) (by (rw [H_length]; exact Tryd.szH)) ?_))
  (with_reducible refine (heads_h _ _ _).mono ?_)
  rintro e w8 ⟨rfl, hb8⟩
  have PA := PA.next hb8
  have PB := PB.next hb8
  have B6 := B6.next hb8 B6.lt
  have B7 := B7.next hb8 B7.lt
  have hbe := below_join hbe hb8
  clear hb8
  go_wp2
  have hdd := below_drew w8
  have K7_0 : Hid (∀ w', Below w8.heap.size w8 w' → w'.rangeAt g7 0 (H h)) := (fun w' h => blk_range (B7.next h B7.lt) : ∀ w', Below w8.heap.size w8 w' → w'.rangeAt g7 0 (H h))
  have Z7_0 : (Tryd.prog.info? 23).map (·.size) = some (H h).length := by (rw [H_length]; exact Tryd.szH)
  refine wp_region_held_drew (S := fun w' => Below w8.heap.size w8 w') (by kernel_rfl) hdd (fun hHeld => ?_)
  generalize w8.drew = wd at hdd hHeld ⊢
  refine wpAnyH_take (i := 0) (v := ?vaa_0) rfl (by kernel_rfl) (by kernel_rfl) (by kernel_rfl) (fun _ _ _ h => h) (Or.inl ⟨by rfl, ?yaa_0⟩) (by assumption) ?raa_0
  case yaa_0 => intro w hSw; (try dsimp only at hSw); go_simp <;> (try with_reducible rfl)
  (try simp only [List.getElem_toArray, List.getElem_cons_zero, Act.put, List.setIfInBounds_toArray, List.set_cons_zero, List.set_cons_succ])
  refine' wpAnyH_take (i := 1) (v := _) rfl (by kernel_rfl) (by kernel_rfl) (by kernel_rfl) (fun _ _ _ h => h) (yieldsIf_load_mid (by rfl) _ _ (by rfl) _ _ (by rfl) _ _ ?Saa_1 ?uaa_1 ?daa_1 ?iaa_1) (by assumption) ?raa_1
  case Saa_1 => exact (by intro w h; exact K7_0.out _ h)
  case uaa_1 => exact Tryd.underlying23
  case daa_1 => rfl
  case iaa_1 => exact Z7_0
  (try simp only [List.getElem_toArray, List.getElem_cons_succ, List.getElem_cons_zero, Act.put, List.setIfInBounds_toArray, List.set_cons_zero, List.set_cons_succ])
  refine wpAnyH_take (i := 4) (v := ?vaa_4) rfl (by kernel_rfl) (by kernel_rfl) (by kernel_rfl) (fun _ _ _ h => h) (Or.inl ⟨by rfl, ?yaa_4⟩) (by assumption) ?raa_4
  case yaa_4 => intro w hSw; (try dsimp only at hSw); go_simp <;> (try with_reducible rfl)
  (try simp only [List.getElem_toArray, List.getElem_cons_succ, List.getElem_cons_zero, Act.put, List.setIfInBounds_toArray, List.set_cons_zero, List.set_cons_succ])
  refine' wpAnyH_take (i := 5) (v := _) rfl (by kernel_rfl) (by kernel_rfl) (by kernel_rfl) (fun _ _ _ h => h) (yieldsIf_load_mid (by rfl) _ _ (by rfl) _ _ (by rfl) _ _ ?Saa_5 ?uaa_5 ?daa_5 ?iaa_5) (by assumption) ?raa_5
  case Saa_5 => exact (by intro w h; exact K7_0.out _ h)
  case uaa_5 => exact Tryd.underlying23
  case daa_5 => rfl
  case iaa_5 => exact Z7_0
  (try simp only [List.getElem_toArray, List.getElem_cons_succ, List.getElem_cons_zero, Act.put, List.setIfInBounds_toArray, List.set_cons_zero, List.set_cons_succ])
  refine wpAnyH_ready (rs := [2]) (by kernel_rfl) (by simp) ?_
  refine AllReadyH.cons rfl (fun K hK => ?_) AllReadyH.nil
  go_simp
  go_wp2_with fail
  (with_reducible refine (C1.out _ (PA.next hdd)).mono ?_)
  rintro e w9 ⟨rfl, hb9⟩
  have hk9 := below_join hdd hb9
  refine hK.out _ _ hk9 (fun hHeld => ?_)
  clear hK K hb9 hdd
  refine wpAnyH_take (i := 3) (v := ?vaa_3) rfl (by kernel_rfl) (by kernel_rfl) (by kernel_rfl) (fun _ _ _ h => h) (Or.inl ⟨by rfl, ?yaa_3⟩) (by assumption) ?raa_3
  case yaa_3 => intro w hSw; (try dsimp only at hSw); go_simp <;> (try with_reducible rfl)
  (try simp only [List.getElem_toArray, List.getElem_cons_succ, List.getElem_cons_zero, Act.put, List.setIfInBounds_toArray, List.set_cons_zero, List.set_cons_succ])
  refine wpAnyH_ready (rs := [6]) (by kernel_rfl) (by simp) ?_
  refine AllReadyH.cons rfl (fun K hK => ?_) AllReadyH.nil
  go_simp
  go_wp2_with fail
  (with_reducible refine (C2.out _ (PB.next hk9)).mono ?_)
  rintro e w10 ⟨rfl, hb10⟩
  have hk10 := below_join hk9 hb10
  refine hK.out _ _ hk10 (fun hHeld => ?_)
  clear hK K hb10 hk9
  refine wpAnyH_take (i := 7) (v := ?vaa_7) rfl (by kernel_rfl) (by kernel_rfl) (by kernel_rfl) (fun _ _ _ h => h) (Or.inl ⟨by rfl, ?yaa_7⟩) (by assumption) ?raa_7
  case yaa_7 => intro w hSw; (try dsimp only at hSw); go_simp <;> (try with_reducible rfl)
  (try simp only [List.getElem_toArray, List.getElem_cons_succ, List.getElem_cons_zero, Act.put, List.setIfInBounds_toArray, List.set_cons_zero, List.set_cons_succ])
  refine wpAnyH_take (i := 8) (v := ?vaa_8) rfl (by kernel_rfl) (by kernel_rfl) (by kernel_rfl) (fun _ _ _ h => h) (Or.inl ⟨by rfl, ?yaa_8⟩) (by assumption) ?raa_8
  case yaa_8 => intro w hSw; (try dsimp only at hSw); go_simp <;> (try with_reducible rfl)
  (try simp only [List.getElem_toArray, List.getElem_cons_succ, List.getElem_cons_zero, Act.put, List.setIfInBounds_toArray, List.set_cons_zero, List.set_cons_succ])
  refine wpAnyH_take (i := 9) (v := ?vaa_9) rfl (by kernel_rfl) (by kernel_rfl) (by kernel_rfl) (fun _ _ _ h => h) (Or.inl ⟨by rfl, ?yaa_9⟩) (by assumption) ?raa_9
  case yaa_9 => intro w hSw; (try dsimp only at hSw); go_simp <;> (try with_reducible rfl)
  (try simp only [List.getElem_toArray, List.getElem_cons_succ, List.getElem_cons_zero, Act.put, List.setIfInBounds_toArray, List.set_cons_zero, List.set_cons_succ])
  refine wpAnyH_done (by kernel_rfl) ?_ _
  clear hHeld K7_0 Z7_0
  have PA := PA.next hk10
  have PB := PB.next hk10
  have B6 := B6.next hk10 B6.lt
  have B7 := B7.next hk10 B7.lt
  have hbe := below_join hbe hk10
  clear hk10
  go_wp2_with fail
  (with_reducible refine (HSAME.out _ PA PB (fun g o e => by have := HG0.out g o e; have := hbe.size; omega) (fun g o e => by have := HG1.out g o e; have := hbe.size; omega)).mono ?_)
  rintro e w11 ⟨R, rfl, hR, hb11⟩
  have PA := PA.next hb11
  have PB := PB.next hb11
  have B6 := B6.next hb11 B6.lt
  have B7 := B7.next hb11 B7.lt
  have hbe := below_join hbe hb11
  clear hb11
  rcases hR with ⟨hR0, hR1⟩ | ⟨m1, hR0, hR1, hR2⟩
  · subst hR0
    have hdf : Df = false := by
      cases hd : Df
      · rfl
      · exact absurd (HODD.out.1 hd) (hR1 h)
    subst hdf
    clear hR1
    dsimp only [sameV]
    go_wp2_with (with_reducible refine wpList_alloc (o := ⟨some 11, .alloc 23, _, _, _, _⟩) (by with_unfolding_all rfl) 23 (by with_unfolding_all rfl) (.agg (H no).toArray) (H no) (by exact Tryd.zeroH) (by with_unfolding_all rfl) ?_)
    intro g11 w12 hg11 hs12 hb12 hB12
    have hl12 : w11.heap.size ≤ g11 := Nat.le_of_eq hg11.out.symm
    have hb12 := hb12.mono hl12
    go_wp2_with (with_reducible refine wpList_put (o := ⟨none, .store 23 (.tmp 11) (.tmp 50), _, _, _, _⟩) (by with_unfolding_all rfl) 23 (.tmp 11) (.tmp 50) (by with_unfolding_all rfl) g11 0 (by with_unfolding_all rfl) (.agg (H no).toArray) (by with_unfolding_all rfl) hB12 (H no) (by with_unfolding_all rfl) (by with_unfolding_all (rw [H_length]; exact Tryd.szH)) (by with_unfolding_all (simp only [H_length] <;> omega)) (by with_unfolding_all (exact H_one _)) ?_)
    intro w13 hu13 B11
    rw [splice_all _ _ (by simp only [H_length])] at B11
    have hb13 := hb12.trans (hu13.below (B := w11.heap.size) hl12)
    have PA := PA.next hb13
    have PB := PB.next hb13
    have B6 := B6.next hb13 B6.lt
    have B7 := B7.next hb13 B7.lt
    have hbe := below_join hbe hb13
    clear hb12 hb13 hu13 hB12 hl12 hg11 hs12
    go_wp2
    have hdd := below_drew w13
    refine wp_region_held_drew (S := fun w' => Below w13.heap.size w13 w') (by kernel_rfl) hdd (fun hHeld => ?_)
    generalize w13.drew = wd at hdd hHeld ⊢
    refine wpAnyH_take (i := 0) (v := ?vab_0) rfl (by kernel_rfl) (by kernel_rfl) (by kernel_rfl) (fun _ _ _ h => h) (Or.inl ⟨by rfl, ?yab_0⟩) (by assumption) ?rab_0
    case yab_0 => intro w hSw; (try dsimp only at hSw); go_simp <;> (try with_reducible rfl)
    (try simp only [List.getElem_toArray, List.getElem_cons_zero, Act.put, List.setIfInBounds_toArray, List.set_cons_zero, List.set_cons_succ])
    refine wpAnyH_take (i := 1) (v := ?vab_1) rfl (by kernel_rfl) (by kernel_rfl) (by kernel_rfl) (fun _ _ _ h => h) (Or.inl ⟨by rfl, ?yab_1⟩) (by assumption) ?rab_1
    case yab_1 => intro w hSw; (try dsimp only at hSw); go_simp <;> (try with_reducible rfl)
    (try simp only [List.getElem_toArray, List.getElem_cons_succ, List.getElem_cons_zero, Act.put, List.setIfInBounds_toArray, List.set_cons_zero, List.set_cons_succ])
    refine wpAnyH_take (i := 2) (v := ?vab_2) rfl (by kernel_rfl) (by kernel_rfl) (by kernel_rfl) (fun _ _ _ h => h) (Or.inl ⟨by rfl, ?yab_2⟩) (by assumption) ?rab_2
    case yab_2 => intro w hSw; (try dsimp only at hSw); go_simp <;> (try with_reducible rfl)
    (try simp only [List.getElem_toArray, List.getElem_cons_succ, List.getElem_cons_zero, Act.put, List.setIfInBounds_toArray, List.set_cons_zero, List.set_cons_succ])
    refine wpAnyH_take (i := 3) (v := ?vab_3) rfl (by kernel_rfl) (by kernel_rfl) (by kernel_rfl) (fun _ _ _ h => h) (Or.inl ⟨by rfl, ?yab_3⟩) (by assumption) ?rab_3
    case yab_3 => intro w hSw; (try dsimp only at hSw); go_simp <;> (try with_reducible rfl)
    (try simp only [List.getElem_toArray, List.getElem_cons_succ, List.getElem_cons_zero, Act.put, List.setIfInBounds_toArray, List.set_cons_zero, List.set_cons_succ])
    refine wpAnyH_take (i := 4) (v := ?vab_4) rfl (by kernel_rfl) (by kernel_rfl) (by kernel_rfl) (fun _ _ _ h => h) (Or.inl ⟨by rfl, ?yab_4⟩) (by assumption) ?rab_4
    case yab_4 => intro w hSw; (try dsimp only at hSw); go_simp <;> (try with_reducible rfl)
    (try simp only [List.getElem_toArray, List.getElem_cons_succ, List.getElem_cons_zero, Act.put, List.setIfInBounds_toArray, List.set_cons_zero, List.set_cons_succ])
    refine wpAnyH_take (i := 5) (v := ?vab_5) rfl (by kernel_rfl) (by kernel_rfl) (by kernel_rfl) (fun _ _ _ h => h) (Or.inl ⟨by rfl, ?yab_5⟩) (by assumption) ?rab_5
    case yab_5 => intro w hSw; (try dsimp only at hSw); go_simp <;> (try with_reducible rfl)
    (try simp only [List.getElem_toArray, List.getElem_cons_succ, List.getElem_cons_zero, Act.put, List.setIfInBounds_toArray, List.set_cons_zero, List.set_cons_succ])
    refine wpAnyH_take (i := 6) (v := ?vab_6) rfl (by kernel_rfl) (by kernel_rfl) (by kernel_rfl) (fun _ _ _ h => h) (Or.inl ⟨by rfl, ?yab_6⟩) (by assumption) ?rab_6
    case yab_6 => intro w hSw; (try dsimp only at hSw); go_simp <;> (try with_reducible rfl)
    (try simp only [List.getElem_toArray, List.getElem_cons_succ, List.getElem_cons_zero, Act.put, List.setIfInBounds_toArray, List.set_cons_zero, List.set_cons_succ])
    refine wpAnyH_take (i := 7) (v := ?vab_7) rfl (by kernel_rfl) (by kernel_rfl) (by kernel_rfl) (fun _ _ _ h => h) (Or.inl ⟨by rfl, ?yab_7⟩) (by assumption) ?rab_7
    case yab_7 => intro w hSw; (try dsimp only at hSw); go_simp <;> (try with_reducible rfl)
    (try simp only [List.getElem_toArray, List.getElem_cons_succ, List.getElem_cons_zero, Act.put, List.setIfInBounds_toArray, List.set_cons_zero, List.set_cons_succ])
    refine wpAnyH_take (i := 8) (v := undef) rfl (by kernel_rfl) (by kernel_rfl) (by kernel_rfl) (fun _ _ _ h => h) (Or.inr ⟨by rfl, rfl⟩) (by assumption) ?rab_8
    (try simp only [List.getElem_toArray, List.getElem_cons_succ, List.getElem_cons_zero, Act.put, List.setIfInBounds_toArray, List.set_cons_zero, List.set_cons_succ])
    refine wpAnyH_take (i := 9) (v := undef) rfl (by kernel_rfl) (by kernel_rfl) (by kernel_rfl) (fun _ _ _ h => h) (Or.inr ⟨by rfl, rfl⟩) (by assumption) ?rab_9
    (try simp only [List.getElem_toArray, List.getElem_cons_succ, List.getElem_cons_zero, Act.put, List.setIfInBounds_toArray, List.set_cons_zero, List.set_cons_succ])
    refine wpAnyH_take (i := 10) (v := undef) rfl (by kernel_rfl) (by kernel_rfl) (by kernel_rfl) (fun _ _ _ h => h) (Or.inr ⟨by rfl, rfl⟩) (by assumption) ?rab_10
    (try simp only [List.getElem_toArray, List.getElem_cons_succ, List.getElem_cons_zero, Act.put, List.setIfInBounds_toArray, List.set_cons_zero, List.set_cons_succ])
    refine wpAnyH_take (i := 11) (v := undef) rfl (by kernel_rfl) (by kernel_rfl) (by kernel_rfl) (fun _ _ _ h => h) (Or.inr ⟨by rfl, rfl⟩) (by assumption) ?rab_11
    (try simp only [List.getElem_toArray, List.getElem_cons_succ, List.getElem_cons_zero, Act.put, List.setIfInBounds_toArray, List.set_cons_zero, List.set_cons_succ])
    refine wpAnyH_take (i := 12) (v := undef) rfl (by kernel_rfl) (by kernel_rfl) (by kernel_rfl) (fun _ _ _ h => h) (Or.inr ⟨by rfl, rfl⟩) (by assumption) ?rab_12
    (try simp only [List.getElem_toArray, List.getElem_cons_succ, List.getElem_cons_zero, Act.put, List.setIfInBounds_toArray, List.set_cons_zero, List.set_cons_succ])
    refine wpAnyH_take (i := 13) (v := undef) rfl (by kernel_rfl) (by kernel_rfl) (by kernel_rfl) (fun _ _ _ h => h) (Or.inr ⟨by rfl, rfl⟩) (by assumption) ?rab_13
    (try simp only [List.getElem_toArray, List.getElem_cons_succ, List.getElem_cons_zero, Act.put, List.setIfInBounds_toArray, List.set_cons_zero, List.set_cons_succ])
    refine wpAnyH_take (i := 14) (v := undef) rfl (by kernel_rfl) (by kernel_rfl) (by kernel_rfl) (fun _ _ _ h => h) (Or.inr ⟨by rfl, rfl⟩) (by assumption) ?rab_14
    (try simp only [List.getElem_toArray, List.getElem_cons_succ, List.getElem_cons_zero, Act.put, List.setIfInBounds_toArray, List.set_cons_zero, List.set_cons_succ])
    refine wpAnyH_take (i := 15) (v := undef) rfl (by kernel_rfl) (by kernel_rfl) (by kernel_rfl) (fun _ _ _ h => h) (Or.inr ⟨by rfl, rfl⟩) (by assumption) ?rab_15
    (try simp only [List.getElem_toArray, List.getElem_cons_succ, List.getElem_cons_zero, Act.put, List.setIfInBounds_toArray, List.set_cons_zero, List.set_cons_succ])
    refine wpAnyH_take (i := 16) (v := undef) rfl (by kernel_rfl) (by kernel_rfl) (by kernel_rfl) (fun _ _ _ h => h) (Or.inr ⟨by rfl, rfl⟩) (by assumption) ?rab_16
    (try simp only [List.getElem_toArray, List.getElem_cons_succ, List.getElem_cons_zero, Act.put, List.setIfInBounds_toArray, List.set_cons_zero, List.set_cons_succ])
    refine wpAnyH_take (i := 17) (v := ?vab_17) rfl (by kernel_rfl) (by kernel_rfl) (by kernel_rfl) (fun _ _ _ h => h) (Or.inl ⟨by rfl, ?yab_17⟩) (by assumption) ?rab_17
    case yab_17 => intro w hSw; (try dsimp only at hSw); go_simp <;> (try with_reducible rfl)
    (try simp only [List.getElem_toArray, List.getElem_cons_succ, List.getElem_cons_zero, Act.put, List.setIfInBounds_toArray, List.set_cons_zero, List.set_cons_succ])
    refine wpAnyH_take (i := 18) (v := ?vab_18) rfl (by kernel_rfl) (by kernel_rfl) (by kernel_rfl) (fun _ _ _ h => h) (Or.inl ⟨by rfl, ?yab_18⟩) (by assumption) ?rab_18
    case yab_18 => intro w hSw; (try dsimp only at hSw); go_simp <;> (try with_reducible rfl)
    (try simp only [List.getElem_toArray, List.getElem_cons_succ, List.getElem_cons_zero, Act.put, List.setIfInBounds_toArray, List.set_cons_zero, List.set_cons_succ])
    refine wpAnyH_take (i := 19) (v := ?vab_19) rfl (by kernel_rfl) (by kernel_rfl) (by kernel_rfl) (fun _ _ _ h => h) (Or.inl ⟨by rfl, ?yab_19⟩) (by assumption) ?rab_19
    case yab_19 => intro w hSw; (try dsimp only at hSw); go_simp <;> (try with_reducible rfl)
    (try simp only [List.getElem_toArray, List.getElem_cons_succ, List.getElem_cons_zero, Act.put, List.setIfInBounds_toArray, List.set_cons_zero, List.set_cons_succ])
    refine wpAnyH_take (i := 20) (v := ?vab_20) rfl (by kernel_rfl) (by kernel_rfl) (by kernel_rfl) (fun _ _ _ h => h) (Or.inl ⟨by rfl, ?yab_20⟩) (by assumption) ?rab_20
    case yab_20 => intro w hSw; (try dsimp only at hSw); go_simp <;> (try with_reducible rfl)
    (try simp only [List.getElem_toArray, List.getElem_cons_succ, List.getElem_cons_zero, Act.put, List.setIfInBounds_toArray, List.set_cons_zero, List.set_cons_succ])
    refine wpAnyH_take (i := 21) (v := ?vab_21) rfl (by kernel_rfl) (by kernel_rfl) (by kernel_rfl) (fun _ _ _ h => h) (Or.inl ⟨by rfl, ?yab_21⟩) (by assumption) ?rab_21
    case yab_21 => intro w hSw; (try dsimp only at hSw); go_simp <;> (try with_reducible rfl)
    (try simp only [List.getElem_toArray, List.getElem_cons_succ, List.getElem_cons_zero, Act.put, List.setIfInBounds_toArray, List.set_cons_zero, List.set_cons_succ])
    refine wpAnyH_take (i := 22) (v := ?vab_22) rfl (by kernel_rfl) (by kernel_rfl) (by kernel_rfl) (fun _ _ _ h => h) (Or.inl ⟨by rfl, ?yab_22⟩) (by assumption) ?rab_22
    case yab_22 => intro w hSw; (try dsimp only at hSw); go_simp <;> (try with_reducible rfl)
    (try simp only [List.getElem_toArray, List.getElem_cons_succ, List.getElem_cons_zero, Act.put, List.setIfInBounds_toArray, List.set_cons_zero, List.set_cons_succ])
    refine wpAnyH_take (i := 23) (v := undef) rfl (by kernel_rfl) (by kernel_rfl) (by kernel_rfl) (fun _ _ _ h => h) (Or.inr ⟨by rfl, rfl⟩) (by assumption) ?rab_23
    (try simp only [List.getElem_toArray, List.getElem_cons_succ, List.getElem_cons_zero, Act.put, List.setIfInBounds_toArray, List.set_cons_zero, List.set_cons_succ])
    refine wpAnyH_take (i := 24) (v := ?vab_24) rfl (by kernel_rfl) (by kernel_rfl) (by kernel_rfl) (fun _ _ _ h => h) (Or.inl ⟨by rfl, ?yab_24⟩) (by assumption) ?rab_24
    case yab_24 => intro w hSw; (try dsimp only at hSw); go_simp <;> (try with_reducible rfl)
    (try simp only [List.getElem_toArray, List.getElem_cons_succ, List.getElem_cons_zero, Act.put, List.setIfInBounds_toArray, List.set_cons_zero, List.set_cons_succ])
    refine wpAnyH_take (i := 25) (v := ?vab_25) rfl (by kernel_rfl) (by kernel_rfl) (by kernel_rfl) (fun _ _ _ h => h) (Or.inl ⟨by rfl, ?yab_25⟩) (by assumption) ?rab_25
    case yab_25 => intro w hSw; (try dsimp only at hSw); go_simp <;> (try with_reducible rfl)
    (try simp only [List.getElem_toArray, List.getElem_cons_succ, List.getElem_cons_zero, Act.put, List.setIfInBounds_toArray, List.set_cons_zero, List.set_cons_succ])
    refine wpAnyH_take (i := 26) (v := undef) rfl (by kernel_rfl) (by kernel_rfl) (by kernel_rfl) (fun _ _ _ h => h) (Or.inr ⟨by rfl, rfl⟩) (by assumption) ?rab_26
    (try simp only [List.getElem_toArray, List.getElem_cons_succ, List.getElem_cons_zero, Act.put, List.setIfInBounds_toArray, List.set_cons_zero, List.set_cons_succ])
    refine wpAnyH_take (i := 27) (v := undef) rfl (by kernel_rfl) (by kernel_rfl) (by kernel_rfl) (fun _ _ _ h => h) (Or.inr ⟨by rfl, rfl⟩) (by assumption) ?rab_27
    (try simp only [List.getElem_toArray, List.getElem_cons_succ, List.getElem_cons_zero, Act.put, List.setIfInBounds_toArray, List.set_cons_zero, List.set_cons_succ])
    refine wpAnyH_take (i := 28) (v := undef) rfl (by kernel_rfl) (by kernel_rfl) (by kernel_rfl) (fun _ _ _ h => h) (Or.inr ⟨by rfl, rfl⟩) (by assumption) ?rab_28
    (try simp only [List.getElem_toArray, List.getElem_cons_succ, List.getElem_cons_zero, Act.put, List.setIfInBounds_toArray, List.set_cons_zero, List.set_cons_succ])
    refine wpAnyH_take (i := 29) (v := undef) rfl (by kernel_rfl) (by kernel_rfl) (by kernel_rfl) (fun _ _ _ h => h) (Or.inr ⟨by rfl, rfl⟩) (by assumption) ?rab_29
    (try simp only [List.getElem_toArray, List.getElem_cons_succ, List.getElem_cons_zero, Act.put, List.setIfInBounds_toArray, List.set_cons_zero, List.set_cons_succ])
    refine wpAnyH_take (i := 30) (v := ?vab_30) rfl (by kernel_rfl) (by kernel_rfl) (by kernel_rfl) (fun _ _ _ h => h) (Or.inl ⟨by rfl, ?yab_30⟩) (by assumption) ?rab_30
    case yab_30 => intro w hSw; (try dsimp only at hSw); go_simp <;> (try with_reducible rfl)
    (try simp only [List.getElem_toArray, List.getElem_cons_succ, List.getElem_cons_zero, Act.put, List.setIfInBounds_toArray, List.set_cons_zero, List.set_cons_succ])
    refine wpAnyH_take (i := 31) (v := ?vab_31) rfl (by kernel_rfl) (by kernel_rfl) (by kernel_rfl) (fun _ _ _ h => h) (Or.inl ⟨by rfl, ?yab_31⟩) (by assumption) ?rab_31
    case yab_31 => intro w hSw; (try dsimp only at hSw); go_simp <;> (try with_reducible rfl)
    (try simp only [List.getElem_toArray, List.getElem_cons_succ, List.getElem_cons_zero, Act.put, List.setIfInBounds_toArray, List.set_cons_zero, List.set_cons_succ])
    refine wpAnyH_done (by kernel_rfl) ?_ _
    clear hHeld 
    have PA := PA.next hdd
    have PB := PB.next hdd
    have B6 := B6.next hdd B6.lt
    have B7 := B7.next hdd B7.lt
    have B11 := B11.next hdd B11.lt
    have hbe := below_join hbe hdd
    clear hdd
    go_wp2_with (first | (with_reducible refine wpList_getg (o := ⟨some 85, .load 25 (.tmp 6), _, _, _, _⟩) (by with_unfolding_all rfl) 25 (.tmp 6) (by with_unfolding_all rfl) g6 0 (by with_unfolding_all rfl) B6 p.cells (cs_all _) _ (by exact Tryd.underlying25) (by with_unfolding_all rfl) (by (rw [Pat.cells_length]; exact Tryd.szP)) ?_))
    (with_reducible refine (HOUT.out _ PA (fun g o e => by have := HG0.out g o e; have := hbe.size; omega)).mono ?_)
    rintro e w14 ⟨R2, rfl, hF2, hb14⟩
    have PA := PA.next hb14
    have PB := PB.next hb14
    have B6 := B6.next hb14 B6.lt
    have B7 := B7.next hb14 B7.lt
    have B11 := B11.next hb14 B11.lt
    have hbe := below_join hbe hb14
    clear hb14
    rcases hF2 with ⟨f, ⟨hf1, hf2, hf3⟩, _, hF0⟩ | ⟨hF1, hF0⟩
    · subst hF0
      have HF1 := Lib.hid hf1
      have HF2 := Lib.hid hf2
      have HF3 := Lib.hid hf3
      clear hf1 hf2 hf3
      dsimp only [outV]
      go_wp2_with (with_reducible refine wpList_alloc (o := ⟨some 13, .alloc 23, _, _, _, _⟩) (by with_unfolding_all rfl) 23 (by with_unfolding_all rfl) (.agg (H no).toArray) (H no) (by exact Tryd.zeroH) (by with_unfolding_all rfl) ?_)
      intro g13 w15 hg13 hs15 hb15 hB15
      have hl15 : w14.heap.size ≤ g13 := Nat.le_of_eq hg13.out.symm
      have hb15 := hb15.mono hl15
      go_wp2_with (with_reducible refine wpList_put (o := ⟨none, .store 23 (.tmp 13) (.tmp 88), _, _, _, _⟩) (by with_unfolding_all rfl) 23 (.tmp 13) (.tmp 88) (by with_unfolding_all rfl) g13 0 (by with_unfolding_all rfl) (.agg (H f).toArray) (by with_unfolding_all rfl) hB15 (H f) (by with_unfolding_all rfl) (by with_unfolding_all (rw [H_length]; exact Tryd.szH)) (by with_unfolding_all (simp only [H_length] <;> omega)) (by with_unfolding_all (exact H_one _)) ?_)
      intro w16 hu16 B13
      rw [splice_all _ _ (by simp only [H_length])] at B13
      have hb16 := hb15.trans (hu16.below (B := w14.heap.size) hl15)
      have PA := PA.next hb16
      have PB := PB.next hb16
      have B6 := B6.next hb16 B6.lt
      have B7 := B7.next hb16 B7.lt
      have B11 := B11.next hb16 B11.lt
      have hbe := below_join hbe hb16
      clear hb15 hb16 hu16 hB15 hl15 hg13 hs15
      go_wp2_with (first | (with_reducible refine wpList_getg (o := ⟨some 90, .load 25 (.tmp 6), _, _, _, _⟩) (by with_unfolding_all rfl) 25 (.tmp 6) (by with_unfolding_all rfl) g6 0 (by with_unfolding_all rfl) B6 p.cells (cs_all _) _ (by exact Tryd.underlying25) (by with_unfolding_all rfl) (by (rw [Pat.cells_length]; exact Tryd.szP)) ?_) | (with_reducible refine wpList_getg (o := ⟨some 91, .load 23 (.tmp 7), _, _, _, _⟩) (by with_unfolding_all rfl) 23 (.tmp 7) (by with_unfolding_all rfl) g7 0 (by with_unfolding_all rfl) B7 (H h) (cs_all _) _ (by exact Tryd.underlying23) (by with_unfolding_all rfl) (by (rw [H_length]; exact Tryd.szH)) ?_))
      (with_reducible refine (C3.out _).mono ?_)
      rintro e w17 ⟨rfl, hb17⟩
      have PA := PA.next hb17
      have PB := PB.next hb17
      have B6 := B6.next hb17 B6.lt
      have B7 := B7.next hb17 B7.lt
      have B11 := B11.next hb17 B11.lt
      have B13 := B13.next hb17 B13.lt
      have hbe := below_join hbe hb17
      clear hb17
      rcases M with _ | _
      · skip
        have hmf := fun w => rmatch_m w p f (decide_eq_true HF1.out)
        have HMF := Lib.hid hmf
        clear hmf
        have hif := HINA.out f
        rw [(HCNT.out la f).2 HF2.out] at hif
        have HIF := Lib.hid hif
        clear hif
        go_wp2_with (first | (with_reducible refine wpList_getg (o := ⟨some 108, .load 25 (.tmp 6), _, _, _, _⟩) (by with_unfolding_all rfl) 25 (.tmp 6) (by with_unfolding_all rfl) g6 0 (by with_unfolding_all rfl) B6 p.cells (cs_all _) _ (by exact Tryd.underlying25) (by with_unfolding_all rfl) (by (rw [Pat.cells_length]; exact Tryd.szP)) ?_) | (with_reducible refine wpList_getg (o := ⟨some 109, .load 23 (.tmp 13), _, _, _, _⟩) (by with_unfolding_all rfl) 23 (.tmp 13) (by with_unfolding_all rfl) g13 0 (by with_unfolding_all rfl) B13 (H f) (cs_all _) _ (by exact Tryd.underlying23) (by with_unfolding_all rfl) (by (rw [H_length]; exact Tryd.szH)) ?_))
        (with_reducible refine (HMF.out _).mono ?_)
        rintro e w18 ⟨rfl, hb18⟩
        have PA := PA.next hb18
        have PB := PB.next hb18
        have B6 := B6.next hb18 B6.lt
        have B7 := B7.next hb18 B7.lt
        have B11 := B11.next hb18 B11.lt
        have B13 := B13.next hb18 B13.lt
        have hbe := below_join hbe hb18
        clear hb18
        go_wp2_with (first | (with_reducible refine wpList_getg (o := ⟨some 114, .load 23 (.tmp 13), _, _, _, _⟩) (by with_unfolding_all rfl) 23 (.tmp 13) (by with_unfolding_all rfl) g13 0 (by with_unfolding_all rfl) B13 (H f) (cs_all _) _ (by exact Tryd.underlying23) (by with_unfolding_all rfl) (by (rw [H_length]; exact Tryd.szH)) ?_))
        (with_reducible refine (HIF.out _ PA).mono ?_)
        rintro e w19 ⟨rfl, hb19⟩
        have PA := PA.next hb19
        have PB := PB.next hb19
        have B6 := B6.next hb19 B6.lt
        have B7 := B7.next hb19 B7.lt
        have B11 := B11.next hb19 B11.lt
        have B13 := B13.next hb19 B13.lt
        have hbe := below_join hbe hb19
        clear hb19
        go_wp2
        go_ret
        exact ⟨rfl, hbe⟩
      · skip
        go_wp2_with (first | (with_reducible refine wpList_getg (o := ⟨some 95, .load 23 (.tmp 7), _, _, _, _⟩) (by with_unfolding_all rfl) 23 (.tmp 7) (by with_unfolding_all rfl) g7 0 (by with_unfolding_all rfl) B7 (H h) (cs_all _) _ (by exact Tryd.underlying23) (by with_unfolding_all rfl) (by (rw [H_length]; exact Tryd.szH)) ?_))
        (with_reducible refine (C1.out _ PA).mono ?_)
        rintro e w18 ⟨rfl, hb18⟩
        have PA := PA.next hb18
        have PB := PB.next hb18
        have B6 := B6.next hb18 B6.lt
        have B7 := B7.next hb18 B7.lt
        have B11 := B11.next hb18 B11.lt
        have B13 := B13.next hb18 B13.lt
        have hbe := below_join hbe hb18
        clear hb18
        have hmf := fun w => rmatch_m w p f (decide_eq_true HF1.out)
        have HMF := Lib.hid hmf
        clear hmf
        have hif := HINA.out f
        rw [(HCNT.out la f).2 HF2.out] at hif
        have HIF := Lib.hid hif
        clear hif
        rcases Z with _ | _
        · skip
          go_wp2_with (first | (with_reducible refine wpList_getg (o := ⟨some 108, .load 25 (.tmp 6), _, _, _, _⟩) (by with_unfolding_all rfl) 25 (.tmp 6) (by with_unfolding_all rfl) g6 0 (by with_unfolding_all rfl) B6 p.cells (cs_all _) _ (by exact Tryd.underlying25) (by with_unfolding_all rfl) (by (rw [Pat.cells_length]; exact Tryd.szP)) ?_) | (with_reducible refine wpList_getg (o := ⟨some 109, .load 23 (.tmp 13), _, _, _, _⟩) (by with_unfolding_all rfl) 23 (.tmp 13) (by with_unfolding_all rfl) g13 0 (by with_unfolding_all rfl) B13 (H f) (cs_all _) _ (by exact Tryd.underlying23) (by with_unfolding_all rfl) (by (rw [H_length]; exact Tryd.szH)) ?_))
          (with_reducible refine (HMF.out _).mono ?_)
          rintro e w19 ⟨rfl, hb19⟩
          have PA := PA.next hb19
          have PB := PB.next hb19
          have B6 := B6.next hb19 B6.lt
          have B7 := B7.next hb19 B7.lt
          have B11 := B11.next hb19 B11.lt
          have B13 := B13.next hb19 B13.lt
          have hbe := below_join hbe hb19
          clear hb19
          go_wp2_with (first | (with_reducible refine wpList_getg (o := ⟨some 114, .load 23 (.tmp 13), _, _, _, _⟩) (by with_unfolding_all rfl) 23 (.tmp 13) (by with_unfolding_all rfl) g13 0 (by with_unfolding_all rfl) B13 (H f) (cs_all _) _ (by exact Tryd.underlying23) (by with_unfolding_all rfl) (by (rw [H_length]; exact Tryd.szH)) ?_))
          (with_reducible refine (HIF.out _ PA).mono ?_)
          rintro e w20 ⟨rfl, hb20⟩
          have PA := PA.next hb20
          have PB := PB.next hb20
          have B6 := B6.next hb20 B6.lt
          have B7 := B7.next hb20 B7.lt
          have B11 := B11.next hb20 B11.lt
          have B13 := B13.next hb20 B13.lt
          have hbe := below_join hbe hb20
          clear hb20
          go_wp2
          go_ret
          exact ⟨rfl, hbe⟩
        · skip
          go_wp2_with (first | (with_reducible refine wpList_getg (o := ⟨some 108, .load 25 (.tmp 6), _, _, _, _⟩) (by with_unfolding_all rfl) 25 (.tmp 6) (by with_unfolding_all rfl) g6 0 (by with_unfolding_all rfl) B6 p.cells (cs_all _) _ (by exact Tryd.underlying25) (by with_unfolding_all rfl) (by (rw [Pat.cells_length]; exact Tryd.szP)) ?_) | (with_reducible refine wpList_getg (o := ⟨some 109, .load 23 (.tmp 13), _, _, _, _⟩) (by with_unfolding_all rfl) 23 (.tmp 13) (by with_unfolding_all rfl) g13 0 (by with_unfolding_all rfl) B13 (H f) (cs_all _) _ (by exact Tryd.underlying23) (by with_unfolding_all rfl) (by (rw [H_length]; exact Tryd.szH)) ?_))
          (with_reducible refine (HMF.out _).mono ?_)
          rintro e w19 ⟨rfl, hb19⟩
          have PA := PA.next hb19
          have PB := PB.next hb19
          have B6 := B6.next hb19 B6.lt
          have B7 := B7.next hb19 B7.lt
          have B11 := B11.next hb19 B11.lt
          have B13 := B13.next hb19 B13.lt
          have hbe := below_join hbe hb19
          clear hb19
          go_wp2_with (first | (with_reducible refine wpList_getg (o := ⟨some 114, .load 23 (.tmp 13), _, _, _, _⟩) (by with_unfolding_all rfl) 23 (.tmp 13) (by with_unfolding_all rfl) g13 0 (by with_unfolding_all rfl) B13 (H f) (cs_all _) _ (by exact Tryd.underlying23) (by with_unfolding_all rfl) (by (rw [H_length]; exact Tryd.szH)) ?_))
          (with_reducible refine (HIF.out _ PA).mono ?_)
          rintro e w20 ⟨rfl, hb20⟩
          have PA := PA.next hb20
          have PB := PB.next hb20
          have B6 := B6.next hb20 B6.lt
          have B7 := B7.next hb20 B7.lt
          have B11 := B11.next hb20 B11.lt
          have B13 := B13.next hb20 B13.lt
          have hbe := below_join hbe hb20
          clear hb20
          have hle : ¬ (cmpH f h > 0) := by
            have h1 := HF3.out h (of_decide_eq_true HM.out) (HZI.out.1 (by trivial))
            unfold cmpH
            split
            · omega
            · split
              · omega
              · omega
          obtain ⟨y, hy⟩ : ∃ y : Int, cmpH f h = y := ⟨_, rfl⟩
          have hcf := fun w => rcompareHeads_any f h w
          rw [hy] at hcf hle
          have HCF := Lib.hid hcf
          have hyl : decide (y ≤ 0) = true := decide_eq_true (by omega)
          clear hcf hy hle
          go_wp2_with (first | (with_reducible refine wpList_getg (o := ⟨some 122, .load 23 (.tmp 13), _, _, _, _⟩) (by with_unfolding_all rfl) 23 (.tmp 13) (by with_unfolding_all rfl) g13 0 (by with_unfolding_all rfl) B13 (H f) (cs_all _) _ (by exact Tryd.underlying23) (by with_unfolding_all rfl) (by (rw [H_length]; exact Tryd.szH)) ?_) | (with_reducible refine wpList_getg (o := ⟨some 123, .load 23 (.tmp 7), _, _, _, _⟩) (by with_unfolding_all rfl) 23 (.tmp 7) (by with_unfolding_all rfl) g7 0 (by with_unfolding_all rfl) B7 (H h) (cs_all _) _ (by exact Tryd.underlying23) (by with_unfolding_all rfl) (by (rw [H_length]; exact Tryd.szH)) ?_))
          (with_reducible refine (HCF.out _).mono ?_)
          rintro e w21 ⟨rfl, hb21⟩
          have PA := PA.next hb21
          have PB := PB.next hb21
          have B6 := B6.next hb21 B6.lt
          have B7 := B7.next hb21 B7.lt
          have B11 := B11.next hb21 B11.lt
          have B13 := B13.next hb21 B13.lt
          have hbe := below_join hbe hb21
          clear hb21
          go_wp2
          go_ret
          exact ⟨rfl, hbe⟩
    · subst hF0
      have HF1 := Lib.hid hF1
      clear hF1
      dsimp only [outV]
      go_wp2_with (with_reducible refine wpList_alloc (o := ⟨some 13, .alloc 23, _, _, _, _⟩) (by with_unfolding_all rfl) 23 (by with_unfolding_all rfl) (.agg (H no).toArray) (H no) (by exact Tryd.zeroH) (by with_unfolding_all rfl) ?_)
      intro g13 w15 hg13 hs15 hb15 hB15
      have hl15 : w14.heap.size ≤ g13 := Nat.le_of_eq hg13.out.symm
      have hb15 := hb15.mono hl15
      go_wp2_with (with_reducible refine wpList_put (o := ⟨none, .store 23 (.tmp 13) (.tmp 88), _, _, _, _⟩) (by with_unfolding_all rfl) 23 (.tmp 13) (.tmp 88) (by with_unfolding_all rfl) g13 0 (by with_unfolding_all rfl) (.agg (H no).toArray) (by with_unfolding_all rfl) hB15 (H no) (by with_unfolding_all rfl) (by with_unfolding_all (rw [H_length]; exact Tryd.szH)) (by with_unfolding_all (simp only [H_length] <;> omega)) (by with_unfolding_all (exact H_one _)) ?_)
      intro w16 hu16 B13
      rw [splice_all _ _ (by simp only [H_length])] at B13
      have hb16 := hb15.trans (hu16.below (B := w14.heap.size) hl15)
      have PA := PA.next hb16
      have PB := PB.next hb16
      have B6 := B6.next hb16 B6.lt
      have B7 := B7.next hb16 B7.lt
      have B11 := B11.next hb16 B11.lt
      have hbe := below_join hbe hb16
      clear hb15 hb16 hu16 hB15 hl15 hg13 hs15
      go_wp2_with (first | (with_reducible refine wpList_getg (o := ⟨some 90, .load 25 (.tmp 6), _, _, _, _⟩) (by with_unfolding_all rfl) 25 (.tmp 6) (by with_unfolding_all rfl) g6 0 (by with_unfolding_all rfl) B6 p.cells (cs_all _) _ (by exact Tryd.underlying25) (by with_unfolding_all rfl) (by (rw [Pat.cells_length]; exact Tryd.szP)) ?_) | (with_reducible refine wpList_getg (o := ⟨some 91, .load 23 (.tmp 7), _, _, _, _⟩) (by with_unfolding_all rfl) 23 (.tmp 7) (by with_unfolding_all rfl) g7 0 (by with_unfolding_all rfl) B7 (H h) (cs_all _) _ (by exact Tryd.underlying23) (by with_unfolding_all rfl) (by (rw [H_length]; exact Tryd.szH)) ?_))
      (with_reducible refine (C3.out _).mono ?_)
      rintro e w17 ⟨rfl, hb17⟩
      have PA := PA.next hb17
      have PB := PB.next hb17
      have B6 := B6.next hb17 B6.lt
      have B7 := B7.next hb17 B7.lt
      have B11 := B11.next hb17 B11.lt
      have B13 := B13.next hb17 B13.lt
      have hbe := below_join hbe hb17
      clear hb17
      rcases M with _ | _
      · skip
        go_wp2
        go_ret
        exact ⟨rfl, hbe⟩
      · skip
        go_wp2_with (first | (with_reducible refine wpList_getg (o := ⟨some 95, .load 23 (.tmp 7), _, _, _, _⟩) (by with_unfolding_all rfl) 23 (.tmp 7) (by with_unfolding_all rfl) g7 0 (by with_unfolding_all rfl) B7 (H h) (cs_all _) _ (by exact Tryd.underlying23) (by with_unfolding_all rfl) (by (rw [H_length]; exact Tryd.szH)) ?_))
        (with_reducible refine (C1.out _ PA).mono ?_)
        rintro e w18 ⟨rfl, hb18⟩
        have PA := PA.next hb18
        have PB := PB.next hb18
        have B6 := B6.next hb18 B6.lt
        have B7 := B7.next hb18 B7.lt
        have B11 := B11.next hb18 B11.lt
        have B13 := B13.next hb18 B13.lt
        have hbe := below_join hbe hb18
        clear hb18
        have hz : Z = false := by
          cases hz : Z
          · rfl
          · exact absurd trivial (HF1.out h (of_decide_eq_true HM.out) (HZI.out.1 hz))
        subst hz
        go_wp2
        go_ret
        exact ⟨rfl, hbe⟩
  · subst hR0
    dsimp only [sameV]
    have HR1 := Lib.hid hR1
    have HR2 := Lib.hid hR2
    clear hR1 hR2
    obtain ⟨J1, j1⟩ := bool_of (Pat.inSome la m1)
    obtain ⟨J2, j2⟩ := bool_of (Pat.inSome lb m1)
    have hj : (J1 == J2) = false := by
      have := HR1.out
      unfold odd2 at this
      rw [← j1, ← j2] at this
      revert this
      cases J1 <;> cases J2 <;> simp
    obtain ⟨y1, hy1⟩ : ∃ x : Int, (((la.countP fun q => decide (q.hit m1) : Nat) : Int)) = x := ⟨_, rfl⟩
    obtain ⟨y2, hy2⟩ : ∃ x : Int, (((lb.countP fun q => decide (q.hit m1) : Nat) : Int)) = x := ⟨_, rfl⟩
    have u1 : decide (y1 > 0) = J1 := by rw [← hy1, HGT.out la m1 J1 j1]
    have u2 : decide (y2 > 0) = J2 := by rw [← hy2, HGT.out lb m1 J2 j2]
    have u3 : decide (0 < y1) = J1 := u1
    have u4 : decide (0 < y2) = J2 := u2
    have d1 := HINA.out m1
    have d2 := HINB.out m1
    rw [hy1] at d1
    rw [hy2] at d2
    have D1 := Lib.hid d1
    have D2 := Lib.hid d2
    clear d1 d2 hy1 hy2 j1 j2
    go_wp2_with (with_reducible refine wpList_alloc (o := ⟨some 11, .alloc 23, _, _, _, _⟩) (by with_unfolding_all rfl) 23 (by with_unfolding_all rfl) (.agg (H no).toArray) (H no) (by exact Tryd.zeroH) (by with_unfolding_all rfl) ?_)
    intro g11 w12 hg11 hs12 hb12 hB12
    have hl12 : w11.heap.size ≤ g11 := Nat.le_of_eq hg11.out.symm
    have hb12 := hb12.mono hl12
    go_wp2_with (with_reducible refine wpList_put (o := ⟨none, .store 23 (.tmp 11) (.tmp 50), _, _, _, _⟩) (by with_unfolding_all rfl) 23 (.tmp 11) (.tmp 50) (by with_unfolding_all rfl) g11 0 (by with_unfolding_all rfl) (.agg (H m1).toArray) (by with_unfolding_all rfl) hB12 (H m1) (by with_unfolding_all rfl) (by with_unfolding_all (rw [H_length]; exact Tryd.szH)) (by with_unfolding_all (simp only [H_length] <;> omega)) (by with_unfolding_all (exact H_one _)) ?_)
    intro w13 hu13 B11
    rw [splice_all _ _ (by simp only [H_length])] at B11
    have hb13 := hb12.trans (hu13.below (B := w11.heap.size) hl12)
    have PA := PA.next hb13
    have PB := PB.next hb13
    have B6 := B6.next hb13 B6.lt
    have B7 := B7.next hb13 B7.lt
    have hbe := below_join hbe hb13
    clear hb12 hb13 hu13 hB12 hl12 hg11 hs12
    rcases Df with _ | _
    · skip
      go_wp2
      have hdd := below_drew w13
      have K11_0 : Hid (∀ w', Below w13.heap.size w13 w' → w'.rangeAt g11 0 (H m1)) := (fun w' h => blk_range (B11.next h B11.lt) : ∀ w', Below w13.heap.size w13 w' → w'.rangeAt g11 0 (H m1))
      have Z11_0 : (Tryd.prog.info? 23).map (·.size) = some (H m1).length := by (rw [H_length]; exact Tryd.szH)
      refine wp_region_held_drew (S := fun w' => Below w13.heap.size w13 w') (by kernel_rfl) hdd (fun hHeld => ?_)
      generalize w13.drew = wd at hdd hHeld ⊢
      refine wpAnyH_take (i := 0) (v := ?vac_0) rfl (by kernel_rfl) (by kernel_rfl) (by kernel_rfl) (fun _ _ _ h => h) (Or.inl ⟨by rfl, ?yac_0⟩) (by assumption) ?rac_0
      case yac_0 => intro w hSw; (try dsimp only at hSw); go_simp <;> (try with_reducible rfl)
      (try simp only [List.getElem_toArray, List.getElem_cons_zero, Act.put, List.setIfInBounds_toArray, List.set_cons_zero, List.set_cons_succ])
      refine wpAnyH_take (i := 1) (v := ?vac_1) rfl (by kernel_rfl) (by kernel_rfl) (by kernel_rfl) (fun _ _ _ h => h) (Or.inl ⟨by rfl, ?yac_1⟩) (by assumption) ?rac_1
      case yac_1 => intro w hSw; (try dsimp only at hSw); go_simp <;> (try with_reducible rfl)
      (try simp only [List.getElem_toArray, List.getElem_cons_succ, List.getElem_cons_zero, Act.put, List.setIfInBounds_toArray, List.set_cons_zero, List.set_cons_succ])
      refine wpAnyH_take (i := 2) (v := undef) rfl (by kernel_rfl) (by kernel_rfl) (by kernel_rfl) (fun _ _ _ h => h) (Or.inr ⟨by rfl, rfl⟩) (by assumption) ?rac_2
      (try simp only [List.getElem_toArray, List.getElem_cons_succ, List.getElem_cons_zero, Act.put, List.setIfInBounds_toArray, List.set_cons_zero, List.set_cons_succ])
      refine wpAnyH_take (i := 3) (v := ?vac_3) rfl (by kernel_rfl) (by kernel_rfl) (by kernel_rfl) (fun _ _ _ h => h) (Or.inl ⟨by rfl, ?yac_3⟩) (by assumption) ?rac_3
      case yac_3 => intro w hSw; (try dsimp only at hSw); go_simp <;> (try with_reducible rfl)
      (try simp only [List.getElem_toArray, List.getElem_cons_succ, List.getElem_cons_zero, Act.put, List.setIfInBounds_toArray, List.set_cons_zero, List.set_cons_succ])
      refine wpAnyH_take (i := 4) (v := ?vac_4) rfl (by kernel_rfl) (by kernel_rfl) (by kernel_rfl) (fun _ _ _ h => h) (Or.inl ⟨by rfl, ?yac_4⟩) (by assumption) ?rac_4
      case yac_4 => intro w hSw; (try dsimp only at hSw); go_simp <;> (try with_reducible rfl)
      (try simp only [List.getElem_toArray, List.getElem_cons_succ, List.getElem_cons_zero, Act.put, List.setIfInBounds_toArray, List.set_cons_zero, List.set_cons_succ])
      refine wpAnyH_take (i := 5) (v := ?vac_5) rfl (by kernel_rfl) (by kernel_rfl) (by kernel_rfl) (fun _ _ _ h => h) (Or.inl ⟨by rfl, ?yac_5⟩) (by assumption) ?rac_5
      case yac_5 => intro w hSw; (try dsimp only at hSw); go_simp <;> (try with_reducible rfl)
      (try simp only [List.getElem_toArray, List.getElem_cons_succ, List.getElem_cons_zero, Act.put, List.setIfInBounds_toArray, List.set_cons_zero, List.set_cons_succ])
      refine wpAnyH_take (i := 6) (v := ?vac_6) rfl (by kernel_rfl) (by kernel_rfl) (by kernel_rfl) (fun _ _ _ h => h) (Or.inl ⟨by rfl, ?yac_6⟩) (by assumption) ?rac_6
      case yac_6 => intro w hSw; (try dsimp only at hSw); go_simp <;> (try with_reducible rfl)
      (try simp only [List.getElem_toArray, List.getElem_cons_succ, List.getElem_cons_zero, Act.put, List.setIfInBounds_toArray, List.set_cons_zero, List.set_cons_succ])
      refine wpAnyH_take (i := 7) (v := ?vac_7) rfl (by kernel_rfl) (by kernel_rfl) (by kernel_rfl) (fun _ _ _ h => h) (Or.inl ⟨by rfl, ?yac_7⟩) (by assumption) ?rac_7
      case yac_7 => intro w hSw; (try dsimp only at hSw); go_simp <;> (try with_reducible rfl)
      (try simp only [List.getElem_toArray, List.getElem_cons_succ, List.getElem_cons_zero, Act.put, List.setIfInBounds_toArray, List.set_cons_zero, List.set_cons_succ])
      refine wpAnyH_take (i := 8) (v := ?vac_8) rfl (by kernel_rfl) (by kernel_rfl) (by kernel_rfl) (fun _ _ _ h => h) (Or.inl ⟨by rfl, ?yac_8⟩) (by assumption) ?rac_8
      case yac_8 => intro w hSw; (try dsimp only at hSw); go_simp <;> (try with_reducible rfl)
      (try simp only [List.getElem_toArray, List.getElem_cons_succ, List.getElem_cons_zero, Act.put, List.setIfInBounds_toArray, List.set_cons_zero, List.set_cons_succ])
      refine' wpAnyH_take (i := 9) (v := _) rfl (by kernel_rfl) (by kernel_rfl) (by kernel_rfl) (fun _ _ _ h => h) (yieldsIf_load_mid (by rfl) _ _ (by rfl) _ _ (by rfl) _ _ ?Sac_9 ?uac_9 ?dac_9 ?iac_9) (by assumption) ?rac_9
      case Sac_9 => exact (by intro w h; exact K11_0.out _ h)
      case uac_9 => exact Tryd.underlying23
      case dac_9 => rfl
      case iac_9 => exact Z11_0
      (try simp only [List.getElem_toArray, List.getElem_cons_succ, List.getElem_cons_zero, Act.put, List.setIfInBounds_toArray, List.set_cons_zero, List.set_cons_succ])
      refine wpAnyH_take (i := 12) (v := ?vac_12) rfl (by kernel_rfl) (by kernel_rfl) (by kernel_rfl) (fun _ _ _ h => h) (Or.inl ⟨by rfl, ?yac_12⟩) (by assumption) ?rac_12
      case yac_12 => intro w hSw; (try dsimp only at hSw); go_simp <;> (try with_reducible rfl)
      (try simp only [List.getElem_toArray, List.getElem_cons_succ, List.getElem_cons_zero, Act.put, List.setIfInBounds_toArray, List.set_cons_zero, List.set_cons_succ])
      refine' wpAnyH_take (i := 13) (v := _) rfl (by kernel_rfl) (by kernel_rfl) (by kernel_rfl) (fun _ _ _ h => h) (yieldsIf_load_mid (by rfl) _ _ (by rfl) _ _ (by rfl) _ _ ?Sac_13 ?uac_13 ?dac_13 ?iac_13) (by assumption) ?rac_13
      case Sac_13 => exact (by intro w h; exact K11_0.out _ h)
      case uac_13 => exact Tryd.underlying23
      case dac_13 => rfl
      case iac_13 => exact Z11_0
      (try simp only [List.getElem_toArray, List.getElem_cons_succ, List.getElem_cons_zero, Act.put, List.setIfInBounds_toArray, List.set_cons_zero, List.set_cons_succ])
      refine wpAnyH_ready (rs := [10]) (by kernel_rfl) (by simp) ?_
      refine AllReadyH.cons rfl (fun K hK => ?_) AllReadyH.nil
      go_simp
      go_wp2_with fail
      (with_reducible refine (D1.out _ (PA.next hdd)).mono ?_)
      rintro e w14 ⟨rfl, hb14⟩
      have hk14 := below_join hdd hb14
      refine hK.out _ _ hk14 (fun hHeld => ?_)
      clear hK K hb14 hdd
      refine wpAnyH_take (i := 11) (v := ?vac_11) rfl (by kernel_rfl) (by kernel_rfl) (by kernel_rfl) (fun _ _ _ h => h) (Or.inl ⟨by rfl, ?yac_11⟩) (by assumption) ?rac_11
      case yac_11 => intro w hSw; (try dsimp only at hSw); go_simp <;> (try with_reducible rfl)
      (try simp only [List.getElem_toArray, List.getElem_cons_succ, List.getElem_cons_zero, Act.put, List.setIfInBounds_toArray, List.set_cons_zero, List.set_cons_succ])
      refine wpAnyH_ready (rs := [14]) (by kernel_rfl) (by simp) ?_
      refine AllReadyH.cons rfl (fun K hK => ?_) AllReadyH.nil
      go_simp
      go_wp2_with fail
      (with_reducible refine (D2.out _ (PB.next hk14)).mono ?_)
      rintro e w15 ⟨rfl, hb15⟩
      have hk15 := below_join hk14 hb15
      refine hK.out _ _ hk15 (fun hHeld => ?_)
      clear hK K hb15 hk14
      refine wpAnyH_take (i := 15) (v := ?vac_15) rfl (by kernel_rfl) (by kernel_rfl) (by kernel_rfl) (fun _ _ _ h => h) (Or.inl ⟨by rfl, ?yac_15⟩) (by assumption) ?rac_15
      case yac_15 => intro w hSw; (try dsimp only at hSw); go_simp <;> (try with_reducible rfl)
      (try simp only [List.getElem_toArray, List.getElem_cons_succ, List.getElem_cons_zero, Act.put, List.setIfInBounds_toArray, List.set_cons_zero, List.set_cons_succ])
      refine wpAnyH_take (i := 16) (v := ?vac_16) rfl (by kernel_rfl) (by kernel_rfl) (by kernel_rfl) (fun _ _ _ h => h) (Or.inl ⟨by rfl, ?yac_16⟩) (by assumption) ?rac_16
      case yac_16 => intro w hSw; (try dsimp only at hSw); go_simp <;> (try with_reducible rfl)
      (try simp only [List.getElem_toArray, List.getElem_cons_succ, List.getElem_cons_zero, Act.put, List.setIfInBounds_toArray, List.set_cons_zero, List.set_cons_succ])
      refine wpAnyH_take (i := 17) (v := ?vac_17) rfl (by kernel_rfl) (by kernel_rfl) (by kernel_rfl) (fun _ _ _ h => h) (Or.inl ⟨by rfl, ?yac_17⟩) (by assumption) ?rac_17
      case yac_17 => intro w hSw; (try dsimp only at hSw); go_simp <;> (try with_reducible rfl)
      (try simp only [List.getElem_toArray, List.getElem_cons_succ, List.getElem_cons_zero, Act.put, List.setIfInBounds_toArray, List.set_cons_zero, List.set_cons_succ])
      refine wpAnyH_take (i := 18) (v := ?vac_18) rfl (by kernel_rfl) (by kernel_rfl) (by kernel_rfl) (fun _ _ _ h => h) (Or.inl ⟨by rfl, ?yac_18⟩) (by assumption) ?rac_18
      case yac_18 => intro w hSw; (try dsimp only at hSw); go_simp <;> (try with_reducible rfl)
      (try simp only [List.getElem_toArray, List.getElem_cons_succ, List.getElem_cons_zero, Act.put, List.setIfInBounds_toArray, List.set_cons_zero, List.set_cons_succ])
      refine wpAnyH_take (i := 19) (v := ?vac_19) rfl (by kernel_rfl) (by kernel_rfl) (by kernel_rfl) (fun _ _ _ h => h) (Or.inl ⟨by rfl, ?yac_19⟩) (by assumption) ?rac_19
      case yac_19 => intro w hSw; (try dsimp only at hSw); go_simp <;> (try with_reducible rfl)
      (try simp only [List.getElem_toArray, List.getElem_cons_succ, List.getElem_cons_zero, Act.put, List.setIfInBounds_toArray, List.set_cons_zero, List.set_cons_succ])
      refine wpAnyH_take (i := 20) (v := ?vac_20) rfl (by kernel_rfl) (by kernel_rfl) (by kernel_rfl) (fun _ _ _ h => h) (Or.inl ⟨by rfl, ?yac_20⟩) (by assumption) ?rac_20
      case yac_20 => intro w hSw; (try dsimp only at hSw); go_simp <;> (try with_reducible rfl)
      (try simp only [List.getElem_toArray, List.getElem_cons_succ, List.getElem_cons_zero, Act.put, List.setIfInBounds_toArray, List.set_cons_zero, List.set_cons_succ])
      refine wpAnyH_take (i := 21) (v := ?vac_21) rfl (by kernel_rfl) (by kernel_rfl) (by kernel_rfl) (fun _ _ _ h => h) (Or.inl ⟨by rfl, ?yac_21⟩) (by assumption) ?rac_21
      case yac_21 => intro w hSw; (try dsimp only at hSw); go_simp <;> (try with_reducible rfl)
      (try simp only [List.getElem_toArray, List.getElem_cons_succ, List.getElem_cons_zero, Act.put, List.setIfInBounds_toArray, List.set_cons_zero, List.set_cons_succ])
      refine wpAnyH_take (i := 22) (v := ?vac_22) rfl (by kernel_rfl) (by kernel_rfl) (by kernel_rfl) (fun _ _ _ h => h) (Or.inl ⟨by rfl, ?yac_22⟩) (by assumption) ?rac_22
      case yac_22 => intro w hSw; (try dsimp only at hSw); go_simp <;> (try with_reducible rfl)
      (try simp only [List.getElem_toArray, List.getElem_cons_succ, List.getElem_cons_zero, Act.put, List.setIfInBounds_toArray, List.set_cons_zero, List.set_cons_succ])
      refine wpAnyH_take (i := 23) (v := ?vac_23) rfl (by kernel_rfl) (by kernel_rfl) (by kernel_rfl) (fun _ _ _ h => h) (Or.inl ⟨by rfl, ?yac_23⟩) (by assumption) ?rac_23
      case yac_23 => intro w hSw; (try dsimp only at hSw); go_simp <;> (try with_reducible rfl)
      (try simp only [List.getElem_toArray, List.getElem_cons_succ, List.getElem_cons_zero, Act.put, List.setIfInBounds_toArray, List.set_cons_zero, List.set_cons_succ])
      refine wpAnyH_take (i := 24) (v := ?vac_24) rfl (by kernel_rfl) (by kernel_rfl) (by kernel_rfl) (fun _ _ _ h => h) (Or.inl ⟨by rfl, ?yac_24⟩) (by assumption) ?rac_24
      case yac_24 => intro w hSw; (try dsimp only at hSw); go_simp <;> (try with_reducible rfl)
      (try simp only [List.getElem_toArray, List.getElem_cons_succ, List.getElem_cons_zero, Act.put, List.setIfInBounds_toArray, List.set_cons_zero, List.set_cons_succ])
      refine wpAnyH_take (i := 25) (v := ?vac_25) rfl (by kernel_rfl) (by kernel_rfl) (by kernel_rfl) (fun _ _ _ h => h) (Or.inl ⟨by rfl, ?yac_25⟩) (by assumption) ?rac_25
      case yac_25 => intro w hSw; (try dsimp only at hSw); go_simp <;> (try with_reducible rfl)
      (try simp only [List.getElem_toArray, List.getElem_cons_succ, List.getElem_cons_zero, Act.put, List.setIfInBounds_toArray, List.set_cons_zero, List.set_cons_succ])
      refine wpAnyH_take (i := 26) (v := undef) rfl (by kernel_rfl) (by kernel_rfl) (by kernel_rfl) (fun _ _ _ h => h) (Or.inr ⟨by rfl, rfl⟩) (by assumption) ?rac_26
      (try simp only [List.getElem_toArray, List.getElem_cons_succ, List.getElem_cons_zero, Act.put, List.setIfInBounds_toArray, List.set_cons_zero, List.set_cons_succ])
      refine wpAnyH_take (i := 27) (v := undef) rfl (by kernel_rfl) (by kernel_rfl) (by kernel_rfl) (fun _ _ _ h => h) (Or.inr ⟨by rfl, rfl⟩) (by assumption) ?rac_27
      (try simp only [List.getElem_toArray, List.getElem_cons_succ, List.getElem_cons_zero, Act.put, List.setIfInBounds_toArray, List.set_cons_zero, List.set_cons_succ])
      refine wpAnyH_take (i := 28) (v := undef) rfl (by kernel_rfl) (by kernel_rfl) (by kernel_rfl) (fun _ _ _ h => h) (Or.inr ⟨by rfl, rfl⟩) (by assumption) ?rac_28
      (try simp only [List.getElem_toArray, List.getElem_cons_succ, List.getElem_cons_zero, Act.put, List.setIfInBounds_toArray, List.set_cons_zero, List.set_cons_succ])
      refine wpAnyH_take (i := 29) (v := undef) rfl (by kernel_rfl) (by kernel_rfl) (by kernel_rfl) (fun _ _ _ h => h) (Or.inr ⟨by rfl, rfl⟩) (by assumption) ?rac_29
      (try simp only [List.getElem_toArray, List.getElem_cons_succ, List.getElem_cons_zero, Act.put, List.setIfInBounds_toArray, List.set_cons_zero, List.set_cons_succ])
      refine wpAnyH_take (i := 30) (v := ?vac_30) rfl (by kernel_rfl) (by kernel_rfl) (by kernel_rfl) (fun _ _ _ h => h) (Or.inl ⟨by rfl, ?yac_30⟩) (by assumption) ?rac_30
      case yac_30 => intro w hSw; (try dsimp only at hSw); go_simp <;> (try with_reducible rfl)
      (try simp only [List.getElem_toArray, List.getElem_cons_succ, List.getElem_cons_zero, Act.put, List.setIfInBounds_toArray, List.set_cons_zero, List.set_cons_succ])
      refine wpAnyH_take (i := 31) (v := ?vac_31) rfl (by kernel_rfl) (by kernel_rfl) (by kernel_rfl) (fun _ _ _ h => h) (Or.inl ⟨by rfl, ?yac_31⟩) (by assumption) ?rac_31
      case yac_31 => intro w hSw; (try dsimp only at hSw); go_simp <;> (try with_reducible rfl)
      (try simp only [List.getElem_toArray, List.getElem_cons_succ, List.getElem_cons_zero, Act.put, List.setIfInBounds_toArray, List.set_cons_zero, List.set_cons_succ])
      refine wpAnyH_done (by kernel_rfl) ?_ _
      clear hHeld K11_0 Z11_0
      have PA := PA.next hk15
      have PB := PB.next hk15
      have B6 := B6.next hk15 B6.lt
      have B7 := B7.next hk15 B7.lt
      have B11 := B11.next hk15 B11.lt
      have hbe := below_join hbe hk15
      clear hk15
      clear u1 u2 u3 u4
      go_wp2_with (first | (with_reducible refine wpList_getg (o := ⟨some 85, .load 25 (.tmp 6), _, _, _, _⟩) (by with_unfolding_all rfl) 25 (.tmp 6) (by with_unfolding_all rfl) g6 0 (by with_unfolding_all rfl) B6 p.cells (cs_all _) _ (by exact Tryd.underlying25) (by with_unfolding_all rfl) (by (rw [Pat.cells_length]; exact Tryd.szP)) ?_))
      (with_reducible refine (HOUT.out _ PA (fun g o e => by have := HG0.out g o e; have := hbe.size; omega)).mono ?_)
      rintro e w16 ⟨R2, rfl, hF2, hb16⟩
      have PA := PA.next hb16
      have PB := PB.next hb16
      have B6 := B6.next hb16 B6.lt
      have B7 := B7.next hb16 B7.lt
      have B11 := B11.next hb16 B11.lt
      have hbe := below_join hbe hb16
      clear hb16
      rcases hF2 with ⟨f, ⟨hf1, hf2, hf3⟩, _, hF0⟩ | ⟨hF1, hF0⟩
      · subst hF0
        have HF1 := Lib.hid hf1
        have HF2 := Lib.hid hf2
        have HF3 := Lib.hid hf3
        clear hf1 hf2 hf3
        dsimp only [outV]
        go_wp2_with (with_reducible refine wpList_alloc (o := ⟨some 13, .alloc 23, _, _, _, _⟩) (by with_unfolding_all rfl) 23 (by with_unfolding_all rfl) (.agg (H no).toArray) (H no) (by exact Tryd.zeroH) (by with_unfolding_all rfl) ?_)
        intro g13 w17 hg13 hs17 hb17 hB17
        have hl17 : w16.heap.size ≤ g13 := Nat.le_of_eq hg13.out.symm
        have hb17 := hb17.mono hl17
        go_wp2_with (with_reducible refine wpList_put (o := ⟨none, .store 23 (.tmp 13) (.tmp 88), _, _, _, _⟩) (by with_unfolding_all rfl) 23 (.tmp 13) (.tmp 88) (by with_unfolding_all rfl) g13 0 (by with_unfolding_all rfl) (.agg (H f).toArray) (by with_unfolding_all rfl) hB17 (H f) (by with_unfolding_all rfl) (by with_unfolding_all (rw [H_length]; exact Tryd.szH)) (by with_unfolding_all (simp only [H_length] <;> omega)) (by with_unfolding_all (exact H_one _)) ?_)
        intro w18 hu18 B13
        rw [splice_all _ _ (by simp only [H_length])] at B13
        have hb18 := hb17.trans (hu18.below (B := w16.heap.size) hl17)
        have PA := PA.next hb18
        have PB := PB.next hb18
        have B6 := B6.next hb18 B6.lt
        have B7 := B7.next hb18 B7.lt
        have B11 := B11.next hb18 B11.lt
        have hbe := below_join hbe hb18
        clear hb17 hb18 hu18 hB17 hl17 hg13 hs17
        go_wp2_with (first | (with_reducible refine wpList_getg (o := ⟨some 90, .load 25 (.tmp 6), _, _, _, _⟩) (by with_unfolding_all rfl) 25 (.tmp 6) (by with_unfolding_all rfl) g6 0 (by with_unfolding_all rfl) B6 p.cells (cs_all _) _ (by exact Tryd.underlying25) (by with_unfolding_all rfl) (by (rw [Pat.cells_length]; exact Tryd.szP)) ?_) | (with_reducible refine wpList_getg (o := ⟨some 91, .load 23 (.tmp 7), _, _, _, _⟩) (by with_unfolding_all rfl) 23 (.tmp 7) (by with_unfolding_all rfl) g7 0 (by with_unfolding_all rfl) B7 (H h) (cs_all _) _ (by exact Tryd.underlying23) (by with_unfolding_all rfl) (by (rw [H_length]; exact Tryd.szH)) ?_))
        (with_reducible refine (C3.out _).mono ?_)
        rintro e w19 ⟨rfl, hb19⟩
        have PA := PA.next hb19
        have PB := PB.next hb19
        have B6 := B6.next hb19 B6.lt
        have B7 := B7.next hb19 B7.lt
        have B11 := B11.next hb19 B11.lt
        have B13 := B13.next hb19 B13.lt
        have hbe := below_join hbe hb19
        clear hb19
        rcases M with _ | _
        · skip
          have hmf := fun w => rmatch_m w p f (decide_eq_true HF1.out)
          have HMF := Lib.hid hmf
          clear hmf
          have hif := HINA.out f
          rw [(HCNT.out la f).2 HF2.out] at hif
          have HIF := Lib.hid hif
          clear hif
          go_wp2_with (first | (with_reducible refine wpList_getg (o := ⟨some 108, .load 25 (.tmp 6), _, _, _, _⟩) (by with_unfolding_all rfl) 25 (.tmp 6) (by with_unfolding_all rfl) g6 0 (by with_unfolding_all rfl) B6 p.cells (cs_all _) _ (by exact Tryd.underlying25) (by with_unfolding_all rfl) (by (rw [Pat.cells_length]; exact Tryd.szP)) ?_) | (with_reducible refine wpList_getg (o := ⟨some 109, .load 23 (.tmp 13), _, _, _, _⟩) (by with_unfolding_all rfl) 23 (.tmp 13) (by with_unfolding_all rfl) g13 0 (by with_unfolding_all rfl) B13 (H f) (cs_all _) _ (by exact Tryd.underlying23) (by with_unfolding_all rfl) (by (rw [H_length]; exact Tryd.szH)) ?_))
          (with_reducible refine (HMF.out _).mono ?_)
          rintro e w20 ⟨rfl, hb20⟩
          have PA := PA.next hb20
          have PB := PB.next hb20
          have B6 := B6.next hb20 B6.lt
          have B7 := B7.next hb20 B7.lt
          have B11 := B11.next hb20 B11.lt
          have B13 := B13.next hb20 B13.lt
          have hbe := below_join hbe hb20
          clear hb20
          go_wp2_with (first | (with_reducible refine wpList_getg (o := ⟨some 114, .load 23 (.tmp 13), _, _, _, _⟩) (by with_unfolding_all rfl) 23 (.tmp 13) (by with_unfolding_all rfl) g13 0 (by with_unfolding_all rfl) B13 (H f) (cs_all _) _ (by exact Tryd.underlying23) (by with_unfolding_all rfl) (by (rw [H_length]; exact Tryd.szH)) ?_))
          (with_reducible refine (HIF.out _ PA).mono ?_)
          rintro e w21 ⟨rfl, hb21⟩
          have PA := PA.next hb21
          have PB := PB.next hb21
          have B6 := B6.next hb21 B6.lt
          have B7 := B7.next hb21 B7.lt
          have B11 := B11.next hb21 B11.lt
          have B13 := B13.next hb21 B13.lt
          have hbe := below_join hbe hb21
          clear hb21
          go_wp2
          go_ret
          exact ⟨rfl, hbe⟩
        · skip
          go_wp2_with (first | (with_reducible refine wpList_getg (o := ⟨some 95, .load 23 (.tmp 7), _, _, _, _⟩) (by with_unfolding_all rfl) 23 (.tmp 7) (by with_unfolding_all rfl) g7 0 (by with_unfolding_all rfl) B7 (H h) (cs_all _) _ (by exact Tryd.underlying23) (by with_unfolding_all rfl) (by (rw [H_length]; exact Tryd.szH)) ?_))
          (with_reducible refine (C1.out _ PA).mono ?_)
          rintro e w20 ⟨rfl, hb20⟩
          have PA := PA.next hb20
          have PB := PB.next hb20
          have B6 := B6.next hb20 B6.lt
          have B7 := B7.next hb20 B7.lt
          have B11 := B11.next hb20 B11.lt
          have B13 := B13.next hb20 B13.lt
          have hbe := below_join hbe hb20
          clear hb20
          have hmf := fun w => rmatch_m w p f (decide_eq_true HF1.out)
          have HMF := Lib.hid hmf
          clear hmf
          have hif := HINA.out f
          rw [(HCNT.out la f).2 HF2.out] at hif
          have HIF := Lib.hid hif
          clear hif
          rcases Z with _ | _
          · skip
            go_wp2_with (first | (with_reducible refine wpList_getg (o := ⟨some 108, .load 25 (.tmp 6), _, _, _, _⟩) (by with_unfolding_all rfl) 25 (.tmp 6) (by with_unfolding_all rfl) g6 0 (by with_unfolding_all rfl) B6 p.cells (cs_all _) _ (by exact Tryd.underlying25) (by with_unfolding_all rfl) (by (rw [Pat.cells_length]; exact Tryd.szP)) ?_) | (with_reducible refine wpList_getg (o := ⟨some 109, .load 23 (.tmp 13), _, _, _, _⟩) (by with_unfolding_all rfl) 23 (.tmp 13) (by with_unfolding_all rfl) g13 0 (by with_unfolding_all rfl) B13 (H f) (cs_all _) _ (by exact Tryd.underlying23) (by with_unfolding_all rfl) (by (rw [H_length]; exact Tryd.szH)) ?_))
            (with_reducible refine (HMF.out _).mono ?_)
            rintro e w21 ⟨rfl, hb21⟩
            have PA := PA.next hb21
            have PB := PB.next hb21
            have B6 := B6.next hb21 B6.lt
            have B7 := B7.next hb21 B7.lt
            have B11 := B11.next hb21 B11.lt
            have B13 := B13.next hb21 B13.lt
            have hbe := below_join hbe hb21
            clear hb21
            go_wp2_with (first | (with_reducible refine wpList_getg (o := ⟨some 114, .load 23 (.tmp 13), _, _, _, _⟩) (by with_unfolding_all rfl) 23 (.tmp 13) (by with_unfolding_all rfl) g13 0 (by with_unfolding_all rfl) B13 (H f) (cs_all _) _ (by exact Tryd.underlying23) (by with_unfolding_all rfl) (by (rw [H_length]; exact Tryd.szH)) ?_))
            (with_reducible refine (HIF.out _ PA).mono ?_)
            rintro e w22 ⟨rfl, hb22⟩
            have PA := PA.next hb22
            have PB := PB.next hb22
            have B6 := B6.next hb22 B6.lt
            have B7 := B7.next hb22 B7.lt
            have B11 := B11.next hb22 B11.lt
            have B13 := B13.next hb22 B13.lt
            have hbe := below_join hbe hb22
            clear hb22
            go_wp2
            go_ret
            exact ⟨rfl, hbe⟩
          · skip
            go_wp2_with (first | (with_reducible refine wpList_getg (o := ⟨some 108, .load 25 (.tmp 6), _, _, _, _⟩) (by with_unfolding_all rfl) 25 (.tmp 6) (by with_unfolding_all rfl) g6 0 (by with_unfolding_all rfl) B6 p.cells (cs_all _) _ (by exact Tryd.underlying25) (by with_unfolding_all rfl) (by (rw [Pat.cells_length]; exact Tryd.szP)) ?_) | (with_reducible refine wpList_getg (o := ⟨some 109, .load 23 (.tmp 13), _, _, _, _⟩) (by with_unfolding_all rfl) 23 (.tmp 13) (by with_unfolding_all rfl) g13 0 (by with_unfolding_all rfl) B13 (H f) (cs_all _) _ (by exact Tryd.underlying23) (by with_unfolding_all rfl) (by (rw [H_length]; exact Tryd.szH)) ?_))
            (with_reducible refine (HMF.out _).mono ?_)
            rintro e w21 ⟨rfl, hb21⟩
            have PA := PA.next hb21
            have PB := PB.next hb21
            have B6 := B6.next hb21 B6.lt
            have B7 := B7.next hb21 B7.lt
            have B11 := B11.next hb21 B11.lt
            have B13 := B13.next hb21 B13.lt
            have hbe := below_join hbe hb21
            clear hb21
            go_wp2_with (first | (with_reducible refine wpList_getg (o := ⟨some 114, .load 23 (.tmp 13), _, _, _, _⟩) (by with_unfolding_all rfl) 23 (.tmp 13) (by with_unfolding_all rfl) g13 0 (by with_unfolding_all rfl) B13 (H f) (cs_all _) _ (by exact Tryd.underlying23) (by with_unfolding_all rfl) (by (rw [H_length]; exact Tryd.szH)) ?_))
            (with_reducible refine (HIF.out _ PA).mono ?_)
            rintro e w22 ⟨rfl, hb22⟩
            have PA := PA.next hb22
            have PB := PB.next hb22
            have B6 := B6.next hb22 B6.lt
            have B7 := B7.next hb22 B7.lt
            have B11 := B11.next hb22 B11.lt
            have B13 := B13.next hb22 B13.lt
            have hbe := below_join hbe hb22
            clear hb22
            have hle : ¬ (cmpH f h > 0) := by
              have h1 := HF3.out h (of_decide_eq_true HM.out) (HZI.out.1 (by trivial))
              unfold cmpH
              split
              · omega
              · split
                · omega
                · omega
            obtain ⟨y, hy⟩ : ∃ y : Int, cmpH f h = y := ⟨_, rfl⟩
            have hcf := fun w => rcompareHeads_any f h w
            rw [hy] at hcf hle
            have HCF := Lib.hid hcf
            have hyl : decide (y ≤ 0) = true := decide_eq_true (by omega)
            clear hcf hy hle
            go_wp2_with (first | (with_reducible refine wpList_getg (o := ⟨some 122, .load 23 (.tmp 13), _, _, _, _⟩) (by with_unfolding_all rfl) 23 (.tmp 13) (by with_unfolding_all rfl) g13 0 (by with_unfolding_all rfl) B13 (H f) (cs_all _) _ (by exact Tryd.underlying23) (by with_unfolding_all rfl) (by (rw [H_length]; exact Tryd.szH)) ?_) | (with_reducible refine wpList_getg (o := ⟨some 123, .load 23 (.tmp 7), _, _, _, _⟩) (by with_unfolding_all rfl) 23 (.tmp 7) (by with_unfolding_all rfl) g7 0 (by with_unfolding_all rfl) B7 (H h) (cs_all _) _ (by exact Tryd.underlying23) (by with_unfolding_all rfl) (by (rw [H_length]; exact Tryd.szH)) ?_))
            (with_reducible refine (HCF.out _).mono ?_)
            rintro e w23 ⟨rfl, hb23⟩
            have PA := PA.next hb23
            have PB := PB.next hb23
            have B6 := B6.next hb23 B6.lt
            have B7 := B7.next hb23 B7.lt
            have B11 := B11.next hb23 B11.lt
            have B13 := B13.next hb23 B13.lt
            have hbe := below_join hbe hb23
            clear hb23
            go_wp2
            go_ret
            exact ⟨rfl, hbe⟩
      · subst hF0
        have HF1 := Lib.hid hF1
        clear hF1
        dsimp only [outV]
        go_wp2_with (with_reducible refine wpList_alloc (o := ⟨some 13, .alloc 23, _, _, _, _⟩) (by with_unfolding_all rfl) 23 (by with_unfolding_all rfl) (.agg (H no).toArray) (H no) (by exact Tryd.zeroH) (by with_unfolding_all rfl) ?_)
        intro g13 w17 hg13 hs17 hb17 hB17
        have hl17 : w16.heap.size ≤ g13 := Nat.le_of_eq hg13.out.symm
        have hb17 := hb17.mono hl17
        go_wp2_with (with_reducible refine wpList_put (o := ⟨none, .store 23 (.tmp 13) (.tmp 88), _, _, _, _⟩) (by with_unfolding_all rfl) 23 (.tmp 13) (.tmp 88) (by with_unfolding_all rfl) g13 0 (by with_unfolding_all rfl) (.agg (H no).toArray) (by with_unfolding_all rfl) hB17 (H no) (by with_unfolding_all rfl) (by with_unfolding_all (rw [H_length]; exact Tryd.szH)) (by with_unfolding_all (simp only [H_length] <;> omega)) (by with_unfolding_all (exact H_one _)) ?_)
        intro w18 hu18 B13
        rw [splice_all _ _ (by simp only [H_length])] at B13
        have hb18 := hb17.trans (hu18.below (B := w16.heap.size) hl17)
        have PA := PA.next hb18
        have PB := PB.next hb18
        have B6 := B6.next hb18 B6.lt
        have B7 := B7.next hb18 B7.lt
        have B11 := B11.next hb18 B11.lt
        have hbe := below_join hbe hb18
        clear hb17 hb18 hu18 hB17 hl17 hg13 hs17
        go_wp2_with (first | (with_reducible refine wpList_getg (o := ⟨some 90, .load 25 (.tmp 6), _, _, _, _⟩) (by with_unfolding_all rfl) 25 (.tmp 6) (by with_unfolding_all rfl) g6 0 (by with_unfolding_all rfl) B6 p.cells (cs_all _) _ (by exact Tryd.underlying25) (by with_unfolding_all rfl) (by (rw [Pat.cells_length]; exact Tryd.szP)) ?_) | (with_reducible refine wpList_getg (o := ⟨some 91, .load 23 (.tmp 7), _, _, _, _⟩) (by with_unfolding_all rfl) 23 (.tmp 7) (by with_unfolding_all rfl) g7 0 (by with_unfolding_all rfl) B7 (H h) (cs_all _) _ (by exact Tryd.underlying23) (by with_unfolding_all rfl) (by (rw [H_length]; exact Tryd.szH)) ?_))
        (with_reducible refine (C3.out _).mono ?_)
        rintro e w19 ⟨rfl, hb19⟩
        have PA := PA.next hb19
        have PB := PB.next hb19
        have B6 := B6.next hb19 B6.lt
        have B7 := B7.next hb19 B7.lt
        have B11 := B11.next hb19 B11.lt
        have B13 := B13.next hb19 B13.lt
        have hbe := below_join hbe hb19
        clear hb19
        rcases M with _ | _
        · skip
          go_wp2
          go_ret
          exact ⟨rfl, hbe⟩
        · skip
          go_wp2_with (first | (with_reducible refine wpList_getg (o := ⟨some 95, .load 23 (.tmp 7), _, _, _, _⟩) (by with_unfolding_all rfl) 23 (.tmp 7) (by with_unfolding_all rfl) g7 0 (by with_unfolding_all rfl) B7 (H h) (cs_all _) _ (by exact Tryd.underlying23) (by with_unfolding_all rfl) (by (rw [H_length]; exact Tryd.szH)) ?_))
          (with_reducible refine (C1.out _ PA).mono ?_)
          rintro e w20 ⟨rfl, hb20⟩
          have PA := PA.next hb20
          have PB := PB.next hb20
          have B6 := B6.next hb20 B6.lt
          have B7 := B7.next hb20 B7.lt
          have B11 := B11.next hb20 B11.lt
          have B13 := B13.next hb20 B13.lt
          have hbe := below_join hbe hb20
          clear hb20
          have hz : Z = false := by
            cases hz : Z
            · rfl
            · exact absurd trivial (HF1.out h (of_decide_eq_true HM.out) (HZI.out.1 hz))
          subst hz
          go_wp2
          go_ret
          exact ⟨rfl, hbe⟩
    · skip
      have hle : ¬ (cmpH h m1 < 0) := by
        have h1 := HR2.out h (HODD.out.1 (by trivial))
        unfold cmpH
        split
        · omega
        · split
          · omega
          · omega
      obtain ⟨y, hy⟩ : ∃ y : Int, cmpH h m1 = y := ⟨_, rfl⟩
      have hcf := fun w => rcompareHeads_any h m1 w
      rw [hy] at hcf hle
      have HCF := Lib.hid hcf
      have hyl : decide (y < 0) = false := decide_eq_false hle
      clear hcf hy hle
      go_wp2
      have hdd := below_drew w13
      have K7_0 : Hid (∀ w', Below w13.heap.size w13 w' → w'.rangeAt g7 0 (H h)) := (fun w' h => blk_range (B7.next h B7.lt) : ∀ w', Below w13.heap.size w13 w' → w'.rangeAt g7 0 (H h))
      have Z7_0 : (Tryd.prog.info? 23).map (·.size) = some (H h).length := by (rw [H_length]; exact Tryd.szH)
      have K11_0 : Hid (∀ w', Below w13.heap.size w13 w' → w'.rangeAt g11 0 (H m1)) := (fun w' h => blk_range (B11.next h B11.lt) : ∀ w', Below w13.heap.size w13 w' → w'.rangeAt g11 0 (H m1))
      have Z11_0 : (Tryd.prog.info? 23).map (·.size) = some (H m1).length := by (rw [H_length]; exact Tryd.szH)
      refine wp_region_held_drew (S := fun w' => Below w13.heap.size w13 w') (by kernel_rfl) hdd (fun hHeld => ?_)
      generalize w13.drew = wd at hdd hHeld ⊢
      refine wpAnyH_take (i := 0) (v := ?vad_0) rfl (by kernel_rfl) (by kernel_rfl) (by kernel_rfl) (fun _ _ _ h => h) (Or.inl ⟨by rfl, ?yad_0⟩) (by assumption) ?rad_0
      case yad_0 => intro w hSw; (try dsimp only at hSw); go_simp <;> (try with_reducible rfl)
      (try simp only [List.getElem_toArray, List.getElem_cons_zero, Act.put, List.setIfInBounds_toArray, List.set_cons_zero, List.set_cons_succ])
      refine wpAnyH_take (i := 1) (v := ?vad_1) rfl (by kernel_rfl) (by kernel_rfl) (by kernel_rfl) (fun _ _ _ h => h) (Or.inl ⟨by rfl, ?yad_1⟩) (by assumption) ?rad_1
      case yad_1 => intro w hSw; (try dsimp only at hSw); go_simp <;> (try with_reducible rfl)
      (try simp only [List.getElem_toArray, List.getElem_cons_succ, List.getElem_cons_zero, Act.put, List.setIfInBounds_toArray, List.set_cons_zero, List.set_cons_succ])
      refine wpAnyH_take (i := 2) (v := undef) rfl (by kernel_rfl) (by kernel_rfl) (by kernel_rfl) (fun _ _ _ h => h) (Or.inr ⟨by rfl, rfl⟩) (by assumption) ?rad_2
      (try simp only [List.getElem_toArray, List.getElem_cons_succ, List.getElem_cons_zero, Act.put, List.setIfInBounds_toArray, List.set_cons_zero, List.set_cons_succ])
      refine wpAnyH_take (i := 3) (v := ?vad_3) rfl (by kernel_rfl) (by kernel_rfl) (by kernel_rfl) (fun _ _ _ h => h) (Or.inl ⟨by rfl, ?yad_3⟩) (by assumption) ?rad_3
      case yad_3 => intro w hSw; (try dsimp only at hSw); go_simp <;> (try with_reducible rfl)
      (try simp only [List.getElem_toArray, List.getElem_cons_succ, List.getElem_cons_zero, Act.put, List.setIfInBounds_toArray, List.set_cons_zero, List.set_cons_succ])
      refine wpAnyH_take (i := 4) (v := ?vad_4) rfl (by kernel_rfl) (by kernel_rfl) (by kernel_rfl) (fun _ _ _ h => h) (Or.inl ⟨by rfl, ?yad_4⟩) (by assumption) ?rad_4
      case yad_4 => intro w hSw; (try dsimp only at hSw); go_simp <;> (try with_reducible rfl)
      (try simp only [List.getElem_toArray, List.getElem_cons_succ, List.getElem_cons_zero, Act.put, List.setIfInBounds_toArray, List.set_cons_zero, List.set_cons_succ])
      refine wpAnyH_take (i := 5) (v := ?vad_5) rfl (by kernel_rfl) (by kernel_rfl) (by kernel_rfl) (fun _ _ _ h => h) (Or.inl ⟨by rfl, ?yad_5⟩) (by assumption) ?rad_5
      case yad_5 => intro w hSw; (try dsimp only at hSw); go_simp <;> (try with_reducible rfl)
      (try simp only [List.getElem_toArray, List.getElem_cons_succ, List.getElem_cons_zero, Act.put, List.setIfInBounds_toArray, List.set_cons_zero, List.set_cons_succ])
      refine wpAnyH_take (i := 6) (v := ?vad_6) rfl (by kernel_rfl) (by kernel_rfl) (by kernel_rfl) (fun _ _ _ h => h) (Or.inl ⟨by rfl, ?yad_6⟩) (by assumption) ?rad_6
      case yad_6 => intro w hSw; (try dsimp only at hSw); go_simp <;> (try with_reducible rfl)
      (try simp only [List.getElem_toArray, List.getElem_cons_succ, List.getElem_cons_zero, Act.put, List.setIfInBounds_toArray, List.set_cons_zero, List.set_cons_succ])
      refine wpAnyH_take (i := 7) (v := ?vad_7) rfl (by kernel_rfl) (by kernel_rfl) (by kernel_rfl) (fun _ _ _ h => h) (Or.inl ⟨by rfl, ?yad_7⟩) (by assumption) ?rad_7
      case yad_7 => intro w hSw; (try dsimp only at hSw); go_simp <;> (try with_reducible rfl)
      (try simp only [List.getElem_toArray, List.getElem_cons_succ, List.getElem_cons_zero, Act.put, List.setIfInBounds_toArray, List.set_cons_zero, List.set_cons_succ])
      refine wpAnyH_take (i := 8) (v := ?vad_8) rfl (by kernel_rfl) (by kernel_rfl) (by kernel_rfl) (fun _ _ _ h => h) (Or.inl ⟨by rfl, ?yad_8⟩) (by assumption) ?rad_8
      case yad_8 => intro w hSw; (try dsimp only at hSw); go_simp <;> (try with_reducible rfl)
      (try simp only [List.getElem_toArray, List.getElem_cons_succ, List.getElem_cons_zero, Act.put, List.setIfInBounds_toArray, List.set_cons_zero, List.set_cons_succ])
      refine' wpAnyH_take (i := 9) (v := _) rfl (by kernel_rfl) (by kernel_rfl) (by kernel_rfl) (fun _ _ _ h => h) (yieldsIf_load_mid (by rfl) _ _ (by rfl) _ _ (by rfl) _ _ ?Sad_9 ?uad_9 ?dad_9 ?iad_9) (by assumption) ?rad_9
      case Sad_9 => exact (by intro w h; exact K11_0.out _ h)
      case uad_9 => exact Tryd.underlying23
      case dad_9 => rfl
      case iad_9 => exact Z11_0
      (try simp only [List.getElem_toArray, List.getElem_cons_succ, List.getElem_cons_zero, Act.put, List.setIfInBounds_toArray, List.set_cons_zero, List.set_cons_succ])
      refine wpAnyH_take (i := 12) (v := ?vad_12) rfl (by kernel_rfl) (by kernel_rfl) (by kernel_rfl) (fun _ _ _ h => h) (Or.inl ⟨by rfl, ?yad_12⟩) (by assumption) ?rad_12
      case yad_12 => intro w hSw; (try dsimp only at hSw); go_simp <;> (try with_reducible rfl)
      (try simp only [List.getElem_toArray, List.getElem_cons_succ, List.getElem_cons_zero, Act.put, List.setIfInBounds_toArray, List.set_cons_zero, List.set_cons_succ])
      refine' wpAnyH_take (i := 13) (v := _) rfl (by kernel_rfl) (by kernel_rfl) (by kernel_rfl) (fun _ _ _ h => h) (yieldsIf_load_mid (by rfl) _ _ (by rfl) _ _ (by rfl) _ _ ?Sad_13 ?uad_13 ?dad_13 ?iad_13) (by assumption) ?rad_13
      case Sad_13 => exact (by intro w h; exact K11_0.out _ h)
      case uad_13 => exact Tryd.underlying23
      case dad_13 => rfl
      case iad_13 => exact Z11_0
      (try simp only [List.getElem_toArray, List.getElem_cons_succ, List.getElem_cons_zero, Act.put, List.setIfInBounds_toArray, List.set_cons_zero, List.set_cons_succ])
      refine wpAnyH_ready (rs := [10]) (by kernel_rfl) (by simp) ?_
      refine AllReadyH.cons rfl (fun K hK => ?_) AllReadyH.nil
      go_simp
      go_wp2_with fail
      (with_reducible refine (D1.out _ (PA.next hdd)).mono ?_)
      rintro e w14 ⟨rfl, hb14⟩
      have hk14 := below_join hdd hb14
      refine hK.out _ _ hk14 (fun hHeld => ?_)
      clear hK K hb14 hdd
      refine wpAnyH_take (i := 11) (v := ?vad_11) rfl (by kernel_rfl) (by kernel_rfl) (by kernel_rfl) (fun _ _ _ h => h) (Or.inl ⟨by rfl, ?yad_11⟩) (by assumption) ?rad_11
      case yad_11 => intro w hSw; (try dsimp only at hSw); go_simp <;> (try with_reducible rfl)
      (try simp only [List.getElem_toArray, List.getElem_cons_succ, List.getElem_cons_zero, Act.put, List.setIfInBounds_toArray, List.set_cons_zero, List.set_cons_succ])
      refine wpAnyH_ready (rs := [14]) (by kernel_rfl) (by simp) ?_
      refine AllReadyH.cons rfl (fun K hK => ?_) AllReadyH.nil
      go_simp
      go_wp2_with fail
      (with_reducible refine (D2.out _ (PB.next hk14)).mono ?_)
      rintro e w15 ⟨rfl, hb15⟩
      have hk15 := below_join hk14 hb15
      refine hK.out _ _ hk15 (fun hHeld => ?_)
      clear hK K hb15 hk14
      refine wpAnyH_take (i := 15) (v := ?vad_15) rfl (by kernel_rfl) (by kernel_rfl) (by kernel_rfl) (fun _ _ _ h => h) (Or.inl ⟨by rfl, ?yad_15⟩) (by assumption) ?rad_15
      case yad_15 => intro w hSw; (try dsimp only at hSw); go_simp <;> (try with_reducible rfl)
      (try simp only [List.getElem_toArray, List.getElem_cons_succ, List.getElem_cons_zero, Act.put, List.setIfInBounds_toArray, List.set_cons_zero, List.set_cons_succ])
      refine wpAnyH_take (i := 16) (v := ?vad_16) rfl (by kernel_rfl) (by kernel_rfl) (by kernel_rfl) (fun _ _ _ h => h) (Or.inl ⟨by rfl, ?yad_16⟩) (by assumption) ?rad_16
      case yad_16 => intro w hSw; (try dsimp only at hSw); go_simp <;> (try with_reducible rfl)
      (try simp only [List.getElem_toArray, List.getElem_cons_succ, List.getElem_cons_zero, Act.put, List.setIfInBounds_toArray, List.set_cons_zero, List.set_cons_succ])
      refine wpAnyH_take (i := 17) (v := ?vad_17) rfl (by kernel_rfl) (by kernel_rfl) (by kernel_rfl) (fun _ _ _ h => h) (Or.inl ⟨by rfl, ?yad_17⟩) (by assumption) ?rad_17
      case yad_17 => intro w hSw; (try dsimp only at hSw); go_simp <;> (try with_reducible rfl)
      (try simp only [List.getElem_toArray, List.getElem_cons_succ, List.getElem_cons_zero, Act.put, List.setIfInBounds_toArray, List.set_cons_zero, List.set_cons_succ])
      refine wpAnyH_take (i := 18) (v := ?vad_18) rfl (by kernel_rfl) (by kernel_rfl) (by kernel_rfl) (fun _ _ _ h => h) (Or.inl ⟨by rfl, ?yad_18⟩) (by assumption) ?rad_18
      case yad_18 => intro w hSw; (try dsimp only at hSw); go_simp <;> (try with_reducible rfl)
      (try simp only [List.getElem_toArray, List.getElem_cons_succ, List.getElem_cons_zero, Act.put, List.setIfInBounds_toArray, List.set_cons_zero, List.set_cons_succ])
      refine wpAnyH_take (i := 19) (v := ?vad_19) rfl (by kernel_rfl) (by kernel_rfl) (by kernel_rfl) (fun _ _ _ h => h) (Or.inl ⟨by rfl, ?yad_19⟩) (by assumption) ?rad_19
      case yad_19 => intro w hSw; (try dsimp only at hSw); go_simp <;> (try with_reducible rfl)
      (try simp only [List.getElem_toArray, List.getElem_cons_succ, List.getElem_cons_zero, Act.put, List.setIfInBounds_toArray, List.set_cons_zero, List.set_cons_succ])
      refine wpAnyH_take (i := 20) (v := ?vad_20) rfl (by kernel_rfl) (by kernel_rfl) (by kernel_rfl) (fun _ _ _ h => h) (Or.inl ⟨by rfl, ?yad_20⟩) (by assumption) ?rad_20
      case yad_20 => intro w hSw; (try dsimp only at hSw); go_simp <;> (try with_reducible rfl)
      (try simp only [List.getElem_toArray, List.getElem_cons_succ, List.getElem_cons_zero, Act.put, List.setIfInBounds_toArray, List.set_cons_zero, List.set_cons_succ])
      refine wpAnyH_take (i := 21) (v := ?vad_21) rfl (by kernel_rfl) (by kernel_rfl) (by kernel_rfl) (fun _ _ _ h => h) (Or.inl ⟨by rfl, ?yad_21⟩) (by assumption) ?rad_21
      case yad_21 => intro w hSw; (try dsimp only at hSw); go_simp <;> (try with_reducible rfl)
      (try simp only [List.getElem_toArray, List.getElem_cons_succ, List.getElem_cons_zero, Act.put, List.setIfInBounds_toArray, List.set_cons_zero, List.set_cons_succ])
      refine wpAnyH_take (i := 22) (v := ?vad_22) rfl (by kernel_rfl) (by kernel_rfl) (by kernel_rfl) (fun _ _ _ h => h) (Or.inl ⟨by rfl, ?yad_22⟩) (by assumption) ?rad_22
      case yad_22 => intro w hSw; (try dsimp only at hSw); go_simp <;> (try with_reducible rfl)
      (try simp only [List.getElem_toArray, List.getElem_cons_succ, List.getElem_cons_zero, Act.put, List.setIfInBounds_toArray, List.set_cons_zero, List.set_cons_succ])
      refine wpAnyH_take (i := 23) (v := ?vad_23) rfl (by kernel_rfl) (by kernel_rfl) (by kernel_rfl) (fun _ _ _ h => h) (Or.inl ⟨by rfl, ?yad_23⟩) (by assumption) ?rad_23
      case yad_23 => intro w hSw; (try dsimp only at hSw); go_simp <;> (try with_reducible rfl)
      (try simp only [List.getElem_toArray, List.getElem_cons_succ, List.getElem_cons_zero, Act.put, List.setIfInBounds_toArray, List.set_cons_zero, List.set_cons_succ])
      refine wpAnyH_take (i := 24) (v := ?vad_24) rfl (by kernel_rfl) (by kernel_rfl) (by kernel_rfl) (fun _ _ _ h => h) (Or.inl ⟨by rfl, ?yad_24⟩) (by assumption) ?rad_24
      case yad_24 => intro w hSw; (try dsimp only at hSw); go_simp <;> (try with_reducible rfl)
      (try simp only [List.getElem_toArray, List.getElem_cons_succ, List.getElem_cons_zero, Act.put, List.setIfInBounds_toArray, List.set_cons_zero, List.set_cons_succ])
      refine wpAnyH_take (i := 25) (v := ?vad_25) rfl (by kernel_rfl) (by kernel_rfl) (by kernel_rfl) (fun _ _ _ h => h) (Or.inl ⟨by rfl, ?yad_25⟩) (by assumption) ?rad_25
      case yad_25 => intro w hSw; (try dsimp only at hSw); go_simp <;> (try with_reducible rfl)
      (try simp only [List.getElem_toArray, List.getElem_cons_succ, List.getElem_cons_zero, Act.put, List.setIfInBounds_toArray, List.set_cons_zero, List.set_cons_succ])
      refine' wpAnyH_take (i := 26) (v := _) rfl (by kernel_rfl) (by kernel_rfl) (by kernel_rfl) (fun _ _ _ h => h) (yieldsIf_load_mid (by rfl) _ _ (by rfl) _ _ (by rfl) _ _ ?Sad_26 ?uad_26 ?dad_26 ?iad_26) (by assumption) ?rad_26
      case Sad_26 => exact (by intro w h; exact K7_0.out _ h)
      case uad_26 => exact Tryd.underlying23
      case dad_26 => rfl
      case iad_26 => exact Z7_0
      (try simp only [List.getElem_toArray, List.getElem_cons_succ, List.getElem_cons_zero, Act.put, List.setIfInBounds_toArray, List.set_cons_zero, List.set_cons_succ])
      refine' wpAnyH_take (i := 27) (v := _) rfl (by kernel_rfl) (by kernel_rfl) (by kernel_rfl) (fun _ _ _ h => h) (yieldsIf_load_mid (by rfl) _ _ (by rfl) _ _ (by rfl) _ _ ?Sad_27 ?uad_27 ?dad_27 ?iad_27) (by assumption) ?rad_27
      case Sad_27 => exact (by intro w h; exact K11_0.out _ h)
      case uad_27 => exact Tryd.underlying23
      case dad_27 => rfl
      case iad_27 => exact Z11_0
      (try simp only [List.getElem_toArray, List.getElem_cons_succ, List.getElem_cons_zero, Act.put, List.setIfInBounds_toArray, List.set_cons_zero, List.set_cons_succ])
      refine wpAnyH_ready (rs := [28]) (by kernel_rfl) (by simp) ?_
      refine AllReadyH.cons rfl (fun K hK => ?_) AllReadyH.nil
      go_simp
      go_wp2_with fail
      (with_reducible refine (HCF.out _).mono ?_)
      rintro e w16 ⟨rfl, hb16⟩
      have hk16 := below_join hk15 hb16
      refine hK.out _ _ hk16 (fun hHeld => ?_)
      clear hK K hb16 hk15
      refine wpAnyH_take (i := 29) (v := ?vad_29) rfl (by kernel_rfl) (by kernel_rfl) (by kernel_rfl) (fun _ _ _ h => h) (Or.inl ⟨by rfl, ?yad_29⟩) (by assumption) ?rad_29
      case yad_29 => intro w hSw; (try dsimp only at hSw); go_simp <;> (try with_reducible rfl)
      (try simp only [List.getElem_toArray, List.getElem_cons_succ, List.getElem_cons_zero, Act.put, List.setIfInBounds_toArray, List.set_cons_zero, List.set_cons_succ])
      refine wpAnyH_take (i := 30) (v := ?vad_30) rfl (by kernel_rfl) (by kernel_rfl) (by kernel_rfl) (fun _ _ _ h => h) (Or.inl ⟨by rfl, ?yad_30⟩) (by assumption) ?rad_30
      case yad_30 => intro w hSw; (try dsimp only at hSw); go_simp <;> (try with_reducible rfl)
      (try simp only [List.getElem_toArray, List.getElem_cons_succ, List.getElem_cons_zero, Act.put, List.setIfInBounds_toArray, List.set_cons_zero, List.set_cons_succ])
      refine wpAnyH_take (i := 31) (v := ?vad_31) rfl (by kernel_rfl) (by kernel_rfl) (by kernel_rfl) (fun _ _ _ h => h) (Or.inl ⟨by rfl, ?yad_31⟩) (by assumption) ?rad_31
      case yad_31 => intro w hSw; (try dsimp only at hSw); go_simp <;> (try with_reducible rfl)
      (try simp only [List.getElem_toArray, List.getElem_cons_succ, List.getElem_cons_zero, Act.put, List.setIfInBounds_toArray, List.set_cons_zero, List.set_cons_succ])
      refine wpAnyH_done (by kernel_rfl) ?_ _
      clear hHeld K7_0 Z7_0 K11_0 Z11_0
      have PA := PA.next hk16
      have PB := PB.next hk16
      have B6 := B6.next hk16 B6.lt
      have B7 := B7.next hk16 B7.lt
      have B11 := B11.next hk16 B11.lt
      have hbe := below_join hbe hk16
      clear hk16
      clear u1 u2 u3 u4 hyl
      go_wp2_with (first | (with_reducible refine wpList_getg (o := ⟨some 85, .load 25 (.tmp 6), _, _, _, _⟩) (by with_unfolding_all rfl) 25 (.tmp 6) (by with_unfolding_all rfl) g6 0 (by with_unfolding_all rfl) B6 p.cells (cs_all _) _ (by exact Tryd.underlying25) (by with_unfolding_all rfl) (by (rw [Pat.cells_length]; exact Tryd.szP)) ?_))
      (with_reducible refine (HOUT.out _ PA (fun g o e => by have := HG0.out g o e; have := hbe.size; omega)).mono ?_)
      rintro e w17 ⟨R2, rfl, hF2, hb17⟩
      have PA := PA.next hb17
      have PB := PB.next hb17
      have B6 := B6.next hb17 B6.lt
      have B7 := B7.next hb17 B7.lt
      have B11 := B11.next hb17 B11.lt
      have hbe := below_join hbe hb17
      clear hb17
      rcases hF2 with ⟨f, ⟨hf1, hf2, hf3⟩, _, hF0⟩ | ⟨hF1, hF0⟩
      · subst hF0
        have HF1 := Lib.hid hf1
        have HF2 := Lib.hid hf2
        have HF3 := Lib.hid hf3
        clear hf1 hf2 hf3
        dsimp only [outV]
        go_wp2_with (with_reducible refine wpList_alloc (o := ⟨some 13, .alloc 23, _, _, _, _⟩) (by with_unfolding_all rfl) 23 (by with_unfolding_all rfl) (.agg (H no).toArray) (H no) (by exact Tryd.zeroH) (by with_unfolding_all rfl) ?_)
        intro g13 w18 hg13 hs18 hb18 hB18
        have hl18 : w17.heap.size ≤ g13 := Nat.le_of_eq hg13.out.symm
        have hb18 := hb18.mono hl18
        go_wp2_with (with_reducible refine wpList_put (o := ⟨none, .store 23 (.tmp 13) (.tmp 88), _, _, _, _⟩) (by with_unfolding_all rfl) 23 (.tmp 13) (.tmp 88) (by with_unfolding_all rfl) g13 0 (by with_unfolding_all rfl) (.agg (H f).toArray) (by with_unfolding_all rfl) hB18 (H f) (by with_unfolding_all rfl) (by with_unfolding_all (rw [H_length]; exact Tryd.szH)) (by with_unfolding_all (simp only [H_length] <;> omega)) (by with_unfolding_all (exact H_one _)) ?_)
        intro w19 hu19 B13
        rw [splice_all _ _ (by simp only [H_length])] at B13
        have hb19 := hb18.trans (hu19.below (B := w17.heap.size) hl18)
        have PA := PA.next hb19
        have PB := PB.next hb19
        have B6 := B6.next hb19 B6.lt
        have B7 := B7.next hb19 B7.lt
        have B11 := B11.next hb19 B11.lt
        have hbe := below_join hbe hb19
        clear hb18 hb19 hu19 hB18 hl18 hg13 hs18
        go_wp2_with (first | (with_reducible refine wpList_getg (o := ⟨some 90, .load 25 (.tmp 6), _, _, _, _⟩) (by with_unfolding_all rfl) 25 (.tmp 6) (by with_unfolding_all rfl) g6 0 (by with_unfolding_all rfl) B6 p.cells (cs_all _) _ (by exact Tryd.underlying25) (by with_unfolding_all rfl) (by (rw [Pat.cells_length]; exact Tryd.szP)) ?_) | (with_reducible refine wpList_getg (o := ⟨some 91, .load 23 (.tmp 7), _, _, _, _⟩) (by with_unfolding_all rfl) 23 (.tmp 7) (by with_unfolding_all rfl) g7 0 (by with_unfolding_all rfl) B7 (H h) (cs_all _) _ (by exact Tryd.underlying23) (by with_unfolding_all rfl) (by (rw [H_length]; exact Tryd.szH)) ?_))
        (with_reducible refine (C3.out _).mono ?_)
        rintro e w20 ⟨rfl, hb20⟩
        have PA := PA.next hb20
        have PB := PB.next hb20
        have B6 := B6.next hb20 B6.lt
        have B7 := B7.next hb20 B7.lt
        have B11 := B11.next hb20 B11.lt
        have B13 := B13.next hb20 B13.lt
        have hbe := below_join hbe hb20
        clear hb20
        rcases M with _ | _
        · skip
          have hmf := fun w => rmatch_m w p f (decide_eq_true HF1.out)
          have HMF := Lib.hid hmf
          clear hmf
          have hif := HINA.out f
          rw [(HCNT.out la f).2 HF2.out] at hif
          have HIF := Lib.hid hif
          clear hif
          go_wp2_with (first | (with_reducible refine wpList_getg (o := ⟨some 108, .load 25 (.tmp 6), _, _, _, _⟩) (by with_unfolding_all rfl) 25 (.tmp 6) (by with_unfolding_all rfl) g6 0 (by with_unfolding_all rfl) B6 p.cells (cs_all _) _ (by exact Tryd.underlying25) (by with_unfolding_all rfl) (by (rw [Pat.cells_length]; exact Tryd.szP)) ?_) | (with_reducible refine wpList_getg (o := ⟨some 109, .load 23 (.tmp 13), _, _, _, _⟩) (by with_unfolding_all rfl) 23 (.tmp 13) (by with_unfolding_all rfl) g13 0 (by with_unfolding_all rfl) B13 (H f) (cs_all _) _ (by exact Tryd.underlying23) (by with_unfolding_all rfl) (by (rw [H_length]; exact Tryd.szH)) ?_))
          (with_reducible refine (HMF.out _).mono ?_)
          rintro e w21 ⟨rfl, hb21⟩
          have PA := PA.next hb21
          have PB := PB.next hb21
          have B6 := B6.next hb21 B6.lt
          have B7 := B7.next hb21 B7.lt
          have B11 := B11.next hb21 B11.lt
          have B13 := B13.next hb21 B13.lt
          have hbe := below_join hbe hb21
          clear hb21
          go_wp2_with (first | (with_reducible refine wpList_getg (o := ⟨some 114, .load 23 (.tmp 13), _, _, _, _⟩) (by with_unfolding_all rfl) 23 (.tmp 13) (by with_unfolding_all rfl) g13 0 (by with_unfolding_all rfl) B13 (H f) (cs_all _) _ (by exact Tryd.underlying23) (by with_unfolding_all rfl) (by (rw [H_length]; exact Tryd.szH)) ?_))
          (with_reducible refine (HIF.out _ PA).mono ?_)
          rintro e w22 ⟨rfl, hb22⟩
          have PA := PA.next hb22
          have PB := PB.next hb22
          have B6 := B6.next hb22 B6.lt
          have B7 := B7.next hb22 B7.lt
          have B11 := B11.next hb22 B11.lt
          have B13 := B13.next hb22 B13.lt
          have hbe := below_join hbe hb22
          clear hb22
          go_wp2
          go_ret
          exact ⟨rfl, hbe⟩
        · skip
          go_wp2_with (first | (with_reducible refine wpList_getg (o := ⟨some 95, .load 23 (.tmp 7), _, _, _, _⟩) (by with_unfolding_all rfl) 23 (.tmp 7) (by with_unfolding_all rfl) g7 0 (by with_unfolding_all rfl) B7 (H h) (cs_all _) _ (by exact Tryd.underlying23) (by with_unfolding_all rfl) (by (rw [H_length]; exact Tryd.szH)) ?_))
          (with_reducible refine (C1.out _ PA).mono ?_)
          rintro e w21 ⟨rfl, hb21⟩
          have PA := PA.next hb21
          have PB := PB.next hb21
          have B6 := B6.next hb21 B6.lt
          have B7 := B7.next hb21 B7.lt
          have B11 := B11.next hb21 B11.lt
          have B13 := B13.next hb21 B13.lt
          have hbe := below_join hbe hb21
          clear hb21
          have hmf := fun w => rmatch_m w p f (decide_eq_true HF1.out)
          have HMF := Lib.hid hmf
          clear hmf
          have hif := HINA.out f
          rw [(HCNT.out la f).2 HF2.out] at hif
          have HIF := Lib.hid hif
          clear hif
          rcases Z with _ | _
          · skip
            go_wp2_with (first | (with_reducible refine wpList_getg (o := ⟨some 108, .load 25 (.tmp 6), _, _, _, _⟩) (by with_unfolding_all rfl) 25 (.tmp 6) (by with_unfolding_all rfl) g6 0 (by with_unfolding_all rfl) B6 p.cells (cs_all _) _ (by exact Tryd.underlying25) (by with_unfolding_all rfl) (by (rw [Pat.cells_length]; exact Tryd.szP)) ?_) | (with_reducible refine wpList_getg (o := ⟨some 109, .load 23 (.tmp 13), _, _, _, _⟩) (by with_unfolding_all rfl) 23 (.tmp 13) (by with_unfolding_all rfl) g13 0 (by with_unfolding_all rfl) B13 (H f) (cs_all _) _ (by exact Tryd.underlying23) (by with_unfolding_all rfl) (by (rw [H_length]; exact Tryd.szH)) ?_))
            (with_reducible refine (HMF.out _).mono ?_)
            rintro e w22 ⟨rfl, hb22⟩
            have PA := PA.next hb22
            have PB := PB.next hb22
            have B6 := B6.next hb22 B6.lt
            have B7 := B7.next hb22 B7.lt
            have B11 := B11.next hb22 B11.lt
            have B13 := B13.next hb22 B13.lt
            have hbe := below_join hbe hb22
            clear hb22
            go_wp2_with (first | (with_reducible refine wpList_getg (o := ⟨some 114, .load 23 (.tmp 13), _, _, _, _⟩) (by with_unfolding_all rfl) 23 (.tmp 13) (by with_unfolding_all rfl) g13 0 (by with_unfolding_all rfl) B13 (H f) (cs_all _) _ (by exact Tryd.underlying23) (by with_unfolding_all rfl) (by (rw [H_length]; exact Tryd.szH)) ?_))
            (with_reducible refine (HIF.out _ PA).mono ?_)
            rintro e w23 ⟨rfl, hb23⟩
            have PA := PA.next hb23
            have PB := PB.next hb23
            have B6 := B6.next hb23 B6.lt
            have B7 := B7.next hb23 B7.lt
            have B11 := B11.next hb23 B11.lt
            have B13 := B13.next hb23 B13.lt
            have hbe := below_join hbe hb23
            clear hb23
            go_wp2
            go_ret
            exact ⟨rfl, hbe⟩
          · skip
            go_wp2_with (first | (with_reducible refine wpList_getg (o := ⟨some 108, .load 25 (.tmp 6), _, _, _, _⟩) (by with_unfolding_all rfl) 25 (.tmp 6) (by with_unfolding_all rfl) g6 0 (by with_unfolding_all rfl) B6 p.cells (cs_all _) _ (by exact Tryd.underlying25) (by with_unfolding_all rfl) (by (rw [Pat.cells_length]; exact Tryd.szP)) ?_) | (with_reducible refine wpList_getg (o := ⟨some 109, .load 23 (.tmp 13), _, _, _, _⟩) (by with_unfolding_all rfl) 23 (.tmp 13) (by with_unfolding_all rfl) g13 0 (by with_unfolding_all rfl) B13 (H f) (cs_all _) _ (by exact Tryd.underlying23) (by with_unfolding_all rfl) (by (rw [H_length]; exact Tryd.szH)) ?_))
            (with_reducible refine (HMF.out _).mono ?_)
            rintro e w22 ⟨rfl, hb22⟩
            have PA := PA.next hb22
            have PB := PB.next hb22
            have B6 := B6.next hb22 B6.lt
            have B7 := B7.next hb22 B7.lt
            have B11 := B11.next hb22 B11.lt
            have B13 := B13.next hb22 B13.lt
            have hbe := below_join hbe hb22
            clear hb22
            go_wp2_with (first | (with_reducible refine wpList_getg (o := ⟨some 114, .load 23 (.tmp 13), _, _, _, _⟩) (by with_unfolding_all rfl) 23 (.tmp 13) (by with_unfolding_all rfl) g13 0 (by with_unfolding_all rfl) B13 (H f) (cs_all _) _ (by exact Tryd.underlying23) (by with_unfolding_all rfl) (by (rw [H_length]; exact Tryd.szH)) ?_))
            (with_reducible refine (HIF.out _ PA).mono ?_)
            rintro e w23 ⟨rfl, hb23⟩
            have PA := PA.next hb23
            have PB := PB.next hb23
            have B6 := B6.next hb23 B6.lt
            have B7 := B7.next hb23 B7.lt
            have B11 := B11.next hb23 B11.lt
            have B13 := B13.next hb23 B13.lt
            have hbe := below_join hbe hb23
            clear hb23
            have hle : ¬ (cmpH f h > 0) := by
              have h1 := HF3.out h (of_decide_eq_true HM.out) (HZI.out.1 (by trivial))
              unfold cmpH
              split
              · omega
              · split
                · omega
                · omega
            obtain ⟨y, hy⟩ : ∃ y : Int, cmpH f h = y := ⟨_, rfl⟩
            have hcf := fun w => rcompareHeads_any f h w
            rw [hy] at hcf hle
            have HCF := Lib.hid hcf
            have hyl : decide (y ≤ 0) = true := decide_eq_true (by omega)
            clear hcf hy hle
            go_wp2_with (first | (with_reducible refine wpList_getg (o := ⟨some 122, .load 23 (.tmp 13), _, _, _, _⟩) (by with_unfolding_all rfl) 23 (.tmp 13) (by with_unfolding_all rfl) g13 0 (by with_unfolding_all rfl) B13 (H f) (cs_all _) _ (by exact Tryd.underlying23) (by with_unfolding_all rfl) (by (rw [H_length]; exact Tryd.szH)) ?_) | (with_reducible refine wpList_getg (o := ⟨some 123, .load 23 (.tmp 7), _, _, _, _⟩) (by with_unfolding_all rfl) 23 (.tmp 7) (by with_unfolding_all rfl) g7 0 (by with_unfolding_all rfl) B7 (H h) (cs_all _) _ (by exact Tryd.underlying23) (by with_unfolding_all rfl) (by (rw [H_length]; exact Tryd.szH)) ?_))
            (with_reducible refine (HCF.out _).mono ?_)
            rintro e w24 ⟨rfl, hb24⟩
            have PA := PA.next hb24
            have PB := PB.next hb24
            have B6 := B6.next hb24 B6.lt
            have B7 := B7.next hb24 B7.lt
            have B11 := B11.next hb24 B11.lt
            have B13 := B13.next hb24 B13.lt
            have hbe := below_join hbe hb24
            clear hb24
            go_wp2
            go_ret
            exact ⟨rfl, hbe⟩
      · subst hF0
        have HF1 := Lib.hid hF1
        clear hF1
        dsimp only [outV]
        go_wp2_with (with_reducible refine wpList_alloc (o := ⟨some 13, .alloc 23, _, _, _, _⟩) (by with_unfolding_all rfl) 23 (by with_unfolding_all rfl) (.agg (H no).toArray) (H no) (by exact Tryd.zeroH) (by with_unfolding_all rfl) ?_)
        intro g13 w18 hg13 hs18 hb18 hB18
        have hl18 : w17.heap.size ≤ g13 := Nat.le_of_eq hg13.out.symm
        have hb18 := hb18.mono hl18
        go_wp2_with (with_reducible refine wpList_put (o := ⟨none, .store 23 (.tmp 13) (.tmp 88), _, _, _, _⟩) (by with_unfolding_all rfl) 23 (.tmp 13) (.tmp 88) (by with_unfolding_all rfl) g13 0 (by with_unfolding_all rfl) (.agg (H no).toArray) (by with_unfolding_all rfl) hB18 (H no) (by with_unfolding_all rfl) (by with_unfolding_all (rw [H_length]; exact Tryd.szH)) (by with_unfolding_all (simp only [H_length] <;> omega)) (by with_unfolding_all (exact H_one _)) ?_)
        intro w19 hu19 B13
        rw [splice_all _ _ (by simp only [H_length])] at B13
        have hb19 := hb18.trans (hu19.below (B := w17.heap.size) hl18)
        have PA := PA.next hb19
        have PB := PB.next hb19
        have B6 := B6.next hb19 B6.lt
        have B7 := B7.next hb19 B7.lt
        have B11 := B11.next hb19 B11.lt
        have hbe := below_join hbe hb19
        clear hb18 hb19 hu19 hB18 hl18 hg13 hs18
        go_wp2_with (first | (with_reducible refine wpList_getg (o := ⟨some 90, .load 25 (.tmp 6), _, _, _, _⟩) (by with_unfolding_all rfl) 25 (.tmp 6) (by with_unfolding_all rfl) g6 0 (by with_unfolding_all rfl) B6 p.cells (cs_all _) _ (by exact Tryd.underlying25) (by with_unfolding_all rfl) (by (rw [Pat.cells_length]; exact Tryd.szP)) ?_) | (with_reducible refine wpList_getg (o := ⟨some 91, .load 23 (.tmp 7), _, _, _, _⟩) (by with_unfolding_all rfl) 23 (.tmp 7) (by with_unfolding_all rfl) g7 0 (by with_unfolding_all rfl) B7 (H h) (cs_all _) _ (by exact Tryd.underlying23) (by with_unfolding_all rfl) (by (rw [H_length]; exact Tryd.szH)) ?_))
        (with_reducible refine (C3.out _).mono ?_)
        rintro e w20 ⟨rfl, hb20⟩
        have PA := PA.next hb20
        have PB := PB.next hb20
        have B6 := B6.next hb20 B6.lt
        have B7 := B7.next hb20 B7.lt
        have B11 := B11.next hb20 B11.lt
        have B13 := B13.next hb20 B13.lt
        have hbe := below_join hbe hb20
        clear hb20
        rcases M with _ | _
        · skip
          go_wp2
          go_ret
          exact ⟨rfl, hbe⟩
        · skip
          go_wp2_with (first | (with_reducible refine wpList_getg (o := ⟨some 95, .load 23 (.tmp 7), _, _, _, _⟩) (by with_unfolding_all rfl) 23 (.tmp 7) (by with_unfolding_all rfl) g7 0 (by with_unfolding_all rfl) B7 (H h) (cs_all _) _ (by exact Tryd.underlying23) (by with_unfolding_all rfl) (by (rw [H_length]; exact Tryd.szH)) ?_))
          (with_reducible refine (C1.out _ PA).mono ?_)
          rintro e w21 ⟨rfl, hb21⟩
          have PA := PA.next hb21
          have PB := PB.next hb21
          have B6 := B6.next hb21 B6.lt
          have B7 := B7.next hb21 B7.lt
          have B11 := B11.next hb21 B11.lt
          have B13 := B13.next hb21 B13.lt
          have hbe := below_join hbe hb21
          clear hb21
          have hz : Z = false := by
            cases hz : Z
            · rfl
            · exact absurd trivial (HF1.out h (of_decide_eq_true HM.out) (HZI.out.1 hz))
          subst hz
          go_wp2
          go_ret
          exact ⟨rfl, hbe⟩
/-- Whatever comes in. -/
theorem decLaw_any (A0 A1 : Option Addr) (c0 c1 : Nat) (la lb : List (List Int × List Int)) (pm pb lh : List Int) (w : World) (h1 : pm.length = 10) (h2 : pb.length = 10) (h3 : lh.length = 10) (hTa : Tens la) (hTb : Tens lb) (hRa : RawAt w A0 la) (hRb : RawAt w A1 lb) (hn0 : A0 = none → la.length = 0 ∧ c0 = 0) (hn1 : A1 = none → lb.length = 0 ∧ c1 = 0) (hg0 : ∀ g o, A0 = some ⟨g, o, none⟩ → g < w.heap.size) (hg1 : ∀ g o, A1 = some ⟨g, o, none⟩ → g < w.heap.size) (hlb : lb.length * 160 ≤ 140737488351232) (hG : GOk w) :
    Calls Tryd.prog 10 #[.slice A0 la.length c0, .slice A1 lb.length c1, .agg (pm.map iV ++ pb.map iV).toArray, .agg (lh.map iV).toArray] w fun e w' => e = .returned (.bool true) ∧ Below w.heap.size w w' := by
  by_cases h6 : la.length ≤ 6
  · have hT3 : Tens ((pm, pb) :: (la ++ lb)) := fun x hx => by
      rcases List.mem_cons.1 hx with rfl | hx
      · exact ⟨h1, h2⟩
      · rcases List.mem_append.1 hx with hx | hx
        · exact hTa x hx
        · exact hTb x hx
    obtain ⟨F, hF1, hF2⟩ := few_bool ((pm, pb) :: (la ++ lb)) 13 (1 + la.length + lb.length) (by rw [List.length_cons, List.length_append]; omega) hT3 (by omega) (by decide)
    by_cases hg : F = true ∧ rightI lh
    · obtain ⟨ps, q1, q2, q3, q4⟩ := hF1.1 hg.1
      cases ps with
      | nil => cases q2
      | cons p qs =>
        have q2' : (HI p.m, HI p.b) :: rawOf qs = (pm, pb) :: (la ++ lb) := q2
        injection q2' with e1 e2
        injection e1 with e1 e3
        have e2' : qs.map (fun p => (HI p.m, HI p.b)) = la ++ lb := e2
        obtain ⟨us, vs, rfl, rfl, rfl⟩ := List.map_eq_append_iff.1 e2'
        obtain ⟨h, rfl⟩ := right_head h3 hg.2
        subst e1 e3
        have la' : (us.map fun p => (HI p.m, HI p.b)).length = us.length := List.length_map _
        have lb' : (vs.map fun p => (HI p.m, HI p.b)).length = vs.length := List.length_map _
        rw [la'] at hn0 h6 ⊢
        rw [lb'] at hn1 ⊢
        have hl3 : (p :: (us ++ vs)).length = 1 + us.length + vs.length := by rw [List.length_cons, List.length_append]; omega
        rw [hl3] at q3 q4
        rw [← H_iV, ← H_iV, ← H_iV]
        exact dec_good A0 A1 c0 c1 us vs p h w (fun q hq => q1 q (List.mem_cons_of_mem _ (List.mem_append_left _ hq))) (fun q hq => q1 q (List.mem_cons_of_mem _ (List.mem_append_right _ hq))) (q1 p (List.mem_cons_self ..)) (RawAt.pats hRa) (RawAt.pats hRb) hn0 hn1 hg0 hg1 h6 q3 q4 hG
    · exact dec_bad A0 A1 c0 c1 la lb pm pb lh w h1 h2 h3 hTa hTb hRa hRb hn0 hn1 hlb hG F (fun _ => hF2) (fun hc => hg hc.2)
  · exact dec_bad A0 A1 c0 c1 la lb pm pb lh w h1 h2 h3 hTa hTb hRa hRb hn0 hn1 hlb hG false (fun hc => absurd hc h6) (fun hc => h6 hc.1)
end Go.Proofs.YtbldnhpbmfmepaaDoor
