/-
  The walk of BitsDifferencesMatchSpec. Conditions: the library's variable lies there.
-/
import Derived.Test.YtbldnhpbmfmepaaDoorGZ
import Derived.Test.YtbldnhpbmfmepaaDoorGX
import Derived.Test.YtbldnhpbmfmepaaDoorKTf
namespace Go.Proofs.YtbldnhpbmfmepaaDoor
set_option linter.unusedVariables false
set_option linter.unusedSimpArgs false
open Go.RowKit

theorem okWide_cap2 {P : Program} {w : World} {r : Reach} {base : Nat} {t e : TypeId} {A : Option Addr} {len cap : Nat} (hu : P.underlying t = some (.slice e)) (h : Value.okWide P w r base t (.slice A len cap)) : len ≤ cap := by
  have h' : Cell.ok P w r base t (.slice A len cap) := by
    simp only [Value.okWide, hu, Cell.okWide] at h
    exact h
  unfold Cell.ok at h'
  rw [hu] at h'
  cases A with
  | none =>
    cases len with
    | zero => exact Nat.zero_le _
    | succ l => exact absurd h' (by simp)
  | some a =>
    have h2 : len ≤ cap ∧ (cap : Int) ≤ IntKind.i64.max ∧ w.has P r base a _ cap := h'
    exact h2.1
theorem min_det {base : Nat} {p : Pat} {l : List Pat} {most : Int} {e : Ending} {w' : World} {E : Int} {D : List Pat} (h1 : allFit p l most → E = 0 ∧ D = leftTo p l l.length) (h2 : ¬ allFit p l most → E = 2 ∧ D = []) (h : MinR base p l most e w') : ∃ A c, e = .returned (.tuple #[.slice A D.length c, .int .i64 E]) ∧ PatsAt w' A D := by
  rcases h with ⟨hf, A, c, rfl, how⟩ | ⟨hf, rfl⟩
  · obtain ⟨rfl, rfl⟩ := h1 hf
    exact ⟨A, c, rfl, own_pats how⟩
  · obtain ⟨rfl, rfl⟩ := h2 hf
    exact ⟨none, 0, rfl, fun k p hp => by cases hp⟩
theorem sum_det {base : Nat} {l : List Pat} {e : Ending} {w' : World} {E : Int} {D : List Pat} (h1 : (∀ j, j < l.length → fitS l j) → E = 0 ∧ D = sumTo l l.length) (h2 : (∃ j, j < l.length ∧ ¬ fitS l j) → E = 2 ∧ D = []) (h : SumR base l e w') : ∃ A c, e = .returned (.tuple #[.slice A D.length c, .int .i64 E]) ∧ PatsAt w' A D := by
  rcases h with ⟨hf, A, c, rfl, how⟩ | ⟨hf, rfl⟩
  · obtain ⟨rfl, rfl⟩ := h1 hf
    exact ⟨A, c, rfl, own_pats how⟩
  · obtain ⟨rfl, rfl⟩ := h2 hf
    exact ⟨none, 0, rfl, fun k p hp => by cases hp⟩
theorem found_uniq {l : List Pat} {p : Pat} {R S : Bnd} (h1 : Pat.found l p none R) (h2 : Pat.found l p none S) : H (R.getD no) = H (S.getD no) ∧ R.isSome = S.isSome := by
  rcases h1 with ⟨m, ⟨a1, a2, a3⟩, _, rfl⟩ | ⟨n1, rfl⟩ <;> rcases h2 with ⟨m', ⟨b1, b2, b3⟩, _, rfl⟩ | ⟨n2, rfl⟩
  · have := Nat.le_antisymm (a3 m' b1 b2) (b3 m a1 a2)
    exact ⟨H_congr (fun i hi => num_inj this hi), rfl⟩
  · exact absurd trivial (n2 m a1 a2)
  · exact absurd trivial (n1 m' b1 b2)
  · exact ⟨rfl, rfl⟩
/-- What Outside answers: a head and whether there is one. -/
def OutOk (l : List Pat) (p : Pat) (f : Nat → Bool) (I : Bool) : Prop := ∃ R, Pat.found l p none R ∧ H f = H (R.getD no) ∧ I = R.isSome
theorem outOk_uniq {l : List Pat} {p : Pat} {f g : Nat → Bool} {I J : Bool} (h1 : OutOk l p f I) (h2 : OutOk l p g J) : H g = H f ∧ J = I := by
  obtain ⟨R, r1, r2, r3⟩ := h1
  obtain ⟨S, s1, s2, s3⟩ := h2
  obtain ⟨u1, u2⟩ := found_uniq r1 s1
  exact ⟨by rw [s2, r2, u1], by rw [s3, r3, u2]⟩
theorem outOk_of {l : List Pat} {p : Pat} {R : Bnd} (h : Pat.found l p none R) : ∃ f I, outV R = .tuple #[.agg (H f).toArray, .bool I] ∧ OutOk l p f I := by
  refine ⟨R.getD no, R.isSome, ?_, R, h, rfl, rfl⟩
  cases R <;> rfl

set_option maxRecDepth 100000 in
set_option maxHeartbeats 6400000 in
theorem dms_bad (A0 : Option Addr) (c0 : Nat) (la : List (List Int × List Int)) (pm pb : List Int) (w : World) (h1 : pm.length = 10) (h2 : pb.length = 10) (hTa : Tens la) (hRa : RawAt w A0 la) (hn0 : A0 = none → la.length = 0 ∧ c0 = 0) (hla : la.length * 160 ≤ 140737488351232) (hG : GOk w)
    (hF : ∀ (A : Option Addr) (c : Nat) (w : World), RawAt w A ((pm, pb) :: la) → Calls Tryd.prog 52 #[.slice A (1 + la.length) c, .int .i64 9] w fun e w' => e = .returned (.bool false) ∧ Below w.heap.size w w') :
    Calls Tryd.prog 5 #[.agg (pm.map iV ++ pb.map iV).toArray, .slice A0 la.length c0] w fun e w' => e = .returned (.bool true) ∧ Below w.heap.size w w' := by
  have HG := Lib.hid hG
  have hcA := hRa.cells hTa
  have hlA : (rawRow la).length = la.length * 20 := rawRow_length hTa
  have hT3 : Tens ((pm, pb) :: la) := fun x hx => by
    rcases List.mem_cons.1 hx with rfl | hx
    · exact ⟨h1, h2⟩
    · exact hTa x hx
  have hlen : ((pm, pb) :: la).length = 1 + la.length := by rw [List.length_cons]; omega
  have hfin : ∀ w (v : Value), w.ownsRow 0 25 20 v (1 + la.length) (rawCells (pm, pb) ++ rawRow la) → ∃ A c, v = .slice A (1 + la.length) c ∧ RawAt w A ((pm, pb) :: la) := fun w v how => by
    obtain ⟨A, c, rfl, _⟩ := own_shape how
    exact ⟨A, c, rfl, own_raws hT3 hlen how⟩
  have HFIN := Lib.hid hfin
  have HF := Lib.hid hF
  have HCA := Lib.hid hcA
  have HLA := Lib.hid hlA
  have HN0 := Lib.hid hn0
  have HP := Lib.hid (⟨h1, h2⟩ : (pm, pb).1.length = 10 ∧ (pm, pb).2.length = 10)
  have z1 : (Tryd.prog.info? 25).map (·.size) = some (pm.map iV ++ pb.map iV).length := by rw [List.length_append, List.length_map, List.length_map, h1, h2]; exact Tryd.szP
  have Z1 := Lib.hid z1
  obtain ⟨Ya, hYa⟩ : ∃ Y, Hid (rawRow la = Y) := ⟨_, rfl⟩
  have Y1a := Lib.hid (rawRow_one la)
  rw [hYa.out] at HCA HLA Y1a HFIN
  obtain ⟨n, hn⟩ : ∃ n, Hid (la.length = n) := ⟨_, rfl⟩
  rw [hn.out] at HF HLA HN0 HFIN hla
  rw [hn.out]
  clear h1 h2 hTa hRa hn0 hG hF hcA hlA hT3 hlen hfin z1
  go_enter Tryd.func5, Tryd.ntmps5
  go_wp2_with (with_reducible refine wpList_box (o := ⟨some 2, .box 25 (.tmp 0), _, _, _, _⟩) ?g2 25 (.tmp 0) ?o2 (.agg (pm.map iV ++ pb.map iV).toArray) (pm.map iV ++ pb.map iV) ?x2 ?c2 ?_)
  try (case g2 => rfl)
  try (case o2 => rfl)
  try (case x2 => rfl)
  try (case c2 => rfl)
  intro g2 w1 hg2 hs1 hb1 B2
  have hb1 := hb1.mono (Nat.le_of_eq hg2.out.symm)
  have hbe : Below w.heap.size w w1 := hb1
  clear hb1 hg2 hs1
  go_wp2_with fail
  (with_reducible refine (sanity_any _ (HG.out.next hbe)).mono ?_)
  rintro e w2 ⟨rfl, hb2⟩
  have B2 := B2.next hb2 B2.lt
  have hbe := below_join hbe hb2
  clear hb2
  have B2o := B2
  have hbe0 := hbe
  go_wp2_with (first | (with_reducible refine wpList_getg (o := ⟨some 21, .load 25 (.tmp 2), _, _, _, _⟩) (by with_unfolding_all rfl) 25 (.tmp 2) (by with_unfolding_all rfl) g2 0 (by with_unfolding_all rfl) B2 (pm.map iV ++ pb.map iV) (cs_all _) _ (by exact Tryd.underlying25) (by with_unfolding_all rfl) (by (exact Z1.out)) ?_) | (with_reducible refine wpList_row1 (o := ⟨some 22, .buildSlice 31 1 #[(0, .tmp 21)], _, _, _, _⟩) (by with_unfolding_all rfl) (.tmp 21) (by with_unfolding_all rfl) (rawCells (pm, pb)) (by with_unfolding_all rfl) (rawCells_length HP.out) ?_))
  intro v0 w3 hb3 OW
  have B2 := B2.next hb3 B2.lt
  have hbe := below_join hbe hb3
  have hbx := hb3
  clear hb3
  have hbs := hbx.size
  go_wp2_with (first | (with_reducible refine wpList_appR _ (o := ⟨some 24, .call ⟨.builtin .append, #[.tmp 22, .tmp 23], #[31, 31]⟩, _, _, _, _⟩) (by with_unfolding_all rfl) (.tmp 22) (.tmp 23) (by with_unfolding_all rfl) w2.heap.size _ 1 (rawCells (pm, pb)) (by with_unfolding_all rfl) OW A0 n c0 Ya (by with_unfolding_all rfl) HLA.out (HCA.out.next hbe) Y1a.out HN0.out (by omega) hbs ?_))
  intro v1 w4 OW1 GR1
  have hbx := hbx.grown GR1 hbs (fun g hg => (OW.lt g hg).1)
  have hbe := below_join hbe0 hbx
  clear GR1 OW hbs
  have B2 := B2o.next hbx B2o.lt
  clear B2o
  clear hbx hbe0
  obtain ⟨AF, cF, rfl, HRW⟩ := HFIN.out _ _ (own_mono OW1 (fun _ _ => Nat.zero_le _))
  clear OW1
  go_wp2_with fail
  (with_reducible refine (HF.out _ _ _ HRW).mono ?_)
  rintro e w5 ⟨rfl, hb5⟩
  have B2 := B2.next hb5 B2.lt
  have hbe := below_join hbe hb5
  clear hb5
  clear HRW
  go_wp2
  go_ret
  exact ⟨rfl, hbe⟩
set_option maxRecDepth 100000 in
set_option maxHeartbeats 25600000 in
theorem dms_good (A0 : Option Addr) (c0 : Nat) (la : List Pat) (p : Pat) (w : World) (hoa : ∀ q ∈ la, q.ok) (hp : p.ok) (ha : PatsAt w A0 la) (hal : ∀ g o, A0 = some ⟨g, o, none⟩ → g < w.heap.size) (hn0 : A0 = none → la.length = 0 ∧ c0 = 0) (hcap : la.length ≤ c0) (hla : 1 + la.length ≤ 9) (hcn : cnt (fixTo (p :: la) (1 + la.length)) 0 160 ≤ 12) (hG : GOk w) :
    Calls Tryd.prog 5 #[.agg p.cells.toArray, .slice A0 la.length c0] w fun e w' => e = .returned (.bool true) ∧ Below w.heap.size w w' := by
  have HG := Lib.hid hG
  have HP := Lib.hid hp
  have hcA := ha.cellsAt
  have hlen : (p :: la).length = 1 + la.length := by rw [List.length_cons]; omega
  have hfin : ∀ w (v : Value), w.ownsRow 0 25 20 v (1 + la.length) (p.cells ++ patCells la) → ∃ A c, v = .slice A (1 + la.length) c ∧ PatsAt w A (p :: la) := fun w v how => by
    obtain ⟨A, c, rfl, _⟩ := own_shape how
    rw [show p.cells ++ patCells la = patCells (p :: la) from rfl, ← hlen] at how
    exact ⟨A, c, rfl, own_pats how⟩
  have hfew : ∀ A c w, PatsAt w A (p :: la) → Calls Tryd.prog 52 #[.slice A (1 + la.length) c, .int .i64 9] w fun e w' => e = .returned (.bool true) ∧ Below w.heap.size w w' := fun A c w hw => by
    have := rfew_pats A c (p :: la) 9 w (by rw [hlen]; omega) (by decide) (fun x hx => by
      rcases List.mem_cons.1 hx with rfl | hx
      · exact hp
      · exact hoa x hx) hw
    rw [hlen, decide_eq_true hla, decide_eq_true hcn] at this
    exact this
  have hU : ∀ q, q ∈ la → ∀ i, i < 160 → q.m i = true → fixTo (p :: la) (1 + la.length) i = true := fun q hq i _ hm => by
    unfold fixTo
    rw [List.take_of_length_le (by rw [hlen]; exact Nat.le_refl _)]
    exact List.any_eq_true.2 ⟨q, List.mem_cons_of_mem _ hq, hm⟩
  have hfew5 : ∀ k, (leftTo p la k).length ≤ 5000 := fun k => Nat.le_trans (left_4096 hU hcn k) (by decide)
  obtain ⟨E, L, hE1, hE2, hLl⟩ : ∃ (E : Int) (L : List Pat), (allFit p la 4000 → E = 0 ∧ L = leftTo p la la.length) ∧ (¬ allFit p la 4000 → E = 2 ∧ L = []) ∧ L.length ≤ 5000 := by
    by_cases hc : allFit p la 4000
    · exact ⟨0, _, fun _ => ⟨rfl, rfl⟩, fun h => absurd hc h, hfew5 _⟩
    · exact ⟨2, [], fun h => absurd h hc, fun _ => ⟨rfl, rfl⟩, Nat.zero_le _⟩
  obtain ⟨E', U, hS1, hS2, hUl⟩ : ∃ (E : Int) (U : List Pat), ((∀ j, j < la.length → fitS la j) → E = 0 ∧ U = sumTo la la.length) ∧ ((∃ j, j < la.length ∧ ¬ fitS la j) → E = 2 ∧ U = []) ∧ U.length ≤ 5000 := by
    by_cases hc : ∀ j, j < la.length → fitS la j
    · exact ⟨0, _, fun _ => ⟨rfl, rfl⟩, fun ⟨j, hj, hh⟩ => absurd (hc j hj) hh, by have := sum_le la.length hc; omega⟩
    · exact ⟨2, [], fun h => absurd h hc, fun _ => ⟨rfl, rfl⟩, Nat.zero_le _⟩
  have c6 : ∀ w, PatsAt w A0 la → Calls Tryd.prog 56 #[.agg p.cells.toArray, .slice A0 la.length c0] w fun e w' => (∃ A c, e = .returned (.tuple #[.slice A L.length c, .int .i64 E]) ∧ PatsAt w' A L) ∧ Below w.heap.size w w' := fun w hw => (bigMinusAll_any c0 A0 la p w hoa hp (by omega) hw).mono fun e w' h => ⟨min_det hE1 hE2 h.1, h.2⟩
  have c7 : ∀ w, PatsAt w A0 la → Calls Tryd.prog 57 #[.agg p.cells.toArray, .slice A0 la.length c0] w fun e w' => (∃ A c, e = .returned (.tuple #[.slice A L.length c, .int .i64 E]) ∧ PatsAt w' A L) ∧ Below w.heap.size w w' := fun w hw => (rminusAll_any c0 A0 la p w hoa hp (by omega) hw).mono fun e w' h => ⟨min_det hE1 hE2 h.1, h.2⟩
  have c8 : ∀ w, PatsAt w A0 la → Calls Tryd.prog 58 #[.slice A0 la.length c0] w fun e w' => (∃ A c, e = .returned (.tuple #[.slice A U.length c, .int .i64 E']) ∧ PatsAt w' A U) ∧ Below w.heap.size w w' := fun w hw => (sum_any c0 A0 la w hoa (by omega) hw).mono fun e w' h => ⟨sum_det hS1 hS2 h.1, h.2⟩
  have c9 : ∀ w, PatsAt w A0 la → Calls Tryd.prog 59 #[.slice A0 la.length c0] w fun e w' => (∃ A c, e = .returned (.tuple #[.slice A U.length c, .int .i64 E']) ∧ PatsAt w' A U) ∧ Below w.heap.size w w' := fun w hw => (rsum_any c0 A0 la w hoa (by omega) hcap hw).mono fun e w' h => ⟨sum_det hS1 hS2 h.1, h.2⟩
  have c10 : ∀ W, Below w.heap.size w W → PatsAt W A0 la → Calls Tryd.prog 60 #[.agg p.cells.toArray, .slice A0 la.length c0] W fun e w' => (∃ f I, e = .returned (.tuple #[.agg (H f).toArray, .bool I]) ∧ OutOk la p f I) ∧ Below W.heap.size W w' := fun W hb hw => (outside_any c0 A0 la p W hoa hp (by omega) hw (fun g o e => Nat.lt_of_lt_of_le (hal g o e) hb.size)).mono fun e w' h => by
    obtain ⟨R, rfl, hf, hb⟩ := h
    obtain ⟨f, I, e, ho⟩ := outOk_of hf
    exact ⟨⟨f, I, by rw [e], ho⟩, hb⟩
  have c11 : ∀ W, PatsAt W A0 la → Calls Tryd.prog 61 #[.agg p.cells.toArray, .slice A0 la.length c0] W fun e w' => (∃ f I, e = .returned (.tuple #[.agg (H f).toArray, .bool I]) ∧ OutOk la p f I) ∧ Below W.heap.size W w' := fun W hw => (routside_any c0 A0 la p W hoa hp (by omega) hfew5 hw).mono fun e w' h => by
    obtain ⟨R, rfl, hf, hb⟩ := h
    obtain ⟨f, I, e, ho⟩ := outOk_of hf
    exact ⟨⟨f, I, by rw [e], ho⟩, hb⟩
  have csm : ∀ (K : List Pat), K.length ≤ 5000 → ∀ A B c d w, PatsAt w A K → PatsAt w B K → Calls Tryd.prog 53 #[.slice A K.length c, .slice B K.length d] w fun e w' => e = .returned (.bool true) ∧ Below w.heap.size w w' := fun K hK A B c d w h1 h2 => by
    have := rsame_any A B c d K K w (by omega) (by omega) h1 h2
    rw [samePs_self] at this
    exact this
  have c12 := csm L hLl
  have c13 := csm U hUl
  have eH : ∀ (x : Nat → Bool) w, (binOp .eql 23 (.agg (H x).toArray) (.agg (H x).toArray)).run Tryd.prog w = .ok (.bool true) w := fun x w => by rw [H_iV, eql_head w _ _ (HI_length _) (HI_length _)]; simp
  obtain ⟨n, hn⟩ : ∃ n, la.length = n := ⟨_, rfl⟩
  have hlA : (patCells la).length = n * 20 := by rw [patCells_length, hn]
  have y1a := patCells_one la
  obtain ⟨Ya, hYa⟩ : ∃ Y, patCells la = Y := ⟨_, rfl⟩
  rw [hYa] at hcA hlA y1a hfin
  rw [hn] at hfin hfew hn0 c6 c7 c8 c9 c10 c11 hla hcap
  have hget : 0 < n → ∃ q, la[0]? = some q := fun h0 => ⟨_, List.getElem?_eq_getElem (by omega)⟩
  rw [hn]
  obtain ⟨nL, hnL⟩ : ∃ k, L.length = k := ⟨_, rfl⟩
  obtain ⟨nU, hnU⟩ : ∃ k, U.length = k := ⟨_, rfl⟩
  rw [hnL] at c6 c7 c12
  rw [hnU] at c8 c9 c13
  have PA := ha
  have HFIN := Lib.hid hfin
  have HF := Lib.hid hfew
  have HCA := Lib.hid hcA
  have HLA := Lib.hid hlA
  have Y1a := Lib.hid y1a
  have HN0 := Lib.hid hn0
  have C6 := Lib.hid c6
  have C7 := Lib.hid c7
  have C8 := Lib.hid c8
  have C9 := Lib.hid c9
  have C10 := Lib.hid c10
  have C11 := Lib.hid c11
  have C12 := Lib.hid c12
  have C13 := Lib.hid c13
  have CSM := Lib.hid csm
  have HGET := Lib.hid hget
  have HOA := Lib.hid hoa
  clear hfin hfew hcA hlA y1a hn0 c6 c7 c8 c9 c10 c11 c12 c13 csm hget hoa hn hYa hlen hp ha hG hcn hU hfew5 hE1 hE2 hLl hS1 hS2 hUl hal hnL hnU
  go_enter Tryd.func5, Tryd.ntmps5
  go_wp2_with (with_reducible refine wpList_box (o := ⟨some 2, .box 25 (.tmp 0), _, _, _, _⟩) ?g2 25 (.tmp 0) ?o2 (.agg p.cells.toArray) p.cells ?x2 ?c2 ?_)
  try (case g2 => rfl)
  try (case o2 => rfl)
  try (case x2 => rfl)
  try (case c2 => rfl)
  intro g2 w1 hg2 hs1 hb1 B2
  have hb1 := hb1.mono (Nat.le_of_eq hg2.out.symm)
  have PA := PA.next hb1
  have hbe : Below w.heap.size w w1 := hb1
  clear hb1 hg2 hs1
  go_wp2_with fail
  (with_reducible refine (sanity_any _ (HG.out.next hbe)).mono ?_)
  rintro e w2 ⟨rfl, hb2⟩
  have PA := PA.next hb2
  have B2 := B2.next hb2 B2.lt
  have hbe := below_join hbe hb2
  clear hb2
  have PAo := PA
  have B2o := B2
  have hbe0 := hbe
  go_wp2_with (first | (with_reducible refine wpList_getg (o := ⟨some 21, .load 25 (.tmp 2), _, _, _, _⟩) (by with_unfolding_all rfl) 25 (.tmp 2) (by with_unfolding_all rfl) g2 0 (by with_unfolding_all rfl) B2 p.cells (cs_all _) _ (by exact Tryd.underlying25) (by with_unfolding_all rfl) (by (rw [Pat.cells_length]; exact Tryd.szP)) ?_) | (with_reducible refine wpList_row1 (o := ⟨some 22, .buildSlice 31 1 #[(0, .tmp 21)], _, _, _, _⟩) (by with_unfolding_all rfl) (.tmp 21) (by with_unfolding_all rfl) p.cells (by with_unfolding_all rfl) (Pat.cells_length p) ?_))
  intro v0 w3 hb3 OW
  have PA := PA.next hb3
  have B2 := B2.next hb3 B2.lt
  have hbe := below_join hbe hb3
  have hbx := hb3
  clear hb3
  have hbs := hbx.size
  go_wp2_with (first | (with_reducible refine wpList_appR _ (o := ⟨some 24, .call ⟨.builtin .append, #[.tmp 22, .tmp 23], #[31, 31]⟩, _, _, _, _⟩) (by with_unfolding_all rfl) (.tmp 22) (.tmp 23) (by with_unfolding_all rfl) w2.heap.size _ 1 p.cells (by with_unfolding_all rfl) OW A0 n c0 Ya (by with_unfolding_all rfl) HLA.out (HCA.out.next hbe) Y1a.out HN0.out (by omega) hbs ?_))
  intro v1 w4 OW1 GR1
  have hbx := hbx.grown GR1 hbs (fun g hg => (OW.lt g hg).1)
  have hbe := below_join hbe0 hbx
  clear GR1 OW hbs
  have PA := PAo.next hbx
  clear PAo
  have B2 := B2o.next hbx B2o.lt
  clear B2o
  clear hbx hbe0
  obtain ⟨AF, cF, rfl, HRW⟩ := HFIN.out _ _ (own_mono OW1 (fun _ _ => Nat.zero_le _))
  clear OW1
  go_wp2_with fail
  (with_reducible refine (HF.out _ _ _ HRW).mono ?_)
  rintro e w5 ⟨rfl, hb5⟩
  have PA := PA.next hb5
  have B2 := B2.next hb5 B2.lt
  have hbe := below_join hbe hb5
  clear hb5
  clear HRW
  by_cases hn0 : n = 0
  · subst hn0
    go_wp2
    have hdd := below_drew w5
    refine wp_region_held_drew (S := fun w' => Below w5.heap.size w5 w') (by kernel_rfl) hdd (fun hHeld => ?_)
    generalize w5.drew = wd at hdd hHeld ⊢
    refine wpAnyH_take (i := 0) (v := ?vaa_0) rfl (by kernel_rfl) (by kernel_rfl) (by kernel_rfl) (fun _ _ _ h => h) (Or.inl ⟨by rfl, ?yaa_0⟩) (by assumption) ?raa_0
    case yaa_0 => intro w hSw; (try dsimp only at hSw); go_simp <;> (try with_reducible rfl)
    (try simp only [List.getElem_toArray, List.getElem_cons_zero, Act.put, List.setIfInBounds_toArray, List.set_cons_zero, List.set_cons_succ])
    refine wpAnyH_take (i := 1) (v := ?vaa_1) rfl (by kernel_rfl) (by kernel_rfl) (by kernel_rfl) (fun _ _ _ h => h) (Or.inl ⟨by rfl, ?yaa_1⟩) (by assumption) ?raa_1
    case yaa_1 => intro w hSw; (try dsimp only at hSw); go_simp <;> (try with_reducible rfl)
    (try simp only [List.getElem_toArray, List.getElem_cons_succ, List.getElem_cons_zero, Act.put, List.setIfInBounds_toArray, List.set_cons_zero, List.set_cons_succ])
    refine wpAnyH_take (i := 2) (v := ?vaa_2) rfl (by kernel_rfl) (by kernel_rfl) (by kernel_rfl) (fun _ _ _ h => h) (Or.inl ⟨by rfl, ?yaa_2⟩) (by assumption) ?raa_2
    case yaa_2 => intro w hSw; (try dsimp only at hSw); go_simp <;> (try with_reducible rfl)
    (try simp only [List.getElem_toArray, List.getElem_cons_succ, List.getElem_cons_zero, Act.put, List.setIfInBounds_toArray, List.set_cons_zero, List.set_cons_succ])
    refine wpAnyH_take (i := 3) (v := ?vaa_3) rfl (by kernel_rfl) (by kernel_rfl) (by kernel_rfl) (fun _ _ _ h => h) (Or.inl ⟨by rfl, ?yaa_3⟩) (by assumption) ?raa_3
    case yaa_3 => intro w hSw; (try dsimp only at hSw); go_simp <;> (try with_reducible rfl)
    (try simp only [List.getElem_toArray, List.getElem_cons_succ, List.getElem_cons_zero, Act.put, List.setIfInBounds_toArray, List.set_cons_zero, List.set_cons_succ])
    refine wpAnyH_take (i := 4) (v := undef) rfl (by kernel_rfl) (by kernel_rfl) (by kernel_rfl) (fun _ _ _ h => h) (Or.inr ⟨by rfl, rfl⟩) (by assumption) ?raa_4
    (try simp only [List.getElem_toArray, List.getElem_cons_succ, List.getElem_cons_zero, Act.put, List.setIfInBounds_toArray, List.set_cons_zero, List.set_cons_succ])
    refine wpAnyH_take (i := 5) (v := undef) rfl (by kernel_rfl) (by kernel_rfl) (by kernel_rfl) (fun _ _ _ h => h) (Or.inr ⟨by rfl, rfl⟩) (by assumption) ?raa_5
    (try simp only [List.getElem_toArray, List.getElem_cons_succ, List.getElem_cons_zero, Act.put, List.setIfInBounds_toArray, List.set_cons_zero, List.set_cons_succ])
    refine wpAnyH_take (i := 6) (v := undef) rfl (by kernel_rfl) (by kernel_rfl) (by kernel_rfl) (fun _ _ _ h => h) (Or.inr ⟨by rfl, rfl⟩) (by assumption) ?raa_6
    (try simp only [List.getElem_toArray, List.getElem_cons_succ, List.getElem_cons_zero, Act.put, List.setIfInBounds_toArray, List.set_cons_zero, List.set_cons_succ])
    refine wpAnyH_take (i := 7) (v := undef) rfl (by kernel_rfl) (by kernel_rfl) (by kernel_rfl) (fun _ _ _ h => h) (Or.inr ⟨by rfl, rfl⟩) (by assumption) ?raa_7
    (try simp only [List.getElem_toArray, List.getElem_cons_succ, List.getElem_cons_zero, Act.put, List.setIfInBounds_toArray, List.set_cons_zero, List.set_cons_succ])
    refine wpAnyH_take (i := 8) (v := undef) rfl (by kernel_rfl) (by kernel_rfl) (by kernel_rfl) (fun _ _ _ h => h) (Or.inr ⟨by rfl, rfl⟩) (by assumption) ?raa_8
    (try simp only [List.getElem_toArray, List.getElem_cons_succ, List.getElem_cons_zero, Act.put, List.setIfInBounds_toArray, List.set_cons_zero, List.set_cons_succ])
    refine wpAnyH_take (i := 9) (v := undef) rfl (by kernel_rfl) (by kernel_rfl) (by kernel_rfl) (fun _ _ _ h => h) (Or.inr ⟨by rfl, rfl⟩) (by assumption) ?raa_9
    (try simp only [List.getElem_toArray, List.getElem_cons_succ, List.getElem_cons_zero, Act.put, List.setIfInBounds_toArray, List.set_cons_zero, List.set_cons_succ])
    refine wpAnyH_take (i := 10) (v := undef) rfl (by kernel_rfl) (by kernel_rfl) (by kernel_rfl) (fun _ _ _ h => h) (Or.inr ⟨by rfl, rfl⟩) (by assumption) ?raa_10
    (try simp only [List.getElem_toArray, List.getElem_cons_succ, List.getElem_cons_zero, Act.put, List.setIfInBounds_toArray, List.set_cons_zero, List.set_cons_succ])
    refine wpAnyH_take (i := 11) (v := undef) rfl (by kernel_rfl) (by kernel_rfl) (by kernel_rfl) (fun _ _ _ h => h) (Or.inr ⟨by rfl, rfl⟩) (by assumption) ?raa_11
    (try simp only [List.getElem_toArray, List.getElem_cons_succ, List.getElem_cons_zero, Act.put, List.setIfInBounds_toArray, List.set_cons_zero, List.set_cons_succ])
    refine wpAnyH_take (i := 12) (v := undef) rfl (by kernel_rfl) (by kernel_rfl) (by kernel_rfl) (fun _ _ _ h => h) (Or.inr ⟨by rfl, rfl⟩) (by assumption) ?raa_12
    (try simp only [List.getElem_toArray, List.getElem_cons_succ, List.getElem_cons_zero, Act.put, List.setIfInBounds_toArray, List.set_cons_zero, List.set_cons_succ])
    refine wpAnyH_take (i := 13) (v := undef) rfl (by kernel_rfl) (by kernel_rfl) (by kernel_rfl) (fun _ _ _ h => h) (Or.inr ⟨by rfl, rfl⟩) (by assumption) ?raa_13
    (try simp only [List.getElem_toArray, List.getElem_cons_succ, List.getElem_cons_zero, Act.put, List.setIfInBounds_toArray, List.set_cons_zero, List.set_cons_succ])
    refine wpAnyH_take (i := 14) (v := undef) rfl (by kernel_rfl) (by kernel_rfl) (by kernel_rfl) (fun _ _ _ h => h) (Or.inr ⟨by rfl, rfl⟩) (by assumption) ?raa_14
    (try simp only [List.getElem_toArray, List.getElem_cons_succ, List.getElem_cons_zero, Act.put, List.setIfInBounds_toArray, List.set_cons_zero, List.set_cons_succ])
    refine wpAnyH_take (i := 15) (v := undef) rfl (by kernel_rfl) (by kernel_rfl) (by kernel_rfl) (fun _ _ _ h => h) (Or.inr ⟨by rfl, rfl⟩) (by assumption) ?raa_15
    (try simp only [List.getElem_toArray, List.getElem_cons_succ, List.getElem_cons_zero, Act.put, List.setIfInBounds_toArray, List.set_cons_zero, List.set_cons_succ])
    refine wpAnyH_take (i := 16) (v := ?vaa_16) rfl (by kernel_rfl) (by kernel_rfl) (by kernel_rfl) (fun _ _ _ h => h) (Or.inl ⟨by rfl, ?yaa_16⟩) (by assumption) ?raa_16
    case yaa_16 => intro w hSw; (try dsimp only at hSw); go_simp <;> (try with_reducible rfl)
    (try simp only [List.getElem_toArray, List.getElem_cons_succ, List.getElem_cons_zero, Act.put, List.setIfInBounds_toArray, List.set_cons_zero, List.set_cons_succ])
    refine wpAnyH_done (by kernel_rfl) ?_ _
    clear hHeld 
    have PA := PA.next hdd
    have B2 := B2.next hdd B2.lt
    have hbe := below_join hbe hdd
    clear hdd
    go_wp2_with (first | (with_reducible refine wpList_getg (o := ⟨some 46, .load 25 (.tmp 2), _, _, _, _⟩) (by with_unfolding_all rfl) 25 (.tmp 2) (by with_unfolding_all rfl) g2 0 (by with_unfolding_all rfl) B2 p.cells (cs_all _) _ (by exact Tryd.underlying25) (by with_unfolding_all rfl) (by (rw [Pat.cells_length]; exact Tryd.szP)) ?_))
    (with_reducible refine (C6.out _ PA).mono ?_)
    rintro e w6 ⟨⟨A1, c1, rfl, P1⟩, hb6⟩
    have PA := PA.next hb6
    have B2 := B2.next hb6 B2.lt
    have hbe := below_join hbe hb6
    clear hb6
    go_wp2_with (first | (with_reducible refine wpList_getg (o := ⟨some 52, .load 25 (.tmp 2), _, _, _, _⟩) (by with_unfolding_all rfl) 25 (.tmp 2) (by with_unfolding_all rfl) g2 0 (by with_unfolding_all rfl) B2 p.cells (cs_all _) _ (by exact Tryd.underlying25) (by with_unfolding_all rfl) (by (rw [Pat.cells_length]; exact Tryd.szP)) ?_))
    (with_reducible refine (C7.out _ PA).mono ?_)
    rintro e w7 ⟨⟨A2, c2, rfl, P2⟩, hb7⟩
    have PA := PA.next hb7
    have B2 := B2.next hb7 B2.lt
    have P1 := P1.next hb7
    have hbe := below_join hbe hb7
    clear hb7
    go_wp2_with fail
    (with_reducible refine (C8.out _ PA).mono ?_)
    rintro e w8 ⟨⟨A3, c3, rfl, P3⟩, hb8⟩
    have PA := PA.next hb8
    have B2 := B2.next hb8 B2.lt
    have P1 := P1.next hb8
    have P2 := P2.next hb8
    have hbe := below_join hbe hb8
    clear hb8
    go_wp2_with fail
    (with_reducible refine (C9.out _ PA).mono ?_)
    rintro e w9 ⟨⟨A4, c4, rfl, P4⟩, hb9⟩
    have PA := PA.next hb9
    have B2 := B2.next hb9 B2.lt
    have P1 := P1.next hb9
    have P2 := P2.next hb9
    have P3 := P3.next hb9
    have hbe := below_join hbe hb9
    clear hb9
    go_wp2_with (first | (with_reducible refine wpList_getg (o := ⟨some 68, .load 25 (.tmp 2), _, _, _, _⟩) (by with_unfolding_all rfl) 25 (.tmp 2) (by with_unfolding_all rfl) g2 0 (by with_unfolding_all rfl) B2 p.cells (cs_all _) _ (by exact Tryd.underlying25) (by with_unfolding_all rfl) (by (rw [Pat.cells_length]; exact Tryd.szP)) ?_))
    (with_reducible refine (C10.out _ hbe PA).mono ?_)
    rintro e w10 ⟨⟨f1, I1, rfl, HO1⟩, hb10⟩
    have PA := PA.next hb10
    have B2 := B2.next hb10 B2.lt
    have P1 := P1.next hb10
    have P2 := P2.next hb10
    have P3 := P3.next hb10
    have P4 := P4.next hb10
    have hbe := below_join hbe hb10
    clear hb10
    go_wp2_with (with_reducible refine wpList_alloc (o := ⟨some 14, .alloc 23, _, _, _, _⟩) (by with_unfolding_all rfl) 23 (by with_unfolding_all rfl) (.agg (H no).toArray) (H no) (by exact Tryd.zeroH) (by with_unfolding_all rfl) ?_)
    intro g14 w11 hg14 hs11 hb11 hB11
    have hl11 : w10.heap.size ≤ g14 := Nat.le_of_eq hg14.out.symm
    have hb11 := hb11.mono hl11
    go_wp2_with (with_reducible refine wpList_put (o := ⟨none, .store 23 (.tmp 14) (.tmp 71), _, _, _, _⟩) (by with_unfolding_all rfl) 23 (.tmp 14) (.tmp 71) (by with_unfolding_all rfl) g14 0 (by with_unfolding_all rfl) (.agg (H f1).toArray) (by with_unfolding_all rfl) hB11 (H f1) (by with_unfolding_all rfl) (by with_unfolding_all (rw [H_length]; exact Tryd.szH)) (by with_unfolding_all (simp only [H_length] <;> omega)) (by with_unfolding_all (exact H_one _)) ?_)
    intro w12 hu12 B14
    rw [splice_all _ _ (by simp only [H_length])] at B14
    have hb12 := hb11.trans (hu12.below (B := w10.heap.size) hl11)
    have PA := PA.next hb12
    have B2 := B2.next hb12 B2.lt
    have P1 := P1.next hb12
    have P2 := P2.next hb12
    have P3 := P3.next hb12
    have P4 := P4.next hb12
    have hbe := below_join hbe hb12
    clear hb11 hb12 hu12 hB11 hl11 hg14 hs11
    go_wp2_with (first | (with_reducible refine wpList_getg (o := ⟨some 74, .load 25 (.tmp 2), _, _, _, _⟩) (by with_unfolding_all rfl) 25 (.tmp 2) (by with_unfolding_all rfl) g2 0 (by with_unfolding_all rfl) B2 p.cells (cs_all _) _ (by exact Tryd.underlying25) (by with_unfolding_all rfl) (by (rw [Pat.cells_length]; exact Tryd.szP)) ?_))
    (with_reducible refine (C11.out _ PA).mono ?_)
    rintro e w13 ⟨⟨f2, I2, rfl, HO2⟩, hb13⟩
    have PA := PA.next hb13
    have B2 := B2.next hb13 B2.lt
    have P1 := P1.next hb13
    have P2 := P2.next hb13
    have P3 := P3.next hb13
    have P4 := P4.next hb13
    have B14 := B14.next hb13 B14.lt
    have hbe := below_join hbe hb13
    clear hb13
    obtain ⟨ef, rfl⟩ := outOk_uniq HO1 HO2
    rw [ef]
    clear ef HO1 HO2
    go_wp2_with (with_reducible refine wpList_alloc (o := ⟨some 16, .alloc 23, _, _, _, _⟩) (by with_unfolding_all rfl) 23 (by with_unfolding_all rfl) (.agg (H no).toArray) (H no) (by exact Tryd.zeroH) (by with_unfolding_all rfl) ?_)
    intro g16 w14 hg16 hs14 hb14 hB14
    have hl14 : w13.heap.size ≤ g16 := Nat.le_of_eq hg16.out.symm
    have hb14 := hb14.mono hl14
    go_wp2_with (with_reducible refine wpList_put (o := ⟨none, .store 23 (.tmp 16) (.tmp 77), _, _, _, _⟩) (by with_unfolding_all rfl) 23 (.tmp 16) (.tmp 77) (by with_unfolding_all rfl) g16 0 (by with_unfolding_all rfl) (.agg (H f1).toArray) (by with_unfolding_all rfl) hB14 (H f1) (by with_unfolding_all rfl) (by with_unfolding_all (rw [H_length]; exact Tryd.szH)) (by with_unfolding_all (simp only [H_length] <;> omega)) (by with_unfolding_all (exact H_one _)) ?_)
    intro w15 hu15 B16
    rw [splice_all _ _ (by simp only [H_length])] at B16
    have hb15 := hb14.trans (hu15.below (B := w13.heap.size) hl14)
    have PA := PA.next hb15
    have B2 := B2.next hb15 B2.lt
    have P1 := P1.next hb15
    have P2 := P2.next hb15
    have P3 := P3.next hb15
    have P4 := P4.next hb15
    have B14 := B14.next hb15 B14.lt
    have hbe := below_join hbe hb15
    clear hb14 hb15 hu15 hB14 hl14 hg16 hs14
    go_wp2_with fail
    (with_reducible refine (C12.out _ _ _ _ _ P1 P2).mono ?_)
    rintro e w16 ⟨rfl, hb16⟩
    have PA := PA.next hb16
    have B2 := B2.next hb16 B2.lt
    have P1 := P1.next hb16
    have P2 := P2.next hb16
    have P3 := P3.next hb16
    have P4 := P4.next hb16
    have B14 := B14.next hb16 B14.lt
    have B16 := B16.next hb16 B16.lt
    have hbe := below_join hbe hb16
    clear hb16
    go_wp2_with fail
    (with_reducible refine (C13.out _ _ _ _ _ P3 P4).mono ?_)
    rintro e w17 ⟨rfl, hb17⟩
    have PA := PA.next hb17
    have B2 := B2.next hb17 B2.lt
    have P1 := P1.next hb17
    have P2 := P2.next hb17
    have P3 := P3.next hb17
    have P4 := P4.next hb17
    have B14 := B14.next hb17 B14.lt
    have B16 := B16.next hb17 B16.lt
    have hbe := below_join hbe hb17
    clear hb17
    go_wp2_with (first | (with_reducible refine wpList_getg (o := ⟨some 103, .load 23 (.tmp 14), _, _, _, _⟩) (by with_unfolding_all rfl) 23 (.tmp 14) (by with_unfolding_all rfl) g14 0 (by with_unfolding_all rfl) B14 (H f1) (cs_all _) _ (by exact Tryd.underlying23) (by with_unfolding_all rfl) (by (rw [H_length]; exact Tryd.szH)) ?_) | (with_reducible refine wpList_getg (o := ⟨some 104, .load 23 (.tmp 16), _, _, _, _⟩) (by with_unfolding_all rfl) 23 (.tmp 16) (by with_unfolding_all rfl) g16 0 (by with_unfolding_all rfl) B16 (H f1) (cs_all _) _ (by exact Tryd.underlying23) (by with_unfolding_all rfl) (by (rw [H_length]; exact Tryd.szH)) ?_))
    go_ret
    exact ⟨rfl, hbe⟩
  · have hnz : ((n : Int) == 0) = false := beq_eq_false_iff_ne.2 (by omega)
    have hni : (0 : Int) < (n : Int) := by omega
    have hnp : 0 < n := by omega
    obtain ⟨q, hq⟩ := HGET.out (by omega)
    have hqo := HOA.out q (List.mem_of_getElem? hq)
    obtain ⟨ga, oa, hA0, hca⟩ := PA 0 q hq
    subst hA0
    rw [Nat.zero_mul, Nat.add_zero] at hca
    clear hq
    have zq : (Tryd.prog.info? 25).map (·.size) = some q.cells.length := by rw [Pat.cells_length]; exact Tryd.szP
    have hunP := Tryd.underlying25
    obtain ⟨M, hM⟩ : ∃ M, p.minus q = M := ⟨_, rfl⟩
    have hmn := fun w => minus_any p q w HP.out
    have hrn := fun w => rminus_any p q w HP.out hqo
    have hml := minus_length p q
    rw [hM] at hmn hrn hml
    have HMN := Lib.hid hmn
    have HRN := Lib.hid hrn
    have HSM := Lib.hid (CSM.out M (by omega))
    clear hmn hrn hml hM hqo
    go_wp2
    have hdd := below_drew w5
    have K2_0 : Hid (∀ w', Below w5.heap.size w5 w' → w'.rangeAt g2 0 p.cells) := (fun w' h => blk_range (B2.next h B2.lt) : ∀ w', Below w5.heap.size w5 w' → w'.rangeAt g2 0 p.cells)
    have Z2_0 : (Tryd.prog.info? 25).map (·.size) = some p.cells.length := by (rw [Pat.cells_length]; exact Tryd.szP)
    have KQ : Hid (∀ w', Below w5.heap.size w5 w' → w'.rangeAt ga oa q.cells) := (fun w' hw v u hu => by rw [hw.cell (World.block_lt_of_cell? w5 _ (hca v u hu))]; exact hca v u hu : ∀ w', Below w5.heap.size w5 w' → w'.rangeAt ga oa q.cells)
    refine wp_region_held_drew (S := fun w' => Below w5.heap.size w5 w') (by kernel_rfl) hdd (fun hHeld => ?_)
    generalize w5.drew = wd at hdd hHeld ⊢
    refine wpAnyH_take (i := 0) (v := ?vab_0) rfl (by kernel_rfl) (by kernel_rfl) (by kernel_rfl) (fun _ _ _ h => h) (Or.inl ⟨by rfl, ?yab_0⟩) (by assumption) ?rab_0
    case yab_0 => intro w hSw; (try dsimp only at hSw); go_simp <;> (try with_reducible rfl)
    (try simp only [List.getElem_toArray, List.getElem_cons_zero, Act.put, List.setIfInBounds_toArray, List.set_cons_zero, List.set_cons_succ])
    refine wpAnyH_take (i := 1) (v := ?vab_1) rfl (by kernel_rfl) (by kernel_rfl) (by kernel_rfl) (fun _ _ _ h => h) (Or.inl ⟨by rfl, ?yab_1⟩) (by assumption) ?rab_1
    case yab_1 => intro w hSw; (try dsimp only at hSw); go_simp <;> (try with_reducible rfl)
    (try simp only [List.getElem_toArray, List.getElem_cons_succ, List.getElem_cons_zero, Act.put, List.setIfInBounds_toArray, List.set_cons_zero, List.set_cons_succ])
    refine wpAnyH_take (i := 2) (v := ?vab_2) rfl (by kernel_rfl) (by kernel_rfl) (by kernel_rfl) (fun _ _ _ h => h) (Or.inl ⟨by rfl, ?yab_2⟩) (by assumption) ?rab_2
    case yab_2 => intro w hSw; (try dsimp only at hSw); go_simp <;> (try with_reducible rfl)
    (try simp only [List.getElem_toArray, List.getElem_cons_succ, List.getElem_cons_zero, Act.put, List.setIfInBounds_toArray, List.set_cons_zero, List.set_cons_succ])
    refine wpAnyH_take (i := 3) (v := ?vab_3) rfl (by kernel_rfl) (by kernel_rfl) (by kernel_rfl) (fun _ _ _ h => h) (Or.inl ⟨by rfl, ?yab_3⟩) (by assumption) ?rab_3
    case yab_3 => intro w hSw; (try dsimp only at hSw); go_simp <;> (try with_reducible rfl)
    (try simp only [List.getElem_toArray, List.getElem_cons_succ, List.getElem_cons_zero, Act.put, List.setIfInBounds_toArray, List.set_cons_zero, List.set_cons_succ])
    refine' wpAnyH_take (i := 4) (v := _) rfl (by kernel_rfl) (by kernel_rfl) (by kernel_rfl) (fun _ _ _ h => h) (yieldsIf_load_mid (by rfl) _ _ (by rfl) _ _ (by rfl) _ _ ?Sab_4 ?uab_4 ?dab_4 ?iab_4) (by assumption) ?rab_4
    case Sab_4 => exact (by intro w h; exact K2_0.out _ h)
    case uab_4 => exact Tryd.underlying25
    case dab_4 => rfl
    case iab_4 => exact Z2_0
    (try simp only [List.getElem_toArray, List.getElem_cons_succ, List.getElem_cons_zero, Act.put, List.setIfInBounds_toArray, List.set_cons_zero, List.set_cons_succ])
    refine wpAnyH_take (i := 5) (v := ?vab_5) rfl (by kernel_rfl) (by kernel_rfl) (by kernel_rfl) (fun _ _ _ h => h) (Or.inl ⟨by rfl, ?yab_5⟩) (by assumption) ?rab_5
    case yab_5 => intro w hSw; (try dsimp only at hSw); go_simp <;> (try with_reducible rfl)
    (try simp only [List.getElem_toArray, List.getElem_cons_succ, List.getElem_cons_zero, Act.put, List.setIfInBounds_toArray, List.set_cons_zero, List.set_cons_succ])
    refine wpAnyH_take (i := 6) (v := ?vab_6) rfl (by kernel_rfl) (by kernel_rfl) (by kernel_rfl) (fun _ _ _ h => h) (Or.inl ⟨by rfl, ?yab_6⟩) (by assumption) ?rab_6
    case yab_6 => intro w hSw; (try dsimp only at hSw); go_simp <;> (try with_reducible rfl)
    (try simp only [List.getElem_toArray, List.getElem_cons_succ, List.getElem_cons_zero, Act.put, List.setIfInBounds_toArray, List.set_cons_zero, List.set_cons_succ])
    refine' wpAnyH_take (i := 7) (v := _) rfl (by kernel_rfl) (by kernel_rfl) (by kernel_rfl) (fun _ _ _ h => h) (yieldsIf_load_mid (by rfl) _ _ (by rfl) _ _ (by rfl) _ _ ?Sab_7 ?uab_7 ?dab_7 ?iab_7) (by assumption) ?rab_7
    case Sab_7 => exact (by intro w h; exact KQ.out _ h)
    case uab_7 => exact hunP
    case dab_7 => rfl
    case iab_7 => exact zq
    (try simp only [List.getElem_toArray, List.getElem_cons_succ, List.getElem_cons_zero, Act.put, List.setIfInBounds_toArray, List.set_cons_zero, List.set_cons_succ])
    refine' wpAnyH_take (i := 9) (v := _) rfl (by kernel_rfl) (by kernel_rfl) (by kernel_rfl) (fun _ _ _ h => h) (yieldsIf_load_mid (by rfl) _ _ (by rfl) _ _ (by rfl) _ _ ?Sab_9 ?uab_9 ?dab_9 ?iab_9) (by assumption) ?rab_9
    case Sab_9 => exact (by intro w h; exact K2_0.out _ h)
    case uab_9 => exact Tryd.underlying25
    case dab_9 => rfl
    case iab_9 => exact Z2_0
    (try simp only [List.getElem_toArray, List.getElem_cons_succ, List.getElem_cons_zero, Act.put, List.setIfInBounds_toArray, List.set_cons_zero, List.set_cons_succ])
    refine wpAnyH_take (i := 10) (v := ?vab_10) rfl (by kernel_rfl) (by kernel_rfl) (by kernel_rfl) (fun _ _ _ h => h) (Or.inl ⟨by rfl, ?yab_10⟩) (by assumption) ?rab_10
    case yab_10 => intro w hSw; (try dsimp only at hSw); go_simp <;> (try with_reducible rfl)
    (try simp only [List.getElem_toArray, List.getElem_cons_succ, List.getElem_cons_zero, Act.put, List.setIfInBounds_toArray, List.set_cons_zero, List.set_cons_succ])
    refine wpAnyH_take (i := 11) (v := ?vab_11) rfl (by kernel_rfl) (by kernel_rfl) (by kernel_rfl) (fun _ _ _ h => h) (Or.inl ⟨by rfl, ?yab_11⟩) (by assumption) ?rab_11
    case yab_11 => intro w hSw; (try dsimp only at hSw); go_simp <;> (try with_reducible rfl)
    (try simp only [List.getElem_toArray, List.getElem_cons_succ, List.getElem_cons_zero, Act.put, List.setIfInBounds_toArray, List.set_cons_zero, List.set_cons_succ])
    refine' wpAnyH_take (i := 12) (v := _) rfl (by kernel_rfl) (by kernel_rfl) (by kernel_rfl) (fun _ _ _ h => h) (yieldsIf_load_mid (by rfl) _ _ (by rfl) _ _ (by rfl) _ _ ?Sab_12 ?uab_12 ?dab_12 ?iab_12) (by assumption) ?rab_12
    case Sab_12 => exact (by intro w h; exact KQ.out _ h)
    case uab_12 => exact hunP
    case dab_12 => rfl
    case iab_12 => exact zq
    (try simp only [List.getElem_toArray, List.getElem_cons_succ, List.getElem_cons_zero, Act.put, List.setIfInBounds_toArray, List.set_cons_zero, List.set_cons_succ])
    refine wpAnyH_ready (rs := [8]) (by kernel_rfl) (by simp) ?_
    refine AllReadyH.cons rfl (fun K hK => ?_) AllReadyH.nil
    go_simp
    go_wp2_with fail
    (with_reducible refine (HMN.out _).mono ?_)
    rintro e w6 ⟨v1, rfl, OM1, hb6⟩
    have hk6 := below_join hdd hb6
    obtain ⟨Am1, cm1, rfl, _⟩ := own_shape OM1
    have PM1 : PatsAt _ Am1 M := own_pats OM1
    clear OM1
    refine hK.out _ _ hk6 (fun hHeld => ?_)
    clear hK K hb6 hdd
    refine wpAnyH_ready (rs := [13]) (by kernel_rfl) (by simp) ?_
    refine AllReadyH.cons rfl (fun K hK => ?_) AllReadyH.nil
    go_simp
    go_wp2_with fail
    (with_reducible refine (HRN.out _).mono ?_)
    rintro e w7 ⟨v2, rfl, OM2, hb7⟩
    have hk7 := below_join hk6 hb7
    obtain ⟨Am2, cm2, rfl, _⟩ := own_shape OM2
    have PM2 : PatsAt _ Am2 M := own_pats OM2
    clear OM2
    have PM1 := PM1.next hb7
    refine hK.out _ _ hk7 (fun hHeld => ?_)
    clear hK K hb7 hk6
    refine wpAnyH_ready (rs := [14]) (by kernel_rfl) (by simp) ?_
    refine AllReadyH.cons rfl (fun K hK => ?_) AllReadyH.nil
    go_simp
    go_wp2_with fail
    (with_reducible refine (HSM.out _ _ _ _ _ PM1 PM2).mono ?_)
    rintro e w8 ⟨rfl, hb8⟩
    have hk8 := below_join hk7 hb8
    refine hK.out _ _ hk8 (fun hHeld => ?_)
    clear hK K hb8 hk7
    refine wpAnyH_take (i := 15) (v := ?vab_15) rfl (by kernel_rfl) (by kernel_rfl) (by kernel_rfl) (fun _ _ _ h => h) (Or.inl ⟨by rfl, ?yab_15⟩) (by assumption) ?rab_15
    case yab_15 => intro w hSw; (try dsimp only at hSw); go_simp <;> (try with_reducible rfl)
    (try simp only [List.getElem_toArray, List.getElem_cons_succ, List.getElem_cons_zero, Act.put, List.setIfInBounds_toArray, List.set_cons_zero, List.set_cons_succ])
    refine wpAnyH_take (i := 16) (v := ?vab_16) rfl (by kernel_rfl) (by kernel_rfl) (by kernel_rfl) (fun _ _ _ h => h) (Or.inl ⟨by rfl, ?yab_16⟩) (by assumption) ?rab_16
    case yab_16 => intro w hSw; (try dsimp only at hSw); go_simp <;> (try with_reducible rfl)
    (try simp only [List.getElem_toArray, List.getElem_cons_succ, List.getElem_cons_zero, Act.put, List.setIfInBounds_toArray, List.set_cons_zero, List.set_cons_succ])
    refine wpAnyH_done (by kernel_rfl) ?_ _
    clear hHeld K2_0 Z2_0 KQ PM1 PM2
    have PA := PA.next hk8
    have B2 := B2.next hk8 B2.lt
    have hbe := below_join hbe hk8
    clear hk8
    go_wp2_with (first | (with_reducible refine wpList_getg (o := ⟨some 46, .load 25 (.tmp 2), _, _, _, _⟩) (by with_unfolding_all rfl) 25 (.tmp 2) (by with_unfolding_all rfl) g2 0 (by with_unfolding_all rfl) B2 p.cells (cs_all _) _ (by exact Tryd.underlying25) (by with_unfolding_all rfl) (by (rw [Pat.cells_length]; exact Tryd.szP)) ?_))
    (with_reducible refine (C6.out _ PA).mono ?_)
    rintro e w9 ⟨⟨A1, c1, rfl, P1⟩, hb9⟩
    have PA := PA.next hb9
    have B2 := B2.next hb9 B2.lt
    have hbe := below_join hbe hb9
    clear hb9
    go_wp2_with (first | (with_reducible refine wpList_getg (o := ⟨some 52, .load 25 (.tmp 2), _, _, _, _⟩) (by with_unfolding_all rfl) 25 (.tmp 2) (by with_unfolding_all rfl) g2 0 (by with_unfolding_all rfl) B2 p.cells (cs_all _) _ (by exact Tryd.underlying25) (by with_unfolding_all rfl) (by (rw [Pat.cells_length]; exact Tryd.szP)) ?_))
    (with_reducible refine (C7.out _ PA).mono ?_)
    rintro e w10 ⟨⟨A2, c2, rfl, P2⟩, hb10⟩
    have PA := PA.next hb10
    have B2 := B2.next hb10 B2.lt
    have P1 := P1.next hb10
    have hbe := below_join hbe hb10
    clear hb10
    go_wp2_with fail
    (with_reducible refine (C8.out _ PA).mono ?_)
    rintro e w11 ⟨⟨A3, c3, rfl, P3⟩, hb11⟩
    have PA := PA.next hb11
    have B2 := B2.next hb11 B2.lt
    have P1 := P1.next hb11
    have P2 := P2.next hb11
    have hbe := below_join hbe hb11
    clear hb11
    go_wp2_with fail
    (with_reducible refine (C9.out _ PA).mono ?_)
    rintro e w12 ⟨⟨A4, c4, rfl, P4⟩, hb12⟩
    have PA := PA.next hb12
    have B2 := B2.next hb12 B2.lt
    have P1 := P1.next hb12
    have P2 := P2.next hb12
    have P3 := P3.next hb12
    have hbe := below_join hbe hb12
    clear hb12
    go_wp2_with (first | (with_reducible refine wpList_getg (o := ⟨some 68, .load 25 (.tmp 2), _, _, _, _⟩) (by with_unfolding_all rfl) 25 (.tmp 2) (by with_unfolding_all rfl) g2 0 (by with_unfolding_all rfl) B2 p.cells (cs_all _) _ (by exact Tryd.underlying25) (by with_unfolding_all rfl) (by (rw [Pat.cells_length]; exact Tryd.szP)) ?_))
    (with_reducible refine (C10.out _ hbe PA).mono ?_)
    rintro e w13 ⟨⟨f1, I1, rfl, HO1⟩, hb13⟩
    have PA := PA.next hb13
    have B2 := B2.next hb13 B2.lt
    have P1 := P1.next hb13
    have P2 := P2.next hb13
    have P3 := P3.next hb13
    have P4 := P4.next hb13
    have hbe := below_join hbe hb13
    clear hb13
    go_wp2_with (with_reducible refine wpList_alloc (o := ⟨some 14, .alloc 23, _, _, _, _⟩) (by with_unfolding_all rfl) 23 (by with_unfolding_all rfl) (.agg (H no).toArray) (H no) (by exact Tryd.zeroH) (by with_unfolding_all rfl) ?_)
    intro g14 w14 hg14 hs14 hb14 hB14
    have hl14 : w13.heap.size ≤ g14 := Nat.le_of_eq hg14.out.symm
    have hb14 := hb14.mono hl14
    go_wp2_with (with_reducible refine wpList_put (o := ⟨none, .store 23 (.tmp 14) (.tmp 71), _, _, _, _⟩) (by with_unfolding_all rfl) 23 (.tmp 14) (.tmp 71) (by with_unfolding_all rfl) g14 0 (by with_unfolding_all rfl) (.agg (H f1).toArray) (by with_unfolding_all rfl) hB14 (H f1) (by with_unfolding_all rfl) (by with_unfolding_all (rw [H_length]; exact Tryd.szH)) (by with_unfolding_all (simp only [H_length] <;> omega)) (by with_unfolding_all (exact H_one _)) ?_)
    intro w15 hu15 B14
    rw [splice_all _ _ (by simp only [H_length])] at B14
    have hb15 := hb14.trans (hu15.below (B := w13.heap.size) hl14)
    have PA := PA.next hb15
    have B2 := B2.next hb15 B2.lt
    have P1 := P1.next hb15
    have P2 := P2.next hb15
    have P3 := P3.next hb15
    have P4 := P4.next hb15
    have hbe := below_join hbe hb15
    clear hb14 hb15 hu15 hB14 hl14 hg14 hs14
    go_wp2_with (first | (with_reducible refine wpList_getg (o := ⟨some 74, .load 25 (.tmp 2), _, _, _, _⟩) (by with_unfolding_all rfl) 25 (.tmp 2) (by with_unfolding_all rfl) g2 0 (by with_unfolding_all rfl) B2 p.cells (cs_all _) _ (by exact Tryd.underlying25) (by with_unfolding_all rfl) (by (rw [Pat.cells_length]; exact Tryd.szP)) ?_))
    (with_reducible refine (C11.out _ PA).mono ?_)
    rintro e w16 ⟨⟨f2, I2, rfl, HO2⟩, hb16⟩
    have PA := PA.next hb16
    have B2 := B2.next hb16 B2.lt
    have P1 := P1.next hb16
    have P2 := P2.next hb16
    have P3 := P3.next hb16
    have P4 := P4.next hb16
    have B14 := B14.next hb16 B14.lt
    have hbe := below_join hbe hb16
    clear hb16
    obtain ⟨ef, rfl⟩ := outOk_uniq HO1 HO2
    rw [ef]
    clear ef HO1 HO2
    go_wp2_with (with_reducible refine wpList_alloc (o := ⟨some 16, .alloc 23, _, _, _, _⟩) (by with_unfolding_all rfl) 23 (by with_unfolding_all rfl) (.agg (H no).toArray) (H no) (by exact Tryd.zeroH) (by with_unfolding_all rfl) ?_)
    intro g16 w17 hg16 hs17 hb17 hB17
    have hl17 : w16.heap.size ≤ g16 := Nat.le_of_eq hg16.out.symm
    have hb17 := hb17.mono hl17
    go_wp2_with (with_reducible refine wpList_put (o := ⟨none, .store 23 (.tmp 16) (.tmp 77), _, _, _, _⟩) (by with_unfolding_all rfl) 23 (.tmp 16) (.tmp 77) (by with_unfolding_all rfl) g16 0 (by with_unfolding_all rfl) (.agg (H f1).toArray) (by with_unfolding_all rfl) hB17 (H f1) (by with_unfolding_all rfl) (by with_unfolding_all (rw [H_length]; exact Tryd.szH)) (by with_unfolding_all (simp only [H_length] <;> omega)) (by with_unfolding_all (exact H_one _)) ?_)
    intro w18 hu18 B16
    rw [splice_all _ _ (by simp only [H_length])] at B16
    have hb18 := hb17.trans (hu18.below (B := w16.heap.size) hl17)
    have PA := PA.next hb18
    have B2 := B2.next hb18 B2.lt
    have P1 := P1.next hb18
    have P2 := P2.next hb18
    have P3 := P3.next hb18
    have P4 := P4.next hb18
    have B14 := B14.next hb18 B14.lt
    have hbe := below_join hbe hb18
    clear hb17 hb18 hu18 hB17 hl17 hg16 hs17
    go_wp2_with fail
    (with_reducible refine (C12.out _ _ _ _ _ P1 P2).mono ?_)
    rintro e w19 ⟨rfl, hb19⟩
    have PA := PA.next hb19
    have B2 := B2.next hb19 B2.lt
    have P1 := P1.next hb19
    have P2 := P2.next hb19
    have P3 := P3.next hb19
    have P4 := P4.next hb19
    have B14 := B14.next hb19 B14.lt
    have B16 := B16.next hb19 B16.lt
    have hbe := below_join hbe hb19
    clear hb19
    go_wp2_with fail
    (with_reducible refine (C13.out _ _ _ _ _ P3 P4).mono ?_)
    rintro e w20 ⟨rfl, hb20⟩
    have PA := PA.next hb20
    have B2 := B2.next hb20 B2.lt
    have P1 := P1.next hb20
    have P2 := P2.next hb20
    have P3 := P3.next hb20
    have P4 := P4.next hb20
    have B14 := B14.next hb20 B14.lt
    have B16 := B16.next hb20 B16.lt
    have hbe := below_join hbe hb20
    clear hb20
    go_wp2_with (first | (with_reducible refine wpList_getg (o := ⟨some 103, .load 23 (.tmp 14), _, _, _, _⟩) (by with_unfolding_all rfl) 23 (.tmp 14) (by with_unfolding_all rfl) g14 0 (by with_unfolding_all rfl) B14 (H f1) (cs_all _) _ (by exact Tryd.underlying23) (by with_unfolding_all rfl) (by (rw [H_length]; exact Tryd.szH)) ?_) | (with_reducible refine wpList_getg (o := ⟨some 104, .load 23 (.tmp 16), _, _, _, _⟩) (by with_unfolding_all rfl) 23 (.tmp 16) (by with_unfolding_all rfl) g16 0 (by with_unfolding_all rfl) B16 (H f1) (cs_all _) _ (by exact Tryd.underlying23) (by with_unfolding_all rfl) (by (rw [H_length]; exact Tryd.szH)) ?_))
    go_ret
    exact ⟨rfl, hbe⟩
/-- Whatever comes in. -/
theorem dmsLaw_any (A0 : Option Addr) (c0 : Nat) (la : List (List Int × List Int)) (pm pb : List Int) (w : World) (h1 : pm.length = 10) (h2 : pb.length = 10) (hTa : Tens la) (hRa : RawAt w A0 la) (hn0 : A0 = none → la.length = 0 ∧ c0 = 0) (hal : ∀ g o, A0 = some ⟨g, o, none⟩ → g < w.heap.size) (hcap : la.length ≤ c0) (hla : la.length * 160 ≤ 140737488351232) (hG : GOk w) :
    Calls Tryd.prog 5 #[.agg (pm.map iV ++ pb.map iV).toArray, .slice A0 la.length c0] w fun e w' => e = .returned (.bool true) ∧ Below w.heap.size w w' := by
  have hT3 : Tens ((pm, pb) :: la) := fun x hx => by
    rcases List.mem_cons.1 hx with rfl | hx
    · exact ⟨h1, h2⟩
    · exact hTa x hx
  obtain ⟨F, hF1, hF2⟩ := few_bool ((pm, pb) :: la) 9 (1 + la.length) (by rw [List.length_cons]; omega) hT3 (by omega) (by decide)
  cases F with
  | true =>
    obtain ⟨ps, q1, q2, q3, q4⟩ := hF1.1 rfl
    cases ps with
    | nil => cases q2
    | cons p qs =>
      have q2' : (HI p.m, HI p.b) :: rawOf qs = (pm, pb) :: la := q2
      injection q2' with e1 e2
      injection e1 with e1 e3
      subst e1 e2 e3
      have la' : (rawOf qs).length = qs.length := by unfold rawOf; rw [List.length_map]
      rw [la'] at hn0 hcap ⊢
      have hl3 : (p :: qs).length = 1 + qs.length := by rw [List.length_cons]; omega
      rw [hl3] at q3 q4
      rw [← H_iV, ← H_iV]
      exact dms_good A0 c0 qs p w (fun q hq => q1 q (List.mem_cons_of_mem _ hq)) (q1 p (List.mem_cons_self ..)) (RawAt.pats hRa) hal hn0 hcap q3 q4 hG
  | false => exact dms_bad A0 c0 la pm pb w h1 h2 hTa hRa hn0 hla hG hF2
end Go.Proofs.YtbldnhpbmfmepaaDoor
