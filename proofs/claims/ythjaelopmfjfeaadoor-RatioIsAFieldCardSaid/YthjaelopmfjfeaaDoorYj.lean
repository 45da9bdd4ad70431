/-
  The walk of RatioIsAField. Conditions: the library's variables lie there.
-/
import Derived.Test.YthjaelopmfjfeaaDoorYi
import Derived.Test.YthjaelopmfjfeaaDoorYh
namespace Go.Proofs.YthjaelopmfjfeaaDoor
set_option linter.unusedVariables false
set_option linter.unusedSimpArgs false
open Go.RowKit Go.Shelf
set_option linter.unusedVariables false

set_option maxRecDepth 100000 in
set_option maxHeartbeats 6400000 in
theorem fieldLaw_any (an ad bn bd cn cd : Int) (w : World) (hq : QW w) :
    Calls Tryd.prog 4 #[.agg [Value.int .i64 an, Value.int .i64 ad].toArray, .agg [Value.int .i64 bn, Value.int .i64 bd].toArray, .agg [Value.int .i64 cn, Value.int .i64 cd].toArray] w fun e w' => e = .returned (.bool true) ∧ Below w.heap.size w w' := by
  have HQ := Lib.hid hq
  obtain ⟨A, hA⟩ : ∃ A, Hid (chk an ad = A) := ⟨_, rfl⟩
  obtain ⟨B, hB⟩ : ∃ A, Hid (chk bn bd = A) := ⟨_, rfl⟩
  obtain ⟨C, hC⟩ : ∃ A, Hid (chk cn cd = A) := ⟨_, rfl⟩
  have c1 := fun w => rcheck_any an ad w
  have c2 := fun w => rcheck_any bn bd w
  have c3 := fun w => rcheck_any cn cd w
  rw [hA.out] at c1
  rw [hB.out] at c2
  rw [hC.out] at c3
  have C1 := Lib.hid c1
  have C2 := Lib.hid c2
  have C3 := Lib.hid c3
  have hunQ := Tryd.underlying23
  have hguQ := Tryd.guardQ
  have eN : ∀ (a b : Int) (w : World), (binOp .neq 23 (.agg [Value.int .i64 a, Value.int .i64 b].toArray) (.agg [Value.int .i64 a, Value.int .i64 b].toArray)).run Tryd.prog w = .ok (.bool false) w := fun a b w => by rw [neqQ]; simp
  have eL : ∀ (a b : Int) (w : World), (binOp .eql 23 (.agg [Value.int .i64 a, Value.int .i64 b].toArray) (.agg [Value.int .i64 a, Value.int .i64 b].toArray)).run Tryd.prog w = .ok (.bool true) w := fun a b w => by rw [eqlQ]; simp
  have hkk : ∀ k : Int, (k != k) = false := fun k => by simp
  clear hq c1 c2 c3
  go_enter Tryd.func4, Tryd.ntmps4
  go_wp2_with (with_reducible refine wpList_box (o := ⟨some 3, .box 23 (.tmp 0), _, _, _, _⟩) ?g3 23 (.tmp 0) ?o3 (.agg [Value.int .i64 an, Value.int .i64 ad].toArray) [Value.int .i64 an, Value.int .i64 ad] ?x3 ?c3 ?_)
  try (case g3 => rfl)
  try (case o3 => rfl)
  try (case x3 => rfl)
  try (case c3 => rfl)
  intro g3 w1 hg3 hs1 hb1 B3
  have hb1 := hb1.mono (Nat.le_of_eq hg3.out.symm)
  have hbe : Below w.heap.size w w1 := hb1
  clear hb1 hg3 hs1
  go_wp2_with (with_reducible refine wpList_box (o := ⟨some 4, .box 23 (.tmp 1), _, _, _, _⟩) ?g4 23 (.tmp 1) ?o4 (.agg [Value.int .i64 bn, Value.int .i64 bd].toArray) [Value.int .i64 bn, Value.int .i64 bd] ?x4 ?c4 ?_)
  try (case g4 => rfl)
  try (case o4 => rfl)
  try (case x4 => rfl)
  try (case c4 => rfl)
  intro g4 w2 hg4 hs2 hb2 B4
  have hb2 := hb2.mono (Nat.le_of_eq hg4.out.symm)
  have B3 := B3.next hb2 B3.lt
  have hbe := below_join hbe hb2
  clear hb2 hg4 hs2
  go_wp2_with (with_reducible refine wpList_box (o := ⟨some 5, .box 23 (.tmp 2), _, _, _, _⟩) ?g5 23 (.tmp 2) ?o5 (.agg [Value.int .i64 cn, Value.int .i64 cd].toArray) [Value.int .i64 cn, Value.int .i64 cd] ?x5 ?c5 ?_)
  try (case g5 => rfl)
  try (case o5 => rfl)
  try (case x5 => rfl)
  try (case c5 => rfl)
  intro g5 w3 hg5 hs3 hb3 B5
  have hb3 := hb3.mono (Nat.le_of_eq hg5.out.symm)
  have B3 := B3.next hb3 B3.lt
  have B4 := B4.next hb3 B4.lt
  have hbe := below_join hbe hb3
  clear hb3 hg5 hs3
  have z30 := B3.cell (k := 0) rfl
  have z31 := B3.cell (k := 1) rfl
  go_wp2_with fail
  (with_reducible refine (C1.out _).mono ?_)
  rintro e w4 ⟨rfl, hb4⟩
  have B3 := B3.next hb4 B3.lt
  have B4 := B4.next hb4 B4.lt
  have B5 := B5.next hb4 B5.lt
  have hbe := below_join hbe hb4
  clear hb4
  clear z30 z31
  rcases A with _ | _
  · skip
    go_wp2_with fail
    (with_reducible refine (sanity_any _ (HQ.out.next hbe)).mono ?_)
    rintro e w5 ⟨rfl, hb5⟩
    have B3 := B3.next hb5 B3.lt
    have B4 := B4.next hb5 B4.lt
    have B5 := B5.next hb5 B5.lt
    have hbe := below_join hbe hb5
    clear hb5
    go_wp2
    go_ret
    exact ⟨rfl, hbe⟩
  · skip
    have z40 := B4.cell (k := 0) rfl
    have z41 := B4.cell (k := 1) rfl
    go_wp2_with fail
    (with_reducible refine (C2.out _).mono ?_)
    rintro e w5 ⟨rfl, hb5⟩
    have B3 := B3.next hb5 B3.lt
    have B4 := B4.next hb5 B4.lt
    have B5 := B5.next hb5 B5.lt
    have hbe := below_join hbe hb5
    clear hb5
    clear z40 z41
    rcases B with _ | _
    · skip
      go_wp2_with fail
      (with_reducible refine (sanity_any _ (HQ.out.next hbe)).mono ?_)
      rintro e w6 ⟨rfl, hb6⟩
      have B3 := B3.next hb6 B3.lt
      have B4 := B4.next hb6 B4.lt
      have B5 := B5.next hb6 B5.lt
      have hbe := below_join hbe hb6
      clear hb6
      go_wp2
      go_ret
      exact ⟨rfl, hbe⟩
    · skip
      have z50 := B5.cell (k := 0) rfl
      have z51 := B5.cell (k := 1) rfl
      go_wp2_with fail
      (with_reducible refine (C3.out _).mono ?_)
      rintro e w6 ⟨rfl, hb6⟩
      have B3 := B3.next hb6 B3.lt
      have B4 := B4.next hb6 B4.lt
      have B5 := B5.next hb6 B5.lt
      have hbe := below_join hbe hb6
      clear hb6
      clear z50 z51
      rcases C with _ | _
      · skip
        go_wp2_with fail
        (with_reducible refine (sanity_any _ (HQ.out.next hbe)).mono ?_)
        rintro e w7 ⟨rfl, hb7⟩
        have B3 := B3.next hb7 B3.lt
        have B4 := B4.next hb7 B4.lt
        have B5 := B5.next hb7 B5.lt
        have hbe := below_join hbe hb7
        clear hb7
        go_wp2
        go_ret
        exact ⟨rfl, hbe⟩
      · skip
        obtain ⟨p, hp, rfl, rfl⟩ := chk_is hA.out
        obtain ⟨q, hq, rfl, rfl⟩ := chk_is hB.out
        obtain ⟨r, hr, rfl, rfl⟩ := chk_is hC.out
        have hp2 : qC p = [Value.int .i64 p.num, Value.int .i64 (p.den : Int)] := rfl
        have hq2 : qC q = [Value.int .i64 q.num, Value.int .i64 (q.den : Int)] := rfl
        have hr2 : qC r = [Value.int .i64 r.num, Value.int .i64 (r.den : Int)] := rfl
        obtain ⟨Ns, Ds, ks, hs, gs⟩ := ansQ_two (p + q)
        have xs0 := fun w => add_any p q w hp hq
        rw [hs, hp2, hq2] at xs0
        have Xs0 := Lib.hid xs0
        clear xs0
        have xs1 := fun w => add_any q p w hq hp
        rw [Rat.add_comm q p, hs, hp2, hq2] at xs1
        have Xs1 := Lib.hid xs1
        clear xs1
        have Gs := Lib.hid gs
        clear gs hs
        obtain ⟨Nm, Dm, km, hm, gm⟩ := ansQ_two (p * q)
        have xm0 := fun w => mul_any p q w hp hq
        rw [hm, hp2, hq2] at xm0
        have Xm0 := Lib.hid xm0
        clear xm0
        have xm1 := fun w => mul_any q p w hq hp
        rw [Rat.mul_comm q p, hm, hp2, hq2] at xm1
        have Xm1 := Lib.hid xm1
        clear xm1
        have Gm := Lib.hid gm
        clear gm hm
        obtain ⟨Nu, Du, ku, hu, gu⟩ := ansQ_two (p * r)
        have xu0 := fun w => mul_any p r w hp hr
        rw [hu, hp2, hr2] at xu0
        have Xu0 := Lib.hid xu0
        clear xu0
        have Gu := Lib.hid gu
        clear gu hu
        obtain ⟨Nv, Dv, kv, hv, gv⟩ := ansQ_two (q * r)
        have xv0 := fun w => mul_any q r w hq hr
        rw [hv, hq2, hr2] at xv0
        have Xv0 := Lib.hid xv0
        clear xv0
        have Gv := Lib.hid gv
        clear gv hv
        obtain ⟨Na, Da, oa, ha, ga⟩ := bothE_form (p + q) (p + q + r)
        have xa := fun w => bothAA_any p q r w hp hq hr
        rw [ha, hp2, hq2, hr2] at xa
        have Xa := Lib.hid xa
        have Ga := Lib.hid ga
        clear xa ga ha
        obtain ⟨Nb, Db, ob, hb, gb⟩ := bothE_form (q + r) (q + r + p)
        have xb := fun w => bothAA_any q r p w hq hr hp
        rw [hb, hp2, hq2, hr2] at xb
        have Xb := Lib.hid xb
        have Gb := Lib.hid gb
        clear xb gb hb
        obtain ⟨Nc, Dc, oc, hc, gc⟩ := bothE_form (p * q) (p * q * r)
        have xc := fun w => bothMM_any p q r w hp hq hr
        rw [hc, hp2, hq2, hr2] at xc
        have Xc := Lib.hid xc
        have Gc := Lib.hid gc
        clear xc gc hc
        obtain ⟨Nd, Dd, od, hd, gd⟩ := bothE_form (q * r) (q * r * p)
        have xd := fun w => bothMM_any q r p w hq hr hp
        rw [hd, hp2, hq2, hr2] at xd
        have Xd := Lib.hid xd
        have Gd := Lib.hid gd
        clear xd gd hd
        obtain ⟨Ne, De, oe, he, ge⟩ := bothE_form (p + q) ((p + q) * r)
        have xe := fun w => bothAM_any p q r w hp hq hr
        rw [he, hp2, hq2, hr2] at xe
        have Xe := Lib.hid xe
        have Ge := Lib.hid ge
        clear xe ge he
        have KS : Hid (fits (p + q) → ∀ w, Calls Tryd.prog 19 #[.agg [Value.int .i64 (p + q).num, Value.int .i64 ((p + q).den : Int)].toArray, .agg [Value.int .i64 (q).num, Value.int .i64 ((q).den : Int)].toArray] w fun e w' => e = .returned (.tuple #[.agg [Value.int .i64 (p).num, Value.int .i64 ((p).den : Int)].toArray, .int .i64 0]) ∧ Below w.heap.size w w') := by
          have : fits (p + q) → ∀ w, Calls Tryd.prog 19 #[.agg [Value.int .i64 (p + q).num, Value.int .i64 ((p + q).den : Int)].toArray, .agg [Value.int .i64 (q).num, Value.int .i64 ((q).den : Int)].toArray] w fun e w' => e = .returned (.tuple #[.agg [Value.int .i64 (p).num, Value.int .i64 ((p).den : Int)].toArray, .int .i64 0]) ∧ Below w.heap.size w w' := fun h w => (sub_any (p + q) q w h hq).mono fun e w' ⟨he, hb⟩ => ⟨by rw [he, show p + q - q = p by grind, ansQ, if_pos hp]; rfl, hb⟩
          exact this
        have KV : Hid (fits (p * q) → q ≠ 0 → ∀ w, Calls Tryd.prog 23 #[.agg [Value.int .i64 (p * q).num, Value.int .i64 ((p * q).den : Int)].toArray, .agg [Value.int .i64 (q).num, Value.int .i64 ((q).den : Int)].toArray] w fun e w' => e = .returned (.tuple #[.agg [Value.int .i64 (p).num, Value.int .i64 ((p).den : Int)].toArray, .int .i64 0]) ∧ Below w.heap.size w w') := by
          have : fits (p * q) → q ≠ 0 → ∀ w, Calls Tryd.prog 23 #[.agg [Value.int .i64 (p * q).num, Value.int .i64 ((p * q).den : Int)].toArray, .agg [Value.int .i64 (q).num, Value.int .i64 ((q).den : Int)].toArray] w fun e w' => e = .returned (.tuple #[.agg [Value.int .i64 (p).num, Value.int .i64 ((p).den : Int)].toArray, .int .i64 0]) ∧ Below w.heap.size w w' := fun h h0 w => (div_any (p * q) q w h hq).mono fun e w' ⟨he, hb⟩ => ⟨by rw [he, divE, if_neg h0, show p * q / q = p by grind, ansQ, if_pos hp]; rfl, hb⟩
          exact this
        have KA : Hid (fits (p * r) → fits (q * r) → fits ((p + q) * r) → ∀ w, Calls Tryd.prog 17 #[.agg [Value.int .i64 (p * r).num, Value.int .i64 ((p * r).den : Int)].toArray, .agg [Value.int .i64 (q * r).num, Value.int .i64 ((q * r).den : Int)].toArray] w fun e w' => e = .returned (.tuple #[.agg [Value.int .i64 ((p + q) * r).num, Value.int .i64 (((p + q) * r).den : Int)].toArray, .int .i64 0]) ∧ Below w.heap.size w w') := by
          have : fits (p * r) → fits (q * r) → fits ((p + q) * r) → ∀ w, Calls Tryd.prog 17 #[.agg [Value.int .i64 (p * r).num, Value.int .i64 ((p * r).den : Int)].toArray, .agg [Value.int .i64 (q * r).num, Value.int .i64 ((q * r).den : Int)].toArray] w fun e w' => e = .returned (.tuple #[.agg [Value.int .i64 ((p + q) * r).num, Value.int .i64 (((p + q) * r).den : Int)].toArray, .int .i64 0]) ∧ Below w.heap.size w w' := fun h1 h2 h3 w => (add_any (p * r) (q * r) w h1 h2).mono fun e w' ⟨he, hb⟩ => ⟨by rw [he, show p * r + q * r = (p + q) * r by grind, ansQ, if_pos h3]; rfl, hb⟩
          exact this
        have KC : Hid (fits (p + q) → ∀ w, Calls Tryd.prog 14 #[.agg [Value.int .i64 (p + q).num, Value.int .i64 ((p + q).den : Int)].toArray] w fun e w' => e = .returned (.bool true) ∧ Below w.heap.size w w') := by
          have : fits (p + q) → ∀ w, Calls Tryd.prog 14 #[.agg [Value.int .i64 (p + q).num, Value.int .i64 ((p + q).den : Int)].toArray] w fun e w' => e = .returned (.bool true) ∧ Below w.heap.size w w' := fun h w => (check_any (p + q).num (p + q).den w).mono fun e w' ⟨he, hb⟩ => ⟨by rw [he, chk_rat h], hb⟩
          exact this
        have KM : Hid (fits (p * q) → ∀ w, Calls Tryd.prog 14 #[.agg [Value.int .i64 (p * q).num, Value.int .i64 ((p * q).den : Int)].toArray] w fun e w' => e = .returned (.bool true) ∧ Below w.heap.size w w') := by
          have : fits (p * q) → ∀ w, Calls Tryd.prog 14 #[.agg [Value.int .i64 (p * q).num, Value.int .i64 ((p * q).den : Int)].toArray] w fun e w' => e = .returned (.bool true) ∧ Below w.heap.size w w' := fun h w => (check_any (p * q).num (p * q).den w).mono fun e w' ⟨he, hb⟩ => ⟨by rw [he, chk_rat h], hb⟩
          exact this
        obtain ⟨Z, hZ⟩ : ∃ Z : Bool, Z = true ↔ (km = 0 ∧ q.num ≠ 0) := ⟨decide (km = 0 ∧ q.num ≠ 0), decide_eq_true_iff⟩
        have HZ := Lib.hid hZ
        have HAB : Hid ((q + r + p : Rat) = p + q + r) := by
          have : (q + r + p : Rat) = p + q + r := by grind
          exact this
        have HCD : Hid ((q * r * p : Rat) = p * q * r) := by
          have : (q * r * p : Rat) = p * q * r := by grind
          exact this
        have HF := Lib.hid (⟨hp, hq, hr⟩ : fits p ∧ fits q ∧ fits r)
        clear hZ hp hq hr hp2 hq2 hr2
        -- @1
        have z30 := B3.cell (k := 0) rfl
        have z31 := B3.cell (k := 1) rfl
        have z40 := B4.cell (k := 0) rfl
        have z41 := B4.cell (k := 1) rfl
        go_wp2_with fail
        (with_reducible refine (Xs0.out _).mono ?_)
        rintro e w7 ⟨rfl, hb7⟩
        have B3 := B3.next hb7 B3.lt
        have B4 := B4.next hb7 B4.lt
        have B5 := B5.next hb7 B5.lt
        have hbe := below_join hbe hb7
        clear hb7
        clear z30 z31 z40 z41
        go_wp2_with (with_reducible refine wpList_alloc (o := ⟨some 7, .alloc 23, _, _, _, _⟩) (by with_unfolding_all rfl) 23 (by with_unfolding_all rfl) (.agg zC.toArray) zC (by exact Tryd.zeroQ) (by with_unfolding_all rfl) ?_)
        intro g7 w8 hg7 hs8 hb8 B7
        have hl7 : w.heap.size ≤ g7 := Nat.le_trans hbe.size (Nat.le_of_eq hg7.out.symm)
        have ne3_7 : g3 ≠ g7 := by have := B3.lt; have := hg7.out; omega
        have ne4_7 : g4 ≠ g7 := by have := B4.lt; have := hg7.out; omega
        have ne5_7 : g5 ≠ g7 := by have := B5.lt; have := hg7.out; omega
        have hb8 := hb8.mono (Nat.le_of_eq hg7.out.symm)
        have B3 := B3.next hb8 B3.lt
        have B4 := B4.next hb8 B4.lt
        have B5 := B5.next hb8 B5.lt
        have hbe := below_join hbe hb8
        clear hb8 hg7 hs8
        go_wp2_with (with_reducible refine wpList_put (o := ⟨none, .store 23 (.tmp 7) (.tmp 46), _, _, _, _⟩) (by with_unfolding_all rfl) 23 (.tmp 7) (.tmp 46) (by with_unfolding_all rfl) g7 0 (by with_unfolding_all rfl) (.agg [Value.int .i64 Ns, Value.int .i64 Ds].toArray) (by with_unfolding_all rfl) B7 [Value.int .i64 Ns, Value.int .i64 Ds] (by with_unfolding_all rfl) (by with_unfolding_all (exact Tryd.szQ)) (by with_unfolding_all (exact Nat.le_refl 2)) (by with_unfolding_all (exact int_one _ _)) ?_)
        clear B7
        intro w9 hu9 B7
        rw [splice_all _ _ (by rfl)] at B7
        have hbe := hbe.trans (hu9.below (B := w.heap.size) hl7)
        have B3 := B3.upd hu9 (by first | exact ne3_7 | exact ne7_3.symm)
        have B4 := B4.upd hu9 (by first | exact ne4_7 | exact ne7_4.symm)
        have B5 := B5.upd hu9 (by first | exact ne5_7 | exact ne7_5.symm)
        clear hu9
        have z40 := B4.cell (k := 0) rfl
        have z41 := B4.cell (k := 1) rfl
        have z30 := B3.cell (k := 0) rfl
        have z31 := B3.cell (k := 1) rfl
        go_wp2_with fail
        (with_reducible refine (Xs1.out _).mono ?_)
        rintro e w10 ⟨rfl, hb10⟩
        have B3 := B3.next hb10 B3.lt
        have B4 := B4.next hb10 B4.lt
        have B5 := B5.next hb10 B5.lt
        have B7 := B7.next hb10 B7.lt
        have hbe := below_join hbe hb10
        clear hb10
        clear z40 z41 z30 z31
        go_wp2_with (with_reducible refine wpList_alloc (o := ⟨some 9, .alloc 23, _, _, _, _⟩) (by with_unfolding_all rfl) 23 (by with_unfolding_all rfl) (.agg zC.toArray) zC (by exact Tryd.zeroQ) (by with_unfolding_all rfl) ?_)
        intro g9 w11 hg9 hs11 hb11 B9
        have hl9 : w.heap.size ≤ g9 := Nat.le_trans hbe.size (Nat.le_of_eq hg9.out.symm)
        have ne3_9 : g3 ≠ g9 := by have := B3.lt; have := hg9.out; omega
        have ne4_9 : g4 ≠ g9 := by have := B4.lt; have := hg9.out; omega
        have ne5_9 : g5 ≠ g9 := by have := B5.lt; have := hg9.out; omega
        have ne7_9 : g7 ≠ g9 := by have := B7.lt; have := hg9.out; omega
        have hb11 := hb11.mono (Nat.le_of_eq hg9.out.symm)
        have B3 := B3.next hb11 B3.lt
        have B4 := B4.next hb11 B4.lt
        have B5 := B5.next hb11 B5.lt
        have B7 := B7.next hb11 B7.lt
        have hbe := below_join hbe hb11
        clear hb11 hg9 hs11
        go_wp2_with (with_reducible refine wpList_put (o := ⟨none, .store 23 (.tmp 9) (.tmp 52), _, _, _, _⟩) (by with_unfolding_all rfl) 23 (.tmp 9) (.tmp 52) (by with_unfolding_all rfl) g9 0 (by with_unfolding_all rfl) (.agg [Value.int .i64 Ns, Value.int .i64 Ds].toArray) (by with_unfolding_all rfl) B9 [Value.int .i64 Ns, Value.int .i64 Ds] (by with_unfolding_all rfl) (by with_unfolding_all (exact Tryd.szQ)) (by with_unfolding_all (exact Nat.le_refl 2)) (by with_unfolding_all (exact int_one _ _)) ?_)
        clear B9
        intro w12 hu12 B9
        rw [splice_all _ _ (by rfl)] at B9
        have hbe := hbe.trans (hu12.below (B := w.heap.size) hl9)
        have B3 := B3.upd hu12 (by first | exact ne3_9 | exact ne9_3.symm)
        have B4 := B4.upd hu12 (by first | exact ne4_9 | exact ne9_4.symm)
        have B5 := B5.upd hu12 (by first | exact ne5_9 | exact ne9_5.symm)
        have B7 := B7.upd hu12 (by first | exact ne7_9 | exact ne9_7.symm)
        clear hu12
        have z30 := B3.cell (k := 0) rfl
        have z31 := B3.cell (k := 1) rfl
        have z40 := B4.cell (k := 0) rfl
        have z41 := B4.cell (k := 1) rfl
        go_wp2_with fail
        (with_reducible refine (Xm0.out _).mono ?_)
        rintro e w13 ⟨rfl, hb13⟩
        have B3 := B3.next hb13 B3.lt
        have B4 := B4.next hb13 B4.lt
        have B5 := B5.next hb13 B5.lt
        have B7 := B7.next hb13 B7.lt
        have B9 := B9.next hb13 B9.lt
        have hbe := below_join hbe hb13
        clear hb13
        clear z30 z31 z40 z41
        go_wp2_with (with_reducible refine wpList_alloc (o := ⟨some 11, .alloc 23, _, _, _, _⟩) (by with_unfolding_all rfl) 23 (by with_unfolding_all rfl) (.agg zC.toArray) zC (by exact Tryd.zeroQ) (by with_unfolding_all rfl) ?_)
        intro g11 w14 hg11 hs14 hb14 B11
        have hl11 : w.heap.size ≤ g11 := Nat.le_trans hbe.size (Nat.le_of_eq hg11.out.symm)
        have ne3_11 : g3 ≠ g11 := by have := B3.lt; have := hg11.out; omega
        have ne4_11 : g4 ≠ g11 := by have := B4.lt; have := hg11.out; omega
        have ne5_11 : g5 ≠ g11 := by have := B5.lt; have := hg11.out; omega
        have ne7_11 : g7 ≠ g11 := by have := B7.lt; have := hg11.out; omega
        have ne9_11 : g9 ≠ g11 := by have := B9.lt; have := hg11.out; omega
        have hb14 := hb14.mono (Nat.le_of_eq hg11.out.symm)
        have B3 := B3.next hb14 B3.lt
        have B4 := B4.next hb14 B4.lt
        have B5 := B5.next hb14 B5.lt
        have B7 := B7.next hb14 B7.lt
        have B9 := B9.next hb14 B9.lt
        have hbe := below_join hbe hb14
        clear hb14 hg11 hs14
        go_wp2_with (with_reducible refine wpList_put (o := ⟨none, .store 23 (.tmp 11) (.tmp 58), _, _, _, _⟩) (by with_unfolding_all rfl) 23 (.tmp 11) (.tmp 58) (by with_unfolding_all rfl) g11 0 (by with_unfolding_all rfl) (.agg [Value.int .i64 Nm, Value.int .i64 Dm].toArray) (by with_unfolding_all rfl) B11 [Value.int .i64 Nm, Value.int .i64 Dm] (by with_unfolding_all rfl) (by with_unfolding_all (exact Tryd.szQ)) (by with_unfolding_all (exact Nat.le_refl 2)) (by with_unfolding_all (exact int_one _ _)) ?_)
        clear B11
        intro w15 hu15 B11
        rw [splice_all _ _ (by rfl)] at B11
        have hbe := hbe.trans (hu15.below (B := w.heap.size) hl11)
        have B3 := B3.upd hu15 (by first | exact ne3_11 | exact ne11_3.symm)
        have B4 := B4.upd hu15 (by first | exact ne4_11 | exact ne11_4.symm)
        have B5 := B5.upd hu15 (by first | exact ne5_11 | exact ne11_5.symm)
        have B7 := B7.upd hu15 (by first | exact ne7_11 | exact ne11_7.symm)
        have B9 := B9.upd hu15 (by first | exact ne9_11 | exact ne11_9.symm)
        clear hu15
        have z40 := B4.cell (k := 0) rfl
        have z41 := B4.cell (k := 1) rfl
        have z30 := B3.cell (k := 0) rfl
        have z31 := B3.cell (k := 1) rfl
        go_wp2_with fail
        (with_reducible refine (Xm1.out _).mono ?_)
        rintro e w16 ⟨rfl, hb16⟩
        have B3 := B3.next hb16 B3.lt
        have B4 := B4.next hb16 B4.lt
        have B5 := B5.next hb16 B5.lt
        have B7 := B7.next hb16 B7.lt
        have B9 := B9.next hb16 B9.lt
        have B11 := B11.next hb16 B11.lt
        have hbe := below_join hbe hb16
        clear hb16
        clear z40 z41 z30 z31
        go_wp2_with (with_reducible refine wpList_alloc (o := ⟨some 13, .alloc 23, _, _, _, _⟩) (by with_unfolding_all rfl) 23 (by with_unfolding_all rfl) (.agg zC.toArray) zC (by exact Tryd.zeroQ) (by with_unfolding_all rfl) ?_)
        intro g13 w17 hg13 hs17 hb17 B13
        have hl13 : w.heap.size ≤ g13 := Nat.le_trans hbe.size (Nat.le_of_eq hg13.out.symm)
        have ne3_13 : g3 ≠ g13 := by have := B3.lt; have := hg13.out; omega
        have ne4_13 : g4 ≠ g13 := by have := B4.lt; have := hg13.out; omega
        have ne5_13 : g5 ≠ g13 := by have := B5.lt; have := hg13.out; omega
        have ne7_13 : g7 ≠ g13 := by have := B7.lt; have := hg13.out; omega
        have ne9_13 : g9 ≠ g13 := by have := B9.lt; have := hg13.out; omega
        have ne11_13 : g11 ≠ g13 := by have := B11.lt; have := hg13.out; omega
        have hb17 := hb17.mono (Nat.le_of_eq hg13.out.symm)
        have B3 := B3.next hb17 B3.lt
        have B4 := B4.next hb17 B4.lt
        have B5 := B5.next hb17 B5.lt
        have B7 := B7.next hb17 B7.lt
        have B9 := B9.next hb17 B9.lt
        have B11 := B11.next hb17 B11.lt
        have hbe := below_join hbe hb17
        clear hb17 hg13 hs17
        go_wp2_with (with_reducible refine wpList_put (o := ⟨none, .store 23 (.tmp 13) (.tmp 64), _, _, _, _⟩) (by with_unfolding_all rfl) 23 (.tmp 13) (.tmp 64) (by with_unfolding_all rfl) g13 0 (by with_unfolding_all rfl) (.agg [Value.int .i64 Nm, Value.int .i64 Dm].toArray) (by with_unfolding_all rfl) B13 [Value.int .i64 Nm, Value.int .i64 Dm] (by with_unfolding_all rfl) (by with_unfolding_all (exact Tryd.szQ)) (by with_unfolding_all (exact Nat.le_refl 2)) (by with_unfolding_all (exact int_one _ _)) ?_)
        clear B13
        intro w18 hu18 B13
        rw [splice_all _ _ (by rfl)] at B13
        have hbe := hbe.trans (hu18.below (B := w.heap.size) hl13)
        have B3 := B3.upd hu18 (by first | exact ne3_13 | exact ne13_3.symm)
        have B4 := B4.upd hu18 (by first | exact ne4_13 | exact ne13_4.symm)
        have B5 := B5.upd hu18 (by first | exact ne5_13 | exact ne13_5.symm)
        have B7 := B7.upd hu18 (by first | exact ne7_13 | exact ne13_7.symm)
        have B9 := B9.upd hu18 (by first | exact ne9_13 | exact ne13_9.symm)
        have B11 := B11.upd hu18 (by first | exact ne11_13 | exact ne13_11.symm)
        clear hu18
        have w7_ : True := trivial
        go_upto_region 7 with fail
        go_cut [101] from 28 (fun s101 wx => s101 = .bool false ∧ Blk wx g3 23 [Value.int .i64 p.num, Value.int .i64 (p.den : Int)] ∧ Blk wx g4 23 [Value.int .i64 q.num, Value.int .i64 (q.den : Int)] ∧ Blk wx g5 23 [Value.int .i64 r.num, Value.int .i64 (r.den : Int)] ∧ Blk wx g7 23 [Value.int .i64 Ns, Value.int .i64 Ds] ∧ Blk wx g11 23 [Value.int .i64 Nm, Value.int .i64 Dm] ∧ Below w.heap.size w wx)
        case first =>
          have z70 := B7.cell (k := 0) rfl
          have z71 := B7.cell (k := 1) rfl
          have z90 := B9.cell (k := 0) rfl
          have z91 := B9.cell (k := 1) rfl
          have z110 := B11.cell (k := 0) rfl
          have z111 := B11.cell (k := 1) rfl
          have z130 := B13.cell (k := 0) rfl
          have z131 := B13.cell (k := 1) rfl
          rcases Gs.out with ⟨f1, rfl, rfl, rfl⟩ | ⟨f1, rfl⟩
          · skip
            have KC := Lib.hid (KC.out f1)
            go_wp2_with fail
            (with_reducible refine (KC.out _).mono ?_)
            rintro e w19 ⟨rfl, hb19⟩
            have B3 := B3.next hb19 B3.lt
            have B4 := B4.next hb19 B4.lt
            have B5 := B5.next hb19 B5.lt
            have B7 := B7.next hb19 B7.lt
            have B9 := B9.next hb19 B9.lt
            have B11 := B11.next hb19 B11.lt
            have B13 := B13.next hb19 B13.lt
            have hbe := below_join hbe hb19
            clear hb19
            clear z70 z71 z90 z91 z110 z111 z130 z131
            have z70 := B7.cell (k := 0) rfl
            have z71 := B7.cell (k := 1) rfl
            have z90 := B9.cell (k := 0) rfl
            have z91 := B9.cell (k := 1) rfl
            have z110 := B11.cell (k := 0) rfl
            have z111 := B11.cell (k := 1) rfl
            have z130 := B13.cell (k := 0) rfl
            have z131 := B13.cell (k := 1) rfl
            rcases Gm.out with ⟨f2, rfl, rfl, rfl⟩ | ⟨f2, rfl⟩
            · skip
              have KM := Lib.hid (KM.out f2)
              go_wp2_with fail
              (with_reducible refine (KM.out _).mono ?_)
              rintro e w20 ⟨rfl, hb20⟩
              have B3 := B3.next hb20 B3.lt
              have B4 := B4.next hb20 B4.lt
              have B5 := B5.next hb20 B5.lt
              have B7 := B7.next hb20 B7.lt
              have B9 := B9.next hb20 B9.lt
              have B11 := B11.next hb20 B11.lt
              have B13 := B13.next hb20 B13.lt
              have hbe := below_join hbe hb20
              clear hb20
              go_wp2
              go_meet
              exact ⟨rfl, B3, B4, B5, B7, B11, hbe⟩
            · skip
              go_wp2
              go_meet
              exact ⟨rfl, B3, B4, B5, B7, B11, hbe⟩
          · skip
            rcases Gm.out with ⟨f2, rfl, rfl, rfl⟩ | ⟨f2, rfl⟩
            · skip
              have KM := Lib.hid (KM.out f2)
              go_wp2_with fail
              (with_reducible refine (KM.out _).mono ?_)
              rintro e w19 ⟨rfl, hb19⟩
              have B3 := B3.next hb19 B3.lt
              have B4 := B4.next hb19 B4.lt
              have B5 := B5.next hb19 B5.lt
              have B7 := B7.next hb19 B7.lt
              have B9 := B9.next hb19 B9.lt
              have B11 := B11.next hb19 B11.lt
              have B13 := B13.next hb19 B13.lt
              have hbe := below_join hbe hb19
              clear hb19
              go_wp2
              go_meet
              exact ⟨rfl, B3, B4, B5, B7, B11, hbe⟩
            · skip
              go_wp2
              go_meet
              exact ⟨rfl, B3, B4, B5, B7, B11, hbe⟩
        case rest =>
          as_aux_lemma =>
            clear B3 B4 B5 B7 B9 B11 B13 hbe
            obtain ⟨rfl, B3, B4, B5, B7, B11, hbe⟩ := hcut
            -- @2
            go_upto_if 103 with fail
            go_cut [] from 28 (fun wx => Blk wx g3 23 [Value.int .i64 p.num, Value.int .i64 (p.den : Int)] ∧ Blk wx g4 23 [Value.int .i64 q.num, Value.int .i64 (q.den : Int)] ∧ Blk wx g5 23 [Value.int .i64 r.num, Value.int .i64 (r.den : Int)] ∧ Blk wx g11 23 [Value.int .i64 Nm, Value.int .i64 Dm] ∧ Below w.heap.size w wx)
            case first =>
              rcases Gs.out with ⟨f1, rfl, rfl, rfl⟩ | ⟨f1, rfl⟩
              · skip
                have KS := Lib.hid (KS.out f1)
                have z70 := B7.cell (k := 0) rfl
                have z71 := B7.cell (k := 1) rfl
                have z40 := B4.cell (k := 0) rfl
                have z41 := B4.cell (k := 1) rfl
                go_wp2_with fail
                (with_reducible refine (KS.out _).mono ?_)
                rintro e w19 ⟨rfl, hb19⟩
                have B3 := B3.next hb19 B3.lt
                have B4 := B4.next hb19 B4.lt
                have B5 := B5.next hb19 B5.lt
                have B7 := B7.next hb19 B7.lt
                have B11 := B11.next hb19 B11.lt
                have hbe := below_join hbe hb19
                clear hb19
                clear z70 z71 z40 z41
                go_wp2_with (with_reducible refine wpList_alloc (o := ⟨some 15, .alloc 23, _, _, _, _⟩) (by with_unfolding_all rfl) 23 (by with_unfolding_all rfl) (.agg zC.toArray) zC (by exact Tryd.zeroQ) (by with_unfolding_all rfl) ?_)
                intro g15 w20 hg15 hs20 hb20 B15
                have hl15 : w.heap.size ≤ g15 := Nat.le_trans hbe.size (Nat.le_of_eq hg15.out.symm)
                have ne3_15 : g3 ≠ g15 := by have := B3.lt; have := hg15.out; omega
                have ne4_15 : g4 ≠ g15 := by have := B4.lt; have := hg15.out; omega
                have ne5_15 : g5 ≠ g15 := by have := B5.lt; have := hg15.out; omega
                have ne7_15 : g7 ≠ g15 := by have := B7.lt; have := hg15.out; omega
                have ne11_15 : g11 ≠ g15 := by have := B11.lt; have := hg15.out; omega
                have hb20 := hb20.mono (Nat.le_of_eq hg15.out.symm)
                have B3 := B3.next hb20 B3.lt
                have B4 := B4.next hb20 B4.lt
                have B5 := B5.next hb20 B5.lt
                have B7 := B7.next hb20 B7.lt
                have B11 := B11.next hb20 B11.lt
                have hbe := below_join hbe hb20
                clear hb20 hg15 hs20
                go_wp2_with (with_reducible refine wpList_put (o := ⟨none, .store 23 (.tmp 15) (.tmp 108), _, _, _, _⟩) (by with_unfolding_all rfl) 23 (.tmp 15) (.tmp 108) (by with_unfolding_all rfl) g15 0 (by with_unfolding_all rfl) (.agg [Value.int .i64 p.num, Value.int .i64 (p.den : Int)].toArray) (by with_unfolding_all rfl) B15 [Value.int .i64 p.num, Value.int .i64 (p.den : Int)] (by with_unfolding_all rfl) (by with_unfolding_all (exact Tryd.szQ)) (by with_unfolding_all (exact Nat.le_refl 2)) (by with_unfolding_all (exact int_one _ _)) ?_)
                clear B15
                intro w21 hu21 B15
                rw [splice_all _ _ (by rfl)] at B15
                have hbe := hbe.trans (hu21.below (B := w.heap.size) hl15)
                have B3 := B3.upd hu21 (by first | exact ne3_15 | exact ne15_3.symm)
                have B4 := B4.upd hu21 (by first | exact ne4_15 | exact ne15_4.symm)
                have B5 := B5.upd hu21 (by first | exact ne5_15 | exact ne15_5.symm)
                have B7 := B7.upd hu21 (by first | exact ne7_15 | exact ne15_7.symm)
                have B11 := B11.upd hu21 (by first | exact ne11_15 | exact ne15_11.symm)
                clear hu21
                have z150 := B15.cell (k := 0) rfl
                have z151 := B15.cell (k := 1) rfl
                have z30 := B3.cell (k := 0) rfl
                have z31 := B3.cell (k := 1) rfl
                go_wp2
                go_meet
                exact ⟨B3, B4, B5, B11, hbe⟩
              · skip
                go_wp2
                go_meet
                exact ⟨B3, B4, B5, B11, hbe⟩
            case rest =>
              as_aux_lemma =>
                clear B3 B4 B5 B7 B11 hbe
                obtain ⟨B3, B4, B5, B11, hbe⟩ := hcut
                -- @3
                go_upto_region 13 with fail
                go_cut [123] from 28 (fun s123 wx => s123 = .bool Z ∧ Blk wx g3 23 [Value.int .i64 p.num, Value.int .i64 (p.den : Int)] ∧ Blk wx g4 23 [Value.int .i64 q.num, Value.int .i64 (q.den : Int)] ∧ Blk wx g5 23 [Value.int .i64 r.num, Value.int .i64 (r.den : Int)] ∧ Blk wx g11 23 [Value.int .i64 Nm, Value.int .i64 Dm] ∧ Below w.heap.size w wx)
                case first =>
                  have z40 := B4.cell (k := 0) rfl
                  have z41 := B4.cell (k := 1) rfl
                  rcases Gm.out with ⟨f1, rfl, rfl, rfl⟩ | ⟨f1, rfl⟩
                  · skip
                    by_cases h0 : q.num = 0
                    · skip
                      obtain rfl : Z = false := by
                        cases Z
                        · rfl
                        · exact absurd h0 (HZ.out.1 rfl).2
                      have h0b : (q.num != 0) = false := by rw [h0]; rfl
                      clear h0
                      go_wp2
                      go_meet
                      exact ⟨rfl, B3, B4, B5, B11, hbe⟩
                    · skip
                      obtain rfl : Z = true := HZ.out.2 ⟨rfl, h0⟩
                      have h0b : (q.num != 0) = true := bne_iff_ne.2 h0
                      clear h0
                      go_wp2
                      go_meet
                      exact ⟨rfl, B3, B4, B5, B11, hbe⟩
                  · skip
                    obtain rfl : Z = false := by
                      cases Z
                      · rfl
                      · exact absurd (HZ.out.1 rfl).1 (by decide)
                    go_wp2
                    go_meet
                    exact ⟨rfl, B3, B4, B5, B11, hbe⟩
                case rest =>
                  as_aux_lemma =>
                    clear B3 B4 B5 B11 hbe
                    obtain ⟨rfl, B3, B4, B5, B11, hbe⟩ := hcut
                    -- @4
                    go_upto_if 123 with fail
                    go_cut [] from 28 (fun wx => Blk wx g3 23 [Value.int .i64 p.num, Value.int .i64 (p.den : Int)] ∧ Blk wx g4 23 [Value.int .i64 q.num, Value.int .i64 (q.den : Int)] ∧ Blk wx g5 23 [Value.int .i64 r.num, Value.int .i64 (r.den : Int)] ∧ Below w.heap.size w wx)
                    case first =>
                      rcases Z with _ | _
                      · skip
                        go_wp2
                        go_meet
                        exact ⟨B3, B4, B5, hbe⟩
                      · skip
                        obtain ⟨hk, h0⟩ := HZ.out.1 (by first | rfl | trivial)
                        have hG := Gm.out
                        have h0q : q ≠ 0 := fun e => h0 (by rw [e]; rfl)
                        rcases hG with ⟨f1, rfl, rfl, rfl⟩ | ⟨f1, rfl⟩
                        · skip
                          have KV := Lib.hid (KV.out f1 h0q)
                          clear h0q h0 hk
                          have z110 := B11.cell (k := 0) rfl
                          have z111 := B11.cell (k := 1) rfl
                          have z40 := B4.cell (k := 0) rfl
                          have z41 := B4.cell (k := 1) rfl
                          go_wp2_with fail
                          (with_reducible refine (KV.out _).mono ?_)
                          rintro e w19 ⟨rfl, hb19⟩
                          have B3 := B3.next hb19 B3.lt
                          have B4 := B4.next hb19 B4.lt
                          have B5 := B5.next hb19 B5.lt
                          have B11 := B11.next hb19 B11.lt
                          have hbe := below_join hbe hb19
                          clear hb19
                          clear z110 z111 z40 z41
                          go_wp2_with (with_reducible refine wpList_alloc (o := ⟨some 17, .alloc 23, _, _, _, _⟩) (by with_unfolding_all rfl) 23 (by with_unfolding_all rfl) (.agg zC.toArray) zC (by exact Tryd.zeroQ) (by with_unfolding_all rfl) ?_)
                          intro g17 w20 hg17 hs20 hb20 B17
                          have hl17 : w.heap.size ≤ g17 := Nat.le_trans hbe.size (Nat.le_of_eq hg17.out.symm)
                          have ne3_17 : g3 ≠ g17 := by have := B3.lt; have := hg17.out; omega
                          have ne4_17 : g4 ≠ g17 := by have := B4.lt; have := hg17.out; omega
                          have ne5_17 : g5 ≠ g17 := by have := B5.lt; have := hg17.out; omega
                          have ne11_17 : g11 ≠ g17 := by have := B11.lt; have := hg17.out; omega
                          have hb20 := hb20.mono (Nat.le_of_eq hg17.out.symm)
                          have B3 := B3.next hb20 B3.lt
                          have B4 := B4.next hb20 B4.lt
                          have B5 := B5.next hb20 B5.lt
                          have B11 := B11.next hb20 B11.lt
                          have hbe := below_join hbe hb20
                          clear hb20 hg17 hs20
                          go_wp2_with (with_reducible refine wpList_put (o := ⟨none, .store 23 (.tmp 17) (.tmp 128), _, _, _, _⟩) (by with_unfolding_all rfl) 23 (.tmp 17) (.tmp 128) (by with_unfolding_all rfl) g17 0 (by with_unfolding_all rfl) (.agg [Value.int .i64 p.num, Value.int .i64 (p.den : Int)].toArray) (by with_unfolding_all rfl) B17 [Value.int .i64 p.num, Value.int .i64 (p.den : Int)] (by with_unfolding_all rfl) (by with_unfolding_all (exact Tryd.szQ)) (by with_unfolding_all (exact Nat.le_refl 2)) (by with_unfolding_all (exact int_one _ _)) ?_)
                          clear B17
                          intro w21 hu21 B17
                          rw [splice_all _ _ (by rfl)] at B17
                          have hbe := hbe.trans (hu21.below (B := w.heap.size) hl17)
                          have B3 := B3.upd hu21 (by first | exact ne3_17 | exact ne17_3.symm)
                          have B4 := B4.upd hu21 (by first | exact ne4_17 | exact ne17_4.symm)
                          have B5 := B5.upd hu21 (by first | exact ne5_17 | exact ne17_5.symm)
                          have B11 := B11.upd hu21 (by first | exact ne11_17 | exact ne17_11.symm)
                          clear hu21
                          have z170 := B17.cell (k := 0) rfl
                          have z171 := B17.cell (k := 1) rfl
                          have z30 := B3.cell (k := 0) rfl
                          have z31 := B3.cell (k := 1) rfl
                          go_wp2
                          go_meet
                          exact ⟨B3, B4, B5, hbe⟩
                        · cases hk
                    case rest =>
                      as_aux_lemma =>
                        clear B3 B4 B5 B11 hbe
                        obtain ⟨B3, B4, B5, hbe⟩ := hcut
                        -- @5
                        have z30 := B3.cell (k := 0) rfl
                        have z31 := B3.cell (k := 1) rfl
                        have z40 := B4.cell (k := 0) rfl
                        have z41 := B4.cell (k := 1) rfl
                        have z50 := B5.cell (k := 0) rfl
                        have z51 := B5.cell (k := 1) rfl
                        go_wp2_with fail
                        (with_reducible refine (Xa.out _).mono ?_)
                        rintro e w19 ⟨rfl, hb19⟩
                        have B3 := B3.next hb19 B3.lt
                        have B4 := B4.next hb19 B4.lt
                        have B5 := B5.next hb19 B5.lt
                        have hbe := below_join hbe hb19
                        clear hb19
                        clear z30 z31 z40 z41 z50 z51
                        go_wp2_with (with_reducible refine wpList_alloc (o := ⟨some 19, .alloc 23, _, _, _, _⟩) (by with_unfolding_all rfl) 23 (by with_unfolding_all rfl) (.agg zC.toArray) zC (by exact Tryd.zeroQ) (by with_unfolding_all rfl) ?_)
                        intro g19 w20 hg19 hs20 hb20 B19
                        have hl19 : w.heap.size ≤ g19 := Nat.le_trans hbe.size (Nat.le_of_eq hg19.out.symm)
                        have ne3_19 : g3 ≠ g19 := by have := B3.lt; have := hg19.out; omega
                        have ne4_19 : g4 ≠ g19 := by have := B4.lt; have := hg19.out; omega
                        have ne5_19 : g5 ≠ g19 := by have := B5.lt; have := hg19.out; omega
                        have hb20 := hb20.mono (Nat.le_of_eq hg19.out.symm)
                        have B3 := B3.next hb20 B3.lt
                        have B4 := B4.next hb20 B4.lt
                        have B5 := B5.next hb20 B5.lt
                        have hbe := below_join hbe hb20
                        clear hb20 hg19 hs20
                        go_wp2_with (with_reducible refine wpList_put (o := ⟨none, .store 23 (.tmp 19) (.tmp 142), _, _, _, _⟩) (by with_unfolding_all rfl) 23 (.tmp 19) (.tmp 142) (by with_unfolding_all rfl) g19 0 (by with_unfolding_all rfl) (.agg [Value.int .i64 Na, Value.int .i64 Da].toArray) (by with_unfolding_all rfl) B19 [Value.int .i64 Na, Value.int .i64 Da] (by with_unfolding_all rfl) (by with_unfolding_all (exact Tryd.szQ)) (by with_unfolding_all (exact Nat.le_refl 2)) (by with_unfolding_all (exact int_one _ _)) ?_)
                        clear B19
                        intro w21 hu21 B19
                        rw [splice_all _ _ (by rfl)] at B19
                        have hbe := hbe.trans (hu21.below (B := w.heap.size) hl19)
                        have B3 := B3.upd hu21 (by first | exact ne3_19 | exact ne19_3.symm)
                        have B4 := B4.upd hu21 (by first | exact ne4_19 | exact ne19_4.symm)
                        have B5 := B5.upd hu21 (by first | exact ne5_19 | exact ne19_5.symm)
                        clear hu21
                        have z30 := B3.cell (k := 0) rfl
                        have z31 := B3.cell (k := 1) rfl
                        have z40 := B4.cell (k := 0) rfl
                        have z41 := B4.cell (k := 1) rfl
                        have z50 := B5.cell (k := 0) rfl
                        have z51 := B5.cell (k := 1) rfl
                        go_wp2_with fail
                        (with_reducible refine (Xb.out _).mono ?_)
                        rintro e w22 ⟨rfl, hb22⟩
                        have B3 := B3.next hb22 B3.lt
                        have B4 := B4.next hb22 B4.lt
                        have B5 := B5.next hb22 B5.lt
                        have B19 := B19.next hb22 B19.lt
                        have hbe := below_join hbe hb22
                        clear hb22
                        clear z30 z31 z40 z41 z50 z51
                        go_wp2_with (with_reducible refine wpList_alloc (o := ⟨some 21, .alloc 23, _, _, _, _⟩) (by with_unfolding_all rfl) 23 (by with_unfolding_all rfl) (.agg zC.toArray) zC (by exact Tryd.zeroQ) (by with_unfolding_all rfl) ?_)
                        intro g21 w23 hg21 hs23 hb23 B21
                        have hl21 : w.heap.size ≤ g21 := Nat.le_trans hbe.size (Nat.le_of_eq hg21.out.symm)
                        have ne3_21 : g3 ≠ g21 := by have := B3.lt; have := hg21.out; omega
                        have ne4_21 : g4 ≠ g21 := by have := B4.lt; have := hg21.out; omega
                        have ne5_21 : g5 ≠ g21 := by have := B5.lt; have := hg21.out; omega
                        have ne19_21 : g19 ≠ g21 := by have := B19.lt; have := hg21.out; omega
                        have hb23 := hb23.mono (Nat.le_of_eq hg21.out.symm)
                        have B3 := B3.next hb23 B3.lt
                        have B4 := B4.next hb23 B4.lt
                        have B5 := B5.next hb23 B5.lt
                        have B19 := B19.next hb23 B19.lt
                        have hbe := below_join hbe hb23
                        clear hb23 hg21 hs23
                        go_wp2_with (with_reducible refine wpList_put (o := ⟨none, .store 23 (.tmp 21) (.tmp 149), _, _, _, _⟩) (by with_unfolding_all rfl) 23 (.tmp 21) (.tmp 149) (by with_unfolding_all rfl) g21 0 (by with_unfolding_all rfl) (.agg [Value.int .i64 Nb, Value.int .i64 Db].toArray) (by with_unfolding_all rfl) B21 [Value.int .i64 Nb, Value.int .i64 Db] (by with_unfolding_all rfl) (by with_unfolding_all (exact Tryd.szQ)) (by with_unfolding_all (exact Nat.le_refl 2)) (by with_unfolding_all (exact int_one _ _)) ?_)
                        clear B21
                        intro w24 hu24 B21
                        rw [splice_all _ _ (by rfl)] at B21
                        have hbe := hbe.trans (hu24.below (B := w.heap.size) hl21)
                        have B3 := B3.upd hu24 (by first | exact ne3_21 | exact ne21_3.symm)
                        have B4 := B4.upd hu24 (by first | exact ne4_21 | exact ne21_4.symm)
                        have B5 := B5.upd hu24 (by first | exact ne5_21 | exact ne21_5.symm)
                        have B19 := B19.upd hu24 (by first | exact ne19_21 | exact ne21_19.symm)
                        clear hu24
                        go_upto_region 19 with fail
                        go_cut [159] from 28 (fun s159 wx => s159 = .bool false ∧ Blk wx g3 23 [Value.int .i64 p.num, Value.int .i64 (p.den : Int)] ∧ Blk wx g4 23 [Value.int .i64 q.num, Value.int .i64 (q.den : Int)] ∧ Blk wx g5 23 [Value.int .i64 r.num, Value.int .i64 (r.den : Int)] ∧ Blk wx g19 23 [Value.int .i64 Na, Value.int .i64 Da] ∧ Blk wx g21 23 [Value.int .i64 Nb, Value.int .i64 Db] ∧ Below w.heap.size w wx)
                        case first =>
                          have z190 := B19.cell (k := 0) rfl
                          have z191 := B19.cell (k := 1) rfl
                          have z210 := B21.cell (k := 0) rfl
                          have z211 := B21.cell (k := 1) rfl
                          rcases oa with _ | _
                          · skip
                            go_wp2
                            go_meet
                            exact ⟨rfl, B3, B4, B5, B19, B21, hbe⟩
                          · skip
                            rcases ob with _ | _
                            · skip
                              go_wp2
                              go_meet
                              exact ⟨rfl, B3, B4, B5, B19, B21, hbe⟩
                            · skip
                              obtain ⟨_, _, rfl, rfl⟩ := Ga.out (by first | rfl | trivial)
                              obtain ⟨_, _, e1, e2⟩ := Gb.out (by first | rfl | trivial)
                              rw [HAB.out] at e1 e2
                              subst e1 e2
                              go_wp2
                              go_meet
                              exact ⟨rfl, B3, B4, B5, B19, B21, hbe⟩
                        case rest =>
                          as_aux_lemma =>
                            clear B3 B4 B5 B19 B21 hbe
                            obtain ⟨rfl, B3, B4, B5, B19, B21, hbe⟩ := hcut
                            -- @6
                            have z30 := B3.cell (k := 0) rfl
                            have z31 := B3.cell (k := 1) rfl
                            have z40 := B4.cell (k := 0) rfl
                            have z41 := B4.cell (k := 1) rfl
                            have z50 := B5.cell (k := 0) rfl
                            have z51 := B5.cell (k := 1) rfl
                            go_wp2_with fail
                            (with_reducible refine (Xc.out _).mono ?_)
                            rintro e w25 ⟨rfl, hb25⟩
                            have B3 := B3.next hb25 B3.lt
                            have B4 := B4.next hb25 B4.lt
                            have B5 := B5.next hb25 B5.lt
                            have B19 := B19.next hb25 B19.lt
                            have B21 := B21.next hb25 B21.lt
                            have hbe := below_join hbe hb25
                            clear hb25
                            clear z30 z31 z40 z41 z50 z51
                            go_wp2_with (with_reducible refine wpList_put (o := ⟨none, .store 23 (.tmp 19) (.tmp 165), _, _, _, _⟩) (by with_unfolding_all rfl) 23 (.tmp 19) (.tmp 165) (by with_unfolding_all rfl) g19 0 (by with_unfolding_all rfl) (.agg [Value.int .i64 Nc, Value.int .i64 Dc].toArray) (by with_unfolding_all rfl) B19 [Value.int .i64 Nc, Value.int .i64 Dc] (by with_unfolding_all rfl) (by with_unfolding_all (exact Tryd.szQ)) (by with_unfolding_all (exact Nat.le_refl 2)) (by with_unfolding_all (exact int_one _ _)) ?_)
                            clear B19
                            intro w26 hu26 B19
                            rw [splice_all _ _ (by rfl)] at B19
                            have hbe := hbe.trans (hu26.below (B := w.heap.size) hl19)
                            have B3 := B3.upd hu26 (by first | exact ne3_19 | exact ne19_3.symm)
                            have B4 := B4.upd hu26 (by first | exact ne4_19 | exact ne19_4.symm)
                            have B5 := B5.upd hu26 (by first | exact ne5_19 | exact ne19_5.symm)
                            have B21 := B21.upd hu26 (by first | exact ne21_19 | exact ne19_21.symm)
                            clear hu26
                            have z30 := B3.cell (k := 0) rfl
                            have z31 := B3.cell (k := 1) rfl
                            have z40 := B4.cell (k := 0) rfl
                            have z41 := B4.cell (k := 1) rfl
                            have z50 := B5.cell (k := 0) rfl
                            have z51 := B5.cell (k := 1) rfl
                            go_wp2_with fail
                            (with_reducible refine (Xd.out _).mono ?_)
                            rintro e w27 ⟨rfl, hb27⟩
                            have B3 := B3.next hb27 B3.lt
                            have B4 := B4.next hb27 B4.lt
                            have B5 := B5.next hb27 B5.lt
                            have B19 := B19.next hb27 B19.lt
                            have B21 := B21.next hb27 B21.lt
                            have hbe := below_join hbe hb27
                            clear hb27
                            clear z30 z31 z40 z41 z50 z51
                            go_wp2_with (with_reducible refine wpList_put (o := ⟨none, .store 23 (.tmp 21) (.tmp 172), _, _, _, _⟩) (by with_unfolding_all rfl) 23 (.tmp 21) (.tmp 172) (by with_unfolding_all rfl) g21 0 (by with_unfolding_all rfl) (.agg [Value.int .i64 Nd, Value.int .i64 Dd].toArray) (by with_unfolding_all rfl) B21 [Value.int .i64 Nd, Value.int .i64 Dd] (by with_unfolding_all rfl) (by with_unfolding_all (exact Tryd.szQ)) (by with_unfolding_all (exact Nat.le_refl 2)) (by with_unfolding_all (exact int_one _ _)) ?_)
                            clear B21
                            intro w28 hu28 B21
                            rw [splice_all _ _ (by rfl)] at B21
                            have hbe := hbe.trans (hu28.below (B := w.heap.size) hl21)
                            have B3 := B3.upd hu28 (by first | exact ne3_21 | exact ne21_3.symm)
                            have B4 := B4.upd hu28 (by first | exact ne4_21 | exact ne21_4.symm)
                            have B5 := B5.upd hu28 (by first | exact ne5_21 | exact ne21_5.symm)
                            have B19 := B19.upd hu28 (by first | exact ne19_21 | exact ne21_19.symm)
                            clear hu28
                            go_upto_region 23 with fail
                            go_cut [182] from 28 (fun s182 wx => s182 = .bool false ∧ Blk wx g3 23 [Value.int .i64 p.num, Value.int .i64 (p.den : Int)] ∧ Blk wx g4 23 [Value.int .i64 q.num, Value.int .i64 (q.den : Int)] ∧ Blk wx g5 23 [Value.int .i64 r.num, Value.int .i64 (r.den : Int)] ∧ Blk wx g19 23 [Value.int .i64 Nc, Value.int .i64 Dc] ∧ Blk wx g21 23 [Value.int .i64 Nd, Value.int .i64 Dd] ∧ Below w.heap.size w wx)
                            case first =>
                              have z190 := B19.cell (k := 0) rfl
                              have z191 := B19.cell (k := 1) rfl
                              have z210 := B21.cell (k := 0) rfl
                              have z211 := B21.cell (k := 1) rfl
                              rcases oc with _ | _
                              · skip
                                go_wp2
                                go_meet
                                exact ⟨rfl, B3, B4, B5, B19, B21, hbe⟩
                              · skip
                                rcases od with _ | _
                                · skip
                                  go_wp2
                                  go_meet
                                  exact ⟨rfl, B3, B4, B5, B19, B21, hbe⟩
                                · skip
                                  obtain ⟨_, _, rfl, rfl⟩ := Gc.out (by first | rfl | trivial)
                                  obtain ⟨_, _, e1, e2⟩ := Gd.out (by first | rfl | trivial)
                                  rw [HCD.out] at e1 e2
                                  subst e1 e2
                                  go_wp2
                                  go_meet
                                  exact ⟨rfl, B3, B4, B5, B19, B21, hbe⟩
                            case rest =>
                              as_aux_lemma =>
                                clear B3 B4 B5 B19 B21 hbe
                                obtain ⟨rfl, B3, B4, B5, B19, B21, hbe⟩ := hcut
                                -- @7
                                have z30 := B3.cell (k := 0) rfl
                                have z31 := B3.cell (k := 1) rfl
                                have z40 := B4.cell (k := 0) rfl
                                have z41 := B4.cell (k := 1) rfl
                                have z50 := B5.cell (k := 0) rfl
                                have z51 := B5.cell (k := 1) rfl
                                go_wp2_with fail
                                (with_reducible refine (Xe.out _).mono ?_)
                                rintro e w29 ⟨rfl, hb29⟩
                                have B3 := B3.next hb29 B3.lt
                                have B4 := B4.next hb29 B4.lt
                                have B5 := B5.next hb29 B5.lt
                                have B19 := B19.next hb29 B19.lt
                                have B21 := B21.next hb29 B21.lt
                                have hbe := below_join hbe hb29
                                clear hb29
                                clear z30 z31 z40 z41 z50 z51
                                go_wp2_with (with_reducible refine wpList_put (o := ⟨none, .store 23 (.tmp 19) (.tmp 188), _, _, _, _⟩) (by with_unfolding_all rfl) 23 (.tmp 19) (.tmp 188) (by with_unfolding_all rfl) g19 0 (by with_unfolding_all rfl) (.agg [Value.int .i64 Ne, Value.int .i64 De].toArray) (by with_unfolding_all rfl) B19 [Value.int .i64 Ne, Value.int .i64 De] (by with_unfolding_all rfl) (by with_unfolding_all (exact Tryd.szQ)) (by with_unfolding_all (exact Nat.le_refl 2)) (by with_unfolding_all (exact int_one _ _)) ?_)
                                clear B19
                                intro w30 hu30 B19
                                rw [splice_all _ _ (by rfl)] at B19
                                have hbe := hbe.trans (hu30.below (B := w.heap.size) hl19)
                                have B3 := B3.upd hu30 (by first | exact ne3_19 | exact ne19_3.symm)
                                have B4 := B4.upd hu30 (by first | exact ne4_19 | exact ne19_4.symm)
                                have B5 := B5.upd hu30 (by first | exact ne5_19 | exact ne19_5.symm)
                                have B21 := B21.upd hu30 (by first | exact ne21_19 | exact ne19_21.symm)
                                clear hu30
                                have z30 := B3.cell (k := 0) rfl
                                have z31 := B3.cell (k := 1) rfl
                                have z50 := B5.cell (k := 0) rfl
                                have z51 := B5.cell (k := 1) rfl
                                go_wp2_with fail
                                (with_reducible refine (Xu0.out _).mono ?_)
                                rintro e w31 ⟨rfl, hb31⟩
                                have B3 := B3.next hb31 B3.lt
                                have B4 := B4.next hb31 B4.lt
                                have B5 := B5.next hb31 B5.lt
                                have B19 := B19.next hb31 B19.lt
                                have B21 := B21.next hb31 B21.lt
                                have hbe := below_join hbe hb31
                                clear hb31
                                clear z30 z31 z50 z51
                                go_wp2_with (with_reducible refine wpList_alloc (o := ⟨some 23, .alloc 23, _, _, _, _⟩) (by with_unfolding_all rfl) 23 (by with_unfolding_all rfl) (.agg zC.toArray) zC (by exact Tryd.zeroQ) (by with_unfolding_all rfl) ?_)
                                intro g23 w32 hg23 hs32 hb32 B23
                                have hl23 : w.heap.size ≤ g23 := Nat.le_trans hbe.size (Nat.le_of_eq hg23.out.symm)
                                have ne3_23 : g3 ≠ g23 := by have := B3.lt; have := hg23.out; omega
                                have ne4_23 : g4 ≠ g23 := by have := B4.lt; have := hg23.out; omega
                                have ne5_23 : g5 ≠ g23 := by have := B5.lt; have := hg23.out; omega
                                have ne19_23 : g19 ≠ g23 := by have := B19.lt; have := hg23.out; omega
                                have ne21_23 : g21 ≠ g23 := by have := B21.lt; have := hg23.out; omega
                                have hb32 := hb32.mono (Nat.le_of_eq hg23.out.symm)
                                have B3 := B3.next hb32 B3.lt
                                have B4 := B4.next hb32 B4.lt
                                have B5 := B5.next hb32 B5.lt
                                have B19 := B19.next hb32 B19.lt
                                have B21 := B21.next hb32 B21.lt
                                have hbe := below_join hbe hb32
                                clear hb32 hg23 hs32
                                go_wp2_with (with_reducible refine wpList_put (o := ⟨none, .store 23 (.tmp 23) (.tmp 194), _, _, _, _⟩) (by with_unfolding_all rfl) 23 (.tmp 23) (.tmp 194) (by with_unfolding_all rfl) g23 0 (by with_unfolding_all rfl) (.agg [Value.int .i64 Nu, Value.int .i64 Du].toArray) (by with_unfolding_all rfl) B23 [Value.int .i64 Nu, Value.int .i64 Du] (by with_unfolding_all rfl) (by with_unfolding_all (exact Tryd.szQ)) (by with_unfolding_all (exact Nat.le_refl 2)) (by with_unfolding_all (exact int_one _ _)) ?_)
                                clear B23
                                intro w33 hu33 B23
                                rw [splice_all _ _ (by rfl)] at B23
                                have hbe := hbe.trans (hu33.below (B := w.heap.size) hl23)
                                have B3 := B3.upd hu33 (by first | exact ne3_23 | exact ne23_3.symm)
                                have B4 := B4.upd hu33 (by first | exact ne4_23 | exact ne23_4.symm)
                                have B5 := B5.upd hu33 (by first | exact ne5_23 | exact ne23_5.symm)
                                have B19 := B19.upd hu33 (by first | exact ne19_23 | exact ne23_19.symm)
                                have B21 := B21.upd hu33 (by first | exact ne21_23 | exact ne23_21.symm)
                                clear hu33
                                have z40 := B4.cell (k := 0) rfl
                                have z41 := B4.cell (k := 1) rfl
                                have z50 := B5.cell (k := 0) rfl
                                have z51 := B5.cell (k := 1) rfl
                                go_wp2_with fail
                                (with_reducible refine (Xv0.out _).mono ?_)
                                rintro e w34 ⟨rfl, hb34⟩
                                have B3 := B3.next hb34 B3.lt
                                have B4 := B4.next hb34 B4.lt
                                have B5 := B5.next hb34 B5.lt
                                have B19 := B19.next hb34 B19.lt
                                have B21 := B21.next hb34 B21.lt
                                have B23 := B23.next hb34 B23.lt
                                have hbe := below_join hbe hb34
                                clear hb34
                                clear z40 z41 z50 z51
                                go_wp2_with (with_reducible refine wpList_alloc (o := ⟨some 25, .alloc 23, _, _, _, _⟩) (by with_unfolding_all rfl) 23 (by with_unfolding_all rfl) (.agg zC.toArray) zC (by exact Tryd.zeroQ) (by with_unfolding_all rfl) ?_)
                                intro g25 w35 hg25 hs35 hb35 B25
                                have hl25 : w.heap.size ≤ g25 := Nat.le_trans hbe.size (Nat.le_of_eq hg25.out.symm)
                                have ne3_25 : g3 ≠ g25 := by have := B3.lt; have := hg25.out; omega
                                have ne4_25 : g4 ≠ g25 := by have := B4.lt; have := hg25.out; omega
                                have ne5_25 : g5 ≠ g25 := by have := B5.lt; have := hg25.out; omega
                                have ne19_25 : g19 ≠ g25 := by have := B19.lt; have := hg25.out; omega
                                have ne21_25 : g21 ≠ g25 := by have := B21.lt; have := hg25.out; omega
                                have ne23_25 : g23 ≠ g25 := by have := B23.lt; have := hg25.out; omega
                                have hb35 := hb35.mono (Nat.le_of_eq hg25.out.symm)
                                have B3 := B3.next hb35 B3.lt
                                have B4 := B4.next hb35 B4.lt
                                have B5 := B5.next hb35 B5.lt
                                have B19 := B19.next hb35 B19.lt
                                have B21 := B21.next hb35 B21.lt
                                have B23 := B23.next hb35 B23.lt
                                have hbe := below_join hbe hb35
                                clear hb35 hg25 hs35
                                go_wp2_with (with_reducible refine wpList_put (o := ⟨none, .store 23 (.tmp 25) (.tmp 200), _, _, _, _⟩) (by with_unfolding_all rfl) 23 (.tmp 25) (.tmp 200) (by with_unfolding_all rfl) g25 0 (by with_unfolding_all rfl) (.agg [Value.int .i64 Nv, Value.int .i64 Dv].toArray) (by with_unfolding_all rfl) B25 [Value.int .i64 Nv, Value.int .i64 Dv] (by with_unfolding_all rfl) (by with_unfolding_all (exact Tryd.szQ)) (by with_unfolding_all (exact Nat.le_refl 2)) (by with_unfolding_all (exact int_one _ _)) ?_)
                                clear B25
                                intro w36 hu36 B25
                                rw [splice_all _ _ (by rfl)] at B25
                                have hbe := hbe.trans (hu36.below (B := w.heap.size) hl25)
                                have B3 := B3.upd hu36 (by first | exact ne3_25 | exact ne25_3.symm)
                                have B4 := B4.upd hu36 (by first | exact ne4_25 | exact ne25_4.symm)
                                have B5 := B5.upd hu36 (by first | exact ne5_25 | exact ne25_5.symm)
                                have B19 := B19.upd hu36 (by first | exact ne19_25 | exact ne25_19.symm)
                                have B21 := B21.upd hu36 (by first | exact ne21_25 | exact ne25_21.symm)
                                have B23 := B23.upd hu36 (by first | exact ne23_25 | exact ne25_23.symm)
                                clear hu36
                                rcases oe with _ | _
                                · skip
                                  go_wp2_with fail
                                  (with_reducible refine (sanity_any _ (HQ.out.next hbe)).mono ?_)
                                  rintro e w37 ⟨rfl, hb37⟩
                                  have B3 := B3.next hb37 B3.lt
                                  have B4 := B4.next hb37 B4.lt
                                  have B5 := B5.next hb37 B5.lt
                                  have B19 := B19.next hb37 B19.lt
                                  have B21 := B21.next hb37 B21.lt
                                  have B23 := B23.next hb37 B23.lt
                                  have B25 := B25.next hb37 B25.lt
                                  have hbe := below_join hbe hb37
                                  clear hb37
                                  go_wp2
                                  go_ret
                                  exact ⟨rfl, hbe⟩
                                · skip
                                  obtain ⟨_, f3, rfl, rfl⟩ := Ge.out (by first | rfl | trivial)
                                  rcases Gu.out with ⟨f1, rfl, rfl, rfl⟩ | ⟨f1, rfl⟩
                                  · skip
                                    rcases Gv.out with ⟨f2, rfl, rfl, rfl⟩ | ⟨f2, rfl⟩
                                    · skip
                                      have KA := Lib.hid (KA.out f1 f2 f3)
                                      have z230 := B23.cell (k := 0) rfl
                                      have z231 := B23.cell (k := 1) rfl
                                      have z250 := B25.cell (k := 0) rfl
                                      have z251 := B25.cell (k := 1) rfl
                                      go_wp2_with fail
                                      (with_reducible refine (KA.out _).mono ?_)
                                      rintro e w37 ⟨rfl, hb37⟩
                                      have B3 := B3.next hb37 B3.lt
                                      have B4 := B4.next hb37 B4.lt
                                      have B5 := B5.next hb37 B5.lt
                                      have B19 := B19.next hb37 B19.lt
                                      have B21 := B21.next hb37 B21.lt
                                      have B23 := B23.next hb37 B23.lt
                                      have B25 := B25.next hb37 B25.lt
                                      have hbe := below_join hbe hb37
                                      clear hb37
                                      clear z230 z231 z250 z251
                                      go_wp2_with (with_reducible refine wpList_put (o := ⟨none, .store 23 (.tmp 21) (.tmp 217), _, _, _, _⟩) (by with_unfolding_all rfl) 23 (.tmp 21) (.tmp 217) (by with_unfolding_all rfl) g21 0 (by with_unfolding_all rfl) (.agg [Value.int .i64 ((p + q) * r).num, Value.int .i64 (((p + q) * r).den : Int)].toArray) (by with_unfolding_all rfl) B21 [Value.int .i64 ((p + q) * r).num, Value.int .i64 (((p + q) * r).den : Int)] (by with_unfolding_all rfl) (by with_unfolding_all (exact Tryd.szQ)) (by with_unfolding_all (exact Nat.le_refl 2)) (by with_unfolding_all (exact int_one _ _)) ?_)
                                      clear B21
                                      intro w38 hu38 B21
                                      rw [splice_all _ _ (by rfl)] at B21
                                      have hbe := hbe.trans (hu38.below (B := w.heap.size) hl21)
                                      have B3 := B3.upd hu38 (by first | exact ne3_21 | exact ne21_3.symm)
                                      have B4 := B4.upd hu38 (by first | exact ne4_21 | exact ne21_4.symm)
                                      have B5 := B5.upd hu38 (by first | exact ne5_21 | exact ne21_5.symm)
                                      have B19 := B19.upd hu38 (by first | exact ne19_21 | exact ne21_19.symm)
                                      have B23 := B23.upd hu38 (by first | exact ne23_21 | exact ne21_23.symm)
                                      have B25 := B25.upd hu38 (by first | exact ne25_21 | exact ne21_25.symm)
                                      clear hu38
                                      go_wp2_with fail
                                      (with_reducible refine (sanity_any _ (HQ.out.next hbe)).mono ?_)
                                      rintro e w39 ⟨rfl, hb39⟩
                                      have B3 := B3.next hb39 B3.lt
                                      have B4 := B4.next hb39 B4.lt
                                      have B5 := B5.next hb39 B5.lt
                                      have B19 := B19.next hb39 B19.lt
                                      have B21 := B21.next hb39 B21.lt
                                      have B23 := B23.next hb39 B23.lt
                                      have B25 := B25.next hb39 B25.lt
                                      have hbe := below_join hbe hb39
                                      clear hb39
                                      have z190 := B19.cell (k := 0) rfl
                                      have z191 := B19.cell (k := 1) rfl
                                      have z210 := B21.cell (k := 0) rfl
                                      have z211 := B21.cell (k := 1) rfl
                                      go_wp2
                                      go_ret
                                      exact ⟨rfl, hbe⟩
                                    · skip
                                      go_wp2_with fail
                                      (with_reducible refine (sanity_any _ (HQ.out.next hbe)).mono ?_)
                                      rintro e w37 ⟨rfl, hb37⟩
                                      have B3 := B3.next hb37 B3.lt
                                      have B4 := B4.next hb37 B4.lt
                                      have B5 := B5.next hb37 B5.lt
                                      have B19 := B19.next hb37 B19.lt
                                      have B21 := B21.next hb37 B21.lt
                                      have B23 := B23.next hb37 B23.lt
                                      have B25 := B25.next hb37 B25.lt
                                      have hbe := below_join hbe hb37
                                      clear hb37
                                      go_wp2
                                      go_ret
                                      exact ⟨rfl, hbe⟩
                                  · skip
                                    go_wp2_with fail
                                    (with_reducible refine (sanity_any _ (HQ.out.next hbe)).mono ?_)
                                    rintro e w37 ⟨rfl, hb37⟩
                                    have B3 := B3.next hb37 B3.lt
                                    have B4 := B4.next hb37 B4.lt
                                    have B5 := B5.next hb37 B5.lt
                                    have B19 := B19.next hb37 B19.lt
                                    have B21 := B21.next hb37 B21.lt
                                    have B23 := B23.next hb37 B23.lt
                                    have B25 := B25.next hb37 B25.lt
                                    have hbe := below_join hbe hb37
                                    clear hb37
                                    go_wp2
                                    go_ret
                                    exact ⟨rfl, hbe⟩
end Go.Proofs.YthjaelopmfjfeaaDoor
