/-
  The walk of RatioIsOrdered. Conditions: the library's variables lie there.
-/
import Derived.Test.YthjaelopmfjfeaaDoorYf
import Derived.Test.YthjaelopmfjfeaaDoorVf
import Derived.Deep.Cut
namespace Go.Proofs.YthjaelopmfjfeaaDoor
set_option linter.unusedVariables false
set_option linter.unusedSimpArgs false
open Go.RowKit Go.Shelf
set_option linter.unusedVariables false

theorem cmpQ_swap (p q : Rat) : cmpQ q p = -cmpQ p q := by unfold cmpQ; grind
theorem cmpQ_zero (p q : Rat) : cmpQ p q = 0 ↔ p = q := by unfold cmpQ; grind
theorem cmpQ_le (p q : Rat) : cmpQ p q ≤ 0 ↔ p ≤ q := by unfold cmpQ; grind
theorem cmpQ_gt (p q : Rat) : 0 < cmpQ p q ↔ q < p := by unfold cmpQ; grind
theorem cmpQ_bound (p q : Rat) : -1 ≤ cmpQ p q ∧ cmpQ p q ≤ 1 := by unfold cmpQ; grind
theorem cmpQ_sub (p q : Rat) : cmpQ (p - q) 0 = cmpQ p q := by unfold cmpQ; grind
theorem cmpQ_add (p q r : Rat) : cmpQ (p + r) (q + r) = cmpQ p q := by unfold cmpQ; grind
theorem mul_pos_lt {p q r : Rat} (h : p < q) (hr : 0 < r) : p * r < q * r := Rat.mul_lt_mul_of_pos_right h hr
theorem mul_neg_lt {p q r : Rat} (h : p < q) (hr : r < 0) : q * r < p * r := by
  have := mul_pos_lt h (show (0 : Rat) < -r by grind)
  grind
theorem cmpQ_mul (p q r : Rat) : cmpQ (p * r) (q * r) = cmpQ p q * cmpQ r 0 := by
  have key : ∀ {x y : Rat}, x < y → cmpQ (x * r) (y * r) = -cmpQ r 0 := fun {x y} h => by
    unfold cmpQ
    by_cases h1 : 0 < r
    · have := mul_pos_lt h h1; grind
    · by_cases h2 : r < 0
      · have := mul_neg_lt h h2; grind
      · obtain rfl : r = 0 := by grind
        grind
  by_cases h : p < q
  · rw [key h]; have : cmpQ p q = -1 := by unfold cmpQ; rw [if_pos h]
    rw [this]; omega
  · by_cases h2 : q < p
    · rw [cmpQ_swap (q * r) (p * r), key h2]; have : cmpQ p q = 1 := by unfold cmpQ; rw [if_neg h, if_pos h2]
      rw [this]; omega
    · obtain rfl : p = q := by grind
      have : ∀ x : Rat, cmpQ x x = 0 := fun x => by unfold cmpQ; grind
      rw [this, this]; omega
theorem floor_ceil (p : Rat) : p.floor ≤ p.ceil ∧ p.ceil - p.floor ≤ 1 ∧ (p.floor = p.ceil ↔ p.den = 1) ∧ p.floor * p.den ≤ p.num ∧ p.num ≤ p.ceil * p.den := by
  have hd := p.den_pos
  have hr := p.reduced
  rw [Rat.ceil_eq_neg_floor_neg, Rat.floor_def, Rat.floor_def]
  rw [Rat.neg_num, Rat.neg_den]
  obtain ⟨d, hdd⟩ : ∃ d, (p.den : Int) = d := ⟨_, rfl⟩
  have hd1 : 1 ≤ d := by omega
  have hone : p.den = 1 ↔ d = 1 := by omega
  have hg : Int.gcd p.num d = 1 := by
    rw [← hdd]; unfold Int.gcd; rw [Int.natAbs_natCast]; exact hr
  obtain ⟨n, hn⟩ : ∃ n, p.num = n := ⟨_, rfl⟩
  rw [hone, hdd, hn]
  rw [hn] at hg
  have h1 := Int.mul_ediv_add_emod n d
  have h2 := Int.emod_nonneg n (b := d) (by omega)
  have h3 := Int.emod_lt_of_pos n (b := d) (by omega)
  have k1 := Int.mul_ediv_add_emod (-n) d
  have k2 := Int.emod_nonneg (-n) (b := d) (by omega)
  have k3 := Int.emod_lt_of_pos (-n) (b := d) (by omega)
  have hdv : d = 1 ↔ n % d = 0 := by
    refine ⟨fun e => by rw [e]; omega, fun e => ?_⟩
    have h5 : d ∣ n := Int.dvd_of_emod_eq_zero e
    have h6 : d ∣ (Int.gcd n d : Int) := Int.dvd_coe_gcd h5 (Int.dvd_refl d)
    rw [hg] at h6
    have := Int.le_of_dvd (by omega) h6
    omega
  rw [hdv]
  obtain ⟨x, hx⟩ : ∃ x, n / d = x := ⟨_, rfl⟩
  obtain ⟨y, hy⟩ : ∃ y, (-n) / d = y := ⟨_, rfl⟩
  obtain ⟨a, ha⟩ : ∃ a, n % d = a := ⟨_, rfl⟩
  obtain ⟨b, hb⟩ : ∃ b, (-n) % d = b := ⟨_, rfl⟩
  rw [hx, ha] at h1
  rw [hy, hb] at k1
  rw [ha] at h2 h3
  rw [hb] at k2 k3
  rw [hx, hy, ha]
  have hs : d * (x + y) + a + b = 0 := by rw [Int.mul_add]; omega
  have c1 : x + y ≤ 0 := Classical.byContradiction fun h => by
    have := Int.mul_le_mul_of_nonneg_left (show 1 ≤ x + y by omega) (show 0 ≤ d by omega)
    omega
  have c2 : -1 ≤ x + y := Classical.byContradiction fun h => by
    have := Int.mul_le_mul_of_nonneg_left (show x + y ≤ -2 by omega) (show 0 ≤ d by omega)
    omega
  have m1 : x * d = d * x := Int.mul_comm ..
  have m2 : -y * d = -(d * y) := by rw [Int.neg_mul, Int.mul_comm]
  refine ⟨by omega, by omega, ⟨fun e => ?_, fun e => ?_⟩, by omega, by omega⟩
  · have : x + y = 0 := by omega
    rw [this, Int.mul_zero] at hs
    omega
  · rcases (show x + y = 0 ∨ x + y = -1 by omega) with h | h
    · omega
    · rw [h] at hs; omega

theorem cells_eq (p q : Rat) : (decide (p.num = q.num) && decide ((p.den : Int) = (q.den : Int))) = decide (p = q) := by
  by_cases h : p = q
  · subst h; simp
  · rw [decide_eq_false h, Bool.and_eq_false_iff, decide_eq_false_iff_not, decide_eq_false_iff_not]
    by_cases h1 : p.num = q.num
    · right; intro h2; exact h (Rat.ext h1 (by omega))
    · left; exact h1
set_option maxRecDepth 100000 in
set_option maxHeartbeats 6400000 in
theorem orderLaw_any (an ad bn bd cn cd : Int) (w : World) (hq : QW w) :
    Calls Tryd.prog 5 #[.agg [Value.int .i64 an, Value.int .i64 ad].toArray, .agg [Value.int .i64 bn, Value.int .i64 bd].toArray, .agg [Value.int .i64 cn, Value.int .i64 cd].toArray] w fun e w' => e = .returned (.bool true) ∧ Below w.heap.size w w' := by
  have HQ := Lib.hid hq
  obtain ⟨A, hA⟩ : ∃ A, Hid (chk an ad = A) := ⟨_, rfl⟩
  obtain ⟨B, hB⟩ : ∃ A, Hid (chk bn bd = A) := ⟨_, rfl⟩
  obtain ⟨C, hC⟩ : ∃ A, Hid (chk cn cd = A) := ⟨_, rfl⟩
  have c1 := fun w => rcheck_any an ad w
  have c2 := fun w => rcheck_any bn bd w
  have c3 := fun w => rcheck_any cn cd w
  rw [hA.out] at c1
  rw [hB.out] at c2
  rw [hC.out] at c3
  have C1 := Lib.hid c1
  have C2 := Lib.hid c2
  have C3 := Lib.hid c3
  have hunQ := Tryd.underlying23
  have hguQ := Tryd.guardQ
  clear hq c1 c2 c3
  go_enter Tryd.func5, Tryd.ntmps5
  go_wp2_with (with_reducible refine wpList_box (o := ⟨some 3, .box 23 (.tmp 0), _, _, _, _⟩) ?g3 23 (.tmp 0) ?o3 (.agg [Value.int .i64 an, Value.int .i64 ad].toArray) [Value.int .i64 an, Value.int .i64 ad] ?x3 ?c3 ?_)
  try (case g3 => rfl)
  try (case o3 => rfl)
  try (case x3 => rfl)
  try (case c3 => rfl)
  intro g3 w1 hg3 hs1 hb1 B3
  have hb1 := hb1.mono (Nat.le_of_eq hg3.out.symm)
  have hbe : Below w.heap.size w w1 := hb1
  clear hb1 hg3 hs1
  go_wp2_with (with_reducible refine wpList_box (o := ⟨some 4, .box 23 (.tmp 1), _, _, _, _⟩) ?g4 23 (.tmp 1) ?o4 (.agg [Value.int .i64 bn, Value.int .i64 bd].toArray) [Value.int .i64 bn, Value.int .i64 bd] ?x4 ?c4 ?_)
  try (case g4 => rfl)
  try (case o4 => rfl)
  try (case x4 => rfl)
  try (case c4 => rfl)
  intro g4 w2 hg4 hs2 hb2 B4
  have hb2 := hb2.mono (Nat.le_of_eq hg4.out.symm)
  have B3 := B3.next hb2 B3.lt
  have hbe := below_join hbe hb2
  clear hb2 hg4 hs2
  go_wp2_with (with_reducible refine wpList_box (o := ⟨some 5, .box 23 (.tmp 2), _, _, _, _⟩) ?g5 23 (.tmp 2) ?o5 (.agg [Value.int .i64 cn, Value.int .i64 cd].toArray) [Value.int .i64 cn, Value.int .i64 cd] ?x5 ?c5 ?_)
  try (case g5 => rfl)
  try (case o5 => rfl)
  try (case x5 => rfl)
  try (case c5 => rfl)
  intro g5 w3 hg5 hs3 hb3 B5
  have hb3 := hb3.mono (Nat.le_of_eq hg5.out.symm)
  have B3 := B3.next hb3 B3.lt
  have B4 := B4.next hb3 B4.lt
  have hbe := below_join hbe hb3
  clear hb3 hg5 hs3
  have z30 := B3.cell (k := 0) rfl
  have z31 := B3.cell (k := 1) rfl
  go_wp2_with fail
  (with_reducible refine (C1.out _).mono ?_)
  rintro e w4 ⟨rfl, hb4⟩
  have B3 := B3.next hb4 B3.lt
  have B4 := B4.next hb4 B4.lt
  have B5 := B5.next hb4 B5.lt
  have hbe := below_join hbe hb4
  clear hb4
  clear z30 z31
  rcases A with _ | _
  · skip
    go_wp2_with fail
    (with_reducible refine (sanity_any _ (HQ.out.next hbe)).mono ?_)
    rintro e w5 ⟨rfl, hb5⟩
    have B3 := B3.next hb5 B3.lt
    have B4 := B4.next hb5 B4.lt
    have B5 := B5.next hb5 B5.lt
    have hbe := below_join hbe hb5
    clear hb5
    go_wp2
    go_ret
    exact ⟨rfl, hbe⟩
  · skip
    have z40 := B4.cell (k := 0) rfl
    have z41 := B4.cell (k := 1) rfl
    go_wp2_with fail
    (with_reducible refine (C2.out _).mono ?_)
    rintro e w5 ⟨rfl, hb5⟩
    have B3 := B3.next hb5 B3.lt
    have B4 := B4.next hb5 B4.lt
    have B5 := B5.next hb5 B5.lt
    have hbe := below_join hbe hb5
    clear hb5
    clear z40 z41
    rcases B with _ | _
    · skip
      go_wp2_with fail
      (with_reducible refine (sanity_any _ (HQ.out.next hbe)).mono ?_)
      rintro e w6 ⟨rfl, hb6⟩
      have B3 := B3.next hb6 B3.lt
      have B4 := B4.next hb6 B4.lt
      have B5 := B5.next hb6 B5.lt
      have hbe := below_join hbe hb6
      clear hb6
      go_wp2
      go_ret
      exact ⟨rfl, hbe⟩
    · skip
      have z50 := B5.cell (k := 0) rfl
      have z51 := B5.cell (k := 1) rfl
      go_wp2_with fail
      (with_reducible refine (C3.out _).mono ?_)
      rintro e w6 ⟨rfl, hb6⟩
      have B3 := B3.next hb6 B3.lt
      have B4 := B4.next hb6 B4.lt
      have B5 := B5.next hb6 B5.lt
      have hbe := below_join hbe hb6
      clear hb6
      clear z50 z51
      rcases C with _ | _
      · skip
        go_wp2_with fail
        (with_reducible refine (sanity_any _ (HQ.out.next hbe)).mono ?_)
        rintro e w7 ⟨rfl, hb7⟩
        have B3 := B3.next hb7 B3.lt
        have B4 := B4.next hb7 B4.lt
        have B5 := B5.next hb7 B5.lt
        have hbe := below_join hbe hb7
        clear hb7
        go_wp2
        go_ret
        exact ⟨rfl, hbe⟩
      · skip
        obtain ⟨p, hp, rfl, rfl⟩ := chk_is hA.out
        obtain ⟨q, hq, rfl, rfl⟩ := chk_is hB.out
        obtain ⟨r, hr, rfl, rfl⟩ := chk_is hC.out
        have hp2 : qC p = [Value.int .i64 p.num, Value.int .i64 (p.den : Int)] := rfl
        have hq2 : qC q = [Value.int .i64 q.num, Value.int .i64 (q.den : Int)] := rfl
        have hr2 : qC r = [Value.int .i64 r.num, Value.int .i64 (r.den : Int)] := rfl
        have hz2 : qC 0 = [Value.int .i64 0, Value.int .i64 1] := rfl
        -- @0
        obtain ⟨c1, hc1⟩ : ∃ c, cmpQ p q = c := ⟨_, rfl⟩
        obtain ⟨c2, hc2⟩ : ∃ c, cmpQ q r = c := ⟨_, rfl⟩
        obtain ⟨c3, hc3⟩ : ∃ c, cmpQ p r = c := ⟨_, rfl⟩
        obtain ⟨c5, hc5⟩ : ∃ c, cmpQ r 0 = c := ⟨_, rfl⟩
        obtain ⟨c4, hc4⟩ : ∃ c, cmpQ q p = c := ⟨_, rfl⟩
        have hsw := cmpQ_swap p q
        rw [hc1, hc4] at hsw
        have hbd := cmpQ_bound p q
        rw [hc1] at hbd
        have hb5 := cmpQ_bound r 0
        rw [hc5] at hb5
        have hz1 := cmpQ_zero p q
        have hle1 := cmpQ_le p q
        have hle2 := cmpQ_le q r
        have hgt3 := cmpQ_gt p r
        rw [hc1] at hz1 hle1
        rw [hc2] at hle2
        rw [hc3] at hgt3
        have x12 := fun w => cmp_any p q w hp hq
        rw [hc1, hp2, hq2] at x12
        have X12 := Lib.hid x12
        clear x12
        have x21 := fun w => cmp_any q p w hq hp
        rw [hc4, hq2, hp2] at x21
        have X21 := Lib.hid x21
        clear x21
        have x23 := fun w => cmp_any q r w hq hr
        rw [hc2, hq2, hr2] at x23
        have X23 := Lib.hid x23
        clear x23
        have x13 := fun w => cmp_any p r w hp hr
        rw [hc3, hp2, hr2] at x13
        have X13 := Lib.hid x13
        clear x13
        have x5 := fun w => cmp_any r 0 w hr fits_zero
        rw [hc5, hr2, hz2] at x5
        have X5 := Lib.hid x5
        clear x5
        obtain ⟨E, hE⟩ : ∃ E, decide (p = q) = E := ⟨_, rfl⟩
        have e0 : (c1 == 0) = E := by
          rw [← hE]
          by_cases h : p = q
          · rw [decide_eq_true h, hz1.2 h]; rfl
          · rw [decide_eq_false h, beq_eq_false_iff_ne]; exact fun e => h (hz1.1 e)
        have eE : ∀ w, (binOp .eql 23 (.agg [Value.int .i64 p.num, Value.int .i64 (p.den : Int)].toArray) (.agg [Value.int .i64 q.num, Value.int .i64 (q.den : Int)].toArray)).run Tryd.prog w = .ok (.bool E) w := fun w => by rw [eqlQ, cells_eq, hE]
        have hEE : (E != E) = false := by simp
        have hcc : (c1 != c1) = false := by simp
        have hnn : (c1 != -c4) = false := by
          rw [show -c4 = c1 by omega]; simp
        have hb41 : -1 ≤ c4 := by omega
        have hb42 : c4 ≤ 1 := by omega
        obtain ⟨L1, hL1⟩ : ∃ E, decide (c1 ≤ 0) = E := ⟨_, rfl⟩
        obtain ⟨L2, hL2⟩ : ∃ E, decide (c2 ≤ 0) = E := ⟨_, rfl⟩
        have hL3 : L1 = true → L2 = true → decide (0 < c3) = false := fun h1 h2 => by
          rw [← hL1, decide_eq_true_eq] at h1
          rw [← hL2, decide_eq_true_eq] at h2
          rw [decide_eq_false_iff_not]
          intro h3
          have a1 := hle1.1 h1
          have a2 := hle2.1 h2
          have a3 := hgt3.1 h3
          grind
        have HL3 := Lib.hid hL3
        -- @a
        obtain ⟨Nd, Dd, kd, hd, gd⟩ := ansQ_two (p - q)
        have xd := fun w => sub_any p q w hp hq
        rw [hd, hp2, hq2] at xd
        have Xd := Lib.hid xd
        have Gd := Lib.hid gd
        clear xd gd hd
        obtain ⟨Nx, Dx, kx, hx, gx⟩ := ansQ_two (p + r)
        have xx := fun w => add_any p r w hp hr
        rw [hx, hp2, hr2] at xx
        have Xx := Lib.hid xx
        have Gx := Lib.hid gx
        clear xx gx hx
        obtain ⟨Ny, Dy, ky, hy, gy⟩ := ansQ_two (q + r)
        have xy := fun w => add_any q r w hq hr
        rw [hy, hq2, hr2] at xy
        have Xy := Lib.hid xy
        have Gy := Lib.hid gy
        clear xy gy hy
        obtain ⟨Nu, Du, ku, hu, gu⟩ := ansQ_two (p * r)
        have xu := fun w => mul_any p r w hp hr
        rw [hu, hp2, hr2] at xu
        have Xu := Lib.hid xu
        have Gu := Lib.hid gu
        clear xu gu hu
        obtain ⟨Nv, Dv, kv, hv, gv⟩ := ansQ_two (q * r)
        have xv := fun w => mul_any q r w hq hr
        rw [hv, hq2, hr2] at xv
        have Xv := Lib.hid xv
        have Gv := Lib.hid gv
        clear xv gv hv
        have KD : Hid (fits (p - q) → ∀ w, Calls Tryd.prog 25 #[.agg [Value.int .i64 (p - q).num, Value.int .i64 ((p - q).den : Int)].toArray, .agg [Value.int .i64 0, Value.int .i64 1].toArray] w fun e w' => e = .returned (.int .i64 c1) ∧ Below w.heap.size w w') := by
          have : fits (p - q) → ∀ w, Calls Tryd.prog 25 #[.agg [Value.int .i64 (p - q).num, Value.int .i64 ((p - q).den : Int)].toArray, .agg [Value.int .i64 0, Value.int .i64 1].toArray] w fun e w' => e = .returned (.int .i64 c1) ∧ Below w.heap.size w w' := fun h0 w => by
            have h := cmp_any (p - q) (0) w h0 fits_zero
            rw [cmpQ_sub, hc1, show qC (p - q) = [Value.int .i64 (p - q).num, Value.int .i64 ((p - q).den : Int)] from rfl, hz2] at h
            exact h
          exact this
        have KX : Hid (fits (p + r) → fits (q + r) → ∀ w, Calls Tryd.prog 25 #[.agg [Value.int .i64 (p + r).num, Value.int .i64 ((p + r).den : Int)].toArray, .agg [Value.int .i64 (q + r).num, Value.int .i64 ((q + r).den : Int)].toArray] w fun e w' => e = .returned (.int .i64 c1) ∧ Below w.heap.size w w') := by
          have : fits (p + r) → fits (q + r) → ∀ w, Calls Tryd.prog 25 #[.agg [Value.int .i64 (p + r).num, Value.int .i64 ((p + r).den : Int)].toArray, .agg [Value.int .i64 (q + r).num, Value.int .i64 ((q + r).den : Int)].toArray] w fun e w' => e = .returned (.int .i64 c1) ∧ Below w.heap.size w w' := fun h0 h1 w => by
            have h := cmp_any (p + r) (q + r) w h0 h1
            rw [cmpQ_add, hc1, show qC (p + r) = [Value.int .i64 (p + r).num, Value.int .i64 ((p + r).den : Int)] from rfl, show qC (q + r) = [Value.int .i64 (q + r).num, Value.int .i64 ((q + r).den : Int)] from rfl] at h
            exact h
          exact this
        have KU : Hid (fits (p * r) → fits (q * r) → ∀ w, Calls Tryd.prog 25 #[.agg [Value.int .i64 (p * r).num, Value.int .i64 ((p * r).den : Int)].toArray, .agg [Value.int .i64 (q * r).num, Value.int .i64 ((q * r).den : Int)].toArray] w fun e w' => e = .returned (.int .i64 (c1 * c5)) ∧ Below w.heap.size w w') := by
          have : fits (p * r) → fits (q * r) → ∀ w, Calls Tryd.prog 25 #[.agg [Value.int .i64 (p * r).num, Value.int .i64 ((p * r).den : Int)].toArray, .agg [Value.int .i64 (q * r).num, Value.int .i64 ((q * r).den : Int)].toArray] w fun e w' => e = .returned (.int .i64 (c1 * c5)) ∧ Below w.heap.size w w' := fun h0 h1 w => by
            have h := cmp_any (p * r) (q * r) w h0 h1
            rw [cmpQ_mul, hc1, hc5, show qC (p * r) = [Value.int .i64 (p * r).num, Value.int .i64 ((p * r).den : Int)] from rfl, show qC (q * r) = [Value.int .i64 (q * r).num, Value.int .i64 ((q * r).den : Int)] from rfl] at h
            exact h
          exact this
        -- @b
        have hw15 : -1 ≤ c1 * c5 ∧ c1 * c5 ≤ 1 := by
          have := cross_lt (a := c1) (b := c5) (k := 1) (by omega) (by omega) (by omega) (by omega) (by omega)
          omega
        obtain ⟨M, hM⟩ : ∃ m, c1 * c5 = m := ⟨_, rfl⟩
        rw [hM] at hw15 KU
        have hwM : IntKind.i64.wrap M = M := by simp only [IntKind.wrap_i64]; omega
        have hMM : (M != M) = false := by simp
        obtain ⟨hf1, hf2, hf3, hf4, hf5⟩ := floor_ceil p
        -- @c
        have xf := fun w => floor_any p w hp
        have xg := fun w => ceil_any p w hp
        rw [hp2] at xf xg
        have bF : -1073741825 ≤ p.floor ∧ p.floor ≤ 1073741824 := by
          have := tdiv_bound hp
          have := floor_go p
          split at this <;> omega
        obtain ⟨fv, hfv⟩ : ∃ c, p.floor = c := ⟨_, rfl⟩
        obtain ⟨gv, hgv⟩ : ∃ c, p.ceil = c := ⟨_, rfl⟩
        rw [hfv] at xf hf1 hf2 hf3 hf4 bF
        rw [hgv] at xg hf1 hf2 hf3 hf5
        have XF := Lib.hid xf
        have XG := Lib.hid xg
        have hpb := fits_bounds hp
        -- @d
        have pr1 := cross_lt (a := fv) (b := (p.den : Int)) (k := 1073741826) (by omega) (by omega) (by omega) (by omega) (by omega)
        have pr2 := cross_lt (a := gv) (b := (p.den : Int)) (k := 1073741826) (by omega) (by omega) (by omega) (by omega) (by omega)
        obtain ⟨m1, hm1⟩ : ∃ x, fv * (p.den : Int) = x := ⟨_, rfl⟩
        obtain ⟨m2, hm2⟩ : ∃ x, gv * (p.den : Int) = x := ⟨_, rfl⟩
        rw [hm1] at hf4 pr1
        rw [hm2] at hf5 pr2
        have hwm1 : IntKind.i64.wrap m1 = m1 := by simp only [IntKind.wrap_i64]; omega
        have hwm2 : IntKind.i64.wrap m2 = m2 := by simp only [IntKind.wrap_i64]; omega
        have hwgf : IntKind.i64.wrap (gv - fv) = gv - fv := by simp only [IntKind.wrap_i64]; omega
        have t1 : decide (fv ≤ gv) = true := decide_eq_true hf1
        have t2 : decide (gv - fv ≤ 1) = true := decide_eq_true hf2
        have t4 : decide (m1 ≤ p.num) = true := decide_eq_true hf4
        have t5 : decide (p.num ≤ m2) = true := decide_eq_true hf5
        -- @e
        have t3 : ((fv == gv) == ((p.den : Int) == 1)) = true := by
          by_cases h : p.den = 1
          · have h1 : (p.den : Int) = 1 := by omega
            rw [hf3.2 h, h1]; simp
          · have h1 : ((p.den : Int) == 1) = false := beq_eq_false_iff_ne.2 (by omega)
            have h2 : (fv == gv) = false := beq_eq_false_iff_ne.2 (fun e => h (hf3.1 e))
            rw [h1, h2]; rfl
        have HT := Lib.hid (⟨t1, t2, t3, t4, t5, hwm1, hwm2, hwgf, hm1, hm2⟩ : decide (fv ≤ gv) = true ∧ decide (gv - fv ≤ 1) = true ∧ ((fv == gv) == ((p.den : Int) == 1)) = true ∧ decide (m1 ≤ p.num) = true ∧ decide (p.num ≤ m2) = true ∧ IntKind.i64.wrap m1 = m1 ∧ IntKind.i64.wrap m2 = m2 ∧ IntKind.i64.wrap (gv - fv) = gv - fv ∧ fv * (p.den : Int) = m1 ∧ gv * (p.den : Int) = m2)
        have HW := Lib.hid (⟨hM, hwM, hMM⟩ : c1 * c5 = M ∧ IntKind.i64.wrap M = M ∧ (M != M) = false)
        -- @f
        clear t1 t2 t3 t4 t5 hwm1 hwm2 hwgf hm1 hm2 pr1 pr2 hf1 hf2 hf3 hf4 hf5 hfv hgv bF xf xg hpb hM hwM hMM hw15 hL3 hz1 hle1 hle2 hgt3 hsw hbd hb5 hc1 hc2 hc3 hc5 hc4 hE hp hq hr hp2 hq2 hr2 hz2
        -- @1
        have z30 := B3.cell (k := 0) rfl
        have z31 := B3.cell (k := 1) rfl
        have z40 := B4.cell (k := 0) rfl
        have z41 := B4.cell (k := 1) rfl
        go_wp2_with fail
        (with_reducible refine (X12.out _).mono ?_)
        rintro e w7 ⟨rfl, hb7⟩
        have B3 := B3.next hb7 B3.lt
        have B4 := B4.next hb7 B4.lt
        have B5 := B5.next hb7 B5.lt
        have hbe := below_join hbe hb7
        clear hb7
        clear z30 z31 z40 z41
        go_upto_region 4 with fail
        go_cut [62] from 16 (fun s62 wx => s62 = .bool false ∧ Blk wx g3 23 [Value.int .i64 p.num, Value.int .i64 (p.den : Int)] ∧ Blk wx g4 23 [Value.int .i64 q.num, Value.int .i64 (q.den : Int)] ∧ Blk wx g5 23 [Value.int .i64 r.num, Value.int .i64 (r.den : Int)] ∧ Below w.heap.size w wx)
        case first =>
          have z30 := B3.cell (k := 0) rfl
          have z31 := B3.cell (k := 1) rfl
          have z40 := B4.cell (k := 0) rfl
          have z41 := B4.cell (k := 1) rfl
          go_wp2_with fail
          (with_reducible refine (X21.out _).mono ?_)
          rintro e w8 ⟨rfl, hb8⟩
          have B3 := B3.next hb8 B3.lt
          have B4 := B4.next hb8 B4.lt
          have B5 := B5.next hb8 B5.lt
          have hbe := below_join hbe hb8
          clear hb8
          clear z30 z31 z40 z41
          rcases L1 with _ | _
          · skip
            have z30 := B3.cell (k := 0) rfl
            have z31 := B3.cell (k := 1) rfl
            have z40 := B4.cell (k := 0) rfl
            have z41 := B4.cell (k := 1) rfl
            go_wp2
            go_meet
            exact ⟨rfl, B3, B4, B5, hbe⟩
          · skip
            have z30 := B3.cell (k := 0) rfl
            have z31 := B3.cell (k := 1) rfl
            have z40 := B4.cell (k := 0) rfl
            have z41 := B4.cell (k := 1) rfl
            have z50 := B5.cell (k := 0) rfl
            have z51 := B5.cell (k := 1) rfl
            go_wp2_with fail
            (with_reducible refine (X23.out _).mono ?_)
            rintro e w9 ⟨rfl, hb9⟩
            have B3 := B3.next hb9 B3.lt
            have B4 := B4.next hb9 B4.lt
            have B5 := B5.next hb9 B5.lt
            have hbe := below_join hbe hb9
            clear hb9
            clear z30 z31 z40 z41 z50 z51
            rcases L2 with _ | _
            · skip
              go_wp2
              go_meet
              exact ⟨rfl, B3, B4, B5, hbe⟩
            · skip
              have hL4 := HL3.out (by first | rfl | trivial) (by first | rfl | trivial)
              have z30 := B3.cell (k := 0) rfl
              have z31 := B3.cell (k := 1) rfl
              have z50 := B5.cell (k := 0) rfl
              have z51 := B5.cell (k := 1) rfl
              go_wp2_with fail
              (with_reducible refine (X13.out _).mono ?_)
              rintro e w10 ⟨rfl, hb10⟩
              have B3 := B3.next hb10 B3.lt
              have B4 := B4.next hb10 B4.lt
              have B5 := B5.next hb10 B5.lt
              have hbe := below_join hbe hb10
              clear hb10
              clear z30 z31 z50 z51
              go_wp2
              go_meet
              exact ⟨rfl, B3, B4, B5, hbe⟩
        case rest =>
          clear B3 B4 B5 hbe
          obtain ⟨rfl, B3, B4, B5, hbe⟩ := hcut
          -- @2
          clear e0 eE hEE hnn hb41 hb42 hL1 hL2
          have z30 := B3.cell (k := 0) rfl
          have z31 := B3.cell (k := 1) rfl
          have z40 := B4.cell (k := 0) rfl
          have z41 := B4.cell (k := 1) rfl
          go_wp2_with fail
          (with_reducible refine (Xd.out _).mono ?_)
          rintro e w8 ⟨rfl, hb8⟩
          have B3 := B3.next hb8 B3.lt
          have B4 := B4.next hb8 B4.lt
          have B5 := B5.next hb8 B5.lt
          have hbe := below_join hbe hb8
          clear hb8
          clear z30 z31 z40 z41
          go_wp2_with (with_reducible refine wpList_alloc (o := ⟨some 8, .alloc 23, _, _, _, _⟩) (by with_unfolding_all rfl) 23 (by with_unfolding_all rfl) (.agg zC.toArray) zC (by exact Tryd.zeroQ) (by with_unfolding_all rfl) ?_)
          intro g8 w9 hg8 hs9 hb9 B8
          have hl8 : w.heap.size ≤ g8 := Nat.le_trans hbe.size (Nat.le_of_eq hg8.out.symm)
          have ne3_8 : g3 ≠ g8 := by have := B3.lt; have := hg8.out; omega
          have ne4_8 : g4 ≠ g8 := by have := B4.lt; have := hg8.out; omega
          have ne5_8 : g5 ≠ g8 := by have := B5.lt; have := hg8.out; omega
          have hb9 := hb9.mono (Nat.le_of_eq hg8.out.symm)
          have B3 := B3.next hb9 B3.lt
          have B4 := B4.next hb9 B4.lt
          have B5 := B5.next hb9 B5.lt
          have hbe := below_join hbe hb9
          clear hb9 hg8 hs9
          go_wp2_with (with_reducible refine wpList_put (o := ⟨none, .store 23 (.tmp 8) (.tmp 67), _, _, _, _⟩) (by with_unfolding_all rfl) 23 (.tmp 8) (.tmp 67) (by with_unfolding_all rfl) g8 0 (by with_unfolding_all rfl) (.agg [Value.int .i64 Nd, Value.int .i64 Dd].toArray) (by with_unfolding_all rfl) B8 [Value.int .i64 Nd, Value.int .i64 Dd] (by with_unfolding_all rfl) (by with_unfolding_all (exact Tryd.szQ)) (by with_unfolding_all (exact Nat.le_refl 2)) (by with_unfolding_all (exact int_one _ _)) ?_)
          clear B8
          intro w10 hu10 B8
          rw [splice_all _ _ (by rfl)] at B8
          have hbe := hbe.trans (hu10.below (B := w.heap.size) hl8)
          have B3 := B3.upd hu10 (by first | exact ne3_8 | exact ne8_3.symm)
          have B4 := B4.upd hu10 (by first | exact ne4_8 | exact ne8_4.symm)
          have B5 := B5.upd hu10 (by first | exact ne5_8 | exact ne8_5.symm)
          clear hu10
          go_upto_region 7 with fail
          go_cut [77] from 16 (fun s77 wx => s77 = .bool false ∧ Blk wx g3 23 [Value.int .i64 p.num, Value.int .i64 (p.den : Int)] ∧ Blk wx g4 23 [Value.int .i64 q.num, Value.int .i64 (q.den : Int)] ∧ Blk wx g5 23 [Value.int .i64 r.num, Value.int .i64 (r.den : Int)] ∧ Below w.heap.size w wx)
          case first =>
            rcases Gd.out with ⟨f1, rfl, rfl, rfl⟩ | ⟨f1, rfl⟩
            · skip
              have KD := Lib.hid (KD.out f1)
              go_wp2
              have hdd := below_drew w10
              have K8_0 : Hid (∀ w', Below w10.heap.size w10 w' → w'.rangeAt g8 0 [Value.int .i64 (p - q).num, Value.int .i64 ((p - q).den : Int)]) := (fun w' h => blk_range (B8.next h B8.lt) : ∀ w', Below w10.heap.size w10 w' → w'.rangeAt g8 0 [Value.int .i64 (p - q).num, Value.int .i64 ((p - q).den : Int)])
              have Z8_0 : (Tryd.prog.info? 23).map (·.size) = some [Value.int .i64 (p - q).num, Value.int .i64 ((p - q).den : Int)].length := by (exact Tryd.szQ)
              refine wp_region_held_drew (S := fun w' => Below w10.heap.size w10 w') (by kernel_rfl) hdd (fun hHeld => ?_)
              generalize w10.drew = wd at hdd hHeld ⊢
              refine wpAnyH_take (i := 0) (v := ?vaa_0) rfl (by kernel_rfl) (by kernel_rfl) (by kernel_rfl) (fun _ _ _ h => h) (Or.inl ⟨by rfl, ?yaa_0⟩) (by assumption) ?raa_0
              case yaa_0 => intro w hSw; (try dsimp only at hSw); go_simp <;> (try with_reducible rfl)
              (try simp only [List.getElem_toArray, List.getElem_cons_zero, Act.put, List.setIfInBounds_toArray, List.set_cons_zero, List.set_cons_succ])
              refine wpAnyH_take (i := 1) (v := ?vaa_1) rfl (by kernel_rfl) (by kernel_rfl) (by kernel_rfl) (fun _ _ _ h => h) (Or.inl ⟨by rfl, ?yaa_1⟩) (by assumption) ?raa_1
              case yaa_1 => intro w hSw; (try dsimp only at hSw); go_simp <;> (try with_reducible rfl)
              (try simp only [List.getElem_toArray, List.getElem_cons_succ, List.getElem_cons_zero, Act.put, List.setIfInBounds_toArray, List.set_cons_zero, List.set_cons_succ])
              refine wpAnyH_take (i := 2) (v := ?vaa_2) rfl (by kernel_rfl) (by kernel_rfl) (by kernel_rfl) (fun _ _ _ h => h) (Or.inl ⟨by rfl, ?yaa_2⟩) (by assumption) ?raa_2
              case yaa_2 => intro w hSw; (try dsimp only at hSw); go_simp <;> (try with_reducible rfl)
              (try simp only [List.getElem_toArray, List.getElem_cons_succ, List.getElem_cons_zero, Act.put, List.setIfInBounds_toArray, List.set_cons_zero, List.set_cons_succ])
              refine' wpAnyH_take (i := 3) (v := _) rfl (by kernel_rfl) (by kernel_rfl) (by kernel_rfl) (fun _ _ _ h => h) (yieldsIf_load_mid (by rfl) _ _ (by rfl) _ _ (by rfl) _ _ ?Saa_3 ?uaa_3 ?daa_3 ?iaa_3) (by assumption) ?raa_3
              case Saa_3 => exact (by intro w h; exact K8_0.out _ h)
              case uaa_3 => exact Tryd.underlying23
              case daa_3 => rfl
              case iaa_3 => exact Z8_0
              (try simp only [List.getElem_toArray, List.getElem_cons_succ, List.getElem_cons_zero, Act.put, List.setIfInBounds_toArray, List.set_cons_zero, List.set_cons_succ])
              refine wpAnyH_take (i := 6) (v := ?vaa_6) rfl (by kernel_rfl) (by kernel_rfl) (by kernel_rfl) (fun _ _ _ h => h) (Or.inl ⟨by rfl, ?yaa_6⟩) (by assumption) ?raa_6
              case yaa_6 => intro w hSw; (try dsimp only at hSw); go_simp <;> (try with_reducible rfl)
              (try simp only [List.getElem_toArray, List.getElem_cons_succ, List.getElem_cons_zero, Act.put, List.setIfInBounds_toArray, List.set_cons_zero, List.set_cons_succ])
              refine wpAnyH_ready (rs := [4]) (by kernel_rfl) (by simp) ?_
              refine AllReadyH.cons rfl (fun K hK => ?_) AllReadyH.nil
              go_simp
              go_wp2_with fail
              (with_reducible refine (lwhole_any 0 _).mono ?_)
              rintro e w11 ⟨rfl, hb11⟩
              have hk11 := below_join hdd hb11
              refine hK.out _ _ hk11 (fun hHeld => ?_)
              clear hK K hb11 hdd
              refine wpAnyH_ready (rs := [5]) (by kernel_rfl) (by simp) ?_
              refine AllReadyH.cons rfl (fun K hK => ?_) AllReadyH.nil
              go_simp
              go_wp2_with fail
              (with_reducible refine (KD.out _).mono ?_)
              rintro e w12 ⟨rfl, hb12⟩
              have hk12 := below_join hk11 hb12
              refine hK.out _ _ hk12 (fun hHeld => ?_)
              clear hK K hb12 hk11
              refine wpAnyH_take (i := 7) (v := ?vaa_7) rfl (by kernel_rfl) (by kernel_rfl) (by kernel_rfl) (fun _ _ _ h => h) (Or.inl ⟨by rfl, ?yaa_7⟩) (by assumption) ?raa_7
              case yaa_7 => intro w hSw; (try dsimp only at hSw); go_simp <;> (try with_reducible rfl)
              (try simp only [List.getElem_toArray, List.getElem_cons_succ, List.getElem_cons_zero, Act.put, List.setIfInBounds_toArray, List.set_cons_zero, List.set_cons_succ])
              refine wpAnyH_take (i := 8) (v := ?vaa_8) rfl (by kernel_rfl) (by kernel_rfl) (by kernel_rfl) (fun _ _ _ h => h) (Or.inl ⟨by rfl, ?yaa_8⟩) (by assumption) ?raa_8
              case yaa_8 => intro w hSw; (try dsimp only at hSw); go_simp <;> (try with_reducible rfl)
              (try simp only [List.getElem_toArray, List.getElem_cons_succ, List.getElem_cons_zero, Act.put, List.setIfInBounds_toArray, List.set_cons_zero, List.set_cons_succ])
              refine wpAnyH_done (by kernel_rfl) ?_ _
              clear hHeld K8_0 Z8_0
              have B3 := B3.next hk12 B3.lt
              have B4 := B4.next hk12 B4.lt
              have B5 := B5.next hk12 B5.lt
              have B8 := B8.next hk12 B8.lt
              have hbe := below_join hbe hk12
              clear hk12
              go_wp2
              go_meet
              exact ⟨rfl, B3, B4, B5, hbe⟩
            · skip
              go_wp2
              have hdd := below_drew w10
              refine wp_region_held_drew (S := fun w' => Below w10.heap.size w10 w') (by kernel_rfl) hdd (fun hHeld => ?_)
              generalize w10.drew = wd at hdd hHeld ⊢
              refine wpAnyH_take (i := 0) (v := ?vab_0) rfl (by kernel_rfl) (by kernel_rfl) (by kernel_rfl) (fun _ _ _ h => h) (Or.inl ⟨by rfl, ?yab_0⟩) (by assumption) ?rab_0
              case yab_0 => intro w hSw; (try dsimp only at hSw); go_simp <;> (try with_reducible rfl)
              (try simp only [List.getElem_toArray, List.getElem_cons_zero, Act.put, List.setIfInBounds_toArray, List.set_cons_zero, List.set_cons_succ])
              refine wpAnyH_take (i := 1) (v := ?vab_1) rfl (by kernel_rfl) (by kernel_rfl) (by kernel_rfl) (fun _ _ _ h => h) (Or.inl ⟨by rfl, ?yab_1⟩) (by assumption) ?rab_1
              case yab_1 => intro w hSw; (try dsimp only at hSw); go_simp <;> (try with_reducible rfl)
              (try simp only [List.getElem_toArray, List.getElem_cons_succ, List.getElem_cons_zero, Act.put, List.setIfInBounds_toArray, List.set_cons_zero, List.set_cons_succ])
              refine wpAnyH_take (i := 2) (v := ?vab_2) rfl (by kernel_rfl) (by kernel_rfl) (by kernel_rfl) (fun _ _ _ h => h) (Or.inl ⟨by rfl, ?yab_2⟩) (by assumption) ?rab_2
              case yab_2 => intro w hSw; (try dsimp only at hSw); go_simp <;> (try with_reducible rfl)
              (try simp only [List.getElem_toArray, List.getElem_cons_succ, List.getElem_cons_zero, Act.put, List.setIfInBounds_toArray, List.set_cons_zero, List.set_cons_succ])
              refine wpAnyH_take (i := 3) (v := undef) rfl (by kernel_rfl) (by kernel_rfl) (by kernel_rfl) (fun _ _ _ h => h) (Or.inr ⟨by rfl, rfl⟩) (by assumption) ?rab_3
              (try simp only [List.getElem_toArray, List.getElem_cons_succ, List.getElem_cons_zero, Act.put, List.setIfInBounds_toArray, List.set_cons_zero, List.set_cons_succ])
              refine wpAnyH_take (i := 4) (v := undef) rfl (by kernel_rfl) (by kernel_rfl) (by kernel_rfl) (fun _ _ _ h => h) (Or.inr ⟨by rfl, rfl⟩) (by assumption) ?rab_4
              (try simp only [List.getElem_toArray, List.getElem_cons_succ, List.getElem_cons_zero, Act.put, List.setIfInBounds_toArray, List.set_cons_zero, List.set_cons_succ])
              refine wpAnyH_take (i := 5) (v := undef) rfl (by kernel_rfl) (by kernel_rfl) (by kernel_rfl) (fun _ _ _ h => h) (Or.inr ⟨by rfl, rfl⟩) (by assumption) ?rab_5
              (try simp only [List.getElem_toArray, List.getElem_cons_succ, List.getElem_cons_zero, Act.put, List.setIfInBounds_toArray, List.set_cons_zero, List.set_cons_succ])
              refine wpAnyH_take (i := 6) (v := undef) rfl (by kernel_rfl) (by kernel_rfl) (by kernel_rfl) (fun _ _ _ h => h) (Or.inr ⟨by rfl, rfl⟩) (by assumption) ?rab_6
              (try simp only [List.getElem_toArray, List.getElem_cons_succ, List.getElem_cons_zero, Act.put, List.setIfInBounds_toArray, List.set_cons_zero, List.set_cons_succ])
              refine wpAnyH_take (i := 7) (v := undef) rfl (by kernel_rfl) (by kernel_rfl) (by kernel_rfl) (fun _ _ _ h => h) (Or.inr ⟨by rfl, rfl⟩) (by assumption) ?rab_7
              (try simp only [List.getElem_toArray, List.getElem_cons_succ, List.getElem_cons_zero, Act.put, List.setIfInBounds_toArray, List.set_cons_zero, List.set_cons_succ])
              refine wpAnyH_take (i := 8) (v := ?vab_8) rfl (by kernel_rfl) (by kernel_rfl) (by kernel_rfl) (fun _ _ _ h => h) (Or.inl ⟨by rfl, ?yab_8⟩) (by assumption) ?rab_8
              case yab_8 => intro w hSw; (try dsimp only at hSw); go_simp <;> (try with_reducible rfl)
              (try simp only [List.getElem_toArray, List.getElem_cons_succ, List.getElem_cons_zero, Act.put, List.setIfInBounds_toArray, List.set_cons_zero, List.set_cons_succ])
              refine wpAnyH_done (by kernel_rfl) ?_ _
              clear hHeld 
              have B3 := B3.next hdd B3.lt
              have B4 := B4.next hdd B4.lt
              have B5 := B5.next hdd B5.lt
              have B8 := B8.next hdd B8.lt
              have hbe := below_join hbe hdd
              clear hdd
              go_wp2
              go_meet
              exact ⟨rfl, B3, B4, B5, hbe⟩
          case rest =>
            clear B3 B4 B5 B8 hbe
            obtain ⟨rfl, B3, B4, B5, hbe⟩ := hcut
            -- @3
            have z30 := B3.cell (k := 0) rfl
            have z31 := B3.cell (k := 1) rfl
            have z50 := B5.cell (k := 0) rfl
            have z51 := B5.cell (k := 1) rfl
            go_wp2_with fail
            (with_reducible refine (Xx.out _).mono ?_)
            rintro e w11 ⟨rfl, hb11⟩
            have B3 := B3.next hb11 B3.lt
            have B4 := B4.next hb11 B4.lt
            have B5 := B5.next hb11 B5.lt
            have hbe := below_join hbe hb11
            clear hb11
            clear z30 z31 z50 z51
            go_wp2_with (with_reducible refine wpList_alloc (o := ⟨some 10, .alloc 23, _, _, _, _⟩) (by with_unfolding_all rfl) 23 (by with_unfolding_all rfl) (.agg zC.toArray) zC (by exact Tryd.zeroQ) (by with_unfolding_all rfl) ?_)
            intro g10 w12 hg10 hs12 hb12 B10
            have hl10 : w.heap.size ≤ g10 := Nat.le_trans hbe.size (Nat.le_of_eq hg10.out.symm)
            have ne3_10 : g3 ≠ g10 := by have := B3.lt; have := hg10.out; omega
            have ne4_10 : g4 ≠ g10 := by have := B4.lt; have := hg10.out; omega
            have ne5_10 : g5 ≠ g10 := by have := B5.lt; have := hg10.out; omega
            have hb12 := hb12.mono (Nat.le_of_eq hg10.out.symm)
            have B3 := B3.next hb12 B3.lt
            have B4 := B4.next hb12 B4.lt
            have B5 := B5.next hb12 B5.lt
            have hbe := below_join hbe hb12
            clear hb12 hg10 hs12
            go_wp2_with (with_reducible refine wpList_put (o := ⟨none, .store 23 (.tmp 10) (.tmp 82), _, _, _, _⟩) (by with_unfolding_all rfl) 23 (.tmp 10) (.tmp 82) (by with_unfolding_all rfl) g10 0 (by with_unfolding_all rfl) (.agg [Value.int .i64 Nx, Value.int .i64 Dx].toArray) (by with_unfolding_all rfl) B10 [Value.int .i64 Nx, Value.int .i64 Dx] (by with_unfolding_all rfl) (by with_unfolding_all (exact Tryd.szQ)) (by with_unfolding_all (exact Nat.le_refl 2)) (by with_unfolding_all (exact int_one _ _)) ?_)
            clear B10
            intro w13 hu13 B10
            rw [splice_all _ _ (by rfl)] at B10
            have hbe := hbe.trans (hu13.below (B := w.heap.size) hl10)
            have B3 := B3.upd hu13 (by first | exact ne3_10 | exact ne10_3.symm)
            have B4 := B4.upd hu13 (by first | exact ne4_10 | exact ne10_4.symm)
            have B5 := B5.upd hu13 (by first | exact ne5_10 | exact ne10_5.symm)
            clear hu13
            have z40 := B4.cell (k := 0) rfl
            have z41 := B4.cell (k := 1) rfl
            have z50 := B5.cell (k := 0) rfl
            have z51 := B5.cell (k := 1) rfl
            go_wp2_with fail
            (with_reducible refine (Xy.out _).mono ?_)
            rintro e w14 ⟨rfl, hb14⟩
            have B3 := B3.next hb14 B3.lt
            have B4 := B4.next hb14 B4.lt
            have B5 := B5.next hb14 B5.lt
            have B10 := B10.next hb14 B10.lt
            have hbe := below_join hbe hb14
            clear hb14
            clear z40 z41 z50 z51
            go_wp2_with (with_reducible refine wpList_alloc (o := ⟨some 12, .alloc 23, _, _, _, _⟩) (by with_unfolding_all rfl) 23 (by with_unfolding_all rfl) (.agg zC.toArray) zC (by exact Tryd.zeroQ) (by with_unfolding_all rfl) ?_)
            intro g12 w15 hg12 hs15 hb15 B12
            have hl12 : w.heap.size ≤ g12 := Nat.le_trans hbe.size (Nat.le_of_eq hg12.out.symm)
            have ne3_12 : g3 ≠ g12 := by have := B3.lt; have := hg12.out; omega
            have ne4_12 : g4 ≠ g12 := by have := B4.lt; have := hg12.out; omega
            have ne5_12 : g5 ≠ g12 := by have := B5.lt; have := hg12.out; omega
            have ne10_12 : g10 ≠ g12 := by have := B10.lt; have := hg12.out; omega
            have hb15 := hb15.mono (Nat.le_of_eq hg12.out.symm)
            have B3 := B3.next hb15 B3.lt
            have B4 := B4.next hb15 B4.lt
            have B5 := B5.next hb15 B5.lt
            have B10 := B10.next hb15 B10.lt
            have hbe := below_join hbe hb15
            clear hb15 hg12 hs15
            go_wp2_with (with_reducible refine wpList_put (o := ⟨none, .store 23 (.tmp 12) (.tmp 88), _, _, _, _⟩) (by with_unfolding_all rfl) 23 (.tmp 12) (.tmp 88) (by with_unfolding_all rfl) g12 0 (by with_unfolding_all rfl) (.agg [Value.int .i64 Ny, Value.int .i64 Dy].toArray) (by with_unfolding_all rfl) B12 [Value.int .i64 Ny, Value.int .i64 Dy] (by with_unfolding_all rfl) (by with_unfolding_all (exact Tryd.szQ)) (by with_unfolding_all (exact Nat.le_refl 2)) (by with_unfolding_all (exact int_one _ _)) ?_)
            clear B12
            intro w16 hu16 B12
            rw [splice_all _ _ (by rfl)] at B12
            have hbe := hbe.trans (hu16.below (B := w.heap.size) hl12)
            have B3 := B3.upd hu16 (by first | exact ne3_12 | exact ne12_3.symm)
            have B4 := B4.upd hu16 (by first | exact ne4_12 | exact ne12_4.symm)
            have B5 := B5.upd hu16 (by first | exact ne5_12 | exact ne12_5.symm)
            have B10 := B10.upd hu16 (by first | exact ne10_12 | exact ne12_10.symm)
            clear hu16
            go_upto_region 11 with fail
            go_cut [102] from 16 (fun s102 wx => s102 = .bool false ∧ Blk wx g3 23 [Value.int .i64 p.num, Value.int .i64 (p.den : Int)] ∧ Blk wx g4 23 [Value.int .i64 q.num, Value.int .i64 (q.den : Int)] ∧ Blk wx g5 23 [Value.int .i64 r.num, Value.int .i64 (r.den : Int)] ∧ Blk wx g10 23 [Value.int .i64 Nx, Value.int .i64 Dx] ∧ Blk wx g12 23 [Value.int .i64 Ny, Value.int .i64 Dy] ∧ Below w.heap.size w wx)
            case first =>
              rcases Gx.out with ⟨f1, rfl, rfl, rfl⟩ | ⟨f1, rfl⟩
              · skip
                rcases Gy.out with ⟨f2, rfl, rfl, rfl⟩ | ⟨f2, rfl⟩
                · skip
                  have KX := Lib.hid (KX.out f1 f2)
                  have B10 : Blk _ g10 23 [Value.int .i64 (p + r).num, Value.int .i64 ((p + r).den : Int)] := B10
                  have z100 := B10.cell (k := 0) rfl
                  have z101 := B10.cell (k := 1) rfl
                  have z120 := B12.cell (k := 0) rfl
                  have z121 := B12.cell (k := 1) rfl
                  go_wp2_with fail
                  (with_reducible refine (KX.out _).mono ?_)
                  rintro e w17 ⟨rfl, hb17⟩
                  have B3 := B3.next hb17 B3.lt
                  have B4 := B4.next hb17 B4.lt
                  have B5 := B5.next hb17 B5.lt
                  have B10 := B10.next hb17 B10.lt
                  have B12 := B12.next hb17 B12.lt
                  have hbe := below_join hbe hb17
                  clear hb17
                  clear z100 z101 z120 z121
                  go_wp2
                  go_meet
                  exact ⟨rfl, B3, B4, B5, B10, B12, hbe⟩
                · skip
                  go_wp2
                  go_meet
                  exact ⟨rfl, B3, B4, B5, B10, B12, hbe⟩
              · skip
                go_wp2
                go_meet
                exact ⟨rfl, B3, B4, B5, B10, B12, hbe⟩
            case rest =>
              clear B3 B4 B5 B10 B12 hbe
              obtain ⟨rfl, B3, B4, B5, B10, B12, hbe⟩ := hcut
              -- @4
              have z30 := B3.cell (k := 0) rfl
              have z31 := B3.cell (k := 1) rfl
              have z50 := B5.cell (k := 0) rfl
              have z51 := B5.cell (k := 1) rfl
              go_wp2_with fail
              (with_reducible refine (Xu.out _).mono ?_)
              rintro e w17 ⟨rfl, hb17⟩
              have B3 := B3.next hb17 B3.lt
              have B4 := B4.next hb17 B4.lt
              have B5 := B5.next hb17 B5.lt
              have B10 := B10.next hb17 B10.lt
              have B12 := B12.next hb17 B12.lt
              have hbe := below_join hbe hb17
              clear hb17
              clear z30 z31 z50 z51
              go_wp2_with (with_reducible refine wpList_put (o := ⟨none, .store 23 (.tmp 10) (.tmp 107), _, _, _, _⟩) (by with_unfolding_all rfl) 23 (.tmp 10) (.tmp 107) (by with_unfolding_all rfl) g10 0 (by with_unfolding_all rfl) (.agg [Value.int .i64 Nu, Value.int .i64 Du].toArray) (by with_unfolding_all rfl) B10 [Value.int .i64 Nu, Value.int .i64 Du] (by with_unfolding_all rfl) (by with_unfolding_all (exact Tryd.szQ)) (by with_unfolding_all (exact Nat.le_refl 2)) (by with_unfolding_all (exact int_one _ _)) ?_)
              clear B10
              intro w18 hu18 B10
              rw [splice_all _ _ (by rfl)] at B10
              have hbe := hbe.trans (hu18.below (B := w.heap.size) hl10)
              have B3 := B3.upd hu18 (by first | exact ne3_10 | exact ne10_3.symm)
              have B4 := B4.upd hu18 (by first | exact ne4_10 | exact ne10_4.symm)
              have B5 := B5.upd hu18 (by first | exact ne5_10 | exact ne10_5.symm)
              have B12 := B12.upd hu18 (by first | exact ne12_10 | exact ne10_12.symm)
              clear hu18
              have z40 := B4.cell (k := 0) rfl
              have z41 := B4.cell (k := 1) rfl
              have z50 := B5.cell (k := 0) rfl
              have z51 := B5.cell (k := 1) rfl
              go_wp2_with fail
              (with_reducible refine (Xv.out _).mono ?_)
              rintro e w19 ⟨rfl, hb19⟩
              have B3 := B3.next hb19 B3.lt
              have B4 := B4.next hb19 B4.lt
              have B5 := B5.next hb19 B5.lt
              have B10 := B10.next hb19 B10.lt
              have B12 := B12.next hb19 B12.lt
              have hbe := below_join hbe hb19
              clear hb19
              clear z40 z41 z50 z51
              go_wp2_with (with_reducible refine wpList_put (o := ⟨none, .store 23 (.tmp 12) (.tmp 113), _, _, _, _⟩) (by with_unfolding_all rfl) 23 (.tmp 12) (.tmp 113) (by with_unfolding_all rfl) g12 0 (by with_unfolding_all rfl) (.agg [Value.int .i64 Nv, Value.int .i64 Dv].toArray) (by with_unfolding_all rfl) B12 [Value.int .i64 Nv, Value.int .i64 Dv] (by with_unfolding_all rfl) (by with_unfolding_all (exact Tryd.szQ)) (by with_unfolding_all (exact Nat.le_refl 2)) (by with_unfolding_all (exact int_one _ _)) ?_)
              clear B12
              intro w20 hu20 B12
              rw [splice_all _ _ (by rfl)] at B12
              have hbe := hbe.trans (hu20.below (B := w.heap.size) hl12)
              have B3 := B3.upd hu20 (by first | exact ne3_12 | exact ne12_3.symm)
              have B4 := B4.upd hu20 (by first | exact ne4_12 | exact ne12_4.symm)
              have B5 := B5.upd hu20 (by first | exact ne5_12 | exact ne12_5.symm)
              have B10 := B10.upd hu20 (by first | exact ne10_12 | exact ne12_10.symm)
              clear hu20
              go_upto_region 15 with fail
              go_cut [131] from 16 (fun s131 wx => s131 = .bool false ∧ Blk wx g3 23 [Value.int .i64 p.num, Value.int .i64 (p.den : Int)] ∧ Blk wx g4 23 [Value.int .i64 q.num, Value.int .i64 (q.den : Int)] ∧ Blk wx g5 23 [Value.int .i64 r.num, Value.int .i64 (r.den : Int)] ∧ Below w.heap.size w wx)
              case first =>
                rcases Gu.out with ⟨f1, rfl, rfl, rfl⟩ | ⟨f1, rfl⟩
                · skip
                  rcases Gv.out with ⟨f2, rfl, rfl, rfl⟩ | ⟨f2, rfl⟩
                  · skip
                    have KU := Lib.hid (KU.out f1 f2)
                    obtain ⟨hM, hwM, hMM⟩ := HW.out
                    go_wp2
                    have hdd := below_drew w20
                    have K5_0 : Hid (∀ w', Below w20.heap.size w20 w' → w'.rangeAt g5 0 [Value.int .i64 r.num, Value.int .i64 (r.den : Int)]) := (fun w' h => blk_range (B5.next h B5.lt) : ∀ w', Below w20.heap.size w20 w' → w'.rangeAt g5 0 [Value.int .i64 r.num, Value.int .i64 (r.den : Int)])
                    have Z5_0 : (Tryd.prog.info? 23).map (·.size) = some [Value.int .i64 r.num, Value.int .i64 (r.den : Int)].length := by (exact Tryd.szQ)
                    have K10_0 : Hid (∀ w', Below w20.heap.size w20 w' → w'.rangeAt g10 0 [Value.int .i64 (p * r).num, Value.int .i64 ((p * r).den : Int)]) := (fun w' h => blk_range (B10.next h B10.lt) : ∀ w', Below w20.heap.size w20 w' → w'.rangeAt g10 0 [Value.int .i64 (p * r).num, Value.int .i64 ((p * r).den : Int)])
                    have Z10_0 : (Tryd.prog.info? 23).map (·.size) = some [Value.int .i64 (p * r).num, Value.int .i64 ((p * r).den : Int)].length := by (exact Tryd.szQ)
                    have K12_0 : Hid (∀ w', Below w20.heap.size w20 w' → w'.rangeAt g12 0 [Value.int .i64 (q * r).num, Value.int .i64 ((q * r).den : Int)]) := (fun w' h => blk_range (B12.next h B12.lt) : ∀ w', Below w20.heap.size w20 w' → w'.rangeAt g12 0 [Value.int .i64 (q * r).num, Value.int .i64 ((q * r).den : Int)])
                    have Z12_0 : (Tryd.prog.info? 23).map (·.size) = some [Value.int .i64 (q * r).num, Value.int .i64 ((q * r).den : Int)].length := by (exact Tryd.szQ)
                    refine wp_region_held_drew (S := fun w' => Below w20.heap.size w20 w') (by kernel_rfl) hdd (fun hHeld => ?_)
                    generalize w20.drew = wd at hdd hHeld ⊢
                    refine wpAnyH_take (i := 0) (v := ?vac_0) rfl (by kernel_rfl) (by kernel_rfl) (by kernel_rfl) (fun _ _ _ h => h) (Or.inl ⟨by rfl, ?yac_0⟩) (by assumption) ?rac_0
                    case yac_0 => intro w hSw; (try dsimp only at hSw); go_simp <;> (try with_reducible rfl)
                    (try simp only [List.getElem_toArray, List.getElem_cons_zero, Act.put, List.setIfInBounds_toArray, List.set_cons_zero, List.set_cons_succ])
                    refine wpAnyH_take (i := 1) (v := ?vac_1) rfl (by kernel_rfl) (by kernel_rfl) (by kernel_rfl) (fun _ _ _ h => h) (Or.inl ⟨by rfl, ?yac_1⟩) (by assumption) ?rac_1
                    case yac_1 => intro w hSw; (try dsimp only at hSw); go_simp <;> (try with_reducible rfl)
                    (try simp only [List.getElem_toArray, List.getElem_cons_succ, List.getElem_cons_zero, Act.put, List.setIfInBounds_toArray, List.set_cons_zero, List.set_cons_succ])
                    refine wpAnyH_take (i := 2) (v := ?vac_2) rfl (by kernel_rfl) (by kernel_rfl) (by kernel_rfl) (fun _ _ _ h => h) (Or.inl ⟨by rfl, ?yac_2⟩) (by assumption) ?rac_2
                    case yac_2 => intro w hSw; (try dsimp only at hSw); go_simp <;> (try with_reducible rfl)
                    (try simp only [List.getElem_toArray, List.getElem_cons_succ, List.getElem_cons_zero, Act.put, List.setIfInBounds_toArray, List.set_cons_zero, List.set_cons_succ])
                    refine wpAnyH_take (i := 3) (v := ?vac_3) rfl (by kernel_rfl) (by kernel_rfl) (by kernel_rfl) (fun _ _ _ h => h) (Or.inl ⟨by rfl, ?yac_3⟩) (by assumption) ?rac_3
                    case yac_3 => intro w hSw; (try dsimp only at hSw); go_simp <;> (try with_reducible rfl)
                    (try simp only [List.getElem_toArray, List.getElem_cons_succ, List.getElem_cons_zero, Act.put, List.setIfInBounds_toArray, List.set_cons_zero, List.set_cons_succ])
                    refine wpAnyH_take (i := 4) (v := ?vac_4) rfl (by kernel_rfl) (by kernel_rfl) (by kernel_rfl) (fun _ _ _ h => h) (Or.inl ⟨by rfl, ?yac_4⟩) (by assumption) ?rac_4
                    case yac_4 => intro w hSw; (try dsimp only at hSw); go_simp <;> (try with_reducible rfl)
                    (try simp only [List.getElem_toArray, List.getElem_cons_succ, List.getElem_cons_zero, Act.put, List.setIfInBounds_toArray, List.set_cons_zero, List.set_cons_succ])
                    refine wpAnyH_take (i := 5) (v := ?vac_5) rfl (by kernel_rfl) (by kernel_rfl) (by kernel_rfl) (fun _ _ _ h => h) (Or.inl ⟨by rfl, ?yac_5⟩) (by assumption) ?rac_5
                    case yac_5 => intro w hSw; (try dsimp only at hSw); go_simp <;> (try with_reducible rfl)
                    (try simp only [List.getElem_toArray, List.getElem_cons_succ, List.getElem_cons_zero, Act.put, List.setIfInBounds_toArray, List.set_cons_zero, List.set_cons_succ])
                    refine wpAnyH_take (i := 6) (v := ?vac_6) rfl (by kernel_rfl) (by kernel_rfl) (by kernel_rfl) (fun _ _ _ h => h) (Or.inl ⟨by rfl, ?yac_6⟩) (by assumption) ?rac_6
                    case yac_6 => intro w hSw; (try dsimp only at hSw); go_simp <;> (try with_reducible rfl)
                    (try simp only [List.getElem_toArray, List.getElem_cons_succ, List.getElem_cons_zero, Act.put, List.setIfInBounds_toArray, List.set_cons_zero, List.set_cons_succ])
                    refine' wpAnyH_take (i := 7) (v := _) rfl (by kernel_rfl) (by kernel_rfl) (by kernel_rfl) (fun _ _ _ h => h) (yieldsIf_load_mid (by rfl) _ _ (by rfl) _ _ (by rfl) _ _ ?Sac_7 ?uac_7 ?dac_7 ?iac_7) (by assumption) ?rac_7
                    case Sac_7 => exact (by intro w h; exact K10_0.out _ h)
                    case uac_7 => exact Tryd.underlying23
                    case dac_7 => rfl
                    case iac_7 => exact Z10_0
                    (try simp only [List.getElem_toArray, List.getElem_cons_succ, List.getElem_cons_zero, Act.put, List.setIfInBounds_toArray, List.set_cons_zero, List.set_cons_succ])
                    refine' wpAnyH_take (i := 8) (v := _) rfl (by kernel_rfl) (by kernel_rfl) (by kernel_rfl) (fun _ _ _ h => h) (yieldsIf_load_mid (by rfl) _ _ (by rfl) _ _ (by rfl) _ _ ?Sac_8 ?uac_8 ?dac_8 ?iac_8) (by assumption) ?rac_8
                    case Sac_8 => exact (by intro w h; exact K12_0.out _ h)
                    case uac_8 => exact Tryd.underlying23
                    case dac_8 => rfl
                    case iac_8 => exact Z12_0
                    (try simp only [List.getElem_toArray, List.getElem_cons_succ, List.getElem_cons_zero, Act.put, List.setIfInBounds_toArray, List.set_cons_zero, List.set_cons_succ])
                    refine wpAnyH_take (i := 10) (v := ?vac_10) rfl (by kernel_rfl) (by kernel_rfl) (by kernel_rfl) (fun _ _ _ h => h) (Or.inl ⟨by rfl, ?yac_10⟩) (by assumption) ?rac_10
                    case yac_10 => intro w hSw; (try dsimp only at hSw); go_simp <;> (try with_reducible rfl)
                    (try simp only [List.getElem_toArray, List.getElem_cons_succ, List.getElem_cons_zero, Act.put, List.setIfInBounds_toArray, List.set_cons_zero, List.set_cons_succ])
                    refine' wpAnyH_take (i := 11) (v := _) rfl (by kernel_rfl) (by kernel_rfl) (by kernel_rfl) (fun _ _ _ h => h) (yieldsIf_load_mid (by rfl) _ _ (by rfl) _ _ (by rfl) _ _ ?Sac_11 ?uac_11 ?dac_11 ?iac_11) (by assumption) ?rac_11
                    case Sac_11 => exact (by intro w h; exact K5_0.out _ h)
                    case uac_11 => exact Tryd.underlying23
                    case dac_11 => rfl
                    case iac_11 => exact Z5_0
                    (try simp only [List.getElem_toArray, List.getElem_cons_succ, List.getElem_cons_zero, Act.put, List.setIfInBounds_toArray, List.set_cons_zero, List.set_cons_succ])
                    refine wpAnyH_ready (rs := [9]) (by kernel_rfl) (by simp) ?_
                    refine AllReadyH.cons rfl (fun K hK => ?_) AllReadyH.nil
                    go_simp
                    go_wp2_with fail
                    (with_reducible refine (KU.out _).mono ?_)
                    rintro e w21 ⟨rfl, hb21⟩
                    have hk21 := below_join hdd hb21
                    refine hK.out _ _ hk21 (fun hHeld => ?_)
                    clear hK K hb21 hdd
                    refine wpAnyH_ready (rs := [12]) (by kernel_rfl) (by simp) ?_
                    refine AllReadyH.cons rfl (fun K hK => ?_) AllReadyH.nil
                    go_simp
                    go_wp2_with fail
                    (with_reducible refine (lwhole_any 0 _).mono ?_)
                    rintro e w22 ⟨rfl, hb22⟩
                    have hk22 := below_join hk21 hb22
                    refine hK.out _ _ hk22 (fun hHeld => ?_)
                    clear hK K hb22 hk21
                    refine wpAnyH_ready (rs := [13]) (by kernel_rfl) (by simp) ?_
                    refine AllReadyH.cons rfl (fun K hK => ?_) AllReadyH.nil
                    go_simp
                    go_wp2_with fail
                    (with_reducible refine (X5.out _).mono ?_)
                    rintro e w23 ⟨rfl, hb23⟩
                    have hk23 := below_join hk22 hb23
                    refine hK.out _ _ hk23 (fun hHeld => ?_)
                    clear hK K hb23 hk22
                    refine wpAnyH_take (i := 14) (v := ?vac_14) rfl (by kernel_rfl) (by kernel_rfl) (by kernel_rfl) (fun _ _ _ h => h) (Or.inl ⟨by rfl, ?yac_14⟩) (by assumption) ?rac_14
                    case yac_14 => intro w hSw; (try dsimp only at hSw); go_simp <;> (try with_reducible rfl)
                    (try simp only [List.getElem_toArray, List.getElem_cons_succ, List.getElem_cons_zero, Act.put, List.setIfInBounds_toArray, List.set_cons_zero, List.set_cons_succ])
                    refine wpAnyH_take (i := 15) (v := ?vac_15) rfl (by kernel_rfl) (by kernel_rfl) (by kernel_rfl) (fun _ _ _ h => h) (Or.inl ⟨by rfl, ?yac_15⟩) (by assumption) ?rac_15
                    case yac_15 => intro w hSw; (try dsimp only at hSw); go_simp <;> (try with_reducible rfl)
                    (try simp only [List.getElem_toArray, List.getElem_cons_succ, List.getElem_cons_zero, Act.put, List.setIfInBounds_toArray, List.set_cons_zero, List.set_cons_succ])
                    refine wpAnyH_take (i := 16) (v := ?vac_16) rfl (by kernel_rfl) (by kernel_rfl) (by kernel_rfl) (fun _ _ _ h => h) (Or.inl ⟨by rfl, ?yac_16⟩) (by assumption) ?rac_16
                    case yac_16 => intro w hSw; (try dsimp only at hSw); go_simp <;> (try with_reducible rfl)
                    (try simp only [List.getElem_toArray, List.getElem_cons_succ, List.getElem_cons_zero, Act.put, List.setIfInBounds_toArray, List.set_cons_zero, List.set_cons_succ])
                    refine wpAnyH_done (by kernel_rfl) ?_ _
                    clear hHeld K5_0 Z5_0 K10_0 Z10_0 K12_0 Z12_0
                    have B3 := B3.next hk23 B3.lt
                    have B4 := B4.next hk23 B4.lt
                    have B5 := B5.next hk23 B5.lt
                    have B10 := B10.next hk23 B10.lt
                    have B12 := B12.next hk23 B12.lt
                    have hbe := below_join hbe hk23
                    clear hk23
                    go_wp2
                    go_meet
                    exact ⟨rfl, B3, B4, B5, hbe⟩
                  · skip
                    go_wp2
                    have hdd := below_drew w20
                    refine wp_region_held_drew (S := fun w' => Below w20.heap.size w20 w') (by kernel_rfl) hdd (fun hHeld => ?_)
                    generalize w20.drew = wd at hdd hHeld ⊢
                    refine wpAnyH_take (i := 0) (v := ?vad_0) rfl (by kernel_rfl) (by kernel_rfl) (by kernel_rfl) (fun _ _ _ h => h) (Or.inl ⟨by rfl, ?yad_0⟩) (by assumption) ?rad_0
                    case yad_0 => intro w hSw; (try dsimp only at hSw); go_simp <;> (try with_reducible rfl)
                    (try simp only [List.getElem_toArray, List.getElem_cons_zero, Act.put, List.setIfInBounds_toArray, List.set_cons_zero, List.set_cons_succ])
                    refine wpAnyH_take (i := 1) (v := ?vad_1) rfl (by kernel_rfl) (by kernel_rfl) (by kernel_rfl) (fun _ _ _ h => h) (Or.inl ⟨by rfl, ?yad_1⟩) (by assumption) ?rad_1
                    case yad_1 => intro w hSw; (try dsimp only at hSw); go_simp <;> (try with_reducible rfl)
                    (try simp only [List.getElem_toArray, List.getElem_cons_succ, List.getElem_cons_zero, Act.put, List.setIfInBounds_toArray, List.set_cons_zero, List.set_cons_succ])
                    refine wpAnyH_take (i := 2) (v := ?vad_2) rfl (by kernel_rfl) (by kernel_rfl) (by kernel_rfl) (fun _ _ _ h => h) (Or.inl ⟨by rfl, ?yad_2⟩) (by assumption) ?rad_2
                    case yad_2 => intro w hSw; (try dsimp only at hSw); go_simp <;> (try with_reducible rfl)
                    (try simp only [List.getElem_toArray, List.getElem_cons_succ, List.getElem_cons_zero, Act.put, List.setIfInBounds_toArray, List.set_cons_zero, List.set_cons_succ])
                    refine wpAnyH_take (i := 3) (v := ?vad_3) rfl (by kernel_rfl) (by kernel_rfl) (by kernel_rfl) (fun _ _ _ h => h) (Or.inl ⟨by rfl, ?yad_3⟩) (by assumption) ?rad_3
                    case yad_3 => intro w hSw; (try dsimp only at hSw); go_simp <;> (try with_reducible rfl)
                    (try simp only [List.getElem_toArray, List.getElem_cons_succ, List.getElem_cons_zero, Act.put, List.setIfInBounds_toArray, List.set_cons_zero, List.set_cons_succ])
                    refine wpAnyH_take (i := 4) (v := ?vad_4) rfl (by kernel_rfl) (by kernel_rfl) (by kernel_rfl) (fun _ _ _ h => h) (Or.inl ⟨by rfl, ?yad_4⟩) (by assumption) ?rad_4
                    case yad_4 => intro w hSw; (try dsimp only at hSw); go_simp <;> (try with_reducible rfl)
                    (try simp only [List.getElem_toArray, List.getElem_cons_succ, List.getElem_cons_zero, Act.put, List.setIfInBounds_toArray, List.set_cons_zero, List.set_cons_succ])
                    refine wpAnyH_take (i := 5) (v := ?vad_5) rfl (by kernel_rfl) (by kernel_rfl) (by kernel_rfl) (fun _ _ _ h => h) (Or.inl ⟨by rfl, ?yad_5⟩) (by assumption) ?rad_5
                    case yad_5 => intro w hSw; (try dsimp only at hSw); go_simp <;> (try with_reducible rfl)
                    (try simp only [List.getElem_toArray, List.getElem_cons_succ, List.getElem_cons_zero, Act.put, List.setIfInBounds_toArray, List.set_cons_zero, List.set_cons_succ])
                    refine wpAnyH_take (i := 6) (v := ?vad_6) rfl (by kernel_rfl) (by kernel_rfl) (by kernel_rfl) (fun _ _ _ h => h) (Or.inl ⟨by rfl, ?yad_6⟩) (by assumption) ?rad_6
                    case yad_6 => intro w hSw; (try dsimp only at hSw); go_simp <;> (try with_reducible rfl)
                    (try simp only [List.getElem_toArray, List.getElem_cons_succ, List.getElem_cons_zero, Act.put, List.setIfInBounds_toArray, List.set_cons_zero, List.set_cons_succ])
                    refine wpAnyH_take (i := 7) (v := undef) rfl (by kernel_rfl) (by kernel_rfl) (by kernel_rfl) (fun _ _ _ h => h) (Or.inr ⟨by rfl, rfl⟩) (by assumption) ?rad_7
                    (try simp only [List.getElem_toArray, List.getElem_cons_succ, List.getElem_cons_zero, Act.put, List.setIfInBounds_toArray, List.set_cons_zero, List.set_cons_succ])
                    refine wpAnyH_take (i := 8) (v := undef) rfl (by kernel_rfl) (by kernel_rfl) (by kernel_rfl) (fun _ _ _ h => h) (Or.inr ⟨by rfl, rfl⟩) (by assumption) ?rad_8
                    (try simp only [List.getElem_toArray, List.getElem_cons_succ, List.getElem_cons_zero, Act.put, List.setIfInBounds_toArray, List.set_cons_zero, List.set_cons_succ])
                    refine wpAnyH_take (i := 9) (v := undef) rfl (by kernel_rfl) (by kernel_rfl) (by kernel_rfl) (fun _ _ _ h => h) (Or.inr ⟨by rfl, rfl⟩) (by assumption) ?rad_9
                    (try simp only [List.getElem_toArray, List.getElem_cons_succ, List.getElem_cons_zero, Act.put, List.setIfInBounds_toArray, List.set_cons_zero, List.set_cons_succ])
                    refine wpAnyH_take (i := 10) (v := undef) rfl (by kernel_rfl) (by kernel_rfl) (by kernel_rfl) (fun _ _ _ h => h) (Or.inr ⟨by rfl, rfl⟩) (by assumption) ?rad_10
                    (try simp only [List.getElem_toArray, List.getElem_cons_succ, List.getElem_cons_zero, Act.put, List.setIfInBounds_toArray, List.set_cons_zero, List.set_cons_succ])
                    refine wpAnyH_take (i := 11) (v := undef) rfl (by kernel_rfl) (by kernel_rfl) (by kernel_rfl) (fun _ _ _ h => h) (Or.inr ⟨by rfl, rfl⟩) (by assumption) ?rad_11
                    (try simp only [List.getElem_toArray, List.getElem_cons_succ, List.getElem_cons_zero, Act.put, List.setIfInBounds_toArray, List.set_cons_zero, List.set_cons_succ])
                    refine wpAnyH_take (i := 12) (v := undef) rfl (by kernel_rfl) (by kernel_rfl) (by kernel_rfl) (fun _ _ _ h => h) (Or.inr ⟨by rfl, rfl⟩) (by assumption) ?rad_12
                    (try simp only [List.getElem_toArray, List.getElem_cons_succ, List.getElem_cons_zero, Act.put, List.setIfInBounds_toArray, List.set_cons_zero, List.set_cons_succ])
                    refine wpAnyH_take (i := 13) (v := undef) rfl (by kernel_rfl) (by kernel_rfl) (by kernel_rfl) (fun _ _ _ h => h) (Or.inr ⟨by rfl, rfl⟩) (by assumption) ?rad_13
                    (try simp only [List.getElem_toArray, List.getElem_cons_succ, List.getElem_cons_zero, Act.put, List.setIfInBounds_toArray, List.set_cons_zero, List.set_cons_succ])
                    refine wpAnyH_take (i := 14) (v := undef) rfl (by kernel_rfl) (by kernel_rfl) (by kernel_rfl) (fun _ _ _ h => h) (Or.inr ⟨by rfl, rfl⟩) (by assumption) ?rad_14
                    (try simp only [List.getElem_toArray, List.getElem_cons_succ, List.getElem_cons_zero, Act.put, List.setIfInBounds_toArray, List.set_cons_zero, List.set_cons_succ])
                    refine wpAnyH_take (i := 15) (v := undef) rfl (by kernel_rfl) (by kernel_rfl) (by kernel_rfl) (fun _ _ _ h => h) (Or.inr ⟨by rfl, rfl⟩) (by assumption) ?rad_15
                    (try simp only [List.getElem_toArray, List.getElem_cons_succ, List.getElem_cons_zero, Act.put, List.setIfInBounds_toArray, List.set_cons_zero, List.set_cons_succ])
                    refine wpAnyH_take (i := 16) (v := ?vad_16) rfl (by kernel_rfl) (by kernel_rfl) (by kernel_rfl) (fun _ _ _ h => h) (Or.inl ⟨by rfl, ?yad_16⟩) (by assumption) ?rad_16
                    case yad_16 => intro w hSw; (try dsimp only at hSw); go_simp <;> (try with_reducible rfl)
                    (try simp only [List.getElem_toArray, List.getElem_cons_succ, List.getElem_cons_zero, Act.put, List.setIfInBounds_toArray, List.set_cons_zero, List.set_cons_succ])
                    refine wpAnyH_done (by kernel_rfl) ?_ _
                    clear hHeld 
                    have B3 := B3.next hdd B3.lt
                    have B4 := B4.next hdd B4.lt
                    have B5 := B5.next hdd B5.lt
                    have B10 := B10.next hdd B10.lt
                    have B12 := B12.next hdd B12.lt
                    have hbe := below_join hbe hdd
                    clear hdd
                    go_wp2
                    go_meet
                    exact ⟨rfl, B3, B4, B5, hbe⟩
                · skip
                  go_wp2
                  have hdd := below_drew w20
                  refine wp_region_held_drew (S := fun w' => Below w20.heap.size w20 w') (by kernel_rfl) hdd (fun hHeld => ?_)
                  generalize w20.drew = wd at hdd hHeld ⊢
                  refine wpAnyH_take (i := 0) (v := ?vae_0) rfl (by kernel_rfl) (by kernel_rfl) (by kernel_rfl) (fun _ _ _ h => h) (Or.inl ⟨by rfl, ?yae_0⟩) (by assumption) ?rae_0
                  case yae_0 => intro w hSw; (try dsimp only at hSw); go_simp <;> (try with_reducible rfl)
                  (try simp only [List.getElem_toArray, List.getElem_cons_zero, Act.put, List.setIfInBounds_toArray, List.set_cons_zero, List.set_cons_succ])
                  refine wpAnyH_take (i := 1) (v := ?vae_1) rfl (by kernel_rfl) (by kernel_rfl) (by kernel_rfl) (fun _ _ _ h => h) (Or.inl ⟨by rfl, ?yae_1⟩) (by assumption) ?rae_1
                  case yae_1 => intro w hSw; (try dsimp only at hSw); go_simp <;> (try with_reducible rfl)
                  (try simp only [List.getElem_toArray, List.getElem_cons_succ, List.getElem_cons_zero, Act.put, List.setIfInBounds_toArray, List.set_cons_zero, List.set_cons_succ])
                  refine wpAnyH_take (i := 2) (v := ?vae_2) rfl (by kernel_rfl) (by kernel_rfl) (by kernel_rfl) (fun _ _ _ h => h) (Or.inl ⟨by rfl, ?yae_2⟩) (by assumption) ?rae_2
                  case yae_2 => intro w hSw; (try dsimp only at hSw); go_simp <;> (try with_reducible rfl)
                  (try simp only [List.getElem_toArray, List.getElem_cons_succ, List.getElem_cons_zero, Act.put, List.setIfInBounds_toArray, List.set_cons_zero, List.set_cons_succ])
                  refine wpAnyH_take (i := 3) (v := undef) rfl (by kernel_rfl) (by kernel_rfl) (by kernel_rfl) (fun _ _ _ h => h) (Or.inr ⟨by rfl, rfl⟩) (by assumption) ?rae_3
                  (try simp only [List.getElem_toArray, List.getElem_cons_succ, List.getElem_cons_zero, Act.put, List.setIfInBounds_toArray, List.set_cons_zero, List.set_cons_succ])
                  refine wpAnyH_take (i := 4) (v := undef) rfl (by kernel_rfl) (by kernel_rfl) (by kernel_rfl) (fun _ _ _ h => h) (Or.inr ⟨by rfl, rfl⟩) (by assumption) ?rae_4
                  (try simp only [List.getElem_toArray, List.getElem_cons_succ, List.getElem_cons_zero, Act.put, List.setIfInBounds_toArray, List.set_cons_zero, List.set_cons_succ])
                  refine wpAnyH_take (i := 5) (v := ?vae_5) rfl (by kernel_rfl) (by kernel_rfl) (by kernel_rfl) (fun _ _ _ h => h) (Or.inl ⟨by rfl, ?yae_5⟩) (by assumption) ?rae_5
                  case yae_5 => intro w hSw; (try dsimp only at hSw); go_simp <;> (try with_reducible rfl)
                  (try simp only [List.getElem_toArray, List.getElem_cons_succ, List.getElem_cons_zero, Act.put, List.setIfInBounds_toArray, List.set_cons_zero, List.set_cons_succ])
                  refine wpAnyH_take (i := 6) (v := ?vae_6) rfl (by kernel_rfl) (by kernel_rfl) (by kernel_rfl) (fun _ _ _ h => h) (Or.inl ⟨by rfl, ?yae_6⟩) (by assumption) ?rae_6
                  case yae_6 => intro w hSw; (try dsimp only at hSw); go_simp <;> (try with_reducible rfl)
                  (try simp only [List.getElem_toArray, List.getElem_cons_succ, List.getElem_cons_zero, Act.put, List.setIfInBounds_toArray, List.set_cons_zero, List.set_cons_succ])
                  refine wpAnyH_take (i := 7) (v := undef) rfl (by kernel_rfl) (by kernel_rfl) (by kernel_rfl) (fun _ _ _ h => h) (Or.inr ⟨by rfl, rfl⟩) (by assumption) ?rae_7
                  (try simp only [List.getElem_toArray, List.getElem_cons_succ, List.getElem_cons_zero, Act.put, List.setIfInBounds_toArray, List.set_cons_zero, List.set_cons_succ])
                  refine wpAnyH_take (i := 8) (v := undef) rfl (by kernel_rfl) (by kernel_rfl) (by kernel_rfl) (fun _ _ _ h => h) (Or.inr ⟨by rfl, rfl⟩) (by assumption) ?rae_8
                  (try simp only [List.getElem_toArray, List.getElem_cons_succ, List.getElem_cons_zero, Act.put, List.setIfInBounds_toArray, List.set_cons_zero, List.set_cons_succ])
                  refine wpAnyH_take (i := 9) (v := undef) rfl (by kernel_rfl) (by kernel_rfl) (by kernel_rfl) (fun _ _ _ h => h) (Or.inr ⟨by rfl, rfl⟩) (by assumption) ?rae_9
                  (try simp only [List.getElem_toArray, List.getElem_cons_succ, List.getElem_cons_zero, Act.put, List.setIfInBounds_toArray, List.set_cons_zero, List.set_cons_succ])
                  refine wpAnyH_take (i := 10) (v := undef) rfl (by kernel_rfl) (by kernel_rfl) (by kernel_rfl) (fun _ _ _ h => h) (Or.inr ⟨by rfl, rfl⟩) (by assumption) ?rae_10
                  (try simp only [List.getElem_toArray, List.getElem_cons_succ, List.getElem_cons_zero, Act.put, List.setIfInBounds_toArray, List.set_cons_zero, List.set_cons_succ])
                  refine wpAnyH_take (i := 11) (v := undef) rfl (by kernel_rfl) (by kernel_rfl) (by kernel_rfl) (fun _ _ _ h => h) (Or.inr ⟨by rfl, rfl⟩) (by assumption) ?rae_11
                  (try simp only [List.getElem_toArray, List.getElem_cons_succ, List.getElem_cons_zero, Act.put, List.setIfInBounds_toArray, List.set_cons_zero, List.set_cons_succ])
                  refine wpAnyH_take (i := 12) (v := undef) rfl (by kernel_rfl) (by kernel_rfl) (by kernel_rfl) (fun _ _ _ h => h) (Or.inr ⟨by rfl, rfl⟩) (by assumption) ?rae_12
                  (try simp only [List.getElem_toArray, List.getElem_cons_succ, List.getElem_cons_zero, Act.put, List.setIfInBounds_toArray, List.set_cons_zero, List.set_cons_succ])
                  refine wpAnyH_take (i := 13) (v := undef) rfl (by kernel_rfl) (by kernel_rfl) (by kernel_rfl) (fun _ _ _ h => h) (Or.inr ⟨by rfl, rfl⟩) (by assumption) ?rae_13
                  (try simp only [List.getElem_toArray, List.getElem_cons_succ, List.getElem_cons_zero, Act.put, List.setIfInBounds_toArray, List.set_cons_zero, List.set_cons_succ])
                  refine wpAnyH_take (i := 14) (v := undef) rfl (by kernel_rfl) (by kernel_rfl) (by kernel_rfl) (fun _ _ _ h => h) (Or.inr ⟨by rfl, rfl⟩) (by assumption) ?rae_14
                  (try simp only [List.getElem_toArray, List.getElem_cons_succ, List.getElem_cons_zero, Act.put, List.setIfInBounds_toArray, List.set_cons_zero, List.set_cons_succ])
                  refine wpAnyH_take (i := 15) (v := undef) rfl (by kernel_rfl) (by kernel_rfl) (by kernel_rfl) (fun _ _ _ h => h) (Or.inr ⟨by rfl, rfl⟩) (by assumption) ?rae_15
                  (try simp only [List.getElem_toArray, List.getElem_cons_succ, List.getElem_cons_zero, Act.put, List.setIfInBounds_toArray, List.set_cons_zero, List.set_cons_succ])
                  refine wpAnyH_take (i := 16) (v := ?vae_16) rfl (by kernel_rfl) (by kernel_rfl) (by kernel_rfl) (fun _ _ _ h => h) (Or.inl ⟨by rfl, ?yae_16⟩) (by assumption) ?rae_16
                  case yae_16 => intro w hSw; (try dsimp only at hSw); go_simp <;> (try with_reducible rfl)
                  (try simp only [List.getElem_toArray, List.getElem_cons_succ, List.getElem_cons_zero, Act.put, List.setIfInBounds_toArray, List.set_cons_zero, List.set_cons_succ])
                  refine wpAnyH_done (by kernel_rfl) ?_ _
                  clear hHeld 
                  have B3 := B3.next hdd B3.lt
                  have B4 := B4.next hdd B4.lt
                  have B5 := B5.next hdd B5.lt
                  have B10 := B10.next hdd B10.lt
                  have B12 := B12.next hdd B12.lt
                  have hbe := below_join hbe hdd
                  clear hdd
                  go_wp2
                  go_meet
                  exact ⟨rfl, B3, B4, B5, hbe⟩
              case rest =>
                clear B3 B4 B5 B10 B12 hbe
                obtain ⟨rfl, B3, B4, B5, hbe⟩ := hcut
                -- @5
                go_upto_region 17 with fail
                go_cut [14, 15] from 16 (fun s14 s15 wx => s14 = .int .i64 fv ∧ s15 = .int .i64 gv ∧ Blk wx g3 23 [Value.int .i64 p.num, Value.int .i64 (p.den : Int)] ∧ Below w.heap.size w wx)
                case first =>
                  go_wp2
                  have hdd := below_drew wc
                  have K3_0 : Hid (∀ w', Below wc.heap.size wc w' → w'.rangeAt g3 0 [Value.int .i64 p.num, Value.int .i64 (p.den : Int)]) := (fun w' h => blk_range (B3.next h B3.lt) : ∀ w', Below wc.heap.size wc w' → w'.rangeAt g3 0 [Value.int .i64 p.num, Value.int .i64 (p.den : Int)])
                  have Z3_0 : (Tryd.prog.info? 23).map (·.size) = some [Value.int .i64 p.num, Value.int .i64 (p.den : Int)].length := by (exact Tryd.szQ)
                  refine wp_region_held_drew (S := fun w' => Below wc.heap.size wc w') (by kernel_rfl) hdd (fun hHeld => ?_)
                  generalize wc.drew = wd at hdd hHeld ⊢
                  refine' wpAnyH_take (i := 0) (v := _) rfl (by kernel_rfl) (by kernel_rfl) (by kernel_rfl) (fun _ _ _ h => h) (yieldsIf_load_mid (by rfl) _ _ (by rfl) _ _ (by rfl) _ _ ?Saf_0 ?uaf_0 ?daf_0 ?iaf_0) (by assumption) ?raf_0
                  case Saf_0 => exact (by intro w h; exact K3_0.out _ h)
                  case uaf_0 => exact Tryd.underlying23
                  case daf_0 => rfl
                  case iaf_0 => exact Z3_0
                  (try simp only [List.getElem_toArray, List.getElem_cons_zero, Act.put, List.setIfInBounds_toArray, List.set_cons_zero, List.set_cons_succ])
                  refine' wpAnyH_take (i := 2) (v := _) rfl (by kernel_rfl) (by kernel_rfl) (by kernel_rfl) (fun _ _ _ h => h) (yieldsIf_load_mid (by rfl) _ _ (by rfl) _ _ (by rfl) _ _ ?Saf_2 ?uaf_2 ?daf_2 ?iaf_2) (by assumption) ?raf_2
                  case Saf_2 => exact (by intro w h; exact K3_0.out _ h)
                  case uaf_2 => exact Tryd.underlying23
                  case daf_2 => rfl
                  case iaf_2 => exact Z3_0
                  (try simp only [List.getElem_toArray, List.getElem_cons_succ, List.getElem_cons_zero, Act.put, List.setIfInBounds_toArray, List.set_cons_zero, List.set_cons_succ])
                  refine wpAnyH_ready (rs := [1]) (by kernel_rfl) (by simp) ?_
                  refine AllReadyH.cons rfl (fun K hK => ?_) AllReadyH.nil
                  go_simp
                  go_wp2_with fail
                  (with_reducible refine (XF.out _).mono ?_)
                  rintro e w21 ⟨rfl, hb21⟩
                  have hk21 := below_join hdd hb21
                  refine hK.out _ _ hk21 (fun hHeld => ?_)
                  clear hK K hb21 hdd
                  refine wpAnyH_ready (rs := [3]) (by kernel_rfl) (by simp) ?_
                  refine AllReadyH.cons rfl (fun K hK => ?_) AllReadyH.nil
                  go_simp
                  go_wp2_with fail
                  (with_reducible refine (XG.out _).mono ?_)
                  rintro e w22 ⟨rfl, hb22⟩
                  have hk22 := below_join hk21 hb22
                  refine hK.out _ _ hk22 (fun hHeld => ?_)
                  clear hK K hb22 hk21
                  refine wpAnyH_take (i := 4) (v := ?vaf_4) rfl (by kernel_rfl) (by kernel_rfl) (by kernel_rfl) (fun _ _ _ h => h) (Or.inl ⟨by rfl, ?yaf_4⟩) (by assumption) ?raf_4
                  case yaf_4 => intro w hSw; (try dsimp only at hSw); go_simp <;> (try with_reducible rfl)
                  (try simp only [List.getElem_toArray, List.getElem_cons_succ, List.getElem_cons_zero, Act.put, List.setIfInBounds_toArray, List.set_cons_zero, List.set_cons_succ])
                  refine wpAnyH_take (i := 5) (v := ?vaf_5) rfl (by kernel_rfl) (by kernel_rfl) (by kernel_rfl) (fun _ _ _ h => h) (Or.inl ⟨by rfl, ?yaf_5⟩) (by assumption) ?raf_5
                  case yaf_5 => intro w hSw; (try dsimp only at hSw); go_simp <;> (try with_reducible rfl)
                  (try simp only [List.getElem_toArray, List.getElem_cons_succ, List.getElem_cons_zero, Act.put, List.setIfInBounds_toArray, List.set_cons_zero, List.set_cons_succ])
                  refine wpAnyH_done (by kernel_rfl) ?_ _
                  clear hHeld K3_0 Z3_0
                  have B3 := B3.next hk22 B3.lt
                  have B4 := B4.next hk22 B4.lt
                  have B5 := B5.next hk22 B5.lt
                  have hbe := below_join hbe hk22
                  clear hk22
                  go_wp2
                  go_meet
                  exact ⟨rfl, rfl, B3, hbe⟩
                case rest =>
                  clear B3 B4 B5 hbe
                  obtain ⟨rfl, rfl, B3, hbe⟩ := hcut
                  -- @6
                  go_wp2_with fail
                  (with_reducible refine (sanity_any _ (HQ.out.next hbe)).mono ?_)
                  rintro e w21 ⟨rfl, hb21⟩
                  have B3 := B3.next hb21 B3.lt
                  have hbe := below_join hbe hb21
                  clear hb21
                  obtain ⟨t1, t2, t3, t4, t5, hwm1, hwm2, hwgf, hm1, hm2⟩ := HT.out
                  have z30 := B3.cell (k := 0) rfl
                  have z31 := B3.cell (k := 1) rfl
                  go_wp2
                  go_ret
                  exact ⟨rfl, hbe⟩
end Go.Proofs.YthjaelopmfjfeaaDoor
