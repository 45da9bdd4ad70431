/-
  The walk of RatioSolvesAsSpecified. Conditions: the system, the lists and the library's variables lie there.
-/
import Derived.Test.YthjaelopmfjfeaaDoorZl
namespace Go.Proofs.YthjaelopmfjfeaaDoor
set_option linter.unusedVariables false
set_option linter.unusedSimpArgs false
open Go.RowKit Go.Shelf
set_option linter.unusedVariables false

set_option maxRecDepth 100000 in
set_option maxHeartbeats 6400000 in
theorem solvesLaw_any (A B X Y : Option Addr) (c d e f : Nat) (l : List (Hdr × List (Int × Int))) (bl xl yl : List (Int × Int)) (w : World) (hl : l.length ≤ 140737488355328) (hbl : bl.length ≤ 140737488355328) (hxl : xl.length ≤ 140737488355328) (hyl : yl.length ≤ 140737488355328) (hcb : bl.length ≤ d)
    (hS : HdrsAt w A (l.map fun p => p.1)) (hC : ∀ p ∈ l, CameQ w p) (hB : PsAt w B bl) (hX : PsAt w X xl) (hY : PsAt w Y yl) (hq : QW w) :
    Calls Tryd.prog 8 #[.slice A l.length c, .slice B bl.length d, .slice X xl.length e, .slice Y yl.length f] w fun e w' => e = .returned (.bool true) ∧ Below w.heap.size w w' := by
  have HQ := Lib.hid hq
  have K1 := Lib.hid (rcheckRows_any A c l w hl hS (fun p hp => (hC p hp).raw))
  obtain ⟨P1, hP1⟩ : ∃ A, Hid (crB l = A) := ⟨_, rfl⟩
  rw [hP1.out] at K1
  have K3 := Lib.hid (fun w hB => rcheckAll_any B d bl w (by omega) hB)
  have K4 := Lib.hid (fun w hB => rcheckAll_any X e xl w (by omega) hB)
  have K5 := Lib.hid (fun w hB => rcheckAll_any Y f yl w (by omega) hB)
  obtain ⟨P3, hP3⟩ : ∃ A, Hid ((bl.all fun p => chk p.1 p.2) = A) := ⟨_, rfl⟩
  obtain ⟨P4, hP4⟩ : ∃ A, Hid ((xl.all fun p => chk p.1 p.2) = A) := ⟨_, rfl⟩
  obtain ⟨P5, hP5⟩ : ∃ A, Hid ((yl.all fun p => chk p.1 p.2) = A) := ⟨_, rfl⟩
  rw [hP3.out] at K3
  rw [hP4.out] at K4
  rw [hP5.out] at K5
  have HBS := Lib.hid (fun h1 h3 hb => both_solve (c := c) hS hC hB h1 h3 hb hcb)
  have HBH := Lib.hid (fun h1 h3 h4 hb hx => both_holds (c := c) (d := d) (e := e) hS hC hB hX h1 h3 h4 hb hx)
  have HBR := Lib.hid (fun h1 h3 h4 hb hx => both_refutes (c := c) (d := d) (e := f) hS hC hB hY h1 h3 h4 hb hx)
  have HB := Lib.hid hB
  have HX := Lib.hid hX
  have HY := Lib.hid hY
  obtain ⟨ln, hln⟩ : ∃ n, Hid (l.length = n) := ⟨_, rfl⟩
  obtain ⟨bn, hbn⟩ : ∃ n, Hid (bl.length = n) := ⟨_, rfl⟩
  obtain ⟨xn, hxn⟩ : ∃ n, Hid (xl.length = n) := ⟨_, rfl⟩
  obtain ⟨yn, hyn⟩ : ∃ n, Hid (yl.length = n) := ⟨_, rfl⟩
  rw [hln.out] at K1 HBS HBH HBR hl ⊢
  rw [hbn.out] at K3 HBS HBH HBR hbl hcb ⊢
  rw [hxn.out] at K4 HBH hxl ⊢
  rw [hyn.out] at K5 HBR hyl ⊢
  clear hS hC hB hX hY hq
  go_enter Tryd.func8, Tryd.ntmps8
  have hbe := Below.refl w.heap.size w
  go_wp2_with fail
  (with_reducible refine (K1.out).mono ?_)
  rintro e w1 ⟨rfl, hb1⟩
  have hbe := below_join hbe hb1
  clear hb1
  rcases P1 with _ | _
  · skip
    go_wp2_with fail
    (with_reducible refine (sanity_any _ (HQ.out.next hbe)).mono ?_)
    rintro e w2 ⟨rfl, hb2⟩
    have hbe := below_join hbe hb2
    clear hb2
    go_wp2
    go_ret
    exact ⟨rfl, hbe⟩
  · skip
    by_cases gbn : bn ≤ 25
    · skip
      have gbnb : decide (25 < (bn : Int)) = false := decide_eq_false (by omega)
      have gbnc : ¬ (25 : Int) < (bn : Int) := by omega
      by_cases gxn : xn ≤ 25
      · skip
        have gxnb : decide (25 < (xn : Int)) = false := decide_eq_false (by omega)
        have gxnc : ¬ (25 : Int) < (xn : Int) := by omega
        by_cases gyn : yn ≤ 25
        · skip
          have gynb : decide (25 < (yn : Int)) = false := decide_eq_false (by omega)
          have gync : ¬ (25 : Int) < (yn : Int) := by omega
          go_wp2_with fail
          (with_reducible refine (K3.out _ (HB.out.next hbe)).mono ?_)
          rintro e w2 ⟨rfl, hb2⟩
          have hbe := below_join hbe hb2
          clear hb2
          rcases P3 with _ | _
          · skip
            go_wp2_with fail
            (with_reducible refine (sanity_any _ (HQ.out.next hbe)).mono ?_)
            rintro e w3 ⟨rfl, hb3⟩
            have hbe := below_join hbe hb3
            clear hb3
            go_wp2
            go_ret
            exact ⟨rfl, hbe⟩
          · skip
            go_wp2_with fail
            (with_reducible refine (K4.out _ (HX.out.next hbe)).mono ?_)
            rintro e w3 ⟨rfl, hb3⟩
            have hbe := below_join hbe hb3
            clear hb3
            rcases P4 with _ | _
            · skip
              go_wp2_with fail
              (with_reducible refine (sanity_any _ (HQ.out.next hbe)).mono ?_)
              rintro e w4 ⟨rfl, hb4⟩
              have hbe := below_join hbe hb4
              clear hb4
              go_wp2
              go_ret
              exact ⟨rfl, hbe⟩
            · skip
              go_wp2_with fail
              (with_reducible refine (K5.out _ (HY.out.next hbe)).mono ?_)
              rintro e w4 ⟨rfl, hb4⟩
              have hbe := below_join hbe hb4
              clear hb4
              rcases P5 with _ | _
              · skip
                go_wp2_with fail
                (with_reducible refine (sanity_any _ (HQ.out.next hbe)).mono ?_)
                rintro e w5 ⟨rfl, hb5⟩
                have hbe := below_join hbe hb5
                clear hb5
                go_wp2
                go_ret
                exact ⟨rfl, hbe⟩
              · skip
                obtain ⟨P, Q, k, hso⟩ := HBS.out hP1.out hP3.out gbn
                obtain ⟨kh, hho⟩ := HBH.out hP1.out hP3.out hP4.out gbn gxn
                obtain ⟨kr, hre⟩ := HBR.out hP1.out hP3.out hP5.out gbn gyn
                obtain ⟨pn, hpn⟩ : ∃ n, Hid (P.length = n) := ⟨_, rfl⟩
                obtain ⟨qn, hqn⟩ : ∃ n, Hid (Q.length = n) := ⟨_, rfl⟩
                unfold Two at hso
                rw [hpn.out, hqn.out] at hso
                have HSO := Lib.hid hso
                have HHO := Lib.hid hho
                have HRE := Lib.hid hre
                clear hso hho hre HBS HBH HBR
                go_wp2_with fail
                (with_reducible refine ((HSO.out _ hbe).1).mono ?_)
                rintro e w5 ⟨A1, c1, A2, c2, rfl, PA, PB, hb5, hpn20, hqn20⟩
                have hbe := below_join hbe hb5
                clear hb5
                go_wp2_with fail
                (with_reducible refine ((HSO.out _ hbe).2).mono ?_)
                rintro e w6 ⟨A3, c3, A4, c4, rfl, PC, PD, hb6, hpn20, hqn20⟩
                have PA := PA.next hb6
                have PB := PB.next hb6
                have hbe := below_join hbe hb6
                clear hb6
                have HSP : Hid (∀ (w : World) (A B : Option Addr) (c d : Nat), PsAt w A P → PsAt w B P → Calls Tryd.prog 43 #[.slice A pn c, .slice B pn d] w fun e w' => e = .returned (.bool true) ∧ Below w.heap.size w w') := (fun w A B c d h1 h2 => by
                  have h := rsame_any A B c d P P w (by rw [hpn.out]; omega) (by rw [hpn.out]; omega) h1 h2
                  rw [decide_eq_true rfl, hpn.out] at h
                  exact h : ∀ (w : World) (A B : Option Addr) (c d : Nat), PsAt w A P → PsAt w B P → Calls Tryd.prog 43 #[.slice A pn c, .slice B pn d] w fun e w' => e = .returned (.bool true) ∧ Below w.heap.size w w')
                have HSQ : Hid (∀ (w : World) (A B : Option Addr) (c d : Nat), PsAt w A Q → PsAt w B Q → Calls Tryd.prog 43 #[.slice A qn c, .slice B qn d] w fun e w' => e = .returned (.bool true) ∧ Below w.heap.size w w') := (fun w A B c d h1 h2 => by
                  have h := rsame_any A B c d Q Q w (by rw [hqn.out]; omega) (by rw [hqn.out]; omega) h1 h2
                  rw [decide_eq_true rfl, hqn.out] at h
                  exact h : ∀ (w : World) (A B : Option Addr) (c d : Nat), PsAt w A Q → PsAt w B Q → Calls Tryd.prog 43 #[.slice A qn c, .slice B qn d] w fun e w' => e = .returned (.bool true) ∧ Below w.heap.size w w')
                have hkb : (k == k) = true := by simp
                have hkhb : (kh == kh) = true := by simp
                have hkrb : (kr == kr) = true := by simp
                go_wp2_with fail
                (with_reducible refine (sanity_any _ (HQ.out.next hbe)).mono ?_)
                rintro e w7 ⟨rfl, hb7⟩
                have PA := PA.next hb7
                have PB := PB.next hb7
                have PC := PC.next hb7
                have PD := PD.next hb7
                have hbe := below_join hbe hb7
                clear hb7
                go_wp2_with fail
                (with_reducible refine (HSP.out _ A1 A3 c1 c3 PA PC).mono ?_)
                rintro e w8 ⟨rfl, hb8⟩
                have PA := PA.next hb8
                have PB := PB.next hb8
                have PC := PC.next hb8
                have PD := PD.next hb8
                have hbe := below_join hbe hb8
                clear hb8
                clear PA
                clear PC
                go_wp2_with fail
                (with_reducible refine (HSQ.out _ A2 A4 c2 c4 PB PD).mono ?_)
                rintro e w9 ⟨rfl, hb9⟩
                have PB := PB.next hb9
                have PD := PD.next hb9
                have hbe := below_join hbe hb9
                clear hb9
                clear PB
                clear PD
                go_wp2_with fail
                (with_reducible refine ((HHO.out _ hbe).1).mono ?_)
                rintro e w10 ⟨rfl, hb10⟩
                have hbe := below_join hbe hb10
                clear hb10
                go_wp2_with fail
                (with_reducible refine ((HHO.out _ hbe).2).mono ?_)
                rintro e w11 ⟨rfl, hb11⟩
                have hbe := below_join hbe hb11
                clear hb11
                go_wp2_with fail
                (with_reducible refine ((HRE.out _ hbe).1).mono ?_)
                rintro e w12 ⟨rfl, hb12⟩
                have hbe := below_join hbe hb12
                clear hb12
                go_wp2_with fail
                (with_reducible refine ((HRE.out _ hbe).2).mono ?_)
                rintro e w13 ⟨rfl, hb13⟩
                have hbe := below_join hbe hb13
                clear hb13
                go_wp2
                go_ret
                exact ⟨rfl, hbe⟩
        · skip
          have gynb : decide (25 < (yn : Int)) = true := decide_eq_true (by omega)
          have gync : (25 : Int) < (yn : Int) := by omega
          go_wp2_with fail
          (with_reducible refine (sanity_any _ (HQ.out.next hbe)).mono ?_)
          rintro e w2 ⟨rfl, hb2⟩
          have hbe := below_join hbe hb2
          clear hb2
          go_wp2
          go_ret
          exact ⟨rfl, hbe⟩
      · skip
        have gxnb : decide (25 < (xn : Int)) = true := decide_eq_true (by omega)
        have gxnc : (25 : Int) < (xn : Int) := by omega
        go_wp2_with fail
        (with_reducible refine (sanity_any _ (HQ.out.next hbe)).mono ?_)
        rintro e w2 ⟨rfl, hb2⟩
        have hbe := below_join hbe hb2
        clear hb2
        go_wp2
        go_ret
        exact ⟨rfl, hbe⟩
    · skip
      have gbnb : decide (25 < (bn : Int)) = true := decide_eq_true (by omega)
      have gbnc : (25 : Int) < (bn : Int) := by omega
      go_wp2_with fail
      (with_reducible refine (sanity_any _ (HQ.out.next hbe)).mono ?_)
      rintro e w2 ⟨rfl, hb2⟩
      have hbe := below_join hbe hb2
      clear hb2
      go_wp2
      go_ret
      exact ⟨rfl, hbe⟩
end Go.Proofs.YthjaelopmfjfeaaDoor
