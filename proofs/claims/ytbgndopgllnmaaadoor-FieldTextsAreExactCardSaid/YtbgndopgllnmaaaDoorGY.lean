/-
  Contracts of the functions that the statement calls, part 25 of 25 (merged texts: Ft). Conditions: as the head of each part says.
-/
import Derived.Test.YtbgndopgllnmaaaDoorGX
import Derived.Test.YtbgndopgllnmaaaDoorGI
import Derived.Test.YtbgndopgllnmaaaDoorGS

/-
  The walks over FieldChecksAsSpecified and FieldSets: they return true. Conditions: names and lists that are not too long; the library's variables lie there.
-/
namespace Go.Proofs.YtbgndopgllnmaaaDoor
set_option linter.unusedVariables false
set_option linter.unusedSimpArgs false
open Go.RowKit Go.Shelf
set_option linter.unusedVariables false

theorem rnameB_any (s : ByteArray) (w : World) (hs : s.size ≤ 9223372036854775807) :
    Calls Tryd.prog 12 #[.string s] w fun e w' => e = .returned (.bool (nameB s)) ∧ Below w.heap.size w w' := by
  refine (rname_any s w hs).mono ?_
  rintro e w' ⟨he, rfl⟩
  exact ⟨he, Below.refl _ _⟩
set_option maxRecDepth 100000 in
set_option maxHeartbeats 3200000 in
theorem checksLaw_any (A : Option Addr) (c : Nat) (l : List Fd) (s : ByteArray) (w : World) (hl : l.length ≤ 140737488355328) (hc : l.length ≤ c) (hz : ∀ f ∈ l, f.nm.size ≤ 9223372036854775807) (hs : s.size ≤ 9223372036854775807) (hS : FsAt w A l) (hQ : QF w) :
    Calls Tryd.prog 3 #[.slice A l.length c, .string s] w fun e w' => e = .returned (.bool true) ∧ Below w.heap.size w w' := by
  have HSA := Lib.hid (fun w h => sanity_any w h)
  have HQ := Lib.hid hQ
  have HS := Lib.hid hS
  have HCK := Lib.hid (fun w' (h : FsAt w' A l) => check_any A c l w' hl hc hz h)
  have HRC := Lib.hid (fun w' (h : FsAt w' A l) => rcheck_any A c l w' hl hz h)
  have HNM := Lib.hid (fun w' => name_any s w' (by omega))
  have HRN := Lib.hid (fun w' => rnameB_any s w' hs)
  obtain ⟨n, hn⟩ : ∃ n, l.length = n := ⟨_, rfl⟩
  obtain ⟨C, hC⟩ : ∃ C, checkM l = C := ⟨_, rfl⟩
  obtain ⟨N, hN⟩ : ∃ N, nameB s = N := ⟨_, rfl⟩
  rw [hn] at HCK HRC hl ⊢
  rw [hC] at HCK HRC
  rw [hN] at HNM HRN
  have hni : (n : Int) ≤ 140737488355328 := by omega
  have hsi : (s.size : Int) ≤ 9223372036854775807 := by omega
  have hbe : Below w.heap.size w w := Below.refl _ _
  clear hS hQ hz hc hn hC hN
  by_cases h30 : n ≤ 30
  · have h30d : decide (30 < n) = false := decide_eq_false (by omega)
    have h30e : decide ((30 : Int) < (n : Int)) = false := decide_eq_false (by omega)
    by_cases h1k : s.size ≤ 1000
    · have h1d : decide (1000 < s.size) = false := decide_eq_false (by omega)
      have h1e : decide ((1000 : Int) < (s.size : Int)) = false := decide_eq_false (by omega)
      go_enter Tryd.func3, Tryd.ntmps3
      go_wp2_with fail
      (with_reducible refine (HSA.out _ (HQ.out.next hbe)).mono ?_)
      rintro e w1 ⟨rfl, hb1⟩
      have hbe := below_join hbe hb1
      clear hb1
      go_wp2_with fail
      (with_reducible refine (HCK.out _ (HS.out.next hbe)).mono ?_)
      rintro e w2 ⟨rfl, hb2⟩
      have hbe := below_join hbe hb2
      clear hb2
      go_wp2_with fail
      (with_reducible refine (HRC.out _ (HS.out.next hbe)).mono ?_)
      rintro e w3 ⟨rfl, hb3⟩
      have hbe := below_join hbe hb3
      clear hb3
      go_wp2_with fail
      (with_reducible refine (HNM.out _).mono ?_)
      rintro e w4 ⟨rfl, hb4⟩
      have hbe := below_join hbe hb4
      clear hb4
      go_wp2_with fail
      (with_reducible refine (HRN.out _).mono ?_)
      rintro e w5 ⟨rfl, hb5⟩
      have hbe := below_join hbe hb5
      clear hb5
      go_wp2
      go_ret
      exact ⟨by first | rfl | (cases N <;> rfl), hbe⟩
    · have h1d : decide (1000 < s.size) = true := decide_eq_true (by omega)
      have h1e : decide ((1000 : Int) < (s.size : Int)) = true := decide_eq_true (by omega)
      go_enter Tryd.func3, Tryd.ntmps3
      go_wp2_with fail
      (with_reducible refine (HSA.out _ (HQ.out.next hbe)).mono ?_)
      rintro e w1 ⟨rfl, hb1⟩
      have hbe := below_join hbe hb1
      clear hb1
      go_wp2
      go_ret
      exact ⟨rfl, hbe⟩
  · have h30d : decide (30 < n) = true := decide_eq_true (by omega)
    have h30e : decide ((30 : Int) < (n : Int)) = true := decide_eq_true (by omega)
    go_enter Tryd.func3, Tryd.ntmps3
    go_wp2_with fail
    (with_reducible refine (HSA.out _ (HQ.out.next hbe)).mono ?_)
    rintro e w1 ⟨rfl, hb1⟩
    have hbe := below_join hbe hb1
    clear hb1
    go_wp2
    go_ret
    exact ⟨rfl, hbe⟩
set_option maxRecDepth 100000 in
set_option maxHeartbeats 12800000 in
theorem setsLaw_any (s t : ByteArray) (a n b m x : Int) (hl : List Int) (w : World) (hl10 : hl.length = 10) (hs : s.size ≤ 9223372036854775807) (ht : t.size ≤ 9223372036854775807) (hQ : QF w) :
    Calls Tryd.prog 5 #[.agg #[.string s, .int .i64 a, .int .i64 n], .agg #[.string t, .int .i64 b, .int .i64 m], .agg (hl.map iV).toArray, .int .i64 x] w fun e w' => e = .returned (.bool true) ∧ Below w.heap.size w w' := by
  have HSA := Lib.hid (fun w h => sanity_any w h)
  have HQ := Lib.hid hQ
  have HR1 := Lib.hid (fun w => rright8_any s a n w hs)
  have HR2 := Lib.hid (fun w => rright8_any t b m w ht)
  have HR3 := Lib.hid (fun w => rrightHead_any hl w hl10)
  have hone : ∀ u ∈ hl.map iV, u.oneCell' = true := fun u hu => by
    obtain ⟨y, _, rfl⟩ := List.mem_map.1 hu
    rfl
  clear hQ
  obtain ⟨C2, hC2⟩ : ∃ C, decide (rightF ⟨t, b, m⟩) = C := ⟨_, rfl⟩
  obtain ⟨C3, hC3⟩ : ∃ C, decide (rightI hl) = C := ⟨_, rfl⟩
  rw [hC2] at HR2
  rw [hC3] at HR3
  by_cases h1 : rightF ⟨s, a, n⟩
  · rw [decide_eq_true h1] at HR1
    cases C2 with
    | true =>
      cases C3 with
      | true =>
        obtain ⟨a', n', ha, hn, hLf⟩ := right_lies h1
        obtain ⟨b', m', hb, hm, hLg⟩ := right_lies (of_decide_eq_true hC2)
        obtain ⟨h, hh⟩ := right_head hl10 (of_decide_eq_true hC3)
        have ha : a = (a' : Int) := ha
        have hn : n = (n' : Int) := hn
        have hb : b = (b' : Int) := hb
        have hm : m = (m' : Int) := hm
        subst ha hn hb hm hh
        have hHi : (HI h).map iV = H h := (H_iV h).symm
        rw [hHi] at HR3 ⊢
        have HMX := Lib.hid (fun w => rmax_any s a' n' w hLf)
        have hp := hLf.pow
        have hp0 := Nat.two_pow_pos n'
        clear hone hl10 hC2 hC3 h1
        by_cases hx0 : x < 0
        · have hx0d : decide (x < 0) = true := decide_eq_true hx0
          go_enter Tryd.func5, Tryd.ntmps5
          go_wp2_with (with_reducible refine wpList_box (o := ⟨some 4, .box 33 (.tmp 0), _, _, _, _⟩) ?g4qaa 33 (.tmp 0) ?o4qaa (.agg #[.string s, .int .i64 (a' : Int), .int .i64 (n' : Int)]) [Value.string s, .int .i64 (a' : Int), .int .i64 (n' : Int)] ?x4qaa ?c4qaa ?_)
          try (case g4qaa => rfl)
          try (case o4qaa => rfl)
          try (case x4qaa => rfl)
          try (case c4qaa => rfl)
          intro g4 w1 hg4 hs1 hb1 B4
          have hl4 : w.heap.size ≤ g4 := Nat.le_of_eq hg4.out.symm
          have hb1 := hb1.mono (Nat.le_of_eq hg4.out.symm)
          have hbe : Below w.heap.size w w1 := hb1
          clear hb1 hg4 hs1
          go_wp2_with (with_reducible refine wpList_box (o := ⟨some 5, .box 33 (.tmp 1), _, _, _, _⟩) ?g5qab 33 (.tmp 1) ?o5qab (.agg #[.string t, .int .i64 (b' : Int), .int .i64 (m' : Int)]) [Value.string t, .int .i64 (b' : Int), .int .i64 (m' : Int)] ?x5qab ?c5qab ?_)
          try (case g5qab => rfl)
          try (case o5qab => rfl)
          try (case x5qab => rfl)
          try (case c5qab => rfl)
          intro g5 w2 hg5 hs2 hb2 B5
          have hl5 : w.heap.size ≤ g5 := Nat.le_trans hbe.size (Nat.le_of_eq hg5.out.symm)
          have ne4_5 : g4 ≠ g5 := by have := B4.lt; have := hg5.out; omega
          have ne5_4 := ne4_5.symm
          have hb2 := hb2.mono (Nat.le_of_eq hg5.out.symm)
          have B4 := B4.next hb2 B4.lt
          have hbe := below_join hbe hb2
          clear hb2 hg5 hs2
          go_wp2_with (with_reducible refine wpList_box (o := ⟨some 6, .box 30 (.tmp 2), _, _, _, _⟩) ?g6qac 30 (.tmp 2) ?o6qac (.agg (H h).toArray) (H h) ?x6qac ?c6qac ?_)
          try (case g6qac => rfl)
          try (case o6qac => rfl)
          try (case x6qac => rfl)
          try (case c6qac => rfl)
          intro g6 w3 hg6 hs3 hb3 B6
          have hl6 : w.heap.size ≤ g6 := Nat.le_trans hbe.size (Nat.le_of_eq hg6.out.symm)
          have ne4_6 : g4 ≠ g6 := by have := B4.lt; have := hg6.out; omega
          have ne6_4 := ne4_6.symm
          have ne5_6 : g5 ≠ g6 := by have := B5.lt; have := hg6.out; omega
          have ne6_5 := ne5_6.symm
          have hb3 := hb3.mono (Nat.le_of_eq hg6.out.symm)
          have B4 := B4.next hb3 B4.lt
          have B5 := B5.next hb3 B5.lt
          have hbe := below_join hbe hb3
          clear hb3 hg6 hs3
          have z4_0 := B4.cell (k := 0) rfl
          have z4_1 := B4.cell (k := 1) rfl
          have z4_2 := B4.cell (k := 2) rfl
          go_wp2_with fail
          (with_reducible refine (HR1.out _).mono ?_)
          rintro e w4 ⟨rfl, hb4⟩
          clear z4_0 z4_1 z4_2
          have B4 := B4.next hb4 B4.lt
          have B5 := B5.next hb4 B5.lt
          have B6 := B6.next hb4 B6.lt
          have hbe := below_join hbe hb4
          clear hb4
          have z5_0 := B5.cell (k := 0) rfl
          have z5_1 := B5.cell (k := 1) rfl
          have z5_2 := B5.cell (k := 2) rfl
          go_wp2_with fail
          (with_reducible refine (HR2.out _).mono ?_)
          rintro e w5 ⟨rfl, hb5⟩
          clear z5_0 z5_1 z5_2
          have B4 := B4.next hb5 B4.lt
          have B5 := B5.next hb5 B5.lt
          have B6 := B6.next hb5 B6.lt
          have hbe := below_join hbe hb5
          clear hb5
          go_wp2_with (first | (with_reducible refine wpList_getg (o := ⟨some 18, .load 30 (.tmp 6), _, _, _, _⟩) (by with_unfolding_all rfl) 30 (.tmp 6) (by with_unfolding_all rfl) g6 0 (by with_unfolding_all rfl) B6 (H h) (cs_all _) _ (by exact Tryd.underlying30) (by with_unfolding_all rfl) (by first | (rw [H_length]; exact Tryd.szH) | (rw [List.length_map, hl10]; exact Tryd.szH)) ?_))
          (with_reducible refine (HR3.out _).mono ?_)
          rintro e w6 ⟨rfl, hb6⟩
          have B4 := B4.next hb6 B4.lt
          have B5 := B5.next hb6 B5.lt
          have B6 := B6.next hb6 B6.lt
          have hbe := below_join hbe hb6
          clear hb6
          go_wp2_with fail
          (with_reducible refine (HSA.out _ (HQ.out.next hbe)).mono ?_)
          rintro e w7 ⟨rfl, hb7⟩
          have B4 := B4.next hb7 B4.lt
          have B5 := B5.next hb7 B5.lt
          have B6 := B6.next hb7 B6.lt
          have hbe := below_join hbe hb7
          clear hb7
          go_wp2
          go_ret
          exact ⟨rfl, hbe⟩
        · have hx0d : decide (x < 0) = false := decide_eq_false hx0
          obtain ⟨X, hX⟩ : ∃ X : Nat, x = (X : Int) := ⟨x.toNat, by omega⟩
          subst hX
          obtain ⟨M, hM⟩ : ∃ M, 2 ^ n' - 1 = M := ⟨_, rfl⟩
          rw [hM] at HMX
          by_cases hxM : X ≤ M
          · have hxMd : decide ((X : Int) > (M : Int)) = false := decide_eq_false (by omega)
            have hxMe : decide ((M : Int) < (X : Int)) = false := decide_eq_false (by omega)
            have hxMf : decide (M < X) = false := decide_eq_false (by omega)
            have hXp : X < 2 ^ n' := by omega
            have HSE := Lib.hid (fun w => set_any s a' n' X h w hLf hXp)
            have HS2 := Lib.hid (fun w => rset2_any s a' n' X h w hLf hXp)
            obtain ⟨K, hK⟩ : ∃ K, setF a' n' X h = K := ⟨_, rfl⟩
            have hVl := fieldN_lt h a' n'
            have HG1 := Lib.hid (fun w => get_any s a' n' K w hLf)
            have HG2 := Lib.hid (fun w => get_any s a' n' h w hLf)
            have HB1 := Lib.hid (fun w => set_any s a' n' (fieldN h a' n') h w hLf hVl)
            have HB2 := Lib.hid (fun w => set_any s a' n' (fieldN h a' n') K w hLf hVl)
            have e1 : H (setF a' n' (fieldN h a' n') h) = H h := H_congr fun i _ => setF_same h i
            have e2 : H (setF a' n' (fieldN h a' n') K) = H h := by rw [← hK]; exact H_congr fun i _ => setF_back h i
            have e3 : fieldN K a' n' = X := by rw [← hK]; exact setF_get h hXp
            have HRK := Lib.hid (fun w => rrightHead_any (HI K) w (HI_length K))
            rw [decide_eq_true (rightI_HI K), show (HI K).map iV = H K from (H_iV K).symm] at HRK
            have HGA := Lib.hid (fun w => get_any t b' m' K w hLg)
            have HGB := Lib.hid (fun w => get_any t b' m' h w hLg)
            have hap : a' + n' ≤ b' ∨ b' + m' ≤ a' → fieldN K b' m' = fieldN h b' m' := fun k => by rw [← hK]; exact setF_other h k
            rw [hK] at HSE HS2
            rw [e1] at HB1
            rw [e2] at HB2
            rw [e3] at HG1
            obtain ⟨V, hV⟩ : ∃ V, fieldN h a' n' = V := ⟨_, rfl⟩
            rw [hV] at HG2 HB1 HB2
            obtain ⟨V1, hV1⟩ : ∃ V, fieldN K b' m' = V := ⟨_, rfl⟩
            obtain ⟨V2, hV2⟩ : ∃ V, fieldN h b' m' = V := ⟨_, rfl⟩
            rw [hV1] at HGA hap
            rw [hV2] at HGB hap
            have hnK : ∀ w, (binOp .neq 30 (.agg (H K).toArray) (.agg (H K).toArray)).run Tryd.prog w = .ok (.bool false) w := fun w => by rw [neqH, decide_eq_true rfl]; rfl
            have hnh : ∀ w, (binOp .neq 30 (.agg (H h).toArray) (.agg (H h).toArray)).run Tryd.prog w = .ok (.bool false) w := fun w => by rw [neqH, decide_eq_true rfl]; rfl
            have hHb := hLf.head
            have hHc := hLg.head
            obtain ⟨EA, hEA⟩ : ∃ E, a' + n' = E := ⟨_, rfl⟩
            obtain ⟨EB, hEB⟩ : ∃ E, b' + m' = E := ⟨_, rfl⟩
            rw [hEA] at hap hHb
            rw [hEB] at hap hHc
            have hEAi : (a' : Int) + (n' : Int) = (EA : Int) := by omega
            have hEBi : (b' : Int) + (m' : Int) = (EB : Int) := by omega
            have hwEA : IntKind.i64.wrap (EA : Int) = (EA : Int) := by simp only [IntKind.wrap_i64]; omega
            have hwEB : IntKind.i64.wrap (EB : Int) = (EB : Int) := by simp only [IntKind.wrap_i64]; omega
            have HAP := Lib.hid hap
            clear e1 e2 e3 hap hK hV hV1 hV2 hEA hEB hM hVl
            go_enter Tryd.func5, Tryd.ntmps5
            go_wp2_with (with_reducible refine wpList_box (o := ⟨some 4, .box 33 (.tmp 0), _, _, _, _⟩) ?g4qad 33 (.tmp 0) ?o4qad (.agg #[.string s, .int .i64 (a' : Int), .int .i64 (n' : Int)]) [Value.string s, .int .i64 (a' : Int), .int .i64 (n' : Int)] ?x4qad ?c4qad ?_)
            try (case g4qad => rfl)
            try (case o4qad => rfl)
            try (case x4qad => rfl)
            try (case c4qad => rfl)
            intro g4 w1 hg4 hs1 hb1 B4
            have hl4 : w.heap.size ≤ g4 := Nat.le_of_eq hg4.out.symm
            have hb1 := hb1.mono (Nat.le_of_eq hg4.out.symm)
            have hbe : Below w.heap.size w w1 := hb1
            clear hb1 hg4 hs1
            go_wp2_with (with_reducible refine wpList_box (o := ⟨some 5, .box 33 (.tmp 1), _, _, _, _⟩) ?g5qae 33 (.tmp 1) ?o5qae (.agg #[.string t, .int .i64 (b' : Int), .int .i64 (m' : Int)]) [Value.string t, .int .i64 (b' : Int), .int .i64 (m' : Int)] ?x5qae ?c5qae ?_)
            try (case g5qae => rfl)
            try (case o5qae => rfl)
            try (case x5qae => rfl)
            try (case c5qae => rfl)
            intro g5 w2 hg5 hs2 hb2 B5
            have hl5 : w.heap.size ≤ g5 := Nat.le_trans hbe.size (Nat.le_of_eq hg5.out.symm)
            have ne4_5 : g4 ≠ g5 := by have := B4.lt; have := hg5.out; omega
            have ne5_4 := ne4_5.symm
            have hb2 := hb2.mono (Nat.le_of_eq hg5.out.symm)
            have B4 := B4.next hb2 B4.lt
            have hbe := below_join hbe hb2
            clear hb2 hg5 hs2
            go_wp2_with (with_reducible refine wpList_box (o := ⟨some 6, .box 30 (.tmp 2), _, _, _, _⟩) ?g6qaf 30 (.tmp 2) ?o6qaf (.agg (H h).toArray) (H h) ?x6qaf ?c6qaf ?_)
            try (case g6qaf => rfl)
            try (case o6qaf => rfl)
            try (case x6qaf => rfl)
            try (case c6qaf => rfl)
            intro g6 w3 hg6 hs3 hb3 B6
            have hl6 : w.heap.size ≤ g6 := Nat.le_trans hbe.size (Nat.le_of_eq hg6.out.symm)
            have ne4_6 : g4 ≠ g6 := by have := B4.lt; have := hg6.out; omega
            have ne6_4 := ne4_6.symm
            have ne5_6 : g5 ≠ g6 := by have := B5.lt; have := hg6.out; omega
            have ne6_5 := ne5_6.symm
            have hb3 := hb3.mono (Nat.le_of_eq hg6.out.symm)
            have B4 := B4.next hb3 B4.lt
            have B5 := B5.next hb3 B5.lt
            have hbe := below_join hbe hb3
            clear hb3 hg6 hs3
            have z4_0 := B4.cell (k := 0) rfl
            have z4_1 := B4.cell (k := 1) rfl
            have z4_2 := B4.cell (k := 2) rfl
            go_wp2_with fail
            (with_reducible refine (HR1.out _).mono ?_)
            rintro e w4 ⟨rfl, hb4⟩
            clear z4_0 z4_1 z4_2
            have B4 := B4.next hb4 B4.lt
            have B5 := B5.next hb4 B5.lt
            have B6 := B6.next hb4 B6.lt
            have hbe := below_join hbe hb4
            clear hb4
            have z5_0 := B5.cell (k := 0) rfl
            have z5_1 := B5.cell (k := 1) rfl
            have z5_2 := B5.cell (k := 2) rfl
            go_wp2_with fail
            (with_reducible refine (HR2.out _).mono ?_)
            rintro e w5 ⟨rfl, hb5⟩
            clear z5_0 z5_1 z5_2
            have B4 := B4.next hb5 B4.lt
            have B5 := B5.next hb5 B5.lt
            have B6 := B6.next hb5 B6.lt
            have hbe := below_join hbe hb5
            clear hb5
            go_wp2_with (first | (with_reducible refine wpList_getg (o := ⟨some 18, .load 30 (.tmp 6), _, _, _, _⟩) (by with_unfolding_all rfl) 30 (.tmp 6) (by with_unfolding_all rfl) g6 0 (by with_unfolding_all rfl) B6 (H h) (cs_all _) _ (by exact Tryd.underlying30) (by with_unfolding_all rfl) (by first | (rw [H_length]; exact Tryd.szH) | (rw [List.length_map, hl10]; exact Tryd.szH)) ?_))
            (with_reducible refine (HR3.out _).mono ?_)
            rintro e w6 ⟨rfl, hb6⟩
            have B4 := B4.next hb6 B4.lt
            have B5 := B5.next hb6 B5.lt
            have B6 := B6.next hb6 B6.lt
            have hbe := below_join hbe hb6
            clear hb6
            have z4_0 := B4.cell (k := 0) rfl
            have z4_1 := B4.cell (k := 1) rfl
            have z4_2 := B4.cell (k := 2) rfl
            go_wp2_with fail
            (with_reducible refine (HMX.out _).mono ?_)
            rintro e w7 ⟨rfl, hb7⟩
            clear z4_0 z4_1 z4_2
            have B4 := B4.next hb7 B4.lt
            have B5 := B5.next hb7 B5.lt
            have B6 := B6.next hb7 B6.lt
            have hbe := below_join hbe hb7
            clear hb7
            have z4_0 := B4.cell (k := 0) rfl
            have z4_1 := B4.cell (k := 1) rfl
            have z4_2 := B4.cell (k := 2) rfl
            go_wp2_with (first | (with_reducible refine wpList_getg (o := ⟨some 42, .load 30 (.tmp 6), _, _, _, _⟩) (by with_unfolding_all rfl) 30 (.tmp 6) (by with_unfolding_all rfl) g6 0 (by with_unfolding_all rfl) B6 (H h) (cs_all _) _ (by exact Tryd.underlying30) (by with_unfolding_all rfl) (by first | exact Tryd.szH | (simp only [H_length, Pat.cells_length, List.length_append]; exact Tryd.szH)) ?_))
            (with_reducible refine (HSE.out _).mono ?_)
            rintro e w8 ⟨rfl, hb8⟩
            clear z4_0 z4_1 z4_2
            have B4 := B4.next hb8 B4.lt
            have B5 := B5.next hb8 B5.lt
            have B6 := B6.next hb8 B6.lt
            have hbe := below_join hbe hb8
            clear hb8
            go_wp2_with (with_reducible refine wpList_alloc (o := ⟨some 12, .alloc 30, _, _, _, _⟩) (by with_unfolding_all rfl) 30 (by with_unfolding_all rfl) (.agg (H no).toArray) (H no) (by exact Tryd.zeroH) (by with_unfolding_all rfl) ?_)
            intro g12 w9 hg12 hs9 hb9 B12
            have hl12 : w.heap.size ≤ g12 := Nat.le_trans hbe.size (Nat.le_of_eq hg12.out.symm)
            have ne4_12 : g4 ≠ g12 := by have := B4.lt; have := hg12.out; omega
            have ne12_4 := ne4_12.symm
            have ne5_12 : g5 ≠ g12 := by have := B5.lt; have := hg12.out; omega
            have ne12_5 := ne5_12.symm
            have ne6_12 : g6 ≠ g12 := by have := B6.lt; have := hg12.out; omega
            have ne12_6 := ne6_12.symm
            have hb9 := hb9.mono (Nat.le_of_eq hg12.out.symm)
            have B4 := B4.next hb9 B4.lt
            have B5 := B5.next hb9 B5.lt
            have B6 := B6.next hb9 B6.lt
            have hbe := below_join hbe hb9
            clear hb9 hg12 hs9
            go_wp2_with (with_reducible refine wpList_put (o := ⟨none, .store 30 (.tmp 12) (.tmp 44), _, _, _, _⟩) (by with_unfolding_all rfl) 30 (.tmp 12) (.tmp 44) (by with_unfolding_all rfl) g12 0 (by with_unfolding_all rfl) (.agg (H K).toArray) (by with_unfolding_all rfl) B12 (H K) (by with_unfolding_all rfl) (by with_unfolding_all (first | exact Tryd.szH | (simp only [H_length, Pat.cells_length, List.length_append]; exact Tryd.szH))) (by with_unfolding_all (first | exact Nat.le_refl 3 | (simp only [H_length, Pat.cells_length, List.length_append]; omega))) (by with_unfolding_all (exact H_one _)) ?_)
            intro w10 hu10 C12
            rw [splice_all _ _ (by simp only [H_length])] at C12
            have B4 := B4.upd hu10 ne4_12
            have B5 := B5.upd hu10 ne5_12
            have B6 := B6.upd hu10 ne6_12
            have hbe := hbe.trans (hu10.below (B := w.heap.size) hl12)
            clear B12 hu10
            have B12 := C12
            clear C12
            go_wp2
            have hdd := below_drew w10
            have B4 := B4.next hdd B4.lt
            have B5 := B5.next hdd B5.lt
            have B6 := B6.next hdd B6.lt
            have B12 := B12.next hdd B12.lt
            have hbe := below_join hbe hdd
            have zz12_1 : (Tryd.prog.info? 30).map (·.size) = some (H K).length := (by first | exact Tryd.szH | (simp only [H_length, Pat.cells_length, List.length_append]; exact Tryd.szH))
            have zz4_2 : (Tryd.prog.info? 33).map (·.size) = some [Value.string s, .int .i64 (a' : Int), .int .i64 (n' : Int)].length := (by first | exact Tryd.szF | (simp only [H_length, Pat.cells_length, List.length_append]; exact Tryd.szF))
            have zz6_3 : (Tryd.prog.info? 30).map (·.size) = some (H h).length := (by first | exact Tryd.szH | (simp only [H_length, Pat.cells_length, List.length_append]; exact Tryd.szH))
            refine wp_region_held_drew (S := fun w' => w'.rangeAt g12 0 (H K) ∧ w'.rangeAt g4 0 [Value.string s, .int .i64 (a' : Int), .int .i64 (n' : Int)] ∧ w'.rangeAt g6 0 (H h)) (by kernel_rfl) ⟨blk_range B12, blk_range B4, blk_range B6⟩ (fun hHeld => ?_)
            clear hdd
            generalize w10.drew = w11 at B4 B5 B6 B12 hbe hHeld  ⊢
            refine' wpAnyH_take (i := 0) (v := _) rfl (by kernel_rfl) (by kernel_rfl) (by kernel_rfl) (fun _ _ _ h => h) (yieldsIf_load_mid (by rfl) _ _ (by rfl) _ _ (by rfl) _ _ ?Sqag0 ?uqag0 ?dqag0 ?iqag0) (by assumption) ?rqag0
            case Sqag0 => exact (by intro w h; exact h.1)
            case uqag0 => exact Tryd.underlying30
            case dqag0 => rfl
            case iqag0 => exact zz12_1
            (try simp only [List.getElem_toArray, List.getElem_cons_zero, Act.put, List.setIfInBounds_toArray, List.set_cons_zero, List.set_cons_succ])
            refine' wpAnyH_take (i := 1) (v := _) rfl (by kernel_rfl) (by kernel_rfl) (by kernel_rfl) (fun _ _ _ h => h) (yieldsIf_load_mid (by rfl) _ _ (by rfl) _ _ (by rfl) _ _ ?Sqag1 ?uqag1 ?dqag1 ?iqag1) (by assumption) ?rqag1
            case Sqag1 => exact (by intro w h; exact h.2.1)
            case uqag1 => exact Tryd.underlying33
            case dqag1 => rfl
            case iqag1 => exact zz4_2
            (try simp only [List.getElem_toArray, List.getElem_cons_succ, List.getElem_cons_zero, Act.put, List.setIfInBounds_toArray, List.set_cons_zero, List.set_cons_succ])
            refine' wpAnyH_take (i := 2) (v := _) rfl (by kernel_rfl) (by kernel_rfl) (by kernel_rfl) (fun _ _ _ h => h) (yieldsIf_load_mid (by rfl) _ _ (by rfl) _ _ (by rfl) _ _ ?Sqag2 ?uqag2 ?dqag2 ?iqag2) (by assumption) ?rqag2
            case Sqag2 => exact (by intro w h; exact h.2.2)
            case uqag2 => exact Tryd.underlying30
            case dqag2 => rfl
            case iqag2 => exact zz6_3
            (try simp only [List.getElem_toArray, List.getElem_cons_succ, List.getElem_cons_zero, Act.put, List.setIfInBounds_toArray, List.set_cons_zero, List.set_cons_succ])
            refine wpAnyH_take (i := 3) (v := ?vqag3) rfl (by kernel_rfl) (by kernel_rfl) (by kernel_rfl) (fun _ _ _ h => h) (Or.inl ⟨by rfl, ?yqag3⟩) (by assumption) ?rqag3
            case yqag3 => intro w hSw; (try dsimp only at hSw); go_simp <;> (try with_reducible rfl)
            (try simp only [List.getElem_toArray, List.getElem_cons_succ, List.getElem_cons_zero, Act.put, List.setIfInBounds_toArray, List.set_cons_zero, List.set_cons_succ])
            refine wpAnyH_ready (rs := [4]) (by kernel_rfl) (by simp) ?_
            refine AllReadyH.cons rfl (fun K hK => ?_) AllReadyH.nil
            go_simp
            go_wp2_with fail
            (with_reducible refine (HS2.out _).mono ?_)
            rintro e w12 ⟨rfl, hb12⟩
            have B4 := B4.next hb12 B4.lt
            have B5 := B5.next hb12 B5.lt
            have B6 := B6.next hb12 B6.lt
            have B12 := B12.next hb12 B12.lt
            have hbe := below_join hbe hb12
            refine hK.out _ _ ⟨blk_range B12, blk_range B4, blk_range B6⟩ (fun hHeld => ?_)
            clear hK K hb12
            refine wpAnyH_take (i := 5) (v := ?vqag5) rfl (by kernel_rfl) (by kernel_rfl) (by kernel_rfl) (fun _ _ _ h => h) (Or.inl ⟨by rfl, ?yqag5⟩) (by assumption) ?rqag5
            case yqag5 => intro w hSw; (try dsimp only at hSw); go_simp <;> (try with_reducible rfl)
            (try simp only [List.getElem_toArray, List.getElem_cons_succ, List.getElem_cons_zero, Act.put, List.setIfInBounds_toArray, List.set_cons_zero, List.set_cons_succ])
            refine wpAnyH_take (i := 6) (v := ?vqag6) rfl (by kernel_rfl) (by kernel_rfl) (by kernel_rfl) (fun _ _ _ h => h) (Or.inl ⟨by rfl, ?yqag6⟩) (by assumption) ?rqag6
            case yqag6 => intro w hSw; (try dsimp only at hSw); go_simp <;> (try with_reducible rfl)
            (try simp only [List.getElem_toArray, List.getElem_cons_succ, List.getElem_cons_zero, Act.put, List.setIfInBounds_toArray, List.set_cons_zero, List.set_cons_succ])
            refine' wpAnyH_take (i := 7) (v := _) rfl (by kernel_rfl) (by kernel_rfl) (by kernel_rfl) (fun _ _ _ h => h) (yieldsIf_load_mid (by rfl) _ _ (by rfl) _ _ (by rfl) _ _ ?Sqag7 ?uqag7 ?dqag7 ?iqag7) (by assumption) ?rqag7
            case Sqag7 => exact (by intro w h; exact h.2.1)
            case uqag7 => exact Tryd.underlying33
            case dqag7 => rfl
            case iqag7 => exact zz4_2
            (try simp only [List.getElem_toArray, List.getElem_cons_succ, List.getElem_cons_zero, Act.put, List.setIfInBounds_toArray, List.set_cons_zero, List.set_cons_succ])
            refine' wpAnyH_take (i := 8) (v := _) rfl (by kernel_rfl) (by kernel_rfl) (by kernel_rfl) (fun _ _ _ h => h) (yieldsIf_load_mid (by rfl) _ _ (by rfl) _ _ (by rfl) _ _ ?Sqag8 ?uqag8 ?dqag8 ?iqag8) (by assumption) ?rqag8
            case Sqag8 => exact (by intro w h; exact h.1)
            case uqag8 => exact Tryd.underlying30
            case dqag8 => rfl
            case iqag8 => exact zz12_1
            (try simp only [List.getElem_toArray, List.getElem_cons_succ, List.getElem_cons_zero, Act.put, List.setIfInBounds_toArray, List.set_cons_zero, List.set_cons_succ])
            refine wpAnyH_take (i := 10) (v := ?vqag10) rfl (by kernel_rfl) (by kernel_rfl) (by kernel_rfl) (fun _ _ _ h => h) (Or.inl ⟨by rfl, ?yqag10⟩) (by assumption) ?rqag10
            case yqag10 => intro w hSw; (try dsimp only at hSw); go_simp <;> (try with_reducible rfl)
            (try simp only [List.getElem_toArray, List.getElem_cons_succ, List.getElem_cons_zero, Act.put, List.setIfInBounds_toArray, List.set_cons_zero, List.set_cons_succ])
            refine wpAnyH_ready (rs := [9]) (by kernel_rfl) (by simp) ?_
            refine AllReadyH.cons rfl (fun K hK => ?_) AllReadyH.nil
            go_simp
            go_wp2_with fail
            (with_reducible refine (HG1.out _).mono ?_)
            rintro e w13 ⟨rfl, hb13⟩
            have B4 := B4.next hb13 B4.lt
            have B5 := B5.next hb13 B5.lt
            have B6 := B6.next hb13 B6.lt
            have B12 := B12.next hb13 B12.lt
            have hbe := below_join hbe hb13
            refine hK.out _ _ ⟨blk_range B12, blk_range B4, blk_range B6⟩ (fun hHeld => ?_)
            clear hK K hb13
            refine wpAnyH_take (i := 11) (v := ?vqag11) rfl (by kernel_rfl) (by kernel_rfl) (by kernel_rfl) (fun _ _ _ h => h) (Or.inl ⟨by rfl, ?yqag11⟩) (by assumption) ?rqag11
            case yqag11 => intro w hSw; (try dsimp only at hSw); go_simp <;> (try with_reducible rfl)
            (try simp only [List.getElem_toArray, List.getElem_cons_succ, List.getElem_cons_zero, Act.put, List.setIfInBounds_toArray, List.set_cons_zero, List.set_cons_succ])
            refine wpAnyH_take (i := 12) (v := ?vqag12) rfl (by kernel_rfl) (by kernel_rfl) (by kernel_rfl) (fun _ _ _ h => h) (Or.inl ⟨by rfl, ?yqag12⟩) (by assumption) ?rqag12
            case yqag12 => intro w hSw; (try dsimp only at hSw); go_simp <;> (try with_reducible rfl)
            (try simp only [List.getElem_toArray, List.getElem_cons_succ, List.getElem_cons_zero, Act.put, List.setIfInBounds_toArray, List.set_cons_zero, List.set_cons_succ])
            refine wpAnyH_take (i := 13) (v := ?vqag13) rfl (by kernel_rfl) (by kernel_rfl) (by kernel_rfl) (fun _ _ _ h => h) (Or.inl ⟨by rfl, ?yqag13⟩) (by assumption) ?rqag13
            case yqag13 => intro w hSw; (try dsimp only at hSw); go_simp <;> (try with_reducible rfl)
            (try simp only [List.getElem_toArray, List.getElem_cons_succ, List.getElem_cons_zero, Act.put, List.setIfInBounds_toArray, List.set_cons_zero, List.set_cons_succ])
            refine' wpAnyH_take (i := 14) (v := _) rfl (by kernel_rfl) (by kernel_rfl) (by kernel_rfl) (fun _ _ _ h => h) (yieldsIf_load_mid (by rfl) _ _ (by rfl) _ _ (by rfl) _ _ ?Sqag14 ?uqag14 ?dqag14 ?iqag14) (by assumption) ?rqag14
            case Sqag14 => exact (by intro w h; exact h.1)
            case uqag14 => exact Tryd.underlying30
            case dqag14 => rfl
            case iqag14 => exact zz12_1
            (try simp only [List.getElem_toArray, List.getElem_cons_succ, List.getElem_cons_zero, Act.put, List.setIfInBounds_toArray, List.set_cons_zero, List.set_cons_succ])
            refine wpAnyH_ready (rs := [15]) (by kernel_rfl) (by simp) ?_
            refine AllReadyH.cons rfl (fun K hK => ?_) AllReadyH.nil
            go_simp
            go_wp2_with fail
            (with_reducible refine (HRK.out _).mono ?_)
            rintro e w14 ⟨rfl, hb14⟩
            have B4 := B4.next hb14 B4.lt
            have B5 := B5.next hb14 B5.lt
            have B6 := B6.next hb14 B6.lt
            have B12 := B12.next hb14 B12.lt
            have hbe := below_join hbe hb14
            refine hK.out _ _ ⟨blk_range B12, blk_range B4, blk_range B6⟩ (fun hHeld => ?_)
            clear hK K hb14
            refine wpAnyH_take (i := 16) (v := ?vqag16) rfl (by kernel_rfl) (by kernel_rfl) (by kernel_rfl) (fun _ _ _ h => h) (Or.inl ⟨by rfl, ?yqag16⟩) (by assumption) ?rqag16
            case yqag16 => intro w hSw; (try dsimp only at hSw); go_simp <;> (try with_reducible rfl)
            (try simp only [List.getElem_toArray, List.getElem_cons_succ, List.getElem_cons_zero, Act.put, List.setIfInBounds_toArray, List.set_cons_zero, List.set_cons_succ])
            refine wpAnyH_take (i := 17) (v := ?vqag17) rfl (by kernel_rfl) (by kernel_rfl) (by kernel_rfl) (fun _ _ _ h => h) (Or.inl ⟨by rfl, ?yqag17⟩) (by assumption) ?rqag17
            case yqag17 => intro w hSw; (try dsimp only at hSw); go_simp <;> (try with_reducible rfl)
            (try simp only [List.getElem_toArray, List.getElem_cons_succ, List.getElem_cons_zero, Act.put, List.setIfInBounds_toArray, List.set_cons_zero, List.set_cons_succ])
            refine wpAnyH_take (i := 18) (v := ?vqag18) rfl (by kernel_rfl) (by kernel_rfl) (by kernel_rfl) (fun _ _ _ h => h) (Or.inl ⟨by rfl, ?yqag18⟩) (by assumption) ?rqag18
            case yqag18 => intro w hSw; (try dsimp only at hSw); go_simp <;> (try with_reducible rfl)
            (try simp only [List.getElem_toArray, List.getElem_cons_succ, List.getElem_cons_zero, Act.put, List.setIfInBounds_toArray, List.set_cons_zero, List.set_cons_succ])
            refine' wpAnyH_take (i := 19) (v := _) rfl (by kernel_rfl) (by kernel_rfl) (by kernel_rfl) (fun _ _ _ h => h) (yieldsIf_load_mid (by rfl) _ _ (by rfl) _ _ (by rfl) _ _ ?Sqag19 ?uqag19 ?dqag19 ?iqag19) (by assumption) ?rqag19
            case Sqag19 => exact (by intro w h; exact h.2.1)
            case uqag19 => exact Tryd.underlying33
            case dqag19 => rfl
            case iqag19 => exact zz4_2
            (try simp only [List.getElem_toArray, List.getElem_cons_succ, List.getElem_cons_zero, Act.put, List.setIfInBounds_toArray, List.set_cons_zero, List.set_cons_succ])
            refine' wpAnyH_take (i := 20) (v := _) rfl (by kernel_rfl) (by kernel_rfl) (by kernel_rfl) (fun _ _ _ h => h) (yieldsIf_load_mid (by rfl) _ _ (by rfl) _ _ (by rfl) _ _ ?Sqag20 ?uqag20 ?dqag20 ?iqag20) (by assumption) ?rqag20
            case Sqag20 => exact (by intro w h; exact h.2.2)
            case uqag20 => exact Tryd.underlying30
            case dqag20 => rfl
            case iqag20 => exact zz6_3
            (try simp only [List.getElem_toArray, List.getElem_cons_succ, List.getElem_cons_zero, Act.put, List.setIfInBounds_toArray, List.set_cons_zero, List.set_cons_succ])
            refine' wpAnyH_take (i := 21) (v := _) rfl (by kernel_rfl) (by kernel_rfl) (by kernel_rfl) (fun _ _ _ h => h) (yieldsIf_load_mid (by rfl) _ _ (by rfl) _ _ (by rfl) _ _ ?Sqag21 ?uqag21 ?dqag21 ?iqag21) (by assumption) ?rqag21
            case Sqag21 => exact (by intro w h; exact h.2.1)
            case uqag21 => exact Tryd.underlying33
            case dqag21 => rfl
            case iqag21 => exact zz4_2
            (try simp only [List.getElem_toArray, List.getElem_cons_succ, List.getElem_cons_zero, Act.put, List.setIfInBounds_toArray, List.set_cons_zero, List.set_cons_succ])
            refine' wpAnyH_take (i := 22) (v := _) rfl (by kernel_rfl) (by kernel_rfl) (by kernel_rfl) (fun _ _ _ h => h) (yieldsIf_load_mid (by rfl) _ _ (by rfl) _ _ (by rfl) _ _ ?Sqag22 ?uqag22 ?dqag22 ?iqag22) (by assumption) ?rqag22
            case Sqag22 => exact (by intro w h; exact h.2.2)
            case uqag22 => exact Tryd.underlying30
            case dqag22 => rfl
            case iqag22 => exact zz6_3
            (try simp only [List.getElem_toArray, List.getElem_cons_succ, List.getElem_cons_zero, Act.put, List.setIfInBounds_toArray, List.set_cons_zero, List.set_cons_succ])
            refine' wpAnyH_take (i := 25) (v := _) rfl (by kernel_rfl) (by kernel_rfl) (by kernel_rfl) (fun _ _ _ h => h) (yieldsIf_load_mid (by rfl) _ _ (by rfl) _ _ (by rfl) _ _ ?Sqag25 ?uqag25 ?dqag25 ?iqag25) (by assumption) ?rqag25
            case Sqag25 => exact (by intro w h; exact h.2.2)
            case uqag25 => exact Tryd.underlying30
            case dqag25 => rfl
            case iqag25 => exact zz6_3
            (try simp only [List.getElem_toArray, List.getElem_cons_succ, List.getElem_cons_zero, Act.put, List.setIfInBounds_toArray, List.set_cons_zero, List.set_cons_succ])
            refine wpAnyH_ready (rs := [23]) (by kernel_rfl) (by simp) ?_
            refine AllReadyH.cons rfl (fun K hK => ?_) AllReadyH.nil
            go_simp
            go_wp2_with fail
            (with_reducible refine (HG2.out _).mono ?_)
            rintro e w15 ⟨rfl, hb15⟩
            have B4 := B4.next hb15 B4.lt
            have B5 := B5.next hb15 B5.lt
            have B6 := B6.next hb15 B6.lt
            have B12 := B12.next hb15 B12.lt
            have hbe := below_join hbe hb15
            refine hK.out _ _ ⟨blk_range B12, blk_range B4, blk_range B6⟩ (fun hHeld => ?_)
            clear hK K hb15
            refine wpAnyH_ready (rs := [24]) (by kernel_rfl) (by simp) ?_
            refine AllReadyH.cons rfl (fun K hK => ?_) AllReadyH.nil
            go_simp
            go_wp2_with fail
            (with_reducible refine (HB1.out _).mono ?_)
            rintro e w16 ⟨rfl, hb16⟩
            have B4 := B4.next hb16 B4.lt
            have B5 := B5.next hb16 B5.lt
            have B6 := B6.next hb16 B6.lt
            have B12 := B12.next hb16 B12.lt
            have hbe := below_join hbe hb16
            refine hK.out _ _ ⟨blk_range B12, blk_range B4, blk_range B6⟩ (fun hHeld => ?_)
            clear hK K hb16
            refine wpAnyH_take (i := 26) (v := ?vqag26) rfl (by kernel_rfl) (by kernel_rfl) (by kernel_rfl) (fun _ _ _ h => h) (Or.inl ⟨by rfl, ?yqag26⟩) (by assumption) ?rqag26
            case yqag26 => intro w hSw; (try dsimp only at hSw); go_simp <;> (try with_reducible rfl)
            (try simp only [List.getElem_toArray, List.getElem_cons_succ, List.getElem_cons_zero, Act.put, List.setIfInBounds_toArray, List.set_cons_zero, List.set_cons_succ])
            refine wpAnyH_take (i := 27) (v := ?vqag27) rfl (by kernel_rfl) (by kernel_rfl) (by kernel_rfl) (fun _ _ _ h => h) (Or.inl ⟨by rfl, ?yqag27⟩) (by assumption) ?rqag27
            case yqag27 => intro w hSw; (try dsimp only at hSw); go_simp <;> (try with_reducible rfl)
            (try simp only [List.getElem_toArray, List.getElem_cons_succ, List.getElem_cons_zero, Act.put, List.setIfInBounds_toArray, List.set_cons_zero, List.set_cons_succ])
            refine wpAnyH_take (i := 28) (v := ?vqag28) rfl (by kernel_rfl) (by kernel_rfl) (by kernel_rfl) (fun _ _ _ h => h) (Or.inl ⟨by rfl, ?yqag28⟩) (by assumption) ?rqag28
            case yqag28 => intro w hSw; (try dsimp only at hSw); go_simp <;> (try with_reducible rfl)
            (try simp only [List.getElem_toArray, List.getElem_cons_succ, List.getElem_cons_zero, Act.put, List.setIfInBounds_toArray, List.set_cons_zero, List.set_cons_succ])
            refine' wpAnyH_take (i := 29) (v := _) rfl (by kernel_rfl) (by kernel_rfl) (by kernel_rfl) (fun _ _ _ h => h) (yieldsIf_load_mid (by rfl) _ _ (by rfl) _ _ (by rfl) _ _ ?Sqag29 ?uqag29 ?dqag29 ?iqag29) (by assumption) ?rqag29
            case Sqag29 => exact (by intro w h; exact h.2.1)
            case uqag29 => exact Tryd.underlying33
            case dqag29 => rfl
            case iqag29 => exact zz4_2
            (try simp only [List.getElem_toArray, List.getElem_cons_succ, List.getElem_cons_zero, Act.put, List.setIfInBounds_toArray, List.set_cons_zero, List.set_cons_succ])
            refine' wpAnyH_take (i := 30) (v := _) rfl (by kernel_rfl) (by kernel_rfl) (by kernel_rfl) (fun _ _ _ h => h) (yieldsIf_load_mid (by rfl) _ _ (by rfl) _ _ (by rfl) _ _ ?Sqag30 ?uqag30 ?dqag30 ?iqag30) (by assumption) ?rqag30
            case Sqag30 => exact (by intro w h; exact h.1)
            case uqag30 => exact Tryd.underlying30
            case dqag30 => rfl
            case iqag30 => exact zz12_1
            (try simp only [List.getElem_toArray, List.getElem_cons_succ, List.getElem_cons_zero, Act.put, List.setIfInBounds_toArray, List.set_cons_zero, List.set_cons_succ])
            refine' wpAnyH_take (i := 31) (v := _) rfl (by kernel_rfl) (by kernel_rfl) (by kernel_rfl) (fun _ _ _ h => h) (yieldsIf_load_mid (by rfl) _ _ (by rfl) _ _ (by rfl) _ _ ?Sqag31 ?uqag31 ?dqag31 ?iqag31) (by assumption) ?rqag31
            case Sqag31 => exact (by intro w h; exact h.2.1)
            case uqag31 => exact Tryd.underlying33
            case dqag31 => rfl
            case iqag31 => exact zz4_2
            (try simp only [List.getElem_toArray, List.getElem_cons_succ, List.getElem_cons_zero, Act.put, List.setIfInBounds_toArray, List.set_cons_zero, List.set_cons_succ])
            refine' wpAnyH_take (i := 32) (v := _) rfl (by kernel_rfl) (by kernel_rfl) (by kernel_rfl) (fun _ _ _ h => h) (yieldsIf_load_mid (by rfl) _ _ (by rfl) _ _ (by rfl) _ _ ?Sqag32 ?uqag32 ?dqag32 ?iqag32) (by assumption) ?rqag32
            case Sqag32 => exact (by intro w h; exact h.2.2)
            case uqag32 => exact Tryd.underlying30
            case dqag32 => rfl
            case iqag32 => exact zz6_3
            (try simp only [List.getElem_toArray, List.getElem_cons_succ, List.getElem_cons_zero, Act.put, List.setIfInBounds_toArray, List.set_cons_zero, List.set_cons_succ])
            refine' wpAnyH_take (i := 35) (v := _) rfl (by kernel_rfl) (by kernel_rfl) (by kernel_rfl) (fun _ _ _ h => h) (yieldsIf_load_mid (by rfl) _ _ (by rfl) _ _ (by rfl) _ _ ?Sqag35 ?uqag35 ?dqag35 ?iqag35) (by assumption) ?rqag35
            case Sqag35 => exact (by intro w h; exact h.2.2)
            case uqag35 => exact Tryd.underlying30
            case dqag35 => rfl
            case iqag35 => exact zz6_3
            (try simp only [List.getElem_toArray, List.getElem_cons_succ, List.getElem_cons_zero, Act.put, List.setIfInBounds_toArray, List.set_cons_zero, List.set_cons_succ])
            refine wpAnyH_ready (rs := [33]) (by kernel_rfl) (by simp) ?_
            refine AllReadyH.cons rfl (fun K hK => ?_) AllReadyH.nil
            go_simp
            go_wp2_with fail
            (with_reducible refine (HG2.out _).mono ?_)
            rintro e w17 ⟨rfl, hb17⟩
            have B4 := B4.next hb17 B4.lt
            have B5 := B5.next hb17 B5.lt
            have B6 := B6.next hb17 B6.lt
            have B12 := B12.next hb17 B12.lt
            have hbe := below_join hbe hb17
            refine hK.out _ _ ⟨blk_range B12, blk_range B4, blk_range B6⟩ (fun hHeld => ?_)
            clear hK K hb17
            refine wpAnyH_ready (rs := [34]) (by kernel_rfl) (by simp) ?_
            refine AllReadyH.cons rfl (fun K hK => ?_) AllReadyH.nil
            go_simp
            go_wp2_with fail
            (with_reducible refine (HB2.out _).mono ?_)
            rintro e w18 ⟨rfl, hb18⟩
            have B4 := B4.next hb18 B4.lt
            have B5 := B5.next hb18 B5.lt
            have B6 := B6.next hb18 B6.lt
            have B12 := B12.next hb18 B12.lt
            have hbe := below_join hbe hb18
            refine hK.out _ _ ⟨blk_range B12, blk_range B4, blk_range B6⟩ (fun hHeld => ?_)
            clear hK K hb18
            refine wpAnyH_take (i := 36) (v := ?vqag36) rfl (by kernel_rfl) (by kernel_rfl) (by kernel_rfl) (fun _ _ _ h => h) (Or.inl ⟨by rfl, ?yqag36⟩) (by assumption) ?rqag36
            case yqag36 => intro w hSw; (try dsimp only at hSw); go_simp <;> (try with_reducible rfl)
            (try simp only [List.getElem_toArray, List.getElem_cons_succ, List.getElem_cons_zero, Act.put, List.setIfInBounds_toArray, List.set_cons_zero, List.set_cons_succ])
            refine wpAnyH_take (i := 37) (v := ?vqag37) rfl (by kernel_rfl) (by kernel_rfl) (by kernel_rfl) (fun _ _ _ h => h) (Or.inl ⟨by rfl, ?yqag37⟩) (by assumption) ?rqag37
            case yqag37 => intro w hSw; (try dsimp only at hSw); go_simp <;> (try with_reducible rfl)
            (try simp only [List.getElem_toArray, List.getElem_cons_succ, List.getElem_cons_zero, Act.put, List.setIfInBounds_toArray, List.set_cons_zero, List.set_cons_succ])
            refine wpAnyH_done (by kernel_rfl) ?_ _
            clear hHeld zz12_1 zz4_2 zz6_3
            clear HSE HS2 HG1 HG2 HB1 HB2 HRK hnK hnh
            by_cases q1 : EB ≤ a'
            · skip
              have q1d : decide ((a' : Int) ≥ (EB : Int)) = true := decide_eq_true (by omega)
              have q1e : decide ((EB : Int) ≤ (a' : Int)) = true := decide_eq_true (by omega)
              have hvv : V1 = V2 := HAP.out (.inr q1)
              subst hvv
              have z4_0 := B4.cell (k := 0) rfl
              have z4_1 := B4.cell (k := 1) rfl
              have z4_2 := B4.cell (k := 2) rfl
              have z5_0 := B5.cell (k := 0) rfl
              have z5_1 := B5.cell (k := 1) rfl
              have z5_2 := B5.cell (k := 2) rfl
              go_wp2
              clear z4_0 z4_1 z4_2 z5_0 z5_1 z5_2
              have hdd := below_drew w18
              have B4 := B4.next hdd B4.lt
              have B5 := B5.next hdd B5.lt
              have B6 := B6.next hdd B6.lt
              have B12 := B12.next hdd B12.lt
              have hbe := below_join hbe hdd
              have zz5_1 : (Tryd.prog.info? 33).map (·.size) = some [Value.string t, .int .i64 (b' : Int), .int .i64 (m' : Int)].length := (by first | exact Tryd.szF | (simp only [H_length, Pat.cells_length, List.length_append]; exact Tryd.szF))
              have zz12_2 : (Tryd.prog.info? 30).map (·.size) = some (H K).length := (by first | exact Tryd.szH | (simp only [H_length, Pat.cells_length, List.length_append]; exact Tryd.szH))
              have zz6_3 : (Tryd.prog.info? 30).map (·.size) = some (H h).length := (by first | exact Tryd.szH | (simp only [H_length, Pat.cells_length, List.length_append]; exact Tryd.szH))
              refine wp_region_held_drew (S := fun w' => w'.rangeAt g5 0 [Value.string t, .int .i64 (b' : Int), .int .i64 (m' : Int)] ∧ w'.rangeAt g12 0 (H K) ∧ w'.rangeAt g6 0 (H h)) (by kernel_rfl) ⟨blk_range B5, blk_range B12, blk_range B6⟩ (fun hHeld => ?_)
              clear hdd
              generalize w18.drew = w19 at B4 B5 B6 B12 hbe hHeld  ⊢
              refine wpAnyH_ready (rs := [0]) (by kernel_rfl) (by simp) ?_
              refine AllReadyH.cons rfl (fun K hK => ?_) AllReadyH.nil
              go_simp
              go_wp2_with fail
              (with_reducible refine (HSA.out _ (HQ.out.next hbe)).mono ?_)
              rintro e w20 ⟨rfl, hb20⟩
              have B4 := B4.next hb20 B4.lt
              have B5 := B5.next hb20 B5.lt
              have B6 := B6.next hb20 B6.lt
              have B12 := B12.next hb20 B12.lt
              have hbe := below_join hbe hb20
              refine hK.out _ _ ⟨blk_range B5, blk_range B12, blk_range B6⟩ (fun hHeld => ?_)
              clear hK K hb20
              refine wpAnyH_take (i := 1) (v := ?vqah1) rfl (by kernel_rfl) (by kernel_rfl) (by kernel_rfl) (fun _ _ _ h => h) (Or.inl ⟨by rfl, ?yqah1⟩) (by assumption) ?rqah1
              case yqah1 => intro w hSw; (try dsimp only at hSw); go_simp <;> (try with_reducible rfl)
              (try simp only [List.getElem_toArray, List.getElem_cons_succ, List.getElem_cons_zero, Act.put, List.setIfInBounds_toArray, List.set_cons_zero, List.set_cons_succ])
              refine wpAnyH_take (i := 2) (v := ?vqah2) rfl (by kernel_rfl) (by kernel_rfl) (by kernel_rfl) (fun _ _ _ h => h) (Or.inl ⟨by rfl, ?yqah2⟩) (by assumption) ?rqah2
              case yqah2 => intro w hSw; (try dsimp only at hSw); go_simp <;> (try with_reducible rfl)
              (try simp only [List.getElem_toArray, List.getElem_cons_succ, List.getElem_cons_zero, Act.put, List.setIfInBounds_toArray, List.set_cons_zero, List.set_cons_succ])
              refine wpAnyH_take (i := 3) (v := ?vqah3) rfl (by kernel_rfl) (by kernel_rfl) (by kernel_rfl) (fun _ _ _ h => h) (Or.inl ⟨by rfl, ?yqah3⟩) (by assumption) ?rqah3
              case yqah3 => intro w hSw; (try dsimp only at hSw); go_simp <;> (try with_reducible rfl)
              (try simp only [List.getElem_toArray, List.getElem_cons_succ, List.getElem_cons_zero, Act.put, List.setIfInBounds_toArray, List.set_cons_zero, List.set_cons_succ])
              refine wpAnyH_take (i := 4) (v := ?vqah4) rfl (by kernel_rfl) (by kernel_rfl) (by kernel_rfl) (fun _ _ _ h => h) (Or.inl ⟨by rfl, ?yqah4⟩) (by assumption) ?rqah4
              case yqah4 => intro w hSw; (try dsimp only at hSw); go_simp <;> (try with_reducible rfl)
              (try simp only [List.getElem_toArray, List.getElem_cons_succ, List.getElem_cons_zero, Act.put, List.setIfInBounds_toArray, List.set_cons_zero, List.set_cons_succ])
              refine' wpAnyH_take (i := 5) (v := _) rfl (by kernel_rfl) (by kernel_rfl) (by kernel_rfl) (fun _ _ _ h => h) (yieldsIf_load_mid (by rfl) _ _ (by rfl) _ _ (by rfl) _ _ ?Sqah5 ?uqah5 ?dqah5 ?iqah5) (by assumption) ?rqah5
              case Sqah5 => exact (by intro w h; exact h.1)
              case uqah5 => exact Tryd.underlying33
              case dqah5 => rfl
              case iqah5 => exact zz5_1
              (try simp only [List.getElem_toArray, List.getElem_cons_succ, List.getElem_cons_zero, Act.put, List.setIfInBounds_toArray, List.set_cons_zero, List.set_cons_succ])
              refine' wpAnyH_take (i := 6) (v := _) rfl (by kernel_rfl) (by kernel_rfl) (by kernel_rfl) (fun _ _ _ h => h) (yieldsIf_load_mid (by rfl) _ _ (by rfl) _ _ (by rfl) _ _ ?Sqah6 ?uqah6 ?dqah6 ?iqah6) (by assumption) ?rqah6
              case Sqah6 => exact (by intro w h; exact h.2.1)
              case uqah6 => exact Tryd.underlying30
              case dqah6 => rfl
              case iqah6 => exact zz12_2
              (try simp only [List.getElem_toArray, List.getElem_cons_succ, List.getElem_cons_zero, Act.put, List.setIfInBounds_toArray, List.set_cons_zero, List.set_cons_succ])
              refine' wpAnyH_take (i := 8) (v := _) rfl (by kernel_rfl) (by kernel_rfl) (by kernel_rfl) (fun _ _ _ h => h) (yieldsIf_load_mid (by rfl) _ _ (by rfl) _ _ (by rfl) _ _ ?Sqah8 ?uqah8 ?dqah8 ?iqah8) (by assumption) ?rqah8
              case Sqah8 => exact (by intro w h; exact h.1)
              case uqah8 => exact Tryd.underlying33
              case dqah8 => rfl
              case iqah8 => exact zz5_1
              (try simp only [List.getElem_toArray, List.getElem_cons_succ, List.getElem_cons_zero, Act.put, List.setIfInBounds_toArray, List.set_cons_zero, List.set_cons_succ])
              refine' wpAnyH_take (i := 9) (v := _) rfl (by kernel_rfl) (by kernel_rfl) (by kernel_rfl) (fun _ _ _ h => h) (yieldsIf_load_mid (by rfl) _ _ (by rfl) _ _ (by rfl) _ _ ?Sqah9 ?uqah9 ?dqah9 ?iqah9) (by assumption) ?rqah9
              case Sqah9 => exact (by intro w h; exact h.2.2)
              case uqah9 => exact Tryd.underlying30
              case dqah9 => rfl
              case iqah9 => exact zz6_3
              (try simp only [List.getElem_toArray, List.getElem_cons_succ, List.getElem_cons_zero, Act.put, List.setIfInBounds_toArray, List.set_cons_zero, List.set_cons_succ])
              refine wpAnyH_ready (rs := [7]) (by kernel_rfl) (by simp) ?_
              refine AllReadyH.cons rfl (fun K hK => ?_) AllReadyH.nil
              go_simp
              go_wp2_with fail
              (with_reducible refine (HGA.out _).mono ?_)
              rintro e w21 ⟨rfl, hb21⟩
              have B4 := B4.next hb21 B4.lt
              have B5 := B5.next hb21 B5.lt
              have B6 := B6.next hb21 B6.lt
              have B12 := B12.next hb21 B12.lt
              have hbe := below_join hbe hb21
              refine hK.out _ _ ⟨blk_range B5, blk_range B12, blk_range B6⟩ (fun hHeld => ?_)
              clear hK K hb21
              refine wpAnyH_ready (rs := [10]) (by kernel_rfl) (by simp) ?_
              refine AllReadyH.cons rfl (fun K hK => ?_) AllReadyH.nil
              go_simp
              go_wp2_with fail
              (with_reducible refine (HGB.out _).mono ?_)
              rintro e w22 ⟨rfl, hb22⟩
              have B4 := B4.next hb22 B4.lt
              have B5 := B5.next hb22 B5.lt
              have B6 := B6.next hb22 B6.lt
              have B12 := B12.next hb22 B12.lt
              have hbe := below_join hbe hb22
              refine hK.out _ _ ⟨blk_range B5, blk_range B12, blk_range B6⟩ (fun hHeld => ?_)
              clear hK K hb22
              refine wpAnyH_take (i := 11) (v := ?vqah11) rfl (by kernel_rfl) (by kernel_rfl) (by kernel_rfl) (fun _ _ _ h => h) (Or.inl ⟨by rfl, ?yqah11⟩) (by assumption) ?rqah11
              case yqah11 => intro w hSw; (try dsimp only at hSw); go_simp <;> (try with_reducible rfl)
              (try simp only [List.getElem_toArray, List.getElem_cons_succ, List.getElem_cons_zero, Act.put, List.setIfInBounds_toArray, List.set_cons_zero, List.set_cons_succ])
              refine wpAnyH_take (i := 12) (v := ?vqah12) rfl (by kernel_rfl) (by kernel_rfl) (by kernel_rfl) (fun _ _ _ h => h) (Or.inl ⟨by rfl, ?yqah12⟩) (by assumption) ?rqah12
              case yqah12 => intro w hSw; (try dsimp only at hSw); go_simp <;> (try with_reducible rfl)
              (try simp only [List.getElem_toArray, List.getElem_cons_succ, List.getElem_cons_zero, Act.put, List.setIfInBounds_toArray, List.set_cons_zero, List.set_cons_succ])
              refine wpAnyH_take (i := 13) (v := ?vqah13) rfl (by kernel_rfl) (by kernel_rfl) (by kernel_rfl) (fun _ _ _ h => h) (Or.inl ⟨by rfl, ?yqah13⟩) (by assumption) ?rqah13
              case yqah13 => intro w hSw; (try dsimp only at hSw); go_simp <;> (try with_reducible rfl)
              (try simp only [List.getElem_toArray, List.getElem_cons_succ, List.getElem_cons_zero, Act.put, List.setIfInBounds_toArray, List.set_cons_zero, List.set_cons_succ])
              refine wpAnyH_take (i := 14) (v := ?vqah14) rfl (by kernel_rfl) (by kernel_rfl) (by kernel_rfl) (fun _ _ _ h => h) (Or.inl ⟨by rfl, ?yqah14⟩) (by assumption) ?rqah14
              case yqah14 => intro w hSw; (try dsimp only at hSw); go_simp <;> (try with_reducible rfl)
              (try simp only [List.getElem_toArray, List.getElem_cons_succ, List.getElem_cons_zero, Act.put, List.setIfInBounds_toArray, List.set_cons_zero, List.set_cons_succ])
              refine wpAnyH_done (by kernel_rfl) ?_ _
              clear hHeld zz5_1 zz12_2 zz6_3
              go_wp2
              go_ret
              exact ⟨rfl, hbe⟩
            · have q1d : decide ((a' : Int) ≥ (EB : Int)) = false := decide_eq_false (by omega)
              have q1e : decide ((EB : Int) ≤ (a' : Int)) = false := decide_eq_false (by omega)
              have q1f : decide (EB ≤ a') = false := decide_eq_false (by omega)
              by_cases q2 : EA ≤ b'
              · skip
                have q2d : decide ((b' : Int) ≥ (EA : Int)) = true := decide_eq_true (by omega)
                have q2e : decide ((EA : Int) ≤ (b' : Int)) = true := decide_eq_true (by omega)
                have hvv : V1 = V2 := HAP.out (.inl q2)
                subst hvv
                have z4_0 := B4.cell (k := 0) rfl
                have z4_1 := B4.cell (k := 1) rfl
                have z4_2 := B4.cell (k := 2) rfl
                have z5_0 := B5.cell (k := 0) rfl
                have z5_1 := B5.cell (k := 1) rfl
                have z5_2 := B5.cell (k := 2) rfl
                go_wp2
                clear z4_0 z4_1 z4_2 z5_0 z5_1 z5_2
                have hdd := below_drew w18
                have B4 := B4.next hdd B4.lt
                have B5 := B5.next hdd B5.lt
                have B6 := B6.next hdd B6.lt
                have B12 := B12.next hdd B12.lt
                have hbe := below_join hbe hdd
                have zz5_1 : (Tryd.prog.info? 33).map (·.size) = some [Value.string t, .int .i64 (b' : Int), .int .i64 (m' : Int)].length := (by first | exact Tryd.szF | (simp only [H_length, Pat.cells_length, List.length_append]; exact Tryd.szF))
                have zz12_2 : (Tryd.prog.info? 30).map (·.size) = some (H K).length := (by first | exact Tryd.szH | (simp only [H_length, Pat.cells_length, List.length_append]; exact Tryd.szH))
                have zz6_3 : (Tryd.prog.info? 30).map (·.size) = some (H h).length := (by first | exact Tryd.szH | (simp only [H_length, Pat.cells_length, List.length_append]; exact Tryd.szH))
                refine wp_region_held_drew (S := fun w' => w'.rangeAt g5 0 [Value.string t, .int .i64 (b' : Int), .int .i64 (m' : Int)] ∧ w'.rangeAt g12 0 (H K) ∧ w'.rangeAt g6 0 (H h)) (by kernel_rfl) ⟨blk_range B5, blk_range B12, blk_range B6⟩ (fun hHeld => ?_)
                clear hdd
                generalize w18.drew = w19 at B4 B5 B6 B12 hbe hHeld  ⊢
                refine wpAnyH_ready (rs := [0]) (by kernel_rfl) (by simp) ?_
                refine AllReadyH.cons rfl (fun K hK => ?_) AllReadyH.nil
                go_simp
                go_wp2_with fail
                (with_reducible refine (HSA.out _ (HQ.out.next hbe)).mono ?_)
                rintro e w20 ⟨rfl, hb20⟩
                have B4 := B4.next hb20 B4.lt
                have B5 := B5.next hb20 B5.lt
                have B6 := B6.next hb20 B6.lt
                have B12 := B12.next hb20 B12.lt
                have hbe := below_join hbe hb20
                refine hK.out _ _ ⟨blk_range B5, blk_range B12, blk_range B6⟩ (fun hHeld => ?_)
                clear hK K hb20
                refine wpAnyH_take (i := 1) (v := ?vqai1) rfl (by kernel_rfl) (by kernel_rfl) (by kernel_rfl) (fun _ _ _ h => h) (Or.inl ⟨by rfl, ?yqai1⟩) (by assumption) ?rqai1
                case yqai1 => intro w hSw; (try dsimp only at hSw); go_simp <;> (try with_reducible rfl)
                (try simp only [List.getElem_toArray, List.getElem_cons_succ, List.getElem_cons_zero, Act.put, List.setIfInBounds_toArray, List.set_cons_zero, List.set_cons_succ])
                refine wpAnyH_take (i := 2) (v := ?vqai2) rfl (by kernel_rfl) (by kernel_rfl) (by kernel_rfl) (fun _ _ _ h => h) (Or.inl ⟨by rfl, ?yqai2⟩) (by assumption) ?rqai2
                case yqai2 => intro w hSw; (try dsimp only at hSw); go_simp <;> (try with_reducible rfl)
                (try simp only [List.getElem_toArray, List.getElem_cons_succ, List.getElem_cons_zero, Act.put, List.setIfInBounds_toArray, List.set_cons_zero, List.set_cons_succ])
                refine wpAnyH_take (i := 3) (v := ?vqai3) rfl (by kernel_rfl) (by kernel_rfl) (by kernel_rfl) (fun _ _ _ h => h) (Or.inl ⟨by rfl, ?yqai3⟩) (by assumption) ?rqai3
                case yqai3 => intro w hSw; (try dsimp only at hSw); go_simp <;> (try with_reducible rfl)
                (try simp only [List.getElem_toArray, List.getElem_cons_succ, List.getElem_cons_zero, Act.put, List.setIfInBounds_toArray, List.set_cons_zero, List.set_cons_succ])
                refine wpAnyH_take (i := 4) (v := ?vqai4) rfl (by kernel_rfl) (by kernel_rfl) (by kernel_rfl) (fun _ _ _ h => h) (Or.inl ⟨by rfl, ?yqai4⟩) (by assumption) ?rqai4
                case yqai4 => intro w hSw; (try dsimp only at hSw); go_simp <;> (try with_reducible rfl)
                (try simp only [List.getElem_toArray, List.getElem_cons_succ, List.getElem_cons_zero, Act.put, List.setIfInBounds_toArray, List.set_cons_zero, List.set_cons_succ])
                refine' wpAnyH_take (i := 5) (v := _) rfl (by kernel_rfl) (by kernel_rfl) (by kernel_rfl) (fun _ _ _ h => h) (yieldsIf_load_mid (by rfl) _ _ (by rfl) _ _ (by rfl) _ _ ?Sqai5 ?uqai5 ?dqai5 ?iqai5) (by assumption) ?rqai5
                case Sqai5 => exact (by intro w h; exact h.1)
                case uqai5 => exact Tryd.underlying33
                case dqai5 => rfl
                case iqai5 => exact zz5_1
                (try simp only [List.getElem_toArray, List.getElem_cons_succ, List.getElem_cons_zero, Act.put, List.setIfInBounds_toArray, List.set_cons_zero, List.set_cons_succ])
                refine' wpAnyH_take (i := 6) (v := _) rfl (by kernel_rfl) (by kernel_rfl) (by kernel_rfl) (fun _ _ _ h => h) (yieldsIf_load_mid (by rfl) _ _ (by rfl) _ _ (by rfl) _ _ ?Sqai6 ?uqai6 ?dqai6 ?iqai6) (by assumption) ?rqai6
                case Sqai6 => exact (by intro w h; exact h.2.1)
                case uqai6 => exact Tryd.underlying30
                case dqai6 => rfl
                case iqai6 => exact zz12_2
                (try simp only [List.getElem_toArray, List.getElem_cons_succ, List.getElem_cons_zero, Act.put, List.setIfInBounds_toArray, List.set_cons_zero, List.set_cons_succ])
                refine' wpAnyH_take (i := 8) (v := _) rfl (by kernel_rfl) (by kernel_rfl) (by kernel_rfl) (fun _ _ _ h => h) (yieldsIf_load_mid (by rfl) _ _ (by rfl) _ _ (by rfl) _ _ ?Sqai8 ?uqai8 ?dqai8 ?iqai8) (by assumption) ?rqai8
                case Sqai8 => exact (by intro w h; exact h.1)
                case uqai8 => exact Tryd.underlying33
                case dqai8 => rfl
                case iqai8 => exact zz5_1
                (try simp only [List.getElem_toArray, List.getElem_cons_succ, List.getElem_cons_zero, Act.put, List.setIfInBounds_toArray, List.set_cons_zero, List.set_cons_succ])
                refine' wpAnyH_take (i := 9) (v := _) rfl (by kernel_rfl) (by kernel_rfl) (by kernel_rfl) (fun _ _ _ h => h) (yieldsIf_load_mid (by rfl) _ _ (by rfl) _ _ (by rfl) _ _ ?Sqai9 ?uqai9 ?dqai9 ?iqai9) (by assumption) ?rqai9
                case Sqai9 => exact (by intro w h; exact h.2.2)
                case uqai9 => exact Tryd.underlying30
                case dqai9 => rfl
                case iqai9 => exact zz6_3
                (try simp only [List.getElem_toArray, List.getElem_cons_succ, List.getElem_cons_zero, Act.put, List.setIfInBounds_toArray, List.set_cons_zero, List.set_cons_succ])
                refine wpAnyH_ready (rs := [7]) (by kernel_rfl) (by simp) ?_
                refine AllReadyH.cons rfl (fun K hK => ?_) AllReadyH.nil
                go_simp
                go_wp2_with fail
                (with_reducible refine (HGA.out _).mono ?_)
                rintro e w21 ⟨rfl, hb21⟩
                have B4 := B4.next hb21 B4.lt
                have B5 := B5.next hb21 B5.lt
                have B6 := B6.next hb21 B6.lt
                have B12 := B12.next hb21 B12.lt
                have hbe := below_join hbe hb21
                refine hK.out _ _ ⟨blk_range B5, blk_range B12, blk_range B6⟩ (fun hHeld => ?_)
                clear hK K hb21
                refine wpAnyH_ready (rs := [10]) (by kernel_rfl) (by simp) ?_
                refine AllReadyH.cons rfl (fun K hK => ?_) AllReadyH.nil
                go_simp
                go_wp2_with fail
                (with_reducible refine (HGB.out _).mono ?_)
                rintro e w22 ⟨rfl, hb22⟩
                have B4 := B4.next hb22 B4.lt
                have B5 := B5.next hb22 B5.lt
                have B6 := B6.next hb22 B6.lt
                have B12 := B12.next hb22 B12.lt
                have hbe := below_join hbe hb22
                refine hK.out _ _ ⟨blk_range B5, blk_range B12, blk_range B6⟩ (fun hHeld => ?_)
                clear hK K hb22
                refine wpAnyH_take (i := 11) (v := ?vqai11) rfl (by kernel_rfl) (by kernel_rfl) (by kernel_rfl) (fun _ _ _ h => h) (Or.inl ⟨by rfl, ?yqai11⟩) (by assumption) ?rqai11
                case yqai11 => intro w hSw; (try dsimp only at hSw); go_simp <;> (try with_reducible rfl)
                (try simp only [List.getElem_toArray, List.getElem_cons_succ, List.getElem_cons_zero, Act.put, List.setIfInBounds_toArray, List.set_cons_zero, List.set_cons_succ])
                refine wpAnyH_take (i := 12) (v := ?vqai12) rfl (by kernel_rfl) (by kernel_rfl) (by kernel_rfl) (fun _ _ _ h => h) (Or.inl ⟨by rfl, ?yqai12⟩) (by assumption) ?rqai12
                case yqai12 => intro w hSw; (try dsimp only at hSw); go_simp <;> (try with_reducible rfl)
                (try simp only [List.getElem_toArray, List.getElem_cons_succ, List.getElem_cons_zero, Act.put, List.setIfInBounds_toArray, List.set_cons_zero, List.set_cons_succ])
                refine wpAnyH_take (i := 13) (v := ?vqai13) rfl (by kernel_rfl) (by kernel_rfl) (by kernel_rfl) (fun _ _ _ h => h) (Or.inl ⟨by rfl, ?yqai13⟩) (by assumption) ?rqai13
                case yqai13 => intro w hSw; (try dsimp only at hSw); go_simp <;> (try with_reducible rfl)
                (try simp only [List.getElem_toArray, List.getElem_cons_succ, List.getElem_cons_zero, Act.put, List.setIfInBounds_toArray, List.set_cons_zero, List.set_cons_succ])
                refine wpAnyH_take (i := 14) (v := ?vqai14) rfl (by kernel_rfl) (by kernel_rfl) (by kernel_rfl) (fun _ _ _ h => h) (Or.inl ⟨by rfl, ?yqai14⟩) (by assumption) ?rqai14
                case yqai14 => intro w hSw; (try dsimp only at hSw); go_simp <;> (try with_reducible rfl)
                (try simp only [List.getElem_toArray, List.getElem_cons_succ, List.getElem_cons_zero, Act.put, List.setIfInBounds_toArray, List.set_cons_zero, List.set_cons_succ])
                refine wpAnyH_done (by kernel_rfl) ?_ _
                clear hHeld zz5_1 zz12_2 zz6_3
                go_wp2
                go_ret
                exact ⟨rfl, hbe⟩
              · skip
                have q2d : decide ((b' : Int) ≥ (EA : Int)) = false := decide_eq_false (by omega)
                have q2e : decide ((EA : Int) ≤ (b' : Int)) = false := decide_eq_false (by omega)
                have q2f : decide (EA ≤ b') = false := decide_eq_false (by omega)
                have z4_0 := B4.cell (k := 0) rfl
                have z4_1 := B4.cell (k := 1) rfl
                have z4_2 := B4.cell (k := 2) rfl
                have z5_0 := B5.cell (k := 0) rfl
                have z5_1 := B5.cell (k := 1) rfl
                have z5_2 := B5.cell (k := 2) rfl
                go_wp2
                clear z4_0 z4_1 z4_2 z5_0 z5_1 z5_2
                have hdd := below_drew w18
                have B4 := B4.next hdd B4.lt
                have B5 := B5.next hdd B5.lt
                have B6 := B6.next hdd B6.lt
                have B12 := B12.next hdd B12.lt
                have hbe := below_join hbe hdd
                refine wp_region_held_drew (S := fun _ => True) (by kernel_rfl) trivial (fun hHeld => ?_)
                clear hdd
                generalize w18.drew = w19 at B4 B5 B6 B12 hbe hHeld  ⊢
                refine wpAnyH_ready (rs := [0]) (by kernel_rfl) (by simp) ?_
                refine AllReadyH.cons rfl (fun K hK => ?_) AllReadyH.nil
                go_simp
                go_wp2_with fail
                (with_reducible refine (HSA.out _ (HQ.out.next hbe)).mono ?_)
                rintro e w20 ⟨rfl, hb20⟩
                have B4 := B4.next hb20 B4.lt
                have B5 := B5.next hb20 B5.lt
                have B6 := B6.next hb20 B6.lt
                have B12 := B12.next hb20 B12.lt
                have hbe := below_join hbe hb20
                refine hK.out _ _ trivial (fun hHeld => ?_)
                clear hK K hb20
                refine wpAnyH_take (i := 1) (v := ?vqaj1) rfl (by kernel_rfl) (by kernel_rfl) (by kernel_rfl) (fun _ _ _ h => h) (Or.inl ⟨by rfl, ?yqaj1⟩) (by assumption) ?rqaj1
                case yqaj1 => intro w hSw; (try dsimp only at hSw); go_simp <;> (try with_reducible rfl)
                (try simp only [List.getElem_toArray, List.getElem_cons_succ, List.getElem_cons_zero, Act.put, List.setIfInBounds_toArray, List.set_cons_zero, List.set_cons_succ])
                refine wpAnyH_take (i := 2) (v := ?vqaj2) rfl (by kernel_rfl) (by kernel_rfl) (by kernel_rfl) (fun _ _ _ h => h) (Or.inl ⟨by rfl, ?yqaj2⟩) (by assumption) ?rqaj2
                case yqaj2 => intro w hSw; (try dsimp only at hSw); go_simp <;> (try with_reducible rfl)
                (try simp only [List.getElem_toArray, List.getElem_cons_succ, List.getElem_cons_zero, Act.put, List.setIfInBounds_toArray, List.set_cons_zero, List.set_cons_succ])
                refine wpAnyH_take (i := 3) (v := ?vqaj3) rfl (by kernel_rfl) (by kernel_rfl) (by kernel_rfl) (fun _ _ _ h => h) (Or.inl ⟨by rfl, ?yqaj3⟩) (by assumption) ?rqaj3
                case yqaj3 => intro w hSw; (try dsimp only at hSw); go_simp <;> (try with_reducible rfl)
                (try simp only [List.getElem_toArray, List.getElem_cons_succ, List.getElem_cons_zero, Act.put, List.setIfInBounds_toArray, List.set_cons_zero, List.set_cons_succ])
                refine wpAnyH_take (i := 4) (v := ?vqaj4) rfl (by kernel_rfl) (by kernel_rfl) (by kernel_rfl) (fun _ _ _ h => h) (Or.inl ⟨by rfl, ?yqaj4⟩) (by assumption) ?rqaj4
                case yqaj4 => intro w hSw; (try dsimp only at hSw); go_simp <;> (try with_reducible rfl)
                (try simp only [List.getElem_toArray, List.getElem_cons_succ, List.getElem_cons_zero, Act.put, List.setIfInBounds_toArray, List.set_cons_zero, List.set_cons_succ])
                refine wpAnyH_take (i := 5) (v := undef) rfl (by kernel_rfl) (by kernel_rfl) (by kernel_rfl) (fun _ _ _ h => h) (Or.inr ⟨by rfl, rfl⟩) (by assumption) ?rqaj5
                (try simp only [List.getElem_toArray, List.getElem_cons_succ, List.getElem_cons_zero, Act.put, List.setIfInBounds_toArray, List.set_cons_zero, List.set_cons_succ])
                refine wpAnyH_take (i := 6) (v := undef) rfl (by kernel_rfl) (by kernel_rfl) (by kernel_rfl) (fun _ _ _ h => h) (Or.inr ⟨by rfl, rfl⟩) (by assumption) ?rqaj6
                (try simp only [List.getElem_toArray, List.getElem_cons_succ, List.getElem_cons_zero, Act.put, List.setIfInBounds_toArray, List.set_cons_zero, List.set_cons_succ])
                refine wpAnyH_take (i := 7) (v := undef) rfl (by kernel_rfl) (by kernel_rfl) (by kernel_rfl) (fun _ _ _ h => h) (Or.inr ⟨by rfl, rfl⟩) (by assumption) ?rqaj7
                (try simp only [List.getElem_toArray, List.getElem_cons_succ, List.getElem_cons_zero, Act.put, List.setIfInBounds_toArray, List.set_cons_zero, List.set_cons_succ])
                refine wpAnyH_take (i := 8) (v := undef) rfl (by kernel_rfl) (by kernel_rfl) (by kernel_rfl) (fun _ _ _ h => h) (Or.inr ⟨by rfl, rfl⟩) (by assumption) ?rqaj8
                (try simp only [List.getElem_toArray, List.getElem_cons_succ, List.getElem_cons_zero, Act.put, List.setIfInBounds_toArray, List.set_cons_zero, List.set_cons_succ])
                refine wpAnyH_take (i := 9) (v := undef) rfl (by kernel_rfl) (by kernel_rfl) (by kernel_rfl) (fun _ _ _ h => h) (Or.inr ⟨by rfl, rfl⟩) (by assumption) ?rqaj9
                (try simp only [List.getElem_toArray, List.getElem_cons_succ, List.getElem_cons_zero, Act.put, List.setIfInBounds_toArray, List.set_cons_zero, List.set_cons_succ])
                refine wpAnyH_take (i := 10) (v := undef) rfl (by kernel_rfl) (by kernel_rfl) (by kernel_rfl) (fun _ _ _ h => h) (Or.inr ⟨by rfl, rfl⟩) (by assumption) ?rqaj10
                (try simp only [List.getElem_toArray, List.getElem_cons_succ, List.getElem_cons_zero, Act.put, List.setIfInBounds_toArray, List.set_cons_zero, List.set_cons_succ])
                refine wpAnyH_take (i := 11) (v := undef) rfl (by kernel_rfl) (by kernel_rfl) (by kernel_rfl) (fun _ _ _ h => h) (Or.inr ⟨by rfl, rfl⟩) (by assumption) ?rqaj11
                (try simp only [List.getElem_toArray, List.getElem_cons_succ, List.getElem_cons_zero, Act.put, List.setIfInBounds_toArray, List.set_cons_zero, List.set_cons_succ])
                refine wpAnyH_take (i := 12) (v := ?vqaj12) rfl (by kernel_rfl) (by kernel_rfl) (by kernel_rfl) (fun _ _ _ h => h) (Or.inl ⟨by rfl, ?yqaj12⟩) (by assumption) ?rqaj12
                case yqaj12 => intro w hSw; (try dsimp only at hSw); go_simp <;> (try with_reducible rfl)
                (try simp only [List.getElem_toArray, List.getElem_cons_succ, List.getElem_cons_zero, Act.put, List.setIfInBounds_toArray, List.set_cons_zero, List.set_cons_succ])
                refine wpAnyH_take (i := 13) (v := ?vqaj13) rfl (by kernel_rfl) (by kernel_rfl) (by kernel_rfl) (fun _ _ _ h => h) (Or.inl ⟨by rfl, ?yqaj13⟩) (by assumption) ?rqaj13
                case yqaj13 => intro w hSw; (try dsimp only at hSw); go_simp <;> (try with_reducible rfl)
                (try simp only [List.getElem_toArray, List.getElem_cons_succ, List.getElem_cons_zero, Act.put, List.setIfInBounds_toArray, List.set_cons_zero, List.set_cons_succ])
                refine wpAnyH_take (i := 14) (v := ?vqaj14) rfl (by kernel_rfl) (by kernel_rfl) (by kernel_rfl) (fun _ _ _ h => h) (Or.inl ⟨by rfl, ?yqaj14⟩) (by assumption) ?rqaj14
                case yqaj14 => intro w hSw; (try dsimp only at hSw); go_simp <;> (try with_reducible rfl)
                (try simp only [List.getElem_toArray, List.getElem_cons_succ, List.getElem_cons_zero, Act.put, List.setIfInBounds_toArray, List.set_cons_zero, List.set_cons_succ])
                refine wpAnyH_done (by kernel_rfl) ?_ _
                clear hHeld 
                go_wp2
                go_ret
                exact ⟨rfl, hbe⟩
          · have hxMd : decide ((X : Int) > (M : Int)) = true := decide_eq_true (by omega)
            have hxMe : decide ((M : Int) < (X : Int)) = true := decide_eq_true (by omega)
            have hxMf : decide (M < X) = true := decide_eq_true (by omega)
            go_enter Tryd.func5, Tryd.ntmps5
            go_wp2_with (with_reducible refine wpList_box (o := ⟨some 4, .box 33 (.tmp 0), _, _, _, _⟩) ?g4qak 33 (.tmp 0) ?o4qak (.agg #[.string s, .int .i64 (a' : Int), .int .i64 (n' : Int)]) [Value.string s, .int .i64 (a' : Int), .int .i64 (n' : Int)] ?x4qak ?c4qak ?_)
            try (case g4qak => rfl)
            try (case o4qak => rfl)
            try (case x4qak => rfl)
            try (case c4qak => rfl)
            intro g4 w1 hg4 hs1 hb1 B4
            have hl4 : w.heap.size ≤ g4 := Nat.le_of_eq hg4.out.symm
            have hb1 := hb1.mono (Nat.le_of_eq hg4.out.symm)
            have hbe : Below w.heap.size w w1 := hb1
            clear hb1 hg4 hs1
            go_wp2_with (with_reducible refine wpList_box (o := ⟨some 5, .box 33 (.tmp 1), _, _, _, _⟩) ?g5qal 33 (.tmp 1) ?o5qal (.agg #[.string t, .int .i64 (b' : Int), .int .i64 (m' : Int)]) [Value.string t, .int .i64 (b' : Int), .int .i64 (m' : Int)] ?x5qal ?c5qal ?_)
            try (case g5qal => rfl)
            try (case o5qal => rfl)
            try (case x5qal => rfl)
            try (case c5qal => rfl)
            intro g5 w2 hg5 hs2 hb2 B5
            have hl5 : w.heap.size ≤ g5 := Nat.le_trans hbe.size (Nat.le_of_eq hg5.out.symm)
            have ne4_5 : g4 ≠ g5 := by have := B4.lt; have := hg5.out; omega
            have ne5_4 := ne4_5.symm
            have hb2 := hb2.mono (Nat.le_of_eq hg5.out.symm)
            have B4 := B4.next hb2 B4.lt
            have hbe := below_join hbe hb2
            clear hb2 hg5 hs2
            go_wp2_with (with_reducible refine wpList_box (o := ⟨some 6, .box 30 (.tmp 2), _, _, _, _⟩) ?g6qam 30 (.tmp 2) ?o6qam (.agg (H h).toArray) (H h) ?x6qam ?c6qam ?_)
            try (case g6qam => rfl)
            try (case o6qam => rfl)
            try (case x6qam => rfl)
            try (case c6qam => rfl)
            intro g6 w3 hg6 hs3 hb3 B6
            have hl6 : w.heap.size ≤ g6 := Nat.le_trans hbe.size (Nat.le_of_eq hg6.out.symm)
            have ne4_6 : g4 ≠ g6 := by have := B4.lt; have := hg6.out; omega
            have ne6_4 := ne4_6.symm
            have ne5_6 : g5 ≠ g6 := by have := B5.lt; have := hg6.out; omega
            have ne6_5 := ne5_6.symm
            have hb3 := hb3.mono (Nat.le_of_eq hg6.out.symm)
            have B4 := B4.next hb3 B4.lt
            have B5 := B5.next hb3 B5.lt
            have hbe := below_join hbe hb3
            clear hb3 hg6 hs3
            have z4_0 := B4.cell (k := 0) rfl
            have z4_1 := B4.cell (k := 1) rfl
            have z4_2 := B4.cell (k := 2) rfl
            go_wp2_with fail
            (with_reducible refine (HR1.out _).mono ?_)
            rintro e w4 ⟨rfl, hb4⟩
            clear z4_0 z4_1 z4_2
            have B4 := B4.next hb4 B4.lt
            have B5 := B5.next hb4 B5.lt
            have B6 := B6.next hb4 B6.lt
            have hbe := below_join hbe hb4
            clear hb4
            have z5_0 := B5.cell (k := 0) rfl
            have z5_1 := B5.cell (k := 1) rfl
            have z5_2 := B5.cell (k := 2) rfl
            go_wp2_with fail
            (with_reducible refine (HR2.out _).mono ?_)
            rintro e w5 ⟨rfl, hb5⟩
            clear z5_0 z5_1 z5_2
            have B4 := B4.next hb5 B4.lt
            have B5 := B5.next hb5 B5.lt
            have B6 := B6.next hb5 B6.lt
            have hbe := below_join hbe hb5
            clear hb5
            go_wp2_with (first | (with_reducible refine wpList_getg (o := ⟨some 18, .load 30 (.tmp 6), _, _, _, _⟩) (by with_unfolding_all rfl) 30 (.tmp 6) (by with_unfolding_all rfl) g6 0 (by with_unfolding_all rfl) B6 (H h) (cs_all _) _ (by exact Tryd.underlying30) (by with_unfolding_all rfl) (by first | (rw [H_length]; exact Tryd.szH) | (rw [List.length_map, hl10]; exact Tryd.szH)) ?_))
            (with_reducible refine (HR3.out _).mono ?_)
            rintro e w6 ⟨rfl, hb6⟩
            have B4 := B4.next hb6 B4.lt
            have B5 := B5.next hb6 B5.lt
            have B6 := B6.next hb6 B6.lt
            have hbe := below_join hbe hb6
            clear hb6
            have z4_0 := B4.cell (k := 0) rfl
            have z4_1 := B4.cell (k := 1) rfl
            have z4_2 := B4.cell (k := 2) rfl
            go_wp2_with fail
            (with_reducible refine (HMX.out _).mono ?_)
            rintro e w7 ⟨rfl, hb7⟩
            clear z4_0 z4_1 z4_2
            have B4 := B4.next hb7 B4.lt
            have B5 := B5.next hb7 B5.lt
            have B6 := B6.next hb7 B6.lt
            have hbe := below_join hbe hb7
            clear hb7
            go_wp2_with fail
            (with_reducible refine (HSA.out _ (HQ.out.next hbe)).mono ?_)
            rintro e w8 ⟨rfl, hb8⟩
            have B4 := B4.next hb8 B4.lt
            have B5 := B5.next hb8 B5.lt
            have B6 := B6.next hb8 B6.lt
            have hbe := below_join hbe hb8
            clear hb8
            go_wp2
            go_ret
            exact ⟨rfl, hbe⟩
      | false =>
        skip
        go_enter Tryd.func5, Tryd.ntmps5
        go_wp2_with (with_reducible refine wpList_box (o := ⟨some 4, .box 33 (.tmp 0), _, _, _, _⟩) ?g4qan 33 (.tmp 0) ?o4qan (.agg #[.string s, .int .i64 a, .int .i64 n]) [Value.string s, .int .i64 a, .int .i64 n] ?x4qan ?c4qan ?_)
        try (case g4qan => rfl)
        try (case o4qan => rfl)
        try (case x4qan => rfl)
        try (case c4qan => rfl)
        intro g4 w1 hg4 hs1 hb1 B4
        have hl4 : w.heap.size ≤ g4 := Nat.le_of_eq hg4.out.symm
        have hb1 := hb1.mono (Nat.le_of_eq hg4.out.symm)
        have hbe : Below w.heap.size w w1 := hb1
        clear hb1 hg4 hs1
        go_wp2_with (with_reducible refine wpList_box (o := ⟨some 5, .box 33 (.tmp 1), _, _, _, _⟩) ?g5qao 33 (.tmp 1) ?o5qao (.agg #[.string t, .int .i64 b, .int .i64 m]) [Value.string t, .int .i64 b, .int .i64 m] ?x5qao ?c5qao ?_)
        try (case g5qao => rfl)
        try (case o5qao => rfl)
        try (case x5qao => rfl)
        try (case c5qao => rfl)
        intro g5 w2 hg5 hs2 hb2 B5
        have hl5 : w.heap.size ≤ g5 := Nat.le_trans hbe.size (Nat.le_of_eq hg5.out.symm)
        have ne4_5 : g4 ≠ g5 := by have := B4.lt; have := hg5.out; omega
        have ne5_4 := ne4_5.symm
        have hb2 := hb2.mono (Nat.le_of_eq hg5.out.symm)
        have B4 := B4.next hb2 B4.lt
        have hbe := below_join hbe hb2
        clear hb2 hg5 hs2
        go_wp2_with (with_reducible refine wpList_box (o := ⟨some 6, .box 30 (.tmp 2), _, _, _, _⟩) ?g6qap 30 (.tmp 2) ?o6qap (.agg (hl.map iV).toArray) (hl.map iV) ?x6qap ?c6qap ?_)
        try (case g6qap => rfl)
        try (case o6qap => rfl)
        try (case x6qap => rfl)
        try (case c6qap => rfl)
        intro g6 w3 hg6 hs3 hb3 B6
        have hl6 : w.heap.size ≤ g6 := Nat.le_trans hbe.size (Nat.le_of_eq hg6.out.symm)
        have ne4_6 : g4 ≠ g6 := by have := B4.lt; have := hg6.out; omega
        have ne6_4 := ne4_6.symm
        have ne5_6 : g5 ≠ g6 := by have := B5.lt; have := hg6.out; omega
        have ne6_5 := ne5_6.symm
        have hb3 := hb3.mono (Nat.le_of_eq hg6.out.symm)
        have B4 := B4.next hb3 B4.lt
        have B5 := B5.next hb3 B5.lt
        have hbe := below_join hbe hb3
        clear hb3 hg6 hs3
        have z4_0 := B4.cell (k := 0) rfl
        have z4_1 := B4.cell (k := 1) rfl
        have z4_2 := B4.cell (k := 2) rfl
        go_wp2_with fail
        (with_reducible refine (HR1.out _).mono ?_)
        rintro e w4 ⟨rfl, hb4⟩
        clear z4_0 z4_1 z4_2
        have B4 := B4.next hb4 B4.lt
        have B5 := B5.next hb4 B5.lt
        have B6 := B6.next hb4 B6.lt
        have hbe := below_join hbe hb4
        clear hb4
        have z5_0 := B5.cell (k := 0) rfl
        have z5_1 := B5.cell (k := 1) rfl
        have z5_2 := B5.cell (k := 2) rfl
        go_wp2_with fail
        (with_reducible refine (HR2.out _).mono ?_)
        rintro e w5 ⟨rfl, hb5⟩
        clear z5_0 z5_1 z5_2
        have B4 := B4.next hb5 B4.lt
        have B5 := B5.next hb5 B5.lt
        have B6 := B6.next hb5 B6.lt
        have hbe := below_join hbe hb5
        clear hb5
        go_wp2_with (first | (with_reducible refine wpList_getg (o := ⟨some 18, .load 30 (.tmp 6), _, _, _, _⟩) (by with_unfolding_all rfl) 30 (.tmp 6) (by with_unfolding_all rfl) g6 0 (by with_unfolding_all rfl) B6 (hl.map iV) (cs_all _) _ (by exact Tryd.underlying30) (by with_unfolding_all rfl) (by rw [List.length_map, hl10]; exact Tryd.szH) ?_))
        (with_reducible refine (HR3.out _).mono ?_)
        rintro e w6 ⟨rfl, hb6⟩
        have B4 := B4.next hb6 B4.lt
        have B5 := B5.next hb6 B5.lt
        have B6 := B6.next hb6 B6.lt
        have hbe := below_join hbe hb6
        clear hb6
        go_wp2_with fail
        (with_reducible refine (HSA.out _ (HQ.out.next hbe)).mono ?_)
        rintro e w7 ⟨rfl, hb7⟩
        have B4 := B4.next hb7 B4.lt
        have B5 := B5.next hb7 B5.lt
        have B6 := B6.next hb7 B6.lt
        have hbe := below_join hbe hb7
        clear hb7
        go_wp2
        go_ret
        exact ⟨rfl, hbe⟩
    | false =>
      skip
      go_enter Tryd.func5, Tryd.ntmps5
      go_wp2_with (with_reducible refine wpList_box (o := ⟨some 4, .box 33 (.tmp 0), _, _, _, _⟩) ?g4qaq 33 (.tmp 0) ?o4qaq (.agg #[.string s, .int .i64 a, .int .i64 n]) [Value.string s, .int .i64 a, .int .i64 n] ?x4qaq ?c4qaq ?_)
      try (case g4qaq => rfl)
      try (case o4qaq => rfl)
      try (case x4qaq => rfl)
      try (case c4qaq => rfl)
      intro g4 w1 hg4 hs1 hb1 B4
      have hl4 : w.heap.size ≤ g4 := Nat.le_of_eq hg4.out.symm
      have hb1 := hb1.mono (Nat.le_of_eq hg4.out.symm)
      have hbe : Below w.heap.size w w1 := hb1
      clear hb1 hg4 hs1
      go_wp2_with (with_reducible refine wpList_box (o := ⟨some 5, .box 33 (.tmp 1), _, _, _, _⟩) ?g5qar 33 (.tmp 1) ?o5qar (.agg #[.string t, .int .i64 b, .int .i64 m]) [Value.string t, .int .i64 b, .int .i64 m] ?x5qar ?c5qar ?_)
      try (case g5qar => rfl)
      try (case o5qar => rfl)
      try (case x5qar => rfl)
      try (case c5qar => rfl)
      intro g5 w2 hg5 hs2 hb2 B5
      have hl5 : w.heap.size ≤ g5 := Nat.le_trans hbe.size (Nat.le_of_eq hg5.out.symm)
      have ne4_5 : g4 ≠ g5 := by have := B4.lt; have := hg5.out; omega
      have ne5_4 := ne4_5.symm
      have hb2 := hb2.mono (Nat.le_of_eq hg5.out.symm)
      have B4 := B4.next hb2 B4.lt
      have hbe := below_join hbe hb2
      clear hb2 hg5 hs2
      go_wp2_with (with_reducible refine wpList_box (o := ⟨some 6, .box 30 (.tmp 2), _, _, _, _⟩) ?g6qas 30 (.tmp 2) ?o6qas (.agg (hl.map iV).toArray) (hl.map iV) ?x6qas ?c6qas ?_)
      try (case g6qas => rfl)
      try (case o6qas => rfl)
      try (case x6qas => rfl)
      try (case c6qas => rfl)
      intro g6 w3 hg6 hs3 hb3 B6
      have hl6 : w.heap.size ≤ g6 := Nat.le_trans hbe.size (Nat.le_of_eq hg6.out.symm)
      have ne4_6 : g4 ≠ g6 := by have := B4.lt; have := hg6.out; omega
      have ne6_4 := ne4_6.symm
      have ne5_6 : g5 ≠ g6 := by have := B5.lt; have := hg6.out; omega
      have ne6_5 := ne5_6.symm
      have hb3 := hb3.mono (Nat.le_of_eq hg6.out.symm)
      have B4 := B4.next hb3 B4.lt
      have B5 := B5.next hb3 B5.lt
      have hbe := below_join hbe hb3
      clear hb3 hg6 hs3
      have z4_0 := B4.cell (k := 0) rfl
      have z4_1 := B4.cell (k := 1) rfl
      have z4_2 := B4.cell (k := 2) rfl
      go_wp2_with fail
      (with_reducible refine (HR1.out _).mono ?_)
      rintro e w4 ⟨rfl, hb4⟩
      clear z4_0 z4_1 z4_2
      have B4 := B4.next hb4 B4.lt
      have B5 := B5.next hb4 B5.lt
      have B6 := B6.next hb4 B6.lt
      have hbe := below_join hbe hb4
      clear hb4
      have z5_0 := B5.cell (k := 0) rfl
      have z5_1 := B5.cell (k := 1) rfl
      have z5_2 := B5.cell (k := 2) rfl
      go_wp2_with fail
      (with_reducible refine (HR2.out _).mono ?_)
      rintro e w5 ⟨rfl, hb5⟩
      clear z5_0 z5_1 z5_2
      have B4 := B4.next hb5 B4.lt
      have B5 := B5.next hb5 B5.lt
      have B6 := B6.next hb5 B6.lt
      have hbe := below_join hbe hb5
      clear hb5
      go_wp2_with (first | (with_reducible refine wpList_getg (o := ⟨some 18, .load 30 (.tmp 6), _, _, _, _⟩) (by with_unfolding_all rfl) 30 (.tmp 6) (by with_unfolding_all rfl) g6 0 (by with_unfolding_all rfl) B6 (hl.map iV) (cs_all _) _ (by exact Tryd.underlying30) (by with_unfolding_all rfl) (by rw [List.length_map, hl10]; exact Tryd.szH) ?_))
      (with_reducible refine (HR3.out _).mono ?_)
      rintro e w6 ⟨rfl, hb6⟩
      have B4 := B4.next hb6 B4.lt
      have B5 := B5.next hb6 B5.lt
      have B6 := B6.next hb6 B6.lt
      have hbe := below_join hbe hb6
      clear hb6
      go_wp2_with fail
      (with_reducible refine (HSA.out _ (HQ.out.next hbe)).mono ?_)
      rintro e w7 ⟨rfl, hb7⟩
      have B4 := B4.next hb7 B4.lt
      have B5 := B5.next hb7 B5.lt
      have B6 := B6.next hb7 B6.lt
      have hbe := below_join hbe hb7
      clear hb7
      go_wp2
      go_ret
      exact ⟨rfl, hbe⟩
  · rw [decide_eq_false h1] at HR1
    go_enter Tryd.func5, Tryd.ntmps5
    go_wp2_with (with_reducible refine wpList_box (o := ⟨some 4, .box 33 (.tmp 0), _, _, _, _⟩) ?g4qat 33 (.tmp 0) ?o4qat (.agg #[.string s, .int .i64 a, .int .i64 n]) [Value.string s, .int .i64 a, .int .i64 n] ?x4qat ?c4qat ?_)
    try (case g4qat => rfl)
    try (case o4qat => rfl)
    try (case x4qat => rfl)
    try (case c4qat => rfl)
    intro g4 w1 hg4 hs1 hb1 B4
    have hl4 : w.heap.size ≤ g4 := Nat.le_of_eq hg4.out.symm
    have hb1 := hb1.mono (Nat.le_of_eq hg4.out.symm)
    have hbe : Below w.heap.size w w1 := hb1
    clear hb1 hg4 hs1
    go_wp2_with (with_reducible refine wpList_box (o := ⟨some 5, .box 33 (.tmp 1), _, _, _, _⟩) ?g5qau 33 (.tmp 1) ?o5qau (.agg #[.string t, .int .i64 b, .int .i64 m]) [Value.string t, .int .i64 b, .int .i64 m] ?x5qau ?c5qau ?_)
    try (case g5qau => rfl)
    try (case o5qau => rfl)
    try (case x5qau => rfl)
    try (case c5qau => rfl)
    intro g5 w2 hg5 hs2 hb2 B5
    have hl5 : w.heap.size ≤ g5 := Nat.le_trans hbe.size (Nat.le_of_eq hg5.out.symm)
    have ne4_5 : g4 ≠ g5 := by have := B4.lt; have := hg5.out; omega
    have ne5_4 := ne4_5.symm
    have hb2 := hb2.mono (Nat.le_of_eq hg5.out.symm)
    have B4 := B4.next hb2 B4.lt
    have hbe := below_join hbe hb2
    clear hb2 hg5 hs2
    go_wp2_with (with_reducible refine wpList_box (o := ⟨some 6, .box 30 (.tmp 2), _, _, _, _⟩) ?g6qav 30 (.tmp 2) ?o6qav (.agg (hl.map iV).toArray) (hl.map iV) ?x6qav ?c6qav ?_)
    try (case g6qav => rfl)
    try (case o6qav => rfl)
    try (case x6qav => rfl)
    try (case c6qav => rfl)
    intro g6 w3 hg6 hs3 hb3 B6
    have hl6 : w.heap.size ≤ g6 := Nat.le_trans hbe.size (Nat.le_of_eq hg6.out.symm)
    have ne4_6 : g4 ≠ g6 := by have := B4.lt; have := hg6.out; omega
    have ne6_4 := ne4_6.symm
    have ne5_6 : g5 ≠ g6 := by have := B5.lt; have := hg6.out; omega
    have ne6_5 := ne5_6.symm
    have hb3 := hb3.mono (Nat.le_of_eq hg6.out.symm)
    have B4 := B4.next hb3 B4.lt
    have B5 := B5.next hb3 B5.lt
    have hbe := below_join hbe hb3
    clear hb3 hg6 hs3
    have z4_0 := B4.cell (k := 0) rfl
    have z4_1 := B4.cell (k := 1) rfl
    have z4_2 := B4.cell (k := 2) rfl
    go_wp2_with fail
    (with_reducible refine (HR1.out _).mono ?_)
    rintro e w4 ⟨rfl, hb4⟩
    clear z4_0 z4_1 z4_2
    have B4 := B4.next hb4 B4.lt
    have B5 := B5.next hb4 B5.lt
    have B6 := B6.next hb4 B6.lt
    have hbe := below_join hbe hb4
    clear hb4
    have z5_0 := B5.cell (k := 0) rfl
    have z5_1 := B5.cell (k := 1) rfl
    have z5_2 := B5.cell (k := 2) rfl
    go_wp2_with fail
    (with_reducible refine (HR2.out _).mono ?_)
    rintro e w5 ⟨rfl, hb5⟩
    clear z5_0 z5_1 z5_2
    have B4 := B4.next hb5 B4.lt
    have B5 := B5.next hb5 B5.lt
    have B6 := B6.next hb5 B6.lt
    have hbe := below_join hbe hb5
    clear hb5
    go_wp2_with (first | (with_reducible refine wpList_getg (o := ⟨some 18, .load 30 (.tmp 6), _, _, _, _⟩) (by with_unfolding_all rfl) 30 (.tmp 6) (by with_unfolding_all rfl) g6 0 (by with_unfolding_all rfl) B6 (hl.map iV) (cs_all _) _ (by exact Tryd.underlying30) (by with_unfolding_all rfl) (by rw [List.length_map, hl10]; exact Tryd.szH) ?_))
    (with_reducible refine (HR3.out _).mono ?_)
    rintro e w6 ⟨rfl, hb6⟩
    have B4 := B4.next hb6 B4.lt
    have B5 := B5.next hb6 B5.lt
    have B6 := B6.next hb6 B6.lt
    have hbe := below_join hbe hb6
    clear hb6
    go_wp2_with fail
    (with_reducible refine (HSA.out _ (HQ.out.next hbe)).mono ?_)
    rintro e w7 ⟨rfl, hb7⟩
    have B4 := B4.next hb7 B4.lt
    have B5 := B5.next hb7 B5.lt
    have B6 := B6.next hb7 B6.lt
    have hbe := below_join hbe hb7
    clear hb7
    go_wp2
    go_ret
    exact ⟨rfl, hbe⟩
end Go.Proofs.YtbgndopgllnmaaaDoor
