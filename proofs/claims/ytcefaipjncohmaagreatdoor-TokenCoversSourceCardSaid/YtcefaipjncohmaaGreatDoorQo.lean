/-
  Contracts of the walks over Words, Name and Join of the program. Conditions: the program's tables lie there; texts that fit into memory.
-/
import Derived.Test.YtcefaipjncohmaaGreatDoorQn
import Derived.Test.YtcefaipjncohmaaGreatDoorShelft
import Derived.Shelf.Strings.OnBuilder
import Derived.Shelf.Strings.Repeat
import Derived.Shelf.Strings.SplitShaped
import Derived.Shelf.Strconv.Itoa3
namespace Go.Proofs.YtcefaipjncohmaaGreatDoor
set_option linter.unusedVariables false
set_option linter.unusedSimpArgs false
open Go.RowKit Go.Shelf

theorem Tryz.joinX : Builder.Extra Tryz.prog Tryz.joinA_ren where
  sizeBuilder := by kernel_rfl
  liesBuilder := by kernel_rfl
  t5 := by kernel_rfl
  a5 := run_isAgg_plain (by kernel_rfl : Tryz.prog.underlying (Tryz.joinA_ren.t 5) = some (.int .u8)) rfl
  z5 := Tryz.splitA.z5
  v5 := Tryz.splitA.v5
  infoByte := by kernel_rfl
  cellsByte := by kernel_rfl
  sizeByte := by kernel_rfl
  neB5 := by decide
theorem Tryz.sz49 : (Tryz.prog.info? 73).map (·.size) = some 49 := by kernel_rfl
theorem wordVs_len : wordVs.length = 49 := rfl
theorem Tryz.szWords : (Tryz.prog.info? 73).map (·.size) = some wordVs.length := by rw [wordVs_len]; exact Tryz.sz49
def emp49 : List Value := List.replicate 49 (Value.string ByteArray.empty)
theorem Tryz.zero49 : (Tryz.prog.info? 73).map (·.zero) = some (some (.agg emp49.toArray)) := by kernel_rfl
theorem emp49_len : emp49.length = 49 := rfl
theorem words_one : ∀ u ∈ wordVs, u.oneCell' = true := by
  intro u hu
  unfold wordVs at hu
  obtain ⟨l, _, rfl⟩ := List.mem_map.1 hu
  rfl
set_option maxRecDepth 100000 in
set_option maxHeartbeats 1600000 in
theorem words_any (w : World) (hT : TT w) : Calls Tryz.prog 14 #[] w fun e w' => (∃ g, e = .returned (.slice (some ⟨g, 0, none⟩) 49 49) ∧ Blk w' g 73 wordVs) ∧ Below w.heap.size w w' := by
  have h2 := hT.words
  obtain ⟨V, hV⟩ : ∃ V, Hid (wordVs = V) := ⟨_, rfl⟩
  have hsz := Tryz.szWords
  have hone := words_one
  have hlen := wordVs_len
  rw [hV.out] at h2 hsz hone hlen ⊢
  have HV1 := Lib.hid hone
  have HVL := Lib.hid hlen
  clear hT hone hlen
  go_enter Tryz.func14, Tryz.ntmps14
  go_wp2_with (first | (with_reducible refine wpList_load_mid (op := ⟨some 2, .load 73 (.global 0), _, _, _, _⟩) (by with_unfolding_all rfl) 73 (.global 0) (by with_unfolding_all rfl) 0 0 (by with_unfolding_all rfl) V _ h2 (by exact Tryz.underlying73) (by with_unfolding_all rfl) hsz ?_) | (with_reducible refine wpList_alloc (o := ⟨some 1, .alloc 73, _, _, _, _⟩) (by with_unfolding_all rfl) 73 (by with_unfolding_all rfl) (.agg emp49.toArray) emp49 (by exact Tryz.zero49) (by with_unfolding_all rfl) ?_))
  intro g1 w1 hg1 hs1 hb1 B1
  have hb1 := hb1.mono (Nat.le_of_eq hg1.out.symm)
  have hl1 : w.heap.size ≤ g1 := Nat.le_of_eq hg1.out.symm
  go_wp2_with (with_reducible refine wpList_put (o := ⟨none, .store 73 (.tmp 1) (.tmp 2), _, _, _, _⟩) (by with_unfolding_all rfl) 73 (.tmp 1) (.tmp 2) (by with_unfolding_all rfl) g1 0 (by with_unfolding_all rfl) (.agg V.toArray) (by with_unfolding_all rfl) B1 V (by with_unfolding_all rfl) (by with_unfolding_all (exact hsz)) (by with_unfolding_all (rw [HVL.out, emp49_len]; exact Nat.le_refl _)) (by with_unfolding_all (exact HV1.out)) ?_)
  intro w2 hu2 C1
  rw [splice_all _ _ (by rw [HVL.out, emp49_len])] at C1
  have hbe := hb1.trans (hu2.below (B := w.heap.size) hl1)
  go_wp2
  go_ret
  exact ⟨⟨g1, rfl, C1⟩, hbe⟩
theorem rightTokens : True := trivial
theorem nameM_nil : nameM [] = false := rfl
theorem nameM_eq (s : ByteArray) (h : 0 < s.size) : nameM s.data.toList = (lo s[0] && decide (kindM s.data.toList = 1) && decide (runL s.data.toList = s.size)) := by
  obtain ⟨l, hl⟩ := head_of s h
  have hz := lenS s
  rw [hl] at hz ⊢
  rw [← hz]
  rfl
theorem eq_run (s : ByteArray) : ((s.extract 0 (runL s.data.toList)).toList == s.toList) = decide (runL s.data.toList = s.size) := by
  have hsz := run_sz s
  by_cases h : runL s.data.toList = s.size
  · rw [decide_eq_true h]
    have : s.extract 0 (runL s.data.toList) = s := data_inj (by rw [cut_ls, h, ← bytes_size, List.take_length])
    rw [this]; exact beq_self_eq_true _
  · rw [decide_eq_false h]
    refine beq_eq_false_iff_ne.2 fun e => h ?_
    have := bytes_inj e
    rw [this] at hsz
    exact hsz.symm
theorem ret_bool {a b : Bool} (h : b = a) : Ending.returned (.bool a) = Ending.returned (.bool b) := by rw [h]
set_option maxRecDepth 100000 in
set_option maxHeartbeats 3200000 in
theorem name_any (s : ByteArray) (hs : s.size ≤ 140737488355328) (w : World) (hT : TT w) :
    Calls Tryz.prog 16 #[.string s] w fun e w' => e = .returned (.bool (nameM s.data.toList)) ∧ Below w.heap.size w w' := by
  have HT := Lib.hid hT
  clear hT
  by_cases h0 : s.size = 0
  · have hN : nameM s.data.toList = false := by
      have : s.data.toList = [] := List.eq_nil_of_length_eq_zero (by rw [bytes_size]; exact h0)
      rw [this]; rfl
    rw [hN]
    have k1 := toList_nil h0
    have k2 := isEmpty_nil h0
    clear hN
    go_enter Tryz.func16, Tryz.ntmps16
    go_wp2_with (with_reducible refine wpList_box (o := ⟨some 1, .box 9 (.tmp 0), _, _, _, _⟩) ?g1nanil 9 (.tmp 0) ?o1nanil (.string s) [.string s] ?x1nanil ?c1nanil ?_)
    try (case g1nanil => rfl)
    try (case o1nanil => rfl)
    try (case x1nanil => rfl)
    try (case c1nanil => rfl)
    intro g1 w1 hg1 hs1 hb1 B1
    have hl1 : w.heap.size ≤ g1 := Nat.le_of_eq hg1.out.symm
    have hb1 := hb1.mono (Nat.le_of_eq hg1.out.symm)
    have hbe : Below w.heap.size w w1 := hb1
    clear hb1 hg1 hs1
    have z1_0 := B1.cell (k := 0) rfl
    go_wp2
    go_ret
    exact ⟨rfl, hbe⟩
  · have hpos : 0 < s.size := by omega
    have k1 := toList_ne hpos
    have k2 := isEmpty_ne hpos
    have hposi : (0 : Int) < (s.size : Int) := by omega
    have hN := nameM_eq s hpos
    have HK := fun w hT => kind_any s w hT
    have HR := fun g w hg => lead_nb1 s g hs w hg
    have heq := eq_run s
    obtain ⟨b, hb⟩ : ∃ b, s[0]'hpos = b := ⟨_, rfl⟩
    rw [hb] at hN
    rw [hN]
    have HL := fun w => letter_any b w
    obtain ⟨p, hp⟩ : ∃ p, lo b = p := ⟨_, rfl⟩
    rw [hp] at HL ⊢
    obtain ⟨K, hK⟩ : ∃ K, kindM s.data.toList = K := ⟨_, rfl⟩
    rw [hK] at HK ⊢
    obtain ⟨R, hR⟩ : ∃ R, s.extract 0 (runL s.data.toList) = R := ⟨_, rfl⟩
    rw [hR] at HR heq
    rw [← heq]
    obtain ⟨q, hq⟩ : ∃ q, (R.toList == s.toList) = q := ⟨_, rfl⟩
    rw [hq]
    have HEQ := Lib.hid hq
    clear hN hK hR heq hp
    cases p
    · skip
      go_enter Tryz.func16, Tryz.ntmps16
      go_wp2_with (with_reducible refine wpList_box (o := ⟨some 1, .box 9 (.tmp 0), _, _, _, _⟩) ?g1nanolo 9 (.tmp 0) ?o1nanolo (.string s) [.string s] ?x1nanolo ?c1nanolo ?_)
      try (case g1nanolo => rfl)
      try (case o1nanolo => rfl)
      try (case x1nanolo => rfl)
      try (case c1nanolo => rfl)
      intro g1 w1 hg1 hs1 hb1 B1
      have hl1 : w.heap.size ≤ g1 := Nat.le_of_eq hg1.out.symm
      have hb1 := hb1.mono (Nat.le_of_eq hg1.out.symm)
      have hbe : Below w.heap.size w w1 := hb1
      clear hb1 hg1 hs1
      have z1_0 := B1.cell (k := 0) rfl
      go_wp2_with fail
      (with_reducible refine (HL _).mono ?_)
      rintro e w2 ⟨rfl, hb2⟩
      clear z1_0
      have B1 := B1.next hb2 B1.lt
      have hbe := below_join hbe hb2
      clear hb2
      have z1_0 := B1.cell (k := 0) rfl
      go_wp2
      go_ret
      exact ⟨rfl, hbe⟩
    · by_cases hk : K = 1
      · have hki : ((K : Int) != 1) = false := by rw [hk]; rfl
        rw [decide_eq_true hk]
        clear hk
        go_enter Tryz.func16, Tryz.ntmps16
        go_wp2_with (with_reducible refine wpList_box (o := ⟨some 1, .box 9 (.tmp 0), _, _, _, _⟩) ?g1narun 9 (.tmp 0) ?o1narun (.string s) [.string s] ?x1narun ?c1narun ?_)
        try (case g1narun => rfl)
        try (case o1narun => rfl)
        try (case x1narun => rfl)
        try (case c1narun => rfl)
        intro g1 w1 hg1 hs1 hb1 B1
        have hl1 : w.heap.size ≤ g1 := Nat.le_of_eq hg1.out.symm
        have hb1 := hb1.mono (Nat.le_of_eq hg1.out.symm)
        have hbe : Below w.heap.size w w1 := hb1
        clear hb1 hg1 hs1
        have z1_0 := B1.cell (k := 0) rfl
        go_wp2_with fail
        (with_reducible refine (HL _).mono ?_)
        rintro e w2 ⟨rfl, hb2⟩
        clear z1_0
        have B1 := B1.next hb2 B1.lt
        have hbe := below_join hbe hb2
        clear hb2
        have z1_0 := B1.cell (k := 0) rfl
        go_wp2_with fail
        (with_reducible refine (HK _ (HT.out.next hbe)).mono ?_)
        rintro e w3 ⟨rfl, hb3⟩
        clear z1_0
        have B1 := B1.next hb3 B1.lt
        have hbe := below_join hbe hb3
        clear hb3
        have z1_0 := B1.cell (k := 0) rfl
        go_wp2
        clear z1_0
        have hdd := below_drew w3
        have B1 := B1.next hdd B1.lt
        have hbe := below_join hbe hdd
        refine wp_region_held_drew (S := fun w' => w'.cell? ⟨g1, 0, none⟩ = some (.string s)) (by kernel_rfl) (B1.cell (k := 0) rfl) (fun hHeld => ?_)
        clear hdd
        generalize w3.drew = w4 at B1 hbe hHeld  ⊢
        refine wpAnyH_take (i := 0) (v := ?vqaa0) rfl (by kernel_rfl) (by kernel_rfl) (by kernel_rfl) (fun _ _ _ h => h) (Or.inl ⟨by rfl, ?yqaa0⟩) (by assumption) ?rqaa0
        case yqaa0 => intro w hSw; have hSc := hSw; go_simp <;> (try with_reducible rfl)
        (try simp only [List.getElem_toArray, List.getElem_cons_zero, Act.put, List.setIfInBounds_toArray, List.set_cons_zero, List.set_cons_succ])
        refine wpAnyH_take (i := 1) (v := ?vqaa1) rfl (by kernel_rfl) (by kernel_rfl) (by kernel_rfl) (fun _ _ _ h => h) (Or.inl ⟨by rfl, ?yqaa1⟩) (by assumption) ?rqaa1
        case yqaa1 => intro w hSw; (try dsimp only at hSw); go_simp <;> (try with_reducible rfl)
        (try simp only [List.getElem_toArray, List.getElem_cons_succ, List.getElem_cons_zero, Act.put, List.setIfInBounds_toArray, List.set_cons_zero, List.set_cons_succ])
        refine wpAnyH_take (i := 3) (v := ?vqaa3) rfl (by kernel_rfl) (by kernel_rfl) (by kernel_rfl) (fun _ _ _ h => h) (Or.inl ⟨by rfl, ?yqaa3⟩) (by assumption) ?rqaa3
        case yqaa3 => intro w hSw; have hSc := hSw; go_simp <;> (try with_reducible rfl)
        (try simp only [List.getElem_toArray, List.getElem_cons_succ, List.getElem_cons_zero, Act.put, List.setIfInBounds_toArray, List.set_cons_zero, List.set_cons_succ])
        refine wpAnyH_ready (rs := [2]) (by kernel_rfl) (by simp) ?_
        refine AllReadyH.cons rfl (fun K hK => ?_) AllReadyH.nil
        go_simp
        go_wp2_with fail
        (with_reducible refine (HR g1 _ (B1.cell (k := 0) rfl)).mono ?_)
        rintro e w5 ⟨rfl, hb5⟩
        have B1 := B1.next hb5 B1.lt
        have hbe := below_join hbe hb5
        refine hK.out _ _ (B1.cell (k := 0) rfl) (fun hHeld => ?_)
        clear hK K hb5
        refine wpAnyH_take (i := 4) (v := ?vqaa4) rfl (by kernel_rfl) (by kernel_rfl) (by kernel_rfl) (fun _ _ _ h => h) (Or.inl ⟨by rfl, ?yqaa4⟩) (by assumption) ?rqaa4
        case yqaa4 => intro w hSw; (try dsimp only at hSw); go_simp <;> (try with_reducible rfl)
        (try simp only [List.getElem_toArray, List.getElem_cons_succ, List.getElem_cons_zero, Act.put, List.setIfInBounds_toArray, List.set_cons_zero, List.set_cons_succ])
        refine wpAnyH_take (i := 5) (v := ?vqaa5) rfl (by kernel_rfl) (by kernel_rfl) (by kernel_rfl) (fun _ _ _ h => h) (Or.inl ⟨by rfl, ?yqaa5⟩) (by assumption) ?rqaa5
        case yqaa5 => intro w hSw; (try dsimp only at hSw); go_simp <;> (try with_reducible rfl)
        (try simp only [List.getElem_toArray, List.getElem_cons_succ, List.getElem_cons_zero, Act.put, List.setIfInBounds_toArray, List.set_cons_zero, List.set_cons_succ])
        refine wpAnyH_done (by kernel_rfl) ?_ _
        clear hHeld 
        go_wp2
        go_ret
        exact ⟨ret_bool (by rw [← HEQ.out]; rfl), hbe⟩
      · have hki : ((K : Int) != 1) = true := bne_iff_ne.2 (by omega)
        rw [decide_eq_false hk]
        clear hk
        go_enter Tryz.func16, Tryz.ntmps16
        go_wp2_with (with_reducible refine wpList_box (o := ⟨some 1, .box 9 (.tmp 0), _, _, _, _⟩) ?g1nanokind 9 (.tmp 0) ?o1nanokind (.string s) [.string s] ?x1nanokind ?c1nanokind ?_)
        try (case g1nanokind => rfl)
        try (case o1nanokind => rfl)
        try (case x1nanokind => rfl)
        try (case c1nanokind => rfl)
        intro g1 w1 hg1 hs1 hb1 B1
        have hl1 : w.heap.size ≤ g1 := Nat.le_of_eq hg1.out.symm
        have hb1 := hb1.mono (Nat.le_of_eq hg1.out.symm)
        have hbe : Below w.heap.size w w1 := hb1
        clear hb1 hg1 hs1
        have z1_0 := B1.cell (k := 0) rfl
        go_wp2_with fail
        (with_reducible refine (HL _).mono ?_)
        rintro e w2 ⟨rfl, hb2⟩
        clear z1_0
        have B1 := B1.next hb2 B1.lt
        have hbe := below_join hbe hb2
        clear hb2
        have z1_0 := B1.cell (k := 0) rfl
        go_wp2_with fail
        (with_reducible refine (HK _ (HT.out.next hbe)).mono ?_)
        rintro e w3 ⟨rfl, hb3⟩
        clear z1_0
        have B1 := B1.next hb3 B1.lt
        have hbe := below_join hbe hb3
        clear hb3
        have z1_0 := B1.cell (k := 0) rfl
        go_wp2
        go_ret
        exact ⟨rfl, hbe⟩
end Go.Proofs.YtcefaipjncohmaaGreatDoor
