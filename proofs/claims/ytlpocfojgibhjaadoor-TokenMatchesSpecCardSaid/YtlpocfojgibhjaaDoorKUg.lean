/-
  The law TokenMatchesSpec: the tokens of the program and of the reference. Conditions: the tables lie there.
-/
import Derived.Test.YtlpocfojgibhjaaDoorKUf
import Derived.Test.YtlpocfojgibhjaaDoorGM
namespace Go.Proofs.YtlpocfojgibhjaaDoor
set_option linter.unusedVariables false
set_option linter.unusedSimpArgs false
open Go.RowKit Go.Shelf

theorem rtokens2_any (s : ByteArray) (hs : s.size ≤ 60000) (w : World) (l : List Tok) (hl : toks s.data.toList false 0 1 1 = l) (n : Nat) (hn : l.length = n) (h0 : 0 < n) :
    Calls Tryd.prog 9 #[.string s] w fun e w' => (∃ g c R, e = .returned (.tuple #[.slice (some ⟨g, 0, none⟩) n c, .int .i64 0]) ∧ w.heap.size ≤ g ∧ n ≤ c ∧ Blk w' g 37 (flatT l ++ R)) ∧ Below w.heap.size w w' := by
  have h := rtokens_any s hs w
  refine Calls.mono h ?_
  rintro e w' ⟨⟨A, c, rfl, Ow⟩, hb⟩
  rw [hl] at Ow ⊢
  rw [hn] at Ow ⊢
  obtain ⟨g, R, rfl, h1, h2, h3⟩ := own_blk Ow h0
  exact ⟨⟨g, c, R, rfl, h1, h2, h3⟩, hb⟩
def WJ : ByteArray := ⟨(Lib.join wordsL [32]).toArray⟩
theorem wjoin_any (g : Nat) (w : World) (hg : g < w.heap.size) (h : ∀ j u, wordVs[j]? = some u → w.cell? ⟨g, j, none⟩ = some u) :
    Calls Tryd.prog 13 #[.slice (some ⟨g, 0, none⟩) 49 49, .string { data := #[32] }] w fun e w' => e = .returned (.string WJ) ∧ Below w.heap.size w w' := by
  have e1 : (wordsL.map (fun l => (⟨l.toArray⟩ : ByteArray))).map (·.data.toList) = wordsL := by
    rw [List.map_map]
    exact List.map_id _
  have h2 := Any.strings_Join Tryd.joinA Tryd.joinX g 0 49 (wordsL.map fun l => (⟨l.toArray⟩ : ByteArray)) { data := #[32] } w (fun j x hx => by
    rw [Nat.zero_add]
    refine h j _ ?_
    unfold wordVs
    rw [List.getElem?_map] at hx ⊢
    cases ht : wordsL[j]? with
    | none => rw [ht] at hx; cases hx
    | some t => rw [ht] at hx; injection hx with hx; rw [← hx]; rfl) hg (by rw [List.length_map]; decide) (by rw [List.length_map]; decide) (by rw [e1]; decide +kernel)
  rw [e1] at h2
  exact h2
theorem wjoinA_any (g : Nat) (t : TypeId) (w : World) (h : Blk w g t wordVs) : Calls Tryd.prog 13 #[.slice (some ⟨g, 0, none⟩) 49 49, .string { data := #[32] }] w fun e w' => e = .returned (.string WJ) ∧ Below w.heap.size w w' :=
  wjoin_any g w h.lt fun j u hu => h.cell hu
theorem same_nil (w : World) : Calls Tryd.prog 10 #[.slice none 0 0, .slice none 0 0] w fun e w' => e = .returned (.bool true) ∧ Below w.heap.size w w' :=
  same_any none none 0 0 [] w (Nat.zero_le _) (fun k t h => by simp at h) (fun k t h => by simp at h)
theorem join_nil (w : World) : Calls Tryd.prog 11 #[.slice none 0 0] w fun e w' => e = .returned (.string ⟨(joinM []).toArray⟩) ∧ Below w.heap.size w w' :=
  join_any none 0 [] w (Nat.zero_le _) (fun k t h => by simp at h) (by decide)
theorem rjoin_nil (w : World) : Calls Tryd.prog 12 #[.slice none 0 0] w fun e w' => e = .returned (.string ⟨(joinM []).toArray⟩) ∧ Below w.heap.size w w' :=
  rjoin_any none 0 [] w (Nat.zero_le _) (Nat.zero_le _) (fun k t h => by simp at h)
set_option maxRecDepth 100000 in
set_option maxHeartbeats 6400000 in
theorem matchLaw_any (s : ByteArray) (w : World) (hq : QW w) :
    Calls Tryd.prog 3 #[.string s] w fun e w' => e = .returned (.bool true) ∧ Below w.heap.size w w' := by
  have HQ := Lib.hid hq
  have HS := fun w hq => sanity_any w hq
  clear hq
  by_cases h2000 : 2000 < s.size
  · have i2000 : (2000 : Int) < (s.size : Int) := by omega
    by_cases h60 : s.size ≤ 60000
    · have i60 : (s.size : Int) ≤ 60000 := by omega
      go_enter Tryd.func3, Tryd.ntmps3
      go_wp2_with fail
      (with_reducible refine (HS _ HQ.out).mono ?_)
      rintro e w1 ⟨rfl, hb1⟩
      go_wp2
      go_ret
      exact ⟨rfl, hb1⟩
    · have i60 : ¬ (s.size : Int) ≤ 60000 := by omega
      by_cases h61 : 60100 < s.size
      · have i61 : (60100 : Int) < (s.size : Int) := by omega
        go_enter Tryd.func3, Tryd.ntmps3
        go_wp2_with fail
        (with_reducible refine (HS _ HQ.out).mono ?_)
        rintro e w1 ⟨rfl, hb1⟩
        go_wp2
        go_ret
        exact ⟨rfl, hb1⟩
      · have i61 : ¬ (60100 : Int) < (s.size : Int) := by omega
        have HA : ∀ w, Calls Tryd.prog 8 #[.string s] w fun e w' => e = .returned (.tuple #[.slice none 0 0, .int .i64 2]) ∧ Below w.heap.size w w' := fun w => (tokens_big s (by omega) w).mono fun e w' h => ⟨h.1, by rw [h.2]; exact Below.refl _ _⟩
        have HB : ∀ w, Calls Tryd.prog 9 #[.string s] w fun e w' => e = .returned (.tuple #[.slice none 0 0, .int .i64 2]) ∧ Below w.heap.size w w' := fun w => (rtokens_big s (by omega) w).mono fun e w' h => ⟨h.1, by rw [h.2]; exact Below.refl _ _⟩
        have hbe : Below w.heap.size w w := Below.refl _ _
        clear h2000 h60 h61
        go_enter Tryd.func3, Tryd.ntmps3
        go_wp2_with fail
        (with_reducible refine (HA _).mono ?_)
        rintro e w2 ⟨rfl, hb2⟩
        have hbe := below_join hbe hb2
        clear hb2
        go_wp2_with fail
        (with_reducible refine (HB _).mono ?_)
        rintro e w3 ⟨rfl, hb3⟩
        have hbe := below_join hbe hb3
        clear hb3
        go_wp2_with fail
        (with_reducible refine (HS _ (HQ.out.next hbe)).mono ?_)
        rintro e w4 ⟨rfl, hb4⟩
        have hbe := below_join hbe hb4
        clear hb4
        go_wp2_with fail
        (with_reducible refine (same_nil _).mono ?_)
        rintro e w5 ⟨rfl, hb5⟩
        have hbe := below_join hbe hb5
        clear hb5
        go_wp2_with fail
        (with_reducible refine (join_nil _).mono ?_)
        rintro e w6 ⟨rfl, hb6⟩
        have hbe := below_join hbe hb6
        clear hb6
        go_wp2_with fail
        (with_reducible refine (rjoin_nil _).mono ?_)
        rintro e w7 ⟨rfl, hb7⟩
        have hbe := below_join hbe hb7
        clear hb7
        go_wp2_with fail
        (with_reducible refine (words_any _ (HQ.out.next hbe).tt).mono ?_)
        rintro e w8 ⟨⟨g50, rfl, B50⟩, hb8⟩
        have hbe := below_join hbe hb8
        clear hb8
        go_wp2_with fail
        (with_reducible refine (wjoinA_any g50 _ _ B50).mono ?_)
        rintro e w9 ⟨rfl, hb9⟩
        have B50 := B50.next hb9 B50.lt
        have hbe := below_join hbe hb9
        clear hb9
        clear B50
        go_wp2_with fail
        (with_reducible refine (rwords_any _).mono ?_)
        rintro e w10 ⟨⟨g52, rfl, B52, hl52⟩, hb10⟩
        have hbe := below_join hbe hb10
        clear hb10
        go_wp2_with fail
        (with_reducible refine (wjoinA_any g52 _ _ B52).mono ?_)
        rintro e w11 ⟨rfl, hb11⟩
        have B52 := B52.next hb11 B52.lt
        have hbe := below_join hbe hb11
        clear hb11
        clear B52
        go_wp2
        go_ret
        exact ⟨rfl, hbe⟩
  · have i2000 : ¬ (2000 : Int) < (s.size : Int) := by omega
    have i61 : ¬ (60100 : Int) < (s.size : Int) := by omega
    have ha0 := (toks_kinds s.data.toList false 0 1 1).1
    have hla := toks_len s.data.toList false 0 1 1
    have htl := toks_tot s.data.toList false 0 1 1 (Nat.zero_le _)
    rw [bytes_size] at hla htl
    have hA := fun n hn h0 w hT => tokens2_any s (by omega) w hT _ rfl n hn h0
    have hB := fun n hn h0 w => rtokens2_any s (by omega) w _ rfl n hn h0
    obtain ⟨T, hT⟩ : ∃ T, toks s.data.toList false 0 1 1 = T := ⟨_, rfl⟩
    simp only [hT] at ha0 hla htl hA hB
    obtain ⟨n, hn⟩ : ∃ n, T.length = n := ⟨_, rfl⟩
    have hn0 : 0 < n := by
      rcases Nat.eq_zero_or_pos n with h | h
      · exact absurd (List.eq_nil_of_length_eq_zero (hn.trans h)) ha0
      · exact h
    have HA := hA n hn hn0
    have HB := hB n hn hn0
    have hjl := jm_len T T.length
    rw [List.take_length] at hjl
    have HSM : ∀ A B c d w, TksAt w A T → TksAt w B T → Calls Tryd.prog 10 #[.slice A n c, .slice B n d] w fun e w' => e = .returned (.bool true) ∧ Below w.heap.size w w' := fun A B c d w h1 h2 => by
      have := same_any A B c d T w (by omega) h1 h2
      rw [hn] at this; exact this
    have HJ : ∀ A c w, TksAt w A T → Calls Tryd.prog 11 #[.slice A n c] w fun e w' => e = .returned (.string ⟨(joinM T).toArray⟩) ∧ Below w.heap.size w w' := fun A c w h1 => by
      have := join_any A c T w (by omega) h1 (by omega)
      rw [hn] at this; exact this
    have HRJ : ∀ A c w, TksAt w A T → Calls Tryd.prog 12 #[.slice A n c] w fun e w' => e = .returned (.string ⟨(joinM T).toArray⟩) ∧ Below w.heap.size w w' := fun A c w h1 => by
      have := rjoin_any A c T w (by omega) (by omega) h1
      rw [hn] at this; exact this
    obtain ⟨Z, hZ⟩ : ∃ Z : ByteArray, (⟨(joinM T).toArray⟩ : ByteArray) = Z := ⟨_, rfl⟩
    rw [hZ] at HJ HRJ
    have hbe : Below w.heap.size w w := Below.refl _ _
    clear hZ hjl hA hB hT hla htl ha0 h2000 hn hn0
    go_enter Tryd.func3, Tryd.ntmps3
    go_wp2_with fail
    (with_reducible refine (HA _ (HQ.out.next hbe).tt).mono ?_)
    rintro e w2 ⟨⟨g3, c3, R3, rfl, hl3, hc3, B3⟩, hb2⟩
    have hbe := below_join hbe hb2
    clear hb2
    go_wp2_with fail
    (with_reducible refine (HB _).mono ?_)
    rintro e w3 ⟨⟨g5, c5, R5, rfl, hl5, hc5, B5⟩, hb3⟩
    have B3 := B3.next hb3 B3.lt
    have hbe := below_join hbe hb3
    clear hb3
    go_wp2_with fail
    (with_reducible refine (HS _ (HQ.out.next hbe)).mono ?_)
    rintro e w4 ⟨rfl, hb4⟩
    have B3 := B3.next hb4 B3.lt
    have B5 := B5.next hb4 B5.lt
    have hbe := below_join hbe hb4
    clear hb4
    go_wp2_with fail
    (with_reducible refine (HSM _ _ _ _ _ (tks_blk B3) (tks_blk B5)).mono ?_)
    rintro e w5 ⟨rfl, hb5⟩
    have B3 := B3.next hb5 B3.lt
    have B5 := B5.next hb5 B5.lt
    have hbe := below_join hbe hb5
    clear hb5
    go_wp2_with fail
    (with_reducible refine (HJ _ _ _ (tks_blk B5)).mono ?_)
    rintro e w6 ⟨rfl, hb6⟩
    have B3 := B3.next hb6 B3.lt
    have B5 := B5.next hb6 B5.lt
    have hbe := below_join hbe hb6
    clear hb6
    go_wp2_with fail
    (with_reducible refine (HRJ _ _ _ (tks_blk B5)).mono ?_)
    rintro e w7 ⟨rfl, hb7⟩
    have B3 := B3.next hb7 B3.lt
    have B5 := B5.next hb7 B5.lt
    have hbe := below_join hbe hb7
    clear hb7
    go_wp2_with fail
    (with_reducible refine (words_any _ (HQ.out.next hbe).tt).mono ?_)
    rintro e w8 ⟨⟨g50, rfl, B50⟩, hb8⟩
    have B3 := B3.next hb8 B3.lt
    have B5 := B5.next hb8 B5.lt
    have hbe := below_join hbe hb8
    clear hb8
    go_wp2_with fail
    (with_reducible refine (wjoinA_any g50 _ _ B50).mono ?_)
    rintro e w9 ⟨rfl, hb9⟩
    have B3 := B3.next hb9 B3.lt
    have B5 := B5.next hb9 B5.lt
    have B50 := B50.next hb9 B50.lt
    have hbe := below_join hbe hb9
    clear hb9
    clear B50
    go_wp2_with fail
    (with_reducible refine (rwords_any _).mono ?_)
    rintro e w10 ⟨⟨g52, rfl, B52, hl52⟩, hb10⟩
    have B3 := B3.next hb10 B3.lt
    have B5 := B5.next hb10 B5.lt
    have hbe := below_join hbe hb10
    clear hb10
    go_wp2_with fail
    (with_reducible refine (wjoinA_any g52 _ _ B52).mono ?_)
    rintro e w11 ⟨rfl, hb11⟩
    have B3 := B3.next hb11 B3.lt
    have B5 := B5.next hb11 B5.lt
    have B52 := B52.next hb11 B52.lt
    have hbe := below_join hbe hb11
    clear hb11
    clear B52
    go_wp2
    go_ret
    exact ⟨rfl, hbe⟩
end Go.Proofs.YtlpocfojgibhjaaDoor
