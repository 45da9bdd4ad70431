/-
  The law TokenReadsNames: names, numbers and single tokens. Conditions: the tables lie there.
-/
import Derived.Test.YtlpocfojgibhjaaDoorKUy
import Derived.Test.YtlpocfojgibhjaaDoorGM
import Derived.Lib.AppendIntMem
import Derived.Lib.ItoaLen
namespace Go.Proofs.YtlpocfojgibhjaaDoor
set_option linter.unusedVariables false
set_option linter.unusedSimpArgs false
open Go.RowKit Go.Shelf

theorem itoa_any (n : Int) (h0 : 0 ≤ n) (h1 : n ≤ 1073741824) (w : World) (hq : QW w) : Calls Tryd.prog 22 #[.int .i64 n] w fun e w' => e = .returned (.string ⟨(Lib.itoa n).toArray⟩) ∧ Below w.heap.size w w' := by
  refine Calls.mono (Any.strconv_Itoa Tryd.itoaA n (by omega) (by omega) w hq.tab) ?_
  rintro e w' ⟨rfl, k, os, rfl⟩
  exact ⟨rfl, Lib.below_grow _ w (Nat.le_refl _) k os⟩
theorem tok1_any (s : ByteArray) (hs : s.size ≤ 60000) (w : World) (hT : TT w) (t : Tok) (R : List Tok) (hl : toks s.data.toList false 0 1 1 = t :: R) (n : Nat) (hn : R.length + 1 = n) :
    Calls Tryd.prog 8 #[.string s] w fun e w' => (∃ g c RR, e = .returned (.tuple #[.slice (some ⟨g, 0, none⟩) n c, .int .i64 0]) ∧ Blk w' g 37 ([Value.int .i64 (t.kind : Int), .int .i64 (t.n : Int), .string (tB t), .int .i64 (t.line : Int), .int .i64 (t.col : Int)] ++ RR)) ∧ Below w.heap.size w w' := by
  have h := tokens2_any s hs w hT _ hl n (by simpa using hn) (by omega)
  refine Calls.mono h ?_
  rintro e w' ⟨⟨g, c, R2, rfl, _, _, B⟩, hb⟩
  refine ⟨⟨g, c, flatT R ++ R2, rfl, ?_⟩, hb⟩
  have e : flatT (t :: R) ++ R2 = tCells t ++ (flatT R ++ R2) := by unfold flatT; rw [List.flatMap_cons, List.append_assoc]
  rw [e] at B
  exact B
theorem num_of {Z : ByteArray} {n : Int} (h0 : 0 ≤ n) (hZ : Z.size ≤ 140737488355328) (h : numM Z.data.toList = some n.toNat) (w : World) : Calls Tryd.prog 16 #[.string Z] w fun e w' => e = .returned (.tuple #[.int .i64 n, .bool true]) ∧ Below w.heap.size w w' := by
  have h2 := number_any Z w hZ
  rw [h, numE_some, Int.toNat_of_nonneg h0] at h2
  exact h2
set_option maxRecDepth 100000 in
set_option maxHeartbeats 6400000 in
theorem readsLaw_any (s : ByteArray) (n : Int) (w : World) (hq : QW w) :
    Calls Tryd.prog 4 #[.string s, .int .i64 n] w fun e w' => e = .returned (.bool true) ∧ Below w.heap.size w w' := by
  have HQ := Lib.hid hq
  have HS := fun w hq => sanity_any w hq
  clear hq
  by_cases h60 : 60 < s.size
  · have h60i : (60 : Int) < (s.size : Int) := by omega
    go_enter Tryd.func4, Tryd.ntmps4
    go_wp2_with fail
    (with_reducible refine (HS _ HQ.out).mono ?_)
    rintro e w1 ⟨rfl, hb1⟩
    go_wp2
    go_ret
    exact ⟨rfl, hb1⟩
  · have h60i : ¬ (60 : Int) < (s.size : Int) := by omega
    have HN := fun w => number_any s w (by omega)
    have HRN := fun w => rnumber_any s (by omega) w
    have HNM := fun w hT => name_any s (by omega) w hT
    have HRNM := fun w => rname_any s (by omega) w
    have HHX := fun w h => hex_any n w h
    have HRHX := fun w => rhex_any n w
    have HIT := fun h0 h1 w hq => itoa_any n h0 h1 w hq
    have HZN : 0 ≤ n → n ≤ 1073741824 → ∀ w, Calls Tryd.prog 16 #[.string ⟨(hexM n).toArray⟩] w fun e w' => e = .returned (.tuple #[.int .i64 n, .bool true]) ∧ Below w.heap.size w w' := fun h0 h1 w => num_of h0 (by
      rw [mk_size]
      have := hexD_len n.toNat
      unfold hexM
      split
      · simp
      · simp only [List.length_cons]; omega) (by rw [← num_hexM n h0 h1]) w
    have HYN : 0 ≤ n → n ≤ 1073741824 → ∀ w, Calls Tryd.prog 16 #[.string ⟨(Lib.itoa n).toArray⟩] w fun e w' => e = .returned (.tuple #[.int .i64 n, .bool true]) ∧ Below w.heap.size w w' := fun h0 h1 w => num_of h0 (by
      rw [mk_size]
      have := Lib.itoa_length_le n (by omega) (by omega)
      omega) (by rw [← num_itoa n h0 h1]) w
    obtain ⟨Z, hZ⟩ : ∃ Z : ByteArray, (⟨(hexM n).toArray⟩ : ByteArray) = Z := ⟨_, rfl⟩
    obtain ⟨Y, hY⟩ : ∃ Y : ByteArray, (⟨(Lib.itoa n).toArray⟩ : ByteArray) = Y := ⟨_, rfl⟩
    rw [hZ] at HHX HRHX HZN
    rw [hY] at HIT HYN
    clear hZ hY
    obtain ⟨t, R, hl, hA, hB, hC, hD⟩ := single_law s.data.toList
    have HTK := fun w hT m hm => tok1_any s (by omega) w hT t R hl m hm
    have hE1 : t.text = s.data.toList → tB t = s := fun e => data_inj (by show (t.text.toArray).toList = _; rw [← e])
    have hE2 : tB t = s → t.text = s.data.toList := fun e => by rw [← e]; rfl
    obtain ⟨V, hV⟩ : ∃ V, numM s.data.toList = V := ⟨_, rfl⟩
    obtain ⟨P, hP⟩ : ∃ P, nameM s.data.toList = P := ⟨_, rfl⟩
    rw [hV] at HN HRN hB hD
    rw [hP] at HNM HRNM hA hC
    obtain ⟨X, hX⟩ : ∃ X, tB t = X := ⟨_, rfl⟩
    obtain ⟨K, hK⟩ : ∃ x, t.kind = x := ⟨_, rfl⟩
    obtain ⟨N, hN⟩ : ∃ x, t.n = x := ⟨_, rfl⟩
    obtain ⟨L1, hL1⟩ : ∃ x, t.line = x := ⟨_, rfl⟩
    obtain ⟨C1, hC1⟩ : ∃ x, t.col = x := ⟨_, rfl⟩
    simp only [hX, hK, hN, hL1, hC1] at HTK hA hB hC hD hE1 hE2
    obtain ⟨Tx, hTx⟩ : ∃ x, t.text = x := ⟨_, rfl⟩
    rw [hTx] at hA hB hC hD hE1 hE2
    obtain ⟨rl, hrl⟩ : ∃ x, R.length = x := ⟨_, rfl⟩
    rw [hrl] at HTK hA hB
    clear hX hK hN hL1 hC1 hTx hrl hl hV hP
    cases P with
    | true =>
      obtain ⟨hr1, htx, hk1⟩ := hA rfl
      have HTK2 := fun w hT => HTK w hT 2 (by omega)
      cases V with
      | some v =>
        have := (hB v rfl).2.2.1
        omega
      | none =>
        have hXs := hE1 htx
        rw [hXs] at HTK2
        have k1 : ((K : Int) == 1) = true := by rw [hk1]; rfl
        have k3 : ((K : Int) == 3) = false := by rw [hk1]; rfl
        simp only [numE_none] at HN HRN
        clear hXs hk1 htx hr1 hA hB hC hD hE1 hE2 HTK h60
        have hbe : Below w.heap.size w w := Below.refl _ _
        go_enter Tryd.func4, Tryd.ntmps4
        go_wp2_with fail
        (with_reducible refine (HN _).mono ?_)
        rintro e w2 ⟨rfl, hb2⟩
        have hbe := below_join hbe hb2
        clear hb2
        go_wp2_with fail
        (with_reducible refine (HRN _).mono ?_)
        rintro e w3 ⟨rfl, hb3⟩
        have hbe := below_join hbe hb3
        clear hb3
        go_wp2_with fail
        (with_reducible refine (HNM _ (HQ.out.next hbe).tt).mono ?_)
        rintro e w4 ⟨rfl, hb4⟩
        have hbe := below_join hbe hb4
        clear hb4
        go_wp2_with fail
        (with_reducible refine (HRNM _).mono ?_)
        rintro e w5 ⟨rfl, hb5⟩
        have hbe := below_join hbe hb5
        clear hb5
        go_wp2_with fail
        (with_reducible refine (HHX _ (HQ.out.next hbe).db).mono ?_)
        rintro e w6 ⟨rfl, hb6⟩
        have hbe := below_join hbe hb6
        clear hb6
        go_wp2_with fail
        (with_reducible refine (HRHX _).mono ?_)
        rintro e w7 ⟨rfl, hb7⟩
        have hbe := below_join hbe hb7
        clear hb7
        go_wp2_with fail
        (with_reducible refine (HTK2 _ (HQ.out.next hbe).tt).mono ?_)
        rintro e w8 ⟨⟨g9, c9, R9, rfl, B9⟩, hb8⟩
        have hbe := below_join hbe hb8
        clear hb8
        have z9_2 := B9.cell (k := 2) rfl
        go_wp2
        clear z9_2
        have hdd := below_drew w8
        have B9 := B9.next hdd B9.lt
        have hbe := below_join hbe hdd
        refine wp_region_held_drew (S := fun w' => w'.cell? ⟨g9, 0, none⟩ = some (.int .i64 (K : Int))) (by kernel_rfl) (B9.cell (k := 0) rfl) (fun hHeld => ?_)
        clear hdd
        generalize w8.drew = w9 at B9 hbe hHeld  ⊢
        refine wpAnyH_take (i := 0) (v := ?vqaa0) rfl (by kernel_rfl) (by kernel_rfl) (by kernel_rfl) (fun _ _ _ h => h) (Or.inl ⟨by rfl, ?yqaa0⟩) (by assumption) ?rqaa0
        case yqaa0 => intro w hSw; (try dsimp only at hSw); go_simp <;> (try with_reducible rfl)
        (try simp only [List.getElem_toArray, List.getElem_cons_zero, Act.put, List.setIfInBounds_toArray, List.set_cons_zero, List.set_cons_succ])
        refine wpAnyH_take (i := 1) (v := ?vqaa1) rfl (by kernel_rfl) (by kernel_rfl) (by kernel_rfl) (fun _ _ _ h => h) (Or.inl ⟨by rfl, ?yqaa1⟩) (by assumption) ?rqaa1
        case yqaa1 => intro w hSw; (try dsimp only at hSw); go_simp <;> (try with_reducible rfl)
        (try simp only [List.getElem_toArray, List.getElem_cons_succ, List.getElem_cons_zero, Act.put, List.setIfInBounds_toArray, List.set_cons_zero, List.set_cons_succ])
        refine wpAnyH_take (i := 2) (v := ?vqaa2) rfl (by kernel_rfl) (by kernel_rfl) (by kernel_rfl) (fun _ _ _ h => h) (Or.inl ⟨by rfl, ?yqaa2⟩) (by assumption) ?rqaa2
        case yqaa2 => intro w hSw; (try dsimp only at hSw); go_simp <;> (try with_reducible rfl)
        (try simp only [List.getElem_toArray, List.getElem_cons_succ, List.getElem_cons_zero, Act.put, List.setIfInBounds_toArray, List.set_cons_zero, List.set_cons_succ])
        refine wpAnyH_take (i := 3) (v := ?vqaa3) rfl (by kernel_rfl) (by kernel_rfl) (by kernel_rfl) (fun _ _ _ h => h) (Or.inl ⟨by rfl, ?yqaa3⟩) (by assumption) ?rqaa3
        case yqaa3 => intro w hSw; (try dsimp only at hSw); go_simp <;> (try with_reducible rfl)
        (try simp only [List.getElem_toArray, List.getElem_cons_succ, List.getElem_cons_zero, Act.put, List.setIfInBounds_toArray, List.set_cons_zero, List.set_cons_succ])
        refine wpAnyH_take (i := 4) (v := ?vqaa4) rfl (by kernel_rfl) (by kernel_rfl) (by kernel_rfl) (fun _ _ _ h => h) (Or.inl ⟨by rfl, ?yqaa4⟩) (by assumption) ?rqaa4
        case yqaa4 => intro w hSw; (try dsimp only at hSw); go_simp <;> (try with_reducible rfl)
        (try simp only [List.getElem_toArray, List.getElem_cons_succ, List.getElem_cons_zero, Act.put, List.setIfInBounds_toArray, List.set_cons_zero, List.set_cons_succ])
        refine wpAnyH_take (i := 5) (v := ?vqaa5) rfl (by kernel_rfl) (by kernel_rfl) (by kernel_rfl) (fun _ _ _ h => h) (Or.inl ⟨by rfl, ?yqaa5⟩) (by assumption) ?rqaa5
        case yqaa5 => intro w hSw; have hSc := hSw; go_simp <;> (try with_reducible rfl)
        (try simp only [List.getElem_toArray, List.getElem_cons_succ, List.getElem_cons_zero, Act.put, List.setIfInBounds_toArray, List.set_cons_zero, List.set_cons_succ])
        refine wpAnyH_take (i := 6) (v := ?vqaa6) rfl (by kernel_rfl) (by kernel_rfl) (by kernel_rfl) (fun _ _ _ h => h) (Or.inl ⟨by rfl, ?yqaa6⟩) (by assumption) ?rqaa6
        case yqaa6 => intro w hSw; (try dsimp only at hSw); go_simp <;> (try with_reducible rfl)
        (try simp only [List.getElem_toArray, List.getElem_cons_succ, List.getElem_cons_zero, Act.put, List.setIfInBounds_toArray, List.set_cons_zero, List.set_cons_succ])
        refine wpAnyH_take (i := 7) (v := ?vqaa7) rfl (by kernel_rfl) (by kernel_rfl) (by kernel_rfl) (fun _ _ _ h => h) (Or.inl ⟨by rfl, ?yqaa7⟩) (by assumption) ?rqaa7
        case yqaa7 => intro w hSw; (try dsimp only at hSw); go_simp <;> (try with_reducible rfl)
        (try simp only [List.getElem_toArray, List.getElem_cons_succ, List.getElem_cons_zero, Act.put, List.setIfInBounds_toArray, List.set_cons_zero, List.set_cons_succ])
        refine wpAnyH_take (i := 8) (v := ?vqaa8) rfl (by kernel_rfl) (by kernel_rfl) (by kernel_rfl) (fun _ _ _ h => h) (Or.inl ⟨by rfl, ?yqaa8⟩) (by assumption) ?rqaa8
        case yqaa8 => intro w hSw; (try dsimp only at hSw); go_simp <;> (try with_reducible rfl)
        (try simp only [List.getElem_toArray, List.getElem_cons_succ, List.getElem_cons_zero, Act.put, List.setIfInBounds_toArray, List.set_cons_zero, List.set_cons_succ])
        refine wpAnyH_ready (rs := [9]) (by kernel_rfl) (by simp) ?_
        refine AllReadyH.cons rfl (fun K hK => ?_) AllReadyH.nil
        go_simp
        go_wp2_with fail
        (with_reducible refine (HNM _ (HQ.out.next hbe).tt).mono ?_)
        rintro e w10 ⟨rfl, hb10⟩
        have B9 := B9.next hb10 B9.lt
        have hbe := below_join hbe hb10
        refine hK.out _ _ (B9.cell (k := 0) rfl) (fun hHeld => ?_)
        clear hK K hb10
        refine wpAnyH_take (i := 10) (v := ?vqaa10) rfl (by kernel_rfl) (by kernel_rfl) (by kernel_rfl) (fun _ _ _ h => h) (Or.inl ⟨by rfl, ?yqaa10⟩) (by assumption) ?rqaa10
        case yqaa10 => intro w hSw; (try dsimp only at hSw); go_simp <;> (try with_reducible rfl)
        (try simp only [List.getElem_toArray, List.getElem_cons_succ, List.getElem_cons_zero, Act.put, List.setIfInBounds_toArray, List.set_cons_zero, List.set_cons_succ])
        refine wpAnyH_take (i := 11) (v := ?vqaa11) rfl (by kernel_rfl) (by kernel_rfl) (by kernel_rfl) (fun _ _ _ h => h) (Or.inl ⟨by rfl, ?yqaa11⟩) (by assumption) ?rqaa11
        case yqaa11 => intro w hSw; (try dsimp only at hSw); go_simp <;> (try with_reducible rfl)
        (try simp only [List.getElem_toArray, List.getElem_cons_succ, List.getElem_cons_zero, Act.put, List.setIfInBounds_toArray, List.set_cons_zero, List.set_cons_succ])
        refine wpAnyH_take (i := 12) (v := ?vqaa12) rfl (by kernel_rfl) (by kernel_rfl) (by kernel_rfl) (fun _ _ _ h => h) (Or.inl ⟨by rfl, ?yqaa12⟩) (by assumption) ?rqaa12
        case yqaa12 => intro w hSw; (try dsimp only at hSw); go_simp <;> (try with_reducible rfl)
        (try simp only [List.getElem_toArray, List.getElem_cons_succ, List.getElem_cons_zero, Act.put, List.setIfInBounds_toArray, List.set_cons_zero, List.set_cons_succ])
        refine wpAnyH_take (i := 13) (v := ?vqaa13) rfl (by kernel_rfl) (by kernel_rfl) (by kernel_rfl) (fun _ _ _ h => h) (Or.inl ⟨by rfl, ?yqaa13⟩) (by assumption) ?rqaa13
        case yqaa13 => intro w hSw; (try dsimp only at hSw); go_simp <;> (try with_reducible rfl)
        (try simp only [List.getElem_toArray, List.getElem_cons_succ, List.getElem_cons_zero, Act.put, List.setIfInBounds_toArray, List.set_cons_zero, List.set_cons_succ])
        refine wpAnyH_take (i := 14) (v := ?vqaa14) rfl (by kernel_rfl) (by kernel_rfl) (by kernel_rfl) (fun _ _ _ h => h) (Or.inl ⟨by rfl, ?yqaa14⟩) (by assumption) ?rqaa14
        case yqaa14 => intro w hSw; (try dsimp only at hSw); go_simp <;> (try with_reducible rfl)
        (try simp only [List.getElem_toArray, List.getElem_cons_succ, List.getElem_cons_zero, Act.put, List.setIfInBounds_toArray, List.set_cons_zero, List.set_cons_succ])
        refine wpAnyH_take (i := 15) (v := ?vqaa15) rfl (by kernel_rfl) (by kernel_rfl) (by kernel_rfl) (fun _ _ _ h => h) (Or.inl ⟨by rfl, ?yqaa15⟩) (by assumption) ?rqaa15
        case yqaa15 => intro w hSw; (try dsimp only at hSw); go_simp <;> (try with_reducible rfl)
        (try simp only [List.getElem_toArray, List.getElem_cons_succ, List.getElem_cons_zero, Act.put, List.setIfInBounds_toArray, List.set_cons_zero, List.set_cons_succ])
        refine wpAnyH_take (i := 16) (v := ?vqaa16) rfl (by kernel_rfl) (by kernel_rfl) (by kernel_rfl) (fun _ _ _ h => h) (Or.inl ⟨by rfl, ?yqaa16⟩) (by assumption) ?rqaa16
        case yqaa16 => intro w hSw; (try dsimp only at hSw); go_simp <;> (try with_reducible rfl)
        (try simp only [List.getElem_toArray, List.getElem_cons_succ, List.getElem_cons_zero, Act.put, List.setIfInBounds_toArray, List.set_cons_zero, List.set_cons_succ])
        refine wpAnyH_take (i := 17) (v := ?vqaa17) rfl (by kernel_rfl) (by kernel_rfl) (by kernel_rfl) (fun _ _ _ h => h) (Or.inl ⟨by rfl, ?yqaa17⟩) (by assumption) ?rqaa17
        case yqaa17 => intro w hSw; have hSc := hSw; go_simp <;> (try with_reducible rfl)
        (try simp only [List.getElem_toArray, List.getElem_cons_succ, List.getElem_cons_zero, Act.put, List.setIfInBounds_toArray, List.set_cons_zero, List.set_cons_succ])
        refine wpAnyH_take (i := 18) (v := ?vqaa18) rfl (by kernel_rfl) (by kernel_rfl) (by kernel_rfl) (fun _ _ _ h => h) (Or.inl ⟨by rfl, ?yqaa18⟩) (by assumption) ?rqaa18
        case yqaa18 => intro w hSw; (try dsimp only at hSw); go_simp <;> (try with_reducible rfl)
        (try simp only [List.getElem_toArray, List.getElem_cons_succ, List.getElem_cons_zero, Act.put, List.setIfInBounds_toArray, List.set_cons_zero, List.set_cons_succ])
        refine wpAnyH_take (i := 19) (v := ?vqaa19) rfl (by kernel_rfl) (by kernel_rfl) (by kernel_rfl) (fun _ _ _ h => h) (Or.inl ⟨by rfl, ?yqaa19⟩) (by assumption) ?rqaa19
        case yqaa19 => intro w hSw; (try dsimp only at hSw); go_simp <;> (try with_reducible rfl)
        (try simp only [List.getElem_toArray, List.getElem_cons_succ, List.getElem_cons_zero, Act.put, List.setIfInBounds_toArray, List.set_cons_zero, List.set_cons_succ])
        refine wpAnyH_take (i := 20) (v := ?vqaa20) rfl (by kernel_rfl) (by kernel_rfl) (by kernel_rfl) (fun _ _ _ h => h) (Or.inl ⟨by rfl, ?yqaa20⟩) (by assumption) ?rqaa20
        case yqaa20 => intro w hSw; (try dsimp only at hSw); go_simp <;> (try with_reducible rfl)
        (try simp only [List.getElem_toArray, List.getElem_cons_succ, List.getElem_cons_zero, Act.put, List.setIfInBounds_toArray, List.set_cons_zero, List.set_cons_succ])
        refine wpAnyH_take (i := 21) (v := ?vqaa21) rfl (by kernel_rfl) (by kernel_rfl) (by kernel_rfl) (fun _ _ _ h => h) (Or.inl ⟨by rfl, ?yqaa21⟩) (by assumption) ?rqaa21
        case yqaa21 => intro w hSw; (try dsimp only at hSw); go_simp <;> (try with_reducible rfl)
        (try simp only [List.getElem_toArray, List.getElem_cons_succ, List.getElem_cons_zero, Act.put, List.setIfInBounds_toArray, List.set_cons_zero, List.set_cons_succ])
        refine wpAnyH_take (i := 22) (v := ?vqaa22) rfl (by kernel_rfl) (by kernel_rfl) (by kernel_rfl) (fun _ _ _ h => h) (Or.inl ⟨by rfl, ?yqaa22⟩) (by assumption) ?rqaa22
        case yqaa22 => intro w hSw; (try dsimp only at hSw); go_simp <;> (try with_reducible rfl)
        (try simp only [List.getElem_toArray, List.getElem_cons_succ, List.getElem_cons_zero, Act.put, List.setIfInBounds_toArray, List.set_cons_zero, List.set_cons_succ])
        refine wpAnyH_take (i := 23) (v := ?vqaa23) rfl (by kernel_rfl) (by kernel_rfl) (by kernel_rfl) (fun _ _ _ h => h) (Or.inl ⟨by rfl, ?yqaa23⟩) (by assumption) ?rqaa23
        case yqaa23 => intro w hSw; (try dsimp only at hSw); go_simp <;> (try with_reducible rfl)
        (try simp only [List.getElem_toArray, List.getElem_cons_succ, List.getElem_cons_zero, Act.put, List.setIfInBounds_toArray, List.set_cons_zero, List.set_cons_succ])
        refine wpAnyH_take (i := 24) (v := ?vqaa24) rfl (by kernel_rfl) (by kernel_rfl) (by kernel_rfl) (fun _ _ _ h => h) (Or.inl ⟨by rfl, ?yqaa24⟩) (by assumption) ?rqaa24
        case yqaa24 => intro w hSw; (try dsimp only at hSw); go_simp <;> (try with_reducible rfl)
        (try simp only [List.getElem_toArray, List.getElem_cons_succ, List.getElem_cons_zero, Act.put, List.setIfInBounds_toArray, List.set_cons_zero, List.set_cons_succ])
        refine wpAnyH_take (i := 25) (v := ?vqaa25) rfl (by kernel_rfl) (by kernel_rfl) (by kernel_rfl) (fun _ _ _ h => h) (Or.inl ⟨by rfl, ?yqaa25⟩) (by assumption) ?rqaa25
        case yqaa25 => intro w hSw; (try dsimp only at hSw); go_simp <;> (try with_reducible rfl)
        (try simp only [List.getElem_toArray, List.getElem_cons_succ, List.getElem_cons_zero, Act.put, List.setIfInBounds_toArray, List.set_cons_zero, List.set_cons_succ])
        refine wpAnyH_take (i := 26) (v := undef) rfl (by kernel_rfl) (by kernel_rfl) (by kernel_rfl) (fun _ _ _ h => h) (Or.inr ⟨by rfl, rfl⟩) (by assumption) ?rqaa26
        (try simp only [List.getElem_toArray, List.getElem_cons_succ, List.getElem_cons_zero, Act.put, List.setIfInBounds_toArray, List.set_cons_zero, List.set_cons_succ])
        refine wpAnyH_take (i := 27) (v := undef) rfl (by kernel_rfl) (by kernel_rfl) (by kernel_rfl) (fun _ _ _ h => h) (Or.inr ⟨by rfl, rfl⟩) (by assumption) ?rqaa27
        (try simp only [List.getElem_toArray, List.getElem_cons_succ, List.getElem_cons_zero, Act.put, List.setIfInBounds_toArray, List.set_cons_zero, List.set_cons_succ])
        refine wpAnyH_take (i := 28) (v := undef) rfl (by kernel_rfl) (by kernel_rfl) (by kernel_rfl) (fun _ _ _ h => h) (Or.inr ⟨by rfl, rfl⟩) (by assumption) ?rqaa28
        (try simp only [List.getElem_toArray, List.getElem_cons_succ, List.getElem_cons_zero, Act.put, List.setIfInBounds_toArray, List.set_cons_zero, List.set_cons_succ])
        refine wpAnyH_take (i := 29) (v := undef) rfl (by kernel_rfl) (by kernel_rfl) (by kernel_rfl) (fun _ _ _ h => h) (Or.inr ⟨by rfl, rfl⟩) (by assumption) ?rqaa29
        (try simp only [List.getElem_toArray, List.getElem_cons_succ, List.getElem_cons_zero, Act.put, List.setIfInBounds_toArray, List.set_cons_zero, List.set_cons_succ])
        refine wpAnyH_take (i := 30) (v := undef) rfl (by kernel_rfl) (by kernel_rfl) (by kernel_rfl) (fun _ _ _ h => h) (Or.inr ⟨by rfl, rfl⟩) (by assumption) ?rqaa30
        (try simp only [List.getElem_toArray, List.getElem_cons_succ, List.getElem_cons_zero, Act.put, List.setIfInBounds_toArray, List.set_cons_zero, List.set_cons_succ])
        refine wpAnyH_take (i := 31) (v := undef) rfl (by kernel_rfl) (by kernel_rfl) (by kernel_rfl) (fun _ _ _ h => h) (Or.inr ⟨by rfl, rfl⟩) (by assumption) ?rqaa31
        (try simp only [List.getElem_toArray, List.getElem_cons_succ, List.getElem_cons_zero, Act.put, List.setIfInBounds_toArray, List.set_cons_zero, List.set_cons_succ])
        refine wpAnyH_take (i := 32) (v := ?vqaa32) rfl (by kernel_rfl) (by kernel_rfl) (by kernel_rfl) (fun _ _ _ h => h) (Or.inl ⟨by rfl, ?yqaa32⟩) (by assumption) ?rqaa32
        case yqaa32 => intro w hSw; (try dsimp only at hSw); go_simp <;> (try with_reducible rfl)
        (try simp only [List.getElem_toArray, List.getElem_cons_succ, List.getElem_cons_zero, Act.put, List.setIfInBounds_toArray, List.set_cons_zero, List.set_cons_succ])
        refine wpAnyH_take (i := 33) (v := ?vqaa33) rfl (by kernel_rfl) (by kernel_rfl) (by kernel_rfl) (fun _ _ _ h => h) (Or.inl ⟨by rfl, ?yqaa33⟩) (by assumption) ?rqaa33
        case yqaa33 => intro w hSw; (try dsimp only at hSw); go_simp <;> (try with_reducible rfl)
        (try simp only [List.getElem_toArray, List.getElem_cons_succ, List.getElem_cons_zero, Act.put, List.setIfInBounds_toArray, List.set_cons_zero, List.set_cons_succ])
        refine wpAnyH_done (by kernel_rfl) ?_ _
        clear hHeld 
        by_cases hn0 : n < 0
        · skip
          go_wp2_with fail
          (with_reducible refine (HS _ (HQ.out.next hbe)).mono ?_)
          rintro e w11 ⟨rfl, hb11⟩
          have B9 := B9.next hb11 B9.lt
          have hbe := below_join hbe hb11
          clear hb11
          go_wp2
          go_ret
          exact ⟨rfl, hbe⟩
        · by_cases hn1 : 1073741824 < n
          · skip
            go_wp2_with fail
            (with_reducible refine (HS _ (HQ.out.next hbe)).mono ?_)
            rintro e w11 ⟨rfl, hb11⟩
            have B9 := B9.next hb11 B9.lt
            have hbe := below_join hbe hb11
            clear hb11
            go_wp2
            go_ret
            exact ⟨rfl, hbe⟩
          · have HZ := HZN (by omega) (by omega)
            have HY := HYN (by omega) (by omega)
            have HI := HIT (by omega) (by omega)
            clear HZN HYN HIT
            go_wp2_with fail
            (with_reducible refine (HHX _ (HQ.out.next hbe).db).mono ?_)
            rintro e w11 ⟨rfl, hb11⟩
            have B9 := B9.next hb11 B9.lt
            have hbe := below_join hbe hb11
            clear hb11
            go_wp2_with fail
            (with_reducible refine (HZ _).mono ?_)
            rintro e w12 ⟨rfl, hb12⟩
            have B9 := B9.next hb12 B9.lt
            have hbe := below_join hbe hb12
            clear hb12
            go_wp2_with fail
            (with_reducible refine (HI _ (HQ.out.next hbe)).mono ?_)
            rintro e w13 ⟨rfl, hb13⟩
            have B9 := B9.next hb13 B9.lt
            have hbe := below_join hbe hb13
            clear hb13
            go_wp2_with fail
            (with_reducible refine (HY _).mono ?_)
            rintro e w14 ⟨rfl, hb14⟩
            have B9 := B9.next hb14 B9.lt
            have hbe := below_join hbe hb14
            clear hb14
            go_wp2_with fail
            (with_reducible refine (HS _ (HQ.out.next hbe)).mono ?_)
            rintro e w15 ⟨rfl, hb15⟩
            have B9 := B9.next hb15 B9.lt
            have hbe := below_join hbe hb15
            clear hb15
            go_wp2
            go_ret
            exact ⟨rfl, hbe⟩
    | false =>
      cases V with
      | some v =>
        obtain ⟨hr1, htx, hk1, hnv⟩ := hB v rfl
        have HTK2 := fun w hT => HTK w hT 2 (by omega)
        have hXs := hE1 htx
        rw [hXs] at HTK2
        subst hnv
        have k1 : ((K : Int) == 1) = false := by rw [hk1]; rfl
        have k3 : ((K : Int) == 3) = true := by rw [hk1]; rfl
        simp only [numE_some] at HN HRN
        clear hXs hk1 htx hr1 hA hB hC hD hE1 hE2 HTK h60
        have hbe : Below w.heap.size w w := Below.refl _ _
        go_enter Tryd.func4, Tryd.ntmps4
        go_wp2_with fail
        (with_reducible refine (HN _).mono ?_)
        rintro e w2 ⟨rfl, hb2⟩
        have hbe := below_join hbe hb2
        clear hb2
        go_wp2_with fail
        (with_reducible refine (HRN _).mono ?_)
        rintro e w3 ⟨rfl, hb3⟩
        have hbe := below_join hbe hb3
        clear hb3
        go_wp2_with fail
        (with_reducible refine (HNM _ (HQ.out.next hbe).tt).mono ?_)
        rintro e w4 ⟨rfl, hb4⟩
        have hbe := below_join hbe hb4
        clear hb4
        go_wp2_with fail
        (with_reducible refine (HRNM _).mono ?_)
        rintro e w5 ⟨rfl, hb5⟩
        have hbe := below_join hbe hb5
        clear hb5
        go_wp2_with fail
        (with_reducible refine (HHX _ (HQ.out.next hbe).db).mono ?_)
        rintro e w6 ⟨rfl, hb6⟩
        have hbe := below_join hbe hb6
        clear hb6
        go_wp2_with fail
        (with_reducible refine (HRHX _).mono ?_)
        rintro e w7 ⟨rfl, hb7⟩
        have hbe := below_join hbe hb7
        clear hb7
        go_wp2_with fail
        (with_reducible refine (HTK2 _ (HQ.out.next hbe).tt).mono ?_)
        rintro e w8 ⟨⟨g9, c9, R9, rfl, B9⟩, hb8⟩
        have hbe := below_join hbe hb8
        clear hb8
        have z9_2 := B9.cell (k := 2) rfl
        go_wp2
        clear z9_2
        have hdd := below_drew w8
        have B9 := B9.next hdd B9.lt
        have hbe := below_join hbe hdd
        refine wp_region_held_drew (S := fun w' => w'.cell? ⟨g9, 0, none⟩ = some (.int .i64 (K : Int)) ∧ w'.cell? ⟨g9, 1, none⟩ = some (.int .i64 (N : Int))) (by kernel_rfl) ⟨B9.cell (k := 0) rfl, B9.cell (k := 1) rfl⟩ (fun hHeld => ?_)
        clear hdd
        generalize w8.drew = w9 at B9 hbe hHeld  ⊢
        refine wpAnyH_take (i := 0) (v := ?vqab0) rfl (by kernel_rfl) (by kernel_rfl) (by kernel_rfl) (fun _ _ _ h => h) (Or.inl ⟨by rfl, ?yqab0⟩) (by assumption) ?rqab0
        case yqab0 => intro w hSw; (try dsimp only at hSw); go_simp <;> (try with_reducible rfl)
        (try simp only [List.getElem_toArray, List.getElem_cons_zero, Act.put, List.setIfInBounds_toArray, List.set_cons_zero, List.set_cons_succ])
        refine wpAnyH_take (i := 1) (v := ?vqab1) rfl (by kernel_rfl) (by kernel_rfl) (by kernel_rfl) (fun _ _ _ h => h) (Or.inl ⟨by rfl, ?yqab1⟩) (by assumption) ?rqab1
        case yqab1 => intro w hSw; (try dsimp only at hSw); go_simp <;> (try with_reducible rfl)
        (try simp only [List.getElem_toArray, List.getElem_cons_succ, List.getElem_cons_zero, Act.put, List.setIfInBounds_toArray, List.set_cons_zero, List.set_cons_succ])
        refine wpAnyH_take (i := 2) (v := ?vqab2) rfl (by kernel_rfl) (by kernel_rfl) (by kernel_rfl) (fun _ _ _ h => h) (Or.inl ⟨by rfl, ?yqab2⟩) (by assumption) ?rqab2
        case yqab2 => intro w hSw; (try dsimp only at hSw); go_simp <;> (try with_reducible rfl)
        (try simp only [List.getElem_toArray, List.getElem_cons_succ, List.getElem_cons_zero, Act.put, List.setIfInBounds_toArray, List.set_cons_zero, List.set_cons_succ])
        refine wpAnyH_take (i := 3) (v := ?vqab3) rfl (by kernel_rfl) (by kernel_rfl) (by kernel_rfl) (fun _ _ _ h => h) (Or.inl ⟨by rfl, ?yqab3⟩) (by assumption) ?rqab3
        case yqab3 => intro w hSw; (try dsimp only at hSw); go_simp <;> (try with_reducible rfl)
        (try simp only [List.getElem_toArray, List.getElem_cons_succ, List.getElem_cons_zero, Act.put, List.setIfInBounds_toArray, List.set_cons_zero, List.set_cons_succ])
        refine wpAnyH_take (i := 4) (v := ?vqab4) rfl (by kernel_rfl) (by kernel_rfl) (by kernel_rfl) (fun _ _ _ h => h) (Or.inl ⟨by rfl, ?yqab4⟩) (by assumption) ?rqab4
        case yqab4 => intro w hSw; (try dsimp only at hSw); go_simp <;> (try with_reducible rfl)
        (try simp only [List.getElem_toArray, List.getElem_cons_succ, List.getElem_cons_zero, Act.put, List.setIfInBounds_toArray, List.set_cons_zero, List.set_cons_succ])
        refine wpAnyH_take (i := 5) (v := ?vqab5) rfl (by kernel_rfl) (by kernel_rfl) (by kernel_rfl) (fun _ _ _ h => h) (Or.inl ⟨by rfl, ?yqab5⟩) (by assumption) ?rqab5
        case yqab5 => intro w hSw; have hSc := hSw.1; go_simp <;> (try with_reducible rfl)
        (try simp only [List.getElem_toArray, List.getElem_cons_succ, List.getElem_cons_zero, Act.put, List.setIfInBounds_toArray, List.set_cons_zero, List.set_cons_succ])
        refine wpAnyH_take (i := 6) (v := ?vqab6) rfl (by kernel_rfl) (by kernel_rfl) (by kernel_rfl) (fun _ _ _ h => h) (Or.inl ⟨by rfl, ?yqab6⟩) (by assumption) ?rqab6
        case yqab6 => intro w hSw; (try dsimp only at hSw); go_simp <;> (try with_reducible rfl)
        (try simp only [List.getElem_toArray, List.getElem_cons_succ, List.getElem_cons_zero, Act.put, List.setIfInBounds_toArray, List.set_cons_zero, List.set_cons_succ])
        refine wpAnyH_take (i := 7) (v := ?vqab7) rfl (by kernel_rfl) (by kernel_rfl) (by kernel_rfl) (fun _ _ _ h => h) (Or.inl ⟨by rfl, ?yqab7⟩) (by assumption) ?rqab7
        case yqab7 => intro w hSw; (try dsimp only at hSw); go_simp <;> (try with_reducible rfl)
        (try simp only [List.getElem_toArray, List.getElem_cons_succ, List.getElem_cons_zero, Act.put, List.setIfInBounds_toArray, List.set_cons_zero, List.set_cons_succ])
        refine wpAnyH_take (i := 8) (v := ?vqab8) rfl (by kernel_rfl) (by kernel_rfl) (by kernel_rfl) (fun _ _ _ h => h) (Or.inl ⟨by rfl, ?yqab8⟩) (by assumption) ?rqab8
        case yqab8 => intro w hSw; (try dsimp only at hSw); go_simp <;> (try with_reducible rfl)
        (try simp only [List.getElem_toArray, List.getElem_cons_succ, List.getElem_cons_zero, Act.put, List.setIfInBounds_toArray, List.set_cons_zero, List.set_cons_succ])
        refine wpAnyH_ready (rs := [9]) (by kernel_rfl) (by simp) ?_
        refine AllReadyH.cons rfl (fun K hK => ?_) AllReadyH.nil
        go_simp
        go_wp2_with fail
        (with_reducible refine (HNM _ (HQ.out.next hbe).tt).mono ?_)
        rintro e w10 ⟨rfl, hb10⟩
        have B9 := B9.next hb10 B9.lt
        have hbe := below_join hbe hb10
        refine hK.out _ _ ⟨B9.cell (k := 0) rfl, B9.cell (k := 1) rfl⟩ (fun hHeld => ?_)
        clear hK K hb10
        refine wpAnyH_take (i := 10) (v := ?vqab10) rfl (by kernel_rfl) (by kernel_rfl) (by kernel_rfl) (fun _ _ _ h => h) (Or.inl ⟨by rfl, ?yqab10⟩) (by assumption) ?rqab10
        case yqab10 => intro w hSw; (try dsimp only at hSw); go_simp <;> (try with_reducible rfl)
        (try simp only [List.getElem_toArray, List.getElem_cons_succ, List.getElem_cons_zero, Act.put, List.setIfInBounds_toArray, List.set_cons_zero, List.set_cons_succ])
        refine wpAnyH_take (i := 11) (v := ?vqab11) rfl (by kernel_rfl) (by kernel_rfl) (by kernel_rfl) (fun _ _ _ h => h) (Or.inl ⟨by rfl, ?yqab11⟩) (by assumption) ?rqab11
        case yqab11 => intro w hSw; (try dsimp only at hSw); go_simp <;> (try with_reducible rfl)
        (try simp only [List.getElem_toArray, List.getElem_cons_succ, List.getElem_cons_zero, Act.put, List.setIfInBounds_toArray, List.set_cons_zero, List.set_cons_succ])
        refine wpAnyH_take (i := 12) (v := ?vqab12) rfl (by kernel_rfl) (by kernel_rfl) (by kernel_rfl) (fun _ _ _ h => h) (Or.inl ⟨by rfl, ?yqab12⟩) (by assumption) ?rqab12
        case yqab12 => intro w hSw; (try dsimp only at hSw); go_simp <;> (try with_reducible rfl)
        (try simp only [List.getElem_toArray, List.getElem_cons_succ, List.getElem_cons_zero, Act.put, List.setIfInBounds_toArray, List.set_cons_zero, List.set_cons_succ])
        refine wpAnyH_take (i := 13) (v := ?vqab13) rfl (by kernel_rfl) (by kernel_rfl) (by kernel_rfl) (fun _ _ _ h => h) (Or.inl ⟨by rfl, ?yqab13⟩) (by assumption) ?rqab13
        case yqab13 => intro w hSw; (try dsimp only at hSw); go_simp <;> (try with_reducible rfl)
        (try simp only [List.getElem_toArray, List.getElem_cons_succ, List.getElem_cons_zero, Act.put, List.setIfInBounds_toArray, List.set_cons_zero, List.set_cons_succ])
        refine wpAnyH_take (i := 14) (v := ?vqab14) rfl (by kernel_rfl) (by kernel_rfl) (by kernel_rfl) (fun _ _ _ h => h) (Or.inl ⟨by rfl, ?yqab14⟩) (by assumption) ?rqab14
        case yqab14 => intro w hSw; (try dsimp only at hSw); go_simp <;> (try with_reducible rfl)
        (try simp only [List.getElem_toArray, List.getElem_cons_succ, List.getElem_cons_zero, Act.put, List.setIfInBounds_toArray, List.set_cons_zero, List.set_cons_succ])
        refine wpAnyH_take (i := 15) (v := ?vqab15) rfl (by kernel_rfl) (by kernel_rfl) (by kernel_rfl) (fun _ _ _ h => h) (Or.inl ⟨by rfl, ?yqab15⟩) (by assumption) ?rqab15
        case yqab15 => intro w hSw; (try dsimp only at hSw); go_simp <;> (try with_reducible rfl)
        (try simp only [List.getElem_toArray, List.getElem_cons_succ, List.getElem_cons_zero, Act.put, List.setIfInBounds_toArray, List.set_cons_zero, List.set_cons_succ])
        refine wpAnyH_take (i := 16) (v := ?vqab16) rfl (by kernel_rfl) (by kernel_rfl) (by kernel_rfl) (fun _ _ _ h => h) (Or.inl ⟨by rfl, ?yqab16⟩) (by assumption) ?rqab16
        case yqab16 => intro w hSw; (try dsimp only at hSw); go_simp <;> (try with_reducible rfl)
        (try simp only [List.getElem_toArray, List.getElem_cons_succ, List.getElem_cons_zero, Act.put, List.setIfInBounds_toArray, List.set_cons_zero, List.set_cons_succ])
        refine wpAnyH_take (i := 17) (v := ?vqab17) rfl (by kernel_rfl) (by kernel_rfl) (by kernel_rfl) (fun _ _ _ h => h) (Or.inl ⟨by rfl, ?yqab17⟩) (by assumption) ?rqab17
        case yqab17 => intro w hSw; have hSc := hSw.1; go_simp <;> (try with_reducible rfl)
        (try simp only [List.getElem_toArray, List.getElem_cons_succ, List.getElem_cons_zero, Act.put, List.setIfInBounds_toArray, List.set_cons_zero, List.set_cons_succ])
        refine wpAnyH_take (i := 18) (v := ?vqab18) rfl (by kernel_rfl) (by kernel_rfl) (by kernel_rfl) (fun _ _ _ h => h) (Or.inl ⟨by rfl, ?yqab18⟩) (by assumption) ?rqab18
        case yqab18 => intro w hSw; (try dsimp only at hSw); go_simp <;> (try with_reducible rfl)
        (try simp only [List.getElem_toArray, List.getElem_cons_succ, List.getElem_cons_zero, Act.put, List.setIfInBounds_toArray, List.set_cons_zero, List.set_cons_succ])
        refine wpAnyH_take (i := 19) (v := ?vqab19) rfl (by kernel_rfl) (by kernel_rfl) (by kernel_rfl) (fun _ _ _ h => h) (Or.inl ⟨by rfl, ?yqab19⟩) (by assumption) ?rqab19
        case yqab19 => intro w hSw; (try dsimp only at hSw); go_simp <;> (try with_reducible rfl)
        (try simp only [List.getElem_toArray, List.getElem_cons_succ, List.getElem_cons_zero, Act.put, List.setIfInBounds_toArray, List.set_cons_zero, List.set_cons_succ])
        refine wpAnyH_take (i := 20) (v := ?vqab20) rfl (by kernel_rfl) (by kernel_rfl) (by kernel_rfl) (fun _ _ _ h => h) (Or.inl ⟨by rfl, ?yqab20⟩) (by assumption) ?rqab20
        case yqab20 => intro w hSw; (try dsimp only at hSw); go_simp <;> (try with_reducible rfl)
        (try simp only [List.getElem_toArray, List.getElem_cons_succ, List.getElem_cons_zero, Act.put, List.setIfInBounds_toArray, List.set_cons_zero, List.set_cons_succ])
        refine wpAnyH_take (i := 21) (v := ?vqab21) rfl (by kernel_rfl) (by kernel_rfl) (by kernel_rfl) (fun _ _ _ h => h) (Or.inl ⟨by rfl, ?yqab21⟩) (by assumption) ?rqab21
        case yqab21 => intro w hSw; (try dsimp only at hSw); go_simp <;> (try with_reducible rfl)
        (try simp only [List.getElem_toArray, List.getElem_cons_succ, List.getElem_cons_zero, Act.put, List.setIfInBounds_toArray, List.set_cons_zero, List.set_cons_succ])
        refine wpAnyH_take (i := 22) (v := ?vqab22) rfl (by kernel_rfl) (by kernel_rfl) (by kernel_rfl) (fun _ _ _ h => h) (Or.inl ⟨by rfl, ?yqab22⟩) (by assumption) ?rqab22
        case yqab22 => intro w hSw; (try dsimp only at hSw); go_simp <;> (try with_reducible rfl)
        (try simp only [List.getElem_toArray, List.getElem_cons_succ, List.getElem_cons_zero, Act.put, List.setIfInBounds_toArray, List.set_cons_zero, List.set_cons_succ])
        refine wpAnyH_take (i := 23) (v := ?vqab23) rfl (by kernel_rfl) (by kernel_rfl) (by kernel_rfl) (fun _ _ _ h => h) (Or.inl ⟨by rfl, ?yqab23⟩) (by assumption) ?rqab23
        case yqab23 => intro w hSw; (try dsimp only at hSw); go_simp <;> (try with_reducible rfl)
        (try simp only [List.getElem_toArray, List.getElem_cons_succ, List.getElem_cons_zero, Act.put, List.setIfInBounds_toArray, List.set_cons_zero, List.set_cons_succ])
        refine wpAnyH_take (i := 24) (v := ?vqab24) rfl (by kernel_rfl) (by kernel_rfl) (by kernel_rfl) (fun _ _ _ h => h) (Or.inl ⟨by rfl, ?yqab24⟩) (by assumption) ?rqab24
        case yqab24 => intro w hSw; (try dsimp only at hSw); go_simp <;> (try with_reducible rfl)
        (try simp only [List.getElem_toArray, List.getElem_cons_succ, List.getElem_cons_zero, Act.put, List.setIfInBounds_toArray, List.set_cons_zero, List.set_cons_succ])
        refine wpAnyH_take (i := 25) (v := ?vqab25) rfl (by kernel_rfl) (by kernel_rfl) (by kernel_rfl) (fun _ _ _ h => h) (Or.inl ⟨by rfl, ?yqab25⟩) (by assumption) ?rqab25
        case yqab25 => intro w hSw; (try dsimp only at hSw); go_simp <;> (try with_reducible rfl)
        (try simp only [List.getElem_toArray, List.getElem_cons_succ, List.getElem_cons_zero, Act.put, List.setIfInBounds_toArray, List.set_cons_zero, List.set_cons_succ])
        refine wpAnyH_take (i := 26) (v := ?vqab26) rfl (by kernel_rfl) (by kernel_rfl) (by kernel_rfl) (fun _ _ _ h => h) (Or.inl ⟨by rfl, ?yqab26⟩) (by assumption) ?rqab26
        case yqab26 => intro w hSw; (try dsimp only at hSw); go_simp <;> (try with_reducible rfl)
        (try simp only [List.getElem_toArray, List.getElem_cons_succ, List.getElem_cons_zero, Act.put, List.setIfInBounds_toArray, List.set_cons_zero, List.set_cons_succ])
        refine wpAnyH_take (i := 27) (v := ?vqab27) rfl (by kernel_rfl) (by kernel_rfl) (by kernel_rfl) (fun _ _ _ h => h) (Or.inl ⟨by rfl, ?yqab27⟩) (by assumption) ?rqab27
        case yqab27 => intro w hSw; (try dsimp only at hSw); go_simp <;> (try with_reducible rfl)
        (try simp only [List.getElem_toArray, List.getElem_cons_succ, List.getElem_cons_zero, Act.put, List.setIfInBounds_toArray, List.set_cons_zero, List.set_cons_succ])
        refine wpAnyH_take (i := 28) (v := ?vqab28) rfl (by kernel_rfl) (by kernel_rfl) (by kernel_rfl) (fun _ _ _ h => h) (Or.inl ⟨by rfl, ?yqab28⟩) (by assumption) ?rqab28
        case yqab28 => intro w hSw; (try dsimp only at hSw); go_simp <;> (try with_reducible rfl)
        (try simp only [List.getElem_toArray, List.getElem_cons_succ, List.getElem_cons_zero, Act.put, List.setIfInBounds_toArray, List.set_cons_zero, List.set_cons_succ])
        refine wpAnyH_take (i := 29) (v := ?vqab29) rfl (by kernel_rfl) (by kernel_rfl) (by kernel_rfl) (fun _ _ _ h => h) (Or.inl ⟨by rfl, ?yqab29⟩) (by assumption) ?rqab29
        case yqab29 => intro w hSw; have hSc := hSw.2; go_simp <;> (try with_reducible rfl)
        (try simp only [List.getElem_toArray, List.getElem_cons_succ, List.getElem_cons_zero, Act.put, List.setIfInBounds_toArray, List.set_cons_zero, List.set_cons_succ])
        refine wpAnyH_take (i := 30) (v := ?vqab30) rfl (by kernel_rfl) (by kernel_rfl) (by kernel_rfl) (fun _ _ _ h => h) (Or.inl ⟨by rfl, ?yqab30⟩) (by assumption) ?rqab30
        case yqab30 => intro w hSw; (try dsimp only at hSw); go_simp <;> (try with_reducible rfl)
        (try simp only [List.getElem_toArray, List.getElem_cons_succ, List.getElem_cons_zero, Act.put, List.setIfInBounds_toArray, List.set_cons_zero, List.set_cons_succ])
        refine wpAnyH_take (i := 31) (v := ?vqab31) rfl (by kernel_rfl) (by kernel_rfl) (by kernel_rfl) (fun _ _ _ h => h) (Or.inl ⟨by rfl, ?yqab31⟩) (by assumption) ?rqab31
        case yqab31 => intro w hSw; (try dsimp only at hSw); go_simp <;> (try with_reducible rfl)
        (try simp only [List.getElem_toArray, List.getElem_cons_succ, List.getElem_cons_zero, Act.put, List.setIfInBounds_toArray, List.set_cons_zero, List.set_cons_succ])
        refine wpAnyH_take (i := 32) (v := ?vqab32) rfl (by kernel_rfl) (by kernel_rfl) (by kernel_rfl) (fun _ _ _ h => h) (Or.inl ⟨by rfl, ?yqab32⟩) (by assumption) ?rqab32
        case yqab32 => intro w hSw; (try dsimp only at hSw); go_simp <;> (try with_reducible rfl)
        (try simp only [List.getElem_toArray, List.getElem_cons_succ, List.getElem_cons_zero, Act.put, List.setIfInBounds_toArray, List.set_cons_zero, List.set_cons_succ])
        refine wpAnyH_take (i := 33) (v := ?vqab33) rfl (by kernel_rfl) (by kernel_rfl) (by kernel_rfl) (fun _ _ _ h => h) (Or.inl ⟨by rfl, ?yqab33⟩) (by assumption) ?rqab33
        case yqab33 => intro w hSw; (try dsimp only at hSw); go_simp <;> (try with_reducible rfl)
        (try simp only [List.getElem_toArray, List.getElem_cons_succ, List.getElem_cons_zero, Act.put, List.setIfInBounds_toArray, List.set_cons_zero, List.set_cons_succ])
        refine wpAnyH_done (by kernel_rfl) ?_ _
        clear hHeld 
        by_cases hn0 : n < 0
        · skip
          go_wp2_with fail
          (with_reducible refine (HS _ (HQ.out.next hbe)).mono ?_)
          rintro e w11 ⟨rfl, hb11⟩
          have B9 := B9.next hb11 B9.lt
          have hbe := below_join hbe hb11
          clear hb11
          go_wp2
          go_ret
          exact ⟨rfl, hbe⟩
        · by_cases hn1 : 1073741824 < n
          · skip
            go_wp2_with fail
            (with_reducible refine (HS _ (HQ.out.next hbe)).mono ?_)
            rintro e w11 ⟨rfl, hb11⟩
            have B9 := B9.next hb11 B9.lt
            have hbe := below_join hbe hb11
            clear hb11
            go_wp2
            go_ret
            exact ⟨rfl, hbe⟩
          · have HZ := HZN (by omega) (by omega)
            have HY := HYN (by omega) (by omega)
            have HI := HIT (by omega) (by omega)
            clear HZN HYN HIT
            go_wp2_with fail
            (with_reducible refine (HHX _ (HQ.out.next hbe).db).mono ?_)
            rintro e w11 ⟨rfl, hb11⟩
            have B9 := B9.next hb11 B9.lt
            have hbe := below_join hbe hb11
            clear hb11
            go_wp2_with fail
            (with_reducible refine (HZ _).mono ?_)
            rintro e w12 ⟨rfl, hb12⟩
            have B9 := B9.next hb12 B9.lt
            have hbe := below_join hbe hb12
            clear hb12
            go_wp2_with fail
            (with_reducible refine (HI _ (HQ.out.next hbe)).mono ?_)
            rintro e w13 ⟨rfl, hb13⟩
            have B9 := B9.next hb13 B9.lt
            have hbe := below_join hbe hb13
            clear hb13
            go_wp2_with fail
            (with_reducible refine (HY _).mono ?_)
            rintro e w14 ⟨rfl, hb14⟩
            have B9 := B9.next hb14 B9.lt
            have hbe := below_join hbe hb14
            clear hb14
            go_wp2_with fail
            (with_reducible refine (HS _ (HQ.out.next hbe)).mono ?_)
            rintro e w15 ⟨rfl, hb15⟩
            have B9 := B9.next hb15 B9.lt
            have hbe := below_join hbe hb15
            clear hb15
            go_wp2
            go_ret
            exact ⟨rfl, hbe⟩
      | none =>
        simp only [numE_none] at HN HRN
        by_cases hr2 : rl = 1
        · have HTK2 := fun w hT => HTK w hT 2 (by omega)
          by_cases hXs : X = s
          · have htx := hE2 hXs
            have hk1 : K ≠ 1 := fun e => by cases hC htx e
            have hk3 : K ≠ 3 := fun e => by cases hD htx e
            have k1 : ((K : Int) == 1) = false := beq_eq_false_iff_ne.2 (by omega)
            have k3 : ((K : Int) == 3) = false := beq_eq_false_iff_ne.2 (by omega)
            rw [hXs] at HTK2
            clear hXs hk1 hk3 htx hr2 hA hB hC hD hE1 hE2 HTK h60
            have hbe : Below w.heap.size w w := Below.refl _ _
            go_enter Tryd.func4, Tryd.ntmps4
            go_wp2_with fail
            (with_reducible refine (HN _).mono ?_)
            rintro e w2 ⟨rfl, hb2⟩
            have hbe := below_join hbe hb2
            clear hb2
            go_wp2_with fail
            (with_reducible refine (HRN _).mono ?_)
            rintro e w3 ⟨rfl, hb3⟩
            have hbe := below_join hbe hb3
            clear hb3
            go_wp2_with fail
            (with_reducible refine (HNM _ (HQ.out.next hbe).tt).mono ?_)
            rintro e w4 ⟨rfl, hb4⟩
            have hbe := below_join hbe hb4
            clear hb4
            go_wp2_with fail
            (with_reducible refine (HRNM _).mono ?_)
            rintro e w5 ⟨rfl, hb5⟩
            have hbe := below_join hbe hb5
            clear hb5
            go_wp2_with fail
            (with_reducible refine (HHX _ (HQ.out.next hbe).db).mono ?_)
            rintro e w6 ⟨rfl, hb6⟩
            have hbe := below_join hbe hb6
            clear hb6
            go_wp2_with fail
            (with_reducible refine (HRHX _).mono ?_)
            rintro e w7 ⟨rfl, hb7⟩
            have hbe := below_join hbe hb7
            clear hb7
            go_wp2_with fail
            (with_reducible refine (HTK2 _ (HQ.out.next hbe).tt).mono ?_)
            rintro e w8 ⟨⟨g9, c9, R9, rfl, B9⟩, hb8⟩
            have hbe := below_join hbe hb8
            clear hb8
            have z9_2 := B9.cell (k := 2) rfl
            go_wp2
            clear z9_2
            have hdd := below_drew w8
            have B9 := B9.next hdd B9.lt
            have hbe := below_join hbe hdd
            refine wp_region_held_drew (S := fun w' => w'.cell? ⟨g9, 0, none⟩ = some (.int .i64 (K : Int))) (by kernel_rfl) (B9.cell (k := 0) rfl) (fun hHeld => ?_)
            clear hdd
            generalize w8.drew = w9 at B9 hbe hHeld  ⊢
            refine wpAnyH_take (i := 0) (v := ?vqac0) rfl (by kernel_rfl) (by kernel_rfl) (by kernel_rfl) (fun _ _ _ h => h) (Or.inl ⟨by rfl, ?yqac0⟩) (by assumption) ?rqac0
            case yqac0 => intro w hSw; (try dsimp only at hSw); go_simp <;> (try with_reducible rfl)
            (try simp only [List.getElem_toArray, List.getElem_cons_zero, Act.put, List.setIfInBounds_toArray, List.set_cons_zero, List.set_cons_succ])
            refine wpAnyH_take (i := 1) (v := ?vqac1) rfl (by kernel_rfl) (by kernel_rfl) (by kernel_rfl) (fun _ _ _ h => h) (Or.inl ⟨by rfl, ?yqac1⟩) (by assumption) ?rqac1
            case yqac1 => intro w hSw; (try dsimp only at hSw); go_simp <;> (try with_reducible rfl)
            (try simp only [List.getElem_toArray, List.getElem_cons_succ, List.getElem_cons_zero, Act.put, List.setIfInBounds_toArray, List.set_cons_zero, List.set_cons_succ])
            refine wpAnyH_take (i := 2) (v := ?vqac2) rfl (by kernel_rfl) (by kernel_rfl) (by kernel_rfl) (fun _ _ _ h => h) (Or.inl ⟨by rfl, ?yqac2⟩) (by assumption) ?rqac2
            case yqac2 => intro w hSw; (try dsimp only at hSw); go_simp <;> (try with_reducible rfl)
            (try simp only [List.getElem_toArray, List.getElem_cons_succ, List.getElem_cons_zero, Act.put, List.setIfInBounds_toArray, List.set_cons_zero, List.set_cons_succ])
            refine wpAnyH_take (i := 3) (v := ?vqac3) rfl (by kernel_rfl) (by kernel_rfl) (by kernel_rfl) (fun _ _ _ h => h) (Or.inl ⟨by rfl, ?yqac3⟩) (by assumption) ?rqac3
            case yqac3 => intro w hSw; (try dsimp only at hSw); go_simp <;> (try with_reducible rfl)
            (try simp only [List.getElem_toArray, List.getElem_cons_succ, List.getElem_cons_zero, Act.put, List.setIfInBounds_toArray, List.set_cons_zero, List.set_cons_succ])
            refine wpAnyH_take (i := 4) (v := ?vqac4) rfl (by kernel_rfl) (by kernel_rfl) (by kernel_rfl) (fun _ _ _ h => h) (Or.inl ⟨by rfl, ?yqac4⟩) (by assumption) ?rqac4
            case yqac4 => intro w hSw; (try dsimp only at hSw); go_simp <;> (try with_reducible rfl)
            (try simp only [List.getElem_toArray, List.getElem_cons_succ, List.getElem_cons_zero, Act.put, List.setIfInBounds_toArray, List.set_cons_zero, List.set_cons_succ])
            refine wpAnyH_take (i := 5) (v := ?vqac5) rfl (by kernel_rfl) (by kernel_rfl) (by kernel_rfl) (fun _ _ _ h => h) (Or.inl ⟨by rfl, ?yqac5⟩) (by assumption) ?rqac5
            case yqac5 => intro w hSw; have hSc := hSw; go_simp <;> (try with_reducible rfl)
            (try simp only [List.getElem_toArray, List.getElem_cons_succ, List.getElem_cons_zero, Act.put, List.setIfInBounds_toArray, List.set_cons_zero, List.set_cons_succ])
            refine wpAnyH_take (i := 6) (v := ?vqac6) rfl (by kernel_rfl) (by kernel_rfl) (by kernel_rfl) (fun _ _ _ h => h) (Or.inl ⟨by rfl, ?yqac6⟩) (by assumption) ?rqac6
            case yqac6 => intro w hSw; (try dsimp only at hSw); go_simp <;> (try with_reducible rfl)
            (try simp only [List.getElem_toArray, List.getElem_cons_succ, List.getElem_cons_zero, Act.put, List.setIfInBounds_toArray, List.set_cons_zero, List.set_cons_succ])
            refine wpAnyH_take (i := 7) (v := ?vqac7) rfl (by kernel_rfl) (by kernel_rfl) (by kernel_rfl) (fun _ _ _ h => h) (Or.inl ⟨by rfl, ?yqac7⟩) (by assumption) ?rqac7
            case yqac7 => intro w hSw; (try dsimp only at hSw); go_simp <;> (try with_reducible rfl)
            (try simp only [List.getElem_toArray, List.getElem_cons_succ, List.getElem_cons_zero, Act.put, List.setIfInBounds_toArray, List.set_cons_zero, List.set_cons_succ])
            refine wpAnyH_take (i := 8) (v := ?vqac8) rfl (by kernel_rfl) (by kernel_rfl) (by kernel_rfl) (fun _ _ _ h => h) (Or.inl ⟨by rfl, ?yqac8⟩) (by assumption) ?rqac8
            case yqac8 => intro w hSw; (try dsimp only at hSw); go_simp <;> (try with_reducible rfl)
            (try simp only [List.getElem_toArray, List.getElem_cons_succ, List.getElem_cons_zero, Act.put, List.setIfInBounds_toArray, List.set_cons_zero, List.set_cons_succ])
            refine wpAnyH_ready (rs := [9]) (by kernel_rfl) (by simp) ?_
            refine AllReadyH.cons rfl (fun K hK => ?_) AllReadyH.nil
            go_simp
            go_wp2_with fail
            (with_reducible refine (HNM _ (HQ.out.next hbe).tt).mono ?_)
            rintro e w10 ⟨rfl, hb10⟩
            have B9 := B9.next hb10 B9.lt
            have hbe := below_join hbe hb10
            refine hK.out _ _ (B9.cell (k := 0) rfl) (fun hHeld => ?_)
            clear hK K hb10
            refine wpAnyH_take (i := 10) (v := ?vqac10) rfl (by kernel_rfl) (by kernel_rfl) (by kernel_rfl) (fun _ _ _ h => h) (Or.inl ⟨by rfl, ?yqac10⟩) (by assumption) ?rqac10
            case yqac10 => intro w hSw; (try dsimp only at hSw); go_simp <;> (try with_reducible rfl)
            (try simp only [List.getElem_toArray, List.getElem_cons_succ, List.getElem_cons_zero, Act.put, List.setIfInBounds_toArray, List.set_cons_zero, List.set_cons_succ])
            refine wpAnyH_take (i := 11) (v := ?vqac11) rfl (by kernel_rfl) (by kernel_rfl) (by kernel_rfl) (fun _ _ _ h => h) (Or.inl ⟨by rfl, ?yqac11⟩) (by assumption) ?rqac11
            case yqac11 => intro w hSw; (try dsimp only at hSw); go_simp <;> (try with_reducible rfl)
            (try simp only [List.getElem_toArray, List.getElem_cons_succ, List.getElem_cons_zero, Act.put, List.setIfInBounds_toArray, List.set_cons_zero, List.set_cons_succ])
            refine wpAnyH_take (i := 12) (v := ?vqac12) rfl (by kernel_rfl) (by kernel_rfl) (by kernel_rfl) (fun _ _ _ h => h) (Or.inl ⟨by rfl, ?yqac12⟩) (by assumption) ?rqac12
            case yqac12 => intro w hSw; (try dsimp only at hSw); go_simp <;> (try with_reducible rfl)
            (try simp only [List.getElem_toArray, List.getElem_cons_succ, List.getElem_cons_zero, Act.put, List.setIfInBounds_toArray, List.set_cons_zero, List.set_cons_succ])
            refine wpAnyH_take (i := 13) (v := ?vqac13) rfl (by kernel_rfl) (by kernel_rfl) (by kernel_rfl) (fun _ _ _ h => h) (Or.inl ⟨by rfl, ?yqac13⟩) (by assumption) ?rqac13
            case yqac13 => intro w hSw; (try dsimp only at hSw); go_simp <;> (try with_reducible rfl)
            (try simp only [List.getElem_toArray, List.getElem_cons_succ, List.getElem_cons_zero, Act.put, List.setIfInBounds_toArray, List.set_cons_zero, List.set_cons_succ])
            refine wpAnyH_take (i := 14) (v := ?vqac14) rfl (by kernel_rfl) (by kernel_rfl) (by kernel_rfl) (fun _ _ _ h => h) (Or.inl ⟨by rfl, ?yqac14⟩) (by assumption) ?rqac14
            case yqac14 => intro w hSw; (try dsimp only at hSw); go_simp <;> (try with_reducible rfl)
            (try simp only [List.getElem_toArray, List.getElem_cons_succ, List.getElem_cons_zero, Act.put, List.setIfInBounds_toArray, List.set_cons_zero, List.set_cons_succ])
            refine wpAnyH_take (i := 15) (v := ?vqac15) rfl (by kernel_rfl) (by kernel_rfl) (by kernel_rfl) (fun _ _ _ h => h) (Or.inl ⟨by rfl, ?yqac15⟩) (by assumption) ?rqac15
            case yqac15 => intro w hSw; (try dsimp only at hSw); go_simp <;> (try with_reducible rfl)
            (try simp only [List.getElem_toArray, List.getElem_cons_succ, List.getElem_cons_zero, Act.put, List.setIfInBounds_toArray, List.set_cons_zero, List.set_cons_succ])
            refine wpAnyH_take (i := 16) (v := ?vqac16) rfl (by kernel_rfl) (by kernel_rfl) (by kernel_rfl) (fun _ _ _ h => h) (Or.inl ⟨by rfl, ?yqac16⟩) (by assumption) ?rqac16
            case yqac16 => intro w hSw; (try dsimp only at hSw); go_simp <;> (try with_reducible rfl)
            (try simp only [List.getElem_toArray, List.getElem_cons_succ, List.getElem_cons_zero, Act.put, List.setIfInBounds_toArray, List.set_cons_zero, List.set_cons_succ])
            refine wpAnyH_take (i := 17) (v := ?vqac17) rfl (by kernel_rfl) (by kernel_rfl) (by kernel_rfl) (fun _ _ _ h => h) (Or.inl ⟨by rfl, ?yqac17⟩) (by assumption) ?rqac17
            case yqac17 => intro w hSw; have hSc := hSw; go_simp <;> (try with_reducible rfl)
            (try simp only [List.getElem_toArray, List.getElem_cons_succ, List.getElem_cons_zero, Act.put, List.setIfInBounds_toArray, List.set_cons_zero, List.set_cons_succ])
            refine wpAnyH_take (i := 18) (v := ?vqac18) rfl (by kernel_rfl) (by kernel_rfl) (by kernel_rfl) (fun _ _ _ h => h) (Or.inl ⟨by rfl, ?yqac18⟩) (by assumption) ?rqac18
            case yqac18 => intro w hSw; (try dsimp only at hSw); go_simp <;> (try with_reducible rfl)
            (try simp only [List.getElem_toArray, List.getElem_cons_succ, List.getElem_cons_zero, Act.put, List.setIfInBounds_toArray, List.set_cons_zero, List.set_cons_succ])
            refine wpAnyH_take (i := 19) (v := ?vqac19) rfl (by kernel_rfl) (by kernel_rfl) (by kernel_rfl) (fun _ _ _ h => h) (Or.inl ⟨by rfl, ?yqac19⟩) (by assumption) ?rqac19
            case yqac19 => intro w hSw; (try dsimp only at hSw); go_simp <;> (try with_reducible rfl)
            (try simp only [List.getElem_toArray, List.getElem_cons_succ, List.getElem_cons_zero, Act.put, List.setIfInBounds_toArray, List.set_cons_zero, List.set_cons_succ])
            refine wpAnyH_take (i := 20) (v := ?vqac20) rfl (by kernel_rfl) (by kernel_rfl) (by kernel_rfl) (fun _ _ _ h => h) (Or.inl ⟨by rfl, ?yqac20⟩) (by assumption) ?rqac20
            case yqac20 => intro w hSw; (try dsimp only at hSw); go_simp <;> (try with_reducible rfl)
            (try simp only [List.getElem_toArray, List.getElem_cons_succ, List.getElem_cons_zero, Act.put, List.setIfInBounds_toArray, List.set_cons_zero, List.set_cons_succ])
            refine wpAnyH_take (i := 21) (v := ?vqac21) rfl (by kernel_rfl) (by kernel_rfl) (by kernel_rfl) (fun _ _ _ h => h) (Or.inl ⟨by rfl, ?yqac21⟩) (by assumption) ?rqac21
            case yqac21 => intro w hSw; (try dsimp only at hSw); go_simp <;> (try with_reducible rfl)
            (try simp only [List.getElem_toArray, List.getElem_cons_succ, List.getElem_cons_zero, Act.put, List.setIfInBounds_toArray, List.set_cons_zero, List.set_cons_succ])
            refine wpAnyH_take (i := 22) (v := ?vqac22) rfl (by kernel_rfl) (by kernel_rfl) (by kernel_rfl) (fun _ _ _ h => h) (Or.inl ⟨by rfl, ?yqac22⟩) (by assumption) ?rqac22
            case yqac22 => intro w hSw; (try dsimp only at hSw); go_simp <;> (try with_reducible rfl)
            (try simp only [List.getElem_toArray, List.getElem_cons_succ, List.getElem_cons_zero, Act.put, List.setIfInBounds_toArray, List.set_cons_zero, List.set_cons_succ])
            refine wpAnyH_take (i := 23) (v := ?vqac23) rfl (by kernel_rfl) (by kernel_rfl) (by kernel_rfl) (fun _ _ _ h => h) (Or.inl ⟨by rfl, ?yqac23⟩) (by assumption) ?rqac23
            case yqac23 => intro w hSw; (try dsimp only at hSw); go_simp <;> (try with_reducible rfl)
            (try simp only [List.getElem_toArray, List.getElem_cons_succ, List.getElem_cons_zero, Act.put, List.setIfInBounds_toArray, List.set_cons_zero, List.set_cons_succ])
            refine wpAnyH_take (i := 24) (v := ?vqac24) rfl (by kernel_rfl) (by kernel_rfl) (by kernel_rfl) (fun _ _ _ h => h) (Or.inl ⟨by rfl, ?yqac24⟩) (by assumption) ?rqac24
            case yqac24 => intro w hSw; (try dsimp only at hSw); go_simp <;> (try with_reducible rfl)
            (try simp only [List.getElem_toArray, List.getElem_cons_succ, List.getElem_cons_zero, Act.put, List.setIfInBounds_toArray, List.set_cons_zero, List.set_cons_succ])
            refine wpAnyH_take (i := 25) (v := ?vqac25) rfl (by kernel_rfl) (by kernel_rfl) (by kernel_rfl) (fun _ _ _ h => h) (Or.inl ⟨by rfl, ?yqac25⟩) (by assumption) ?rqac25
            case yqac25 => intro w hSw; (try dsimp only at hSw); go_simp <;> (try with_reducible rfl)
            (try simp only [List.getElem_toArray, List.getElem_cons_succ, List.getElem_cons_zero, Act.put, List.setIfInBounds_toArray, List.set_cons_zero, List.set_cons_succ])
            refine wpAnyH_take (i := 26) (v := undef) rfl (by kernel_rfl) (by kernel_rfl) (by kernel_rfl) (fun _ _ _ h => h) (Or.inr ⟨by rfl, rfl⟩) (by assumption) ?rqac26
            (try simp only [List.getElem_toArray, List.getElem_cons_succ, List.getElem_cons_zero, Act.put, List.setIfInBounds_toArray, List.set_cons_zero, List.set_cons_succ])
            refine wpAnyH_take (i := 27) (v := undef) rfl (by kernel_rfl) (by kernel_rfl) (by kernel_rfl) (fun _ _ _ h => h) (Or.inr ⟨by rfl, rfl⟩) (by assumption) ?rqac27
            (try simp only [List.getElem_toArray, List.getElem_cons_succ, List.getElem_cons_zero, Act.put, List.setIfInBounds_toArray, List.set_cons_zero, List.set_cons_succ])
            refine wpAnyH_take (i := 28) (v := undef) rfl (by kernel_rfl) (by kernel_rfl) (by kernel_rfl) (fun _ _ _ h => h) (Or.inr ⟨by rfl, rfl⟩) (by assumption) ?rqac28
            (try simp only [List.getElem_toArray, List.getElem_cons_succ, List.getElem_cons_zero, Act.put, List.setIfInBounds_toArray, List.set_cons_zero, List.set_cons_succ])
            refine wpAnyH_take (i := 29) (v := undef) rfl (by kernel_rfl) (by kernel_rfl) (by kernel_rfl) (fun _ _ _ h => h) (Or.inr ⟨by rfl, rfl⟩) (by assumption) ?rqac29
            (try simp only [List.getElem_toArray, List.getElem_cons_succ, List.getElem_cons_zero, Act.put, List.setIfInBounds_toArray, List.set_cons_zero, List.set_cons_succ])
            refine wpAnyH_take (i := 30) (v := undef) rfl (by kernel_rfl) (by kernel_rfl) (by kernel_rfl) (fun _ _ _ h => h) (Or.inr ⟨by rfl, rfl⟩) (by assumption) ?rqac30
            (try simp only [List.getElem_toArray, List.getElem_cons_succ, List.getElem_cons_zero, Act.put, List.setIfInBounds_toArray, List.set_cons_zero, List.set_cons_succ])
            refine wpAnyH_take (i := 31) (v := undef) rfl (by kernel_rfl) (by kernel_rfl) (by kernel_rfl) (fun _ _ _ h => h) (Or.inr ⟨by rfl, rfl⟩) (by assumption) ?rqac31
            (try simp only [List.getElem_toArray, List.getElem_cons_succ, List.getElem_cons_zero, Act.put, List.setIfInBounds_toArray, List.set_cons_zero, List.set_cons_succ])
            refine wpAnyH_take (i := 32) (v := ?vqac32) rfl (by kernel_rfl) (by kernel_rfl) (by kernel_rfl) (fun _ _ _ h => h) (Or.inl ⟨by rfl, ?yqac32⟩) (by assumption) ?rqac32
            case yqac32 => intro w hSw; (try dsimp only at hSw); go_simp <;> (try with_reducible rfl)
            (try simp only [List.getElem_toArray, List.getElem_cons_succ, List.getElem_cons_zero, Act.put, List.setIfInBounds_toArray, List.set_cons_zero, List.set_cons_succ])
            refine wpAnyH_take (i := 33) (v := ?vqac33) rfl (by kernel_rfl) (by kernel_rfl) (by kernel_rfl) (fun _ _ _ h => h) (Or.inl ⟨by rfl, ?yqac33⟩) (by assumption) ?rqac33
            case yqac33 => intro w hSw; (try dsimp only at hSw); go_simp <;> (try with_reducible rfl)
            (try simp only [List.getElem_toArray, List.getElem_cons_succ, List.getElem_cons_zero, Act.put, List.setIfInBounds_toArray, List.set_cons_zero, List.set_cons_succ])
            refine wpAnyH_done (by kernel_rfl) ?_ _
            clear hHeld 
            by_cases hn0 : n < 0
            · skip
              go_wp2_with fail
              (with_reducible refine (HS _ (HQ.out.next hbe)).mono ?_)
              rintro e w11 ⟨rfl, hb11⟩
              have B9 := B9.next hb11 B9.lt
              have hbe := below_join hbe hb11
              clear hb11
              go_wp2
              go_ret
              exact ⟨rfl, hbe⟩
            · by_cases hn1 : 1073741824 < n
              · skip
                go_wp2_with fail
                (with_reducible refine (HS _ (HQ.out.next hbe)).mono ?_)
                rintro e w11 ⟨rfl, hb11⟩
                have B9 := B9.next hb11 B9.lt
                have hbe := below_join hbe hb11
                clear hb11
                go_wp2
                go_ret
                exact ⟨rfl, hbe⟩
              · have HZ := HZN (by omega) (by omega)
                have HY := HYN (by omega) (by omega)
                have HI := HIT (by omega) (by omega)
                clear HZN HYN HIT
                go_wp2_with fail
                (with_reducible refine (HHX _ (HQ.out.next hbe).db).mono ?_)
                rintro e w11 ⟨rfl, hb11⟩
                have B9 := B9.next hb11 B9.lt
                have hbe := below_join hbe hb11
                clear hb11
                go_wp2_with fail
                (with_reducible refine (HZ _).mono ?_)
                rintro e w12 ⟨rfl, hb12⟩
                have B9 := B9.next hb12 B9.lt
                have hbe := below_join hbe hb12
                clear hb12
                go_wp2_with fail
                (with_reducible refine (HI _ (HQ.out.next hbe)).mono ?_)
                rintro e w13 ⟨rfl, hb13⟩
                have B9 := B9.next hb13 B9.lt
                have hbe := below_join hbe hb13
                clear hb13
                go_wp2_with fail
                (with_reducible refine (HY _).mono ?_)
                rintro e w14 ⟨rfl, hb14⟩
                have B9 := B9.next hb14 B9.lt
                have hbe := below_join hbe hb14
                clear hb14
                go_wp2_with fail
                (with_reducible refine (HS _ (HQ.out.next hbe)).mono ?_)
                rintro e w15 ⟨rfl, hb15⟩
                have B9 := B9.next hb15 B9.lt
                have hbe := below_join hbe hb15
                clear hb15
                go_wp2
                go_ret
                exact ⟨rfl, hbe⟩
          · have hX2 : (X.toList == s.toList) = false := beq_eq_false_iff_ne.2 fun e => hXs (bytes_inj e)
            clear hXs hr2 hA hB hC hD hE1 hE2 HTK h60
            have hbe : Below w.heap.size w w := Below.refl _ _
            go_enter Tryd.func4, Tryd.ntmps4
            go_wp2_with fail
            (with_reducible refine (HN _).mono ?_)
            rintro e w2 ⟨rfl, hb2⟩
            have hbe := below_join hbe hb2
            clear hb2
            go_wp2_with fail
            (with_reducible refine (HRN _).mono ?_)
            rintro e w3 ⟨rfl, hb3⟩
            have hbe := below_join hbe hb3
            clear hb3
            go_wp2_with fail
            (with_reducible refine (HNM _ (HQ.out.next hbe).tt).mono ?_)
            rintro e w4 ⟨rfl, hb4⟩
            have hbe := below_join hbe hb4
            clear hb4
            go_wp2_with fail
            (with_reducible refine (HRNM _).mono ?_)
            rintro e w5 ⟨rfl, hb5⟩
            have hbe := below_join hbe hb5
            clear hb5
            go_wp2_with fail
            (with_reducible refine (HHX _ (HQ.out.next hbe).db).mono ?_)
            rintro e w6 ⟨rfl, hb6⟩
            have hbe := below_join hbe hb6
            clear hb6
            go_wp2_with fail
            (with_reducible refine (HRHX _).mono ?_)
            rintro e w7 ⟨rfl, hb7⟩
            have hbe := below_join hbe hb7
            clear hb7
            go_wp2_with fail
            (with_reducible refine (HTK2 _ (HQ.out.next hbe).tt).mono ?_)
            rintro e w8 ⟨⟨g9, c9, R9, rfl, B9⟩, hb8⟩
            have hbe := below_join hbe hb8
            clear hb8
            have z9_2 := B9.cell (k := 2) rfl
            go_wp2
            clear z9_2
            have hdd := below_drew w8
            have B9 := B9.next hdd B9.lt
            have hbe := below_join hbe hdd
            refine wp_region_held_drew (S := fun _ => True) (by kernel_rfl) trivial (fun hHeld => ?_)
            clear hdd
            generalize w8.drew = w9 at B9 hbe hHeld  ⊢
            refine wpAnyH_take (i := 0) (v := ?vqad0) rfl (by kernel_rfl) (by kernel_rfl) (by kernel_rfl) (fun _ _ _ h => h) (Or.inl ⟨by rfl, ?yqad0⟩) (by assumption) ?rqad0
            case yqad0 => intro w hSw; (try dsimp only at hSw); go_simp <;> (try with_reducible rfl)
            (try simp only [List.getElem_toArray, List.getElem_cons_zero, Act.put, List.setIfInBounds_toArray, List.set_cons_zero, List.set_cons_succ])
            refine wpAnyH_take (i := 1) (v := ?vqad1) rfl (by kernel_rfl) (by kernel_rfl) (by kernel_rfl) (fun _ _ _ h => h) (Or.inl ⟨by rfl, ?yqad1⟩) (by assumption) ?rqad1
            case yqad1 => intro w hSw; (try dsimp only at hSw); go_simp <;> (try with_reducible rfl)
            (try simp only [List.getElem_toArray, List.getElem_cons_succ, List.getElem_cons_zero, Act.put, List.setIfInBounds_toArray, List.set_cons_zero, List.set_cons_succ])
            refine wpAnyH_take (i := 2) (v := undef) rfl (by kernel_rfl) (by kernel_rfl) (by kernel_rfl) (fun _ _ _ h => h) (Or.inr ⟨by rfl, rfl⟩) (by assumption) ?rqad2
            (try simp only [List.getElem_toArray, List.getElem_cons_succ, List.getElem_cons_zero, Act.put, List.setIfInBounds_toArray, List.set_cons_zero, List.set_cons_succ])
            refine wpAnyH_take (i := 3) (v := undef) rfl (by kernel_rfl) (by kernel_rfl) (by kernel_rfl) (fun _ _ _ h => h) (Or.inr ⟨by rfl, rfl⟩) (by assumption) ?rqad3
            (try simp only [List.getElem_toArray, List.getElem_cons_succ, List.getElem_cons_zero, Act.put, List.setIfInBounds_toArray, List.set_cons_zero, List.set_cons_succ])
            refine wpAnyH_take (i := 4) (v := undef) rfl (by kernel_rfl) (by kernel_rfl) (by kernel_rfl) (fun _ _ _ h => h) (Or.inr ⟨by rfl, rfl⟩) (by assumption) ?rqad4
            (try simp only [List.getElem_toArray, List.getElem_cons_succ, List.getElem_cons_zero, Act.put, List.setIfInBounds_toArray, List.set_cons_zero, List.set_cons_succ])
            refine wpAnyH_take (i := 5) (v := undef) rfl (by kernel_rfl) (by kernel_rfl) (by kernel_rfl) (fun _ _ _ h => h) (Or.inr ⟨by rfl, rfl⟩) (by assumption) ?rqad5
            (try simp only [List.getElem_toArray, List.getElem_cons_succ, List.getElem_cons_zero, Act.put, List.setIfInBounds_toArray, List.set_cons_zero, List.set_cons_succ])
            refine wpAnyH_take (i := 6) (v := undef) rfl (by kernel_rfl) (by kernel_rfl) (by kernel_rfl) (fun _ _ _ h => h) (Or.inr ⟨by rfl, rfl⟩) (by assumption) ?rqad6
            (try simp only [List.getElem_toArray, List.getElem_cons_succ, List.getElem_cons_zero, Act.put, List.setIfInBounds_toArray, List.set_cons_zero, List.set_cons_succ])
            refine wpAnyH_take (i := 7) (v := ?vqad7) rfl (by kernel_rfl) (by kernel_rfl) (by kernel_rfl) (fun _ _ _ h => h) (Or.inl ⟨by rfl, ?yqad7⟩) (by assumption) ?rqad7
            case yqad7 => intro w hSw; (try dsimp only at hSw); go_simp <;> (try with_reducible rfl)
            (try simp only [List.getElem_toArray, List.getElem_cons_succ, List.getElem_cons_zero, Act.put, List.setIfInBounds_toArray, List.set_cons_zero, List.set_cons_succ])
            refine wpAnyH_take (i := 8) (v := ?vqad8) rfl (by kernel_rfl) (by kernel_rfl) (by kernel_rfl) (fun _ _ _ h => h) (Or.inl ⟨by rfl, ?yqad8⟩) (by assumption) ?rqad8
            case yqad8 => intro w hSw; (try dsimp only at hSw); go_simp <;> (try with_reducible rfl)
            (try simp only [List.getElem_toArray, List.getElem_cons_succ, List.getElem_cons_zero, Act.put, List.setIfInBounds_toArray, List.set_cons_zero, List.set_cons_succ])
            refine wpAnyH_ready (rs := [9]) (by kernel_rfl) (by simp) ?_
            refine AllReadyH.cons rfl (fun K hK => ?_) AllReadyH.nil
            go_simp
            go_wp2_with fail
            (with_reducible refine (HNM _ (HQ.out.next hbe).tt).mono ?_)
            rintro e w10 ⟨rfl, hb10⟩
            have B9 := B9.next hb10 B9.lt
            have hbe := below_join hbe hb10
            refine hK.out _ _ trivial (fun hHeld => ?_)
            clear hK K hb10
            refine wpAnyH_take (i := 10) (v := ?vqad10) rfl (by kernel_rfl) (by kernel_rfl) (by kernel_rfl) (fun _ _ _ h => h) (Or.inl ⟨by rfl, ?yqad10⟩) (by assumption) ?rqad10
            case yqad10 => intro w hSw; (try dsimp only at hSw); go_simp <;> (try with_reducible rfl)
            (try simp only [List.getElem_toArray, List.getElem_cons_succ, List.getElem_cons_zero, Act.put, List.setIfInBounds_toArray, List.set_cons_zero, List.set_cons_succ])
            refine wpAnyH_take (i := 11) (v := ?vqad11) rfl (by kernel_rfl) (by kernel_rfl) (by kernel_rfl) (fun _ _ _ h => h) (Or.inl ⟨by rfl, ?yqad11⟩) (by assumption) ?rqad11
            case yqad11 => intro w hSw; (try dsimp only at hSw); go_simp <;> (try with_reducible rfl)
            (try simp only [List.getElem_toArray, List.getElem_cons_succ, List.getElem_cons_zero, Act.put, List.setIfInBounds_toArray, List.set_cons_zero, List.set_cons_succ])
            refine wpAnyH_take (i := 12) (v := ?vqad12) rfl (by kernel_rfl) (by kernel_rfl) (by kernel_rfl) (fun _ _ _ h => h) (Or.inl ⟨by rfl, ?yqad12⟩) (by assumption) ?rqad12
            case yqad12 => intro w hSw; (try dsimp only at hSw); go_simp <;> (try with_reducible rfl)
            (try simp only [List.getElem_toArray, List.getElem_cons_succ, List.getElem_cons_zero, Act.put, List.setIfInBounds_toArray, List.set_cons_zero, List.set_cons_succ])
            refine wpAnyH_take (i := 13) (v := ?vqad13) rfl (by kernel_rfl) (by kernel_rfl) (by kernel_rfl) (fun _ _ _ h => h) (Or.inl ⟨by rfl, ?yqad13⟩) (by assumption) ?rqad13
            case yqad13 => intro w hSw; (try dsimp only at hSw); go_simp <;> (try with_reducible rfl)
            (try simp only [List.getElem_toArray, List.getElem_cons_succ, List.getElem_cons_zero, Act.put, List.setIfInBounds_toArray, List.set_cons_zero, List.set_cons_succ])
            refine wpAnyH_take (i := 14) (v := undef) rfl (by kernel_rfl) (by kernel_rfl) (by kernel_rfl) (fun _ _ _ h => h) (Or.inr ⟨by rfl, rfl⟩) (by assumption) ?rqad14
            (try simp only [List.getElem_toArray, List.getElem_cons_succ, List.getElem_cons_zero, Act.put, List.setIfInBounds_toArray, List.set_cons_zero, List.set_cons_succ])
            refine wpAnyH_take (i := 15) (v := undef) rfl (by kernel_rfl) (by kernel_rfl) (by kernel_rfl) (fun _ _ _ h => h) (Or.inr ⟨by rfl, rfl⟩) (by assumption) ?rqad15
            (try simp only [List.getElem_toArray, List.getElem_cons_succ, List.getElem_cons_zero, Act.put, List.setIfInBounds_toArray, List.set_cons_zero, List.set_cons_succ])
            refine wpAnyH_take (i := 16) (v := undef) rfl (by kernel_rfl) (by kernel_rfl) (by kernel_rfl) (fun _ _ _ h => h) (Or.inr ⟨by rfl, rfl⟩) (by assumption) ?rqad16
            (try simp only [List.getElem_toArray, List.getElem_cons_succ, List.getElem_cons_zero, Act.put, List.setIfInBounds_toArray, List.set_cons_zero, List.set_cons_succ])
            refine wpAnyH_take (i := 17) (v := undef) rfl (by kernel_rfl) (by kernel_rfl) (by kernel_rfl) (fun _ _ _ h => h) (Or.inr ⟨by rfl, rfl⟩) (by assumption) ?rqad17
            (try simp only [List.getElem_toArray, List.getElem_cons_succ, List.getElem_cons_zero, Act.put, List.setIfInBounds_toArray, List.set_cons_zero, List.set_cons_succ])
            refine wpAnyH_take (i := 18) (v := undef) rfl (by kernel_rfl) (by kernel_rfl) (by kernel_rfl) (fun _ _ _ h => h) (Or.inr ⟨by rfl, rfl⟩) (by assumption) ?rqad18
            (try simp only [List.getElem_toArray, List.getElem_cons_succ, List.getElem_cons_zero, Act.put, List.setIfInBounds_toArray, List.set_cons_zero, List.set_cons_succ])
            refine wpAnyH_take (i := 19) (v := ?vqad19) rfl (by kernel_rfl) (by kernel_rfl) (by kernel_rfl) (fun _ _ _ h => h) (Or.inl ⟨by rfl, ?yqad19⟩) (by assumption) ?rqad19
            case yqad19 => intro w hSw; (try dsimp only at hSw); go_simp <;> (try with_reducible rfl)
            (try simp only [List.getElem_toArray, List.getElem_cons_succ, List.getElem_cons_zero, Act.put, List.setIfInBounds_toArray, List.set_cons_zero, List.set_cons_succ])
            refine wpAnyH_take (i := 20) (v := ?vqad20) rfl (by kernel_rfl) (by kernel_rfl) (by kernel_rfl) (fun _ _ _ h => h) (Or.inl ⟨by rfl, ?yqad20⟩) (by assumption) ?rqad20
            case yqad20 => intro w hSw; (try dsimp only at hSw); go_simp <;> (try with_reducible rfl)
            (try simp only [List.getElem_toArray, List.getElem_cons_succ, List.getElem_cons_zero, Act.put, List.setIfInBounds_toArray, List.set_cons_zero, List.set_cons_succ])
            refine wpAnyH_take (i := 21) (v := ?vqad21) rfl (by kernel_rfl) (by kernel_rfl) (by kernel_rfl) (fun _ _ _ h => h) (Or.inl ⟨by rfl, ?yqad21⟩) (by assumption) ?rqad21
            case yqad21 => intro w hSw; (try dsimp only at hSw); go_simp <;> (try with_reducible rfl)
            (try simp only [List.getElem_toArray, List.getElem_cons_succ, List.getElem_cons_zero, Act.put, List.setIfInBounds_toArray, List.set_cons_zero, List.set_cons_succ])
            refine wpAnyH_take (i := 22) (v := ?vqad22) rfl (by kernel_rfl) (by kernel_rfl) (by kernel_rfl) (fun _ _ _ h => h) (Or.inl ⟨by rfl, ?yqad22⟩) (by assumption) ?rqad22
            case yqad22 => intro w hSw; (try dsimp only at hSw); go_simp <;> (try with_reducible rfl)
            (try simp only [List.getElem_toArray, List.getElem_cons_succ, List.getElem_cons_zero, Act.put, List.setIfInBounds_toArray, List.set_cons_zero, List.set_cons_succ])
            refine wpAnyH_take (i := 23) (v := ?vqad23) rfl (by kernel_rfl) (by kernel_rfl) (by kernel_rfl) (fun _ _ _ h => h) (Or.inl ⟨by rfl, ?yqad23⟩) (by assumption) ?rqad23
            case yqad23 => intro w hSw; (try dsimp only at hSw); go_simp <;> (try with_reducible rfl)
            (try simp only [List.getElem_toArray, List.getElem_cons_succ, List.getElem_cons_zero, Act.put, List.setIfInBounds_toArray, List.set_cons_zero, List.set_cons_succ])
            refine wpAnyH_take (i := 24) (v := ?vqad24) rfl (by kernel_rfl) (by kernel_rfl) (by kernel_rfl) (fun _ _ _ h => h) (Or.inl ⟨by rfl, ?yqad24⟩) (by assumption) ?rqad24
            case yqad24 => intro w hSw; (try dsimp only at hSw); go_simp <;> (try with_reducible rfl)
            (try simp only [List.getElem_toArray, List.getElem_cons_succ, List.getElem_cons_zero, Act.put, List.setIfInBounds_toArray, List.set_cons_zero, List.set_cons_succ])
            refine wpAnyH_take (i := 25) (v := ?vqad25) rfl (by kernel_rfl) (by kernel_rfl) (by kernel_rfl) (fun _ _ _ h => h) (Or.inl ⟨by rfl, ?yqad25⟩) (by assumption) ?rqad25
            case yqad25 => intro w hSw; (try dsimp only at hSw); go_simp <;> (try with_reducible rfl)
            (try simp only [List.getElem_toArray, List.getElem_cons_succ, List.getElem_cons_zero, Act.put, List.setIfInBounds_toArray, List.set_cons_zero, List.set_cons_succ])
            refine wpAnyH_take (i := 26) (v := undef) rfl (by kernel_rfl) (by kernel_rfl) (by kernel_rfl) (fun _ _ _ h => h) (Or.inr ⟨by rfl, rfl⟩) (by assumption) ?rqad26
            (try simp only [List.getElem_toArray, List.getElem_cons_succ, List.getElem_cons_zero, Act.put, List.setIfInBounds_toArray, List.set_cons_zero, List.set_cons_succ])
            refine wpAnyH_take (i := 27) (v := undef) rfl (by kernel_rfl) (by kernel_rfl) (by kernel_rfl) (fun _ _ _ h => h) (Or.inr ⟨by rfl, rfl⟩) (by assumption) ?rqad27
            (try simp only [List.getElem_toArray, List.getElem_cons_succ, List.getElem_cons_zero, Act.put, List.setIfInBounds_toArray, List.set_cons_zero, List.set_cons_succ])
            refine wpAnyH_take (i := 28) (v := undef) rfl (by kernel_rfl) (by kernel_rfl) (by kernel_rfl) (fun _ _ _ h => h) (Or.inr ⟨by rfl, rfl⟩) (by assumption) ?rqad28
            (try simp only [List.getElem_toArray, List.getElem_cons_succ, List.getElem_cons_zero, Act.put, List.setIfInBounds_toArray, List.set_cons_zero, List.set_cons_succ])
            refine wpAnyH_take (i := 29) (v := undef) rfl (by kernel_rfl) (by kernel_rfl) (by kernel_rfl) (fun _ _ _ h => h) (Or.inr ⟨by rfl, rfl⟩) (by assumption) ?rqad29
            (try simp only [List.getElem_toArray, List.getElem_cons_succ, List.getElem_cons_zero, Act.put, List.setIfInBounds_toArray, List.set_cons_zero, List.set_cons_succ])
            refine wpAnyH_take (i := 30) (v := undef) rfl (by kernel_rfl) (by kernel_rfl) (by kernel_rfl) (fun _ _ _ h => h) (Or.inr ⟨by rfl, rfl⟩) (by assumption) ?rqad30
            (try simp only [List.getElem_toArray, List.getElem_cons_succ, List.getElem_cons_zero, Act.put, List.setIfInBounds_toArray, List.set_cons_zero, List.set_cons_succ])
            refine wpAnyH_take (i := 31) (v := undef) rfl (by kernel_rfl) (by kernel_rfl) (by kernel_rfl) (fun _ _ _ h => h) (Or.inr ⟨by rfl, rfl⟩) (by assumption) ?rqad31
            (try simp only [List.getElem_toArray, List.getElem_cons_succ, List.getElem_cons_zero, Act.put, List.setIfInBounds_toArray, List.set_cons_zero, List.set_cons_succ])
            refine wpAnyH_take (i := 32) (v := ?vqad32) rfl (by kernel_rfl) (by kernel_rfl) (by kernel_rfl) (fun _ _ _ h => h) (Or.inl ⟨by rfl, ?yqad32⟩) (by assumption) ?rqad32
            case yqad32 => intro w hSw; (try dsimp only at hSw); go_simp <;> (try with_reducible rfl)
            (try simp only [List.getElem_toArray, List.getElem_cons_succ, List.getElem_cons_zero, Act.put, List.setIfInBounds_toArray, List.set_cons_zero, List.set_cons_succ])
            refine wpAnyH_take (i := 33) (v := ?vqad33) rfl (by kernel_rfl) (by kernel_rfl) (by kernel_rfl) (fun _ _ _ h => h) (Or.inl ⟨by rfl, ?yqad33⟩) (by assumption) ?rqad33
            case yqad33 => intro w hSw; (try dsimp only at hSw); go_simp <;> (try with_reducible rfl)
            (try simp only [List.getElem_toArray, List.getElem_cons_succ, List.getElem_cons_zero, Act.put, List.setIfInBounds_toArray, List.set_cons_zero, List.set_cons_succ])
            refine wpAnyH_done (by kernel_rfl) ?_ _
            clear hHeld 
            by_cases hn0 : n < 0
            · skip
              go_wp2_with fail
              (with_reducible refine (HS _ (HQ.out.next hbe)).mono ?_)
              rintro e w11 ⟨rfl, hb11⟩
              have B9 := B9.next hb11 B9.lt
              have hbe := below_join hbe hb11
              clear hb11
              go_wp2
              go_ret
              exact ⟨rfl, hbe⟩
            · by_cases hn1 : 1073741824 < n
              · skip
                go_wp2_with fail
                (with_reducible refine (HS _ (HQ.out.next hbe)).mono ?_)
                rintro e w11 ⟨rfl, hb11⟩
                have B9 := B9.next hb11 B9.lt
                have hbe := below_join hbe hb11
                clear hb11
                go_wp2
                go_ret
                exact ⟨rfl, hbe⟩
              · have HZ := HZN (by omega) (by omega)
                have HY := HYN (by omega) (by omega)
                have HI := HIT (by omega) (by omega)
                clear HZN HYN HIT
                go_wp2_with fail
                (with_reducible refine (HHX _ (HQ.out.next hbe).db).mono ?_)
                rintro e w11 ⟨rfl, hb11⟩
                have B9 := B9.next hb11 B9.lt
                have hbe := below_join hbe hb11
                clear hb11
                go_wp2_with fail
                (with_reducible refine (HZ _).mono ?_)
                rintro e w12 ⟨rfl, hb12⟩
                have B9 := B9.next hb12 B9.lt
                have hbe := below_join hbe hb12
                clear hb12
                go_wp2_with fail
                (with_reducible refine (HI _ (HQ.out.next hbe)).mono ?_)
                rintro e w13 ⟨rfl, hb13⟩
                have B9 := B9.next hb13 B9.lt
                have hbe := below_join hbe hb13
                clear hb13
                go_wp2_with fail
                (with_reducible refine (HY _).mono ?_)
                rintro e w14 ⟨rfl, hb14⟩
                have B9 := B9.next hb14 B9.lt
                have hbe := below_join hbe hb14
                clear hb14
                go_wp2_with fail
                (with_reducible refine (HS _ (HQ.out.next hbe)).mono ?_)
                rintro e w15 ⟨rfl, hb15⟩
                have B9 := B9.next hb15 B9.lt
                have hbe := below_join hbe hb15
                clear hb15
                go_wp2
                go_ret
                exact ⟨rfl, hbe⟩
        · obtain ⟨m, hm⟩ : ∃ m, rl + 1 = m := ⟨_, rfl⟩
          have HTK2 := fun w hT => HTK w hT m hm
          have m2 : ((m : Int) == 2) = false := beq_eq_false_iff_ne.2 (by omega)
          have m0 : ((m : Int) == 0) = false := beq_eq_false_iff_ne.2 (by omega)
          clear hm hr2 hA hB hC hD hE1 hE2 HTK h60
          have hbe : Below w.heap.size w w := Below.refl _ _
          go_enter Tryd.func4, Tryd.ntmps4
          go_wp2_with fail
          (with_reducible refine (HN _).mono ?_)
          rintro e w2 ⟨rfl, hb2⟩
          have hbe := below_join hbe hb2
          clear hb2
          go_wp2_with fail
          (with_reducible refine (HRN _).mono ?_)
          rintro e w3 ⟨rfl, hb3⟩
          have hbe := below_join hbe hb3
          clear hb3
          go_wp2_with fail
          (with_reducible refine (HNM _ (HQ.out.next hbe).tt).mono ?_)
          rintro e w4 ⟨rfl, hb4⟩
          have hbe := below_join hbe hb4
          clear hb4
          go_wp2_with fail
          (with_reducible refine (HRNM _).mono ?_)
          rintro e w5 ⟨rfl, hb5⟩
          have hbe := below_join hbe hb5
          clear hb5
          go_wp2_with fail
          (with_reducible refine (HHX _ (HQ.out.next hbe).db).mono ?_)
          rintro e w6 ⟨rfl, hb6⟩
          have hbe := below_join hbe hb6
          clear hb6
          go_wp2_with fail
          (with_reducible refine (HRHX _).mono ?_)
          rintro e w7 ⟨rfl, hb7⟩
          have hbe := below_join hbe hb7
          clear hb7
          go_wp2_with fail
          (with_reducible refine (HTK2 _ (HQ.out.next hbe).tt).mono ?_)
          rintro e w8 ⟨⟨g9, c9, R9, rfl, B9⟩, hb8⟩
          have hbe := below_join hbe hb8
          clear hb8
          have z9_2 := B9.cell (k := 2) rfl
          go_wp2
          clear z9_2
          have hdd := below_drew w8
          have B9 := B9.next hdd B9.lt
          have hbe := below_join hbe hdd
          refine wp_region_held_drew (S := fun _ => True) (by kernel_rfl) trivial (fun hHeld => ?_)
          clear hdd
          generalize w8.drew = w9 at B9 hbe hHeld  ⊢
          refine wpAnyH_take (i := 0) (v := ?vqae0) rfl (by kernel_rfl) (by kernel_rfl) (by kernel_rfl) (fun _ _ _ h => h) (Or.inl ⟨by rfl, ?yqae0⟩) (by assumption) ?rqae0
          case yqae0 => intro w hSw; (try dsimp only at hSw); go_simp <;> (try with_reducible rfl)
          (try simp only [List.getElem_toArray, List.getElem_cons_zero, Act.put, List.setIfInBounds_toArray, List.set_cons_zero, List.set_cons_succ])
          refine wpAnyH_take (i := 1) (v := ?vqae1) rfl (by kernel_rfl) (by kernel_rfl) (by kernel_rfl) (fun _ _ _ h => h) (Or.inl ⟨by rfl, ?yqae1⟩) (by assumption) ?rqae1
          case yqae1 => intro w hSw; (try dsimp only at hSw); go_simp <;> (try with_reducible rfl)
          (try simp only [List.getElem_toArray, List.getElem_cons_succ, List.getElem_cons_zero, Act.put, List.setIfInBounds_toArray, List.set_cons_zero, List.set_cons_succ])
          refine wpAnyH_take (i := 2) (v := undef) rfl (by kernel_rfl) (by kernel_rfl) (by kernel_rfl) (fun _ _ _ h => h) (Or.inr ⟨by rfl, rfl⟩) (by assumption) ?rqae2
          (try simp only [List.getElem_toArray, List.getElem_cons_succ, List.getElem_cons_zero, Act.put, List.setIfInBounds_toArray, List.set_cons_zero, List.set_cons_succ])
          refine wpAnyH_take (i := 3) (v := undef) rfl (by kernel_rfl) (by kernel_rfl) (by kernel_rfl) (fun _ _ _ h => h) (Or.inr ⟨by rfl, rfl⟩) (by assumption) ?rqae3
          (try simp only [List.getElem_toArray, List.getElem_cons_succ, List.getElem_cons_zero, Act.put, List.setIfInBounds_toArray, List.set_cons_zero, List.set_cons_succ])
          refine wpAnyH_take (i := 4) (v := undef) rfl (by kernel_rfl) (by kernel_rfl) (by kernel_rfl) (fun _ _ _ h => h) (Or.inr ⟨by rfl, rfl⟩) (by assumption) ?rqae4
          (try simp only [List.getElem_toArray, List.getElem_cons_succ, List.getElem_cons_zero, Act.put, List.setIfInBounds_toArray, List.set_cons_zero, List.set_cons_succ])
          refine wpAnyH_take (i := 5) (v := undef) rfl (by kernel_rfl) (by kernel_rfl) (by kernel_rfl) (fun _ _ _ h => h) (Or.inr ⟨by rfl, rfl⟩) (by assumption) ?rqae5
          (try simp only [List.getElem_toArray, List.getElem_cons_succ, List.getElem_cons_zero, Act.put, List.setIfInBounds_toArray, List.set_cons_zero, List.set_cons_succ])
          refine wpAnyH_take (i := 6) (v := undef) rfl (by kernel_rfl) (by kernel_rfl) (by kernel_rfl) (fun _ _ _ h => h) (Or.inr ⟨by rfl, rfl⟩) (by assumption) ?rqae6
          (try simp only [List.getElem_toArray, List.getElem_cons_succ, List.getElem_cons_zero, Act.put, List.setIfInBounds_toArray, List.set_cons_zero, List.set_cons_succ])
          refine wpAnyH_take (i := 7) (v := ?vqae7) rfl (by kernel_rfl) (by kernel_rfl) (by kernel_rfl) (fun _ _ _ h => h) (Or.inl ⟨by rfl, ?yqae7⟩) (by assumption) ?rqae7
          case yqae7 => intro w hSw; (try dsimp only at hSw); go_simp <;> (try with_reducible rfl)
          (try simp only [List.getElem_toArray, List.getElem_cons_succ, List.getElem_cons_zero, Act.put, List.setIfInBounds_toArray, List.set_cons_zero, List.set_cons_succ])
          refine wpAnyH_take (i := 8) (v := ?vqae8) rfl (by kernel_rfl) (by kernel_rfl) (by kernel_rfl) (fun _ _ _ h => h) (Or.inl ⟨by rfl, ?yqae8⟩) (by assumption) ?rqae8
          case yqae8 => intro w hSw; (try dsimp only at hSw); go_simp <;> (try with_reducible rfl)
          (try simp only [List.getElem_toArray, List.getElem_cons_succ, List.getElem_cons_zero, Act.put, List.setIfInBounds_toArray, List.set_cons_zero, List.set_cons_succ])
          refine wpAnyH_ready (rs := [9]) (by kernel_rfl) (by simp) ?_
          refine AllReadyH.cons rfl (fun K hK => ?_) AllReadyH.nil
          go_simp
          go_wp2_with fail
          (with_reducible refine (HNM _ (HQ.out.next hbe).tt).mono ?_)
          rintro e w10 ⟨rfl, hb10⟩
          have B9 := B9.next hb10 B9.lt
          have hbe := below_join hbe hb10
          refine hK.out _ _ trivial (fun hHeld => ?_)
          clear hK K hb10
          refine wpAnyH_take (i := 10) (v := ?vqae10) rfl (by kernel_rfl) (by kernel_rfl) (by kernel_rfl) (fun _ _ _ h => h) (Or.inl ⟨by rfl, ?yqae10⟩) (by assumption) ?rqae10
          case yqae10 => intro w hSw; (try dsimp only at hSw); go_simp <;> (try with_reducible rfl)
          (try simp only [List.getElem_toArray, List.getElem_cons_succ, List.getElem_cons_zero, Act.put, List.setIfInBounds_toArray, List.set_cons_zero, List.set_cons_succ])
          refine wpAnyH_take (i := 11) (v := ?vqae11) rfl (by kernel_rfl) (by kernel_rfl) (by kernel_rfl) (fun _ _ _ h => h) (Or.inl ⟨by rfl, ?yqae11⟩) (by assumption) ?rqae11
          case yqae11 => intro w hSw; (try dsimp only at hSw); go_simp <;> (try with_reducible rfl)
          (try simp only [List.getElem_toArray, List.getElem_cons_succ, List.getElem_cons_zero, Act.put, List.setIfInBounds_toArray, List.set_cons_zero, List.set_cons_succ])
          refine wpAnyH_take (i := 12) (v := ?vqae12) rfl (by kernel_rfl) (by kernel_rfl) (by kernel_rfl) (fun _ _ _ h => h) (Or.inl ⟨by rfl, ?yqae12⟩) (by assumption) ?rqae12
          case yqae12 => intro w hSw; (try dsimp only at hSw); go_simp <;> (try with_reducible rfl)
          (try simp only [List.getElem_toArray, List.getElem_cons_succ, List.getElem_cons_zero, Act.put, List.setIfInBounds_toArray, List.set_cons_zero, List.set_cons_succ])
          refine wpAnyH_take (i := 13) (v := ?vqae13) rfl (by kernel_rfl) (by kernel_rfl) (by kernel_rfl) (fun _ _ _ h => h) (Or.inl ⟨by rfl, ?yqae13⟩) (by assumption) ?rqae13
          case yqae13 => intro w hSw; (try dsimp only at hSw); go_simp <;> (try with_reducible rfl)
          (try simp only [List.getElem_toArray, List.getElem_cons_succ, List.getElem_cons_zero, Act.put, List.setIfInBounds_toArray, List.set_cons_zero, List.set_cons_succ])
          refine wpAnyH_take (i := 14) (v := undef) rfl (by kernel_rfl) (by kernel_rfl) (by kernel_rfl) (fun _ _ _ h => h) (Or.inr ⟨by rfl, rfl⟩) (by assumption) ?rqae14
          (try simp only [List.getElem_toArray, List.getElem_cons_succ, List.getElem_cons_zero, Act.put, List.setIfInBounds_toArray, List.set_cons_zero, List.set_cons_succ])
          refine wpAnyH_take (i := 15) (v := undef) rfl (by kernel_rfl) (by kernel_rfl) (by kernel_rfl) (fun _ _ _ h => h) (Or.inr ⟨by rfl, rfl⟩) (by assumption) ?rqae15
          (try simp only [List.getElem_toArray, List.getElem_cons_succ, List.getElem_cons_zero, Act.put, List.setIfInBounds_toArray, List.set_cons_zero, List.set_cons_succ])
          refine wpAnyH_take (i := 16) (v := undef) rfl (by kernel_rfl) (by kernel_rfl) (by kernel_rfl) (fun _ _ _ h => h) (Or.inr ⟨by rfl, rfl⟩) (by assumption) ?rqae16
          (try simp only [List.getElem_toArray, List.getElem_cons_succ, List.getElem_cons_zero, Act.put, List.setIfInBounds_toArray, List.set_cons_zero, List.set_cons_succ])
          refine wpAnyH_take (i := 17) (v := undef) rfl (by kernel_rfl) (by kernel_rfl) (by kernel_rfl) (fun _ _ _ h => h) (Or.inr ⟨by rfl, rfl⟩) (by assumption) ?rqae17
          (try simp only [List.getElem_toArray, List.getElem_cons_succ, List.getElem_cons_zero, Act.put, List.setIfInBounds_toArray, List.set_cons_zero, List.set_cons_succ])
          refine wpAnyH_take (i := 18) (v := undef) rfl (by kernel_rfl) (by kernel_rfl) (by kernel_rfl) (fun _ _ _ h => h) (Or.inr ⟨by rfl, rfl⟩) (by assumption) ?rqae18
          (try simp only [List.getElem_toArray, List.getElem_cons_succ, List.getElem_cons_zero, Act.put, List.setIfInBounds_toArray, List.set_cons_zero, List.set_cons_succ])
          refine wpAnyH_take (i := 19) (v := ?vqae19) rfl (by kernel_rfl) (by kernel_rfl) (by kernel_rfl) (fun _ _ _ h => h) (Or.inl ⟨by rfl, ?yqae19⟩) (by assumption) ?rqae19
          case yqae19 => intro w hSw; (try dsimp only at hSw); go_simp <;> (try with_reducible rfl)
          (try simp only [List.getElem_toArray, List.getElem_cons_succ, List.getElem_cons_zero, Act.put, List.setIfInBounds_toArray, List.set_cons_zero, List.set_cons_succ])
          refine wpAnyH_take (i := 20) (v := ?vqae20) rfl (by kernel_rfl) (by kernel_rfl) (by kernel_rfl) (fun _ _ _ h => h) (Or.inl ⟨by rfl, ?yqae20⟩) (by assumption) ?rqae20
          case yqae20 => intro w hSw; (try dsimp only at hSw); go_simp <;> (try with_reducible rfl)
          (try simp only [List.getElem_toArray, List.getElem_cons_succ, List.getElem_cons_zero, Act.put, List.setIfInBounds_toArray, List.set_cons_zero, List.set_cons_succ])
          refine wpAnyH_take (i := 21) (v := ?vqae21) rfl (by kernel_rfl) (by kernel_rfl) (by kernel_rfl) (fun _ _ _ h => h) (Or.inl ⟨by rfl, ?yqae21⟩) (by assumption) ?rqae21
          case yqae21 => intro w hSw; (try dsimp only at hSw); go_simp <;> (try with_reducible rfl)
          (try simp only [List.getElem_toArray, List.getElem_cons_succ, List.getElem_cons_zero, Act.put, List.setIfInBounds_toArray, List.set_cons_zero, List.set_cons_succ])
          refine wpAnyH_take (i := 22) (v := ?vqae22) rfl (by kernel_rfl) (by kernel_rfl) (by kernel_rfl) (fun _ _ _ h => h) (Or.inl ⟨by rfl, ?yqae22⟩) (by assumption) ?rqae22
          case yqae22 => intro w hSw; (try dsimp only at hSw); go_simp <;> (try with_reducible rfl)
          (try simp only [List.getElem_toArray, List.getElem_cons_succ, List.getElem_cons_zero, Act.put, List.setIfInBounds_toArray, List.set_cons_zero, List.set_cons_succ])
          refine wpAnyH_take (i := 23) (v := ?vqae23) rfl (by kernel_rfl) (by kernel_rfl) (by kernel_rfl) (fun _ _ _ h => h) (Or.inl ⟨by rfl, ?yqae23⟩) (by assumption) ?rqae23
          case yqae23 => intro w hSw; (try dsimp only at hSw); go_simp <;> (try with_reducible rfl)
          (try simp only [List.getElem_toArray, List.getElem_cons_succ, List.getElem_cons_zero, Act.put, List.setIfInBounds_toArray, List.set_cons_zero, List.set_cons_succ])
          refine wpAnyH_take (i := 24) (v := ?vqae24) rfl (by kernel_rfl) (by kernel_rfl) (by kernel_rfl) (fun _ _ _ h => h) (Or.inl ⟨by rfl, ?yqae24⟩) (by assumption) ?rqae24
          case yqae24 => intro w hSw; (try dsimp only at hSw); go_simp <;> (try with_reducible rfl)
          (try simp only [List.getElem_toArray, List.getElem_cons_succ, List.getElem_cons_zero, Act.put, List.setIfInBounds_toArray, List.set_cons_zero, List.set_cons_succ])
          refine wpAnyH_take (i := 25) (v := ?vqae25) rfl (by kernel_rfl) (by kernel_rfl) (by kernel_rfl) (fun _ _ _ h => h) (Or.inl ⟨by rfl, ?yqae25⟩) (by assumption) ?rqae25
          case yqae25 => intro w hSw; (try dsimp only at hSw); go_simp <;> (try with_reducible rfl)
          (try simp only [List.getElem_toArray, List.getElem_cons_succ, List.getElem_cons_zero, Act.put, List.setIfInBounds_toArray, List.set_cons_zero, List.set_cons_succ])
          refine wpAnyH_take (i := 26) (v := undef) rfl (by kernel_rfl) (by kernel_rfl) (by kernel_rfl) (fun _ _ _ h => h) (Or.inr ⟨by rfl, rfl⟩) (by assumption) ?rqae26
          (try simp only [List.getElem_toArray, List.getElem_cons_succ, List.getElem_cons_zero, Act.put, List.setIfInBounds_toArray, List.set_cons_zero, List.set_cons_succ])
          refine wpAnyH_take (i := 27) (v := undef) rfl (by kernel_rfl) (by kernel_rfl) (by kernel_rfl) (fun _ _ _ h => h) (Or.inr ⟨by rfl, rfl⟩) (by assumption) ?rqae27
          (try simp only [List.getElem_toArray, List.getElem_cons_succ, List.getElem_cons_zero, Act.put, List.setIfInBounds_toArray, List.set_cons_zero, List.set_cons_succ])
          refine wpAnyH_take (i := 28) (v := undef) rfl (by kernel_rfl) (by kernel_rfl) (by kernel_rfl) (fun _ _ _ h => h) (Or.inr ⟨by rfl, rfl⟩) (by assumption) ?rqae28
          (try simp only [List.getElem_toArray, List.getElem_cons_succ, List.getElem_cons_zero, Act.put, List.setIfInBounds_toArray, List.set_cons_zero, List.set_cons_succ])
          refine wpAnyH_take (i := 29) (v := undef) rfl (by kernel_rfl) (by kernel_rfl) (by kernel_rfl) (fun _ _ _ h => h) (Or.inr ⟨by rfl, rfl⟩) (by assumption) ?rqae29
          (try simp only [List.getElem_toArray, List.getElem_cons_succ, List.getElem_cons_zero, Act.put, List.setIfInBounds_toArray, List.set_cons_zero, List.set_cons_succ])
          refine wpAnyH_take (i := 30) (v := undef) rfl (by kernel_rfl) (by kernel_rfl) (by kernel_rfl) (fun _ _ _ h => h) (Or.inr ⟨by rfl, rfl⟩) (by assumption) ?rqae30
          (try simp only [List.getElem_toArray, List.getElem_cons_succ, List.getElem_cons_zero, Act.put, List.setIfInBounds_toArray, List.set_cons_zero, List.set_cons_succ])
          refine wpAnyH_take (i := 31) (v := undef) rfl (by kernel_rfl) (by kernel_rfl) (by kernel_rfl) (fun _ _ _ h => h) (Or.inr ⟨by rfl, rfl⟩) (by assumption) ?rqae31
          (try simp only [List.getElem_toArray, List.getElem_cons_succ, List.getElem_cons_zero, Act.put, List.setIfInBounds_toArray, List.set_cons_zero, List.set_cons_succ])
          refine wpAnyH_take (i := 32) (v := ?vqae32) rfl (by kernel_rfl) (by kernel_rfl) (by kernel_rfl) (fun _ _ _ h => h) (Or.inl ⟨by rfl, ?yqae32⟩) (by assumption) ?rqae32
          case yqae32 => intro w hSw; (try dsimp only at hSw); go_simp <;> (try with_reducible rfl)
          (try simp only [List.getElem_toArray, List.getElem_cons_succ, List.getElem_cons_zero, Act.put, List.setIfInBounds_toArray, List.set_cons_zero, List.set_cons_succ])
          refine wpAnyH_take (i := 33) (v := ?vqae33) rfl (by kernel_rfl) (by kernel_rfl) (by kernel_rfl) (fun _ _ _ h => h) (Or.inl ⟨by rfl, ?yqae33⟩) (by assumption) ?rqae33
          case yqae33 => intro w hSw; (try dsimp only at hSw); go_simp <;> (try with_reducible rfl)
          (try simp only [List.getElem_toArray, List.getElem_cons_succ, List.getElem_cons_zero, Act.put, List.setIfInBounds_toArray, List.set_cons_zero, List.set_cons_succ])
          refine wpAnyH_done (by kernel_rfl) ?_ _
          clear hHeld 
          by_cases hn0 : n < 0
          · skip
            go_wp2_with fail
            (with_reducible refine (HS _ (HQ.out.next hbe)).mono ?_)
            rintro e w11 ⟨rfl, hb11⟩
            have B9 := B9.next hb11 B9.lt
            have hbe := below_join hbe hb11
            clear hb11
            go_wp2
            go_ret
            exact ⟨rfl, hbe⟩
          · by_cases hn1 : 1073741824 < n
            · skip
              go_wp2_with fail
              (with_reducible refine (HS _ (HQ.out.next hbe)).mono ?_)
              rintro e w11 ⟨rfl, hb11⟩
              have B9 := B9.next hb11 B9.lt
              have hbe := below_join hbe hb11
              clear hb11
              go_wp2
              go_ret
              exact ⟨rfl, hbe⟩
            · have HZ := HZN (by omega) (by omega)
              have HY := HYN (by omega) (by omega)
              have HI := HIT (by omega) (by omega)
              clear HZN HYN HIT
              go_wp2_with fail
              (with_reducible refine (HHX _ (HQ.out.next hbe).db).mono ?_)
              rintro e w11 ⟨rfl, hb11⟩
              have B9 := B9.next hb11 B9.lt
              have hbe := below_join hbe hb11
              clear hb11
              go_wp2_with fail
              (with_reducible refine (HZ _).mono ?_)
              rintro e w12 ⟨rfl, hb12⟩
              have B9 := B9.next hb12 B9.lt
              have hbe := below_join hbe hb12
              clear hb12
              go_wp2_with fail
              (with_reducible refine (HI _ (HQ.out.next hbe)).mono ?_)
              rintro e w13 ⟨rfl, hb13⟩
              have B9 := B9.next hb13 B9.lt
              have hbe := below_join hbe hb13
              clear hb13
              go_wp2_with fail
              (with_reducible refine (HY _).mono ?_)
              rintro e w14 ⟨rfl, hb14⟩
              have B9 := B9.next hb14 B9.lt
              have hbe := below_join hbe hb14
              clear hb14
              go_wp2_with fail
              (with_reducible refine (HS _ (HQ.out.next hbe)).mono ?_)
              rintro e w15 ⟨rfl, hb15⟩
              have B9 := B9.next hb15 B9.lt
              have hbe := below_join hbe hb15
              clear hb15
              go_wp2
              go_ret
              exact ⟨rfl, hbe⟩
end Go.Proofs.YtlpocfojgibhjaaDoor
