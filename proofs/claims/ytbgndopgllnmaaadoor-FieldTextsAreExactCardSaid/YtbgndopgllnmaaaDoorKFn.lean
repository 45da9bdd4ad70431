/-
  Contract of the walk over the reference's Parse. Conditions: a string of at most a million bytes.
-/
import Derived.Test.YtbgndopgllnmaaaDoorKFq
namespace Go.Proofs.YtbgndopgllnmaaaDoor
set_option linter.unusedVariables false
set_option linter.unusedSimpArgs false
open Go.RowKit Go.Shelf

/-- What is read from group i on, m groups. -/
def posR (b : List UInt8) : Nat → Nat → Option (List Nat)
  | 0, _ => some []
  | m + 1, i => if i < 9 ∧ b[5 * i + 4]? ≠ some 46 then none else match wordL 0 ((b.drop (5 * i)).take 4) with | some x => (posR b m (i + 1)).map (x :: ·) | none => none
def posM (b : List UInt8) : Option (List Nat) := if b.length = 49 then posR b 10 0 else none
theorem rowN_zero {xs : List Nat} (h : xs.length < 10) : rowN (xs ++ [0]) = rowN xs := by
  unfold rowN
  obtain ⟨d, hd⟩ : ∃ d, 10 - xs.length = d + 1 := ⟨9 - xs.length, by omega⟩
  rw [hd, List.length_append, show 10 - (xs.length + [0].length) = d by simp; omega, List.map_append, List.append_assoc, List.replicate_succ]
  rfl
theorem rowN_at {xs : List Nat} {y : Nat} : (rowN (xs ++ [y]))[xs.length]? = some (nV y) := by
  unfold rowN
  rw [List.getElem?_append_left (by rw [List.length_map, List.length_append]; simp), List.getElem?_map, List.getElem?_append_right (Nat.le_refl _), Nat.sub_self]
  rfl
theorem rowN_set {xs : List Nat} {y z : Nat} (h : xs.length < 10) : splice (rowN (xs ++ [y])) xs.length [nV z] = rowN (xs ++ [z]) := by
  rw [splice_set _ _ _ (by rw [rowN_length (by rw [List.length_append]; simp; omega)]; exact h)]
  unfold rowN
  rw [List.set_append_left _ _ (by rw [List.length_map, List.length_append]; simp), List.map_append, List.map_append, List.set_append_right _ _ (by rw [List.length_map]; exact Nat.le_refl _), List.length_map, Nat.sub_self, List.length_append, List.length_append]
  rfl
structure PrI (b : List UInt8) (V : Option (List Nat)) (g2 g4 : Nat) (w : World) (k : Nat) (xs : List Nat) (wr : World) : Prop where
  len : xs.length = k
  val : (posR b (10 - k) k).map (xs ++ ·) = V
  b2 : Blk wr g2 30 (H no)
  b4 : Blk wr g4 30 (rowN xs)
  below : Below w.heap.size w wr
def PrRel (b : List UInt8) (V : Option (List Nat)) (g2 g4 : Nat) (w : World) (i : Value) (wr : World) : Prop :=
  ∃ (k : Nat) (xs : List Nat), k ≤ 10 ∧ i = .int .i64 (k : Int) ∧ PrI b V g2 g4 w k xs wr
def PqRel (b : List UInt8) (U : Option Nat) (g2 g4 : Nat) (xs : List Nat) (w : World) (i : Value) (wr : World) : Prop :=
  ∃ (j y : Nat), j ≤ 4 ∧ i = .int .i64 (j : Int) ∧ y < 16 ^ j ∧ wordL y ((b.drop (5 * xs.length + j)).take (4 - j)) = U ∧ Blk wr g2 30 (H no) ∧ Blk wr g4 30 (rowN (xs ++ [y])) ∧ Below w.heap.size w wr
theorem wordL_take {b : List UInt8} {p j y : Nat} {c : UInt8} (hj : j < 4) (h : b[p + j]? = some c) : wordL y ((b.drop (p + j)).take (4 - j)) = match digV c with | some n => wordL (y * 16 + n) ((b.drop (p + (j + 1))).take (4 - (j + 1))) | none => none := by
  have hl := (List.getElem?_eq_some_iff.1 h).1
  rw [List.drop_eq_getElem_cons hl, (List.getElem?_eq_some_iff.1 h).2, show 4 - j = (4 - (j + 1)) + 1 by omega, List.take_succ_cons]
  rfl
set_option maxRecDepth 100000 in
set_option maxHeartbeats 3200000 in
theorem rparse_any (s : ByteArray) (w : World) (hs : s.size ≤ 1000000) :
    Calls Tryd.prog 40 #[.string s] w fun e w' => e = headE (posM s.data.toList) ∧ Below w.heap.size w w' := by
  obtain ⟨V, hV0⟩ : ∃ V, Hid (posM s.data.toList = V) := ⟨_, rfl⟩
  rw [hV0.out]
  have hlen := bytes_size s
  by_cases h49 : s.size = 49
  · have h49i : ((s.size : Int) != 49) = false := by rw [h49]; rfl
    have h49j : (s.size != 49) = false := by rw [h49]; rfl
    have HLEN : Hid (s.data.toList.length = 49) := by
      have : s.data.toList.length = 49 := by omega
      exact this
    have hV : Hid (posR s.data.toList 10 0 = V) := by
      have : posR s.data.toList 10 0 = V := by rw [← hV0.out]; exact (if_pos HLEN.out).symm
      exact this
    have H49 := Lib.hid h49
    clear h49 hlen hs
    go_enter Tryd.func40, Tryd.ntmps40
    go_wp2_with (with_reducible refine wpList_alloc (o := ⟨some 2, .alloc 30, _, _, _, _⟩) (by with_unfolding_all rfl) 30 (by with_unfolding_all rfl) (.agg (H no).toArray) (H no) (by exact Tryd.zeroH) (by with_unfolding_all rfl) ?_)
    intro g2 w1 hg2 hs1 hb1 B2
    have hl2 : w.heap.size ≤ g2 := Nat.le_of_eq hg2.out.symm
    have hb1 := hb1.mono (Nat.le_of_eq hg2.out.symm)
    have hbe : Below w.heap.size w w1 := hb1
    clear hb1 hg2 hs1
    go_wp2_with (with_reducible refine wpList_alloc (o := ⟨some 4, .alloc 30, _, _, _, _⟩) (by with_unfolding_all rfl) 30 (by with_unfolding_all rfl) (.agg (H no).toArray) (H no) (by exact Tryd.zeroH) (by with_unfolding_all rfl) ?_)
    intro g4 w2 hg4 hs2 hb2 B4
    have hl4 : w.heap.size ≤ g4 := Nat.le_trans hbe.size (Nat.le_of_eq hg4.out.symm)
    have ne2_4 : g2 ≠ g4 := by have := B2.lt; have := hg4.out; omega
    have ne4_2 := ne2_4.symm
    have hb2 := hb2.mono (Nat.le_of_eq hg4.out.symm)
    have B2 := B2.next hb2 B2.lt
    have hbe := below_join hbe hb2
    clear hb2 hg4 hs2
    have hI0 : PrI s.data.toList V g2 g4 w 0 [] w2 := ⟨rfl, by rw [hV.out]; cases V <;> rfl, B2, by rw [rowN_nil]; exact B4, hbe⟩
    have H0 := Lib.hid hI0
    clear hI0 B2 B4 hbe h49i h49j
    go_wp2
    go_loopw [5] (PrRel s.data.toList V g2 g4 w) (fun i _ => 10 - (intOf i).toNat)
    case atStart => exact ⟨0, [], by omega, rfl, H0.out⟩
    case round =>
      clear H0
      obtain ⟨k, xs, hk, rfl, hI⟩ := hrel
      have hlen := hI.len
      have hval := hI.val
      have B2 := hI.b2
      have B4 := hI.b4
      have hbe := hI.below
      clear hI
      by_cases hlt : k < 10
      · have hki : (k : Int) < 10 := by omega
        have hk0 : (0 : Int) ≤ (k : Int) := by omega
        obtain ⟨P, hP⟩ : ∃ P, 5 * k = P := ⟨_, rfl⟩
        have hP9 : P ≤ 45 := by omega
        have hwP : IntKind.i64.wrap (5 * (k : Int)) = (P : Int) := by simp only [IntKind.wrap_i64]; omega
        obtain ⟨U, hU⟩ : ∃ U, wordL 0 ((s.data.toList.drop (5 * k)).take 4) = U := ⟨_, rfl⟩
        have hst : posR s.data.toList (10 - k) k = if k < 9 ∧ s.data.toList[5 * k + 4]? ≠ some 46 then none else match U with | some x => (posR s.data.toList (10 - (k + 1)) (k + 1)).map (x :: ·) | none => none := by
          rw [show 10 - k = (10 - (k + 1)) + 1 by omega, ← hU]; rfl
        rw [hst] at hval
        clear hst
        by_cases hdot : k < 9 ∧ s.data.toList[5 * k + 4]? ≠ some 46
        · have hVn : Hid (V = none) := by
            have : V = none := by rw [← hval, if_pos hdot]; rfl
            exact this
          have hk9 : decide ((k : Int) < 9) = true := decide_eq_true (by omega)
          have hQs : P + 4 < s.size := by have := H49.out; omega
          obtain ⟨Q, hQ⟩ : ∃ Q, P + 4 = Q := ⟨_, rfl⟩
          rw [hQ] at hQs
          have hwQ : IntKind.i64.wrap ((P : Int) + 4) = (Q : Int) := by simp only [IntKind.wrap_i64]; omega
          have hQi : (Q : Int) < (s.size : Int) := by omega
          have hQ0 : (0 : Int) ≤ (Q : Int) := by omega
          obtain ⟨c, hc⟩ : ∃ c, s[Q]'hQs = c := ⟨_, rfl⟩
          have hx : ∀ h, s[Q]'h = c := fun _ => hc
          have hg : s.data.toList[5 * k + 4]? = some c := by
            rw [hP, hQ, Array.getElem?_toList, ← hc]
            exact Array.getElem?_eq_getElem (xs := s.data) (i := Q) hQs
          have hne : c.toNat ≠ 46 := fun e => hdot.2 (by rw [hg]; congr 1; exact UInt8.toNat_inj.1 e)
          have hq1 : ((c.toNat : Int) != 46) = true := bne_iff_ne.2 (by omega)
          have hq2 : (c.toNat != 46) = true := bne_iff_ne.2 hne
          clear hval hdot hg hc hne hlen B4
          go_wp2_with (first | (with_reducible refine wpList_build (o := ⟨some 26, .build 30 #[], _, _, _, _⟩) (by with_unfolding_all rfl) 30 #[] (by with_unfolding_all rfl) #[] (by with_unfolding_all rfl) (.agg (H no).toArray) (by with_unfolding_all exact fun w => run_buildH8 w) ?_) | (with_reducible refine wpList_put (o := ⟨none, .store 30 (.tmp 2) (.tmp 26), _, _, _, _⟩) (by with_unfolding_all rfl) 30 (.tmp 2) (.tmp 26) (by with_unfolding_all rfl) g2 0 (by with_unfolding_all rfl) (.agg (H no).toArray) (by with_unfolding_all rfl) B2 (H no) (by with_unfolding_all rfl) (by with_unfolding_all (first | exact Tryd.szH | (simp only [H_length, Pat.cells_length, List.length_append]; exact Tryd.szH))) (by with_unfolding_all (first | exact Nat.le_refl 3 | (simp only [H_length, Pat.cells_length, List.length_append]; omega))) (by with_unfolding_all (exact H_one _)) ?_))
          intro w31 hu31 C2
          rw [splice_all _ _ (by simp only [H_length])] at C2
          have hbe := hbe.trans (hu31.below (B := w.heap.size) hl2)
          clear B2 hu31
          have B2 := C2
          clear C2
          go_wp2
          exact bodyPost_ret (results_cell_two rfl _ _ g2 _ _ _ _ _ rfl rfl B2 Tryd.underlying30 rfl (by rw [List.size_toArray, H_length]; exact Tryd.szH)) rfl ⟨by rw [hVn.out]; rfl, hbe⟩
        · rw [if_neg hdot] at hval
          have hq : Hid (if k < 9 then ∃ c, ∃ h : P + 4 < s.size, s[P + 4]'h = c ∧ c = 46 else True) := by
            have : if k < 9 then ∃ c, ∃ h : P + 4 < s.size, s[P + 4]'h = c ∧ c = 46 else True := by
              split
              · rename_i h9
                have hQs : P + 4 < s.size := by have := H49.out; omega
                refine ⟨_, hQs, rfl, ?_⟩
                have hg : s.data.toList[5 * k + 4]? = some (s[P + 4]'hQs) := by
                  rw [hP, Array.getElem?_toList]
                  exact Array.getElem?_eq_getElem (xs := s.data) (i := P + 4) hQs
                have h46 : s.data.toList[5 * k + 4]? = some 46 := by
                  cases Classical.em (s.data.toList[5 * k + 4]? = some 46) with
                  | inl h => exact h
                  | inr h => exact absurd ⟨h9, h⟩ hdot
                rw [hg] at h46
                injection h46
              · trivial
            exact this
          have B4z : Blk wr g4 30 (rowN (xs ++ [0])) := by rw [rowN_zero (by omega)]; exact B4
          have hU0 : wordL 0 ((s.data.toList.drop (5 * xs.length + 0)).take (4 - 0)) = U := by rw [hlen]; exact hU
          have HVAL := Lib.hid hval
          have HLN := Lib.hid hlen
          have HU0 : Hid (PqRel s.data.toList U g2 g4 xs w (.int .i64 0) wr) := (⟨0, 0, by omega, rfl, by decide, hU0, B2, B4z, hbe⟩ : PqRel s.data.toList U g2 g4 xs w (.int .i64 0) wr)
          clear hdot hU0 B4z B4 hU hval hlen B2 hbe
          by_cases h9 : k < 9
          · have hk9 : decide ((k : Int) < 9) = true := decide_eq_true (by omega)
            obtain ⟨Q4, hQ4⟩ : ∃ Q, P + 4 = Q := ⟨_, rfl⟩
            have hq := hq.out
            rw [if_pos h9] at hq
            obtain ⟨c, h, hc, h46⟩ := hq
            subst h46
            have hx : ∀ h, s[Q4]'h = 46 := fun h => by subst hQ4; exact hc
            have hwQ : IntKind.i64.wrap ((P : Int) + 4) = (Q4 : Int) := by simp only [IntKind.wrap_i64]; omega
            have hQs : Q4 < s.size := by omega
            have hQi : (Q4 : Int) < (s.size : Int) := by omega
            have hQ0 : (0 : Int) ≤ (Q4 : Int) := by omega
            clear hc h hQ4 h9
            go_wp2
            go_loopw [6] (PqRel s.data.toList U g2 g4 xs w) (fun i _ => 4 - (intOf i).toNat)
            case atStart => exact HU0.out
            case round =>
              clear HU0
              obtain ⟨j, y, hj, rfl, hy, hv, B2, B4, hbe⟩ := hrel
              by_cases hjl : j < 4
              · have hji : (j : Int) < 4 := by omega
                have hj0 : (0 : Int) ≤ (j : Int) := by omega
                have hQs : P + j < s.size := by have := H49.out; omega
                obtain ⟨Q, hQ⟩ : ∃ Q, P + j = Q := ⟨_, rfl⟩
                have hwQ : IntKind.i64.wrap ((P : Int) + (j : Int)) = (Q : Int) := by simp only [IntKind.wrap_i64]; omega
                obtain ⟨c, hc⟩ : ∃ c, s[P + j]'hQs = c := ⟨_, rfl⟩
                have hg : s.data.toList[5 * xs.length + j]? = some c := by
                  rw [HLN.out, hP, Array.getElem?_toList, ← hc]
                  exact Array.getElem?_eq_getElem (xs := s.data) (i := P + j) hQs
                have hst := wordL_take (y := y) hjl hg
                rw [hv] at hst
                have hQs2 : Q < s.size := by omega
                have hx : ∀ h, s[Q]'h = c := fun h => by subst hQ; exact hc
                have hQi : (Q : Int) < (s.size : Int) := by omega
                have hQ0 : (0 : Int) ≤ (Q : Int) := by omega
                have hy4 : y < 4096 := Nat.lt_of_lt_of_le hy (by
                  have := Nat.pow_le_pow_right (show 0 < 16 by decide) (show j ≤ 3 by omega)
                  simpa using this)
                have HDG := Lib.hid (fun w => rdig8_any c w)
                cases hd : digV c with
                | none =>
                  rw [hd] at hst
                  have hUn : U = none := hst
                  have hVn : Hid (V = none) := by
                    have : V = none := by rw [← HVAL.out, hUn]; rfl
                    exact this
                  rw [show digI8 c = -1 by unfold digI8; rw [hd]] at HDG
                  clear hst hd hg hv hc hUn hy B4 hQ hQs
                  go_wp2_with fail
                  (with_reducible refine (HDG.out _).mono ?_)
                  rintro e w1 ⟨rfl, rfl⟩
                  go_wp2_with (first | (with_reducible refine wpList_build (o := ⟨some 40, .build 30 #[], _, _, _, _⟩) (by with_unfolding_all rfl) 30 #[] (by with_unfolding_all rfl) #[] (by with_unfolding_all rfl) (.agg (H no).toArray) (by with_unfolding_all exact fun w => run_buildH8 w) ?_) | (with_reducible refine wpList_put (o := ⟨none, .store 30 (.tmp 2) (.tmp 40), _, _, _, _⟩) (by with_unfolding_all rfl) 30 (.tmp 2) (.tmp 40) (by with_unfolding_all rfl) g2 0 (by with_unfolding_all rfl) (.agg (H no).toArray) (by with_unfolding_all rfl) B2 (H no) (by with_unfolding_all rfl) (by with_unfolding_all (first | exact Tryd.szH | (simp only [H_length, Pat.cells_length, List.length_append]; exact Tryd.szH))) (by with_unfolding_all (first | exact Nat.le_refl 3 | (simp only [H_length, Pat.cells_length, List.length_append]; omega))) (by with_unfolding_all (exact H_one _)) ?_))
                  intro w61 hu61 C2
                  rw [splice_all _ _ (by simp only [H_length])] at C2
                  have hbe := hbe.trans (hu61.below (B := w.heap.size) hl2)
                  clear B2 hu61
                  have B2 := C2
                  clear C2
                  go_wp2
                  exact bodyPost_ret (results_cell_two rfl _ _ g2 _ _ _ _ _ rfl rfl B2 Tryd.underlying30 rfl (by rw [List.size_toArray, H_length]; exact Tryd.szH)) rfl ⟨by rw [hVn.out]; rfl, hbe⟩
                | some n =>
                  have hn := digV_lt hd
                  rw [hd] at hst
                  have hst : U = wordL (y * 16 + n) ((s.data.toList.drop (5 * xs.length + (j + 1))).take (4 - (j + 1))) := hst
                  rw [show digI8 c = (n : Int) by unfold digI8; rw [hd]] at HDG
                  obtain ⟨Y, hYd⟩ : ∃ Y, y * 16 = Y := ⟨_, rfl⟩
                  rw [hYd] at hst
                  have hYi : IntKind.i64.wrap ((y : Int) * 16) = (Y : Int) := by simp only [IntKind.wrap_i64]; omega
                  obtain ⟨Z, hZ⟩ : ∃ Z, Y + n = Z := ⟨_, rfl⟩
                  rw [hZ] at hst
                  have hZi : IntKind.i64.wrap ((Y : Int) + (n : Int)) = (Z : Int) := by simp only [IntKind.wrap_i64]; omega
                  have hZl : Hid (Z < 16 ^ (j + 1)) := by
                    have : Z < 16 ^ (j + 1) := by rw [Nat.pow_succ]; omega
                    exact this
                  have HST : Hid (wordL Z ((s.data.toList.drop (5 * xs.length + (j + 1))).take (4 - (j + 1))) = U) := hst.symm
                  have hnd : decide ((n : Int) < 0) = false := decide_eq_false (by omega)
                  have hnn : ¬ ((n : Int) < 0) := by omega
                  have e2 : IntKind.i64.wrap ((j : Int) + 1) = (j : Int) + 1 := by simp only [IntKind.wrap_i64]; omega
                  have hat := rowN_at (xs := xs) (y := y)
                  rw [HLN.out] at hat
                  have HPUT : Hid (splice (rowN (xs ++ [y])) k [nV Z] = rowN (xs ++ [Z])) := by
                    have : splice (rowN (xs ++ [y])) k [nV Z] = rowN (xs ++ [Z]) := by rw [← HLN.out]; exact rowN_set (by have := HLN.out; omega)
                    exact this
                  have HRL : Hid ((rowN (xs ++ [y])).length = 10) := by
                    have : (rowN (xs ++ [y])).length = 10 := rowN_length (by have := HLN.out; rw [List.length_append]; simp; omega)
                    exact this
                  have c4 : wr.cell? ⟨g4, k, none⟩ = some (.int .i64 (y : Int)) := B4.cell hat
                  clear hst hd hg hv hc hy hQ hQs hYd hZ hat
                  go_wp2_with fail
                  (with_reducible refine (HDG.out _).mono ?_)
                  rintro e w1 ⟨rfl, rfl⟩
                  go_wp2_with (with_reducible refine wpList_put (o := ⟨none, .store 3 (.tmp 48) (.tmp 47), _, _, _, _⟩) (by with_unfolding_all rfl) 3 (.tmp 48) (.tmp 47) (by with_unfolding_all rfl) g4 k (by with_unfolding_all rfl) (.int .i64 (Z : Int)) (by with_unfolding_all rfl) B4 [.int .i64 (Z : Int)] (by with_unfolding_all rfl) (by with_unfolding_all (exact Tryd.szI1)) (by with_unfolding_all (rw [HRL.out]; exact hlt)) (by with_unfolding_all (exact one_cell1 rfl)) ?_)
                  intro w5 hu5 C5
                  have D5 : Blk w5 g4 30 (rowN (xs ++ [Z])) := C5.eq HPUT.out
                  have B2 := B2.upd hu5 ne2_4
                  have hbz := hbe.trans (hu5.below (B := w.heap.size) hl4)
                  clear C5 hu5 B4 hbe c4
                  go_wp2
                  go_roundw
                  case rel => exact ⟨j + 1, Z, by omega, by go_num, hZl.out, HST.out, B2, D5, hbz⟩
                  case measure => simp [intOf]; omega
              · have hj4 : j = 4 := by omega
                subst hj4
                have hUs : U = some y := by rw [← hv, Nat.sub_self, List.take_zero]; rfl
                have e2 : IntKind.i64.wrap ((k : Int) + 1) = (k : Int) + 1 := by simp only [IntKind.wrap_i64]; omega
                have HVN : Hid ((posR s.data.toList (10 - (k + 1)) (k + 1)).map ((xs ++ [y]) ++ ·) = V) := by
                  have : (posR s.data.toList (10 - (k + 1)) (k + 1)).map ((xs ++ [y]) ++ ·) = V := by
                    rw [← HVAL.out, hUs]
                    show _ = ((posR s.data.toList (10 - (k + 1)) (k + 1)).map (y :: ·)).map (xs ++ ·)
                    rw [Option.map_map]
                    congr 1
                    funext z
                    show (xs ++ [y]) ++ z = xs ++ (y :: z)
                    rw [List.append_assoc]; rfl
                  exact this
                have hI9 : PrI s.data.toList V g2 g4 w (k + 1) (xs ++ [y]) wr := ⟨by rw [List.length_append, HLN.out]; rfl, HVN.out, B2, B4, hbe⟩
                have HI9 := Lib.hid hI9
                clear hI9 B2 B4 hbe hUs hv
                go_wp2
                go_roundw
                case rel => exact ⟨k + 1, xs ++ [y], by omega, by go_num, HI9.out⟩
                case measure => simp [intOf]; omega
          · have hk9 : decide ((k : Int) < 9) = false := decide_eq_false (by omega)
            clear hq
            go_wp2
            go_loopw [6] (PqRel s.data.toList U g2 g4 xs w) (fun i _ => 4 - (intOf i).toNat)
            case atStart => exact HU0.out
            case round =>
              clear HU0
              obtain ⟨j, y, hj, rfl, hy, hv, B2, B4, hbe⟩ := hrel
              by_cases hjl : j < 4
              · have hji : (j : Int) < 4 := by omega
                have hj0 : (0 : Int) ≤ (j : Int) := by omega
                have hQs : P + j < s.size := by have := H49.out; omega
                obtain ⟨Q, hQ⟩ : ∃ Q, P + j = Q := ⟨_, rfl⟩
                have hwQ : IntKind.i64.wrap ((P : Int) + (j : Int)) = (Q : Int) := by simp only [IntKind.wrap_i64]; omega
                obtain ⟨c, hc⟩ : ∃ c, s[P + j]'hQs = c := ⟨_, rfl⟩
                have hg : s.data.toList[5 * xs.length + j]? = some c := by
                  rw [HLN.out, hP, Array.getElem?_toList, ← hc]
                  exact Array.getElem?_eq_getElem (xs := s.data) (i := P + j) hQs
                have hst := wordL_take (y := y) hjl hg
                rw [hv] at hst
                have hQs2 : Q < s.size := by omega
                have hx : ∀ h, s[Q]'h = c := fun h => by subst hQ; exact hc
                have hQi : (Q : Int) < (s.size : Int) := by omega
                have hQ0 : (0 : Int) ≤ (Q : Int) := by omega
                have hy4 : y < 4096 := Nat.lt_of_lt_of_le hy (by
                  have := Nat.pow_le_pow_right (show 0 < 16 by decide) (show j ≤ 3 by omega)
                  simpa using this)
                have HDG := Lib.hid (fun w => rdig8_any c w)
                cases hd : digV c with
                | none =>
                  rw [hd] at hst
                  have hUn : U = none := hst
                  have hVn : Hid (V = none) := by
                    have : V = none := by rw [← HVAL.out, hUn]; rfl
                    exact this
                  rw [show digI8 c = -1 by unfold digI8; rw [hd]] at HDG
                  clear hst hd hg hv hc hUn hy B4 hQ hQs
                  go_wp2_with fail
                  (with_reducible refine (HDG.out _).mono ?_)
                  rintro e w1 ⟨rfl, rfl⟩
                  go_wp2_with (first | (with_reducible refine wpList_build (o := ⟨some 40, .build 30 #[], _, _, _, _⟩) (by with_unfolding_all rfl) 30 #[] (by with_unfolding_all rfl) #[] (by with_unfolding_all rfl) (.agg (H no).toArray) (by with_unfolding_all exact fun w => run_buildH8 w) ?_) | (with_reducible refine wpList_put (o := ⟨none, .store 30 (.tmp 2) (.tmp 40), _, _, _, _⟩) (by with_unfolding_all rfl) 30 (.tmp 2) (.tmp 40) (by with_unfolding_all rfl) g2 0 (by with_unfolding_all rfl) (.agg (H no).toArray) (by with_unfolding_all rfl) B2 (H no) (by with_unfolding_all rfl) (by with_unfolding_all (first | exact Tryd.szH | (simp only [H_length, Pat.cells_length, List.length_append]; exact Tryd.szH))) (by with_unfolding_all (first | exact Nat.le_refl 3 | (simp only [H_length, Pat.cells_length, List.length_append]; omega))) (by with_unfolding_all (exact H_one _)) ?_))
                  intro w61 hu61 C2
                  rw [splice_all _ _ (by simp only [H_length])] at C2
                  have hbe := hbe.trans (hu61.below (B := w.heap.size) hl2)
                  clear B2 hu61
                  have B2 := C2
                  clear C2
                  go_wp2
                  exact bodyPost_ret (results_cell_two rfl _ _ g2 _ _ _ _ _ rfl rfl B2 Tryd.underlying30 rfl (by rw [List.size_toArray, H_length]; exact Tryd.szH)) rfl ⟨by rw [hVn.out]; rfl, hbe⟩
                | some n =>
                  have hn := digV_lt hd
                  rw [hd] at hst
                  have hst : U = wordL (y * 16 + n) ((s.data.toList.drop (5 * xs.length + (j + 1))).take (4 - (j + 1))) := hst
                  rw [show digI8 c = (n : Int) by unfold digI8; rw [hd]] at HDG
                  obtain ⟨Y, hYd⟩ : ∃ Y, y * 16 = Y := ⟨_, rfl⟩
                  rw [hYd] at hst
                  have hYi : IntKind.i64.wrap ((y : Int) * 16) = (Y : Int) := by simp only [IntKind.wrap_i64]; omega
                  obtain ⟨Z, hZ⟩ : ∃ Z, Y + n = Z := ⟨_, rfl⟩
                  rw [hZ] at hst
                  have hZi : IntKind.i64.wrap ((Y : Int) + (n : Int)) = (Z : Int) := by simp only [IntKind.wrap_i64]; omega
                  have hZl : Hid (Z < 16 ^ (j + 1)) := by
                    have : Z < 16 ^ (j + 1) := by rw [Nat.pow_succ]; omega
                    exact this
                  have HST : Hid (wordL Z ((s.data.toList.drop (5 * xs.length + (j + 1))).take (4 - (j + 1))) = U) := hst.symm
                  have hnd : decide ((n : Int) < 0) = false := decide_eq_false (by omega)
                  have hnn : ¬ ((n : Int) < 0) := by omega
                  have e2 : IntKind.i64.wrap ((j : Int) + 1) = (j : Int) + 1 := by simp only [IntKind.wrap_i64]; omega
                  have hat := rowN_at (xs := xs) (y := y)
                  rw [HLN.out] at hat
                  have HPUT : Hid (splice (rowN (xs ++ [y])) k [nV Z] = rowN (xs ++ [Z])) := by
                    have : splice (rowN (xs ++ [y])) k [nV Z] = rowN (xs ++ [Z]) := by rw [← HLN.out]; exact rowN_set (by have := HLN.out; omega)
                    exact this
                  have HRL : Hid ((rowN (xs ++ [y])).length = 10) := by
                    have : (rowN (xs ++ [y])).length = 10 := rowN_length (by have := HLN.out; rw [List.length_append]; simp; omega)
                    exact this
                  have c4 : wr.cell? ⟨g4, k, none⟩ = some (.int .i64 (y : Int)) := B4.cell hat
                  clear hst hd hg hv hc hy hQ hQs hYd hZ hat
                  go_wp2_with fail
                  (with_reducible refine (HDG.out _).mono ?_)
                  rintro e w1 ⟨rfl, rfl⟩
                  go_wp2_with (with_reducible refine wpList_put (o := ⟨none, .store 3 (.tmp 48) (.tmp 47), _, _, _, _⟩) (by with_unfolding_all rfl) 3 (.tmp 48) (.tmp 47) (by with_unfolding_all rfl) g4 k (by with_unfolding_all rfl) (.int .i64 (Z : Int)) (by with_unfolding_all rfl) B4 [.int .i64 (Z : Int)] (by with_unfolding_all rfl) (by with_unfolding_all (exact Tryd.szI1)) (by with_unfolding_all (rw [HRL.out]; exact hlt)) (by with_unfolding_all (exact one_cell1 rfl)) ?_)
                  intro w5 hu5 C5
                  have D5 : Blk w5 g4 30 (rowN (xs ++ [Z])) := C5.eq HPUT.out
                  have B2 := B2.upd hu5 ne2_4
                  have hbz := hbe.trans (hu5.below (B := w.heap.size) hl4)
                  clear C5 hu5 B4 hbe c4
                  go_wp2
                  go_roundw
                  case rel => exact ⟨j + 1, Z, by omega, by go_num, hZl.out, HST.out, B2, D5, hbz⟩
                  case measure => simp [intOf]; omega
              · have hj4 : j = 4 := by omega
                subst hj4
                have hUs : U = some y := by rw [← hv, Nat.sub_self, List.take_zero]; rfl
                have e2 : IntKind.i64.wrap ((k : Int) + 1) = (k : Int) + 1 := by simp only [IntKind.wrap_i64]; omega
                have HVN : Hid ((posR s.data.toList (10 - (k + 1)) (k + 1)).map ((xs ++ [y]) ++ ·) = V) := by
                  have : (posR s.data.toList (10 - (k + 1)) (k + 1)).map ((xs ++ [y]) ++ ·) = V := by
                    rw [← HVAL.out, hUs]
                    show _ = ((posR s.data.toList (10 - (k + 1)) (k + 1)).map (y :: ·)).map (xs ++ ·)
                    rw [Option.map_map]
                    congr 1
                    funext z
                    show (xs ++ [y]) ++ z = xs ++ (y :: z)
                    rw [List.append_assoc]; rfl
                  exact this
                have hI9 : PrI s.data.toList V g2 g4 w (k + 1) (xs ++ [y]) wr := ⟨by rw [List.length_append, HLN.out]; rfl, HVN.out, B2, B4, hbe⟩
                have HI9 := Lib.hid hI9
                clear hI9 B2 B4 hbe hUs hv
                go_wp2
                go_roundw
                case rel => exact ⟨k + 1, xs ++ [y], by omega, by go_num, HI9.out⟩
                case measure => simp [intOf]; omega
      · have h10 : k = 10 := by omega
        subst h10
        have hVs : Hid (V = some xs) := by
          have : V = some xs := by
            rw [← hval]
            show some (xs ++ []) = _
            rw [List.append_nil]
          exact this
        have B4 : Blk wr g4 30 (xs.map nV) := by rw [← rowN_full hlen]; exact B4
        have hxl : (xs.map nV).length = 10 := by rw [List.length_map]; exact hlen
        have HXL := Lib.hid hxl
        have hx1 := nats_one xs
        obtain ⟨X, hX⟩ : ∃ X, Hid (xs.map nV = X) := ⟨_, rfl⟩
        rw [hX.out] at B4 HXL hx1
        have HX1 := Lib.hid hx1
        have HRES : Hid (headE V = .returned (.tuple #[.agg X.toArray, .int .i64 0])) := by
          have : headE V = .returned (.tuple #[.agg X.toArray, .int .i64 0]) := by rw [hVs.out, ← hX.out]; rfl
          exact this
        clear hval hxl hx1 hlen
        go_wp2_with (first | (with_reducible refine wpList_getg (o := ⟨some 49, .load 30 (.tmp 4), _, _, _, _⟩) (by with_unfolding_all rfl) 30 (.tmp 4) (by with_unfolding_all rfl) g4 0 (by with_unfolding_all rfl) B4 X (cs_all _) _ (by exact Tryd.underlying30) (by with_unfolding_all rfl) (by rw [HXL.out]; exact Tryd.szH) ?_) | (with_reducible refine wpList_put (o := ⟨none, .store 30 (.tmp 2) (.tmp 49), _, _, _, _⟩) (by with_unfolding_all rfl) 30 (.tmp 2) (.tmp 49) (by with_unfolding_all rfl) g2 0 (by with_unfolding_all rfl) (.agg X.toArray) (by with_unfolding_all rfl) B2 X (by with_unfolding_all rfl) (by with_unfolding_all (rw [HXL.out]; exact Tryd.szH)) (by with_unfolding_all (rw [HXL.out, H_length]; omega)) (by with_unfolding_all (exact HX1.out)) ?_))
        intro w5 hu5 C2
        rw [splice_all _ _ (by rw [HXL.out, H_length])] at C2
        have hbz := hbe.trans (hu5.below (B := w.heap.size) hl2)
        go_wp2
        exact bodyPost_ret (results_cell_two rfl _ _ g2 _ _ _ _ _ rfl rfl C2 Tryd.underlying30 rfl (by rw [List.size_toArray, HXL.out]; exact Tryd.szH)) rfl ⟨by rw [HRES.out]; rfl, hbz⟩
  · have h49i : ((s.size : Int) != 49) = true := bne_iff_ne.2 (by omega)
    have h49j : (s.size != 49) = true := bne_iff_ne.2 h49
    have hVn : Hid (V = none) := by
      have : V = none := by rw [← hV0.out]; exact if_neg (by omega)
      exact this
    clear h49 hlen
    go_enter Tryd.func40, Tryd.ntmps40
    go_wp2_with (with_reducible refine wpList_alloc (o := ⟨some 2, .alloc 30, _, _, _, _⟩) (by with_unfolding_all rfl) 30 (by with_unfolding_all rfl) (.agg (H no).toArray) (H no) (by exact Tryd.zeroH) (by with_unfolding_all rfl) ?_)
    intro g2 w1 hg2 hs1 hb1 B2
    have hl2 : w.heap.size ≤ g2 := Nat.le_of_eq hg2.out.symm
    have hb1 := hb1.mono (Nat.le_of_eq hg2.out.symm)
    have hbe : Below w.heap.size w w1 := hb1
    clear hb1 hg2 hs1
    go_wp2_with (first | (with_reducible refine wpList_build (o := ⟨some 11, .build 30 #[], _, _, _, _⟩) (by with_unfolding_all rfl) 30 #[] (by with_unfolding_all rfl) #[] (by with_unfolding_all rfl) (.agg (H no).toArray) (by with_unfolding_all exact fun w => run_buildH8 w) ?_) | (with_reducible refine wpList_put (o := ⟨none, .store 30 (.tmp 2) (.tmp 11), _, _, _, _⟩) (by with_unfolding_all rfl) 30 (.tmp 2) (.tmp 11) (by with_unfolding_all rfl) g2 0 (by with_unfolding_all rfl) (.agg (H no).toArray) (by with_unfolding_all rfl) B2 (H no) (by with_unfolding_all rfl) (by with_unfolding_all (first | exact Tryd.szH | (simp only [H_length, Pat.cells_length, List.length_append]; exact Tryd.szH))) (by with_unfolding_all (first | exact Nat.le_refl 3 | (simp only [H_length, Pat.cells_length, List.length_append]; omega))) (by with_unfolding_all (exact H_one _)) ?_))
    intro w2 hu2 C2
    rw [splice_all _ _ (by simp only [H_length])] at C2
    have hbe := hbe.trans (hu2.below (B := w.heap.size) hl2)
    clear B2 hu2
    have B2 := C2
    clear C2
    go_wp2
    exact bodyPost_ret (results_cell_two rfl _ _ g2 _ _ _ _ _ rfl rfl B2 Tryd.underlying30 rfl (by rw [List.size_toArray, H_length]; exact Tryd.szH)) rfl ⟨by rw [hVn.out]; rfl, hbe⟩
end Go.Proofs.YtbgndopgllnmaaaDoor
