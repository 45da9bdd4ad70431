/-
  Contracts of the functions that the statement calls, part 21 of 25 (merged texts: Fh). Conditions: as the head of each part says.
-/
import Derived.Test.YtbgndopgllnmaaaDoorGO

/-
  Contract of the walk over Check. Conditions: a list of fields that is not too long, with names that are not too long.
-/
namespace Go.Proofs.YtbgndopgllnmaaaDoor
set_option linter.unusedVariables false
set_option linter.unusedSimpArgs false
open Go.RowKit Go.Shelf

def commonB (g f : Fd) : Bool := decide (g.at_ < f.at_ + f.wd) && decide (f.at_ < g.at_ + g.wd)
/-- The error of a field behind others. -/
def errF (done : List Fd) (f : Fd) : Int :=
  if nameB f.nm = false ∨ f.nm = portB then 4
  else if (done.any fun g => decide (g.nm = f.nm)) = true then 4
  else if placeB f.at_ f.wd = false then 1
  else if (done.any fun g => commonB g f) = true then 1
  else 0
def checkL (done : List Fd) : List Fd → Int
  | [] => 0
  | f :: r => if errF done f = 0 then checkL (done ++ [f]) r else errF done f
def checkM (l : List Fd) : Int := if l.length > 16 then 2 else checkL [] l
theorem take_snoc {l : List Fd} {k : Nat} {f : Fd} (h : l[k]? = some f) : l.take (k + 1) = l.take k ++ [f] := by
  have hl := (List.getElem?_eq_some_iff.1 h).1
  rw [List.take_add_one, h]; rfl
theorem checkL_get {l : List Fd} {k : Nat} {f : Fd} (h : l[k]? = some f) : checkL (l.take k) (l.drop k) = if errF (l.take k) f = 0 then checkL (l.take (k + 1)) (l.drop (k + 1)) else errF (l.take k) f := by
  have hl := (List.getElem?_eq_some_iff.1 h).1
  rw [List.drop_eq_getElem_cons hl, (List.getElem?_eq_some_iff.1 h).2, take_snoc h]
  rfl
theorem find_none {nm : ByteArray} : ∀ {l : List Fd}, findL nm l = none → (l.any fun g => decide (g.nm = nm)) = false
  | [], _ => rfl
  | g :: l, h => by
    unfold findL at h
    split at h
    · cases h
    · rename_i hg
      rw [List.any_cons, decide_eq_false hg, Bool.false_or]
      exact find_none h
theorem find_some {nm : ByteArray} : ∀ {l : List Fd} {g : Fd}, findL nm l = some g → (l.any fun g => decide (g.nm = nm)) = true
  | [], _, h => by cases h
  | x :: l, g, h => by
    unfold findL at h
    rw [List.any_cons]
    split at h
    · rename_i hx
      rw [decide_eq_true hx]; rfl
    · rw [find_some h, Bool.or_true]
theorem findM_some {nm : ByteArray} {l : List Fd} {g : Fd} (h : findM nm l = some g) : nm = portB ∨ (l.any fun g => decide (g.nm = nm)) = true := by
  unfold findM at h
  split at h
  · exact .inl (by assumption)
  · exact .inr (find_some h)
theorem findM_none {nm : ByteArray} {l : List Fd} (h : findM nm l = none) : nm ≠ portB ∧ (l.any fun g => decide (g.nm = nm)) = false := by
  unfold findM at h
  split at h
  · cases h
  · exact ⟨by assumption, find_none h⟩
theorem err_found {done : List Fd} {f g : Fd} (h : findM f.nm done = some g) : errF done f = 4 := by
  unfold errF
  rcases findM_some h with h | h
  · rw [if_pos (.inr h)]
  · by_cases hc : nameB f.nm = false ∨ f.nm = portB
    · rw [if_pos hc]
    · rw [if_neg hc, if_pos h]
theorem err_name {done : List Fd} {f : Fd} (h : nameB f.nm = false) : errF done f = 4 := by
  unfold errF
  rw [if_pos (.inl h)]
theorem err_place {done : List Fd} {f : Fd} (h : findM f.nm done = none) (hn : nameB f.nm = true) (hp : placeB f.at_ f.wd = false) : errF done f = 1 := by
  have := findM_none h
  unfold errF
  rw [if_neg (by rintro (k | k); · rw [hn] at k; cases k
                 · exact this.1 k), if_neg (by rw [this.2]; decide), if_pos hp]
theorem err_common {done : List Fd} {f : Fd} (h : findM f.nm done = none) (hn : nameB f.nm = true) (hp : placeB f.at_ f.wd = true) : errF done f = if (done.any fun g => commonB g f) = true then 1 else 0 := by
  have := findM_none h
  unfold errF
  rw [if_neg (by rintro (k | k); · rw [hn] at k; cases k
                 · exact this.1 k), if_neg (by rw [this.2]; decide), if_neg (by rw [hp]; decide)]
theorem place_nat {a n : Int} (h : placeB a n = true) : ∃ a' n' : Nat, a = a' ∧ n = n' ∧ Lies a' n' ∧ 16 ≤ a' ∧ a' ≤ 143 := by
  unfold placeB at h
  simp only [Bool.and_eq_true, decide_eq_true_eq] at h
  obtain ⟨⟨⟨⟨h1, h2⟩, h3⟩, h4⟩, h5⟩ := h
  exact ⟨a.toNat, n.toNat, by omega, by omega, ⟨by omega, by omega, by omega⟩, by omega, by omega⟩
theorem place_not {a n : Int} (h : placeB a n = false) : liesB a n = false ∨ liesB a n = true ∧ a < 16 ∨ liesB a n = true ∧ 16 ≤ a ∧ 144 ≤ a := by
  cases hl : liesB a n with
  | false => exact .inl rfl
  | true =>
    unfold liesB at hl
    simp only [Bool.and_eq_true, decide_eq_true_eq] at hl
    obtain ⟨⟨⟨⟨h1, h2⟩, h3⟩, h4⟩, h5⟩ := hl
    by_cases h6 : a < 16
    · exact .inr (.inl ⟨rfl, h6⟩)
    · by_cases h7 : 144 ≤ a
      · exact .inr (.inr ⟨rfl, by omega, h7⟩)
      · exfalso
        unfold placeB at h
        rw [decide_eq_true (show n ≥ 1 from h1), decide_eq_true (show n ≤ 16 from h2), decide_eq_true (show a ≥ 16 by omega), decide_eq_true (show a ≤ 143 by omega), decide_eq_true h5] at h
        cases h
/-- The bits of fields. -/
def takenOf (done : List Fd) (i : Nat) : Bool := done.any fun g => decide (g.at_ ≤ (i : Int)) && decide ((i : Int) < g.at_ + g.wd)
theorem taken_common {done : List Fd} {s : ByteArray} {a n : Nat} (hd : ∀ g ∈ done, placeB g.at_ g.wd = true) (h : Lies a n) : (HI (setF a n 0 (takenOf done)) = HI (takenOf done)) ↔ (done.any fun g => commonB g ⟨s, a, n⟩) = false := by
  constructor
  · intro he
    rw [List.any_eq_false]
    intro g hg hc
    obtain ⟨b, m, hb, hm, hl, _, _⟩ := place_nat (hd g hg)
    unfold commonB at hc
    rw [Bool.and_eq_true, decide_eq_true_eq, decide_eq_true_eq, hb, hm] at hc
    have h1 := hl.one
    have h2 := h.one
    have h3 := h.head
    have key : ∀ i : Nat, a ≤ i → i < a + n → b ≤ i → i < b + m → False := fun i k1 k2 k3 k4 => by
      have e := HI_inj he i (by omega)
      rw [setF_in _ k1 k2] at e
      have ht : takenOf done i = true := by
        unfold takenOf
        rw [List.any_eq_true]
        exact ⟨g, hg, by rw [hb, hm, decide_eq_true (by omega), decide_eq_true (by omega)]; rfl⟩
      rw [ht, Nat.zero_testBit] at e
      cases e
    have hc1 : (b : Int) < (a : Int) + (n : Int) := hc.1
    have hc2 : (a : Int) < (b : Int) + (m : Int) := hc.2
    by_cases hab : a ≤ b
    · exact key b hab (by omega) (Nat.le_refl _) (by omega)
    · exact key a (Nat.le_refl _) (by omega) (by omega) (by omega)
  · intro hn
    refine HI_congr fun i hi => ?_
    by_cases hin : a ≤ i ∧ i < a + n
    · rw [setF_in _ hin.1 hin.2, Nat.zero_testBit]
      symm
      unfold takenOf
      rw [List.any_eq_false]
      intro g hg hc
      rw [List.any_eq_false] at hn
      apply hn g hg
      rw [Bool.and_eq_true, decide_eq_true_eq, decide_eq_true_eq] at hc
      unfold commonB
      rw [Bool.and_eq_true, decide_eq_true_eq, decide_eq_true_eq]
      show g.at_ < (a : Int) + (n : Int) ∧ (a : Int) < g.at_ + g.wd
      omega
    · exact setF_out _ (by omega)
theorem taken_next {done : List Fd} {s : ByteArray} {a n : Nat} (h : Lies a n) : H (setF a n (2 ^ n - 1) (takenOf done)) = H (takenOf (done ++ [⟨s, a, n⟩])) := by
  refine H_congr fun i _ => ?_
  have e : takenOf (done ++ [⟨s, a, n⟩]) i = (takenOf done i || (decide ((a : Int) ≤ (i : Int)) && decide ((i : Int) < (a : Int) + (n : Int)))) := by
    unfold takenOf
    rw [List.any_append, List.any_cons, List.any_nil, Bool.or_false]
  rw [e]
  by_cases hin : a ≤ i ∧ i < a + n
  · rw [setF_in _ hin.1 hin.2, Nat.testBit_two_pow_sub_one, decide_eq_true (by omega), decide_eq_true (by omega), decide_eq_true (by omega)]
    simp
  · rw [setF_out _ (by omega), show (decide ((a : Int) ≤ (i : Int)) && decide ((i : Int) < (a : Int) + (n : Int))) = false by
      rw [Bool.and_eq_false_iff, decide_eq_false_iff_not, decide_eq_false_iff_not]; omega, Bool.or_false]
theorem taken_nil : H no = H (takenOf []) := H_congr fun _ _ => rfl
def ChkRel (l : List Fd) (g3 : Nat) (w : World) (i : Value) (wr : World) : Prop :=
  ∃ k : Nat, k ≤ l.length ∧ i = .int .i64 (k : Int) ∧ checkL (l.take k) (l.drop k) = checkL [] l ∧ (∀ g ∈ l.take k, placeB g.at_ g.wd = true) ∧ Blk wr g3 30 (H (takenOf (l.take k))) ∧ Below w.heap.size w wr
set_option maxRecDepth 100000 in
set_option maxHeartbeats 3200000 in
theorem check_any (A : Option Addr) (c : Nat) (l : List Fd) (w : World) (hl : l.length ≤ 140737488355328) (hc : l.length ≤ c) (hz : ∀ f ∈ l, f.nm.size ≤ 9223372036854775807) (hS : FsAt w A l) :
    Calls Tryd.prog 9 #[.slice A l.length c] w fun e w' => e = .returned (.int .i64 (checkM l)) ∧ Below w.heap.size w w' := by
  obtain ⟨n, hn⟩ : ∃ n, Hid (l.length = n) := ⟨_, rfl⟩
  rw [hn.out] at hl hc ⊢
  have hni : (n : Int) ≤ 140737488355328 := by omega
  have HS := Lib.hid hS
  have HZ := Lib.hid hz
  clear hS hz
  by_cases hbig : n > 16
  · have hm : checkM l = 2 := if_pos (by rw [hn.out]; exact hbig)
    have hbi : (16 : Int) < (n : Int) := by omega
    rw [hm]
    go_enter Tryd.func9, Tryd.ntmps9
    go_wp2
    go_ret
    exact ⟨rfl, Below.refl _ _⟩
  · have hm : checkM l = checkL [] l := if_neg (by rw [hn.out]; exact hbig)
    have hbi : ¬ ((16 : Int) < (n : Int)) := by omega
    have hbd : decide ((16 : Int) < (n : Int)) = false := decide_eq_false hbi
    have hbd2 : decide (16 < n) = false := decide_eq_false (by omega)
    obtain ⟨CH, hCH⟩ : ∃ CH, Hid (checkL [] l = CH) := ⟨_, rfl⟩
    rw [hm, hCH.out]
    clear hm
    go_enter Tryd.func9, Tryd.ntmps9
    go_wp2_with (with_reducible refine wpList_alloc (o := ⟨some 3, .alloc 30, _, _, _, _⟩) (by with_unfolding_all rfl) 30 (by with_unfolding_all rfl) (.agg (H no).toArray) (H no) (by exact Tryd.zeroH) (by with_unfolding_all rfl) ?_)
    intro g3 w1 hg3 hs1 hb1 B3
    have hl3 : w.heap.size ≤ g3 := Nat.le_of_eq hg3.out.symm
    have hb1 := hb1.mono (Nat.le_of_eq hg3.out.symm)
    have hbe : Below w.heap.size w w1 := hb1
    clear hb1 hg3 hs1
    rw [taken_nil] at B3
    have H0 : Hid (ChkRel l g3 w (.int .i64 0) w1) := (⟨0, Nat.zero_le _, rfl, rfl, (fun g hg => by cases hg), B3, hbe⟩ : ChkRel l g3 w (.int .i64 0) w1)
    clear B3 hbe
    go_wp2
    go_loopw [13] (ChkRel l g3 w) (fun i _ => n - (intOf i).toNat)
    case atStart => exact H0.out
    case round =>
      clear H0
      obtain ⟨k, hk, rfl, hv, hpl, B3, hbe⟩ := hrel
      rw [hn.out] at hk
      have HV := Lib.hid hv
      have HPL := Lib.hid hpl
      clear hv hpl
      by_cases hlt : k < n
      · have hki : (k : Int) < (n : Int) := by omega
        have hk0 : (0 : Int) ≤ (k : Int) := by omega
        have hkc : (k : Int) ≤ (c : Int) := by omega
        have hkcn : k ≤ c := by omega
        obtain ⟨f, hf⟩ : ∃ f, l[k]? = some f := ⟨_, List.getElem?_eq_getElem (by rw [hn.out]; exact hlt)⟩
        obtain ⟨ga, oa, hA, c0, c1, c2⟩ := (HS.out.next hbe) k f hf
        subst hA
        have hst := checkL_get hf
        rw [HV.out, hCH.out] at hst
        have hsn := take_snoc hf
        obtain ⟨D, hD⟩ : ∃ D, l.take k = D := ⟨_, rfl⟩
        have hDk : D.length = k := by rw [← hD, List.length_take, hn.out]; omega
        have HFI : Hid (∀ w', Below w.heap.size w w' → Calls Tryd.prog 14 #[.slice (some ⟨ga, oa, none⟩) k c, .string f.nm] w' fun e w'' => e = findE (findM f.nm D) ∧ Below w'.heap.size w' w'') := by
          have : ∀ w', Below w.heap.size w w' → Calls Tryd.prog 14 #[.slice (some ⟨ga, oa, none⟩) k c, .string f.nm] w' fun e w'' => e = findE (findM f.nm D) ∧ Below w'.heap.size w' w'' := fun w' hb => by
            have h1 := (HS.out.next hb).take k
            rw [hD] at h1
            have h2 := find_any (some ⟨ga, oa, none⟩) c D f.nm w' (by omega) h1
            rw [hDk] at h2
            exact h2
          exact this
        have HNM := Lib.hid (fun w' => name_any f.nm w' (Nat.le_trans (HZ.out f (List.mem_of_getElem? hf)) (by decide)))
        rw [hD] at hst B3 hsn
        have HST := Lib.hid hst
        have HD := Lib.hid hD
        have HSN := Lib.hid hsn
        have HPD : Hid (∀ g ∈ D, placeB g.at_ g.wd = true) := by
          have : ∀ g ∈ D, placeB g.at_ g.wd = true := by rw [← hD]; exact HPL.out
          exact this
        obtain ⟨fn, fa, fw⟩ := f
        obtain ⟨T, hT⟩ : ∃ T, Hid (takenOf D = T) := ⟨_, rfl⟩
        rw [hT.out] at B3
        clear hst hD hsn HPL hf hDk hlt
        cases hfm : findM fn D with
        | some g =>
          obtain ⟨gn, gaa, gw⟩ := g
          have hce : Hid (CH = 4) := by
            have : CH = 4 := by rw [HST.out, err_found (f := ⟨fn, fa, fw⟩) hfm]; rfl
            exact this
          have hfe : findE (findM fn D) = .returned (.tuple #[.agg #[.string gn, .int .i64 gaa, .int .i64 gw], .bool true]) := by rw [hfm]; rfl
          have HFI := HFI
          rw [show (∀ w', Below w.heap.size w w' → Calls Tryd.prog 14 #[.slice (some ⟨ga, oa, none⟩) k c, .string fn] w' fun e w'' => e = findE (findM fn D) ∧ Below w'.heap.size w' w'') = (∀ w', Below w.heap.size w w' → Calls Tryd.prog 14 #[.slice (some ⟨ga, oa, none⟩) k c, .string fn] w' fun e w'' => e = .returned (.tuple #[.agg #[.string gn, .int .i64 gaa, .int .i64 gw], .bool true]) ∧ Below w'.heap.size w' w'') by rw [hfe]] at HFI
          clear hfe hfm
          have hl3 : g3 < wr.heap.size := B3.lt
          go_wp2_with (with_reducible refine wpList_alloc (o := ⟨some 5, .alloc 33, _, _, _, _⟩) (by with_unfolding_all rfl) 33 (by with_unfolding_all rfl) (.agg #[.string ByteArray.empty, .int .i64 0, .int .i64 0]) [Value.string ByteArray.empty, .int .i64 0, .int .i64 0] (by exact Tryd.zeroF) (by with_unfolding_all rfl) ?_)
          intro g5 w21 hg5 hs21 hb21 B5
          have hl5 : w.heap.size ≤ g5 := Nat.le_trans hbe.size (Nat.le_of_eq hg5.out.symm)
          have ne3_5 : g3 ≠ g5 := by have := B3.lt; have := hg5.out; omega
          have ne5_3 := ne3_5.symm
          have hb21 := hb21.mono (Nat.le_of_eq hg5.out.symm)
          have B3 := B3.next hb21 B3.lt
          have hbe := below_join hbe hb21
          clear hb21 hg5 hs21
          clear c0 c1 c2 hl3
          go_wp2_with (with_reducible refine wpList_put (o := ⟨none, .store 33 (.tmp 5) (.tmp 17), _, _, _, _⟩) (by with_unfolding_all rfl) 33 (.tmp 5) (.tmp 17) (by with_unfolding_all rfl) g5 0 (by with_unfolding_all rfl) (.agg #[.string fn, .int .i64 fa, .int .i64 fw]) (by with_unfolding_all rfl) B5 [Value.string fn, .int .i64 fa, .int .i64 fw] (by with_unfolding_all rfl) (by with_unfolding_all (first | exact Tryd.szF | (simp only [H_length, Pat.cells_length, List.length_append]; exact Tryd.szF))) (by with_unfolding_all (first | exact Nat.le_refl 3 | (simp only [H_length, Pat.cells_length, List.length_append]; omega))) (by with_unfolding_all (exact fields_one _ _ _)) ?_)
          intro w22 hu22 C5
          rw [splice_all _ _ (by rfl)] at C5
          have B3 := B3.upd hu22 ne3_5
          have hbe := hbe.trans (hu22.below (B := w.heap.size) hl5)
          clear B5 hu22
          have B5 := C5
          clear C5
          go_wp2
          have hdd := below_drew w22
          have B3 := B3.next hdd B3.lt
          have B5 := B5.next hdd B5.lt
          have hbe := below_join hbe hdd
          refine wp_region_held_drew (S := fun w' => w'.cell? ⟨g5, 0, none⟩ = some (Value.string fn)) (by kernel_rfl) (B5.cell (k := 0) rfl) (fun hHeld => ?_)
          clear hdd
          generalize w22.drew = w23 at B3 B5 hbe hHeld  ⊢
          refine wpAnyH_take (i := 0) (v := ?vqaa0) rfl (by kernel_rfl) (by kernel_rfl) (by kernel_rfl) (fun _ _ _ h => h) (Or.inl ⟨by rfl, ?yqaa0⟩) (by assumption) ?rqaa0
          case yqaa0 => intro w hSw; (try dsimp only at hSw); go_simp <;> (try with_reducible rfl)
          (try simp only [List.getElem_toArray, List.getElem_cons_zero, Act.put, List.setIfInBounds_toArray, List.set_cons_zero, List.set_cons_succ])
          refine wpAnyH_take (i := 1) (v := ?vqaa1) rfl (by kernel_rfl) (by kernel_rfl) (by kernel_rfl) (fun _ _ _ h => h) (Or.inl ⟨by rfl, ?yqaa1⟩) (by assumption) ?rqaa1
          case yqaa1 => intro w hSw; (try dsimp only at hSw); go_simp <;> (try with_reducible rfl)
          (try simp only [List.getElem_toArray, List.getElem_cons_succ, List.getElem_cons_zero, Act.put, List.setIfInBounds_toArray, List.set_cons_zero, List.set_cons_succ])
          refine wpAnyH_take (i := 2) (v := ?vqaa2) rfl (by kernel_rfl) (by kernel_rfl) (by kernel_rfl) (fun _ _ _ h => h) (Or.inl ⟨by rfl, ?yqaa2⟩) (by assumption) ?rqaa2
          case yqaa2 => intro w hSw; (try dsimp only at hSw); go_simp <;> (try with_reducible rfl)
          (try simp only [List.getElem_toArray, List.getElem_cons_succ, List.getElem_cons_zero, Act.put, List.setIfInBounds_toArray, List.set_cons_zero, List.set_cons_succ])
          refine wpAnyH_take (i := 3) (v := ?vqaa3) rfl (by kernel_rfl) (by kernel_rfl) (by kernel_rfl) (fun _ _ _ h => h) (Or.inl ⟨by rfl, ?yqaa3⟩) (by assumption) ?rqaa3
          case yqaa3 => intro w hSw; (try dsimp only at hSw); go_simp <;> (try with_reducible rfl)
          (try simp only [List.getElem_toArray, List.getElem_cons_succ, List.getElem_cons_zero, Act.put, List.setIfInBounds_toArray, List.set_cons_zero, List.set_cons_succ])
          refine wpAnyH_take (i := 4) (v := ?vqaa4) rfl (by kernel_rfl) (by kernel_rfl) (by kernel_rfl) (fun _ _ _ h => h) (Or.inl ⟨by rfl, ?yqaa4⟩) (by assumption) ?rqaa4
          case yqaa4 => intro w hSw; have hSc := hSw; go_simp <;> (try with_reducible rfl)
          (try simp only [List.getElem_toArray, List.getElem_cons_succ, List.getElem_cons_zero, Act.put, List.setIfInBounds_toArray, List.set_cons_zero, List.set_cons_succ])
          refine wpAnyH_ready (rs := [5, 9]) (by kernel_rfl) (by simp) ?_
          refine AllReadyH.cons rfl (fun K hK => ?_) (AllReadyH.cons rfl (fun K hK => ?_) AllReadyH.nil)
          · skip
            go_simp
            go_wp2_with fail
            (with_reducible refine (HFI.out _ hbe).mono ?_)
            rintro e w24 ⟨rfl, hb24⟩
            have B3 := B3.next hb24 B3.lt
            have B5 := B5.next hb24 B5.lt
            have hbe := below_join hbe hb24
            refine hK.out _ _ (B5.cell (k := 0) rfl) (fun hHeld => ?_)
            clear hK K hb24
            refine wpAnyH_take (i := 6) (v := ?vqab6) rfl (by kernel_rfl) (by kernel_rfl) (by kernel_rfl) (fun _ _ _ h => h) (Or.inl ⟨by rfl, ?yqab6⟩) (by assumption) ?rqab6
            case yqab6 => intro w hSw; (try dsimp only at hSw); go_simp <;> (try with_reducible rfl)
            (try simp only [List.getElem_toArray, List.getElem_cons_succ, List.getElem_cons_zero, Act.put, List.setIfInBounds_toArray, List.set_cons_zero, List.set_cons_succ])
            refine wpAnyH_take (i := 7) (v := ?vqab7) rfl (by kernel_rfl) (by kernel_rfl) (by kernel_rfl) (fun _ _ _ h => h) (Or.inl ⟨by rfl, ?yqab7⟩) (by assumption) ?rqab7
            case yqab7 => intro w hSw; (try dsimp only at hSw); go_simp <;> (try with_reducible rfl)
            (try simp only [List.getElem_toArray, List.getElem_cons_succ, List.getElem_cons_zero, Act.put, List.setIfInBounds_toArray, List.set_cons_zero, List.set_cons_succ])
            refine wpAnyH_take (i := 8) (v := ?vqab8) rfl (by kernel_rfl) (by kernel_rfl) (by kernel_rfl) (fun _ _ _ h => h) (Or.inl ⟨by rfl, ?yqab8⟩) (by assumption) ?rqab8
            case yqab8 => intro w hSw; (try dsimp only at hSw); go_simp <;> (try with_reducible rfl)
            (try simp only [List.getElem_toArray, List.getElem_cons_succ, List.getElem_cons_zero, Act.put, List.setIfInBounds_toArray, List.set_cons_zero, List.set_cons_succ])
            refine wpAnyH_ready (rs := [9]) (by kernel_rfl) (by simp) ?_
            refine AllReadyH.cons rfl (fun K hK => ?_) AllReadyH.nil
            rw [if_pos (by rfl)]
            refine wp_allocz 33 rfl (.agg #[.string ByteArray.empty, .int .i64 0, .int .i64 0]) [Value.string ByteArray.empty, .int .i64 0, .int .i64 0] Tryd.zeroF rfl ?_
            intro g6 w25 hg6 hs25 hb25 B6
            have hl6 : w.heap.size ≤ g6 := Nat.le_trans hbe.size (Nat.le_of_eq hg6.out.symm)
            have ne3_6 : g3 ≠ g6 := by have := B3.lt; have := hg6.out; omega
            have ne6_3 := ne3_6.symm
            have ne5_6 : g5 ≠ g6 := by have := B5.lt; have := hg6.out; omega
            have ne6_5 := ne5_6.symm
            have hb25 := hb25.mono (Nat.le_of_eq hg6.out.symm)
            have B3 := B3.next hb25 B3.lt
            have B5 := B5.next hb25 B5.lt
            have hbe := below_join hbe hb25
            clear hb25 hg6 hs25
            refine hK.out _ _ (B5.cell (k := 0) rfl) (fun hHeld => ?_)
            clear hK K
            refine wpAnyH_ready (rs := [10]) (by kernel_rfl) (by simp) ?_
            refine AllReadyH.cons rfl (fun K hK => ?_) AllReadyH.nil
            rw [if_pos (by rfl)]
            refine wp_put 33 (.tmp 6) (.tmp 25) rfl g6 0 rfl (.agg [Value.string gn, .int .i64 gaa, .int .i64 gw].toArray) rfl B6 [Value.string gn, .int .i64 gaa, .int .i64 gw] rfl (by first | exact Tryd.szF | (simp only [H_length, Pat.cells_length, List.length_append]; exact Tryd.szF)) (by first | exact Nat.le_refl 3 | (simp only [H_length, Pat.cells_length, List.length_append]; omega)) (fields_one _ _ _) ?_
            intro w26 hu26 C6
            rw [splice_all _ _ (by rfl)] at C6
            have B3 := B3.upd hu26 ne3_6
            have B5 := B5.upd hu26 ne5_6
            have hbe := hbe.trans (hu26.below (B := w.heap.size) hl6)
            clear B6 hu26
            have B6 := C6
            clear C6
            refine hK.out _ _ (B5.cell (k := 0) rfl) (fun hHeld => ?_)
            clear hK K
            refine wpAnyH_take (i := 11) (v := ?vqab11) rfl (by kernel_rfl) (by kernel_rfl) (by kernel_rfl) (fun _ _ _ h => h) (Or.inl ⟨by rfl, ?yqab11⟩) (by assumption) ?rqab11
            case yqab11 => intro w hSw; (try dsimp only at hSw); go_simp <;> (try with_reducible rfl)
            (try simp only [List.getElem_toArray, List.getElem_cons_succ, List.getElem_cons_zero, Act.put, List.setIfInBounds_toArray, List.set_cons_zero, List.set_cons_succ])
            refine wpAnyH_done (by kernel_rfl) ?_ _
            clear hHeld 
            go_wp2
            go_ret
            exact ⟨by rw [hce.out]; rfl, hbe⟩
          · skip
            rw [if_pos (by rfl)]
            refine wp_allocz 33 rfl (.agg #[.string ByteArray.empty, .int .i64 0, .int .i64 0]) [Value.string ByteArray.empty, .int .i64 0, .int .i64 0] Tryd.zeroF rfl ?_
            intro g6 w24 hg6 hs24 hb24 B6
            have hl6 : w.heap.size ≤ g6 := Nat.le_trans hbe.size (Nat.le_of_eq hg6.out.symm)
            have ne3_6 : g3 ≠ g6 := by have := B3.lt; have := hg6.out; omega
            have ne6_3 := ne3_6.symm
            have ne5_6 : g5 ≠ g6 := by have := B5.lt; have := hg6.out; omega
            have ne6_5 := ne5_6.symm
            have hb24 := hb24.mono (Nat.le_of_eq hg6.out.symm)
            have B3 := B3.next hb24 B3.lt
            have B5 := B5.next hb24 B5.lt
            have hbe := below_join hbe hb24
            clear hb24 hg6 hs24
            refine hK.out _ _ (B5.cell (k := 0) rfl) (fun hHeld => ?_)
            clear hK K
            refine wpAnyH_ready (rs := [5]) (by kernel_rfl) (by simp) ?_
            refine AllReadyH.cons rfl (fun K hK => ?_) AllReadyH.nil
            go_simp
            go_wp2_with fail
            (with_reducible refine (HFI.out _ hbe).mono ?_)
            rintro e w25 ⟨rfl, hb25⟩
            have B3 := B3.next hb25 B3.lt
            have B5 := B5.next hb25 B5.lt
            have B6 := B6.next hb25 B6.lt
            have hbe := below_join hbe hb25
            refine hK.out _ _ (B5.cell (k := 0) rfl) (fun hHeld => ?_)
            clear hK K hb25
            refine wpAnyH_take (i := 6) (v := ?vqac6) rfl (by kernel_rfl) (by kernel_rfl) (by kernel_rfl) (fun _ _ _ h => h) (Or.inl ⟨by rfl, ?yqac6⟩) (by assumption) ?rqac6
            case yqac6 => intro w hSw; (try dsimp only at hSw); go_simp <;> (try with_reducible rfl)
            (try simp only [List.getElem_toArray, List.getElem_cons_succ, List.getElem_cons_zero, Act.put, List.setIfInBounds_toArray, List.set_cons_zero, List.set_cons_succ])
            refine wpAnyH_take (i := 7) (v := ?vqac7) rfl (by kernel_rfl) (by kernel_rfl) (by kernel_rfl) (fun _ _ _ h => h) (Or.inl ⟨by rfl, ?yqac7⟩) (by assumption) ?rqac7
            case yqac7 => intro w hSw; (try dsimp only at hSw); go_simp <;> (try with_reducible rfl)
            (try simp only [List.getElem_toArray, List.getElem_cons_succ, List.getElem_cons_zero, Act.put, List.setIfInBounds_toArray, List.set_cons_zero, List.set_cons_succ])
            refine wpAnyH_take (i := 8) (v := ?vqac8) rfl (by kernel_rfl) (by kernel_rfl) (by kernel_rfl) (fun _ _ _ h => h) (Or.inl ⟨by rfl, ?yqac8⟩) (by assumption) ?rqac8
            case yqac8 => intro w hSw; (try dsimp only at hSw); go_simp <;> (try with_reducible rfl)
            (try simp only [List.getElem_toArray, List.getElem_cons_succ, List.getElem_cons_zero, Act.put, List.setIfInBounds_toArray, List.set_cons_zero, List.set_cons_succ])
            refine wpAnyH_ready (rs := [10]) (by kernel_rfl) (by simp) ?_
            refine AllReadyH.cons rfl (fun K hK => ?_) AllReadyH.nil
            rw [if_pos (by rfl)]
            refine wp_put 33 (.tmp 6) (.tmp 25) rfl g6 0 rfl (.agg [Value.string gn, .int .i64 gaa, .int .i64 gw].toArray) rfl B6 [Value.string gn, .int .i64 gaa, .int .i64 gw] rfl (by first | exact Tryd.szF | (simp only [H_length, Pat.cells_length, List.length_append]; exact Tryd.szF)) (by first | exact Nat.le_refl 3 | (simp only [H_length, Pat.cells_length, List.length_append]; omega)) (fields_one _ _ _) ?_
            intro w26 hu26 C6
            rw [splice_all _ _ (by rfl)] at C6
            have B3 := B3.upd hu26 ne3_6
            have B5 := B5.upd hu26 ne5_6
            have hbe := hbe.trans (hu26.below (B := w.heap.size) hl6)
            clear B6 hu26
            have B6 := C6
            clear C6
            refine hK.out _ _ (B5.cell (k := 0) rfl) (fun hHeld => ?_)
            clear hK K
            refine wpAnyH_take (i := 11) (v := ?vqac11) rfl (by kernel_rfl) (by kernel_rfl) (by kernel_rfl) (fun _ _ _ h => h) (Or.inl ⟨by rfl, ?yqac11⟩) (by assumption) ?rqac11
            case yqac11 => intro w hSw; (try dsimp only at hSw); go_simp <;> (try with_reducible rfl)
            (try simp only [List.getElem_toArray, List.getElem_cons_succ, List.getElem_cons_zero, Act.put, List.setIfInBounds_toArray, List.set_cons_zero, List.set_cons_succ])
            refine wpAnyH_done (by kernel_rfl) ?_ _
            clear hHeld 
            go_wp2
            go_ret
            exact ⟨by rw [hce.out]; rfl, hbe⟩
        | none =>
          have hfe : findE (findM fn D) = .returned (.tuple #[.agg #[.string ByteArray.empty, .int .i64 0, .int .i64 0], .bool false]) := by rw [hfm]; rfl
          have HFM := Lib.hid hfm
          rw [show (∀ w', Below w.heap.size w w' → Calls Tryd.prog 14 #[.slice (some ⟨ga, oa, none⟩) k c, .string fn] w' fun e w'' => e = findE (findM fn D) ∧ Below w'.heap.size w' w'') = (∀ w', Below w.heap.size w w' → Calls Tryd.prog 14 #[.slice (some ⟨ga, oa, none⟩) k c, .string fn] w' fun e w'' => e = .returned (.tuple #[.agg #[.string ByteArray.empty, .int .i64 0, .int .i64 0], .bool false]) ∧ Below w'.heap.size w' w'') by rw [hfe]] at HFI
          clear hfe hfm
          cases hnb : nameB fn with
          | false =>
            have hce : Hid (CH = 4) := by
              have : CH = 4 := by rw [HST.out, err_name (f := ⟨fn, fa, fw⟩) hnb]; rfl
              exact this
            rw [hnb] at HNM
            clear hnb
            have hl3 : g3 < wr.heap.size := B3.lt
            go_wp2_with (with_reducible refine wpList_alloc (o := ⟨some 5, .alloc 33, _, _, _, _⟩) (by with_unfolding_all rfl) 33 (by with_unfolding_all rfl) (.agg #[.string ByteArray.empty, .int .i64 0, .int .i64 0]) [Value.string ByteArray.empty, .int .i64 0, .int .i64 0] (by exact Tryd.zeroF) (by with_unfolding_all rfl) ?_)
            intro g5 w21 hg5 hs21 hb21 B5
            have hl5 : w.heap.size ≤ g5 := Nat.le_trans hbe.size (Nat.le_of_eq hg5.out.symm)
            have ne3_5 : g3 ≠ g5 := by have := B3.lt; have := hg5.out; omega
            have ne5_3 := ne3_5.symm
            have hb21 := hb21.mono (Nat.le_of_eq hg5.out.symm)
            have B3 := B3.next hb21 B3.lt
            have hbe := below_join hbe hb21
            clear hb21 hg5 hs21
            clear c0 c1 c2 hl3
            go_wp2_with (with_reducible refine wpList_put (o := ⟨none, .store 33 (.tmp 5) (.tmp 17), _, _, _, _⟩) (by with_unfolding_all rfl) 33 (.tmp 5) (.tmp 17) (by with_unfolding_all rfl) g5 0 (by with_unfolding_all rfl) (.agg #[.string fn, .int .i64 fa, .int .i64 fw]) (by with_unfolding_all rfl) B5 [Value.string fn, .int .i64 fa, .int .i64 fw] (by with_unfolding_all rfl) (by with_unfolding_all (first | exact Tryd.szF | (simp only [H_length, Pat.cells_length, List.length_append]; exact Tryd.szF))) (by with_unfolding_all (first | exact Nat.le_refl 3 | (simp only [H_length, Pat.cells_length, List.length_append]; omega))) (by with_unfolding_all (exact fields_one _ _ _)) ?_)
            intro w22 hu22 C5
            rw [splice_all _ _ (by rfl)] at C5
            have B3 := B3.upd hu22 ne3_5
            have hbe := hbe.trans (hu22.below (B := w.heap.size) hl5)
            clear B5 hu22
            have B5 := C5
            clear C5
            go_wp2
            have hdd := below_drew w22
            have B3 := B3.next hdd B3.lt
            have B5 := B5.next hdd B5.lt
            have hbe := below_join hbe hdd
            refine wp_region_held_drew (S := fun w' => w'.cell? ⟨g5, 0, none⟩ = some (Value.string fn)) (by kernel_rfl) (B5.cell (k := 0) rfl) (fun hHeld => ?_)
            clear hdd
            generalize w22.drew = w23 at B3 B5 hbe hHeld  ⊢
            refine wpAnyH_take (i := 0) (v := ?vqad0) rfl (by kernel_rfl) (by kernel_rfl) (by kernel_rfl) (fun _ _ _ h => h) (Or.inl ⟨by rfl, ?yqad0⟩) (by assumption) ?rqad0
            case yqad0 => intro w hSw; (try dsimp only at hSw); go_simp <;> (try with_reducible rfl)
            (try simp only [List.getElem_toArray, List.getElem_cons_zero, Act.put, List.setIfInBounds_toArray, List.set_cons_zero, List.set_cons_succ])
            refine wpAnyH_take (i := 1) (v := ?vqad1) rfl (by kernel_rfl) (by kernel_rfl) (by kernel_rfl) (fun _ _ _ h => h) (Or.inl ⟨by rfl, ?yqad1⟩) (by assumption) ?rqad1
            case yqad1 => intro w hSw; (try dsimp only at hSw); go_simp <;> (try with_reducible rfl)
            (try simp only [List.getElem_toArray, List.getElem_cons_succ, List.getElem_cons_zero, Act.put, List.setIfInBounds_toArray, List.set_cons_zero, List.set_cons_succ])
            refine wpAnyH_take (i := 2) (v := ?vqad2) rfl (by kernel_rfl) (by kernel_rfl) (by kernel_rfl) (fun _ _ _ h => h) (Or.inl ⟨by rfl, ?yqad2⟩) (by assumption) ?rqad2
            case yqad2 => intro w hSw; (try dsimp only at hSw); go_simp <;> (try with_reducible rfl)
            (try simp only [List.getElem_toArray, List.getElem_cons_succ, List.getElem_cons_zero, Act.put, List.setIfInBounds_toArray, List.set_cons_zero, List.set_cons_succ])
            refine wpAnyH_take (i := 3) (v := ?vqad3) rfl (by kernel_rfl) (by kernel_rfl) (by kernel_rfl) (fun _ _ _ h => h) (Or.inl ⟨by rfl, ?yqad3⟩) (by assumption) ?rqad3
            case yqad3 => intro w hSw; (try dsimp only at hSw); go_simp <;> (try with_reducible rfl)
            (try simp only [List.getElem_toArray, List.getElem_cons_succ, List.getElem_cons_zero, Act.put, List.setIfInBounds_toArray, List.set_cons_zero, List.set_cons_succ])
            refine wpAnyH_take (i := 4) (v := ?vqad4) rfl (by kernel_rfl) (by kernel_rfl) (by kernel_rfl) (fun _ _ _ h => h) (Or.inl ⟨by rfl, ?yqad4⟩) (by assumption) ?rqad4
            case yqad4 => intro w hSw; have hSc := hSw; go_simp <;> (try with_reducible rfl)
            (try simp only [List.getElem_toArray, List.getElem_cons_succ, List.getElem_cons_zero, Act.put, List.setIfInBounds_toArray, List.set_cons_zero, List.set_cons_succ])
            refine wpAnyH_ready (rs := [5, 9]) (by kernel_rfl) (by simp) ?_
            refine AllReadyH.cons rfl (fun K hK => ?_) (AllReadyH.cons rfl (fun K hK => ?_) AllReadyH.nil)
            · skip
              go_simp
              go_wp2_with fail
              (with_reducible refine (HFI.out _ hbe).mono ?_)
              rintro e w24 ⟨rfl, hb24⟩
              have B3 := B3.next hb24 B3.lt
              have B5 := B5.next hb24 B5.lt
              have hbe := below_join hbe hb24
              refine hK.out _ _ (B5.cell (k := 0) rfl) (fun hHeld => ?_)
              clear hK K hb24
              refine wpAnyH_take (i := 6) (v := ?vqae6) rfl (by kernel_rfl) (by kernel_rfl) (by kernel_rfl) (fun _ _ _ h => h) (Or.inl ⟨by rfl, ?yqae6⟩) (by assumption) ?rqae6
              case yqae6 => intro w hSw; (try dsimp only at hSw); go_simp <;> (try with_reducible rfl)
              (try simp only [List.getElem_toArray, List.getElem_cons_succ, List.getElem_cons_zero, Act.put, List.setIfInBounds_toArray, List.set_cons_zero, List.set_cons_succ])
              refine wpAnyH_take (i := 7) (v := ?vqae7) rfl (by kernel_rfl) (by kernel_rfl) (by kernel_rfl) (fun _ _ _ h => h) (Or.inl ⟨by rfl, ?yqae7⟩) (by assumption) ?rqae7
              case yqae7 => intro w hSw; (try dsimp only at hSw); go_simp <;> (try with_reducible rfl)
              (try simp only [List.getElem_toArray, List.getElem_cons_succ, List.getElem_cons_zero, Act.put, List.setIfInBounds_toArray, List.set_cons_zero, List.set_cons_succ])
              refine wpAnyH_take (i := 8) (v := ?vqae8) rfl (by kernel_rfl) (by kernel_rfl) (by kernel_rfl) (fun _ _ _ h => h) (Or.inl ⟨by rfl, ?yqae8⟩) (by assumption) ?rqae8
              case yqae8 => intro w hSw; (try dsimp only at hSw); go_simp <;> (try with_reducible rfl)
              (try simp only [List.getElem_toArray, List.getElem_cons_succ, List.getElem_cons_zero, Act.put, List.setIfInBounds_toArray, List.set_cons_zero, List.set_cons_succ])
              refine wpAnyH_ready (rs := [9]) (by kernel_rfl) (by simp) ?_
              refine AllReadyH.cons rfl (fun K hK => ?_) AllReadyH.nil
              rw [if_pos (by rfl)]
              refine wp_allocz 33 rfl (.agg #[.string ByteArray.empty, .int .i64 0, .int .i64 0]) [Value.string ByteArray.empty, .int .i64 0, .int .i64 0] Tryd.zeroF rfl ?_
              intro g6 w25 hg6 hs25 hb25 B6
              have hl6 : w.heap.size ≤ g6 := Nat.le_trans hbe.size (Nat.le_of_eq hg6.out.symm)
              have ne3_6 : g3 ≠ g6 := by have := B3.lt; have := hg6.out; omega
              have ne6_3 := ne3_6.symm
              have ne5_6 : g5 ≠ g6 := by have := B5.lt; have := hg6.out; omega
              have ne6_5 := ne5_6.symm
              have hb25 := hb25.mono (Nat.le_of_eq hg6.out.symm)
              have B3 := B3.next hb25 B3.lt
              have B5 := B5.next hb25 B5.lt
              have hbe := below_join hbe hb25
              clear hb25 hg6 hs25
              refine hK.out _ _ (B5.cell (k := 0) rfl) (fun hHeld => ?_)
              clear hK K
              refine wpAnyH_ready (rs := [10]) (by kernel_rfl) (by simp) ?_
              refine AllReadyH.cons rfl (fun K hK => ?_) AllReadyH.nil
              rw [if_pos (by rfl)]
              refine wp_put 33 (.tmp 6) (.tmp 25) rfl g6 0 rfl (.agg [Value.string ByteArray.empty, .int .i64 0, .int .i64 0].toArray) rfl B6 [Value.string ByteArray.empty, .int .i64 0, .int .i64 0] rfl (by first | exact Tryd.szF | (simp only [H_length, Pat.cells_length, List.length_append]; exact Tryd.szF)) (by first | exact Nat.le_refl 3 | (simp only [H_length, Pat.cells_length, List.length_append]; omega)) (fields_one _ _ _) ?_
              intro w26 hu26 C6
              rw [splice_all _ _ (by rfl)] at C6
              have B3 := B3.upd hu26 ne3_6
              have B5 := B5.upd hu26 ne5_6
              have hbe := hbe.trans (hu26.below (B := w.heap.size) hl6)
              clear B6 hu26
              have B6 := C6
              clear C6
              refine hK.out _ _ (B5.cell (k := 0) rfl) (fun hHeld => ?_)
              clear hK K
              refine wpAnyH_take (i := 11) (v := ?vqae11) rfl (by kernel_rfl) (by kernel_rfl) (by kernel_rfl) (fun _ _ _ h => h) (Or.inl ⟨by rfl, ?yqae11⟩) (by assumption) ?rqae11
              case yqae11 => intro w hSw; (try dsimp only at hSw); go_simp <;> (try with_reducible rfl)
              (try simp only [List.getElem_toArray, List.getElem_cons_succ, List.getElem_cons_zero, Act.put, List.setIfInBounds_toArray, List.set_cons_zero, List.set_cons_succ])
              refine wpAnyH_done (by kernel_rfl) ?_ _
              clear hHeld 
              have z5_0 := B5.cell (k := 0) rfl
              have z5_1 := B5.cell (k := 1) rfl
              have z5_2 := B5.cell (k := 2) rfl
              go_wp2_with fail
              (with_reducible refine (HNM.out _).mono ?_)
              rintro e w27 ⟨rfl, hb27⟩
              clear z5_0 z5_1 z5_2
              have B3 := B3.next hb27 B3.lt
              have B5 := B5.next hb27 B5.lt
              have B6 := B6.next hb27 B6.lt
              have hbe := below_join hbe hb27
              clear hb27
              go_wp2
              go_ret
              exact ⟨by rw [hce.out]; rfl, hbe⟩
            · skip
              rw [if_pos (by rfl)]
              refine wp_allocz 33 rfl (.agg #[.string ByteArray.empty, .int .i64 0, .int .i64 0]) [Value.string ByteArray.empty, .int .i64 0, .int .i64 0] Tryd.zeroF rfl ?_
              intro g6 w24 hg6 hs24 hb24 B6
              have hl6 : w.heap.size ≤ g6 := Nat.le_trans hbe.size (Nat.le_of_eq hg6.out.symm)
              have ne3_6 : g3 ≠ g6 := by have := B3.lt; have := hg6.out; omega
              have ne6_3 := ne3_6.symm
              have ne5_6 : g5 ≠ g6 := by have := B5.lt; have := hg6.out; omega
              have ne6_5 := ne5_6.symm
              have hb24 := hb24.mono (Nat.le_of_eq hg6.out.symm)
              have B3 := B3.next hb24 B3.lt
              have B5 := B5.next hb24 B5.lt
              have hbe := below_join hbe hb24
              clear hb24 hg6 hs24
              refine hK.out _ _ (B5.cell (k := 0) rfl) (fun hHeld => ?_)
              clear hK K
              refine wpAnyH_ready (rs := [5]) (by kernel_rfl) (by simp) ?_
              refine AllReadyH.cons rfl (fun K hK => ?_) AllReadyH.nil
              go_simp
              go_wp2_with fail
              (with_reducible refine (HFI.out _ hbe).mono ?_)
              rintro e w25 ⟨rfl, hb25⟩
              have B3 := B3.next hb25 B3.lt
              have B5 := B5.next hb25 B5.lt
              have B6 := B6.next hb25 B6.lt
              have hbe := below_join hbe hb25
              refine hK.out _ _ (B5.cell (k := 0) rfl) (fun hHeld => ?_)
              clear hK K hb25
              refine wpAnyH_take (i := 6) (v := ?vqaf6) rfl (by kernel_rfl) (by kernel_rfl) (by kernel_rfl) (fun _ _ _ h => h) (Or.inl ⟨by rfl, ?yqaf6⟩) (by assumption) ?rqaf6
              case yqaf6 => intro w hSw; (try dsimp only at hSw); go_simp <;> (try with_reducible rfl)
              (try simp only [List.getElem_toArray, List.getElem_cons_succ, List.getElem_cons_zero, Act.put, List.setIfInBounds_toArray, List.set_cons_zero, List.set_cons_succ])
              refine wpAnyH_take (i := 7) (v := ?vqaf7) rfl (by kernel_rfl) (by kernel_rfl) (by kernel_rfl) (fun _ _ _ h => h) (Or.inl ⟨by rfl, ?yqaf7⟩) (by assumption) ?rqaf7
              case yqaf7 => intro w hSw; (try dsimp only at hSw); go_simp <;> (try with_reducible rfl)
              (try simp only [List.getElem_toArray, List.getElem_cons_succ, List.getElem_cons_zero, Act.put, List.setIfInBounds_toArray, List.set_cons_zero, List.set_cons_succ])
              refine wpAnyH_take (i := 8) (v := ?vqaf8) rfl (by kernel_rfl) (by kernel_rfl) (by kernel_rfl) (fun _ _ _ h => h) (Or.inl ⟨by rfl, ?yqaf8⟩) (by assumption) ?rqaf8
              case yqaf8 => intro w hSw; (try dsimp only at hSw); go_simp <;> (try with_reducible rfl)
              (try simp only [List.getElem_toArray, List.getElem_cons_succ, List.getElem_cons_zero, Act.put, List.setIfInBounds_toArray, List.set_cons_zero, List.set_cons_succ])
              refine wpAnyH_ready (rs := [10]) (by kernel_rfl) (by simp) ?_
              refine AllReadyH.cons rfl (fun K hK => ?_) AllReadyH.nil
              rw [if_pos (by rfl)]
              refine wp_put 33 (.tmp 6) (.tmp 25) rfl g6 0 rfl (.agg [Value.string ByteArray.empty, .int .i64 0, .int .i64 0].toArray) rfl B6 [Value.string ByteArray.empty, .int .i64 0, .int .i64 0] rfl (by first | exact Tryd.szF | (simp only [H_length, Pat.cells_length, List.length_append]; exact Tryd.szF)) (by first | exact Nat.le_refl 3 | (simp only [H_length, Pat.cells_length, List.length_append]; omega)) (fields_one _ _ _) ?_
              intro w26 hu26 C6
              rw [splice_all _ _ (by rfl)] at C6
              have B3 := B3.upd hu26 ne3_6
              have B5 := B5.upd hu26 ne5_6
              have hbe := hbe.trans (hu26.below (B := w.heap.size) hl6)
              clear B6 hu26
              have B6 := C6
              clear C6
              refine hK.out _ _ (B5.cell (k := 0) rfl) (fun hHeld => ?_)
              clear hK K
              refine wpAnyH_take (i := 11) (v := ?vqaf11) rfl (by kernel_rfl) (by kernel_rfl) (by kernel_rfl) (fun _ _ _ h => h) (Or.inl ⟨by rfl, ?yqaf11⟩) (by assumption) ?rqaf11
              case yqaf11 => intro w hSw; (try dsimp only at hSw); go_simp <;> (try with_reducible rfl)
              (try simp only [List.getElem_toArray, List.getElem_cons_succ, List.getElem_cons_zero, Act.put, List.setIfInBounds_toArray, List.set_cons_zero, List.set_cons_succ])
              refine wpAnyH_done (by kernel_rfl) ?_ _
              clear hHeld 
              have z5_0 := B5.cell (k := 0) rfl
              have z5_1 := B5.cell (k := 1) rfl
              have z5_2 := B5.cell (k := 2) rfl
              go_wp2_with fail
              (with_reducible refine (HNM.out _).mono ?_)
              rintro e w27 ⟨rfl, hb27⟩
              clear z5_0 z5_1 z5_2
              have B3 := B3.next hb27 B3.lt
              have B5 := B5.next hb27 B5.lt
              have B6 := B6.next hb27 B6.lt
              have hbe := below_join hbe hb27
              clear hb27
              go_wp2
              go_ret
              exact ⟨by rw [hce.out]; rfl, hbe⟩
          | true =>
            rw [hnb] at HNM
            have HNB := Lib.hid hnb
            clear hnb
            have HLI := Lib.hid (fun w => lies_any fn fa fw w)
            cases hpb : placeB fa fw with
            | false =>
              have hce : Hid (CH = 1) := by
                have : CH = 1 := by rw [HST.out, err_place (f := ⟨fn, fa, fw⟩) HFM.out HNB.out hpb]; rfl
                exact this
              rcases place_not hpb with hli | ⟨hli, h16⟩ | ⟨hli, h16, h144⟩
              · rw [hli] at HLI
                clear hli hpb
                have hl3 : g3 < wr.heap.size := B3.lt
                go_wp2_with (with_reducible refine wpList_alloc (o := ⟨some 5, .alloc 33, _, _, _, _⟩) (by with_unfolding_all rfl) 33 (by with_unfolding_all rfl) (.agg #[.string ByteArray.empty, .int .i64 0, .int .i64 0]) [Value.string ByteArray.empty, .int .i64 0, .int .i64 0] (by exact Tryd.zeroF) (by with_unfolding_all rfl) ?_)
                intro g5 w21 hg5 hs21 hb21 B5
                have hl5 : w.heap.size ≤ g5 := Nat.le_trans hbe.size (Nat.le_of_eq hg5.out.symm)
                have ne3_5 : g3 ≠ g5 := by have := B3.lt; have := hg5.out; omega
                have ne5_3 := ne3_5.symm
                have hb21 := hb21.mono (Nat.le_of_eq hg5.out.symm)
                have B3 := B3.next hb21 B3.lt
                have hbe := below_join hbe hb21
                clear hb21 hg5 hs21
                clear c0 c1 c2 hl3
                go_wp2_with (with_reducible refine wpList_put (o := ⟨none, .store 33 (.tmp 5) (.tmp 17), _, _, _, _⟩) (by with_unfolding_all rfl) 33 (.tmp 5) (.tmp 17) (by with_unfolding_all rfl) g5 0 (by with_unfolding_all rfl) (.agg #[.string fn, .int .i64 fa, .int .i64 fw]) (by with_unfolding_all rfl) B5 [Value.string fn, .int .i64 fa, .int .i64 fw] (by with_unfolding_all rfl) (by with_unfolding_all (first | exact Tryd.szF | (simp only [H_length, Pat.cells_length, List.length_append]; exact Tryd.szF))) (by with_unfolding_all (first | exact Nat.le_refl 3 | (simp only [H_length, Pat.cells_length, List.length_append]; omega))) (by with_unfolding_all (exact fields_one _ _ _)) ?_)
                intro w22 hu22 C5
                rw [splice_all _ _ (by rfl)] at C5
                have B3 := B3.upd hu22 ne3_5
                have hbe := hbe.trans (hu22.below (B := w.heap.size) hl5)
                clear B5 hu22
                have B5 := C5
                clear C5
                go_wp2
                have hdd := below_drew w22
                have B3 := B3.next hdd B3.lt
                have B5 := B5.next hdd B5.lt
                have hbe := below_join hbe hdd
                refine wp_region_held_drew (S := fun w' => w'.cell? ⟨g5, 0, none⟩ = some (Value.string fn)) (by kernel_rfl) (B5.cell (k := 0) rfl) (fun hHeld => ?_)
                clear hdd
                generalize w22.drew = w23 at B3 B5 hbe hHeld  ⊢
                refine wpAnyH_take (i := 0) (v := ?vqag0) rfl (by kernel_rfl) (by kernel_rfl) (by kernel_rfl) (fun _ _ _ h => h) (Or.inl ⟨by rfl, ?yqag0⟩) (by assumption) ?rqag0
                case yqag0 => intro w hSw; (try dsimp only at hSw); go_simp <;> (try with_reducible rfl)
                (try simp only [List.getElem_toArray, List.getElem_cons_zero, Act.put, List.setIfInBounds_toArray, List.set_cons_zero, List.set_cons_succ])
                refine wpAnyH_take (i := 1) (v := ?vqag1) rfl (by kernel_rfl) (by kernel_rfl) (by kernel_rfl) (fun _ _ _ h => h) (Or.inl ⟨by rfl, ?yqag1⟩) (by assumption) ?rqag1
                case yqag1 => intro w hSw; (try dsimp only at hSw); go_simp <;> (try with_reducible rfl)
                (try simp only [List.getElem_toArray, List.getElem_cons_succ, List.getElem_cons_zero, Act.put, List.setIfInBounds_toArray, List.set_cons_zero, List.set_cons_succ])
                refine wpAnyH_take (i := 2) (v := ?vqag2) rfl (by kernel_rfl) (by kernel_rfl) (by kernel_rfl) (fun _ _ _ h => h) (Or.inl ⟨by rfl, ?yqag2⟩) (by assumption) ?rqag2
                case yqag2 => intro w hSw; (try dsimp only at hSw); go_simp <;> (try with_reducible rfl)
                (try simp only [List.getElem_toArray, List.getElem_cons_succ, List.getElem_cons_zero, Act.put, List.setIfInBounds_toArray, List.set_cons_zero, List.set_cons_succ])
                refine wpAnyH_take (i := 3) (v := ?vqag3) rfl (by kernel_rfl) (by kernel_rfl) (by kernel_rfl) (fun _ _ _ h => h) (Or.inl ⟨by rfl, ?yqag3⟩) (by assumption) ?rqag3
                case yqag3 => intro w hSw; (try dsimp only at hSw); go_simp <;> (try with_reducible rfl)
                (try simp only [List.getElem_toArray, List.getElem_cons_succ, List.getElem_cons_zero, Act.put, List.setIfInBounds_toArray, List.set_cons_zero, List.set_cons_succ])
                refine wpAnyH_take (i := 4) (v := ?vqag4) rfl (by kernel_rfl) (by kernel_rfl) (by kernel_rfl) (fun _ _ _ h => h) (Or.inl ⟨by rfl, ?yqag4⟩) (by assumption) ?rqag4
                case yqag4 => intro w hSw; have hSc := hSw; go_simp <;> (try with_reducible rfl)
                (try simp only [List.getElem_toArray, List.getElem_cons_succ, List.getElem_cons_zero, Act.put, List.setIfInBounds_toArray, List.set_cons_zero, List.set_cons_succ])
                refine wpAnyH_ready (rs := [5, 9]) (by kernel_rfl) (by simp) ?_
                refine AllReadyH.cons rfl (fun K hK => ?_) (AllReadyH.cons rfl (fun K hK => ?_) AllReadyH.nil)
                · skip
                  go_simp
                  go_wp2_with fail
                  (with_reducible refine (HFI.out _ hbe).mono ?_)
                  rintro e w24 ⟨rfl, hb24⟩
                  have B3 := B3.next hb24 B3.lt
                  have B5 := B5.next hb24 B5.lt
                  have hbe := below_join hbe hb24
                  refine hK.out _ _ (B5.cell (k := 0) rfl) (fun hHeld => ?_)
                  clear hK K hb24
                  refine wpAnyH_take (i := 6) (v := ?vqah6) rfl (by kernel_rfl) (by kernel_rfl) (by kernel_rfl) (fun _ _ _ h => h) (Or.inl ⟨by rfl, ?yqah6⟩) (by assumption) ?rqah6
                  case yqah6 => intro w hSw; (try dsimp only at hSw); go_simp <;> (try with_reducible rfl)
                  (try simp only [List.getElem_toArray, List.getElem_cons_succ, List.getElem_cons_zero, Act.put, List.setIfInBounds_toArray, List.set_cons_zero, List.set_cons_succ])
                  refine wpAnyH_take (i := 7) (v := ?vqah7) rfl (by kernel_rfl) (by kernel_rfl) (by kernel_rfl) (fun _ _ _ h => h) (Or.inl ⟨by rfl, ?yqah7⟩) (by assumption) ?rqah7
                  case yqah7 => intro w hSw; (try dsimp only at hSw); go_simp <;> (try with_reducible rfl)
                  (try simp only [List.getElem_toArray, List.getElem_cons_succ, List.getElem_cons_zero, Act.put, List.setIfInBounds_toArray, List.set_cons_zero, List.set_cons_succ])
                  refine wpAnyH_take (i := 8) (v := ?vqah8) rfl (by kernel_rfl) (by kernel_rfl) (by kernel_rfl) (fun _ _ _ h => h) (Or.inl ⟨by rfl, ?yqah8⟩) (by assumption) ?rqah8
                  case yqah8 => intro w hSw; (try dsimp only at hSw); go_simp <;> (try with_reducible rfl)
                  (try simp only [List.getElem_toArray, List.getElem_cons_succ, List.getElem_cons_zero, Act.put, List.setIfInBounds_toArray, List.set_cons_zero, List.set_cons_succ])
                  refine wpAnyH_ready (rs := [9]) (by kernel_rfl) (by simp) ?_
                  refine AllReadyH.cons rfl (fun K hK => ?_) AllReadyH.nil
                  rw [if_pos (by rfl)]
                  refine wp_allocz 33 rfl (.agg #[.string ByteArray.empty, .int .i64 0, .int .i64 0]) [Value.string ByteArray.empty, .int .i64 0, .int .i64 0] Tryd.zeroF rfl ?_
                  intro g6 w25 hg6 hs25 hb25 B6
                  have hl6 : w.heap.size ≤ g6 := Nat.le_trans hbe.size (Nat.le_of_eq hg6.out.symm)
                  have ne3_6 : g3 ≠ g6 := by have := B3.lt; have := hg6.out; omega
                  have ne6_3 := ne3_6.symm
                  have ne5_6 : g5 ≠ g6 := by have := B5.lt; have := hg6.out; omega
                  have ne6_5 := ne5_6.symm
                  have hb25 := hb25.mono (Nat.le_of_eq hg6.out.symm)
                  have B3 := B3.next hb25 B3.lt
                  have B5 := B5.next hb25 B5.lt
                  have hbe := below_join hbe hb25
                  clear hb25 hg6 hs25
                  refine hK.out _ _ (B5.cell (k := 0) rfl) (fun hHeld => ?_)
                  clear hK K
                  refine wpAnyH_ready (rs := [10]) (by kernel_rfl) (by simp) ?_
                  refine AllReadyH.cons rfl (fun K hK => ?_) AllReadyH.nil
                  rw [if_pos (by rfl)]
                  refine wp_put 33 (.tmp 6) (.tmp 25) rfl g6 0 rfl (.agg [Value.string ByteArray.empty, .int .i64 0, .int .i64 0].toArray) rfl B6 [Value.string ByteArray.empty, .int .i64 0, .int .i64 0] rfl (by first | exact Tryd.szF | (simp only [H_length, Pat.cells_length, List.length_append]; exact Tryd.szF)) (by first | exact Nat.le_refl 3 | (simp only [H_length, Pat.cells_length, List.length_append]; omega)) (fields_one _ _ _) ?_
                  intro w26 hu26 C6
                  rw [splice_all _ _ (by rfl)] at C6
                  have B3 := B3.upd hu26 ne3_6
                  have B5 := B5.upd hu26 ne5_6
                  have hbe := hbe.trans (hu26.below (B := w.heap.size) hl6)
                  clear B6 hu26
                  have B6 := C6
                  clear C6
                  refine hK.out _ _ (B5.cell (k := 0) rfl) (fun hHeld => ?_)
                  clear hK K
                  refine wpAnyH_take (i := 11) (v := ?vqah11) rfl (by kernel_rfl) (by kernel_rfl) (by kernel_rfl) (fun _ _ _ h => h) (Or.inl ⟨by rfl, ?yqah11⟩) (by assumption) ?rqah11
                  case yqah11 => intro w hSw; (try dsimp only at hSw); go_simp <;> (try with_reducible rfl)
                  (try simp only [List.getElem_toArray, List.getElem_cons_succ, List.getElem_cons_zero, Act.put, List.setIfInBounds_toArray, List.set_cons_zero, List.set_cons_succ])
                  refine wpAnyH_done (by kernel_rfl) ?_ _
                  clear hHeld 
                  have z5_0 := B5.cell (k := 0) rfl
                  have z5_1 := B5.cell (k := 1) rfl
                  have z5_2 := B5.cell (k := 2) rfl
                  go_wp2_with fail
                  (with_reducible refine (HNM.out _).mono ?_)
                  rintro e w27 ⟨rfl, hb27⟩
                  clear z5_0 z5_1 z5_2
                  have B3 := B3.next hb27 B3.lt
                  have B5 := B5.next hb27 B5.lt
                  have B6 := B6.next hb27 B6.lt
                  have hbe := below_join hbe hb27
                  clear hb27
                  go_wp2
                  have hdd := below_drew w27
                  have B3 := B3.next hdd B3.lt
                  have B5 := B5.next hdd B5.lt
                  have B6 := B6.next hdd B6.lt
                  have hbe := below_join hbe hdd
                  have zz5_1 : (Tryd.prog.info? 33).map (·.size) = some [Value.string fn, .int .i64 fa, .int .i64 fw].length := (by first | exact Tryd.szF | (simp only [H_length, Pat.cells_length, List.length_append]; exact Tryd.szF))
                  refine wp_region_held_drew (S := fun w' => w'.rangeAt g5 0 [Value.string fn, .int .i64 fa, .int .i64 fw]) (by kernel_rfl) (blk_range B5) (fun hHeld => ?_)
                  clear hdd
                  generalize w27.drew = w28 at B3 B5 B6 hbe hHeld  ⊢
                  refine' wpAnyH_take (i := 0) (v := _) rfl (by kernel_rfl) (by kernel_rfl) (by kernel_rfl) (fun _ _ _ h => h) (yieldsIf_load_mid (by rfl) _ _ (by rfl) _ _ (by rfl) _ _ ?Sqai0 ?uqai0 ?dqai0 ?iqai0) (by assumption) ?rqai0
                  case Sqai0 => exact (by intro w h; exact h)
                  case uqai0 => exact Tryd.underlying33
                  case dqai0 => rfl
                  case iqai0 => exact zz5_1
                  (try simp only [List.getElem_toArray, List.getElem_cons_zero, Act.put, List.setIfInBounds_toArray, List.set_cons_zero, List.set_cons_succ])
                  refine wpAnyH_ready (rs := [1]) (by kernel_rfl) (by simp) ?_
                  refine AllReadyH.cons rfl (fun K hK => ?_) AllReadyH.nil
                  go_simp
                  go_wp2_with fail
                  (with_reducible refine (HLI.out _).mono ?_)
                  rintro e w29 ⟨rfl, hb29⟩
                  have B3 := B3.next hb29 B3.lt
                  have B5 := B5.next hb29 B5.lt
                  have B6 := B6.next hb29 B6.lt
                  have hbe := below_join hbe hb29
                  refine hK.out _ _ (blk_range B5) (fun hHeld => ?_)
                  clear hK K hb29
                  refine wpAnyH_take (i := 2) (v := ?vqai2) rfl (by kernel_rfl) (by kernel_rfl) (by kernel_rfl) (fun _ _ _ h => h) (Or.inl ⟨by rfl, ?yqai2⟩) (by assumption) ?rqai2
                  case yqai2 => intro w hSw; (try dsimp only at hSw); go_simp <;> (try with_reducible rfl)
                  (try simp only [List.getElem_toArray, List.getElem_cons_succ, List.getElem_cons_zero, Act.put, List.setIfInBounds_toArray, List.set_cons_zero, List.set_cons_succ])
                  refine wpAnyH_take (i := 3) (v := ?vqai3) rfl (by kernel_rfl) (by kernel_rfl) (by kernel_rfl) (fun _ _ _ h => h) (Or.inl ⟨by rfl, ?yqai3⟩) (by assumption) ?rqai3
                  case yqai3 => intro w hSw; (try dsimp only at hSw); go_simp <;> (try with_reducible rfl)
                  (try simp only [List.getElem_toArray, List.getElem_cons_succ, List.getElem_cons_zero, Act.put, List.setIfInBounds_toArray, List.set_cons_zero, List.set_cons_succ])
                  refine wpAnyH_take (i := 4) (v := undef) rfl (by kernel_rfl) (by kernel_rfl) (by kernel_rfl) (fun _ _ _ h => h) (Or.inr ⟨by rfl, rfl⟩) (by assumption) ?rqai4
                  (try simp only [List.getElem_toArray, List.getElem_cons_succ, List.getElem_cons_zero, Act.put, List.setIfInBounds_toArray, List.set_cons_zero, List.set_cons_succ])
                  refine wpAnyH_take (i := 5) (v := undef) rfl (by kernel_rfl) (by kernel_rfl) (by kernel_rfl) (fun _ _ _ h => h) (Or.inr ⟨by rfl, rfl⟩) (by assumption) ?rqai5
                  (try simp only [List.getElem_toArray, List.getElem_cons_succ, List.getElem_cons_zero, Act.put, List.setIfInBounds_toArray, List.set_cons_zero, List.set_cons_succ])
                  refine wpAnyH_take (i := 6) (v := undef) rfl (by kernel_rfl) (by kernel_rfl) (by kernel_rfl) (fun _ _ _ h => h) (Or.inr ⟨by rfl, rfl⟩) (by assumption) ?rqai6
                  (try simp only [List.getElem_toArray, List.getElem_cons_succ, List.getElem_cons_zero, Act.put, List.setIfInBounds_toArray, List.set_cons_zero, List.set_cons_succ])
                  refine wpAnyH_take (i := 7) (v := ?vqai7) rfl (by kernel_rfl) (by kernel_rfl) (by kernel_rfl) (fun _ _ _ h => h) (Or.inl ⟨by rfl, ?yqai7⟩) (by assumption) ?rqai7
                  case yqai7 => intro w hSw; (try dsimp only at hSw); go_simp <;> (try with_reducible rfl)
                  (try simp only [List.getElem_toArray, List.getElem_cons_succ, List.getElem_cons_zero, Act.put, List.setIfInBounds_toArray, List.set_cons_zero, List.set_cons_succ])
                  refine wpAnyH_take (i := 8) (v := ?vqai8) rfl (by kernel_rfl) (by kernel_rfl) (by kernel_rfl) (fun _ _ _ h => h) (Or.inl ⟨by rfl, ?yqai8⟩) (by assumption) ?rqai8
                  case yqai8 => intro w hSw; (try dsimp only at hSw); go_simp <;> (try with_reducible rfl)
                  (try simp only [List.getElem_toArray, List.getElem_cons_succ, List.getElem_cons_zero, Act.put, List.setIfInBounds_toArray, List.set_cons_zero, List.set_cons_succ])
                  refine wpAnyH_take (i := 9) (v := undef) rfl (by kernel_rfl) (by kernel_rfl) (by kernel_rfl) (fun _ _ _ h => h) (Or.inr ⟨by rfl, rfl⟩) (by assumption) ?rqai9
                  (try simp only [List.getElem_toArray, List.getElem_cons_succ, List.getElem_cons_zero, Act.put, List.setIfInBounds_toArray, List.set_cons_zero, List.set_cons_succ])
                  refine wpAnyH_take (i := 10) (v := undef) rfl (by kernel_rfl) (by kernel_rfl) (by kernel_rfl) (fun _ _ _ h => h) (Or.inr ⟨by rfl, rfl⟩) (by assumption) ?rqai10
                  (try simp only [List.getElem_toArray, List.getElem_cons_succ, List.getElem_cons_zero, Act.put, List.setIfInBounds_toArray, List.set_cons_zero, List.set_cons_succ])
                  refine wpAnyH_take (i := 11) (v := undef) rfl (by kernel_rfl) (by kernel_rfl) (by kernel_rfl) (fun _ _ _ h => h) (Or.inr ⟨by rfl, rfl⟩) (by assumption) ?rqai11
                  (try simp only [List.getElem_toArray, List.getElem_cons_succ, List.getElem_cons_zero, Act.put, List.setIfInBounds_toArray, List.set_cons_zero, List.set_cons_succ])
                  refine wpAnyH_take (i := 12) (v := ?vqai12) rfl (by kernel_rfl) (by kernel_rfl) (by kernel_rfl) (fun _ _ _ h => h) (Or.inl ⟨by rfl, ?yqai12⟩) (by assumption) ?rqai12
                  case yqai12 => intro w hSw; (try dsimp only at hSw); go_simp <;> (try with_reducible rfl)
                  (try simp only [List.getElem_toArray, List.getElem_cons_succ, List.getElem_cons_zero, Act.put, List.setIfInBounds_toArray, List.set_cons_zero, List.set_cons_succ])
                  refine wpAnyH_take (i := 13) (v := ?vqai13) rfl (by kernel_rfl) (by kernel_rfl) (by kernel_rfl) (fun _ _ _ h => h) (Or.inl ⟨by rfl, ?yqai13⟩) (by assumption) ?rqai13
                  case yqai13 => intro w hSw; (try dsimp only at hSw); go_simp <;> (try with_reducible rfl)
                  (try simp only [List.getElem_toArray, List.getElem_cons_succ, List.getElem_cons_zero, Act.put, List.setIfInBounds_toArray, List.set_cons_zero, List.set_cons_succ])
                  refine wpAnyH_take (i := 14) (v := undef) rfl (by kernel_rfl) (by kernel_rfl) (by kernel_rfl) (fun _ _ _ h => h) (Or.inr ⟨by rfl, rfl⟩) (by assumption) ?rqai14
                  (try simp only [List.getElem_toArray, List.getElem_cons_succ, List.getElem_cons_zero, Act.put, List.setIfInBounds_toArray, List.set_cons_zero, List.set_cons_succ])
                  refine wpAnyH_take (i := 15) (v := undef) rfl (by kernel_rfl) (by kernel_rfl) (by kernel_rfl) (fun _ _ _ h => h) (Or.inr ⟨by rfl, rfl⟩) (by assumption) ?rqai15
                  (try simp only [List.getElem_toArray, List.getElem_cons_succ, List.getElem_cons_zero, Act.put, List.setIfInBounds_toArray, List.set_cons_zero, List.set_cons_succ])
                  refine wpAnyH_take (i := 16) (v := undef) rfl (by kernel_rfl) (by kernel_rfl) (by kernel_rfl) (fun _ _ _ h => h) (Or.inr ⟨by rfl, rfl⟩) (by assumption) ?rqai16
                  (try simp only [List.getElem_toArray, List.getElem_cons_succ, List.getElem_cons_zero, Act.put, List.setIfInBounds_toArray, List.set_cons_zero, List.set_cons_succ])
                  refine wpAnyH_take (i := 17) (v := undef) rfl (by kernel_rfl) (by kernel_rfl) (by kernel_rfl) (fun _ _ _ h => h) (Or.inr ⟨by rfl, rfl⟩) (by assumption) ?rqai17
                  (try simp only [List.getElem_toArray, List.getElem_cons_succ, List.getElem_cons_zero, Act.put, List.setIfInBounds_toArray, List.set_cons_zero, List.set_cons_succ])
                  refine wpAnyH_take (i := 18) (v := undef) rfl (by kernel_rfl) (by kernel_rfl) (by kernel_rfl) (fun _ _ _ h => h) (Or.inr ⟨by rfl, rfl⟩) (by assumption) ?rqai18
                  (try simp only [List.getElem_toArray, List.getElem_cons_succ, List.getElem_cons_zero, Act.put, List.setIfInBounds_toArray, List.set_cons_zero, List.set_cons_succ])
                  refine wpAnyH_take (i := 19) (v := ?vqai19) rfl (by kernel_rfl) (by kernel_rfl) (by kernel_rfl) (fun _ _ _ h => h) (Or.inl ⟨by rfl, ?yqai19⟩) (by assumption) ?rqai19
                  case yqai19 => intro w hSw; (try dsimp only at hSw); go_simp <;> (try with_reducible rfl)
                  (try simp only [List.getElem_toArray, List.getElem_cons_succ, List.getElem_cons_zero, Act.put, List.setIfInBounds_toArray, List.set_cons_zero, List.set_cons_succ])
                  refine wpAnyH_done (by kernel_rfl) ?_ _
                  clear hHeld zz5_1
                  go_wp2
                  go_ret
                  exact ⟨by rw [hce.out]; rfl, hbe⟩
                · skip
                  rw [if_pos (by rfl)]
                  refine wp_allocz 33 rfl (.agg #[.string ByteArray.empty, .int .i64 0, .int .i64 0]) [Value.string ByteArray.empty, .int .i64 0, .int .i64 0] Tryd.zeroF rfl ?_
                  intro g6 w24 hg6 hs24 hb24 B6
                  have hl6 : w.heap.size ≤ g6 := Nat.le_trans hbe.size (Nat.le_of_eq hg6.out.symm)
                  have ne3_6 : g3 ≠ g6 := by have := B3.lt; have := hg6.out; omega
                  have ne6_3 := ne3_6.symm
                  have ne5_6 : g5 ≠ g6 := by have := B5.lt; have := hg6.out; omega
                  have ne6_5 := ne5_6.symm
                  have hb24 := hb24.mono (Nat.le_of_eq hg6.out.symm)
                  have B3 := B3.next hb24 B3.lt
                  have B5 := B5.next hb24 B5.lt
                  have hbe := below_join hbe hb24
                  clear hb24 hg6 hs24
                  refine hK.out _ _ (B5.cell (k := 0) rfl) (fun hHeld => ?_)
                  clear hK K
                  refine wpAnyH_ready (rs := [5]) (by kernel_rfl) (by simp) ?_
                  refine AllReadyH.cons rfl (fun K hK => ?_) AllReadyH.nil
                  go_simp
                  go_wp2_with fail
                  (with_reducible refine (HFI.out _ hbe).mono ?_)
                  rintro e w25 ⟨rfl, hb25⟩
                  have B3 := B3.next hb25 B3.lt
                  have B5 := B5.next hb25 B5.lt
                  have B6 := B6.next hb25 B6.lt
                  have hbe := below_join hbe hb25
                  refine hK.out _ _ (B5.cell (k := 0) rfl) (fun hHeld => ?_)
                  clear hK K hb25
                  refine wpAnyH_take (i := 6) (v := ?vqaj6) rfl (by kernel_rfl) (by kernel_rfl) (by kernel_rfl) (fun _ _ _ h => h) (Or.inl ⟨by rfl, ?yqaj6⟩) (by assumption) ?rqaj6
                  case yqaj6 => intro w hSw; (try dsimp only at hSw); go_simp <;> (try with_reducible rfl)
                  (try simp only [List.getElem_toArray, List.getElem_cons_succ, List.getElem_cons_zero, Act.put, List.setIfInBounds_toArray, List.set_cons_zero, List.set_cons_succ])
                  refine wpAnyH_take (i := 7) (v := ?vqaj7) rfl (by kernel_rfl) (by kernel_rfl) (by kernel_rfl) (fun _ _ _ h => h) (Or.inl ⟨by rfl, ?yqaj7⟩) (by assumption) ?rqaj7
                  case yqaj7 => intro w hSw; (try dsimp only at hSw); go_simp <;> (try with_reducible rfl)
                  (try simp only [List.getElem_toArray, List.getElem_cons_succ, List.getElem_cons_zero, Act.put, List.setIfInBounds_toArray, List.set_cons_zero, List.set_cons_succ])
                  refine wpAnyH_take (i := 8) (v := ?vqaj8) rfl (by kernel_rfl) (by kernel_rfl) (by kernel_rfl) (fun _ _ _ h => h) (Or.inl ⟨by rfl, ?yqaj8⟩) (by assumption) ?rqaj8
                  case yqaj8 => intro w hSw; (try dsimp only at hSw); go_simp <;> (try with_reducible rfl)
                  (try simp only [List.getElem_toArray, List.getElem_cons_succ, List.getElem_cons_zero, Act.put, List.setIfInBounds_toArray, List.set_cons_zero, List.set_cons_succ])
                  refine wpAnyH_ready (rs := [10]) (by kernel_rfl) (by simp) ?_
                  refine AllReadyH.cons rfl (fun K hK => ?_) AllReadyH.nil
                  rw [if_pos (by rfl)]
                  refine wp_put 33 (.tmp 6) (.tmp 25) rfl g6 0 rfl (.agg [Value.string ByteArray.empty, .int .i64 0, .int .i64 0].toArray) rfl B6 [Value.string ByteArray.empty, .int .i64 0, .int .i64 0] rfl (by first | exact Tryd.szF | (simp only [H_length, Pat.cells_length, List.length_append]; exact Tryd.szF)) (by first | exact Nat.le_refl 3 | (simp only [H_length, Pat.cells_length, List.length_append]; omega)) (fields_one _ _ _) ?_
                  intro w26 hu26 C6
                  rw [splice_all _ _ (by rfl)] at C6
                  have B3 := B3.upd hu26 ne3_6
                  have B5 := B5.upd hu26 ne5_6
                  have hbe := hbe.trans (hu26.below (B := w.heap.size) hl6)
                  clear B6 hu26
                  have B6 := C6
                  clear C6
                  refine hK.out _ _ (B5.cell (k := 0) rfl) (fun hHeld => ?_)
                  clear hK K
                  refine wpAnyH_take (i := 11) (v := ?vqaj11) rfl (by kernel_rfl) (by kernel_rfl) (by kernel_rfl) (fun _ _ _ h => h) (Or.inl ⟨by rfl, ?yqaj11⟩) (by assumption) ?rqaj11
                  case yqaj11 => intro w hSw; (try dsimp only at hSw); go_simp <;> (try with_reducible rfl)
                  (try simp only [List.getElem_toArray, List.getElem_cons_succ, List.getElem_cons_zero, Act.put, List.setIfInBounds_toArray, List.set_cons_zero, List.set_cons_succ])
                  refine wpAnyH_done (by kernel_rfl) ?_ _
                  clear hHeld 
                  have z5_0 := B5.cell (k := 0) rfl
                  have z5_1 := B5.cell (k := 1) rfl
                  have z5_2 := B5.cell (k := 2) rfl
                  go_wp2_with fail
                  (with_reducible refine (HNM.out _).mono ?_)
                  rintro e w27 ⟨rfl, hb27⟩
                  clear z5_0 z5_1 z5_2
                  have B3 := B3.next hb27 B3.lt
                  have B5 := B5.next hb27 B5.lt
                  have B6 := B6.next hb27 B6.lt
                  have hbe := below_join hbe hb27
                  clear hb27
                  go_wp2
                  have hdd := below_drew w27
                  have B3 := B3.next hdd B3.lt
                  have B5 := B5.next hdd B5.lt
                  have B6 := B6.next hdd B6.lt
                  have hbe := below_join hbe hdd
                  have zz5_1 : (Tryd.prog.info? 33).map (·.size) = some [Value.string fn, .int .i64 fa, .int .i64 fw].length := (by first | exact Tryd.szF | (simp only [H_length, Pat.cells_length, List.length_append]; exact Tryd.szF))
                  refine wp_region_held_drew (S := fun w' => w'.rangeAt g5 0 [Value.string fn, .int .i64 fa, .int .i64 fw]) (by kernel_rfl) (blk_range B5) (fun hHeld => ?_)
                  clear hdd
                  generalize w27.drew = w28 at B3 B5 B6 hbe hHeld  ⊢
                  refine' wpAnyH_take (i := 0) (v := _) rfl (by kernel_rfl) (by kernel_rfl) (by kernel_rfl) (fun _ _ _ h => h) (yieldsIf_load_mid (by rfl) _ _ (by rfl) _ _ (by rfl) _ _ ?Sqak0 ?uqak0 ?dqak0 ?iqak0) (by assumption) ?rqak0
                  case Sqak0 => exact (by intro w h; exact h)
                  case uqak0 => exact Tryd.underlying33
                  case dqak0 => rfl
                  case iqak0 => exact zz5_1
                  (try simp only [List.getElem_toArray, List.getElem_cons_zero, Act.put, List.setIfInBounds_toArray, List.set_cons_zero, List.set_cons_succ])
                  refine wpAnyH_ready (rs := [1]) (by kernel_rfl) (by simp) ?_
                  refine AllReadyH.cons rfl (fun K hK => ?_) AllReadyH.nil
                  go_simp
                  go_wp2_with fail
                  (with_reducible refine (HLI.out _).mono ?_)
                  rintro e w29 ⟨rfl, hb29⟩
                  have B3 := B3.next hb29 B3.lt
                  have B5 := B5.next hb29 B5.lt
                  have B6 := B6.next hb29 B6.lt
                  have hbe := below_join hbe hb29
                  refine hK.out _ _ (blk_range B5) (fun hHeld => ?_)
                  clear hK K hb29
                  refine wpAnyH_take (i := 2) (v := ?vqak2) rfl (by kernel_rfl) (by kernel_rfl) (by kernel_rfl) (fun _ _ _ h => h) (Or.inl ⟨by rfl, ?yqak2⟩) (by assumption) ?rqak2
                  case yqak2 => intro w hSw; (try dsimp only at hSw); go_simp <;> (try with_reducible rfl)
                  (try simp only [List.getElem_toArray, List.getElem_cons_succ, List.getElem_cons_zero, Act.put, List.setIfInBounds_toArray, List.set_cons_zero, List.set_cons_succ])
                  refine wpAnyH_take (i := 3) (v := ?vqak3) rfl (by kernel_rfl) (by kernel_rfl) (by kernel_rfl) (fun _ _ _ h => h) (Or.inl ⟨by rfl, ?yqak3⟩) (by assumption) ?rqak3
                  case yqak3 => intro w hSw; (try dsimp only at hSw); go_simp <;> (try with_reducible rfl)
                  (try simp only [List.getElem_toArray, List.getElem_cons_succ, List.getElem_cons_zero, Act.put, List.setIfInBounds_toArray, List.set_cons_zero, List.set_cons_succ])
                  refine wpAnyH_take (i := 4) (v := undef) rfl (by kernel_rfl) (by kernel_rfl) (by kernel_rfl) (fun _ _ _ h => h) (Or.inr ⟨by rfl, rfl⟩) (by assumption) ?rqak4
                  (try simp only [List.getElem_toArray, List.getElem_cons_succ, List.getElem_cons_zero, Act.put, List.setIfInBounds_toArray, List.set_cons_zero, List.set_cons_succ])
                  refine wpAnyH_take (i := 5) (v := undef) rfl (by kernel_rfl) (by kernel_rfl) (by kernel_rfl) (fun _ _ _ h => h) (Or.inr ⟨by rfl, rfl⟩) (by assumption) ?rqak5
                  (try simp only [List.getElem_toArray, List.getElem_cons_succ, List.getElem_cons_zero, Act.put, List.setIfInBounds_toArray, List.set_cons_zero, List.set_cons_succ])
                  refine wpAnyH_take (i := 6) (v := undef) rfl (by kernel_rfl) (by kernel_rfl) (by kernel_rfl) (fun _ _ _ h => h) (Or.inr ⟨by rfl, rfl⟩) (by assumption) ?rqak6
                  (try simp only [List.getElem_toArray, List.getElem_cons_succ, List.getElem_cons_zero, Act.put, List.setIfInBounds_toArray, List.set_cons_zero, List.set_cons_succ])
                  refine wpAnyH_take (i := 7) (v := ?vqak7) rfl (by kernel_rfl) (by kernel_rfl) (by kernel_rfl) (fun _ _ _ h => h) (Or.inl ⟨by rfl, ?yqak7⟩) (by assumption) ?rqak7
                  case yqak7 => intro w hSw; (try dsimp only at hSw); go_simp <;> (try with_reducible rfl)
                  (try simp only [List.getElem_toArray, List.getElem_cons_succ, List.getElem_cons_zero, Act.put, List.setIfInBounds_toArray, List.set_cons_zero, List.set_cons_succ])
                  refine wpAnyH_take (i := 8) (v := ?vqak8) rfl (by kernel_rfl) (by kernel_rfl) (by kernel_rfl) (fun _ _ _ h => h) (Or.inl ⟨by rfl, ?yqak8⟩) (by assumption) ?rqak8
                  case yqak8 => intro w hSw; (try dsimp only at hSw); go_simp <;> (try with_reducible rfl)
                  (try simp only [List.getElem_toArray, List.getElem_cons_succ, List.getElem_cons_zero, Act.put, List.setIfInBounds_toArray, List.set_cons_zero, List.set_cons_succ])
                  refine wpAnyH_take (i := 9) (v := undef) rfl (by kernel_rfl) (by kernel_rfl) (by kernel_rfl) (fun _ _ _ h => h) (Or.inr ⟨by rfl, rfl⟩) (by assumption) ?rqak9
                  (try simp only [List.getElem_toArray, List.getElem_cons_succ, List.getElem_cons_zero, Act.put, List.setIfInBounds_toArray, List.set_cons_zero, List.set_cons_succ])
                  refine wpAnyH_take (i := 10) (v := undef) rfl (by kernel_rfl) (by kernel_rfl) (by kernel_rfl) (fun _ _ _ h => h) (Or.inr ⟨by rfl, rfl⟩) (by assumption) ?rqak10
                  (try simp only [List.getElem_toArray, List.getElem_cons_succ, List.getElem_cons_zero, Act.put, List.setIfInBounds_toArray, List.set_cons_zero, List.set_cons_succ])
                  refine wpAnyH_take (i := 11) (v := undef) rfl (by kernel_rfl) (by kernel_rfl) (by kernel_rfl) (fun _ _ _ h => h) (Or.inr ⟨by rfl, rfl⟩) (by assumption) ?rqak11
                  (try simp only [List.getElem_toArray, List.getElem_cons_succ, List.getElem_cons_zero, Act.put, List.setIfInBounds_toArray, List.set_cons_zero, List.set_cons_succ])
                  refine wpAnyH_take (i := 12) (v := ?vqak12) rfl (by kernel_rfl) (by kernel_rfl) (by kernel_rfl) (fun _ _ _ h => h) (Or.inl ⟨by rfl, ?yqak12⟩) (by assumption) ?rqak12
                  case yqak12 => intro w hSw; (try dsimp only at hSw); go_simp <;> (try with_reducible rfl)
                  (try simp only [List.getElem_toArray, List.getElem_cons_succ, List.getElem_cons_zero, Act.put, List.setIfInBounds_toArray, List.set_cons_zero, List.set_cons_succ])
                  refine wpAnyH_take (i := 13) (v := ?vqak13) rfl (by kernel_rfl) (by kernel_rfl) (by kernel_rfl) (fun _ _ _ h => h) (Or.inl ⟨by rfl, ?yqak13⟩) (by assumption) ?rqak13
                  case yqak13 => intro w hSw; (try dsimp only at hSw); go_simp <;> (try with_reducible rfl)
                  (try simp only [List.getElem_toArray, List.getElem_cons_succ, List.getElem_cons_zero, Act.put, List.setIfInBounds_toArray, List.set_cons_zero, List.set_cons_succ])
                  refine wpAnyH_take (i := 14) (v := undef) rfl (by kernel_rfl) (by kernel_rfl) (by kernel_rfl) (fun _ _ _ h => h) (Or.inr ⟨by rfl, rfl⟩) (by assumption) ?rqak14
                  (try simp only [List.getElem_toArray, List.getElem_cons_succ, List.getElem_cons_zero, Act.put, List.setIfInBounds_toArray, List.set_cons_zero, List.set_cons_succ])
                  refine wpAnyH_take (i := 15) (v := undef) rfl (by kernel_rfl) (by kernel_rfl) (by kernel_rfl) (fun _ _ _ h => h) (Or.inr ⟨by rfl, rfl⟩) (by assumption) ?rqak15
                  (try simp only [List.getElem_toArray, List.getElem_cons_succ, List.getElem_cons_zero, Act.put, List.setIfInBounds_toArray, List.set_cons_zero, List.set_cons_succ])
                  refine wpAnyH_take (i := 16) (v := undef) rfl (by kernel_rfl) (by kernel_rfl) (by kernel_rfl) (fun _ _ _ h => h) (Or.inr ⟨by rfl, rfl⟩) (by assumption) ?rqak16
                  (try simp only [List.getElem_toArray, List.getElem_cons_succ, List.getElem_cons_zero, Act.put, List.setIfInBounds_toArray, List.set_cons_zero, List.set_cons_succ])
                  refine wpAnyH_take (i := 17) (v := undef) rfl (by kernel_rfl) (by kernel_rfl) (by kernel_rfl) (fun _ _ _ h => h) (Or.inr ⟨by rfl, rfl⟩) (by assumption) ?rqak17
                  (try simp only [List.getElem_toArray, List.getElem_cons_succ, List.getElem_cons_zero, Act.put, List.setIfInBounds_toArray, List.set_cons_zero, List.set_cons_succ])
                  refine wpAnyH_take (i := 18) (v := undef) rfl (by kernel_rfl) (by kernel_rfl) (by kernel_rfl) (fun _ _ _ h => h) (Or.inr ⟨by rfl, rfl⟩) (by assumption) ?rqak18
                  (try simp only [List.getElem_toArray, List.getElem_cons_succ, List.getElem_cons_zero, Act.put, List.setIfInBounds_toArray, List.set_cons_zero, List.set_cons_succ])
                  refine wpAnyH_take (i := 19) (v := ?vqak19) rfl (by kernel_rfl) (by kernel_rfl) (by kernel_rfl) (fun _ _ _ h => h) (Or.inl ⟨by rfl, ?yqak19⟩) (by assumption) ?rqak19
                  case yqak19 => intro w hSw; (try dsimp only at hSw); go_simp <;> (try with_reducible rfl)
                  (try simp only [List.getElem_toArray, List.getElem_cons_succ, List.getElem_cons_zero, Act.put, List.setIfInBounds_toArray, List.set_cons_zero, List.set_cons_succ])
                  refine wpAnyH_done (by kernel_rfl) ?_ _
                  clear hHeld zz5_1
                  go_wp2
                  go_ret
                  exact ⟨by rw [hce.out]; rfl, hbe⟩
              · rw [hli] at HLI
                clear hli hpb
                have hl3 : g3 < wr.heap.size := B3.lt
                go_wp2_with (with_reducible refine wpList_alloc (o := ⟨some 5, .alloc 33, _, _, _, _⟩) (by with_unfolding_all rfl) 33 (by with_unfolding_all rfl) (.agg #[.string ByteArray.empty, .int .i64 0, .int .i64 0]) [Value.string ByteArray.empty, .int .i64 0, .int .i64 0] (by exact Tryd.zeroF) (by with_unfolding_all rfl) ?_)
                intro g5 w21 hg5 hs21 hb21 B5
                have hl5 : w.heap.size ≤ g5 := Nat.le_trans hbe.size (Nat.le_of_eq hg5.out.symm)
                have ne3_5 : g3 ≠ g5 := by have := B3.lt; have := hg5.out; omega
                have ne5_3 := ne3_5.symm
                have hb21 := hb21.mono (Nat.le_of_eq hg5.out.symm)
                have B3 := B3.next hb21 B3.lt
                have hbe := below_join hbe hb21
                clear hb21 hg5 hs21
                clear c0 c1 c2 hl3
                go_wp2_with (with_reducible refine wpList_put (o := ⟨none, .store 33 (.tmp 5) (.tmp 17), _, _, _, _⟩) (by with_unfolding_all rfl) 33 (.tmp 5) (.tmp 17) (by with_unfolding_all rfl) g5 0 (by with_unfolding_all rfl) (.agg #[.string fn, .int .i64 fa, .int .i64 fw]) (by with_unfolding_all rfl) B5 [Value.string fn, .int .i64 fa, .int .i64 fw] (by with_unfolding_all rfl) (by with_unfolding_all (first | exact Tryd.szF | (simp only [H_length, Pat.cells_length, List.length_append]; exact Tryd.szF))) (by with_unfolding_all (first | exact Nat.le_refl 3 | (simp only [H_length, Pat.cells_length, List.length_append]; omega))) (by with_unfolding_all (exact fields_one _ _ _)) ?_)
                intro w22 hu22 C5
                rw [splice_all _ _ (by rfl)] at C5
                have B3 := B3.upd hu22 ne3_5
                have hbe := hbe.trans (hu22.below (B := w.heap.size) hl5)
                clear B5 hu22
                have B5 := C5
                clear C5
                have h16d : decide (fa < 16) = true := decide_eq_true h16
                go_wp2
                have hdd := below_drew w22
                have B3 := B3.next hdd B3.lt
                have B5 := B5.next hdd B5.lt
                have hbe := below_join hbe hdd
                refine wp_region_held_drew (S := fun w' => w'.cell? ⟨g5, 0, none⟩ = some (Value.string fn)) (by kernel_rfl) (B5.cell (k := 0) rfl) (fun hHeld => ?_)
                clear hdd
                generalize w22.drew = w23 at B3 B5 hbe hHeld  ⊢
                refine wpAnyH_take (i := 0) (v := ?vqal0) rfl (by kernel_rfl) (by kernel_rfl) (by kernel_rfl) (fun _ _ _ h => h) (Or.inl ⟨by rfl, ?yqal0⟩) (by assumption) ?rqal0
                case yqal0 => intro w hSw; (try dsimp only at hSw); go_simp <;> (try with_reducible rfl)
                (try simp only [List.getElem_toArray, List.getElem_cons_zero, Act.put, List.setIfInBounds_toArray, List.set_cons_zero, List.set_cons_succ])
                refine wpAnyH_take (i := 1) (v := ?vqal1) rfl (by kernel_rfl) (by kernel_rfl) (by kernel_rfl) (fun _ _ _ h => h) (Or.inl ⟨by rfl, ?yqal1⟩) (by assumption) ?rqal1
                case yqal1 => intro w hSw; (try dsimp only at hSw); go_simp <;> (try with_reducible rfl)
                (try simp only [List.getElem_toArray, List.getElem_cons_succ, List.getElem_cons_zero, Act.put, List.setIfInBounds_toArray, List.set_cons_zero, List.set_cons_succ])
                refine wpAnyH_take (i := 2) (v := ?vqal2) rfl (by kernel_rfl) (by kernel_rfl) (by kernel_rfl) (fun _ _ _ h => h) (Or.inl ⟨by rfl, ?yqal2⟩) (by assumption) ?rqal2
                case yqal2 => intro w hSw; (try dsimp only at hSw); go_simp <;> (try with_reducible rfl)
                (try simp only [List.getElem_toArray, List.getElem_cons_succ, List.getElem_cons_zero, Act.put, List.setIfInBounds_toArray, List.set_cons_zero, List.set_cons_succ])
                refine wpAnyH_take (i := 3) (v := ?vqal3) rfl (by kernel_rfl) (by kernel_rfl) (by kernel_rfl) (fun _ _ _ h => h) (Or.inl ⟨by rfl, ?yqal3⟩) (by assumption) ?rqal3
                case yqal3 => intro w hSw; (try dsimp only at hSw); go_simp <;> (try with_reducible rfl)
                (try simp only [List.getElem_toArray, List.getElem_cons_succ, List.getElem_cons_zero, Act.put, List.setIfInBounds_toArray, List.set_cons_zero, List.set_cons_succ])
                refine wpAnyH_take (i := 4) (v := ?vqal4) rfl (by kernel_rfl) (by kernel_rfl) (by kernel_rfl) (fun _ _ _ h => h) (Or.inl ⟨by rfl, ?yqal4⟩) (by assumption) ?rqal4
                case yqal4 => intro w hSw; have hSc := hSw; go_simp <;> (try with_reducible rfl)
                (try simp only [List.getElem_toArray, List.getElem_cons_succ, List.getElem_cons_zero, Act.put, List.setIfInBounds_toArray, List.set_cons_zero, List.set_cons_succ])
                refine wpAnyH_ready (rs := [5, 9]) (by kernel_rfl) (by simp) ?_
                refine AllReadyH.cons rfl (fun K hK => ?_) (AllReadyH.cons rfl (fun K hK => ?_) AllReadyH.nil)
                · skip
                  go_simp
                  go_wp2_with fail
                  (with_reducible refine (HFI.out _ hbe).mono ?_)
                  rintro e w24 ⟨rfl, hb24⟩
                  have B3 := B3.next hb24 B3.lt
                  have B5 := B5.next hb24 B5.lt
                  have hbe := below_join hbe hb24
                  refine hK.out _ _ (B5.cell (k := 0) rfl) (fun hHeld => ?_)
                  clear hK K hb24
                  refine wpAnyH_take (i := 6) (v := ?vqam6) rfl (by kernel_rfl) (by kernel_rfl) (by kernel_rfl) (fun _ _ _ h => h) (Or.inl ⟨by rfl, ?yqam6⟩) (by assumption) ?rqam6
                  case yqam6 => intro w hSw; (try dsimp only at hSw); go_simp <;> (try with_reducible rfl)
                  (try simp only [List.getElem_toArray, List.getElem_cons_succ, List.getElem_cons_zero, Act.put, List.setIfInBounds_toArray, List.set_cons_zero, List.set_cons_succ])
                  refine wpAnyH_take (i := 7) (v := ?vqam7) rfl (by kernel_rfl) (by kernel_rfl) (by kernel_rfl) (fun _ _ _ h => h) (Or.inl ⟨by rfl, ?yqam7⟩) (by assumption) ?rqam7
                  case yqam7 => intro w hSw; (try dsimp only at hSw); go_simp <;> (try with_reducible rfl)
                  (try simp only [List.getElem_toArray, List.getElem_cons_succ, List.getElem_cons_zero, Act.put, List.setIfInBounds_toArray, List.set_cons_zero, List.set_cons_succ])
                  refine wpAnyH_take (i := 8) (v := ?vqam8) rfl (by kernel_rfl) (by kernel_rfl) (by kernel_rfl) (fun _ _ _ h => h) (Or.inl ⟨by rfl, ?yqam8⟩) (by assumption) ?rqam8
                  case yqam8 => intro w hSw; (try dsimp only at hSw); go_simp <;> (try with_reducible rfl)
                  (try simp only [List.getElem_toArray, List.getElem_cons_succ, List.getElem_cons_zero, Act.put, List.setIfInBounds_toArray, List.set_cons_zero, List.set_cons_succ])
                  refine wpAnyH_ready (rs := [9]) (by kernel_rfl) (by simp) ?_
                  refine AllReadyH.cons rfl (fun K hK => ?_) AllReadyH.nil
                  rw [if_pos (by rfl)]
                  refine wp_allocz 33 rfl (.agg #[.string ByteArray.empty, .int .i64 0, .int .i64 0]) [Value.string ByteArray.empty, .int .i64 0, .int .i64 0] Tryd.zeroF rfl ?_
                  intro g6 w25 hg6 hs25 hb25 B6
                  have hl6 : w.heap.size ≤ g6 := Nat.le_trans hbe.size (Nat.le_of_eq hg6.out.symm)
                  have ne3_6 : g3 ≠ g6 := by have := B3.lt; have := hg6.out; omega
                  have ne6_3 := ne3_6.symm
                  have ne5_6 : g5 ≠ g6 := by have := B5.lt; have := hg6.out; omega
                  have ne6_5 := ne5_6.symm
                  have hb25 := hb25.mono (Nat.le_of_eq hg6.out.symm)
                  have B3 := B3.next hb25 B3.lt
                  have B5 := B5.next hb25 B5.lt
                  have hbe := below_join hbe hb25
                  clear hb25 hg6 hs25
                  refine hK.out _ _ (B5.cell (k := 0) rfl) (fun hHeld => ?_)
                  clear hK K
                  refine wpAnyH_ready (rs := [10]) (by kernel_rfl) (by simp) ?_
                  refine AllReadyH.cons rfl (fun K hK => ?_) AllReadyH.nil
                  rw [if_pos (by rfl)]
                  refine wp_put 33 (.tmp 6) (.tmp 25) rfl g6 0 rfl (.agg [Value.string ByteArray.empty, .int .i64 0, .int .i64 0].toArray) rfl B6 [Value.string ByteArray.empty, .int .i64 0, .int .i64 0] rfl (by first | exact Tryd.szF | (simp only [H_length, Pat.cells_length, List.length_append]; exact Tryd.szF)) (by first | exact Nat.le_refl 3 | (simp only [H_length, Pat.cells_length, List.length_append]; omega)) (fields_one _ _ _) ?_
                  intro w26 hu26 C6
                  rw [splice_all _ _ (by rfl)] at C6
                  have B3 := B3.upd hu26 ne3_6
                  have B5 := B5.upd hu26 ne5_6
                  have hbe := hbe.trans (hu26.below (B := w.heap.size) hl6)
                  clear B6 hu26
                  have B6 := C6
                  clear C6
                  refine hK.out _ _ (B5.cell (k := 0) rfl) (fun hHeld => ?_)
                  clear hK K
                  refine wpAnyH_take (i := 11) (v := ?vqam11) rfl (by kernel_rfl) (by kernel_rfl) (by kernel_rfl) (fun _ _ _ h => h) (Or.inl ⟨by rfl, ?yqam11⟩) (by assumption) ?rqam11
                  case yqam11 => intro w hSw; (try dsimp only at hSw); go_simp <;> (try with_reducible rfl)
                  (try simp only [List.getElem_toArray, List.getElem_cons_succ, List.getElem_cons_zero, Act.put, List.setIfInBounds_toArray, List.set_cons_zero, List.set_cons_succ])
                  refine wpAnyH_done (by kernel_rfl) ?_ _
                  clear hHeld 
                  have z5_0 := B5.cell (k := 0) rfl
                  have z5_1 := B5.cell (k := 1) rfl
                  have z5_2 := B5.cell (k := 2) rfl
                  go_wp2_with fail
                  (with_reducible refine (HNM.out _).mono ?_)
                  rintro e w27 ⟨rfl, hb27⟩
                  clear z5_0 z5_1 z5_2
                  have B3 := B3.next hb27 B3.lt
                  have B5 := B5.next hb27 B5.lt
                  have B6 := B6.next hb27 B6.lt
                  have hbe := below_join hbe hb27
                  clear hb27
                  go_wp2
                  have hdd := below_drew w27
                  have B3 := B3.next hdd B3.lt
                  have B5 := B5.next hdd B5.lt
                  have B6 := B6.next hdd B6.lt
                  have hbe := below_join hbe hdd
                  have zz5_1 : (Tryd.prog.info? 33).map (·.size) = some [Value.string fn, .int .i64 fa, .int .i64 fw].length := (by first | exact Tryd.szF | (simp only [H_length, Pat.cells_length, List.length_append]; exact Tryd.szF))
                  refine wp_region_held_drew (S := fun w' => w'.rangeAt g5 0 [Value.string fn, .int .i64 fa, .int .i64 fw] ∧ w'.cell? ⟨g5, 1, none⟩ = some (.int .i64 fa)) (by kernel_rfl) ⟨blk_range B5, B5.cell (k := 1) rfl⟩ (fun hHeld => ?_)
                  clear hdd
                  generalize w27.drew = w28 at B3 B5 B6 hbe hHeld  ⊢
                  refine' wpAnyH_take (i := 0) (v := _) rfl (by kernel_rfl) (by kernel_rfl) (by kernel_rfl) (fun _ _ _ h => h) (yieldsIf_load_mid (by rfl) _ _ (by rfl) _ _ (by rfl) _ _ ?Sqan0 ?uqan0 ?dqan0 ?iqan0) (by assumption) ?rqan0
                  case Sqan0 => exact (by intro w h; exact h.1)
                  case uqan0 => exact Tryd.underlying33
                  case dqan0 => rfl
                  case iqan0 => exact zz5_1
                  (try simp only [List.getElem_toArray, List.getElem_cons_zero, Act.put, List.setIfInBounds_toArray, List.set_cons_zero, List.set_cons_succ])
                  refine wpAnyH_ready (rs := [1]) (by kernel_rfl) (by simp) ?_
                  refine AllReadyH.cons rfl (fun K hK => ?_) AllReadyH.nil
                  go_simp
                  go_wp2_with fail
                  (with_reducible refine (HLI.out _).mono ?_)
                  rintro e w29 ⟨rfl, hb29⟩
                  have B3 := B3.next hb29 B3.lt
                  have B5 := B5.next hb29 B5.lt
                  have B6 := B6.next hb29 B6.lt
                  have hbe := below_join hbe hb29
                  refine hK.out _ _ ⟨blk_range B5, B5.cell (k := 1) rfl⟩ (fun hHeld => ?_)
                  clear hK K hb29
                  refine wpAnyH_take (i := 2) (v := ?vqan2) rfl (by kernel_rfl) (by kernel_rfl) (by kernel_rfl) (fun _ _ _ h => h) (Or.inl ⟨by rfl, ?yqan2⟩) (by assumption) ?rqan2
                  case yqan2 => intro w hSw; (try dsimp only at hSw); go_simp <;> (try with_reducible rfl)
                  (try simp only [List.getElem_toArray, List.getElem_cons_succ, List.getElem_cons_zero, Act.put, List.setIfInBounds_toArray, List.set_cons_zero, List.set_cons_succ])
                  refine wpAnyH_take (i := 3) (v := ?vqan3) rfl (by kernel_rfl) (by kernel_rfl) (by kernel_rfl) (fun _ _ _ h => h) (Or.inl ⟨by rfl, ?yqan3⟩) (by assumption) ?rqan3
                  case yqan3 => intro w hSw; (try dsimp only at hSw); go_simp <;> (try with_reducible rfl)
                  (try simp only [List.getElem_toArray, List.getElem_cons_succ, List.getElem_cons_zero, Act.put, List.setIfInBounds_toArray, List.set_cons_zero, List.set_cons_succ])
                  refine wpAnyH_take (i := 4) (v := ?vqan4) rfl (by kernel_rfl) (by kernel_rfl) (by kernel_rfl) (fun _ _ _ h => h) (Or.inl ⟨by rfl, ?yqan4⟩) (by assumption) ?rqan4
                  case yqan4 => intro w hSw; (try dsimp only at hSw); go_simp <;> (try with_reducible rfl)
                  (try simp only [List.getElem_toArray, List.getElem_cons_succ, List.getElem_cons_zero, Act.put, List.setIfInBounds_toArray, List.set_cons_zero, List.set_cons_succ])
                  refine wpAnyH_take (i := 5) (v := ?vqan5) rfl (by kernel_rfl) (by kernel_rfl) (by kernel_rfl) (fun _ _ _ h => h) (Or.inl ⟨by rfl, ?yqan5⟩) (by assumption) ?rqan5
                  case yqan5 => intro w hSw; have hSc := hSw.2; go_simp <;> (try with_reducible rfl)
                  (try simp only [List.getElem_toArray, List.getElem_cons_succ, List.getElem_cons_zero, Act.put, List.setIfInBounds_toArray, List.set_cons_zero, List.set_cons_succ])
                  refine wpAnyH_take (i := 6) (v := ?vqan6) rfl (by kernel_rfl) (by kernel_rfl) (by kernel_rfl) (fun _ _ _ h => h) (Or.inl ⟨by rfl, ?yqan6⟩) (by assumption) ?rqan6
                  case yqan6 => intro w hSw; (try dsimp only at hSw); go_simp <;> (try with_reducible rfl)
                  (try simp only [List.getElem_toArray, List.getElem_cons_succ, List.getElem_cons_zero, Act.put, List.setIfInBounds_toArray, List.set_cons_zero, List.set_cons_succ])
                  refine wpAnyH_take (i := 7) (v := ?vqan7) rfl (by kernel_rfl) (by kernel_rfl) (by kernel_rfl) (fun _ _ _ h => h) (Or.inl ⟨by rfl, ?yqan7⟩) (by assumption) ?rqan7
                  case yqan7 => intro w hSw; (try dsimp only at hSw); go_simp <;> (try with_reducible rfl)
                  (try simp only [List.getElem_toArray, List.getElem_cons_succ, List.getElem_cons_zero, Act.put, List.setIfInBounds_toArray, List.set_cons_zero, List.set_cons_succ])
                  refine wpAnyH_take (i := 8) (v := ?vqan8) rfl (by kernel_rfl) (by kernel_rfl) (by kernel_rfl) (fun _ _ _ h => h) (Or.inl ⟨by rfl, ?yqan8⟩) (by assumption) ?rqan8
                  case yqan8 => intro w hSw; (try dsimp only at hSw); go_simp <;> (try with_reducible rfl)
                  (try simp only [List.getElem_toArray, List.getElem_cons_succ, List.getElem_cons_zero, Act.put, List.setIfInBounds_toArray, List.set_cons_zero, List.set_cons_succ])
                  refine wpAnyH_take (i := 9) (v := undef) rfl (by kernel_rfl) (by kernel_rfl) (by kernel_rfl) (fun _ _ _ h => h) (Or.inr ⟨by rfl, rfl⟩) (by assumption) ?rqan9
                  (try simp only [List.getElem_toArray, List.getElem_cons_succ, List.getElem_cons_zero, Act.put, List.setIfInBounds_toArray, List.set_cons_zero, List.set_cons_succ])
                  refine wpAnyH_take (i := 10) (v := undef) rfl (by kernel_rfl) (by kernel_rfl) (by kernel_rfl) (fun _ _ _ h => h) (Or.inr ⟨by rfl, rfl⟩) (by assumption) ?rqan10
                  (try simp only [List.getElem_toArray, List.getElem_cons_succ, List.getElem_cons_zero, Act.put, List.setIfInBounds_toArray, List.set_cons_zero, List.set_cons_succ])
                  refine wpAnyH_take (i := 11) (v := undef) rfl (by kernel_rfl) (by kernel_rfl) (by kernel_rfl) (fun _ _ _ h => h) (Or.inr ⟨by rfl, rfl⟩) (by assumption) ?rqan11
                  (try simp only [List.getElem_toArray, List.getElem_cons_succ, List.getElem_cons_zero, Act.put, List.setIfInBounds_toArray, List.set_cons_zero, List.set_cons_succ])
                  refine wpAnyH_take (i := 12) (v := ?vqan12) rfl (by kernel_rfl) (by kernel_rfl) (by kernel_rfl) (fun _ _ _ h => h) (Or.inl ⟨by rfl, ?yqan12⟩) (by assumption) ?rqan12
                  case yqan12 => intro w hSw; (try dsimp only at hSw); go_simp <;> (try with_reducible rfl)
                  (try simp only [List.getElem_toArray, List.getElem_cons_succ, List.getElem_cons_zero, Act.put, List.setIfInBounds_toArray, List.set_cons_zero, List.set_cons_succ])
                  refine wpAnyH_take (i := 13) (v := ?vqan13) rfl (by kernel_rfl) (by kernel_rfl) (by kernel_rfl) (fun _ _ _ h => h) (Or.inl ⟨by rfl, ?yqan13⟩) (by assumption) ?rqan13
                  case yqan13 => intro w hSw; (try dsimp only at hSw); go_simp <;> (try with_reducible rfl)
                  (try simp only [List.getElem_toArray, List.getElem_cons_succ, List.getElem_cons_zero, Act.put, List.setIfInBounds_toArray, List.set_cons_zero, List.set_cons_succ])
                  refine wpAnyH_take (i := 14) (v := undef) rfl (by kernel_rfl) (by kernel_rfl) (by kernel_rfl) (fun _ _ _ h => h) (Or.inr ⟨by rfl, rfl⟩) (by assumption) ?rqan14
                  (try simp only [List.getElem_toArray, List.getElem_cons_succ, List.getElem_cons_zero, Act.put, List.setIfInBounds_toArray, List.set_cons_zero, List.set_cons_succ])
                  refine wpAnyH_take (i := 15) (v := undef) rfl (by kernel_rfl) (by kernel_rfl) (by kernel_rfl) (fun _ _ _ h => h) (Or.inr ⟨by rfl, rfl⟩) (by assumption) ?rqan15
                  (try simp only [List.getElem_toArray, List.getElem_cons_succ, List.getElem_cons_zero, Act.put, List.setIfInBounds_toArray, List.set_cons_zero, List.set_cons_succ])
                  refine wpAnyH_take (i := 16) (v := undef) rfl (by kernel_rfl) (by kernel_rfl) (by kernel_rfl) (fun _ _ _ h => h) (Or.inr ⟨by rfl, rfl⟩) (by assumption) ?rqan16
                  (try simp only [List.getElem_toArray, List.getElem_cons_succ, List.getElem_cons_zero, Act.put, List.setIfInBounds_toArray, List.set_cons_zero, List.set_cons_succ])
                  refine wpAnyH_take (i := 17) (v := undef) rfl (by kernel_rfl) (by kernel_rfl) (by kernel_rfl) (fun _ _ _ h => h) (Or.inr ⟨by rfl, rfl⟩) (by assumption) ?rqan17
                  (try simp only [List.getElem_toArray, List.getElem_cons_succ, List.getElem_cons_zero, Act.put, List.setIfInBounds_toArray, List.set_cons_zero, List.set_cons_succ])
                  refine wpAnyH_take (i := 18) (v := undef) rfl (by kernel_rfl) (by kernel_rfl) (by kernel_rfl) (fun _ _ _ h => h) (Or.inr ⟨by rfl, rfl⟩) (by assumption) ?rqan18
                  (try simp only [List.getElem_toArray, List.getElem_cons_succ, List.getElem_cons_zero, Act.put, List.setIfInBounds_toArray, List.set_cons_zero, List.set_cons_succ])
                  refine wpAnyH_take (i := 19) (v := ?vqan19) rfl (by kernel_rfl) (by kernel_rfl) (by kernel_rfl) (fun _ _ _ h => h) (Or.inl ⟨by rfl, ?yqan19⟩) (by assumption) ?rqan19
                  case yqan19 => intro w hSw; (try dsimp only at hSw); go_simp <;> (try with_reducible rfl)
                  (try simp only [List.getElem_toArray, List.getElem_cons_succ, List.getElem_cons_zero, Act.put, List.setIfInBounds_toArray, List.set_cons_zero, List.set_cons_succ])
                  refine wpAnyH_done (by kernel_rfl) ?_ _
                  clear hHeld zz5_1
                  go_wp2
                  go_ret
                  exact ⟨by rw [hce.out]; rfl, hbe⟩
                · skip
                  rw [if_pos (by rfl)]
                  refine wp_allocz 33 rfl (.agg #[.string ByteArray.empty, .int .i64 0, .int .i64 0]) [Value.string ByteArray.empty, .int .i64 0, .int .i64 0] Tryd.zeroF rfl ?_
                  intro g6 w24 hg6 hs24 hb24 B6
                  have hl6 : w.heap.size ≤ g6 := Nat.le_trans hbe.size (Nat.le_of_eq hg6.out.symm)
                  have ne3_6 : g3 ≠ g6 := by have := B3.lt; have := hg6.out; omega
                  have ne6_3 := ne3_6.symm
                  have ne5_6 : g5 ≠ g6 := by have := B5.lt; have := hg6.out; omega
                  have ne6_5 := ne5_6.symm
                  have hb24 := hb24.mono (Nat.le_of_eq hg6.out.symm)
                  have B3 := B3.next hb24 B3.lt
                  have B5 := B5.next hb24 B5.lt
                  have hbe := below_join hbe hb24
                  clear hb24 hg6 hs24
                  refine hK.out _ _ (B5.cell (k := 0) rfl) (fun hHeld => ?_)
                  clear hK K
                  refine wpAnyH_ready (rs := [5]) (by kernel_rfl) (by simp) ?_
                  refine AllReadyH.cons rfl (fun K hK => ?_) AllReadyH.nil
                  go_simp
                  go_wp2_with fail
                  (with_reducible refine (HFI.out _ hbe).mono ?_)
                  rintro e w25 ⟨rfl, hb25⟩
                  have B3 := B3.next hb25 B3.lt
                  have B5 := B5.next hb25 B5.lt
                  have B6 := B6.next hb25 B6.lt
                  have hbe := below_join hbe hb25
                  refine hK.out _ _ (B5.cell (k := 0) rfl) (fun hHeld => ?_)
                  clear hK K hb25
                  refine wpAnyH_take (i := 6) (v := ?vqao6) rfl (by kernel_rfl) (by kernel_rfl) (by kernel_rfl) (fun _ _ _ h => h) (Or.inl ⟨by rfl, ?yqao6⟩) (by assumption) ?rqao6
                  case yqao6 => intro w hSw; (try dsimp only at hSw); go_simp <;> (try with_reducible rfl)
                  (try simp only [List.getElem_toArray, List.getElem_cons_succ, List.getElem_cons_zero, Act.put, List.setIfInBounds_toArray, List.set_cons_zero, List.set_cons_succ])
                  refine wpAnyH_take (i := 7) (v := ?vqao7) rfl (by kernel_rfl) (by kernel_rfl) (by kernel_rfl) (fun _ _ _ h => h) (Or.inl ⟨by rfl, ?yqao7⟩) (by assumption) ?rqao7
                  case yqao7 => intro w hSw; (try dsimp only at hSw); go_simp <;> (try with_reducible rfl)
                  (try simp only [List.getElem_toArray, List.getElem_cons_succ, List.getElem_cons_zero, Act.put, List.setIfInBounds_toArray, List.set_cons_zero, List.set_cons_succ])
                  refine wpAnyH_take (i := 8) (v := ?vqao8) rfl (by kernel_rfl) (by kernel_rfl) (by kernel_rfl) (fun _ _ _ h => h) (Or.inl ⟨by rfl, ?yqao8⟩) (by assumption) ?rqao8
                  case yqao8 => intro w hSw; (try dsimp only at hSw); go_simp <;> (try with_reducible rfl)
                  (try simp only [List.getElem_toArray, List.getElem_cons_succ, List.getElem_cons_zero, Act.put, List.setIfInBounds_toArray, List.set_cons_zero, List.set_cons_succ])
                  refine wpAnyH_ready (rs := [10]) (by kernel_rfl) (by simp) ?_
                  refine AllReadyH.cons rfl (fun K hK => ?_) AllReadyH.nil
                  rw [if_pos (by rfl)]
                  refine wp_put 33 (.tmp 6) (.tmp 25) rfl g6 0 rfl (.agg [Value.string ByteArray.empty, .int .i64 0, .int .i64 0].toArray) rfl B6 [Value.string ByteArray.empty, .int .i64 0, .int .i64 0] rfl (by first | exact Tryd.szF | (simp only [H_length, Pat.cells_length, List.length_append]; exact Tryd.szF)) (by first | exact Nat.le_refl 3 | (simp only [H_length, Pat.cells_length, List.length_append]; omega)) (fields_one _ _ _) ?_
                  intro w26 hu26 C6
                  rw [splice_all _ _ (by rfl)] at C6
                  have B3 := B3.upd hu26 ne3_6
                  have B5 := B5.upd hu26 ne5_6
                  have hbe := hbe.trans (hu26.below (B := w.heap.size) hl6)
                  clear B6 hu26
                  have B6 := C6
                  clear C6
                  refine hK.out _ _ (B5.cell (k := 0) rfl) (fun hHeld => ?_)
                  clear hK K
                  refine wpAnyH_take (i := 11) (v := ?vqao11) rfl (by kernel_rfl) (by kernel_rfl) (by kernel_rfl) (fun _ _ _ h => h) (Or.inl ⟨by rfl, ?yqao11⟩) (by assumption) ?rqao11
                  case yqao11 => intro w hSw; (try dsimp only at hSw); go_simp <;> (try with_reducible rfl)
                  (try simp only [List.getElem_toArray, List.getElem_cons_succ, List.getElem_cons_zero, Act.put, List.setIfInBounds_toArray, List.set_cons_zero, List.set_cons_succ])
                  refine wpAnyH_done (by kernel_rfl) ?_ _
                  clear hHeld 
                  have z5_0 := B5.cell (k := 0) rfl
                  have z5_1 := B5.cell (k := 1) rfl
                  have z5_2 := B5.cell (k := 2) rfl
                  go_wp2_with fail
                  (with_reducible refine (HNM.out _).mono ?_)
                  rintro e w27 ⟨rfl, hb27⟩
                  clear z5_0 z5_1 z5_2
                  have B3 := B3.next hb27 B3.lt
                  have B5 := B5.next hb27 B5.lt
                  have B6 := B6.next hb27 B6.lt
                  have hbe := below_join hbe hb27
                  clear hb27
                  go_wp2
                  have hdd := below_drew w27
                  have B3 := B3.next hdd B3.lt
                  have B5 := B5.next hdd B5.lt
                  have B6 := B6.next hdd B6.lt
                  have hbe := below_join hbe hdd
                  have zz5_1 : (Tryd.prog.info? 33).map (·.size) = some [Value.string fn, .int .i64 fa, .int .i64 fw].length := (by first | exact Tryd.szF | (simp only [H_length, Pat.cells_length, List.length_append]; exact Tryd.szF))
                  refine wp_region_held_drew (S := fun w' => w'.rangeAt g5 0 [Value.string fn, .int .i64 fa, .int .i64 fw] ∧ w'.cell? ⟨g5, 1, none⟩ = some (.int .i64 fa)) (by kernel_rfl) ⟨blk_range B5, B5.cell (k := 1) rfl⟩ (fun hHeld => ?_)
                  clear hdd
                  generalize w27.drew = w28 at B3 B5 B6 hbe hHeld  ⊢
                  refine' wpAnyH_take (i := 0) (v := _) rfl (by kernel_rfl) (by kernel_rfl) (by kernel_rfl) (fun _ _ _ h => h) (yieldsIf_load_mid (by rfl) _ _ (by rfl) _ _ (by rfl) _ _ ?Sqap0 ?uqap0 ?dqap0 ?iqap0) (by assumption) ?rqap0
                  case Sqap0 => exact (by intro w h; exact h.1)
                  case uqap0 => exact Tryd.underlying33
                  case dqap0 => rfl
                  case iqap0 => exact zz5_1
                  (try simp only [List.getElem_toArray, List.getElem_cons_zero, Act.put, List.setIfInBounds_toArray, List.set_cons_zero, List.set_cons_succ])
                  refine wpAnyH_ready (rs := [1]) (by kernel_rfl) (by simp) ?_
                  refine AllReadyH.cons rfl (fun K hK => ?_) AllReadyH.nil
                  go_simp
                  go_wp2_with fail
                  (with_reducible refine (HLI.out _).mono ?_)
                  rintro e w29 ⟨rfl, hb29⟩
                  have B3 := B3.next hb29 B3.lt
                  have B5 := B5.next hb29 B5.lt
                  have B6 := B6.next hb29 B6.lt
                  have hbe := below_join hbe hb29
                  refine hK.out _ _ ⟨blk_range B5, B5.cell (k := 1) rfl⟩ (fun hHeld => ?_)
                  clear hK K hb29
                  refine wpAnyH_take (i := 2) (v := ?vqap2) rfl (by kernel_rfl) (by kernel_rfl) (by kernel_rfl) (fun _ _ _ h => h) (Or.inl ⟨by rfl, ?yqap2⟩) (by assumption) ?rqap2
                  case yqap2 => intro w hSw; (try dsimp only at hSw); go_simp <;> (try with_reducible rfl)
                  (try simp only [List.getElem_toArray, List.getElem_cons_succ, List.getElem_cons_zero, Act.put, List.setIfInBounds_toArray, List.set_cons_zero, List.set_cons_succ])
                  refine wpAnyH_take (i := 3) (v := ?vqap3) rfl (by kernel_rfl) (by kernel_rfl) (by kernel_rfl) (fun _ _ _ h => h) (Or.inl ⟨by rfl, ?yqap3⟩) (by assumption) ?rqap3
                  case yqap3 => intro w hSw; (try dsimp only at hSw); go_simp <;> (try with_reducible rfl)
                  (try simp only [List.getElem_toArray, List.getElem_cons_succ, List.getElem_cons_zero, Act.put, List.setIfInBounds_toArray, List.set_cons_zero, List.set_cons_succ])
                  refine wpAnyH_take (i := 4) (v := ?vqap4) rfl (by kernel_rfl) (by kernel_rfl) (by kernel_rfl) (fun _ _ _ h => h) (Or.inl ⟨by rfl, ?yqap4⟩) (by assumption) ?rqap4
                  case yqap4 => intro w hSw; (try dsimp only at hSw); go_simp <;> (try with_reducible rfl)
                  (try simp only [List.getElem_toArray, List.getElem_cons_succ, List.getElem_cons_zero, Act.put, List.setIfInBounds_toArray, List.set_cons_zero, List.set_cons_succ])
                  refine wpAnyH_take (i := 5) (v := ?vqap5) rfl (by kernel_rfl) (by kernel_rfl) (by kernel_rfl) (fun _ _ _ h => h) (Or.inl ⟨by rfl, ?yqap5⟩) (by assumption) ?rqap5
                  case yqap5 => intro w hSw; have hSc := hSw.2; go_simp <;> (try with_reducible rfl)
                  (try simp only [List.getElem_toArray, List.getElem_cons_succ, List.getElem_cons_zero, Act.put, List.setIfInBounds_toArray, List.set_cons_zero, List.set_cons_succ])
                  refine wpAnyH_take (i := 6) (v := ?vqap6) rfl (by kernel_rfl) (by kernel_rfl) (by kernel_rfl) (fun _ _ _ h => h) (Or.inl ⟨by rfl, ?yqap6⟩) (by assumption) ?rqap6
                  case yqap6 => intro w hSw; (try dsimp only at hSw); go_simp <;> (try with_reducible rfl)
                  (try simp only [List.getElem_toArray, List.getElem_cons_succ, List.getElem_cons_zero, Act.put, List.setIfInBounds_toArray, List.set_cons_zero, List.set_cons_succ])
                  refine wpAnyH_take (i := 7) (v := ?vqap7) rfl (by kernel_rfl) (by kernel_rfl) (by kernel_rfl) (fun _ _ _ h => h) (Or.inl ⟨by rfl, ?yqap7⟩) (by assumption) ?rqap7
                  case yqap7 => intro w hSw; (try dsimp only at hSw); go_simp <;> (try with_reducible rfl)
                  (try simp only [List.getElem_toArray, List.getElem_cons_succ, List.getElem_cons_zero, Act.put, List.setIfInBounds_toArray, List.set_cons_zero, List.set_cons_succ])
                  refine wpAnyH_take (i := 8) (v := ?vqap8) rfl (by kernel_rfl) (by kernel_rfl) (by kernel_rfl) (fun _ _ _ h => h) (Or.inl ⟨by rfl, ?yqap8⟩) (by assumption) ?rqap8
                  case yqap8 => intro w hSw; (try dsimp only at hSw); go_simp <;> (try with_reducible rfl)
                  (try simp only [List.getElem_toArray, List.getElem_cons_succ, List.getElem_cons_zero, Act.put, List.setIfInBounds_toArray, List.set_cons_zero, List.set_cons_succ])
                  refine wpAnyH_take (i := 9) (v := undef) rfl (by kernel_rfl) (by kernel_rfl) (by kernel_rfl) (fun _ _ _ h => h) (Or.inr ⟨by rfl, rfl⟩) (by assumption) ?rqap9
                  (try simp only [List.getElem_toArray, List.getElem_cons_succ, List.getElem_cons_zero, Act.put, List.setIfInBounds_toArray, List.set_cons_zero, List.set_cons_succ])
                  refine wpAnyH_take (i := 10) (v := undef) rfl (by kernel_rfl) (by kernel_rfl) (by kernel_rfl) (fun _ _ _ h => h) (Or.inr ⟨by rfl, rfl⟩) (by assumption) ?rqap10
                  (try simp only [List.getElem_toArray, List.getElem_cons_succ, List.getElem_cons_zero, Act.put, List.setIfInBounds_toArray, List.set_cons_zero, List.set_cons_succ])
                  refine wpAnyH_take (i := 11) (v := undef) rfl (by kernel_rfl) (by kernel_rfl) (by kernel_rfl) (fun _ _ _ h => h) (Or.inr ⟨by rfl, rfl⟩) (by assumption) ?rqap11
                  (try simp only [List.getElem_toArray, List.getElem_cons_succ, List.getElem_cons_zero, Act.put, List.setIfInBounds_toArray, List.set_cons_zero, List.set_cons_succ])
                  refine wpAnyH_take (i := 12) (v := ?vqap12) rfl (by kernel_rfl) (by kernel_rfl) (by kernel_rfl) (fun _ _ _ h => h) (Or.inl ⟨by rfl, ?yqap12⟩) (by assumption) ?rqap12
                  case yqap12 => intro w hSw; (try dsimp only at hSw); go_simp <;> (try with_reducible rfl)
                  (try simp only [List.getElem_toArray, List.getElem_cons_succ, List.getElem_cons_zero, Act.put, List.setIfInBounds_toArray, List.set_cons_zero, List.set_cons_succ])
                  refine wpAnyH_take (i := 13) (v := ?vqap13) rfl (by kernel_rfl) (by kernel_rfl) (by kernel_rfl) (fun _ _ _ h => h) (Or.inl ⟨by rfl, ?yqap13⟩) (by assumption) ?rqap13
                  case yqap13 => intro w hSw; (try dsimp only at hSw); go_simp <;> (try with_reducible rfl)
                  (try simp only [List.getElem_toArray, List.getElem_cons_succ, List.getElem_cons_zero, Act.put, List.setIfInBounds_toArray, List.set_cons_zero, List.set_cons_succ])
                  refine wpAnyH_take (i := 14) (v := undef) rfl (by kernel_rfl) (by kernel_rfl) (by kernel_rfl) (fun _ _ _ h => h) (Or.inr ⟨by rfl, rfl⟩) (by assumption) ?rqap14
                  (try simp only [List.getElem_toArray, List.getElem_cons_succ, List.getElem_cons_zero, Act.put, List.setIfInBounds_toArray, List.set_cons_zero, List.set_cons_succ])
                  refine wpAnyH_take (i := 15) (v := undef) rfl (by kernel_rfl) (by kernel_rfl) (by kernel_rfl) (fun _ _ _ h => h) (Or.inr ⟨by rfl, rfl⟩) (by assumption) ?rqap15
                  (try simp only [List.getElem_toArray, List.getElem_cons_succ, List.getElem_cons_zero, Act.put, List.setIfInBounds_toArray, List.set_cons_zero, List.set_cons_succ])
                  refine wpAnyH_take (i := 16) (v := undef) rfl (by kernel_rfl) (by kernel_rfl) (by kernel_rfl) (fun _ _ _ h => h) (Or.inr ⟨by rfl, rfl⟩) (by assumption) ?rqap16
                  (try simp only [List.getElem_toArray, List.getElem_cons_succ, List.getElem_cons_zero, Act.put, List.setIfInBounds_toArray, List.set_cons_zero, List.set_cons_succ])
                  refine wpAnyH_take (i := 17) (v := undef) rfl (by kernel_rfl) (by kernel_rfl) (by kernel_rfl) (fun _ _ _ h => h) (Or.inr ⟨by rfl, rfl⟩) (by assumption) ?rqap17
                  (try simp only [List.getElem_toArray, List.getElem_cons_succ, List.getElem_cons_zero, Act.put, List.setIfInBounds_toArray, List.set_cons_zero, List.set_cons_succ])
                  refine wpAnyH_take (i := 18) (v := undef) rfl (by kernel_rfl) (by kernel_rfl) (by kernel_rfl) (fun _ _ _ h => h) (Or.inr ⟨by rfl, rfl⟩) (by assumption) ?rqap18
                  (try simp only [List.getElem_toArray, List.getElem_cons_succ, List.getElem_cons_zero, Act.put, List.setIfInBounds_toArray, List.set_cons_zero, List.set_cons_succ])
                  refine wpAnyH_take (i := 19) (v := ?vqap19) rfl (by kernel_rfl) (by kernel_rfl) (by kernel_rfl) (fun _ _ _ h => h) (Or.inl ⟨by rfl, ?yqap19⟩) (by assumption) ?rqap19
                  case yqap19 => intro w hSw; (try dsimp only at hSw); go_simp <;> (try with_reducible rfl)
                  (try simp only [List.getElem_toArray, List.getElem_cons_succ, List.getElem_cons_zero, Act.put, List.setIfInBounds_toArray, List.set_cons_zero, List.set_cons_succ])
                  refine wpAnyH_done (by kernel_rfl) ?_ _
                  clear hHeld zz5_1
                  go_wp2
                  go_ret
                  exact ⟨by rw [hce.out]; rfl, hbe⟩
              · rw [hli] at HLI
                clear hli hpb
                have hl3 : g3 < wr.heap.size := B3.lt
                go_wp2_with (with_reducible refine wpList_alloc (o := ⟨some 5, .alloc 33, _, _, _, _⟩) (by with_unfolding_all rfl) 33 (by with_unfolding_all rfl) (.agg #[.string ByteArray.empty, .int .i64 0, .int .i64 0]) [Value.string ByteArray.empty, .int .i64 0, .int .i64 0] (by exact Tryd.zeroF) (by with_unfolding_all rfl) ?_)
                intro g5 w21 hg5 hs21 hb21 B5
                have hl5 : w.heap.size ≤ g5 := Nat.le_trans hbe.size (Nat.le_of_eq hg5.out.symm)
                have ne3_5 : g3 ≠ g5 := by have := B3.lt; have := hg5.out; omega
                have ne5_3 := ne3_5.symm
                have hb21 := hb21.mono (Nat.le_of_eq hg5.out.symm)
                have B3 := B3.next hb21 B3.lt
                have hbe := below_join hbe hb21
                clear hb21 hg5 hs21
                clear c0 c1 c2 hl3
                go_wp2_with (with_reducible refine wpList_put (o := ⟨none, .store 33 (.tmp 5) (.tmp 17), _, _, _, _⟩) (by with_unfolding_all rfl) 33 (.tmp 5) (.tmp 17) (by with_unfolding_all rfl) g5 0 (by with_unfolding_all rfl) (.agg #[.string fn, .int .i64 fa, .int .i64 fw]) (by with_unfolding_all rfl) B5 [Value.string fn, .int .i64 fa, .int .i64 fw] (by with_unfolding_all rfl) (by with_unfolding_all (first | exact Tryd.szF | (simp only [H_length, Pat.cells_length, List.length_append]; exact Tryd.szF))) (by with_unfolding_all (first | exact Nat.le_refl 3 | (simp only [H_length, Pat.cells_length, List.length_append]; omega))) (by with_unfolding_all (exact fields_one _ _ _)) ?_)
                intro w22 hu22 C5
                rw [splice_all _ _ (by rfl)] at C5
                have B3 := B3.upd hu22 ne3_5
                have hbe := hbe.trans (hu22.below (B := w.heap.size) hl5)
                clear B5 hu22
                have B5 := C5
                clear C5
                have h16d : decide (fa < 16) = false := decide_eq_false (by omega)
                have h16n : ¬ fa < 16 := by omega
                have h144g : fa ≥ 144 := h144
                go_wp2
                have hdd := below_drew w22
                have B3 := B3.next hdd B3.lt
                have B5 := B5.next hdd B5.lt
                have hbe := below_join hbe hdd
                refine wp_region_held_drew (S := fun w' => w'.cell? ⟨g5, 0, none⟩ = some (Value.string fn)) (by kernel_rfl) (B5.cell (k := 0) rfl) (fun hHeld => ?_)
                clear hdd
                generalize w22.drew = w23 at B3 B5 hbe hHeld  ⊢
                refine wpAnyH_take (i := 0) (v := ?vqaq0) rfl (by kernel_rfl) (by kernel_rfl) (by kernel_rfl) (fun _ _ _ h => h) (Or.inl ⟨by rfl, ?yqaq0⟩) (by assumption) ?rqaq0
                case yqaq0 => intro w hSw; (try dsimp only at hSw); go_simp <;> (try with_reducible rfl)
                (try simp only [List.getElem_toArray, List.getElem_cons_zero, Act.put, List.setIfInBounds_toArray, List.set_cons_zero, List.set_cons_succ])
                refine wpAnyH_take (i := 1) (v := ?vqaq1) rfl (by kernel_rfl) (by kernel_rfl) (by kernel_rfl) (fun _ _ _ h => h) (Or.inl ⟨by rfl, ?yqaq1⟩) (by assumption) ?rqaq1
                case yqaq1 => intro w hSw; (try dsimp only at hSw); go_simp <;> (try with_reducible rfl)
                (try simp only [List.getElem_toArray, List.getElem_cons_succ, List.getElem_cons_zero, Act.put, List.setIfInBounds_toArray, List.set_cons_zero, List.set_cons_succ])
                refine wpAnyH_take (i := 2) (v := ?vqaq2) rfl (by kernel_rfl) (by kernel_rfl) (by kernel_rfl) (fun _ _ _ h => h) (Or.inl ⟨by rfl, ?yqaq2⟩) (by assumption) ?rqaq2
                case yqaq2 => intro w hSw; (try dsimp only at hSw); go_simp <;> (try with_reducible rfl)
                (try simp only [List.getElem_toArray, List.getElem_cons_succ, List.getElem_cons_zero, Act.put, List.setIfInBounds_toArray, List.set_cons_zero, List.set_cons_succ])
                refine wpAnyH_take (i := 3) (v := ?vqaq3) rfl (by kernel_rfl) (by kernel_rfl) (by kernel_rfl) (fun _ _ _ h => h) (Or.inl ⟨by rfl, ?yqaq3⟩) (by assumption) ?rqaq3
                case yqaq3 => intro w hSw; (try dsimp only at hSw); go_simp <;> (try with_reducible rfl)
                (try simp only [List.getElem_toArray, List.getElem_cons_succ, List.getElem_cons_zero, Act.put, List.setIfInBounds_toArray, List.set_cons_zero, List.set_cons_succ])
                refine wpAnyH_take (i := 4) (v := ?vqaq4) rfl (by kernel_rfl) (by kernel_rfl) (by kernel_rfl) (fun _ _ _ h => h) (Or.inl ⟨by rfl, ?yqaq4⟩) (by assumption) ?rqaq4
                case yqaq4 => intro w hSw; have hSc := hSw; go_simp <;> (try with_reducible rfl)
                (try simp only [List.getElem_toArray, List.getElem_cons_succ, List.getElem_cons_zero, Act.put, List.setIfInBounds_toArray, List.set_cons_zero, List.set_cons_succ])
                refine wpAnyH_ready (rs := [5, 9]) (by kernel_rfl) (by simp) ?_
                refine AllReadyH.cons rfl (fun K hK => ?_) (AllReadyH.cons rfl (fun K hK => ?_) AllReadyH.nil)
                · skip
                  go_simp
                  go_wp2_with fail
                  (with_reducible refine (HFI.out _ hbe).mono ?_)
                  rintro e w24 ⟨rfl, hb24⟩
                  have B3 := B3.next hb24 B3.lt
                  have B5 := B5.next hb24 B5.lt
                  have hbe := below_join hbe hb24
                  refine hK.out _ _ (B5.cell (k := 0) rfl) (fun hHeld => ?_)
                  clear hK K hb24
                  refine wpAnyH_take (i := 6) (v := ?vqar6) rfl (by kernel_rfl) (by kernel_rfl) (by kernel_rfl) (fun _ _ _ h => h) (Or.inl ⟨by rfl, ?yqar6⟩) (by assumption) ?rqar6
                  case yqar6 => intro w hSw; (try dsimp only at hSw); go_simp <;> (try with_reducible rfl)
                  (try simp only [List.getElem_toArray, List.getElem_cons_succ, List.getElem_cons_zero, Act.put, List.setIfInBounds_toArray, List.set_cons_zero, List.set_cons_succ])
                  refine wpAnyH_take (i := 7) (v := ?vqar7) rfl (by kernel_rfl) (by kernel_rfl) (by kernel_rfl) (fun _ _ _ h => h) (Or.inl ⟨by rfl, ?yqar7⟩) (by assumption) ?rqar7
                  case yqar7 => intro w hSw; (try dsimp only at hSw); go_simp <;> (try with_reducible rfl)
                  (try simp only [List.getElem_toArray, List.getElem_cons_succ, List.getElem_cons_zero, Act.put, List.setIfInBounds_toArray, List.set_cons_zero, List.set_cons_succ])
                  refine wpAnyH_take (i := 8) (v := ?vqar8) rfl (by kernel_rfl) (by kernel_rfl) (by kernel_rfl) (fun _ _ _ h => h) (Or.inl ⟨by rfl, ?yqar8⟩) (by assumption) ?rqar8
                  case yqar8 => intro w hSw; (try dsimp only at hSw); go_simp <;> (try with_reducible rfl)
                  (try simp only [List.getElem_toArray, List.getElem_cons_succ, List.getElem_cons_zero, Act.put, List.setIfInBounds_toArray, List.set_cons_zero, List.set_cons_succ])
                  refine wpAnyH_ready (rs := [9]) (by kernel_rfl) (by simp) ?_
                  refine AllReadyH.cons rfl (fun K hK => ?_) AllReadyH.nil
                  rw [if_pos (by rfl)]
                  refine wp_allocz 33 rfl (.agg #[.string ByteArray.empty, .int .i64 0, .int .i64 0]) [Value.string ByteArray.empty, .int .i64 0, .int .i64 0] Tryd.zeroF rfl ?_
                  intro g6 w25 hg6 hs25 hb25 B6
                  have hl6 : w.heap.size ≤ g6 := Nat.le_trans hbe.size (Nat.le_of_eq hg6.out.symm)
                  have ne3_6 : g3 ≠ g6 := by have := B3.lt; have := hg6.out; omega
                  have ne6_3 := ne3_6.symm
                  have ne5_6 : g5 ≠ g6 := by have := B5.lt; have := hg6.out; omega
                  have ne6_5 := ne5_6.symm
                  have hb25 := hb25.mono (Nat.le_of_eq hg6.out.symm)
                  have B3 := B3.next hb25 B3.lt
                  have B5 := B5.next hb25 B5.lt
                  have hbe := below_join hbe hb25
                  clear hb25 hg6 hs25
                  refine hK.out _ _ (B5.cell (k := 0) rfl) (fun hHeld => ?_)
                  clear hK K
                  refine wpAnyH_ready (rs := [10]) (by kernel_rfl) (by simp) ?_
                  refine AllReadyH.cons rfl (fun K hK => ?_) AllReadyH.nil
                  rw [if_pos (by rfl)]
                  refine wp_put 33 (.tmp 6) (.tmp 25) rfl g6 0 rfl (.agg [Value.string ByteArray.empty, .int .i64 0, .int .i64 0].toArray) rfl B6 [Value.string ByteArray.empty, .int .i64 0, .int .i64 0] rfl (by first | exact Tryd.szF | (simp only [H_length, Pat.cells_length, List.length_append]; exact Tryd.szF)) (by first | exact Nat.le_refl 3 | (simp only [H_length, Pat.cells_length, List.length_append]; omega)) (fields_one _ _ _) ?_
                  intro w26 hu26 C6
                  rw [splice_all _ _ (by rfl)] at C6
                  have B3 := B3.upd hu26 ne3_6
                  have B5 := B5.upd hu26 ne5_6
                  have hbe := hbe.trans (hu26.below (B := w.heap.size) hl6)
                  clear B6 hu26
                  have B6 := C6
                  clear C6
                  refine hK.out _ _ (B5.cell (k := 0) rfl) (fun hHeld => ?_)
                  clear hK K
                  refine wpAnyH_take (i := 11) (v := ?vqar11) rfl (by kernel_rfl) (by kernel_rfl) (by kernel_rfl) (fun _ _ _ h => h) (Or.inl ⟨by rfl, ?yqar11⟩) (by assumption) ?rqar11
                  case yqar11 => intro w hSw; (try dsimp only at hSw); go_simp <;> (try with_reducible rfl)
                  (try simp only [List.getElem_toArray, List.getElem_cons_succ, List.getElem_cons_zero, Act.put, List.setIfInBounds_toArray, List.set_cons_zero, List.set_cons_succ])
                  refine wpAnyH_done (by kernel_rfl) ?_ _
                  clear hHeld 
                  have z5_0 := B5.cell (k := 0) rfl
                  have z5_1 := B5.cell (k := 1) rfl
                  have z5_2 := B5.cell (k := 2) rfl
                  go_wp2_with fail
                  (with_reducible refine (HNM.out _).mono ?_)
                  rintro e w27 ⟨rfl, hb27⟩
                  clear z5_0 z5_1 z5_2
                  have B3 := B3.next hb27 B3.lt
                  have B5 := B5.next hb27 B5.lt
                  have B6 := B6.next hb27 B6.lt
                  have hbe := below_join hbe hb27
                  clear hb27
                  go_wp2
                  have hdd := below_drew w27
                  have B3 := B3.next hdd B3.lt
                  have B5 := B5.next hdd B5.lt
                  have B6 := B6.next hdd B6.lt
                  have hbe := below_join hbe hdd
                  have zz5_1 : (Tryd.prog.info? 33).map (·.size) = some [Value.string fn, .int .i64 fa, .int .i64 fw].length := (by first | exact Tryd.szF | (simp only [H_length, Pat.cells_length, List.length_append]; exact Tryd.szF))
                  refine wp_region_held_drew (S := fun w' => w'.rangeAt g5 0 [Value.string fn, .int .i64 fa, .int .i64 fw] ∧ w'.cell? ⟨g5, 1, none⟩ = some (.int .i64 fa)) (by kernel_rfl) ⟨blk_range B5, B5.cell (k := 1) rfl⟩ (fun hHeld => ?_)
                  clear hdd
                  generalize w27.drew = w28 at B3 B5 B6 hbe hHeld  ⊢
                  refine' wpAnyH_take (i := 0) (v := _) rfl (by kernel_rfl) (by kernel_rfl) (by kernel_rfl) (fun _ _ _ h => h) (yieldsIf_load_mid (by rfl) _ _ (by rfl) _ _ (by rfl) _ _ ?Sqas0 ?uqas0 ?dqas0 ?iqas0) (by assumption) ?rqas0
                  case Sqas0 => exact (by intro w h; exact h.1)
                  case uqas0 => exact Tryd.underlying33
                  case dqas0 => rfl
                  case iqas0 => exact zz5_1
                  (try simp only [List.getElem_toArray, List.getElem_cons_zero, Act.put, List.setIfInBounds_toArray, List.set_cons_zero, List.set_cons_succ])
                  refine wpAnyH_ready (rs := [1]) (by kernel_rfl) (by simp) ?_
                  refine AllReadyH.cons rfl (fun K hK => ?_) AllReadyH.nil
                  go_simp
                  go_wp2_with fail
                  (with_reducible refine (HLI.out _).mono ?_)
                  rintro e w29 ⟨rfl, hb29⟩
                  have B3 := B3.next hb29 B3.lt
                  have B5 := B5.next hb29 B5.lt
                  have B6 := B6.next hb29 B6.lt
                  have hbe := below_join hbe hb29
                  refine hK.out _ _ ⟨blk_range B5, B5.cell (k := 1) rfl⟩ (fun hHeld => ?_)
                  clear hK K hb29
                  refine wpAnyH_take (i := 2) (v := ?vqas2) rfl (by kernel_rfl) (by kernel_rfl) (by kernel_rfl) (fun _ _ _ h => h) (Or.inl ⟨by rfl, ?yqas2⟩) (by assumption) ?rqas2
                  case yqas2 => intro w hSw; (try dsimp only at hSw); go_simp <;> (try with_reducible rfl)
                  (try simp only [List.getElem_toArray, List.getElem_cons_succ, List.getElem_cons_zero, Act.put, List.setIfInBounds_toArray, List.set_cons_zero, List.set_cons_succ])
                  refine wpAnyH_take (i := 3) (v := ?vqas3) rfl (by kernel_rfl) (by kernel_rfl) (by kernel_rfl) (fun _ _ _ h => h) (Or.inl ⟨by rfl, ?yqas3⟩) (by assumption) ?rqas3
                  case yqas3 => intro w hSw; (try dsimp only at hSw); go_simp <;> (try with_reducible rfl)
                  (try simp only [List.getElem_toArray, List.getElem_cons_succ, List.getElem_cons_zero, Act.put, List.setIfInBounds_toArray, List.set_cons_zero, List.set_cons_succ])
                  refine wpAnyH_take (i := 4) (v := ?vqas4) rfl (by kernel_rfl) (by kernel_rfl) (by kernel_rfl) (fun _ _ _ h => h) (Or.inl ⟨by rfl, ?yqas4⟩) (by assumption) ?rqas4
                  case yqas4 => intro w hSw; (try dsimp only at hSw); go_simp <;> (try with_reducible rfl)
                  (try simp only [List.getElem_toArray, List.getElem_cons_succ, List.getElem_cons_zero, Act.put, List.setIfInBounds_toArray, List.set_cons_zero, List.set_cons_succ])
                  refine wpAnyH_take (i := 5) (v := ?vqas5) rfl (by kernel_rfl) (by kernel_rfl) (by kernel_rfl) (fun _ _ _ h => h) (Or.inl ⟨by rfl, ?yqas5⟩) (by assumption) ?rqas5
                  case yqas5 => intro w hSw; have hSc := hSw.2; go_simp <;> (try with_reducible rfl)
                  (try simp only [List.getElem_toArray, List.getElem_cons_succ, List.getElem_cons_zero, Act.put, List.setIfInBounds_toArray, List.set_cons_zero, List.set_cons_succ])
                  refine wpAnyH_take (i := 6) (v := ?vqas6) rfl (by kernel_rfl) (by kernel_rfl) (by kernel_rfl) (fun _ _ _ h => h) (Or.inl ⟨by rfl, ?yqas6⟩) (by assumption) ?rqas6
                  case yqas6 => intro w hSw; (try dsimp only at hSw); go_simp <;> (try with_reducible rfl)
                  (try simp only [List.getElem_toArray, List.getElem_cons_succ, List.getElem_cons_zero, Act.put, List.setIfInBounds_toArray, List.set_cons_zero, List.set_cons_succ])
                  refine wpAnyH_take (i := 7) (v := ?vqas7) rfl (by kernel_rfl) (by kernel_rfl) (by kernel_rfl) (fun _ _ _ h => h) (Or.inl ⟨by rfl, ?yqas7⟩) (by assumption) ?rqas7
                  case yqas7 => intro w hSw; (try dsimp only at hSw); go_simp <;> (try with_reducible rfl)
                  (try simp only [List.getElem_toArray, List.getElem_cons_succ, List.getElem_cons_zero, Act.put, List.setIfInBounds_toArray, List.set_cons_zero, List.set_cons_succ])
                  refine wpAnyH_take (i := 8) (v := ?vqas8) rfl (by kernel_rfl) (by kernel_rfl) (by kernel_rfl) (fun _ _ _ h => h) (Or.inl ⟨by rfl, ?yqas8⟩) (by assumption) ?rqas8
                  case yqas8 => intro w hSw; (try dsimp only at hSw); go_simp <;> (try with_reducible rfl)
                  (try simp only [List.getElem_toArray, List.getElem_cons_succ, List.getElem_cons_zero, Act.put, List.setIfInBounds_toArray, List.set_cons_zero, List.set_cons_succ])
                  refine wpAnyH_take (i := 9) (v := ?vqas9) rfl (by kernel_rfl) (by kernel_rfl) (by kernel_rfl) (fun _ _ _ h => h) (Or.inl ⟨by rfl, ?yqas9⟩) (by assumption) ?rqas9
                  case yqas9 => intro w hSw; (try dsimp only at hSw); go_simp <;> (try with_reducible rfl)
                  (try simp only [List.getElem_toArray, List.getElem_cons_succ, List.getElem_cons_zero, Act.put, List.setIfInBounds_toArray, List.set_cons_zero, List.set_cons_succ])
                  refine wpAnyH_take (i := 10) (v := ?vqas10) rfl (by kernel_rfl) (by kernel_rfl) (by kernel_rfl) (fun _ _ _ h => h) (Or.inl ⟨by rfl, ?yqas10⟩) (by assumption) ?rqas10
                  case yqas10 => intro w hSw; have hSc := hSw.2; go_simp <;> (try with_reducible rfl)
                  (try simp only [List.getElem_toArray, List.getElem_cons_succ, List.getElem_cons_zero, Act.put, List.setIfInBounds_toArray, List.set_cons_zero, List.set_cons_succ])
                  refine wpAnyH_take (i := 11) (v := ?vqas11) rfl (by kernel_rfl) (by kernel_rfl) (by kernel_rfl) (fun _ _ _ h => h) (Or.inl ⟨by rfl, ?yqas11⟩) (by assumption) ?rqas11
                  case yqas11 => intro w hSw; (try dsimp only at hSw); go_simp <;> (try with_reducible rfl)
                  (try simp only [List.getElem_toArray, List.getElem_cons_succ, List.getElem_cons_zero, Act.put, List.setIfInBounds_toArray, List.set_cons_zero, List.set_cons_succ])
                  refine wpAnyH_take (i := 12) (v := ?vqas12) rfl (by kernel_rfl) (by kernel_rfl) (by kernel_rfl) (fun _ _ _ h => h) (Or.inl ⟨by rfl, ?yqas12⟩) (by assumption) ?rqas12
                  case yqas12 => intro w hSw; (try dsimp only at hSw); go_simp <;> (try with_reducible rfl)
                  (try simp only [List.getElem_toArray, List.getElem_cons_succ, List.getElem_cons_zero, Act.put, List.setIfInBounds_toArray, List.set_cons_zero, List.set_cons_succ])
                  refine wpAnyH_take (i := 13) (v := ?vqas13) rfl (by kernel_rfl) (by kernel_rfl) (by kernel_rfl) (fun _ _ _ h => h) (Or.inl ⟨by rfl, ?yqas13⟩) (by assumption) ?rqas13
                  case yqas13 => intro w hSw; (try dsimp only at hSw); go_simp <;> (try with_reducible rfl)
                  (try simp only [List.getElem_toArray, List.getElem_cons_succ, List.getElem_cons_zero, Act.put, List.setIfInBounds_toArray, List.set_cons_zero, List.set_cons_succ])
                  refine wpAnyH_take (i := 14) (v := undef) rfl (by kernel_rfl) (by kernel_rfl) (by kernel_rfl) (fun _ _ _ h => h) (Or.inr ⟨by rfl, rfl⟩) (by assumption) ?rqas14
                  (try simp only [List.getElem_toArray, List.getElem_cons_succ, List.getElem_cons_zero, Act.put, List.setIfInBounds_toArray, List.set_cons_zero, List.set_cons_succ])
                  refine wpAnyH_take (i := 15) (v := undef) rfl (by kernel_rfl) (by kernel_rfl) (by kernel_rfl) (fun _ _ _ h => h) (Or.inr ⟨by rfl, rfl⟩) (by assumption) ?rqas15
                  (try simp only [List.getElem_toArray, List.getElem_cons_succ, List.getElem_cons_zero, Act.put, List.setIfInBounds_toArray, List.set_cons_zero, List.set_cons_succ])
                  refine wpAnyH_take (i := 16) (v := undef) rfl (by kernel_rfl) (by kernel_rfl) (by kernel_rfl) (fun _ _ _ h => h) (Or.inr ⟨by rfl, rfl⟩) (by assumption) ?rqas16
                  (try simp only [List.getElem_toArray, List.getElem_cons_succ, List.getElem_cons_zero, Act.put, List.setIfInBounds_toArray, List.set_cons_zero, List.set_cons_succ])
                  refine wpAnyH_take (i := 17) (v := undef) rfl (by kernel_rfl) (by kernel_rfl) (by kernel_rfl) (fun _ _ _ h => h) (Or.inr ⟨by rfl, rfl⟩) (by assumption) ?rqas17
                  (try simp only [List.getElem_toArray, List.getElem_cons_succ, List.getElem_cons_zero, Act.put, List.setIfInBounds_toArray, List.set_cons_zero, List.set_cons_succ])
                  refine wpAnyH_take (i := 18) (v := undef) rfl (by kernel_rfl) (by kernel_rfl) (by kernel_rfl) (fun _ _ _ h => h) (Or.inr ⟨by rfl, rfl⟩) (by assumption) ?rqas18
                  (try simp only [List.getElem_toArray, List.getElem_cons_succ, List.getElem_cons_zero, Act.put, List.setIfInBounds_toArray, List.set_cons_zero, List.set_cons_succ])
                  refine wpAnyH_take (i := 19) (v := ?vqas19) rfl (by kernel_rfl) (by kernel_rfl) (by kernel_rfl) (fun _ _ _ h => h) (Or.inl ⟨by rfl, ?yqas19⟩) (by assumption) ?rqas19
                  case yqas19 => intro w hSw; (try dsimp only at hSw); go_simp <;> (try with_reducible rfl)
                  (try simp only [List.getElem_toArray, List.getElem_cons_succ, List.getElem_cons_zero, Act.put, List.setIfInBounds_toArray, List.set_cons_zero, List.set_cons_succ])
                  refine wpAnyH_done (by kernel_rfl) ?_ _
                  clear hHeld zz5_1
                  go_wp2
                  go_ret
                  exact ⟨by rw [hce.out]; rfl, hbe⟩
                · skip
                  rw [if_pos (by rfl)]
                  refine wp_allocz 33 rfl (.agg #[.string ByteArray.empty, .int .i64 0, .int .i64 0]) [Value.string ByteArray.empty, .int .i64 0, .int .i64 0] Tryd.zeroF rfl ?_
                  intro g6 w24 hg6 hs24 hb24 B6
                  have hl6 : w.heap.size ≤ g6 := Nat.le_trans hbe.size (Nat.le_of_eq hg6.out.symm)
                  have ne3_6 : g3 ≠ g6 := by have := B3.lt; have := hg6.out; omega
                  have ne6_3 := ne3_6.symm
                  have ne5_6 : g5 ≠ g6 := by have := B5.lt; have := hg6.out; omega
                  have ne6_5 := ne5_6.symm
                  have hb24 := hb24.mono (Nat.le_of_eq hg6.out.symm)
                  have B3 := B3.next hb24 B3.lt
                  have B5 := B5.next hb24 B5.lt
                  have hbe := below_join hbe hb24
                  clear hb24 hg6 hs24
                  refine hK.out _ _ (B5.cell (k := 0) rfl) (fun hHeld => ?_)
                  clear hK K
                  refine wpAnyH_ready (rs := [5]) (by kernel_rfl) (by simp) ?_
                  refine AllReadyH.cons rfl (fun K hK => ?_) AllReadyH.nil
                  go_simp
                  go_wp2_with fail
                  (with_reducible refine (HFI.out _ hbe).mono ?_)
                  rintro e w25 ⟨rfl, hb25⟩
                  have B3 := B3.next hb25 B3.lt
                  have B5 := B5.next hb25 B5.lt
                  have B6 := B6.next hb25 B6.lt
                  have hbe := below_join hbe hb25
                  refine hK.out _ _ (B5.cell (k := 0) rfl) (fun hHeld => ?_)
                  clear hK K hb25
                  refine wpAnyH_take (i := 6) (v := ?vqat6) rfl (by kernel_rfl) (by kernel_rfl) (by kernel_rfl) (fun _ _ _ h => h) (Or.inl ⟨by rfl, ?yqat6⟩) (by assumption) ?rqat6
                  case yqat6 => intro w hSw; (try dsimp only at hSw); go_simp <;> (try with_reducible rfl)
                  (try simp only [List.getElem_toArray, List.getElem_cons_succ, List.getElem_cons_zero, Act.put, List.setIfInBounds_toArray, List.set_cons_zero, List.set_cons_succ])
                  refine wpAnyH_take (i := 7) (v := ?vqat7) rfl (by kernel_rfl) (by kernel_rfl) (by kernel_rfl) (fun _ _ _ h => h) (Or.inl ⟨by rfl, ?yqat7⟩) (by assumption) ?rqat7
                  case yqat7 => intro w hSw; (try dsimp only at hSw); go_simp <;> (try with_reducible rfl)
                  (try simp only [List.getElem_toArray, List.getElem_cons_succ, List.getElem_cons_zero, Act.put, List.setIfInBounds_toArray, List.set_cons_zero, List.set_cons_succ])
                  refine wpAnyH_take (i := 8) (v := ?vqat8) rfl (by kernel_rfl) (by kernel_rfl) (by kernel_rfl) (fun _ _ _ h => h) (Or.inl ⟨by rfl, ?yqat8⟩) (by assumption) ?rqat8
                  case yqat8 => intro w hSw; (try dsimp only at hSw); go_simp <;> (try with_reducible rfl)
                  (try simp only [List.getElem_toArray, List.getElem_cons_succ, List.getElem_cons_zero, Act.put, List.setIfInBounds_toArray, List.set_cons_zero, List.set_cons_succ])
                  refine wpAnyH_ready (rs := [10]) (by kernel_rfl) (by simp) ?_
                  refine AllReadyH.cons rfl (fun K hK => ?_) AllReadyH.nil
                  rw [if_pos (by rfl)]
                  refine wp_put 33 (.tmp 6) (.tmp 25) rfl g6 0 rfl (.agg [Value.string ByteArray.empty, .int .i64 0, .int .i64 0].toArray) rfl B6 [Value.string ByteArray.empty, .int .i64 0, .int .i64 0] rfl (by first | exact Tryd.szF | (simp only [H_length, Pat.cells_length, List.length_append]; exact Tryd.szF)) (by first | exact Nat.le_refl 3 | (simp only [H_length, Pat.cells_length, List.length_append]; omega)) (fields_one _ _ _) ?_
                  intro w26 hu26 C6
                  rw [splice_all _ _ (by rfl)] at C6
                  have B3 := B3.upd hu26 ne3_6
                  have B5 := B5.upd hu26 ne5_6
                  have hbe := hbe.trans (hu26.below (B := w.heap.size) hl6)
                  clear B6 hu26
                  have B6 := C6
                  clear C6
                  refine hK.out _ _ (B5.cell (k := 0) rfl) (fun hHeld => ?_)
                  clear hK K
                  refine wpAnyH_take (i := 11) (v := ?vqat11) rfl (by kernel_rfl) (by kernel_rfl) (by kernel_rfl) (fun _ _ _ h => h) (Or.inl ⟨by rfl, ?yqat11⟩) (by assumption) ?rqat11
                  case yqat11 => intro w hSw; (try dsimp only at hSw); go_simp <;> (try with_reducible rfl)
                  (try simp only [List.getElem_toArray, List.getElem_cons_succ, List.getElem_cons_zero, Act.put, List.setIfInBounds_toArray, List.set_cons_zero, List.set_cons_succ])
                  refine wpAnyH_done (by kernel_rfl) ?_ _
                  clear hHeld 
                  have z5_0 := B5.cell (k := 0) rfl
                  have z5_1 := B5.cell (k := 1) rfl
                  have z5_2 := B5.cell (k := 2) rfl
                  go_wp2_with fail
                  (with_reducible refine (HNM.out _).mono ?_)
                  rintro e w27 ⟨rfl, hb27⟩
                  clear z5_0 z5_1 z5_2
                  have B3 := B3.next hb27 B3.lt
                  have B5 := B5.next hb27 B5.lt
                  have B6 := B6.next hb27 B6.lt
                  have hbe := below_join hbe hb27
                  clear hb27
                  go_wp2
                  have hdd := below_drew w27
                  have B3 := B3.next hdd B3.lt
                  have B5 := B5.next hdd B5.lt
                  have B6 := B6.next hdd B6.lt
                  have hbe := below_join hbe hdd
                  have zz5_1 : (Tryd.prog.info? 33).map (·.size) = some [Value.string fn, .int .i64 fa, .int .i64 fw].length := (by first | exact Tryd.szF | (simp only [H_length, Pat.cells_length, List.length_append]; exact Tryd.szF))
                  refine wp_region_held_drew (S := fun w' => w'.rangeAt g5 0 [Value.string fn, .int .i64 fa, .int .i64 fw] ∧ w'.cell? ⟨g5, 1, none⟩ = some (.int .i64 fa)) (by kernel_rfl) ⟨blk_range B5, B5.cell (k := 1) rfl⟩ (fun hHeld => ?_)
                  clear hdd
                  generalize w27.drew = w28 at B3 B5 B6 hbe hHeld  ⊢
                  refine' wpAnyH_take (i := 0) (v := _) rfl (by kernel_rfl) (by kernel_rfl) (by kernel_rfl) (fun _ _ _ h => h) (yieldsIf_load_mid (by rfl) _ _ (by rfl) _ _ (by rfl) _ _ ?Sqau0 ?uqau0 ?dqau0 ?iqau0) (by assumption) ?rqau0
                  case Sqau0 => exact (by intro w h; exact h.1)
                  case uqau0 => exact Tryd.underlying33
                  case dqau0 => rfl
                  case iqau0 => exact zz5_1
                  (try simp only [List.getElem_toArray, List.getElem_cons_zero, Act.put, List.setIfInBounds_toArray, List.set_cons_zero, List.set_cons_succ])
                  refine wpAnyH_ready (rs := [1]) (by kernel_rfl) (by simp) ?_
                  refine AllReadyH.cons rfl (fun K hK => ?_) AllReadyH.nil
                  go_simp
                  go_wp2_with fail
                  (with_reducible refine (HLI.out _).mono ?_)
                  rintro e w29 ⟨rfl, hb29⟩
                  have B3 := B3.next hb29 B3.lt
                  have B5 := B5.next hb29 B5.lt
                  have B6 := B6.next hb29 B6.lt
                  have hbe := below_join hbe hb29
                  refine hK.out _ _ ⟨blk_range B5, B5.cell (k := 1) rfl⟩ (fun hHeld => ?_)
                  clear hK K hb29
                  refine wpAnyH_take (i := 2) (v := ?vqau2) rfl (by kernel_rfl) (by kernel_rfl) (by kernel_rfl) (fun _ _ _ h => h) (Or.inl ⟨by rfl, ?yqau2⟩) (by assumption) ?rqau2
                  case yqau2 => intro w hSw; (try dsimp only at hSw); go_simp <;> (try with_reducible rfl)
                  (try simp only [List.getElem_toArray, List.getElem_cons_succ, List.getElem_cons_zero, Act.put, List.setIfInBounds_toArray, List.set_cons_zero, List.set_cons_succ])
                  refine wpAnyH_take (i := 3) (v := ?vqau3) rfl (by kernel_rfl) (by kernel_rfl) (by kernel_rfl) (fun _ _ _ h => h) (Or.inl ⟨by rfl, ?yqau3⟩) (by assumption) ?rqau3
                  case yqau3 => intro w hSw; (try dsimp only at hSw); go_simp <;> (try with_reducible rfl)
                  (try simp only [List.getElem_toArray, List.getElem_cons_succ, List.getElem_cons_zero, Act.put, List.setIfInBounds_toArray, List.set_cons_zero, List.set_cons_succ])
                  refine wpAnyH_take (i := 4) (v := ?vqau4) rfl (by kernel_rfl) (by kernel_rfl) (by kernel_rfl) (fun _ _ _ h => h) (Or.inl ⟨by rfl, ?yqau4⟩) (by assumption) ?rqau4
                  case yqau4 => intro w hSw; (try dsimp only at hSw); go_simp <;> (try with_reducible rfl)
                  (try simp only [List.getElem_toArray, List.getElem_cons_succ, List.getElem_cons_zero, Act.put, List.setIfInBounds_toArray, List.set_cons_zero, List.set_cons_succ])
                  refine wpAnyH_take (i := 5) (v := ?vqau5) rfl (by kernel_rfl) (by kernel_rfl) (by kernel_rfl) (fun _ _ _ h => h) (Or.inl ⟨by rfl, ?yqau5⟩) (by assumption) ?rqau5
                  case yqau5 => intro w hSw; have hSc := hSw.2; go_simp <;> (try with_reducible rfl)
                  (try simp only [List.getElem_toArray, List.getElem_cons_succ, List.getElem_cons_zero, Act.put, List.setIfInBounds_toArray, List.set_cons_zero, List.set_cons_succ])
                  refine wpAnyH_take (i := 6) (v := ?vqau6) rfl (by kernel_rfl) (by kernel_rfl) (by kernel_rfl) (fun _ _ _ h => h) (Or.inl ⟨by rfl, ?yqau6⟩) (by assumption) ?rqau6
                  case yqau6 => intro w hSw; (try dsimp only at hSw); go_simp <;> (try with_reducible rfl)
                  (try simp only [List.getElem_toArray, List.getElem_cons_succ, List.getElem_cons_zero, Act.put, List.setIfInBounds_toArray, List.set_cons_zero, List.set_cons_succ])
                  refine wpAnyH_take (i := 7) (v := ?vqau7) rfl (by kernel_rfl) (by kernel_rfl) (by kernel_rfl) (fun _ _ _ h => h) (Or.inl ⟨by rfl, ?yqau7⟩) (by assumption) ?rqau7
                  case yqau7 => intro w hSw; (try dsimp only at hSw); go_simp <;> (try with_reducible rfl)
                  (try simp only [List.getElem_toArray, List.getElem_cons_succ, List.getElem_cons_zero, Act.put, List.setIfInBounds_toArray, List.set_cons_zero, List.set_cons_succ])
                  refine wpAnyH_take (i := 8) (v := ?vqau8) rfl (by kernel_rfl) (by kernel_rfl) (by kernel_rfl) (fun _ _ _ h => h) (Or.inl ⟨by rfl, ?yqau8⟩) (by assumption) ?rqau8
                  case yqau8 => intro w hSw; (try dsimp only at hSw); go_simp <;> (try with_reducible rfl)
                  (try simp only [List.getElem_toArray, List.getElem_cons_succ, List.getElem_cons_zero, Act.put, List.setIfInBounds_toArray, List.set_cons_zero, List.set_cons_succ])
                  refine wpAnyH_take (i := 9) (v := ?vqau9) rfl (by kernel_rfl) (by kernel_rfl) (by kernel_rfl) (fun _ _ _ h => h) (Or.inl ⟨by rfl, ?yqau9⟩) (by assumption) ?rqau9
                  case yqau9 => intro w hSw; (try dsimp only at hSw); go_simp <;> (try with_reducible rfl)
                  (try simp only [List.getElem_toArray, List.getElem_cons_succ, List.getElem_cons_zero, Act.put, List.setIfInBounds_toArray, List.set_cons_zero, List.set_cons_succ])
                  refine wpAnyH_take (i := 10) (v := ?vqau10) rfl (by kernel_rfl) (by kernel_rfl) (by kernel_rfl) (fun _ _ _ h => h) (Or.inl ⟨by rfl, ?yqau10⟩) (by assumption) ?rqau10
                  case yqau10 => intro w hSw; have hSc := hSw.2; go_simp <;> (try with_reducible rfl)
                  (try simp only [List.getElem_toArray, List.getElem_cons_succ, List.getElem_cons_zero, Act.put, List.setIfInBounds_toArray, List.set_cons_zero, List.set_cons_succ])
                  refine wpAnyH_take (i := 11) (v := ?vqau11) rfl (by kernel_rfl) (by kernel_rfl) (by kernel_rfl) (fun _ _ _ h => h) (Or.inl ⟨by rfl, ?yqau11⟩) (by assumption) ?rqau11
                  case yqau11 => intro w hSw; (try dsimp only at hSw); go_simp <;> (try with_reducible rfl)
                  (try simp only [List.getElem_toArray, List.getElem_cons_succ, List.getElem_cons_zero, Act.put, List.setIfInBounds_toArray, List.set_cons_zero, List.set_cons_succ])
                  refine wpAnyH_take (i := 12) (v := ?vqau12) rfl (by kernel_rfl) (by kernel_rfl) (by kernel_rfl) (fun _ _ _ h => h) (Or.inl ⟨by rfl, ?yqau12⟩) (by assumption) ?rqau12
                  case yqau12 => intro w hSw; (try dsimp only at hSw); go_simp <;> (try with_reducible rfl)
                  (try simp only [List.getElem_toArray, List.getElem_cons_succ, List.getElem_cons_zero, Act.put, List.setIfInBounds_toArray, List.set_cons_zero, List.set_cons_succ])
                  refine wpAnyH_take (i := 13) (v := ?vqau13) rfl (by kernel_rfl) (by kernel_rfl) (by kernel_rfl) (fun _ _ _ h => h) (Or.inl ⟨by rfl, ?yqau13⟩) (by assumption) ?rqau13
                  case yqau13 => intro w hSw; (try dsimp only at hSw); go_simp <;> (try with_reducible rfl)
                  (try simp only [List.getElem_toArray, List.getElem_cons_succ, List.getElem_cons_zero, Act.put, List.setIfInBounds_toArray, List.set_cons_zero, List.set_cons_succ])
                  refine wpAnyH_take (i := 14) (v := undef) rfl (by kernel_rfl) (by kernel_rfl) (by kernel_rfl) (fun _ _ _ h => h) (Or.inr ⟨by rfl, rfl⟩) (by assumption) ?rqau14
                  (try simp only [List.getElem_toArray, List.getElem_cons_succ, List.getElem_cons_zero, Act.put, List.setIfInBounds_toArray, List.set_cons_zero, List.set_cons_succ])
                  refine wpAnyH_take (i := 15) (v := undef) rfl (by kernel_rfl) (by kernel_rfl) (by kernel_rfl) (fun _ _ _ h => h) (Or.inr ⟨by rfl, rfl⟩) (by assumption) ?rqau15
                  (try simp only [List.getElem_toArray, List.getElem_cons_succ, List.getElem_cons_zero, Act.put, List.setIfInBounds_toArray, List.set_cons_zero, List.set_cons_succ])
                  refine wpAnyH_take (i := 16) (v := undef) rfl (by kernel_rfl) (by kernel_rfl) (by kernel_rfl) (fun _ _ _ h => h) (Or.inr ⟨by rfl, rfl⟩) (by assumption) ?rqau16
                  (try simp only [List.getElem_toArray, List.getElem_cons_succ, List.getElem_cons_zero, Act.put, List.setIfInBounds_toArray, List.set_cons_zero, List.set_cons_succ])
                  refine wpAnyH_take (i := 17) (v := undef) rfl (by kernel_rfl) (by kernel_rfl) (by kernel_rfl) (fun _ _ _ h => h) (Or.inr ⟨by rfl, rfl⟩) (by assumption) ?rqau17
                  (try simp only [List.getElem_toArray, List.getElem_cons_succ, List.getElem_cons_zero, Act.put, List.setIfInBounds_toArray, List.set_cons_zero, List.set_cons_succ])
                  refine wpAnyH_take (i := 18) (v := undef) rfl (by kernel_rfl) (by kernel_rfl) (by kernel_rfl) (fun _ _ _ h => h) (Or.inr ⟨by rfl, rfl⟩) (by assumption) ?rqau18
                  (try simp only [List.getElem_toArray, List.getElem_cons_succ, List.getElem_cons_zero, Act.put, List.setIfInBounds_toArray, List.set_cons_zero, List.set_cons_succ])
                  refine wpAnyH_take (i := 19) (v := ?vqau19) rfl (by kernel_rfl) (by kernel_rfl) (by kernel_rfl) (fun _ _ _ h => h) (Or.inl ⟨by rfl, ?yqau19⟩) (by assumption) ?rqau19
                  case yqau19 => intro w hSw; (try dsimp only at hSw); go_simp <;> (try with_reducible rfl)
                  (try simp only [List.getElem_toArray, List.getElem_cons_succ, List.getElem_cons_zero, Act.put, List.setIfInBounds_toArray, List.set_cons_zero, List.set_cons_succ])
                  refine wpAnyH_done (by kernel_rfl) ?_ _
                  clear hHeld zz5_1
                  go_wp2
                  go_ret
                  exact ⟨by rw [hce.out]; rfl, hbe⟩
            | true =>
              obtain ⟨a, m, ha, hm, hL, ha16, ha143⟩ := place_nat hpb
              subst ha hm
              rw [liesB_nat hL] at HLI
              have hcm := taken_common (s := fn) HPD.out hL
              have herr := err_common (f := ⟨fn, (a : Int), (m : Int)⟩) HFM.out HNB.out hpb
              have hx0 : 0 < 2 ^ m := Nat.two_pow_pos m
              have HSE := Lib.hid (fun w => set_any fn a m 0 T w hL hx0)
              rw [show (((0 : Nat)) : Int) = 0 from rfl] at HSE
              obtain ⟨T0, hT0⟩ : ∃ T0, setF a m 0 T = T0 := ⟨_, rfl⟩
              rw [hT0] at HSE
              rw [hT.out, hT0] at hcm
              obtain ⟨E, hE⟩ : ∃ E, decide (HI T0 = HI T) = E := ⟨_, rfl⟩
              have hne : ∀ w, (binOp .neq 30 (.agg (H T0).toArray) (.agg (H T).toArray)).run Tryd.prog w = .ok (.bool (!E)) w := fun w => by rw [neqH, hE]
              have h16d : decide ((a : Int) < 16) = false := decide_eq_false (by omega)
              have h16e : decide (a < 16) = false := decide_eq_false (by omega)
              have h144d : decide ((a : Int) ≥ 144) = false := decide_eq_false (by omega)
              have h144e : decide ((144 : Int) ≤ (a : Int)) = false := decide_eq_false (by omega)
              have h144f : decide (144 ≤ a) = false := decide_eq_false (by omega)
              cases E with
              | false =>
                have hce : Hid (CH = 1) := by
                  have : CH = 1 := by
                    have hany : ¬ (D.any fun g => commonB g ⟨fn, (a : Int), (m : Int)⟩) = false := fun h => by
                      have := hcm.2 h
                      rw [decide_eq_true this] at hE; cases hE
                    have he1 : errF D ⟨fn, (a : Int), (m : Int)⟩ = 1 := by
                      rw [herr]
                      cases hh : (D.any fun g => commonB g ⟨fn, (a : Int), (m : Int)⟩) with
                      | true => rfl
                      | false => exact absurd hh hany
                    rw [HST.out, he1]; rfl
                  exact this
                clear hcm herr hpb hT0 hE
                have hl3 : g3 < wr.heap.size := B3.lt
                go_wp2_with (with_reducible refine wpList_alloc (o := ⟨some 5, .alloc 33, _, _, _, _⟩) (by with_unfolding_all rfl) 33 (by with_unfolding_all rfl) (.agg #[.string ByteArray.empty, .int .i64 0, .int .i64 0]) [Value.string ByteArray.empty, .int .i64 0, .int .i64 0] (by exact Tryd.zeroF) (by with_unfolding_all rfl) ?_)
                intro g5 w21 hg5 hs21 hb21 B5
                have hl5 : w.heap.size ≤ g5 := Nat.le_trans hbe.size (Nat.le_of_eq hg5.out.symm)
                have ne3_5 : g3 ≠ g5 := by have := B3.lt; have := hg5.out; omega
                have ne5_3 := ne3_5.symm
                have hb21 := hb21.mono (Nat.le_of_eq hg5.out.symm)
                have B3 := B3.next hb21 B3.lt
                have hbe := below_join hbe hb21
                clear hb21 hg5 hs21
                clear c0 c1 c2 hl3
                go_wp2_with (with_reducible refine wpList_put (o := ⟨none, .store 33 (.tmp 5) (.tmp 17), _, _, _, _⟩) (by with_unfolding_all rfl) 33 (.tmp 5) (.tmp 17) (by with_unfolding_all rfl) g5 0 (by with_unfolding_all rfl) (.agg #[.string fn, .int .i64 (a : Int), .int .i64 (m : Int)]) (by with_unfolding_all rfl) B5 [Value.string fn, .int .i64 (a : Int), .int .i64 (m : Int)] (by with_unfolding_all rfl) (by with_unfolding_all (first | exact Tryd.szF | (simp only [H_length, Pat.cells_length, List.length_append]; exact Tryd.szF))) (by with_unfolding_all (first | exact Nat.le_refl 3 | (simp only [H_length, Pat.cells_length, List.length_append]; omega))) (by with_unfolding_all (exact fields_one _ _ _)) ?_)
                intro w22 hu22 C5
                rw [splice_all _ _ (by rfl)] at C5
                have B3 := B3.upd hu22 ne3_5
                have hbe := hbe.trans (hu22.below (B := w.heap.size) hl5)
                clear B5 hu22
                have B5 := C5
                clear C5
                go_wp2
                have hdd := below_drew w22
                have B3 := B3.next hdd B3.lt
                have B5 := B5.next hdd B5.lt
                have hbe := below_join hbe hdd
                refine wp_region_held_drew (S := fun w' => w'.cell? ⟨g5, 0, none⟩ = some (Value.string fn)) (by kernel_rfl) (B5.cell (k := 0) rfl) (fun hHeld => ?_)
                clear hdd
                generalize w22.drew = w23 at B3 B5 hbe hHeld  ⊢
                refine wpAnyH_take (i := 0) (v := ?vqav0) rfl (by kernel_rfl) (by kernel_rfl) (by kernel_rfl) (fun _ _ _ h => h) (Or.inl ⟨by rfl, ?yqav0⟩) (by assumption) ?rqav0
                case yqav0 => intro w hSw; (try dsimp only at hSw); go_simp <;> (try with_reducible rfl)
                (try simp only [List.getElem_toArray, List.getElem_cons_zero, Act.put, List.setIfInBounds_toArray, List.set_cons_zero, List.set_cons_succ])
                refine wpAnyH_take (i := 1) (v := ?vqav1) rfl (by kernel_rfl) (by kernel_rfl) (by kernel_rfl) (fun _ _ _ h => h) (Or.inl ⟨by rfl, ?yqav1⟩) (by assumption) ?rqav1
                case yqav1 => intro w hSw; (try dsimp only at hSw); go_simp <;> (try with_reducible rfl)
                (try simp only [List.getElem_toArray, List.getElem_cons_succ, List.getElem_cons_zero, Act.put, List.setIfInBounds_toArray, List.set_cons_zero, List.set_cons_succ])
                refine wpAnyH_take (i := 2) (v := ?vqav2) rfl (by kernel_rfl) (by kernel_rfl) (by kernel_rfl) (fun _ _ _ h => h) (Or.inl ⟨by rfl, ?yqav2⟩) (by assumption) ?rqav2
                case yqav2 => intro w hSw; (try dsimp only at hSw); go_simp <;> (try with_reducible rfl)
                (try simp only [List.getElem_toArray, List.getElem_cons_succ, List.getElem_cons_zero, Act.put, List.setIfInBounds_toArray, List.set_cons_zero, List.set_cons_succ])
                refine wpAnyH_take (i := 3) (v := ?vqav3) rfl (by kernel_rfl) (by kernel_rfl) (by kernel_rfl) (fun _ _ _ h => h) (Or.inl ⟨by rfl, ?yqav3⟩) (by assumption) ?rqav3
                case yqav3 => intro w hSw; (try dsimp only at hSw); go_simp <;> (try with_reducible rfl)
                (try simp only [List.getElem_toArray, List.getElem_cons_succ, List.getElem_cons_zero, Act.put, List.setIfInBounds_toArray, List.set_cons_zero, List.set_cons_succ])
                refine wpAnyH_take (i := 4) (v := ?vqav4) rfl (by kernel_rfl) (by kernel_rfl) (by kernel_rfl) (fun _ _ _ h => h) (Or.inl ⟨by rfl, ?yqav4⟩) (by assumption) ?rqav4
                case yqav4 => intro w hSw; have hSc := hSw; go_simp <;> (try with_reducible rfl)
                (try simp only [List.getElem_toArray, List.getElem_cons_succ, List.getElem_cons_zero, Act.put, List.setIfInBounds_toArray, List.set_cons_zero, List.set_cons_succ])
                refine wpAnyH_ready (rs := [5, 9]) (by kernel_rfl) (by simp) ?_
                refine AllReadyH.cons rfl (fun K hK => ?_) (AllReadyH.cons rfl (fun K hK => ?_) AllReadyH.nil)
                · skip
                  go_simp
                  go_wp2_with fail
                  (with_reducible refine (HFI.out _ hbe).mono ?_)
                  rintro e w24 ⟨rfl, hb24⟩
                  have B3 := B3.next hb24 B3.lt
                  have B5 := B5.next hb24 B5.lt
                  have hbe := below_join hbe hb24
                  refine hK.out _ _ (B5.cell (k := 0) rfl) (fun hHeld => ?_)
                  clear hK K hb24
                  refine wpAnyH_take (i := 6) (v := ?vqaw6) rfl (by kernel_rfl) (by kernel_rfl) (by kernel_rfl) (fun _ _ _ h => h) (Or.inl ⟨by rfl, ?yqaw6⟩) (by assumption) ?rqaw6
                  case yqaw6 => intro w hSw; (try dsimp only at hSw); go_simp <;> (try with_reducible rfl)
                  (try simp only [List.getElem_toArray, List.getElem_cons_succ, List.getElem_cons_zero, Act.put, List.setIfInBounds_toArray, List.set_cons_zero, List.set_cons_succ])
                  refine wpAnyH_take (i := 7) (v := ?vqaw7) rfl (by kernel_rfl) (by kernel_rfl) (by kernel_rfl) (fun _ _ _ h => h) (Or.inl ⟨by rfl, ?yqaw7⟩) (by assumption) ?rqaw7
                  case yqaw7 => intro w hSw; (try dsimp only at hSw); go_simp <;> (try with_reducible rfl)
                  (try simp only [List.getElem_toArray, List.getElem_cons_succ, List.getElem_cons_zero, Act.put, List.setIfInBounds_toArray, List.set_cons_zero, List.set_cons_succ])
                  refine wpAnyH_take (i := 8) (v := ?vqaw8) rfl (by kernel_rfl) (by kernel_rfl) (by kernel_rfl) (fun _ _ _ h => h) (Or.inl ⟨by rfl, ?yqaw8⟩) (by assumption) ?rqaw8
                  case yqaw8 => intro w hSw; (try dsimp only at hSw); go_simp <;> (try with_reducible rfl)
                  (try simp only [List.getElem_toArray, List.getElem_cons_succ, List.getElem_cons_zero, Act.put, List.setIfInBounds_toArray, List.set_cons_zero, List.set_cons_succ])
                  refine wpAnyH_ready (rs := [9]) (by kernel_rfl) (by simp) ?_
                  refine AllReadyH.cons rfl (fun K hK => ?_) AllReadyH.nil
                  rw [if_pos (by rfl)]
                  refine wp_allocz 33 rfl (.agg #[.string ByteArray.empty, .int .i64 0, .int .i64 0]) [Value.string ByteArray.empty, .int .i64 0, .int .i64 0] Tryd.zeroF rfl ?_
                  intro g6 w25 hg6 hs25 hb25 B6
                  have hl6 : w.heap.size ≤ g6 := Nat.le_trans hbe.size (Nat.le_of_eq hg6.out.symm)
                  have ne3_6 : g3 ≠ g6 := by have := B3.lt; have := hg6.out; omega
                  have ne6_3 := ne3_6.symm
                  have ne5_6 : g5 ≠ g6 := by have := B5.lt; have := hg6.out; omega
                  have ne6_5 := ne5_6.symm
                  have hb25 := hb25.mono (Nat.le_of_eq hg6.out.symm)
                  have B3 := B3.next hb25 B3.lt
                  have B5 := B5.next hb25 B5.lt
                  have hbe := below_join hbe hb25
                  clear hb25 hg6 hs25
                  refine hK.out _ _ (B5.cell (k := 0) rfl) (fun hHeld => ?_)
                  clear hK K
                  refine wpAnyH_ready (rs := [10]) (by kernel_rfl) (by simp) ?_
                  refine AllReadyH.cons rfl (fun K hK => ?_) AllReadyH.nil
                  rw [if_pos (by rfl)]
                  refine wp_put 33 (.tmp 6) (.tmp 25) rfl g6 0 rfl (.agg [Value.string ByteArray.empty, .int .i64 0, .int .i64 0].toArray) rfl B6 [Value.string ByteArray.empty, .int .i64 0, .int .i64 0] rfl (by first | exact Tryd.szF | (simp only [H_length, Pat.cells_length, List.length_append]; exact Tryd.szF)) (by first | exact Nat.le_refl 3 | (simp only [H_length, Pat.cells_length, List.length_append]; omega)) (fields_one _ _ _) ?_
                  intro w26 hu26 C6
                  rw [splice_all _ _ (by rfl)] at C6
                  have B3 := B3.upd hu26 ne3_6
                  have B5 := B5.upd hu26 ne5_6
                  have hbe := hbe.trans (hu26.below (B := w.heap.size) hl6)
                  clear B6 hu26
                  have B6 := C6
                  clear C6
                  refine hK.out _ _ (B5.cell (k := 0) rfl) (fun hHeld => ?_)
                  clear hK K
                  refine wpAnyH_take (i := 11) (v := ?vqaw11) rfl (by kernel_rfl) (by kernel_rfl) (by kernel_rfl) (fun _ _ _ h => h) (Or.inl ⟨by rfl, ?yqaw11⟩) (by assumption) ?rqaw11
                  case yqaw11 => intro w hSw; (try dsimp only at hSw); go_simp <;> (try with_reducible rfl)
                  (try simp only [List.getElem_toArray, List.getElem_cons_succ, List.getElem_cons_zero, Act.put, List.setIfInBounds_toArray, List.set_cons_zero, List.set_cons_succ])
                  refine wpAnyH_done (by kernel_rfl) ?_ _
                  clear hHeld 
                  have z5_0 := B5.cell (k := 0) rfl
                  have z5_1 := B5.cell (k := 1) rfl
                  have z5_2 := B5.cell (k := 2) rfl
                  go_wp2_with fail
                  (with_reducible refine (HNM.out _).mono ?_)
                  rintro e w27 ⟨rfl, hb27⟩
                  clear z5_0 z5_1 z5_2
                  have B3 := B3.next hb27 B3.lt
                  have B5 := B5.next hb27 B5.lt
                  have B6 := B6.next hb27 B6.lt
                  have hbe := below_join hbe hb27
                  clear hb27
                  go_wp2
                  have hdd := below_drew w27
                  have B3 := B3.next hdd B3.lt
                  have B5 := B5.next hdd B5.lt
                  have B6 := B6.next hdd B6.lt
                  have hbe := below_join hbe hdd
                  have zz5_1 : (Tryd.prog.info? 33).map (·.size) = some [Value.string fn, .int .i64 (a : Int), .int .i64 (m : Int)].length := (by first | exact Tryd.szF | (simp only [H_length, Pat.cells_length, List.length_append]; exact Tryd.szF))
                  have zz3_3 : (Tryd.prog.info? 30).map (·.size) = some (H T).length := (by first | exact Tryd.szH | (simp only [H_length, Pat.cells_length, List.length_append]; exact Tryd.szH))
                  refine wp_region_held_drew (S := fun w' => w'.rangeAt g5 0 [Value.string fn, .int .i64 (a : Int), .int .i64 (m : Int)] ∧ w'.cell? ⟨g5, 1, none⟩ = some (.int .i64 (a : Int)) ∧ w'.rangeAt g3 0 (H T)) (by kernel_rfl) ⟨blk_range B5, B5.cell (k := 1) rfl, blk_range B3⟩ (fun hHeld => ?_)
                  clear hdd
                  generalize w27.drew = w28 at B3 B5 B6 hbe hHeld  ⊢
                  refine' wpAnyH_take (i := 0) (v := _) rfl (by kernel_rfl) (by kernel_rfl) (by kernel_rfl) (fun _ _ _ h => h) (yieldsIf_load_mid (by rfl) _ _ (by rfl) _ _ (by rfl) _ _ ?Sqax0 ?uqax0 ?dqax0 ?iqax0) (by assumption) ?rqax0
                  case Sqax0 => exact (by intro w h; exact h.1)
                  case uqax0 => exact Tryd.underlying33
                  case dqax0 => rfl
                  case iqax0 => exact zz5_1
                  (try simp only [List.getElem_toArray, List.getElem_cons_zero, Act.put, List.setIfInBounds_toArray, List.set_cons_zero, List.set_cons_succ])
                  refine wpAnyH_ready (rs := [1]) (by kernel_rfl) (by simp) ?_
                  refine AllReadyH.cons rfl (fun K hK => ?_) AllReadyH.nil
                  go_simp
                  go_wp2_with fail
                  (with_reducible refine (HLI.out _).mono ?_)
                  rintro e w29 ⟨rfl, hb29⟩
                  have B3 := B3.next hb29 B3.lt
                  have B5 := B5.next hb29 B5.lt
                  have B6 := B6.next hb29 B6.lt
                  have hbe := below_join hbe hb29
                  refine hK.out _ _ ⟨blk_range B5, B5.cell (k := 1) rfl, blk_range B3⟩ (fun hHeld => ?_)
                  clear hK K hb29
                  refine wpAnyH_take (i := 2) (v := ?vqax2) rfl (by kernel_rfl) (by kernel_rfl) (by kernel_rfl) (fun _ _ _ h => h) (Or.inl ⟨by rfl, ?yqax2⟩) (by assumption) ?rqax2
                  case yqax2 => intro w hSw; (try dsimp only at hSw); go_simp <;> (try with_reducible rfl)
                  (try simp only [List.getElem_toArray, List.getElem_cons_succ, List.getElem_cons_zero, Act.put, List.setIfInBounds_toArray, List.set_cons_zero, List.set_cons_succ])
                  refine wpAnyH_take (i := 3) (v := ?vqax3) rfl (by kernel_rfl) (by kernel_rfl) (by kernel_rfl) (fun _ _ _ h => h) (Or.inl ⟨by rfl, ?yqax3⟩) (by assumption) ?rqax3
                  case yqax3 => intro w hSw; (try dsimp only at hSw); go_simp <;> (try with_reducible rfl)
                  (try simp only [List.getElem_toArray, List.getElem_cons_succ, List.getElem_cons_zero, Act.put, List.setIfInBounds_toArray, List.set_cons_zero, List.set_cons_succ])
                  refine wpAnyH_take (i := 4) (v := ?vqax4) rfl (by kernel_rfl) (by kernel_rfl) (by kernel_rfl) (fun _ _ _ h => h) (Or.inl ⟨by rfl, ?yqax4⟩) (by assumption) ?rqax4
                  case yqax4 => intro w hSw; (try dsimp only at hSw); go_simp <;> (try with_reducible rfl)
                  (try simp only [List.getElem_toArray, List.getElem_cons_succ, List.getElem_cons_zero, Act.put, List.setIfInBounds_toArray, List.set_cons_zero, List.set_cons_succ])
                  refine wpAnyH_take (i := 5) (v := ?vqax5) rfl (by kernel_rfl) (by kernel_rfl) (by kernel_rfl) (fun _ _ _ h => h) (Or.inl ⟨by rfl, ?yqax5⟩) (by assumption) ?rqax5
                  case yqax5 => intro w hSw; have hSc := hSw.2.1; go_simp <;> (try with_reducible rfl)
                  (try simp only [List.getElem_toArray, List.getElem_cons_succ, List.getElem_cons_zero, Act.put, List.setIfInBounds_toArray, List.set_cons_zero, List.set_cons_succ])
                  refine wpAnyH_take (i := 6) (v := ?vqax6) rfl (by kernel_rfl) (by kernel_rfl) (by kernel_rfl) (fun _ _ _ h => h) (Or.inl ⟨by rfl, ?yqax6⟩) (by assumption) ?rqax6
                  case yqax6 => intro w hSw; (try dsimp only at hSw); go_simp <;> (try with_reducible rfl)
                  (try simp only [List.getElem_toArray, List.getElem_cons_succ, List.getElem_cons_zero, Act.put, List.setIfInBounds_toArray, List.set_cons_zero, List.set_cons_succ])
                  refine wpAnyH_take (i := 7) (v := ?vqax7) rfl (by kernel_rfl) (by kernel_rfl) (by kernel_rfl) (fun _ _ _ h => h) (Or.inl ⟨by rfl, ?yqax7⟩) (by assumption) ?rqax7
                  case yqax7 => intro w hSw; (try dsimp only at hSw); go_simp <;> (try with_reducible rfl)
                  (try simp only [List.getElem_toArray, List.getElem_cons_succ, List.getElem_cons_zero, Act.put, List.setIfInBounds_toArray, List.set_cons_zero, List.set_cons_succ])
                  refine wpAnyH_take (i := 8) (v := ?vqax8) rfl (by kernel_rfl) (by kernel_rfl) (by kernel_rfl) (fun _ _ _ h => h) (Or.inl ⟨by rfl, ?yqax8⟩) (by assumption) ?rqax8
                  case yqax8 => intro w hSw; (try dsimp only at hSw); go_simp <;> (try with_reducible rfl)
                  (try simp only [List.getElem_toArray, List.getElem_cons_succ, List.getElem_cons_zero, Act.put, List.setIfInBounds_toArray, List.set_cons_zero, List.set_cons_succ])
                  refine wpAnyH_take (i := 9) (v := ?vqax9) rfl (by kernel_rfl) (by kernel_rfl) (by kernel_rfl) (fun _ _ _ h => h) (Or.inl ⟨by rfl, ?yqax9⟩) (by assumption) ?rqax9
                  case yqax9 => intro w hSw; (try dsimp only at hSw); go_simp <;> (try with_reducible rfl)
                  (try simp only [List.getElem_toArray, List.getElem_cons_succ, List.getElem_cons_zero, Act.put, List.setIfInBounds_toArray, List.set_cons_zero, List.set_cons_succ])
                  refine wpAnyH_take (i := 10) (v := ?vqax10) rfl (by kernel_rfl) (by kernel_rfl) (by kernel_rfl) (fun _ _ _ h => h) (Or.inl ⟨by rfl, ?yqax10⟩) (by assumption) ?rqax10
                  case yqax10 => intro w hSw; have hSc := hSw.2.1; go_simp <;> (try with_reducible rfl)
                  (try simp only [List.getElem_toArray, List.getElem_cons_succ, List.getElem_cons_zero, Act.put, List.setIfInBounds_toArray, List.set_cons_zero, List.set_cons_succ])
                  refine wpAnyH_take (i := 11) (v := ?vqax11) rfl (by kernel_rfl) (by kernel_rfl) (by kernel_rfl) (fun _ _ _ h => h) (Or.inl ⟨by rfl, ?yqax11⟩) (by assumption) ?rqax11
                  case yqax11 => intro w hSw; (try dsimp only at hSw); go_simp <;> (try with_reducible rfl)
                  (try simp only [List.getElem_toArray, List.getElem_cons_succ, List.getElem_cons_zero, Act.put, List.setIfInBounds_toArray, List.set_cons_zero, List.set_cons_succ])
                  refine wpAnyH_take (i := 12) (v := ?vqax12) rfl (by kernel_rfl) (by kernel_rfl) (by kernel_rfl) (fun _ _ _ h => h) (Or.inl ⟨by rfl, ?yqax12⟩) (by assumption) ?rqax12
                  case yqax12 => intro w hSw; (try dsimp only at hSw); go_simp <;> (try with_reducible rfl)
                  (try simp only [List.getElem_toArray, List.getElem_cons_succ, List.getElem_cons_zero, Act.put, List.setIfInBounds_toArray, List.set_cons_zero, List.set_cons_succ])
                  refine wpAnyH_take (i := 13) (v := ?vqax13) rfl (by kernel_rfl) (by kernel_rfl) (by kernel_rfl) (fun _ _ _ h => h) (Or.inl ⟨by rfl, ?yqax13⟩) (by assumption) ?rqax13
                  case yqax13 => intro w hSw; (try dsimp only at hSw); go_simp <;> (try with_reducible rfl)
                  (try simp only [List.getElem_toArray, List.getElem_cons_succ, List.getElem_cons_zero, Act.put, List.setIfInBounds_toArray, List.set_cons_zero, List.set_cons_succ])
                  refine' wpAnyH_take (i := 14) (v := _) rfl (by kernel_rfl) (by kernel_rfl) (by kernel_rfl) (fun _ _ _ h => h) (yieldsIf_load_mid (by rfl) _ _ (by rfl) _ _ (by rfl) _ _ ?Sqax14 ?uqax14 ?dqax14 ?iqax14) (by assumption) ?rqax14
                  case Sqax14 => exact (by intro w h; exact h.1)
                  case uqax14 => exact Tryd.underlying33
                  case dqax14 => rfl
                  case iqax14 => exact zz5_1
                  (try simp only [List.getElem_toArray, List.getElem_cons_succ, List.getElem_cons_zero, Act.put, List.setIfInBounds_toArray, List.set_cons_zero, List.set_cons_succ])
                  refine' wpAnyH_take (i := 15) (v := _) rfl (by kernel_rfl) (by kernel_rfl) (by kernel_rfl) (fun _ _ _ h => h) (yieldsIf_load_mid (by rfl) _ _ (by rfl) _ _ (by rfl) _ _ ?Sqax15 ?uqax15 ?dqax15 ?iqax15) (by assumption) ?rqax15
                  case Sqax15 => exact (by intro w h; exact h.2.2)
                  case uqax15 => exact Tryd.underlying30
                  case dqax15 => rfl
                  case iqax15 => exact zz3_3
                  (try simp only [List.getElem_toArray, List.getElem_cons_succ, List.getElem_cons_zero, Act.put, List.setIfInBounds_toArray, List.set_cons_zero, List.set_cons_succ])
                  refine' wpAnyH_take (i := 17) (v := _) rfl (by kernel_rfl) (by kernel_rfl) (by kernel_rfl) (fun _ _ _ h => h) (yieldsIf_load_mid (by rfl) _ _ (by rfl) _ _ (by rfl) _ _ ?Sqax17 ?uqax17 ?dqax17 ?iqax17) (by assumption) ?rqax17
                  case Sqax17 => exact (by intro w h; exact h.2.2)
                  case uqax17 => exact Tryd.underlying30
                  case dqax17 => rfl
                  case iqax17 => exact zz3_3
                  (try simp only [List.getElem_toArray, List.getElem_cons_succ, List.getElem_cons_zero, Act.put, List.setIfInBounds_toArray, List.set_cons_zero, List.set_cons_succ])
                  refine wpAnyH_ready (rs := [16]) (by kernel_rfl) (by simp) ?_
                  refine AllReadyH.cons rfl (fun K hK => ?_) AllReadyH.nil
                  go_simp
                  go_wp2_with fail
                  (with_reducible refine (HSE.out _).mono ?_)
                  rintro e w30 ⟨rfl, hb30⟩
                  have B3 := B3.next hb30 B3.lt
                  have B5 := B5.next hb30 B5.lt
                  have B6 := B6.next hb30 B6.lt
                  have hbe := below_join hbe hb30
                  refine hK.out _ _ ⟨blk_range B5, B5.cell (k := 1) rfl, blk_range B3⟩ (fun hHeld => ?_)
                  clear hK K hb30
                  refine wpAnyH_take (i := 18) (v := ?vqax18) rfl (by kernel_rfl) (by kernel_rfl) (by kernel_rfl) (fun _ _ _ h => h) (Or.inl ⟨by rfl, ?yqax18⟩) (by assumption) ?rqax18
                  case yqax18 => intro w hSw; (try dsimp only at hSw); go_simp <;> (try with_reducible rfl)
                  (try simp only [List.getElem_toArray, List.getElem_cons_succ, List.getElem_cons_zero, Act.put, List.setIfInBounds_toArray, List.set_cons_zero, List.set_cons_succ])
                  refine wpAnyH_take (i := 19) (v := ?vqax19) rfl (by kernel_rfl) (by kernel_rfl) (by kernel_rfl) (fun _ _ _ h => h) (Or.inl ⟨by rfl, ?yqax19⟩) (by assumption) ?rqax19
                  case yqax19 => intro w hSw; (try dsimp only at hSw); go_simp <;> (try with_reducible rfl)
                  (try simp only [List.getElem_toArray, List.getElem_cons_succ, List.getElem_cons_zero, Act.put, List.setIfInBounds_toArray, List.set_cons_zero, List.set_cons_succ])
                  refine wpAnyH_done (by kernel_rfl) ?_ _
                  clear hHeld zz5_1 zz3_3
                  go_wp2
                  go_ret
                  exact ⟨by rw [hce.out]; rfl, hbe⟩
                · skip
                  rw [if_pos (by rfl)]
                  refine wp_allocz 33 rfl (.agg #[.string ByteArray.empty, .int .i64 0, .int .i64 0]) [Value.string ByteArray.empty, .int .i64 0, .int .i64 0] Tryd.zeroF rfl ?_
                  intro g6 w24 hg6 hs24 hb24 B6
                  have hl6 : w.heap.size ≤ g6 := Nat.le_trans hbe.size (Nat.le_of_eq hg6.out.symm)
                  have ne3_6 : g3 ≠ g6 := by have := B3.lt; have := hg6.out; omega
                  have ne6_3 := ne3_6.symm
                  have ne5_6 : g5 ≠ g6 := by have := B5.lt; have := hg6.out; omega
                  have ne6_5 := ne5_6.symm
                  have hb24 := hb24.mono (Nat.le_of_eq hg6.out.symm)
                  have B3 := B3.next hb24 B3.lt
                  have B5 := B5.next hb24 B5.lt
                  have hbe := below_join hbe hb24
                  clear hb24 hg6 hs24
                  refine hK.out _ _ (B5.cell (k := 0) rfl) (fun hHeld => ?_)
                  clear hK K
                  refine wpAnyH_ready (rs := [5]) (by kernel_rfl) (by simp) ?_
                  refine AllReadyH.cons rfl (fun K hK => ?_) AllReadyH.nil
                  go_simp
                  go_wp2_with fail
                  (with_reducible refine (HFI.out _ hbe).mono ?_)
                  rintro e w25 ⟨rfl, hb25⟩
                  have B3 := B3.next hb25 B3.lt
                  have B5 := B5.next hb25 B5.lt
                  have B6 := B6.next hb25 B6.lt
                  have hbe := below_join hbe hb25
                  refine hK.out _ _ (B5.cell (k := 0) rfl) (fun hHeld => ?_)
                  clear hK K hb25
                  refine wpAnyH_take (i := 6) (v := ?vqay6) rfl (by kernel_rfl) (by kernel_rfl) (by kernel_rfl) (fun _ _ _ h => h) (Or.inl ⟨by rfl, ?yqay6⟩) (by assumption) ?rqay6
                  case yqay6 => intro w hSw; (try dsimp only at hSw); go_simp <;> (try with_reducible rfl)
                  (try simp only [List.getElem_toArray, List.getElem_cons_succ, List.getElem_cons_zero, Act.put, List.setIfInBounds_toArray, List.set_cons_zero, List.set_cons_succ])
                  refine wpAnyH_take (i := 7) (v := ?vqay7) rfl (by kernel_rfl) (by kernel_rfl) (by kernel_rfl) (fun _ _ _ h => h) (Or.inl ⟨by rfl, ?yqay7⟩) (by assumption) ?rqay7
                  case yqay7 => intro w hSw; (try dsimp only at hSw); go_simp <;> (try with_reducible rfl)
                  (try simp only [List.getElem_toArray, List.getElem_cons_succ, List.getElem_cons_zero, Act.put, List.setIfInBounds_toArray, List.set_cons_zero, List.set_cons_succ])
                  refine wpAnyH_take (i := 8) (v := ?vqay8) rfl (by kernel_rfl) (by kernel_rfl) (by kernel_rfl) (fun _ _ _ h => h) (Or.inl ⟨by rfl, ?yqay8⟩) (by assumption) ?rqay8
                  case yqay8 => intro w hSw; (try dsimp only at hSw); go_simp <;> (try with_reducible rfl)
                  (try simp only [List.getElem_toArray, List.getElem_cons_succ, List.getElem_cons_zero, Act.put, List.setIfInBounds_toArray, List.set_cons_zero, List.set_cons_succ])
                  refine wpAnyH_ready (rs := [10]) (by kernel_rfl) (by simp) ?_
                  refine AllReadyH.cons rfl (fun K hK => ?_) AllReadyH.nil
                  rw [if_pos (by rfl)]
                  refine wp_put 33 (.tmp 6) (.tmp 25) rfl g6 0 rfl (.agg [Value.string ByteArray.empty, .int .i64 0, .int .i64 0].toArray) rfl B6 [Value.string ByteArray.empty, .int .i64 0, .int .i64 0] rfl (by first | exact Tryd.szF | (simp only [H_length, Pat.cells_length, List.length_append]; exact Tryd.szF)) (by first | exact Nat.le_refl 3 | (simp only [H_length, Pat.cells_length, List.length_append]; omega)) (fields_one _ _ _) ?_
                  intro w26 hu26 C6
                  rw [splice_all _ _ (by rfl)] at C6
                  have B3 := B3.upd hu26 ne3_6
                  have B5 := B5.upd hu26 ne5_6
                  have hbe := hbe.trans (hu26.below (B := w.heap.size) hl6)
                  clear B6 hu26
                  have B6 := C6
                  clear C6
                  refine hK.out _ _ (B5.cell (k := 0) rfl) (fun hHeld => ?_)
                  clear hK K
                  refine wpAnyH_take (i := 11) (v := ?vqay11) rfl (by kernel_rfl) (by kernel_rfl) (by kernel_rfl) (fun _ _ _ h => h) (Or.inl ⟨by rfl, ?yqay11⟩) (by assumption) ?rqay11
                  case yqay11 => intro w hSw; (try dsimp only at hSw); go_simp <;> (try with_reducible rfl)
                  (try simp only [List.getElem_toArray, List.getElem_cons_succ, List.getElem_cons_zero, Act.put, List.setIfInBounds_toArray, List.set_cons_zero, List.set_cons_succ])
                  refine wpAnyH_done (by kernel_rfl) ?_ _
                  clear hHeld 
                  have z5_0 := B5.cell (k := 0) rfl
                  have z5_1 := B5.cell (k := 1) rfl
                  have z5_2 := B5.cell (k := 2) rfl
                  go_wp2_with fail
                  (with_reducible refine (HNM.out _).mono ?_)
                  rintro e w27 ⟨rfl, hb27⟩
                  clear z5_0 z5_1 z5_2
                  have B3 := B3.next hb27 B3.lt
                  have B5 := B5.next hb27 B5.lt
                  have B6 := B6.next hb27 B6.lt
                  have hbe := below_join hbe hb27
                  clear hb27
                  go_wp2
                  have hdd := below_drew w27
                  have B3 := B3.next hdd B3.lt
                  have B5 := B5.next hdd B5.lt
                  have B6 := B6.next hdd B6.lt
                  have hbe := below_join hbe hdd
                  have zz5_1 : (Tryd.prog.info? 33).map (·.size) = some [Value.string fn, .int .i64 (a : Int), .int .i64 (m : Int)].length := (by first | exact Tryd.szF | (simp only [H_length, Pat.cells_length, List.length_append]; exact Tryd.szF))
                  have zz3_3 : (Tryd.prog.info? 30).map (·.size) = some (H T).length := (by first | exact Tryd.szH | (simp only [H_length, Pat.cells_length, List.length_append]; exact Tryd.szH))
                  refine wp_region_held_drew (S := fun w' => w'.rangeAt g5 0 [Value.string fn, .int .i64 (a : Int), .int .i64 (m : Int)] ∧ w'.cell? ⟨g5, 1, none⟩ = some (.int .i64 (a : Int)) ∧ w'.rangeAt g3 0 (H T)) (by kernel_rfl) ⟨blk_range B5, B5.cell (k := 1) rfl, blk_range B3⟩ (fun hHeld => ?_)
                  clear hdd
                  generalize w27.drew = w28 at B3 B5 B6 hbe hHeld  ⊢
                  refine' wpAnyH_take (i := 0) (v := _) rfl (by kernel_rfl) (by kernel_rfl) (by kernel_rfl) (fun _ _ _ h => h) (yieldsIf_load_mid (by rfl) _ _ (by rfl) _ _ (by rfl) _ _ ?Sqaz0 ?uqaz0 ?dqaz0 ?iqaz0) (by assumption) ?rqaz0
                  case Sqaz0 => exact (by intro w h; exact h.1)
                  case uqaz0 => exact Tryd.underlying33
                  case dqaz0 => rfl
                  case iqaz0 => exact zz5_1
                  (try simp only [List.getElem_toArray, List.getElem_cons_zero, Act.put, List.setIfInBounds_toArray, List.set_cons_zero, List.set_cons_succ])
                  refine wpAnyH_ready (rs := [1]) (by kernel_rfl) (by simp) ?_
                  refine AllReadyH.cons rfl (fun K hK => ?_) AllReadyH.nil
                  go_simp
                  go_wp2_with fail
                  (with_reducible refine (HLI.out _).mono ?_)
                  rintro e w29 ⟨rfl, hb29⟩
                  have B3 := B3.next hb29 B3.lt
                  have B5 := B5.next hb29 B5.lt
                  have B6 := B6.next hb29 B6.lt
                  have hbe := below_join hbe hb29
                  refine hK.out _ _ ⟨blk_range B5, B5.cell (k := 1) rfl, blk_range B3⟩ (fun hHeld => ?_)
                  clear hK K hb29
                  refine wpAnyH_take (i := 2) (v := ?vqaz2) rfl (by kernel_rfl) (by kernel_rfl) (by kernel_rfl) (fun _ _ _ h => h) (Or.inl ⟨by rfl, ?yqaz2⟩) (by assumption) ?rqaz2
                  case yqaz2 => intro w hSw; (try dsimp only at hSw); go_simp <;> (try with_reducible rfl)
                  (try simp only [List.getElem_toArray, List.getElem_cons_succ, List.getElem_cons_zero, Act.put, List.setIfInBounds_toArray, List.set_cons_zero, List.set_cons_succ])
                  refine wpAnyH_take (i := 3) (v := ?vqaz3) rfl (by kernel_rfl) (by kernel_rfl) (by kernel_rfl) (fun _ _ _ h => h) (Or.inl ⟨by rfl, ?yqaz3⟩) (by assumption) ?rqaz3
                  case yqaz3 => intro w hSw; (try dsimp only at hSw); go_simp <;> (try with_reducible rfl)
                  (try simp only [List.getElem_toArray, List.getElem_cons_succ, List.getElem_cons_zero, Act.put, List.setIfInBounds_toArray, List.set_cons_zero, List.set_cons_succ])
                  refine wpAnyH_take (i := 4) (v := ?vqaz4) rfl (by kernel_rfl) (by kernel_rfl) (by kernel_rfl) (fun _ _ _ h => h) (Or.inl ⟨by rfl, ?yqaz4⟩) (by assumption) ?rqaz4
                  case yqaz4 => intro w hSw; (try dsimp only at hSw); go_simp <;> (try with_reducible rfl)
                  (try simp only [List.getElem_toArray, List.getElem_cons_succ, List.getElem_cons_zero, Act.put, List.setIfInBounds_toArray, List.set_cons_zero, List.set_cons_succ])
                  refine wpAnyH_take (i := 5) (v := ?vqaz5) rfl (by kernel_rfl) (by kernel_rfl) (by kernel_rfl) (fun _ _ _ h => h) (Or.inl ⟨by rfl, ?yqaz5⟩) (by assumption) ?rqaz5
                  case yqaz5 => intro w hSw; have hSc := hSw.2.1; go_simp <;> (try with_reducible rfl)
                  (try simp only [List.getElem_toArray, List.getElem_cons_succ, List.getElem_cons_zero, Act.put, List.setIfInBounds_toArray, List.set_cons_zero, List.set_cons_succ])
                  refine wpAnyH_take (i := 6) (v := ?vqaz6) rfl (by kernel_rfl) (by kernel_rfl) (by kernel_rfl) (fun _ _ _ h => h) (Or.inl ⟨by rfl, ?yqaz6⟩) (by assumption) ?rqaz6
                  case yqaz6 => intro w hSw; (try dsimp only at hSw); go_simp <;> (try with_reducible rfl)
                  (try simp only [List.getElem_toArray, List.getElem_cons_succ, List.getElem_cons_zero, Act.put, List.setIfInBounds_toArray, List.set_cons_zero, List.set_cons_succ])
                  refine wpAnyH_take (i := 7) (v := ?vqaz7) rfl (by kernel_rfl) (by kernel_rfl) (by kernel_rfl) (fun _ _ _ h => h) (Or.inl ⟨by rfl, ?yqaz7⟩) (by assumption) ?rqaz7
                  case yqaz7 => intro w hSw; (try dsimp only at hSw); go_simp <;> (try with_reducible rfl)
                  (try simp only [List.getElem_toArray, List.getElem_cons_succ, List.getElem_cons_zero, Act.put, List.setIfInBounds_toArray, List.set_cons_zero, List.set_cons_succ])
                  refine wpAnyH_take (i := 8) (v := ?vqaz8) rfl (by kernel_rfl) (by kernel_rfl) (by kernel_rfl) (fun _ _ _ h => h) (Or.inl ⟨by rfl, ?yqaz8⟩) (by assumption) ?rqaz8
                  case yqaz8 => intro w hSw; (try dsimp only at hSw); go_simp <;> (try with_reducible rfl)
                  (try simp only [List.getElem_toArray, List.getElem_cons_succ, List.getElem_cons_zero, Act.put, List.setIfInBounds_toArray, List.set_cons_zero, List.set_cons_succ])
                  refine wpAnyH_take (i := 9) (v := ?vqaz9) rfl (by kernel_rfl) (by kernel_rfl) (by kernel_rfl) (fun _ _ _ h => h) (Or.inl ⟨by rfl, ?yqaz9⟩) (by assumption) ?rqaz9
                  case yqaz9 => intro w hSw; (try dsimp only at hSw); go_simp <;> (try with_reducible rfl)
                  (try simp only [List.getElem_toArray, List.getElem_cons_succ, List.getElem_cons_zero, Act.put, List.setIfInBounds_toArray, List.set_cons_zero, List.set_cons_succ])
                  refine wpAnyH_take (i := 10) (v := ?vqaz10) rfl (by kernel_rfl) (by kernel_rfl) (by kernel_rfl) (fun _ _ _ h => h) (Or.inl ⟨by rfl, ?yqaz10⟩) (by assumption) ?rqaz10
                  case yqaz10 => intro w hSw; have hSc := hSw.2.1; go_simp <;> (try with_reducible rfl)
                  (try simp only [List.getElem_toArray, List.getElem_cons_succ, List.getElem_cons_zero, Act.put, List.setIfInBounds_toArray, List.set_cons_zero, List.set_cons_succ])
                  refine wpAnyH_take (i := 11) (v := ?vqaz11) rfl (by kernel_rfl) (by kernel_rfl) (by kernel_rfl) (fun _ _ _ h => h) (Or.inl ⟨by rfl, ?yqaz11⟩) (by assumption) ?rqaz11
                  case yqaz11 => intro w hSw; (try dsimp only at hSw); go_simp <;> (try with_reducible rfl)
                  (try simp only [List.getElem_toArray, List.getElem_cons_succ, List.getElem_cons_zero, Act.put, List.setIfInBounds_toArray, List.set_cons_zero, List.set_cons_succ])
                  refine wpAnyH_take (i := 12) (v := ?vqaz12) rfl (by kernel_rfl) (by kernel_rfl) (by kernel_rfl) (fun _ _ _ h => h) (Or.inl ⟨by rfl, ?yqaz12⟩) (by assumption) ?rqaz12
                  case yqaz12 => intro w hSw; (try dsimp only at hSw); go_simp <;> (try with_reducible rfl)
                  (try simp only [List.getElem_toArray, List.getElem_cons_succ, List.getElem_cons_zero, Act.put, List.setIfInBounds_toArray, List.set_cons_zero, List.set_cons_succ])
                  refine wpAnyH_take (i := 13) (v := ?vqaz13) rfl (by kernel_rfl) (by kernel_rfl) (by kernel_rfl) (fun _ _ _ h => h) (Or.inl ⟨by rfl, ?yqaz13⟩) (by assumption) ?rqaz13
                  case yqaz13 => intro w hSw; (try dsimp only at hSw); go_simp <;> (try with_reducible rfl)
                  (try simp only [List.getElem_toArray, List.getElem_cons_succ, List.getElem_cons_zero, Act.put, List.setIfInBounds_toArray, List.set_cons_zero, List.set_cons_succ])
                  refine' wpAnyH_take (i := 14) (v := _) rfl (by kernel_rfl) (by kernel_rfl) (by kernel_rfl) (fun _ _ _ h => h) (yieldsIf_load_mid (by rfl) _ _ (by rfl) _ _ (by rfl) _ _ ?Sqaz14 ?uqaz14 ?dqaz14 ?iqaz14) (by assumption) ?rqaz14
                  case Sqaz14 => exact (by intro w h; exact h.1)
                  case uqaz14 => exact Tryd.underlying33
                  case dqaz14 => rfl
                  case iqaz14 => exact zz5_1
                  (try simp only [List.getElem_toArray, List.getElem_cons_succ, List.getElem_cons_zero, Act.put, List.setIfInBounds_toArray, List.set_cons_zero, List.set_cons_succ])
                  refine' wpAnyH_take (i := 15) (v := _) rfl (by kernel_rfl) (by kernel_rfl) (by kernel_rfl) (fun _ _ _ h => h) (yieldsIf_load_mid (by rfl) _ _ (by rfl) _ _ (by rfl) _ _ ?Sqaz15 ?uqaz15 ?dqaz15 ?iqaz15) (by assumption) ?rqaz15
                  case Sqaz15 => exact (by intro w h; exact h.2.2)
                  case uqaz15 => exact Tryd.underlying30
                  case dqaz15 => rfl
                  case iqaz15 => exact zz3_3
                  (try simp only [List.getElem_toArray, List.getElem_cons_succ, List.getElem_cons_zero, Act.put, List.setIfInBounds_toArray, List.set_cons_zero, List.set_cons_succ])
                  refine' wpAnyH_take (i := 17) (v := _) rfl (by kernel_rfl) (by kernel_rfl) (by kernel_rfl) (fun _ _ _ h => h) (yieldsIf_load_mid (by rfl) _ _ (by rfl) _ _ (by rfl) _ _ ?Sqaz17 ?uqaz17 ?dqaz17 ?iqaz17) (by assumption) ?rqaz17
                  case Sqaz17 => exact (by intro w h; exact h.2.2)
                  case uqaz17 => exact Tryd.underlying30
                  case dqaz17 => rfl
                  case iqaz17 => exact zz3_3
                  (try simp only [List.getElem_toArray, List.getElem_cons_succ, List.getElem_cons_zero, Act.put, List.setIfInBounds_toArray, List.set_cons_zero, List.set_cons_succ])
                  refine wpAnyH_ready (rs := [16]) (by kernel_rfl) (by simp) ?_
                  refine AllReadyH.cons rfl (fun K hK => ?_) AllReadyH.nil
                  go_simp
                  go_wp2_with fail
                  (with_reducible refine (HSE.out _).mono ?_)
                  rintro e w30 ⟨rfl, hb30⟩
                  have B3 := B3.next hb30 B3.lt
                  have B5 := B5.next hb30 B5.lt
                  have B6 := B6.next hb30 B6.lt
                  have hbe := below_join hbe hb30
                  refine hK.out _ _ ⟨blk_range B5, B5.cell (k := 1) rfl, blk_range B3⟩ (fun hHeld => ?_)
                  clear hK K hb30
                  refine wpAnyH_take (i := 18) (v := ?vqaz18) rfl (by kernel_rfl) (by kernel_rfl) (by kernel_rfl) (fun _ _ _ h => h) (Or.inl ⟨by rfl, ?yqaz18⟩) (by assumption) ?rqaz18
                  case yqaz18 => intro w hSw; (try dsimp only at hSw); go_simp <;> (try with_reducible rfl)
                  (try simp only [List.getElem_toArray, List.getElem_cons_succ, List.getElem_cons_zero, Act.put, List.setIfInBounds_toArray, List.set_cons_zero, List.set_cons_succ])
                  refine wpAnyH_take (i := 19) (v := ?vqaz19) rfl (by kernel_rfl) (by kernel_rfl) (by kernel_rfl) (fun _ _ _ h => h) (Or.inl ⟨by rfl, ?yqaz19⟩) (by assumption) ?rqaz19
                  case yqaz19 => intro w hSw; (try dsimp only at hSw); go_simp <;> (try with_reducible rfl)
                  (try simp only [List.getElem_toArray, List.getElem_cons_succ, List.getElem_cons_zero, Act.put, List.setIfInBounds_toArray, List.set_cons_zero, List.set_cons_succ])
                  refine wpAnyH_done (by kernel_rfl) ?_ _
                  clear hHeld zz5_1 zz3_3
                  go_wp2
                  go_ret
                  exact ⟨by rw [hce.out]; rfl, hbe⟩
              | true =>
                have hno : Hid (errF D ⟨fn, (a : Int), (m : Int)⟩ = 0) := by
                  have : errF D ⟨fn, (a : Int), (m : Int)⟩ = 0 := by
                    rw [herr, if_neg (by rw [hcm.1 (of_decide_eq_true hE)]; decide)]
                  exact this
                have HMX := Lib.hid (fun w => max_any fn a m w hL)
                have hx1 : 2 ^ m - 1 < 2 ^ m := by omega
                have HS2 := Lib.hid (fun w => set_any fn a m (2 ^ m - 1) T w hL hx1)
                have htn := taken_next (done := D) (s := fn) hL
                rw [hT.out] at htn
                have hEQ : (Value.agg (H (setF a m (2 ^ m - 1) T)).toArray) = .agg (H (takenOf (D ++ [⟨fn, (a : Int), (m : Int)⟩]))).toArray := by rw [htn]
                rw [hEQ, ← HSN.out] at HS2
                obtain ⟨T1, hT1⟩ : ∃ T1, Hid (takenOf (l.take (k + 1)) = T1) := ⟨_, rfl⟩
                rw [hT1.out] at HS2
                obtain ⟨M, hM⟩ : ∃ M, 2 ^ m - 1 = M := ⟨_, rfl⟩
                rw [hM] at HMX HS2
                have HNX : Hid (checkL (l.take (k + 1)) (l.drop (k + 1)) = CH ∧ ∀ g ∈ l.take (k + 1), placeB g.at_ g.wd = true) := by
                  have : checkL (l.take (k + 1)) (l.drop (k + 1)) = CH ∧ ∀ g ∈ l.take (k + 1), placeB g.at_ g.wd = true := by
                    refine ⟨?_, fun g hg => ?_⟩
                    · rw [HST.out, if_pos hno.out]
                    · rw [HSN.out] at hg
                      rcases List.mem_append.1 hg with hg | hg
                      · exact HPD.out g hg
                      · rw [List.mem_singleton.1 hg]; exact hpb
                  exact this
                clear hcm herr hpb hT0 hE htn hEQ hM hx1
                have hl3 : g3 < wr.heap.size := B3.lt
                go_wp2_with (with_reducible refine wpList_alloc (o := ⟨some 5, .alloc 33, _, _, _, _⟩) (by with_unfolding_all rfl) 33 (by with_unfolding_all rfl) (.agg #[.string ByteArray.empty, .int .i64 0, .int .i64 0]) [Value.string ByteArray.empty, .int .i64 0, .int .i64 0] (by exact Tryd.zeroF) (by with_unfolding_all rfl) ?_)
                intro g5 w21 hg5 hs21 hb21 B5
                have hl5 : w.heap.size ≤ g5 := Nat.le_trans hbe.size (Nat.le_of_eq hg5.out.symm)
                have ne3_5 : g3 ≠ g5 := by have := B3.lt; have := hg5.out; omega
                have ne5_3 := ne3_5.symm
                have hb21 := hb21.mono (Nat.le_of_eq hg5.out.symm)
                have B3 := B3.next hb21 B3.lt
                have hbe := below_join hbe hb21
                clear hb21 hg5 hs21
                clear c0 c1 c2 hl3
                go_wp2_with (with_reducible refine wpList_put (o := ⟨none, .store 33 (.tmp 5) (.tmp 17), _, _, _, _⟩) (by with_unfolding_all rfl) 33 (.tmp 5) (.tmp 17) (by with_unfolding_all rfl) g5 0 (by with_unfolding_all rfl) (.agg #[.string fn, .int .i64 (a : Int), .int .i64 (m : Int)]) (by with_unfolding_all rfl) B5 [Value.string fn, .int .i64 (a : Int), .int .i64 (m : Int)] (by with_unfolding_all rfl) (by with_unfolding_all (first | exact Tryd.szF | (simp only [H_length, Pat.cells_length, List.length_append]; exact Tryd.szF))) (by with_unfolding_all (first | exact Nat.le_refl 3 | (simp only [H_length, Pat.cells_length, List.length_append]; omega))) (by with_unfolding_all (exact fields_one _ _ _)) ?_)
                intro w22 hu22 C5
                rw [splice_all _ _ (by rfl)] at C5
                have B3 := B3.upd hu22 ne3_5
                have hbe := hbe.trans (hu22.below (B := w.heap.size) hl5)
                clear B5 hu22
                have B5 := C5
                clear C5
                go_wp2
                have hdd := below_drew w22
                have B3 := B3.next hdd B3.lt
                have B5 := B5.next hdd B5.lt
                have hbe := below_join hbe hdd
                refine wp_region_held_drew (S := fun w' => w'.cell? ⟨g5, 0, none⟩ = some (Value.string fn)) (by kernel_rfl) (B5.cell (k := 0) rfl) (fun hHeld => ?_)
                clear hdd
                generalize w22.drew = w23 at B3 B5 hbe hHeld  ⊢
                refine wpAnyH_take (i := 0) (v := ?vqba0) rfl (by kernel_rfl) (by kernel_rfl) (by kernel_rfl) (fun _ _ _ h => h) (Or.inl ⟨by rfl, ?yqba0⟩) (by assumption) ?rqba0
                case yqba0 => intro w hSw; (try dsimp only at hSw); go_simp <;> (try with_reducible rfl)
                (try simp only [List.getElem_toArray, List.getElem_cons_zero, Act.put, List.setIfInBounds_toArray, List.set_cons_zero, List.set_cons_succ])
                refine wpAnyH_take (i := 1) (v := ?vqba1) rfl (by kernel_rfl) (by kernel_rfl) (by kernel_rfl) (fun _ _ _ h => h) (Or.inl ⟨by rfl, ?yqba1⟩) (by assumption) ?rqba1
                case yqba1 => intro w hSw; (try dsimp only at hSw); go_simp <;> (try with_reducible rfl)
                (try simp only [List.getElem_toArray, List.getElem_cons_succ, List.getElem_cons_zero, Act.put, List.setIfInBounds_toArray, List.set_cons_zero, List.set_cons_succ])
                refine wpAnyH_take (i := 2) (v := ?vqba2) rfl (by kernel_rfl) (by kernel_rfl) (by kernel_rfl) (fun _ _ _ h => h) (Or.inl ⟨by rfl, ?yqba2⟩) (by assumption) ?rqba2
                case yqba2 => intro w hSw; (try dsimp only at hSw); go_simp <;> (try with_reducible rfl)
                (try simp only [List.getElem_toArray, List.getElem_cons_succ, List.getElem_cons_zero, Act.put, List.setIfInBounds_toArray, List.set_cons_zero, List.set_cons_succ])
                refine wpAnyH_take (i := 3) (v := ?vqba3) rfl (by kernel_rfl) (by kernel_rfl) (by kernel_rfl) (fun _ _ _ h => h) (Or.inl ⟨by rfl, ?yqba3⟩) (by assumption) ?rqba3
                case yqba3 => intro w hSw; (try dsimp only at hSw); go_simp <;> (try with_reducible rfl)
                (try simp only [List.getElem_toArray, List.getElem_cons_succ, List.getElem_cons_zero, Act.put, List.setIfInBounds_toArray, List.set_cons_zero, List.set_cons_succ])
                refine wpAnyH_take (i := 4) (v := ?vqba4) rfl (by kernel_rfl) (by kernel_rfl) (by kernel_rfl) (fun _ _ _ h => h) (Or.inl ⟨by rfl, ?yqba4⟩) (by assumption) ?rqba4
                case yqba4 => intro w hSw; have hSc := hSw; go_simp <;> (try with_reducible rfl)
                (try simp only [List.getElem_toArray, List.getElem_cons_succ, List.getElem_cons_zero, Act.put, List.setIfInBounds_toArray, List.set_cons_zero, List.set_cons_succ])
                refine wpAnyH_ready (rs := [5, 9]) (by kernel_rfl) (by simp) ?_
                refine AllReadyH.cons rfl (fun K hK => ?_) (AllReadyH.cons rfl (fun K hK => ?_) AllReadyH.nil)
                · skip
                  go_simp
                  go_wp2_with fail
                  (with_reducible refine (HFI.out _ hbe).mono ?_)
                  rintro e w24 ⟨rfl, hb24⟩
                  have B3 := B3.next hb24 B3.lt
                  have B5 := B5.next hb24 B5.lt
                  have hbe := below_join hbe hb24
                  refine hK.out _ _ (B5.cell (k := 0) rfl) (fun hHeld => ?_)
                  clear hK K hb24
                  refine wpAnyH_take (i := 6) (v := ?vqbb6) rfl (by kernel_rfl) (by kernel_rfl) (by kernel_rfl) (fun _ _ _ h => h) (Or.inl ⟨by rfl, ?yqbb6⟩) (by assumption) ?rqbb6
                  case yqbb6 => intro w hSw; (try dsimp only at hSw); go_simp <;> (try with_reducible rfl)
                  (try simp only [List.getElem_toArray, List.getElem_cons_succ, List.getElem_cons_zero, Act.put, List.setIfInBounds_toArray, List.set_cons_zero, List.set_cons_succ])
                  refine wpAnyH_take (i := 7) (v := ?vqbb7) rfl (by kernel_rfl) (by kernel_rfl) (by kernel_rfl) (fun _ _ _ h => h) (Or.inl ⟨by rfl, ?yqbb7⟩) (by assumption) ?rqbb7
                  case yqbb7 => intro w hSw; (try dsimp only at hSw); go_simp <;> (try with_reducible rfl)
                  (try simp only [List.getElem_toArray, List.getElem_cons_succ, List.getElem_cons_zero, Act.put, List.setIfInBounds_toArray, List.set_cons_zero, List.set_cons_succ])
                  refine wpAnyH_take (i := 8) (v := ?vqbb8) rfl (by kernel_rfl) (by kernel_rfl) (by kernel_rfl) (fun _ _ _ h => h) (Or.inl ⟨by rfl, ?yqbb8⟩) (by assumption) ?rqbb8
                  case yqbb8 => intro w hSw; (try dsimp only at hSw); go_simp <;> (try with_reducible rfl)
                  (try simp only [List.getElem_toArray, List.getElem_cons_succ, List.getElem_cons_zero, Act.put, List.setIfInBounds_toArray, List.set_cons_zero, List.set_cons_succ])
                  refine wpAnyH_ready (rs := [9]) (by kernel_rfl) (by simp) ?_
                  refine AllReadyH.cons rfl (fun K hK => ?_) AllReadyH.nil
                  rw [if_pos (by rfl)]
                  refine wp_allocz 33 rfl (.agg #[.string ByteArray.empty, .int .i64 0, .int .i64 0]) [Value.string ByteArray.empty, .int .i64 0, .int .i64 0] Tryd.zeroF rfl ?_
                  intro g6 w25 hg6 hs25 hb25 B6
                  have hl6 : w.heap.size ≤ g6 := Nat.le_trans hbe.size (Nat.le_of_eq hg6.out.symm)
                  have ne3_6 : g3 ≠ g6 := by have := B3.lt; have := hg6.out; omega
                  have ne6_3 := ne3_6.symm
                  have ne5_6 : g5 ≠ g6 := by have := B5.lt; have := hg6.out; omega
                  have ne6_5 := ne5_6.symm
                  have hb25 := hb25.mono (Nat.le_of_eq hg6.out.symm)
                  have B3 := B3.next hb25 B3.lt
                  have B5 := B5.next hb25 B5.lt
                  have hbe := below_join hbe hb25
                  clear hb25 hg6 hs25
                  refine hK.out _ _ (B5.cell (k := 0) rfl) (fun hHeld => ?_)
                  clear hK K
                  refine wpAnyH_ready (rs := [10]) (by kernel_rfl) (by simp) ?_
                  refine AllReadyH.cons rfl (fun K hK => ?_) AllReadyH.nil
                  rw [if_pos (by rfl)]
                  refine wp_put 33 (.tmp 6) (.tmp 25) rfl g6 0 rfl (.agg [Value.string ByteArray.empty, .int .i64 0, .int .i64 0].toArray) rfl B6 [Value.string ByteArray.empty, .int .i64 0, .int .i64 0] rfl (by first | exact Tryd.szF | (simp only [H_length, Pat.cells_length, List.length_append]; exact Tryd.szF)) (by first | exact Nat.le_refl 3 | (simp only [H_length, Pat.cells_length, List.length_append]; omega)) (fields_one _ _ _) ?_
                  intro w26 hu26 C6
                  rw [splice_all _ _ (by rfl)] at C6
                  have B3 := B3.upd hu26 ne3_6
                  have B5 := B5.upd hu26 ne5_6
                  have hbe := hbe.trans (hu26.below (B := w.heap.size) hl6)
                  clear B6 hu26
                  have B6 := C6
                  clear C6
                  refine hK.out _ _ (B5.cell (k := 0) rfl) (fun hHeld => ?_)
                  clear hK K
                  refine wpAnyH_take (i := 11) (v := ?vqbb11) rfl (by kernel_rfl) (by kernel_rfl) (by kernel_rfl) (fun _ _ _ h => h) (Or.inl ⟨by rfl, ?yqbb11⟩) (by assumption) ?rqbb11
                  case yqbb11 => intro w hSw; (try dsimp only at hSw); go_simp <;> (try with_reducible rfl)
                  (try simp only [List.getElem_toArray, List.getElem_cons_succ, List.getElem_cons_zero, Act.put, List.setIfInBounds_toArray, List.set_cons_zero, List.set_cons_succ])
                  refine wpAnyH_done (by kernel_rfl) ?_ _
                  clear hHeld 
                  have z5_0 := B5.cell (k := 0) rfl
                  have z5_1 := B5.cell (k := 1) rfl
                  have z5_2 := B5.cell (k := 2) rfl
                  go_wp2_with fail
                  (with_reducible refine (HNM.out _).mono ?_)
                  rintro e w27 ⟨rfl, hb27⟩
                  clear z5_0 z5_1 z5_2
                  have B3 := B3.next hb27 B3.lt
                  have B5 := B5.next hb27 B5.lt
                  have B6 := B6.next hb27 B6.lt
                  have hbe := below_join hbe hb27
                  clear hb27
                  go_wp2
                  have hdd := below_drew w27
                  have B3 := B3.next hdd B3.lt
                  have B5 := B5.next hdd B5.lt
                  have B6 := B6.next hdd B6.lt
                  have hbe := below_join hbe hdd
                  have zz5_1 : (Tryd.prog.info? 33).map (·.size) = some [Value.string fn, .int .i64 (a : Int), .int .i64 (m : Int)].length := (by first | exact Tryd.szF | (simp only [H_length, Pat.cells_length, List.length_append]; exact Tryd.szF))
                  have zz3_3 : (Tryd.prog.info? 30).map (·.size) = some (H T).length := (by first | exact Tryd.szH | (simp only [H_length, Pat.cells_length, List.length_append]; exact Tryd.szH))
                  refine wp_region_held_drew (S := fun w' => w'.rangeAt g5 0 [Value.string fn, .int .i64 (a : Int), .int .i64 (m : Int)] ∧ w'.cell? ⟨g5, 1, none⟩ = some (.int .i64 (a : Int)) ∧ w'.rangeAt g3 0 (H T)) (by kernel_rfl) ⟨blk_range B5, B5.cell (k := 1) rfl, blk_range B3⟩ (fun hHeld => ?_)
                  clear hdd
                  generalize w27.drew = w28 at B3 B5 B6 hbe hHeld  ⊢
                  refine' wpAnyH_take (i := 0) (v := _) rfl (by kernel_rfl) (by kernel_rfl) (by kernel_rfl) (fun _ _ _ h => h) (yieldsIf_load_mid (by rfl) _ _ (by rfl) _ _ (by rfl) _ _ ?Sqbc0 ?uqbc0 ?dqbc0 ?iqbc0) (by assumption) ?rqbc0
                  case Sqbc0 => exact (by intro w h; exact h.1)
                  case uqbc0 => exact Tryd.underlying33
                  case dqbc0 => rfl
                  case iqbc0 => exact zz5_1
                  (try simp only [List.getElem_toArray, List.getElem_cons_zero, Act.put, List.setIfInBounds_toArray, List.set_cons_zero, List.set_cons_succ])
                  refine wpAnyH_ready (rs := [1]) (by kernel_rfl) (by simp) ?_
                  refine AllReadyH.cons rfl (fun K hK => ?_) AllReadyH.nil
                  go_simp
                  go_wp2_with fail
                  (with_reducible refine (HLI.out _).mono ?_)
                  rintro e w29 ⟨rfl, hb29⟩
                  have B3 := B3.next hb29 B3.lt
                  have B5 := B5.next hb29 B5.lt
                  have B6 := B6.next hb29 B6.lt
                  have hbe := below_join hbe hb29
                  refine hK.out _ _ ⟨blk_range B5, B5.cell (k := 1) rfl, blk_range B3⟩ (fun hHeld => ?_)
                  clear hK K hb29
                  refine wpAnyH_take (i := 2) (v := ?vqbc2) rfl (by kernel_rfl) (by kernel_rfl) (by kernel_rfl) (fun _ _ _ h => h) (Or.inl ⟨by rfl, ?yqbc2⟩) (by assumption) ?rqbc2
                  case yqbc2 => intro w hSw; (try dsimp only at hSw); go_simp <;> (try with_reducible rfl)
                  (try simp only [List.getElem_toArray, List.getElem_cons_succ, List.getElem_cons_zero, Act.put, List.setIfInBounds_toArray, List.set_cons_zero, List.set_cons_succ])
                  refine wpAnyH_take (i := 3) (v := ?vqbc3) rfl (by kernel_rfl) (by kernel_rfl) (by kernel_rfl) (fun _ _ _ h => h) (Or.inl ⟨by rfl, ?yqbc3⟩) (by assumption) ?rqbc3
                  case yqbc3 => intro w hSw; (try dsimp only at hSw); go_simp <;> (try with_reducible rfl)
                  (try simp only [List.getElem_toArray, List.getElem_cons_succ, List.getElem_cons_zero, Act.put, List.setIfInBounds_toArray, List.set_cons_zero, List.set_cons_succ])
                  refine wpAnyH_take (i := 4) (v := ?vqbc4) rfl (by kernel_rfl) (by kernel_rfl) (by kernel_rfl) (fun _ _ _ h => h) (Or.inl ⟨by rfl, ?yqbc4⟩) (by assumption) ?rqbc4
                  case yqbc4 => intro w hSw; (try dsimp only at hSw); go_simp <;> (try with_reducible rfl)
                  (try simp only [List.getElem_toArray, List.getElem_cons_succ, List.getElem_cons_zero, Act.put, List.setIfInBounds_toArray, List.set_cons_zero, List.set_cons_succ])
                  refine wpAnyH_take (i := 5) (v := ?vqbc5) rfl (by kernel_rfl) (by kernel_rfl) (by kernel_rfl) (fun _ _ _ h => h) (Or.inl ⟨by rfl, ?yqbc5⟩) (by assumption) ?rqbc5
                  case yqbc5 => intro w hSw; have hSc := hSw.2.1; go_simp <;> (try with_reducible rfl)
                  (try simp only [List.getElem_toArray, List.getElem_cons_succ, List.getElem_cons_zero, Act.put, List.setIfInBounds_toArray, List.set_cons_zero, List.set_cons_succ])
                  refine wpAnyH_take (i := 6) (v := ?vqbc6) rfl (by kernel_rfl) (by kernel_rfl) (by kernel_rfl) (fun _ _ _ h => h) (Or.inl ⟨by rfl, ?yqbc6⟩) (by assumption) ?rqbc6
                  case yqbc6 => intro w hSw; (try dsimp only at hSw); go_simp <;> (try with_reducible rfl)
                  (try simp only [List.getElem_toArray, List.getElem_cons_succ, List.getElem_cons_zero, Act.put, List.setIfInBounds_toArray, List.set_cons_zero, List.set_cons_succ])
                  refine wpAnyH_take (i := 7) (v := ?vqbc7) rfl (by kernel_rfl) (by kernel_rfl) (by kernel_rfl) (fun _ _ _ h => h) (Or.inl ⟨by rfl, ?yqbc7⟩) (by assumption) ?rqbc7
                  case yqbc7 => intro w hSw; (try dsimp only at hSw); go_simp <;> (try with_reducible rfl)
                  (try simp only [List.getElem_toArray, List.getElem_cons_succ, List.getElem_cons_zero, Act.put, List.setIfInBounds_toArray, List.set_cons_zero, List.set_cons_succ])
                  refine wpAnyH_take (i := 8) (v := ?vqbc8) rfl (by kernel_rfl) (by kernel_rfl) (by kernel_rfl) (fun _ _ _ h => h) (Or.inl ⟨by rfl, ?yqbc8⟩) (by assumption) ?rqbc8
                  case yqbc8 => intro w hSw; (try dsimp only at hSw); go_simp <;> (try with_reducible rfl)
                  (try simp only [List.getElem_toArray, List.getElem_cons_succ, List.getElem_cons_zero, Act.put, List.setIfInBounds_toArray, List.set_cons_zero, List.set_cons_succ])
                  refine wpAnyH_take (i := 9) (v := ?vqbc9) rfl (by kernel_rfl) (by kernel_rfl) (by kernel_rfl) (fun _ _ _ h => h) (Or.inl ⟨by rfl, ?yqbc9⟩) (by assumption) ?rqbc9
                  case yqbc9 => intro w hSw; (try dsimp only at hSw); go_simp <;> (try with_reducible rfl)
                  (try simp only [List.getElem_toArray, List.getElem_cons_succ, List.getElem_cons_zero, Act.put, List.setIfInBounds_toArray, List.set_cons_zero, List.set_cons_succ])
                  refine wpAnyH_take (i := 10) (v := ?vqbc10) rfl (by kernel_rfl) (by kernel_rfl) (by kernel_rfl) (fun _ _ _ h => h) (Or.inl ⟨by rfl, ?yqbc10⟩) (by assumption) ?rqbc10
                  case yqbc10 => intro w hSw; have hSc := hSw.2.1; go_simp <;> (try with_reducible rfl)
                  (try simp only [List.getElem_toArray, List.getElem_cons_succ, List.getElem_cons_zero, Act.put, List.setIfInBounds_toArray, List.set_cons_zero, List.set_cons_succ])
                  refine wpAnyH_take (i := 11) (v := ?vqbc11) rfl (by kernel_rfl) (by kernel_rfl) (by kernel_rfl) (fun _ _ _ h => h) (Or.inl ⟨by rfl, ?yqbc11⟩) (by assumption) ?rqbc11
                  case yqbc11 => intro w hSw; (try dsimp only at hSw); go_simp <;> (try with_reducible rfl)
                  (try simp only [List.getElem_toArray, List.getElem_cons_succ, List.getElem_cons_zero, Act.put, List.setIfInBounds_toArray, List.set_cons_zero, List.set_cons_succ])
                  refine wpAnyH_take (i := 12) (v := ?vqbc12) rfl (by kernel_rfl) (by kernel_rfl) (by kernel_rfl) (fun _ _ _ h => h) (Or.inl ⟨by rfl, ?yqbc12⟩) (by assumption) ?rqbc12
                  case yqbc12 => intro w hSw; (try dsimp only at hSw); go_simp <;> (try with_reducible rfl)
                  (try simp only [List.getElem_toArray, List.getElem_cons_succ, List.getElem_cons_zero, Act.put, List.setIfInBounds_toArray, List.set_cons_zero, List.set_cons_succ])
                  refine wpAnyH_take (i := 13) (v := ?vqbc13) rfl (by kernel_rfl) (by kernel_rfl) (by kernel_rfl) (fun _ _ _ h => h) (Or.inl ⟨by rfl, ?yqbc13⟩) (by assumption) ?rqbc13
                  case yqbc13 => intro w hSw; (try dsimp only at hSw); go_simp <;> (try with_reducible rfl)
                  (try simp only [List.getElem_toArray, List.getElem_cons_succ, List.getElem_cons_zero, Act.put, List.setIfInBounds_toArray, List.set_cons_zero, List.set_cons_succ])
                  refine' wpAnyH_take (i := 14) (v := _) rfl (by kernel_rfl) (by kernel_rfl) (by kernel_rfl) (fun _ _ _ h => h) (yieldsIf_load_mid (by rfl) _ _ (by rfl) _ _ (by rfl) _ _ ?Sqbc14 ?uqbc14 ?dqbc14 ?iqbc14) (by assumption) ?rqbc14
                  case Sqbc14 => exact (by intro w h; exact h.1)
                  case uqbc14 => exact Tryd.underlying33
                  case dqbc14 => rfl
                  case iqbc14 => exact zz5_1
                  (try simp only [List.getElem_toArray, List.getElem_cons_succ, List.getElem_cons_zero, Act.put, List.setIfInBounds_toArray, List.set_cons_zero, List.set_cons_succ])
                  refine' wpAnyH_take (i := 15) (v := _) rfl (by kernel_rfl) (by kernel_rfl) (by kernel_rfl) (fun _ _ _ h => h) (yieldsIf_load_mid (by rfl) _ _ (by rfl) _ _ (by rfl) _ _ ?Sqbc15 ?uqbc15 ?dqbc15 ?iqbc15) (by assumption) ?rqbc15
                  case Sqbc15 => exact (by intro w h; exact h.2.2)
                  case uqbc15 => exact Tryd.underlying30
                  case dqbc15 => rfl
                  case iqbc15 => exact zz3_3
                  (try simp only [List.getElem_toArray, List.getElem_cons_succ, List.getElem_cons_zero, Act.put, List.setIfInBounds_toArray, List.set_cons_zero, List.set_cons_succ])
                  refine' wpAnyH_take (i := 17) (v := _) rfl (by kernel_rfl) (by kernel_rfl) (by kernel_rfl) (fun _ _ _ h => h) (yieldsIf_load_mid (by rfl) _ _ (by rfl) _ _ (by rfl) _ _ ?Sqbc17 ?uqbc17 ?dqbc17 ?iqbc17) (by assumption) ?rqbc17
                  case Sqbc17 => exact (by intro w h; exact h.2.2)
                  case uqbc17 => exact Tryd.underlying30
                  case dqbc17 => rfl
                  case iqbc17 => exact zz3_3
                  (try simp only [List.getElem_toArray, List.getElem_cons_succ, List.getElem_cons_zero, Act.put, List.setIfInBounds_toArray, List.set_cons_zero, List.set_cons_succ])
                  refine wpAnyH_ready (rs := [16]) (by kernel_rfl) (by simp) ?_
                  refine AllReadyH.cons rfl (fun K hK => ?_) AllReadyH.nil
                  go_simp
                  go_wp2_with fail
                  (with_reducible refine (HSE.out _).mono ?_)
                  rintro e w30 ⟨rfl, hb30⟩
                  have B3 := B3.next hb30 B3.lt
                  have B5 := B5.next hb30 B5.lt
                  have B6 := B6.next hb30 B6.lt
                  have hbe := below_join hbe hb30
                  refine hK.out _ _ ⟨blk_range B5, B5.cell (k := 1) rfl, blk_range B3⟩ (fun hHeld => ?_)
                  clear hK K hb30
                  refine wpAnyH_take (i := 18) (v := ?vqbc18) rfl (by kernel_rfl) (by kernel_rfl) (by kernel_rfl) (fun _ _ _ h => h) (Or.inl ⟨by rfl, ?yqbc18⟩) (by assumption) ?rqbc18
                  case yqbc18 => intro w hSw; (try dsimp only at hSw); go_simp <;> (try with_reducible rfl)
                  (try simp only [List.getElem_toArray, List.getElem_cons_succ, List.getElem_cons_zero, Act.put, List.setIfInBounds_toArray, List.set_cons_zero, List.set_cons_succ])
                  refine wpAnyH_take (i := 19) (v := ?vqbc19) rfl (by kernel_rfl) (by kernel_rfl) (by kernel_rfl) (fun _ _ _ h => h) (Or.inl ⟨by rfl, ?yqbc19⟩) (by assumption) ?rqbc19
                  case yqbc19 => intro w hSw; (try dsimp only at hSw); go_simp <;> (try with_reducible rfl)
                  (try simp only [List.getElem_toArray, List.getElem_cons_succ, List.getElem_cons_zero, Act.put, List.setIfInBounds_toArray, List.set_cons_zero, List.set_cons_succ])
                  refine wpAnyH_done (by kernel_rfl) ?_ _
                  clear hHeld zz5_1 zz3_3
                  go_wp2
                  have hdd := below_drew w30
                  have B3 := B3.next hdd B3.lt
                  have B5 := B5.next hdd B5.lt
                  have B6 := B6.next hdd B6.lt
                  have hbe := below_join hbe hdd
                  have zz5_1 : (Tryd.prog.info? 33).map (·.size) = some [Value.string fn, .int .i64 (a : Int), .int .i64 (m : Int)].length := (by first | exact Tryd.szF | (simp only [H_length, Pat.cells_length, List.length_append]; exact Tryd.szF))
                  refine wp_region_held_drew (S := fun w' => w'.rangeAt g5 0 [Value.string fn, .int .i64 (a : Int), .int .i64 (m : Int)]) (by kernel_rfl) (blk_range B5) (fun hHeld => ?_)
                  clear hdd
                  generalize w30.drew = w31 at B3 B5 B6 hbe hHeld  ⊢
                  refine' wpAnyH_take (i := 0) (v := _) rfl (by kernel_rfl) (by kernel_rfl) (by kernel_rfl) (fun _ _ _ h => h) (yieldsIf_load_mid (by rfl) _ _ (by rfl) _ _ (by rfl) _ _ ?Sqbd0 ?uqbd0 ?dqbd0 ?iqbd0) (by assumption) ?rqbd0
                  case Sqbd0 => exact (by intro w h; exact h)
                  case uqbd0 => exact Tryd.underlying33
                  case dqbd0 => rfl
                  case iqbd0 => exact zz5_1
                  (try simp only [List.getElem_toArray, List.getElem_cons_zero, Act.put, List.setIfInBounds_toArray, List.set_cons_zero, List.set_cons_succ])
                  refine' wpAnyH_take (i := 2) (v := _) rfl (by kernel_rfl) (by kernel_rfl) (by kernel_rfl) (fun _ _ _ h => h) (yieldsIf_load_mid (by rfl) _ _ (by rfl) _ _ (by rfl) _ _ ?Sqbd2 ?uqbd2 ?dqbd2 ?iqbd2) (by assumption) ?rqbd2
                  case Sqbd2 => exact (by intro w h; exact h)
                  case uqbd2 => exact Tryd.underlying33
                  case dqbd2 => rfl
                  case iqbd2 => exact zz5_1
                  (try simp only [List.getElem_toArray, List.getElem_cons_succ, List.getElem_cons_zero, Act.put, List.setIfInBounds_toArray, List.set_cons_zero, List.set_cons_succ])
                  refine wpAnyH_ready (rs := [1, 3]) (by kernel_rfl) (by simp) ?_
                  refine AllReadyH.cons rfl (fun K hK => ?_) (AllReadyH.cons rfl (fun K hK => ?_) AllReadyH.nil)
                  · skip
                    rw [if_pos (by rfl)]
                    refine' wp_load_mid _ _ rfl g3 0 rfl (H T) _ ?cqbe ?uqbe ?dqbe ?iqbe ?rqbe
                    case cqbe => exact blk_range B3
                    case uqbe => exact Tryd.underlying30
                    case dqbe => rfl
                    case iqbe => exact (by first | exact Tryd.szH | (simp only [H_length, Pat.cells_length, List.length_append]; exact Tryd.szH))
                    (try simp only [List.getElem_toArray, List.getElem_cons_succ, List.getElem_cons_zero, Act.put, List.setIfInBounds_toArray, List.set_cons_zero, List.set_cons_succ])
                    refine hK.out _ _ (blk_range B5) (fun hHeld => ?_)
                    clear hK K
                    refine wpAnyH_ready (rs := [3]) (by kernel_rfl) (by simp) ?_
                    refine AllReadyH.cons rfl (fun K hK => ?_) AllReadyH.nil
                    go_simp
                    go_wp2_with fail
                    (with_reducible refine (HMX.out _).mono ?_)
                    rintro e w32 ⟨rfl, hb32⟩
                    have B3 := B3.next hb32 B3.lt
                    have B5 := B5.next hb32 B5.lt
                    have B6 := B6.next hb32 B6.lt
                    have hbe := below_join hbe hb32
                    refine hK.out _ _ (blk_range B5) (fun hHeld => ?_)
                    clear hK K hb32
                    refine wpAnyH_ready (rs := [4]) (by kernel_rfl) (by simp) ?_
                    refine AllReadyH.cons rfl (fun K hK => ?_) AllReadyH.nil
                    go_simp
                    go_wp2_with fail
                    (with_reducible refine (HS2.out _).mono ?_)
                    rintro e w33 ⟨rfl, hb33⟩
                    have B3 := B3.next hb33 B3.lt
                    have B5 := B5.next hb33 B5.lt
                    have B6 := B6.next hb33 B6.lt
                    have hbe := below_join hbe hb33
                    refine hK.out _ _ (blk_range B5) (fun hHeld => ?_)
                    clear hK K hb33
                    refine wpAnyH_ready (rs := [5]) (by kernel_rfl) (by simp) ?_
                    refine AllReadyH.cons rfl (fun K hK => ?_) AllReadyH.nil
                    rw [if_pos (by rfl)]
                    refine wp_put 30 (.tmp 3) (.tmp 58) rfl g3 0 rfl (.agg (H T1).toArray) rfl B3 (H T1) rfl (by first | exact Tryd.szH | (simp only [H_length, Pat.cells_length, List.length_append]; exact Tryd.szH)) (by first | exact Nat.le_refl 3 | (simp only [H_length, Pat.cells_length, List.length_append]; omega)) (H_one _) ?_
                    intro w34 hu34 C3
                    rw [splice_all _ _ (by simp only [H_length])] at C3
                    have B5 := B5.upd hu34 ne5_3
                    have B6 := B6.upd hu34 ne6_3
                    have hbe := hbe.trans (hu34.below (B := w.heap.size) hl3)
                    clear B3 hu34
                    have B3 := C3
                    clear C3
                    refine hK.out _ _ (blk_range B5) (fun hHeld => ?_)
                    clear hK K
                    refine wpAnyH_done (by kernel_rfl) ?_ _
                    clear hHeld zz5_1
                    rw [← hT1.out] at B3
                    go_wp2
                    go_roundw
                    case rel => exact ⟨k + 1, by rw [hn.out]; omega, by go_num, by rw [hCH.out]; exact HNX.out.1, HNX.out.2, B3, hbe⟩
                    case measure => simp [intOf]; omega
                  · skip
                    go_simp
                    go_wp2_with fail
                    (with_reducible refine (HMX.out _).mono ?_)
                    rintro e w32 ⟨rfl, hb32⟩
                    have B3 := B3.next hb32 B3.lt
                    have B5 := B5.next hb32 B5.lt
                    have B6 := B6.next hb32 B6.lt
                    have hbe := below_join hbe hb32
                    refine hK.out _ _ (blk_range B5) (fun hHeld => ?_)
                    clear hK K hb32
                    refine wpAnyH_ready (rs := [1]) (by kernel_rfl) (by simp) ?_
                    refine AllReadyH.cons rfl (fun K hK => ?_) AllReadyH.nil
                    rw [if_pos (by rfl)]
                    refine' wp_load_mid _ _ rfl g3 0 rfl (H T) _ ?cqbh ?uqbh ?dqbh ?iqbh ?rqbh
                    case cqbh => exact blk_range B3
                    case uqbh => exact Tryd.underlying30
                    case dqbh => rfl
                    case iqbh => exact (by first | exact Tryd.szH | (simp only [H_length, Pat.cells_length, List.length_append]; exact Tryd.szH))
                    (try simp only [List.getElem_toArray, List.getElem_cons_succ, List.getElem_cons_zero, Act.put, List.setIfInBounds_toArray, List.set_cons_zero, List.set_cons_succ])
                    refine hK.out _ _ (blk_range B5) (fun hHeld => ?_)
                    clear hK K
                    refine wpAnyH_ready (rs := [4]) (by kernel_rfl) (by simp) ?_
                    refine AllReadyH.cons rfl (fun K hK => ?_) AllReadyH.nil
                    go_simp
                    go_wp2_with fail
                    (with_reducible refine (HS2.out _).mono ?_)
                    rintro e w33 ⟨rfl, hb33⟩
                    have B3 := B3.next hb33 B3.lt
                    have B5 := B5.next hb33 B5.lt
                    have B6 := B6.next hb33 B6.lt
                    have hbe := below_join hbe hb33
                    refine hK.out _ _ (blk_range B5) (fun hHeld => ?_)
                    clear hK K hb33
                    refine wpAnyH_ready (rs := [5]) (by kernel_rfl) (by simp) ?_
                    refine AllReadyH.cons rfl (fun K hK => ?_) AllReadyH.nil
                    rw [if_pos (by rfl)]
                    refine wp_put 30 (.tmp 3) (.tmp 58) rfl g3 0 rfl (.agg (H T1).toArray) rfl B3 (H T1) rfl (by first | exact Tryd.szH | (simp only [H_length, Pat.cells_length, List.length_append]; exact Tryd.szH)) (by first | exact Nat.le_refl 3 | (simp only [H_length, Pat.cells_length, List.length_append]; omega)) (H_one _) ?_
                    intro w34 hu34 C3
                    rw [splice_all _ _ (by simp only [H_length])] at C3
                    have B5 := B5.upd hu34 ne5_3
                    have B6 := B6.upd hu34 ne6_3
                    have hbe := hbe.trans (hu34.below (B := w.heap.size) hl3)
                    clear B3 hu34
                    have B3 := C3
                    clear C3
                    refine hK.out _ _ (blk_range B5) (fun hHeld => ?_)
                    clear hK K
                    refine wpAnyH_done (by kernel_rfl) ?_ _
                    clear hHeld zz5_1
                    rw [← hT1.out] at B3
                    go_wp2
                    go_roundw
                    case rel => exact ⟨k + 1, by rw [hn.out]; omega, by go_num, by rw [hCH.out]; exact HNX.out.1, HNX.out.2, B3, hbe⟩
                    case measure => simp [intOf]; omega
                · skip
                  rw [if_pos (by rfl)]
                  refine wp_allocz 33 rfl (.agg #[.string ByteArray.empty, .int .i64 0, .int .i64 0]) [Value.string ByteArray.empty, .int .i64 0, .int .i64 0] Tryd.zeroF rfl ?_
                  intro g6 w24 hg6 hs24 hb24 B6
                  have hl6 : w.heap.size ≤ g6 := Nat.le_trans hbe.size (Nat.le_of_eq hg6.out.symm)
                  have ne3_6 : g3 ≠ g6 := by have := B3.lt; have := hg6.out; omega
                  have ne6_3 := ne3_6.symm
                  have ne5_6 : g5 ≠ g6 := by have := B5.lt; have := hg6.out; omega
                  have ne6_5 := ne5_6.symm
                  have hb24 := hb24.mono (Nat.le_of_eq hg6.out.symm)
                  have B3 := B3.next hb24 B3.lt
                  have B5 := B5.next hb24 B5.lt
                  have hbe := below_join hbe hb24
                  clear hb24 hg6 hs24
                  refine hK.out _ _ (B5.cell (k := 0) rfl) (fun hHeld => ?_)
                  clear hK K
                  refine wpAnyH_ready (rs := [5]) (by kernel_rfl) (by simp) ?_
                  refine AllReadyH.cons rfl (fun K hK => ?_) AllReadyH.nil
                  go_simp
                  go_wp2_with fail
                  (with_reducible refine (HFI.out _ hbe).mono ?_)
                  rintro e w25 ⟨rfl, hb25⟩
                  have B3 := B3.next hb25 B3.lt
                  have B5 := B5.next hb25 B5.lt
                  have B6 := B6.next hb25 B6.lt
                  have hbe := below_join hbe hb25
                  refine hK.out _ _ (B5.cell (k := 0) rfl) (fun hHeld => ?_)
                  clear hK K hb25
                  refine wpAnyH_take (i := 6) (v := ?vqbi6) rfl (by kernel_rfl) (by kernel_rfl) (by kernel_rfl) (fun _ _ _ h => h) (Or.inl ⟨by rfl, ?yqbi6⟩) (by assumption) ?rqbi6
                  case yqbi6 => intro w hSw; (try dsimp only at hSw); go_simp <;> (try with_reducible rfl)
                  (try simp only [List.getElem_toArray, List.getElem_cons_succ, List.getElem_cons_zero, Act.put, List.setIfInBounds_toArray, List.set_cons_zero, List.set_cons_succ])
                  refine wpAnyH_take (i := 7) (v := ?vqbi7) rfl (by kernel_rfl) (by kernel_rfl) (by kernel_rfl) (fun _ _ _ h => h) (Or.inl ⟨by rfl, ?yqbi7⟩) (by assumption) ?rqbi7
                  case yqbi7 => intro w hSw; (try dsimp only at hSw); go_simp <;> (try with_reducible rfl)
                  (try simp only [List.getElem_toArray, List.getElem_cons_succ, List.getElem_cons_zero, Act.put, List.setIfInBounds_toArray, List.set_cons_zero, List.set_cons_succ])
                  refine wpAnyH_take (i := 8) (v := ?vqbi8) rfl (by kernel_rfl) (by kernel_rfl) (by kernel_rfl) (fun _ _ _ h => h) (Or.inl ⟨by rfl, ?yqbi8⟩) (by assumption) ?rqbi8
                  case yqbi8 => intro w hSw; (try dsimp only at hSw); go_simp <;> (try with_reducible rfl)
                  (try simp only [List.getElem_toArray, List.getElem_cons_succ, List.getElem_cons_zero, Act.put, List.setIfInBounds_toArray, List.set_cons_zero, List.set_cons_succ])
                  refine wpAnyH_ready (rs := [10]) (by kernel_rfl) (by simp) ?_
                  refine AllReadyH.cons rfl (fun K hK => ?_) AllReadyH.nil
                  rw [if_pos (by rfl)]
                  refine wp_put 33 (.tmp 6) (.tmp 25) rfl g6 0 rfl (.agg [Value.string ByteArray.empty, .int .i64 0, .int .i64 0].toArray) rfl B6 [Value.string ByteArray.empty, .int .i64 0, .int .i64 0] rfl (by first | exact Tryd.szF | (simp only [H_length, Pat.cells_length, List.length_append]; exact Tryd.szF)) (by first | exact Nat.le_refl 3 | (simp only [H_length, Pat.cells_length, List.length_append]; omega)) (fields_one _ _ _) ?_
                  intro w26 hu26 C6
                  rw [splice_all _ _ (by rfl)] at C6
                  have B3 := B3.upd hu26 ne3_6
                  have B5 := B5.upd hu26 ne5_6
                  have hbe := hbe.trans (hu26.below (B := w.heap.size) hl6)
                  clear B6 hu26
                  have B6 := C6
                  clear C6
                  refine hK.out _ _ (B5.cell (k := 0) rfl) (fun hHeld => ?_)
                  clear hK K
                  refine wpAnyH_take (i := 11) (v := ?vqbi11) rfl (by kernel_rfl) (by kernel_rfl) (by kernel_rfl) (fun _ _ _ h => h) (Or.inl ⟨by rfl, ?yqbi11⟩) (by assumption) ?rqbi11
                  case yqbi11 => intro w hSw; (try dsimp only at hSw); go_simp <;> (try with_reducible rfl)
                  (try simp only [List.getElem_toArray, List.getElem_cons_succ, List.getElem_cons_zero, Act.put, List.setIfInBounds_toArray, List.set_cons_zero, List.set_cons_succ])
                  refine wpAnyH_done (by kernel_rfl) ?_ _
                  clear hHeld 
                  have z5_0 := B5.cell (k := 0) rfl
                  have z5_1 := B5.cell (k := 1) rfl
                  have z5_2 := B5.cell (k := 2) rfl
                  go_wp2_with fail
                  (with_reducible refine (HNM.out _).mono ?_)
                  rintro e w27 ⟨rfl, hb27⟩
                  clear z5_0 z5_1 z5_2
                  have B3 := B3.next hb27 B3.lt
                  have B5 := B5.next hb27 B5.lt
                  have B6 := B6.next hb27 B6.lt
                  have hbe := below_join hbe hb27
                  clear hb27
                  go_wp2
                  have hdd := below_drew w27
                  have B3 := B3.next hdd B3.lt
                  have B5 := B5.next hdd B5.lt
                  have B6 := B6.next hdd B6.lt
                  have hbe := below_join hbe hdd
                  have zz5_1 : (Tryd.prog.info? 33).map (·.size) = some [Value.string fn, .int .i64 (a : Int), .int .i64 (m : Int)].length := (by first | exact Tryd.szF | (simp only [H_length, Pat.cells_length, List.length_append]; exact Tryd.szF))
                  have zz3_3 : (Tryd.prog.info? 30).map (·.size) = some (H T).length := (by first | exact Tryd.szH | (simp only [H_length, Pat.cells_length, List.length_append]; exact Tryd.szH))
                  refine wp_region_held_drew (S := fun w' => w'.rangeAt g5 0 [Value.string fn, .int .i64 (a : Int), .int .i64 (m : Int)] ∧ w'.cell? ⟨g5, 1, none⟩ = some (.int .i64 (a : Int)) ∧ w'.rangeAt g3 0 (H T)) (by kernel_rfl) ⟨blk_range B5, B5.cell (k := 1) rfl, blk_range B3⟩ (fun hHeld => ?_)
                  clear hdd
                  generalize w27.drew = w28 at B3 B5 B6 hbe hHeld  ⊢
                  refine' wpAnyH_take (i := 0) (v := _) rfl (by kernel_rfl) (by kernel_rfl) (by kernel_rfl) (fun _ _ _ h => h) (yieldsIf_load_mid (by rfl) _ _ (by rfl) _ _ (by rfl) _ _ ?Sqbj0 ?uqbj0 ?dqbj0 ?iqbj0) (by assumption) ?rqbj0
                  case Sqbj0 => exact (by intro w h; exact h.1)
                  case uqbj0 => exact Tryd.underlying33
                  case dqbj0 => rfl
                  case iqbj0 => exact zz5_1
                  (try simp only [List.getElem_toArray, List.getElem_cons_zero, Act.put, List.setIfInBounds_toArray, List.set_cons_zero, List.set_cons_succ])
                  refine wpAnyH_ready (rs := [1]) (by kernel_rfl) (by simp) ?_
                  refine AllReadyH.cons rfl (fun K hK => ?_) AllReadyH.nil
                  go_simp
                  go_wp2_with fail
                  (with_reducible refine (HLI.out _).mono ?_)
                  rintro e w29 ⟨rfl, hb29⟩
                  have B3 := B3.next hb29 B3.lt
                  have B5 := B5.next hb29 B5.lt
                  have B6 := B6.next hb29 B6.lt
                  have hbe := below_join hbe hb29
                  refine hK.out _ _ ⟨blk_range B5, B5.cell (k := 1) rfl, blk_range B3⟩ (fun hHeld => ?_)
                  clear hK K hb29
                  refine wpAnyH_take (i := 2) (v := ?vqbj2) rfl (by kernel_rfl) (by kernel_rfl) (by kernel_rfl) (fun _ _ _ h => h) (Or.inl ⟨by rfl, ?yqbj2⟩) (by assumption) ?rqbj2
                  case yqbj2 => intro w hSw; (try dsimp only at hSw); go_simp <;> (try with_reducible rfl)
                  (try simp only [List.getElem_toArray, List.getElem_cons_succ, List.getElem_cons_zero, Act.put, List.setIfInBounds_toArray, List.set_cons_zero, List.set_cons_succ])
                  refine wpAnyH_take (i := 3) (v := ?vqbj3) rfl (by kernel_rfl) (by kernel_rfl) (by kernel_rfl) (fun _ _ _ h => h) (Or.inl ⟨by rfl, ?yqbj3⟩) (by assumption) ?rqbj3
                  case yqbj3 => intro w hSw; (try dsimp only at hSw); go_simp <;> (try with_reducible rfl)
                  (try simp only [List.getElem_toArray, List.getElem_cons_succ, List.getElem_cons_zero, Act.put, List.setIfInBounds_toArray, List.set_cons_zero, List.set_cons_succ])
                  refine wpAnyH_take (i := 4) (v := ?vqbj4) rfl (by kernel_rfl) (by kernel_rfl) (by kernel_rfl) (fun _ _ _ h => h) (Or.inl ⟨by rfl, ?yqbj4⟩) (by assumption) ?rqbj4
                  case yqbj4 => intro w hSw; (try dsimp only at hSw); go_simp <;> (try with_reducible rfl)
                  (try simp only [List.getElem_toArray, List.getElem_cons_succ, List.getElem_cons_zero, Act.put, List.setIfInBounds_toArray, List.set_cons_zero, List.set_cons_succ])
                  refine wpAnyH_take (i := 5) (v := ?vqbj5) rfl (by kernel_rfl) (by kernel_rfl) (by kernel_rfl) (fun _ _ _ h => h) (Or.inl ⟨by rfl, ?yqbj5⟩) (by assumption) ?rqbj5
                  case yqbj5 => intro w hSw; have hSc := hSw.2.1; go_simp <;> (try with_reducible rfl)
                  (try simp only [List.getElem_toArray, List.getElem_cons_succ, List.getElem_cons_zero, Act.put, List.setIfInBounds_toArray, List.set_cons_zero, List.set_cons_succ])
                  refine wpAnyH_take (i := 6) (v := ?vqbj6) rfl (by kernel_rfl) (by kernel_rfl) (by kernel_rfl) (fun _ _ _ h => h) (Or.inl ⟨by rfl, ?yqbj6⟩) (by assumption) ?rqbj6
                  case yqbj6 => intro w hSw; (try dsimp only at hSw); go_simp <;> (try with_reducible rfl)
                  (try simp only [List.getElem_toArray, List.getElem_cons_succ, List.getElem_cons_zero, Act.put, List.setIfInBounds_toArray, List.set_cons_zero, List.set_cons_succ])
                  refine wpAnyH_take (i := 7) (v := ?vqbj7) rfl (by kernel_rfl) (by kernel_rfl) (by kernel_rfl) (fun _ _ _ h => h) (Or.inl ⟨by rfl, ?yqbj7⟩) (by assumption) ?rqbj7
                  case yqbj7 => intro w hSw; (try dsimp only at hSw); go_simp <;> (try with_reducible rfl)
                  (try simp only [List.getElem_toArray, List.getElem_cons_succ, List.getElem_cons_zero, Act.put, List.setIfInBounds_toArray, List.set_cons_zero, List.set_cons_succ])
                  refine wpAnyH_take (i := 8) (v := ?vqbj8) rfl (by kernel_rfl) (by kernel_rfl) (by kernel_rfl) (fun _ _ _ h => h) (Or.inl ⟨by rfl, ?yqbj8⟩) (by assumption) ?rqbj8
                  case yqbj8 => intro w hSw; (try dsimp only at hSw); go_simp <;> (try with_reducible rfl)
                  (try simp only [List.getElem_toArray, List.getElem_cons_succ, List.getElem_cons_zero, Act.put, List.setIfInBounds_toArray, List.set_cons_zero, List.set_cons_succ])
                  refine wpAnyH_take (i := 9) (v := ?vqbj9) rfl (by kernel_rfl) (by kernel_rfl) (by kernel_rfl) (fun _ _ _ h => h) (Or.inl ⟨by rfl, ?yqbj9⟩) (by assumption) ?rqbj9
                  case yqbj9 => intro w hSw; (try dsimp only at hSw); go_simp <;> (try with_reducible rfl)
                  (try simp only [List.getElem_toArray, List.getElem_cons_succ, List.getElem_cons_zero, Act.put, List.setIfInBounds_toArray, List.set_cons_zero, List.set_cons_succ])
                  refine wpAnyH_take (i := 10) (v := ?vqbj10) rfl (by kernel_rfl) (by kernel_rfl) (by kernel_rfl) (fun _ _ _ h => h) (Or.inl ⟨by rfl, ?yqbj10⟩) (by assumption) ?rqbj10
                  case yqbj10 => intro w hSw; have hSc := hSw.2.1; go_simp <;> (try with_reducible rfl)
                  (try simp only [List.getElem_toArray, List.getElem_cons_succ, List.getElem_cons_zero, Act.put, List.setIfInBounds_toArray, List.set_cons_zero, List.set_cons_succ])
                  refine wpAnyH_take (i := 11) (v := ?vqbj11) rfl (by kernel_rfl) (by kernel_rfl) (by kernel_rfl) (fun _ _ _ h => h) (Or.inl ⟨by rfl, ?yqbj11⟩) (by assumption) ?rqbj11
                  case yqbj11 => intro w hSw; (try dsimp only at hSw); go_simp <;> (try with_reducible rfl)
                  (try simp only [List.getElem_toArray, List.getElem_cons_succ, List.getElem_cons_zero, Act.put, List.setIfInBounds_toArray, List.set_cons_zero, List.set_cons_succ])
                  refine wpAnyH_take (i := 12) (v := ?vqbj12) rfl (by kernel_rfl) (by kernel_rfl) (by kernel_rfl) (fun _ _ _ h => h) (Or.inl ⟨by rfl, ?yqbj12⟩) (by assumption) ?rqbj12
                  case yqbj12 => intro w hSw; (try dsimp only at hSw); go_simp <;> (try with_reducible rfl)
                  (try simp only [List.getElem_toArray, List.getElem_cons_succ, List.getElem_cons_zero, Act.put, List.setIfInBounds_toArray, List.set_cons_zero, List.set_cons_succ])
                  refine wpAnyH_take (i := 13) (v := ?vqbj13) rfl (by kernel_rfl) (by kernel_rfl) (by kernel_rfl) (fun _ _ _ h => h) (Or.inl ⟨by rfl, ?yqbj13⟩) (by assumption) ?rqbj13
                  case yqbj13 => intro w hSw; (try dsimp only at hSw); go_simp <;> (try with_reducible rfl)
                  (try simp only [List.getElem_toArray, List.getElem_cons_succ, List.getElem_cons_zero, Act.put, List.setIfInBounds_toArray, List.set_cons_zero, List.set_cons_succ])
                  refine' wpAnyH_take (i := 14) (v := _) rfl (by kernel_rfl) (by kernel_rfl) (by kernel_rfl) (fun _ _ _ h => h) (yieldsIf_load_mid (by rfl) _ _ (by rfl) _ _ (by rfl) _ _ ?Sqbj14 ?uqbj14 ?dqbj14 ?iqbj14) (by assumption) ?rqbj14
                  case Sqbj14 => exact (by intro w h; exact h.1)
                  case uqbj14 => exact Tryd.underlying33
                  case dqbj14 => rfl
                  case iqbj14 => exact zz5_1
                  (try simp only [List.getElem_toArray, List.getElem_cons_succ, List.getElem_cons_zero, Act.put, List.setIfInBounds_toArray, List.set_cons_zero, List.set_cons_succ])
                  refine' wpAnyH_take (i := 15) (v := _) rfl (by kernel_rfl) (by kernel_rfl) (by kernel_rfl) (fun _ _ _ h => h) (yieldsIf_load_mid (by rfl) _ _ (by rfl) _ _ (by rfl) _ _ ?Sqbj15 ?uqbj15 ?dqbj15 ?iqbj15) (by assumption) ?rqbj15
                  case Sqbj15 => exact (by intro w h; exact h.2.2)
                  case uqbj15 => exact Tryd.underlying30
                  case dqbj15 => rfl
                  case iqbj15 => exact zz3_3
                  (try simp only [List.getElem_toArray, List.getElem_cons_succ, List.getElem_cons_zero, Act.put, List.setIfInBounds_toArray, List.set_cons_zero, List.set_cons_succ])
                  refine' wpAnyH_take (i := 17) (v := _) rfl (by kernel_rfl) (by kernel_rfl) (by kernel_rfl) (fun _ _ _ h => h) (yieldsIf_load_mid (by rfl) _ _ (by rfl) _ _ (by rfl) _ _ ?Sqbj17 ?uqbj17 ?dqbj17 ?iqbj17) (by assumption) ?rqbj17
                  case Sqbj17 => exact (by intro w h; exact h.2.2)
                  case uqbj17 => exact Tryd.underlying30
                  case dqbj17 => rfl
                  case iqbj17 => exact zz3_3
                  (try simp only [List.getElem_toArray, List.getElem_cons_succ, List.getElem_cons_zero, Act.put, List.setIfInBounds_toArray, List.set_cons_zero, List.set_cons_succ])
                  refine wpAnyH_ready (rs := [16]) (by kernel_rfl) (by simp) ?_
                  refine AllReadyH.cons rfl (fun K hK => ?_) AllReadyH.nil
                  go_simp
                  go_wp2_with fail
                  (with_reducible refine (HSE.out _).mono ?_)
                  rintro e w30 ⟨rfl, hb30⟩
                  have B3 := B3.next hb30 B3.lt
                  have B5 := B5.next hb30 B5.lt
                  have B6 := B6.next hb30 B6.lt
                  have hbe := below_join hbe hb30
                  refine hK.out _ _ ⟨blk_range B5, B5.cell (k := 1) rfl, blk_range B3⟩ (fun hHeld => ?_)
                  clear hK K hb30
                  refine wpAnyH_take (i := 18) (v := ?vqbj18) rfl (by kernel_rfl) (by kernel_rfl) (by kernel_rfl) (fun _ _ _ h => h) (Or.inl ⟨by rfl, ?yqbj18⟩) (by assumption) ?rqbj18
                  case yqbj18 => intro w hSw; (try dsimp only at hSw); go_simp <;> (try with_reducible rfl)
                  (try simp only [List.getElem_toArray, List.getElem_cons_succ, List.getElem_cons_zero, Act.put, List.setIfInBounds_toArray, List.set_cons_zero, List.set_cons_succ])
                  refine wpAnyH_take (i := 19) (v := ?vqbj19) rfl (by kernel_rfl) (by kernel_rfl) (by kernel_rfl) (fun _ _ _ h => h) (Or.inl ⟨by rfl, ?yqbj19⟩) (by assumption) ?rqbj19
                  case yqbj19 => intro w hSw; (try dsimp only at hSw); go_simp <;> (try with_reducible rfl)
                  (try simp only [List.getElem_toArray, List.getElem_cons_succ, List.getElem_cons_zero, Act.put, List.setIfInBounds_toArray, List.set_cons_zero, List.set_cons_succ])
                  refine wpAnyH_done (by kernel_rfl) ?_ _
                  clear hHeld zz5_1 zz3_3
                  go_wp2
                  have hdd := below_drew w30
                  have B3 := B3.next hdd B3.lt
                  have B5 := B5.next hdd B5.lt
                  have B6 := B6.next hdd B6.lt
                  have hbe := below_join hbe hdd
                  have zz5_1 : (Tryd.prog.info? 33).map (·.size) = some [Value.string fn, .int .i64 (a : Int), .int .i64 (m : Int)].length := (by first | exact Tryd.szF | (simp only [H_length, Pat.cells_length, List.length_append]; exact Tryd.szF))
                  refine wp_region_held_drew (S := fun w' => w'.rangeAt g5 0 [Value.string fn, .int .i64 (a : Int), .int .i64 (m : Int)]) (by kernel_rfl) (blk_range B5) (fun hHeld => ?_)
                  clear hdd
                  generalize w30.drew = w31 at B3 B5 B6 hbe hHeld  ⊢
                  refine' wpAnyH_take (i := 0) (v := _) rfl (by kernel_rfl) (by kernel_rfl) (by kernel_rfl) (fun _ _ _ h => h) (yieldsIf_load_mid (by rfl) _ _ (by rfl) _ _ (by rfl) _ _ ?Sqbk0 ?uqbk0 ?dqbk0 ?iqbk0) (by assumption) ?rqbk0
                  case Sqbk0 => exact (by intro w h; exact h)
                  case uqbk0 => exact Tryd.underlying33
                  case dqbk0 => rfl
                  case iqbk0 => exact zz5_1
                  (try simp only [List.getElem_toArray, List.getElem_cons_zero, Act.put, List.setIfInBounds_toArray, List.set_cons_zero, List.set_cons_succ])
                  refine' wpAnyH_take (i := 2) (v := _) rfl (by kernel_rfl) (by kernel_rfl) (by kernel_rfl) (fun _ _ _ h => h) (yieldsIf_load_mid (by rfl) _ _ (by rfl) _ _ (by rfl) _ _ ?Sqbk2 ?uqbk2 ?dqbk2 ?iqbk2) (by assumption) ?rqbk2
                  case Sqbk2 => exact (by intro w h; exact h)
                  case uqbk2 => exact Tryd.underlying33
                  case dqbk2 => rfl
                  case iqbk2 => exact zz5_1
                  (try simp only [List.getElem_toArray, List.getElem_cons_succ, List.getElem_cons_zero, Act.put, List.setIfInBounds_toArray, List.set_cons_zero, List.set_cons_succ])
                  refine wpAnyH_ready (rs := [1, 3]) (by kernel_rfl) (by simp) ?_
                  refine AllReadyH.cons rfl (fun K hK => ?_) (AllReadyH.cons rfl (fun K hK => ?_) AllReadyH.nil)
                  · skip
                    rw [if_pos (by rfl)]
                    refine' wp_load_mid _ _ rfl g3 0 rfl (H T) _ ?cqbl ?uqbl ?dqbl ?iqbl ?rqbl
                    case cqbl => exact blk_range B3
                    case uqbl => exact Tryd.underlying30
                    case dqbl => rfl
                    case iqbl => exact (by first | exact Tryd.szH | (simp only [H_length, Pat.cells_length, List.length_append]; exact Tryd.szH))
                    (try simp only [List.getElem_toArray, List.getElem_cons_succ, List.getElem_cons_zero, Act.put, List.setIfInBounds_toArray, List.set_cons_zero, List.set_cons_succ])
                    refine hK.out _ _ (blk_range B5) (fun hHeld => ?_)
                    clear hK K
                    refine wpAnyH_ready (rs := [3]) (by kernel_rfl) (by simp) ?_
                    refine AllReadyH.cons rfl (fun K hK => ?_) AllReadyH.nil
                    go_simp
                    go_wp2_with fail
                    (with_reducible refine (HMX.out _).mono ?_)
                    rintro e w32 ⟨rfl, hb32⟩
                    have B3 := B3.next hb32 B3.lt
                    have B5 := B5.next hb32 B5.lt
                    have B6 := B6.next hb32 B6.lt
                    have hbe := below_join hbe hb32
                    refine hK.out _ _ (blk_range B5) (fun hHeld => ?_)
                    clear hK K hb32
                    refine wpAnyH_ready (rs := [4]) (by kernel_rfl) (by simp) ?_
                    refine AllReadyH.cons rfl (fun K hK => ?_) AllReadyH.nil
                    go_simp
                    go_wp2_with fail
                    (with_reducible refine (HS2.out _).mono ?_)
                    rintro e w33 ⟨rfl, hb33⟩
                    have B3 := B3.next hb33 B3.lt
                    have B5 := B5.next hb33 B5.lt
                    have B6 := B6.next hb33 B6.lt
                    have hbe := below_join hbe hb33
                    refine hK.out _ _ (blk_range B5) (fun hHeld => ?_)
                    clear hK K hb33
                    refine wpAnyH_ready (rs := [5]) (by kernel_rfl) (by simp) ?_
                    refine AllReadyH.cons rfl (fun K hK => ?_) AllReadyH.nil
                    rw [if_pos (by rfl)]
                    refine wp_put 30 (.tmp 3) (.tmp 58) rfl g3 0 rfl (.agg (H T1).toArray) rfl B3 (H T1) rfl (by first | exact Tryd.szH | (simp only [H_length, Pat.cells_length, List.length_append]; exact Tryd.szH)) (by first | exact Nat.le_refl 3 | (simp only [H_length, Pat.cells_length, List.length_append]; omega)) (H_one _) ?_
                    intro w34 hu34 C3
                    rw [splice_all _ _ (by simp only [H_length])] at C3
                    have B5 := B5.upd hu34 ne5_3
                    have B6 := B6.upd hu34 ne6_3
                    have hbe := hbe.trans (hu34.below (B := w.heap.size) hl3)
                    clear B3 hu34
                    have B3 := C3
                    clear C3
                    refine hK.out _ _ (blk_range B5) (fun hHeld => ?_)
                    clear hK K
                    refine wpAnyH_done (by kernel_rfl) ?_ _
                    clear hHeld zz5_1
                    rw [← hT1.out] at B3
                    go_wp2
                    go_roundw
                    case rel => exact ⟨k + 1, by rw [hn.out]; omega, by go_num, by rw [hCH.out]; exact HNX.out.1, HNX.out.2, B3, hbe⟩
                    case measure => simp [intOf]; omega
                  · skip
                    go_simp
                    go_wp2_with fail
                    (with_reducible refine (HMX.out _).mono ?_)
                    rintro e w32 ⟨rfl, hb32⟩
                    have B3 := B3.next hb32 B3.lt
                    have B5 := B5.next hb32 B5.lt
                    have B6 := B6.next hb32 B6.lt
                    have hbe := below_join hbe hb32
                    refine hK.out _ _ (blk_range B5) (fun hHeld => ?_)
                    clear hK K hb32
                    refine wpAnyH_ready (rs := [1]) (by kernel_rfl) (by simp) ?_
                    refine AllReadyH.cons rfl (fun K hK => ?_) AllReadyH.nil
                    rw [if_pos (by rfl)]
                    refine' wp_load_mid _ _ rfl g3 0 rfl (H T) _ ?cqbo ?uqbo ?dqbo ?iqbo ?rqbo
                    case cqbo => exact blk_range B3
                    case uqbo => exact Tryd.underlying30
                    case dqbo => rfl
                    case iqbo => exact (by first | exact Tryd.szH | (simp only [H_length, Pat.cells_length, List.length_append]; exact Tryd.szH))
                    (try simp only [List.getElem_toArray, List.getElem_cons_succ, List.getElem_cons_zero, Act.put, List.setIfInBounds_toArray, List.set_cons_zero, List.set_cons_succ])
                    refine hK.out _ _ (blk_range B5) (fun hHeld => ?_)
                    clear hK K
                    refine wpAnyH_ready (rs := [4]) (by kernel_rfl) (by simp) ?_
                    refine AllReadyH.cons rfl (fun K hK => ?_) AllReadyH.nil
                    go_simp
                    go_wp2_with fail
                    (with_reducible refine (HS2.out _).mono ?_)
                    rintro e w33 ⟨rfl, hb33⟩
                    have B3 := B3.next hb33 B3.lt
                    have B5 := B5.next hb33 B5.lt
                    have B6 := B6.next hb33 B6.lt
                    have hbe := below_join hbe hb33
                    refine hK.out _ _ (blk_range B5) (fun hHeld => ?_)
                    clear hK K hb33
                    refine wpAnyH_ready (rs := [5]) (by kernel_rfl) (by simp) ?_
                    refine AllReadyH.cons rfl (fun K hK => ?_) AllReadyH.nil
                    rw [if_pos (by rfl)]
                    refine wp_put 30 (.tmp 3) (.tmp 58) rfl g3 0 rfl (.agg (H T1).toArray) rfl B3 (H T1) rfl (by first | exact Tryd.szH | (simp only [H_length, Pat.cells_length, List.length_append]; exact Tryd.szH)) (by first | exact Nat.le_refl 3 | (simp only [H_length, Pat.cells_length, List.length_append]; omega)) (H_one _) ?_
                    intro w34 hu34 C3
                    rw [splice_all _ _ (by simp only [H_length])] at C3
                    have B5 := B5.upd hu34 ne5_3
                    have B6 := B6.upd hu34 ne6_3
                    have hbe := hbe.trans (hu34.below (B := w.heap.size) hl3)
                    clear B3 hu34
                    have B3 := C3
                    clear C3
                    refine hK.out _ _ (blk_range B5) (fun hHeld => ?_)
                    clear hK K
                    refine wpAnyH_done (by kernel_rfl) ?_ _
                    clear hHeld zz5_1
                    rw [← hT1.out] at B3
                    go_wp2
                    go_roundw
                    case rel => exact ⟨k + 1, by rw [hn.out]; omega, by go_num, by rw [hCH.out]; exact HNX.out.1, HNX.out.2, B3, hbe⟩
                    case measure => simp [intOf]; omega
      · obtain rfl : k = n := by omega
        have hce : Hid (CH = 0) := by
          have : CH = 0 := by rw [← hCH.out, ← HV.out, List.drop_eq_nil_of_le (by rw [hn.out]; exact Nat.le_refl _)]; rfl
          exact this
        go_wp2
        go_ret
        exact ⟨by rw [hce.out]; rfl, hbe⟩
end Go.Proofs.YtbgndopgllnmaaaDoor
