/-
  Contracts of the functions that the statement calls, part 14 of 25 (merged texts: Fe, Ff). Conditions: as the head of each part says.
-/
import Derived.Test.YtbgndopgllnmaaaDoorGJ
import Derived.Test.YtbgndopgllnmaaaDoorGA
import Derived.Shelf.GgClosure.StringsIndexFuncTop
import Derived.Laws.RangeAny
import Derived.Laws.Strings

/-
  Contracts of the walks over Name of both sides. Conditions: for the specification's a string that is not too large.
-/
namespace Go.Proofs.YtbgndopgllnmaaaDoor
set_option linter.unusedVariables false
set_option linter.unusedSimpArgs false
open Go.RowKit Go.Shelf

def letterZ (r : Int) : Bool := decide (97 ≤ r) && decide (r ≤ 122)
def charZ (r : Int) : Bool := letterZ r || ((decide (r ≥ 48) && decide (r ≤ 57)) || decide (r = 95))
/-- Whether bytes are a name. -/
def nameL : List UInt8 → Bool
  | [] => false
  | c :: r => decide (r.length < 24) && letterZ (c.toNat : Int) && r.all fun b => charZ (b.toNat : Int)
def nameB (s : ByteArray) : Bool := nameL s.data.toList
theorem letter_char {r : Int} (h : letterZ r = true) : charZ r = true := by unfold charZ; rw [h]; rfl
theorem get_list (s : ByteArray) {i : Nat} (h : i < s.size) : s.data.toList[i]? = some (s[i]'h) := by
  rw [Array.getElem?_toList]
  exact Array.getElem?_eq_getElem (xs := s.data) (i := i) h
theorem strange_high {r : Int} (h : 128 ≤ r) : charZ r = false := by
  unfold charZ letterZ
  rw [decide_eq_false (show ¬ r ≤ 122 by omega), decide_eq_false (show ¬ r ≤ 57 by omega), decide_eq_false (show ¬ r = 95 by omega)]
  simp
/-- No rune is strange if every byte is one of a name's. -/
theorem idx_strange (s : ByteArray) : ∀ (f pos : Nat), s.size ≤ pos + f → ((0 ≤ Lib.idxFuncFrom (fun r => !charZ (r : Int)) true s f pos) ↔ ¬ ∀ i, pos ≤ i → ∀ h : i < s.size, charZ ((s[i]'h).toNat : Int) = true)
  | 0, pos, hf => by
    unfold Lib.idxFuncFrom
    constructor
    · intro h; omega
    · intro h; exact absurd (fun i hi hs => absurd hs (by omega)) h
  | f + 1, pos, hf => by
    unfold Lib.idxFuncFrom
    by_cases hp : pos < s.size
    · rw [if_pos hp]
      by_cases ha : (s[pos]'hp).toNat < 128
      · rw [decode_ascii s pos hp ha]
        by_cases hc : charZ ((s[pos]'hp).toNat : Int) = true
        · rw [if_neg (by rw [hc]; decide), idx_strange s f (pos + 1) (by omega)]
          constructor
          · intro h k; exact h fun i hi hs => k i (by omega) hs
          · intro h k; apply h; intro i hi hs
            rcases (by omega : i = pos ∨ pos + 1 ≤ i) with rfl | h1
            · exact hc
            · exact k i h1 hs
        · rw [if_pos (by simpa using hc)]
          constructor
          · intro _ k; exact hc (k pos (Nat.le_refl _) hp)
          · intro _; omega
      · have hd := decode_high s pos hp (by omega)
        have hh := strange_high (r := ((Utf8.decode s pos).1 : Int)) (by omega)
        rw [if_pos (by rw [hh]; rfl)]
        constructor
        · intro _ k
          have := k pos (Nat.le_refl _) hp
          rw [strange_high (by omega)] at this
          cases this
        · intro _; omega
    · rw [if_neg hp]
      constructor
      · intro h; omega
      · intro h; exact absurd (fun i hi hs => absurd hs (by omega)) h
theorem name_all (s : ByteArray) : (∀ i, 0 ≤ i → ∀ h : i < s.size, charZ ((s[i]'h).toNat : Int) = true) ↔ (s.data.toList.all fun b => charZ (b.toNat : Int)) = true := by
  rw [List.all_eq_true]
  constructor
  · intro h b hb
    obtain ⟨i, hi⟩ := List.getElem?_of_mem hb
    have hl := (List.getElem?_eq_some_iff.1 hi).1
    have hs : i < s.size := by simpa using hl
    rw [get_list s hs] at hi
    cases hi
    exact h i (Nat.zero_le _) hs
  · intro h i _ hs
    exact h _ (List.mem_of_getElem? (get_list s hs))
theorem list_size (s : ByteArray) : s.data.toList.length = s.size := bytes_size s
/-- A name told by its first byte and by all of them. -/
theorem name_parts (s : ByteArray) (h : 0 < s.size) : nameB s = (decide (s.size ≤ 24) && letterZ ((s[0]'h).toNat : Int) && s.data.toList.all fun b => charZ (b.toNat : Int)) := by
  have h0 := get_list s h
  have hl := list_size s
  unfold nameB
  cases e : s.data.toList with
  | nil => rw [e] at h0; cases h0
  | cons c r =>
    rw [e] at h0 hl
    have hc : c = s[0]'h := by injection h0
    rw [← hc]
    show (decide (r.length < 24) && letterZ (c.toNat : Int) && _) = _
    rw [List.all_cons]
    have hd : decide (r.length < 24) = decide (s.size ≤ 24) := decide_eq_decide.2 (by simp at hl; omega)
    rw [hd]
    cases hz : letterZ (c.toNat : Int) with
    | true => rw [letter_char hz, Bool.true_and]
    | false => simp
theorem name_zero (s : ByteArray) (h : s.size = 0) : nameB s = false := by
  have := list_size s
  unfold nameB
  have e : s.data.toList = [] := List.eq_nil_of_length_eq_zero (by omega)
  rw [e]; rfl
set_option maxRecDepth 100000 in
set_option maxHeartbeats 1600000 in
theorem letter_any (r : Int) (w : World) :
    Calls Tryd.prog 47 #[.int .i32 r] w fun e w' => e = .returned (.bool (letterZ r)) ∧ w = w' := by
  by_cases h1 : 97 ≤ r
  · have hr : Hid (letterZ r = decide (r ≤ 122)) := by
      have : letterZ r = decide (r ≤ 122) := by unfold letterZ; rw [decide_eq_true h1, Bool.true_and]
      exact this
    rw [hr.out]
    go_enter Tryd.func47, Tryd.ntmps47
    go_wp2
    go_ret
    exact ⟨rfl, rfl⟩
  · have hr : letterZ r = false := by unfold letterZ; rw [decide_eq_false h1, Bool.false_and]
    rw [hr]
    go_enter Tryd.func47, Tryd.ntmps47
    go_wp2
    go_ret
    exact ⟨rfl, rfl⟩
set_option maxRecDepth 100000 in
set_option maxHeartbeats 1600000 in
theorem strange_any (r : Int) (g : Nat) (w : World) (hc : w.cell? ⟨g, 0, none⟩ = some (.func (.func 47) #[] #[])) :
    Calls Tryd.prog 48 #[.int .i32 r, .pointer (some ⟨g, 0, none⟩)] w fun e w' => e = .returned (.bool (!charZ r)) ∧ w = w' := by
  obtain ⟨C, hC⟩ : ∃ C, Hid (charZ r = C) := ⟨_, rfl⟩
  rw [hC.out]
  have HL := Lib.hid (fun w => letter_any r w)
  cases hl : letterZ r with
  | true =>
    have hc1 : C = true := by rw [← hC.out]; exact letter_char hl
    subst hc1
    rw [hl] at HL
    clear hl hC
    go_enter Tryd.func48, Tryd.ntmps48
    go_wp2_with fail
    (with_reducible refine (HL.out _).mono ?_)
    rintro e w1 ⟨rfl, rfl⟩
    go_wp2
    go_ret
    exact ⟨rfl, rfl⟩
  | false =>
    have hc1 : Hid (C = ((decide (r ≥ 48) && decide (r ≤ 57)) || decide (r = 95))) := by
      have : C = ((decide (r ≥ 48) && decide (r ≤ 57)) || decide (r = 95)) := by rw [← hC.out]; unfold charZ; rw [hl, Bool.false_or]
      exact this
    rw [hl] at HL
    clear hl hC
    by_cases h1 : r < 48
    · have hx : Hid (decide (r = 95) = C) := by
        have : decide (r = 95) = C := by rw [hc1.out, decide_eq_false (show ¬ r ≥ 48 by omega), Bool.false_and, Bool.false_or]
        exact this
      have hc : C = false := by rw [← hx.out, decide_eq_false (by omega)]
      subst hc
      have h95 : (r != 95) = true := by rw [bne_iff_ne]; omega
      go_enter Tryd.func48, Tryd.ntmps48
      go_wp2_with fail
      (with_reducible refine (HL.out _).mono ?_)
      rintro e w1 ⟨rfl, rfl⟩
      go_wp2
      go_ret
      exact ⟨rfl, rfl⟩
    · by_cases h2 : r > 57
      · by_cases h95 : r = 95
        · have hc : C = true := by rw [hc1.out, decide_eq_true h95, Bool.or_true]
          subst hc h95
          go_enter Tryd.func48, Tryd.ntmps48
          go_wp2_with fail
          (with_reducible refine (HL.out _).mono ?_)
          rintro e w1 ⟨rfl, rfl⟩
          go_wp2
          go_ret
          exact ⟨rfl, rfl⟩
        · have hc : C = false := by rw [hc1.out, decide_eq_false h95, decide_eq_false (show ¬ r ≤ 57 by omega), Bool.and_false]; rfl
          subst hc
          have h95b : (r != 95) = true := by rw [bne_iff_ne]; exact h95
          clear h95
          go_enter Tryd.func48, Tryd.ntmps48
          go_wp2_with fail
          (with_reducible refine (HL.out _).mono ?_)
          rintro e w1 ⟨rfl, rfl⟩
          go_wp2
          go_ret
          exact ⟨rfl, rfl⟩
      · have hc : C = true := by rw [hc1.out, decide_eq_true (show r ≥ 48 by omega), decide_eq_true (show r ≤ 57 by omega)]; rfl
        subst hc
        go_enter Tryd.func48, Tryd.ntmps48
        go_wp2_with fail
        (with_reducible refine (HL.out _).mono ?_)
        rintro e w1 ⟨rfl, rfl⟩
        go_wp2
        go_ret
        exact ⟨rfl, rfl⟩
theorem letterB_any (r : Int) (w : World) :
    Calls Tryd.prog 47 #[.int .i32 r] w fun e w' => e = .returned (.bool (letterZ r)) ∧ Below w.heap.size w w' := by
  refine (letter_any r w).mono ?_
  rintro e w' ⟨he, rfl⟩
  exact ⟨he, Below.refl _ _⟩
theorem strange_pred (g : Nat) (w : World) (hc : w.cell? ⟨g, 0, none⟩ = some (.func (.func 47) #[] #[])) : PredAt Tryd.prog 48 #[.pointer (some ⟨g, 0, none⟩)] encR (fun r => !charZ (r : Int)) w := fun W r hb => by
  have hc' : W.cell? ⟨g, 0, none⟩ = some (.func (.func 47) #[] #[]) := by rw [hb.cell (World.block_lt_of_cell? w _ hc)]; exact hc
  unfold FnGives
  refine (strange_any (r : Int) g W hc').mono ?_
  rintro e w' ⟨he, rfl⟩
  exact ⟨he, 0, rfl⟩
theorem hasStrange (s : ByteArray) (g : Nat) (w : World) (hc : w.cell? ⟨g, 0, none⟩ = some (.func (.func 47) #[] #[])) :
    Calls Tryd.prog 49 #[.string s, .func (.func 48) #[] #[.pointer (some ⟨g, 0, none⟩)]] w fun e w' => e = .returned (.bool (!s.data.toList.all fun b => charZ (b.toNat : Int))) ∧ Below w.heap.size w w' := by
  refine Calls.mono (Any.strings_ContainsFunc Tryd.hasFuncA 48 #[.pointer (some ⟨g, 0, none⟩)] (enters_of Tryd.func48 (by kernel_rfl) rfl) _ s w (strange_pred g w hc)) ?_
  rintro e w' ⟨rfl, hb⟩
  refine ⟨?_, hb⟩
  have h := idx_strange s s.size 0 (by omega)
  rw [name_all] at h
  have : decide (0 ≤ Lib.idxFunc (fun r => !charZ (r : Int)) true s) = !s.data.toList.all fun b => charZ (b.toNat : Int) := by
    unfold Lib.idxFunc
    cases hx : s.data.toList.all fun b => charZ (b.toNat : Int) with
    | true => rw [hx] at h; rw [decide_eq_false (fun k => h.1 k rfl)]; rfl
    | false => rw [hx] at h; rw [decide_eq_true (h.2 (by decide))]; rfl
  rw [this]
theorem Tryd.zeroFn : (Tryd.prog.info? 65).map (·.zero) = some (some .nilFunc) := by kernel_rfl
theorem Tryd.szFn : (Tryd.prog.info? 65).map (·.size) = some 1 := by kernel_rfl
set_option maxRecDepth 100000 in
set_option maxHeartbeats 3200000 in
theorem name_any (s : ByteArray) (w : World) (hs : s.size ≤ 9223372036854775807) :
    Calls Tryd.prog 11 #[.string s] w fun e w' => e = .returned (.bool (nameB s)) ∧ Below w.heap.size w w' := by
  by_cases h0 : s.size = 0
  · skip
    rw [name_zero s h0]
    have h0i : ¬ ((1 : Int) ≤ (s.size : Int)) := by omega
    have h0n : ¬ (1 ≤ s.size) := by omega
    have h0p : ¬ (0 < s.size) := by omega
    go_enter Tryd.func11, Tryd.ntmps11
    go_wp2_with (with_reducible refine wpList_alloc (o := ⟨some 3, .alloc 65, _, _, _, _⟩) (by with_unfolding_all rfl) 65 (by with_unfolding_all rfl) .nilFunc [Value.nilFunc] (by exact Tryd.zeroFn) (by with_unfolding_all rfl) ?_)
    intro g3 w1 hg3 hs1 hb1 B3
    have hl3 : w.heap.size ≤ g3 := Nat.le_of_eq hg3.out.symm
    have hb1 := hb1.mono (Nat.le_of_eq hg3.out.symm)
    have hbe : Below w.heap.size w w1 := hb1
    clear hb1 hg3 hs1
    go_wp2_with (with_reducible refine wpList_put (o := ⟨none, .store 65 (.tmp 3) (.func 47), _, _, _, _⟩) (by with_unfolding_all rfl) 65 (.tmp 3) (.func 47) (by with_unfolding_all rfl) g3 0 (by with_unfolding_all rfl) (.func (.func 47) #[] #[]) (by with_unfolding_all rfl) B3 [Value.func (.func 47) #[] #[]] (by with_unfolding_all rfl) (by with_unfolding_all (exact Tryd.szFn)) (by with_unfolding_all (exact Nat.le_refl 1)) (by with_unfolding_all (exact one_cell1 rfl)) ?_)
    intro w2 hu2 C3
    rw [splice_all _ _ (by rfl)] at C3
    have hbe := hbe.trans (hu2.below (B := w.heap.size) hl3)
    clear B3 hu2
    have B3 := C3
    clear C3
    go_wp2
    have hdd := below_drew w2
    have B3 := B3.next hdd B3.lt
    have hbe := below_join hbe hdd
    refine wp_region_held_drew (S := fun _ => True) (by kernel_rfl) trivial (fun hHeld => ?_)
    clear hdd
    generalize w2.drew = w3 at B3 hbe hHeld  ⊢
    refine wpAnyH_take (i := 0) (v := ?vqaa0) rfl (by kernel_rfl) (by kernel_rfl) (by kernel_rfl) (fun _ _ _ h => h) (Or.inl ⟨by rfl, ?yqaa0⟩) (by assumption) ?rqaa0
    case yqaa0 => intro w hSw; (try dsimp only at hSw); go_simp <;> (try with_reducible rfl)
    (try simp only [List.getElem_toArray, List.getElem_cons_zero, Act.put, List.setIfInBounds_toArray, List.set_cons_zero, List.set_cons_succ])
    refine wpAnyH_take (i := 1) (v := ?vqaa1) rfl (by kernel_rfl) (by kernel_rfl) (by kernel_rfl) (fun _ _ _ h => h) (Or.inl ⟨by rfl, ?yqaa1⟩) (by assumption) ?rqaa1
    case yqaa1 => intro w hSw; (try dsimp only at hSw); go_simp <;> (try with_reducible rfl)
    (try simp only [List.getElem_toArray, List.getElem_cons_succ, List.getElem_cons_zero, Act.put, List.setIfInBounds_toArray, List.set_cons_zero, List.set_cons_succ])
    refine wpAnyH_take (i := 2) (v := ?vqaa2) rfl (by kernel_rfl) (by kernel_rfl) (by kernel_rfl) (fun _ _ _ h => h) (Or.inl ⟨by rfl, ?yqaa2⟩) (by assumption) ?rqaa2
    case yqaa2 => intro w hSw; (try dsimp only at hSw); go_simp <;> (try with_reducible rfl)
    (try simp only [List.getElem_toArray, List.getElem_cons_succ, List.getElem_cons_zero, Act.put, List.setIfInBounds_toArray, List.set_cons_zero, List.set_cons_succ])
    refine wpAnyH_take (i := 3) (v := ?vqaa3) rfl (by kernel_rfl) (by kernel_rfl) (by kernel_rfl) (fun _ _ _ h => h) (Or.inl ⟨by rfl, ?yqaa3⟩) (by assumption) ?rqaa3
    case yqaa3 => intro w hSw; (try dsimp only at hSw); go_simp <;> (try with_reducible rfl)
    (try simp only [List.getElem_toArray, List.getElem_cons_succ, List.getElem_cons_zero, Act.put, List.setIfInBounds_toArray, List.set_cons_zero, List.set_cons_succ])
    refine wpAnyH_take (i := 4) (v := undef) rfl (by kernel_rfl) (by kernel_rfl) (by kernel_rfl) (fun _ _ _ h => h) (Or.inr ⟨by rfl, rfl⟩) (by assumption) ?rqaa4
    (try simp only [List.getElem_toArray, List.getElem_cons_succ, List.getElem_cons_zero, Act.put, List.setIfInBounds_toArray, List.set_cons_zero, List.set_cons_succ])
    refine wpAnyH_take (i := 5) (v := undef) rfl (by kernel_rfl) (by kernel_rfl) (by kernel_rfl) (fun _ _ _ h => h) (Or.inr ⟨by rfl, rfl⟩) (by assumption) ?rqaa5
    (try simp only [List.getElem_toArray, List.getElem_cons_succ, List.getElem_cons_zero, Act.put, List.setIfInBounds_toArray, List.set_cons_zero, List.set_cons_succ])
    refine wpAnyH_take (i := 6) (v := undef) rfl (by kernel_rfl) (by kernel_rfl) (by kernel_rfl) (fun _ _ _ h => h) (Or.inr ⟨by rfl, rfl⟩) (by assumption) ?rqaa6
    (try simp only [List.getElem_toArray, List.getElem_cons_succ, List.getElem_cons_zero, Act.put, List.setIfInBounds_toArray, List.set_cons_zero, List.set_cons_succ])
    refine wpAnyH_take (i := 7) (v := ?vqaa7) rfl (by kernel_rfl) (by kernel_rfl) (by kernel_rfl) (fun _ _ _ h => h) (Or.inl ⟨by rfl, ?yqaa7⟩) (by assumption) ?rqaa7
    case yqaa7 => intro w hSw; (try dsimp only at hSw); go_simp <;> (try with_reducible rfl)
    (try simp only [List.getElem_toArray, List.getElem_cons_succ, List.getElem_cons_zero, Act.put, List.setIfInBounds_toArray, List.set_cons_zero, List.set_cons_succ])
    refine wpAnyH_take (i := 8) (v := ?vqaa8) rfl (by kernel_rfl) (by kernel_rfl) (by kernel_rfl) (fun _ _ _ h => h) (Or.inl ⟨by rfl, ?yqaa8⟩) (by assumption) ?rqaa8
    case yqaa8 => intro w hSw; (try dsimp only at hSw); go_simp <;> (try with_reducible rfl)
    (try simp only [List.getElem_toArray, List.getElem_cons_succ, List.getElem_cons_zero, Act.put, List.setIfInBounds_toArray, List.set_cons_zero, List.set_cons_succ])
    refine wpAnyH_take (i := 9) (v := undef) rfl (by kernel_rfl) (by kernel_rfl) (by kernel_rfl) (fun _ _ _ h => h) (Or.inr ⟨by rfl, rfl⟩) (by assumption) ?rqaa9
    (try simp only [List.getElem_toArray, List.getElem_cons_succ, List.getElem_cons_zero, Act.put, List.setIfInBounds_toArray, List.set_cons_zero, List.set_cons_succ])
    refine wpAnyH_take (i := 10) (v := undef) rfl (by kernel_rfl) (by kernel_rfl) (by kernel_rfl) (fun _ _ _ h => h) (Or.inr ⟨by rfl, rfl⟩) (by assumption) ?rqaa10
    (try simp only [List.getElem_toArray, List.getElem_cons_succ, List.getElem_cons_zero, Act.put, List.setIfInBounds_toArray, List.set_cons_zero, List.set_cons_succ])
    refine wpAnyH_take (i := 11) (v := undef) rfl (by kernel_rfl) (by kernel_rfl) (by kernel_rfl) (fun _ _ _ h => h) (Or.inr ⟨by rfl, rfl⟩) (by assumption) ?rqaa11
    (try simp only [List.getElem_toArray, List.getElem_cons_succ, List.getElem_cons_zero, Act.put, List.setIfInBounds_toArray, List.set_cons_zero, List.set_cons_succ])
    refine wpAnyH_take (i := 12) (v := undef) rfl (by kernel_rfl) (by kernel_rfl) (by kernel_rfl) (fun _ _ _ h => h) (Or.inr ⟨by rfl, rfl⟩) (by assumption) ?rqaa12
    (try simp only [List.getElem_toArray, List.getElem_cons_succ, List.getElem_cons_zero, Act.put, List.setIfInBounds_toArray, List.set_cons_zero, List.set_cons_succ])
    refine wpAnyH_take (i := 13) (v := undef) rfl (by kernel_rfl) (by kernel_rfl) (by kernel_rfl) (fun _ _ _ h => h) (Or.inr ⟨by rfl, rfl⟩) (by assumption) ?rqaa13
    (try simp only [List.getElem_toArray, List.getElem_cons_succ, List.getElem_cons_zero, Act.put, List.setIfInBounds_toArray, List.set_cons_zero, List.set_cons_succ])
    refine wpAnyH_take (i := 14) (v := ?vqaa14) rfl (by kernel_rfl) (by kernel_rfl) (by kernel_rfl) (fun _ _ _ h => h) (Or.inl ⟨by rfl, ?yqaa14⟩) (by assumption) ?rqaa14
    case yqaa14 => intro w hSw; (try dsimp only at hSw); go_simp <;> (try with_reducible rfl)
    (try simp only [List.getElem_toArray, List.getElem_cons_succ, List.getElem_cons_zero, Act.put, List.setIfInBounds_toArray, List.set_cons_zero, List.set_cons_succ])
    refine wpAnyH_take (i := 15) (v := ?vqaa15) rfl (by kernel_rfl) (by kernel_rfl) (by kernel_rfl) (fun _ _ _ h => h) (Or.inl ⟨by rfl, ?yqaa15⟩) (by assumption) ?rqaa15
    case yqaa15 => intro w hSw; (try dsimp only at hSw); go_simp <;> (try with_reducible rfl)
    (try simp only [List.getElem_toArray, List.getElem_cons_succ, List.getElem_cons_zero, Act.put, List.setIfInBounds_toArray, List.set_cons_zero, List.set_cons_succ])
    refine wpAnyH_take (i := 16) (v := undef) rfl (by kernel_rfl) (by kernel_rfl) (by kernel_rfl) (fun _ _ _ h => h) (Or.inr ⟨by rfl, rfl⟩) (by assumption) ?rqaa16
    (try simp only [List.getElem_toArray, List.getElem_cons_succ, List.getElem_cons_zero, Act.put, List.setIfInBounds_toArray, List.set_cons_zero, List.set_cons_succ])
    refine wpAnyH_take (i := 17) (v := undef) rfl (by kernel_rfl) (by kernel_rfl) (by kernel_rfl) (fun _ _ _ h => h) (Or.inr ⟨by rfl, rfl⟩) (by assumption) ?rqaa17
    (try simp only [List.getElem_toArray, List.getElem_cons_succ, List.getElem_cons_zero, Act.put, List.setIfInBounds_toArray, List.set_cons_zero, List.set_cons_succ])
    refine wpAnyH_take (i := 18) (v := undef) rfl (by kernel_rfl) (by kernel_rfl) (by kernel_rfl) (fun _ _ _ h => h) (Or.inr ⟨by rfl, rfl⟩) (by assumption) ?rqaa18
    (try simp only [List.getElem_toArray, List.getElem_cons_succ, List.getElem_cons_zero, Act.put, List.setIfInBounds_toArray, List.set_cons_zero, List.set_cons_succ])
    refine wpAnyH_take (i := 19) (v := undef) rfl (by kernel_rfl) (by kernel_rfl) (by kernel_rfl) (fun _ _ _ h => h) (Or.inr ⟨by rfl, rfl⟩) (by assumption) ?rqaa19
    (try simp only [List.getElem_toArray, List.getElem_cons_succ, List.getElem_cons_zero, Act.put, List.setIfInBounds_toArray, List.set_cons_zero, List.set_cons_succ])
    refine wpAnyH_take (i := 20) (v := ?vqaa20) rfl (by kernel_rfl) (by kernel_rfl) (by kernel_rfl) (fun _ _ _ h => h) (Or.inl ⟨by rfl, ?yqaa20⟩) (by assumption) ?rqaa20
    case yqaa20 => intro w hSw; (try dsimp only at hSw); go_simp <;> (try with_reducible rfl)
    (try simp only [List.getElem_toArray, List.getElem_cons_succ, List.getElem_cons_zero, Act.put, List.setIfInBounds_toArray, List.set_cons_zero, List.set_cons_succ])
    refine wpAnyH_take (i := 21) (v := ?vqaa21) rfl (by kernel_rfl) (by kernel_rfl) (by kernel_rfl) (fun _ _ _ h => h) (Or.inl ⟨by rfl, ?yqaa21⟩) (by assumption) ?rqaa21
    case yqaa21 => intro w hSw; (try dsimp only at hSw); go_simp <;> (try with_reducible rfl)
    (try simp only [List.getElem_toArray, List.getElem_cons_succ, List.getElem_cons_zero, Act.put, List.setIfInBounds_toArray, List.set_cons_zero, List.set_cons_succ])
    refine wpAnyH_done (by kernel_rfl) ?_ _
    clear hHeld 
    go_wp2
    go_ret
    exact ⟨rfl, hbe⟩
  · have hp : 0 < s.size := by omega
    rw [name_parts s hp]
    have h1i : (1 : Int) ≤ (s.size : Int) := by omega
    have h1n : 1 ≤ s.size := by omega
    obtain ⟨c, hc⟩ : ∃ c, s[0]'hp = c := ⟨_, rfl⟩
    have hcb : c.toNat < 256 := c.toNat_lt
    obtain ⟨z, hz⟩ : ∃ z : Nat, c.toNat = z := ⟨_, rfl⟩
    obtain ⟨A, hA⟩ : ∃ A, Hid ((s.data.toList.all fun b => charZ (b.toNat : Int)) = A) := ⟨_, rfl⟩
    rw [hc, hz, hA.out]
    rw [hz] at hcb
    have hx : ∀ h, s[0]'h = c := fun _ => hc
    have hwz : IntKind.i32.wrap (z : Int) = (z : Int) := IntWalk.i32_in _ ⟨by omega, by omega⟩
    have HLT := Lib.hid (fun w : World => letterB_any (z : Int) w)
    by_cases h24 : s.size ≤ 24
    · have h24i : (s.size : Int) ≤ 24 := by omega
      rw [decide_eq_true h24, Bool.true_and]
      cases hl : letterZ (z : Int) with
      | false =>
        rw [hl] at HLT
        rw [Bool.false_and]
        clear hl
        go_enter Tryd.func11, Tryd.ntmps11
        go_wp2_with (with_reducible refine wpList_alloc (o := ⟨some 3, .alloc 65, _, _, _, _⟩) (by with_unfolding_all rfl) 65 (by with_unfolding_all rfl) .nilFunc [Value.nilFunc] (by exact Tryd.zeroFn) (by with_unfolding_all rfl) ?_)
        intro g3 w1 hg3 hs1 hb1 B3
        have hl3 : w.heap.size ≤ g3 := Nat.le_of_eq hg3.out.symm
        have hb1 := hb1.mono (Nat.le_of_eq hg3.out.symm)
        have hbe : Below w.heap.size w w1 := hb1
        clear hb1 hg3 hs1
        go_wp2_with (with_reducible refine wpList_put (o := ⟨none, .store 65 (.tmp 3) (.func 47), _, _, _, _⟩) (by with_unfolding_all rfl) 65 (.tmp 3) (.func 47) (by with_unfolding_all rfl) g3 0 (by with_unfolding_all rfl) (.func (.func 47) #[] #[]) (by with_unfolding_all rfl) B3 [Value.func (.func 47) #[] #[]] (by with_unfolding_all rfl) (by with_unfolding_all (exact Tryd.szFn)) (by with_unfolding_all (exact Nat.le_refl 1)) (by with_unfolding_all (exact one_cell1 rfl)) ?_)
        intro w2 hu2 C3
        rw [splice_all _ _ (by rfl)] at C3
        have hbe := hbe.trans (hu2.below (B := w.heap.size) hl3)
        clear B3 hu2
        have B3 := C3
        clear C3
        go_wp2
        have hdd := below_drew w2
        have B3 := B3.next hdd B3.lt
        have hbe := below_join hbe hdd
        refine wp_region_held_drew (S := fun w' => w'.cell? ⟨g3, 0, none⟩ = some (.func (.func 47) #[] #[])) (by kernel_rfl) (B3.cell (k := 0) rfl) (fun hHeld => ?_)
        clear hdd
        generalize w2.drew = w3 at B3 hbe hHeld  ⊢
        refine wpAnyH_take (i := 0) (v := ?vqab0) rfl (by kernel_rfl) (by kernel_rfl) (by kernel_rfl) (fun _ _ _ h => h) (Or.inl ⟨by rfl, ?yqab0⟩) (by assumption) ?rqab0
        case yqab0 => intro w hSw; (try dsimp only at hSw); go_simp <;> (try with_reducible rfl)
        (try simp only [List.getElem_toArray, List.getElem_cons_zero, Act.put, List.setIfInBounds_toArray, List.set_cons_zero, List.set_cons_succ])
        refine wpAnyH_take (i := 1) (v := ?vqab1) rfl (by kernel_rfl) (by kernel_rfl) (by kernel_rfl) (fun _ _ _ h => h) (Or.inl ⟨by rfl, ?yqab1⟩) (by assumption) ?rqab1
        case yqab1 => intro w hSw; (try dsimp only at hSw); go_simp <;> (try with_reducible rfl)
        (try simp only [List.getElem_toArray, List.getElem_cons_succ, List.getElem_cons_zero, Act.put, List.setIfInBounds_toArray, List.set_cons_zero, List.set_cons_succ])
        refine wpAnyH_take (i := 2) (v := ?vqab2) rfl (by kernel_rfl) (by kernel_rfl) (by kernel_rfl) (fun _ _ _ h => h) (Or.inl ⟨by rfl, ?yqab2⟩) (by assumption) ?rqab2
        case yqab2 => intro w hSw; (try dsimp only at hSw); go_simp <;> (try with_reducible rfl)
        (try simp only [List.getElem_toArray, List.getElem_cons_succ, List.getElem_cons_zero, Act.put, List.setIfInBounds_toArray, List.set_cons_zero, List.set_cons_succ])
        refine wpAnyH_take (i := 3) (v := ?vqab3) rfl (by kernel_rfl) (by kernel_rfl) (by kernel_rfl) (fun _ _ _ h => h) (Or.inl ⟨by rfl, ?yqab3⟩) (by assumption) ?rqab3
        case yqab3 => intro w hSw; (try dsimp only at hSw); go_simp <;> (try with_reducible rfl)
        (try simp only [List.getElem_toArray, List.getElem_cons_succ, List.getElem_cons_zero, Act.put, List.setIfInBounds_toArray, List.set_cons_zero, List.set_cons_succ])
        refine wpAnyH_take (i := 4) (v := ?vqab4) rfl (by kernel_rfl) (by kernel_rfl) (by kernel_rfl) (fun _ _ _ h => h) (Or.inl ⟨by rfl, ?yqab4⟩) (by assumption) ?rqab4
        case yqab4 => intro w hSw; (try dsimp only at hSw); go_simp <;> (try with_reducible rfl)
        (try simp only [List.getElem_toArray, List.getElem_cons_succ, List.getElem_cons_zero, Act.put, List.setIfInBounds_toArray, List.set_cons_zero, List.set_cons_succ])
        refine wpAnyH_take (i := 5) (v := ?vqab5) rfl (by kernel_rfl) (by kernel_rfl) (by kernel_rfl) (fun _ _ _ h => h) (Or.inl ⟨by rfl, ?yqab5⟩) (by assumption) ?rqab5
        case yqab5 => intro w hSw; (try dsimp only at hSw); go_simp <;> (try with_reducible rfl)
        (try simp only [List.getElem_toArray, List.getElem_cons_succ, List.getElem_cons_zero, Act.put, List.setIfInBounds_toArray, List.set_cons_zero, List.set_cons_succ])
        refine wpAnyH_take (i := 6) (v := ?vqab6) rfl (by kernel_rfl) (by kernel_rfl) (by kernel_rfl) (fun _ _ _ h => h) (Or.inl ⟨by rfl, ?yqab6⟩) (by assumption) ?rqab6
        case yqab6 => intro w hSw; (try dsimp only at hSw); go_simp <;> (try with_reducible rfl)
        (try simp only [List.getElem_toArray, List.getElem_cons_succ, List.getElem_cons_zero, Act.put, List.setIfInBounds_toArray, List.set_cons_zero, List.set_cons_succ])
        refine wpAnyH_take (i := 7) (v := ?vqab7) rfl (by kernel_rfl) (by kernel_rfl) (by kernel_rfl) (fun _ _ _ h => h) (Or.inl ⟨by rfl, ?yqab7⟩) (by assumption) ?rqab7
        case yqab7 => intro w hSw; (try dsimp only at hSw); go_simp <;> (try with_reducible rfl)
        (try simp only [List.getElem_toArray, List.getElem_cons_succ, List.getElem_cons_zero, Act.put, List.setIfInBounds_toArray, List.set_cons_zero, List.set_cons_succ])
        refine wpAnyH_take (i := 8) (v := ?vqab8) rfl (by kernel_rfl) (by kernel_rfl) (by kernel_rfl) (fun _ _ _ h => h) (Or.inl ⟨by rfl, ?yqab8⟩) (by assumption) ?rqab8
        case yqab8 => intro w hSw; (try dsimp only at hSw); go_simp <;> (try with_reducible rfl)
        (try simp only [List.getElem_toArray, List.getElem_cons_succ, List.getElem_cons_zero, Act.put, List.setIfInBounds_toArray, List.set_cons_zero, List.set_cons_succ])
        refine wpAnyH_take (i := 9) (v := ?vqab9) rfl (by kernel_rfl) (by kernel_rfl) (by kernel_rfl) (fun _ _ _ h => h) (Or.inl ⟨by rfl, ?yqab9⟩) (by assumption) ?rqab9
        case yqab9 => intro w hSw; have hSc := hSw; go_simp <;> (try with_reducible rfl)
        (try simp only [List.getElem_toArray, List.getElem_cons_succ, List.getElem_cons_zero, Act.put, List.setIfInBounds_toArray, List.set_cons_zero, List.set_cons_succ])
        refine wpAnyH_take (i := 10) (v := ?vqab10) rfl (by kernel_rfl) (by kernel_rfl) (by kernel_rfl) (fun _ _ _ h => h) (Or.inl ⟨by rfl, ?yqab10⟩) (by assumption) ?rqab10
        case yqab10 => intro w hSw; (try dsimp only at hSw); go_simp <;> (try with_reducible rfl)
        (try simp only [List.getElem_toArray, List.getElem_cons_succ, List.getElem_cons_zero, Act.put, List.setIfInBounds_toArray, List.set_cons_zero, List.set_cons_succ])
        refine wpAnyH_take (i := 11) (v := ?vqab11) rfl (by kernel_rfl) (by kernel_rfl) (by kernel_rfl) (fun _ _ _ h => h) (Or.inl ⟨by rfl, ?yqab11⟩) (by assumption) ?rqab11
        case yqab11 => intro w hSw; (try dsimp only at hSw); go_simp <;> (try with_reducible rfl)
        (try simp only [List.getElem_toArray, List.getElem_cons_succ, List.getElem_cons_zero, Act.put, List.setIfInBounds_toArray, List.set_cons_zero, List.set_cons_succ])
        refine wpAnyH_take (i := 12) (v := ?vqab12) rfl (by kernel_rfl) (by kernel_rfl) (by kernel_rfl) (fun _ _ _ h => h) (Or.inl ⟨by rfl, ?yqab12⟩) (by assumption) ?rqab12
        case yqab12 => intro w hSw; (try dsimp only at hSw); go_simp <;> (try with_reducible rfl)
        (try simp only [List.getElem_toArray, List.getElem_cons_succ, List.getElem_cons_zero, Act.put, List.setIfInBounds_toArray, List.set_cons_zero, List.set_cons_succ])
        refine wpAnyH_ready (rs := [13]) (by kernel_rfl) (by simp) ?_
        refine AllReadyH.cons rfl (fun K hK => ?_) AllReadyH.nil
        go_simp
        go_wp2_with fail
        (with_reducible refine ((HLT.out _)).mono ?_)
        rintro e w4 ⟨rfl, hb4⟩
        have B3 := B3.next hb4 B3.lt
        have hbe := below_join hbe hb4
        refine hK.out _ _ (B3.cell (k := 0) rfl) (fun hHeld => ?_)
        clear hK K hb4
        refine wpAnyH_take (i := 14) (v := ?vqab14) rfl (by kernel_rfl) (by kernel_rfl) (by kernel_rfl) (fun _ _ _ h => h) (Or.inl ⟨by rfl, ?yqab14⟩) (by assumption) ?rqab14
        case yqab14 => intro w hSw; (try dsimp only at hSw); go_simp <;> (try with_reducible rfl)
        (try simp only [List.getElem_toArray, List.getElem_cons_succ, List.getElem_cons_zero, Act.put, List.setIfInBounds_toArray, List.set_cons_zero, List.set_cons_succ])
        refine wpAnyH_take (i := 15) (v := ?vqab15) rfl (by kernel_rfl) (by kernel_rfl) (by kernel_rfl) (fun _ _ _ h => h) (Or.inl ⟨by rfl, ?yqab15⟩) (by assumption) ?rqab15
        case yqab15 => intro w hSw; (try dsimp only at hSw); go_simp <;> (try with_reducible rfl)
        (try simp only [List.getElem_toArray, List.getElem_cons_succ, List.getElem_cons_zero, Act.put, List.setIfInBounds_toArray, List.set_cons_zero, List.set_cons_succ])
        refine wpAnyH_take (i := 16) (v := undef) rfl (by kernel_rfl) (by kernel_rfl) (by kernel_rfl) (fun _ _ _ h => h) (Or.inr ⟨by rfl, rfl⟩) (by assumption) ?rqab16
        (try simp only [List.getElem_toArray, List.getElem_cons_succ, List.getElem_cons_zero, Act.put, List.setIfInBounds_toArray, List.set_cons_zero, List.set_cons_succ])
        refine wpAnyH_take (i := 17) (v := undef) rfl (by kernel_rfl) (by kernel_rfl) (by kernel_rfl) (fun _ _ _ h => h) (Or.inr ⟨by rfl, rfl⟩) (by assumption) ?rqab17
        (try simp only [List.getElem_toArray, List.getElem_cons_succ, List.getElem_cons_zero, Act.put, List.setIfInBounds_toArray, List.set_cons_zero, List.set_cons_succ])
        refine wpAnyH_take (i := 18) (v := undef) rfl (by kernel_rfl) (by kernel_rfl) (by kernel_rfl) (fun _ _ _ h => h) (Or.inr ⟨by rfl, rfl⟩) (by assumption) ?rqab18
        (try simp only [List.getElem_toArray, List.getElem_cons_succ, List.getElem_cons_zero, Act.put, List.setIfInBounds_toArray, List.set_cons_zero, List.set_cons_succ])
        refine wpAnyH_take (i := 19) (v := undef) rfl (by kernel_rfl) (by kernel_rfl) (by kernel_rfl) (fun _ _ _ h => h) (Or.inr ⟨by rfl, rfl⟩) (by assumption) ?rqab19
        (try simp only [List.getElem_toArray, List.getElem_cons_succ, List.getElem_cons_zero, Act.put, List.setIfInBounds_toArray, List.set_cons_zero, List.set_cons_succ])
        refine wpAnyH_take (i := 20) (v := ?vqab20) rfl (by kernel_rfl) (by kernel_rfl) (by kernel_rfl) (fun _ _ _ h => h) (Or.inl ⟨by rfl, ?yqab20⟩) (by assumption) ?rqab20
        case yqab20 => intro w hSw; (try dsimp only at hSw); go_simp <;> (try with_reducible rfl)
        (try simp only [List.getElem_toArray, List.getElem_cons_succ, List.getElem_cons_zero, Act.put, List.setIfInBounds_toArray, List.set_cons_zero, List.set_cons_succ])
        refine wpAnyH_take (i := 21) (v := ?vqab21) rfl (by kernel_rfl) (by kernel_rfl) (by kernel_rfl) (fun _ _ _ h => h) (Or.inl ⟨by rfl, ?yqab21⟩) (by assumption) ?rqab21
        case yqab21 => intro w hSw; (try dsimp only at hSw); go_simp <;> (try with_reducible rfl)
        (try simp only [List.getElem_toArray, List.getElem_cons_succ, List.getElem_cons_zero, Act.put, List.setIfInBounds_toArray, List.set_cons_zero, List.set_cons_succ])
        refine wpAnyH_done (by kernel_rfl) ?_ _
        clear hHeld 
        go_wp2
        go_ret
        exact ⟨rfl, hbe⟩
      | true =>
        rw [hl] at HLT
        rw [Bool.true_and]
        have HST : Hid (∀ (g : Nat) (w : World), w.cell? ⟨g, 0, none⟩ = some (.func (.func 47) #[] #[]) → Calls Tryd.prog 49 #[.string s, .func (.func 48) #[] #[.pointer (some ⟨g, 0, none⟩)]] w fun e w' => e = .returned (.bool (!A)) ∧ Below w.heap.size w w') := by
          have : ∀ (g : Nat) (w : World), w.cell? ⟨g, 0, none⟩ = some (.func (.func 47) #[] #[]) → Calls Tryd.prog 49 #[.string s, .func (.func 48) #[] #[.pointer (some ⟨g, 0, none⟩)]] w fun e w' => e = .returned (.bool (!A)) ∧ Below w.heap.size w w' := fun g w h => by rw [← hA.out]; exact hasStrange s g w h
          exact this
        clear hl
        go_enter Tryd.func11, Tryd.ntmps11
        go_wp2_with (with_reducible refine wpList_alloc (o := ⟨some 3, .alloc 65, _, _, _, _⟩) (by with_unfolding_all rfl) 65 (by with_unfolding_all rfl) .nilFunc [Value.nilFunc] (by exact Tryd.zeroFn) (by with_unfolding_all rfl) ?_)
        intro g3 w1 hg3 hs1 hb1 B3
        have hl3 : w.heap.size ≤ g3 := Nat.le_of_eq hg3.out.symm
        have hb1 := hb1.mono (Nat.le_of_eq hg3.out.symm)
        have hbe : Below w.heap.size w w1 := hb1
        clear hb1 hg3 hs1
        go_wp2_with (with_reducible refine wpList_put (o := ⟨none, .store 65 (.tmp 3) (.func 47), _, _, _, _⟩) (by with_unfolding_all rfl) 65 (.tmp 3) (.func 47) (by with_unfolding_all rfl) g3 0 (by with_unfolding_all rfl) (.func (.func 47) #[] #[]) (by with_unfolding_all rfl) B3 [Value.func (.func 47) #[] #[]] (by with_unfolding_all rfl) (by with_unfolding_all (exact Tryd.szFn)) (by with_unfolding_all (exact Nat.le_refl 1)) (by with_unfolding_all (exact one_cell1 rfl)) ?_)
        intro w2 hu2 C3
        rw [splice_all _ _ (by rfl)] at C3
        have hbe := hbe.trans (hu2.below (B := w.heap.size) hl3)
        clear B3 hu2
        have B3 := C3
        clear C3
        go_wp2
        have hdd := below_drew w2
        have B3 := B3.next hdd B3.lt
        have hbe := below_join hbe hdd
        refine wp_region_held_drew (S := fun w' => w'.cell? ⟨g3, 0, none⟩ = some (.func (.func 47) #[] #[])) (by kernel_rfl) (B3.cell (k := 0) rfl) (fun hHeld => ?_)
        clear hdd
        generalize w2.drew = w3 at B3 hbe hHeld  ⊢
        refine wpAnyH_take (i := 0) (v := ?vqac0) rfl (by kernel_rfl) (by kernel_rfl) (by kernel_rfl) (fun _ _ _ h => h) (Or.inl ⟨by rfl, ?yqac0⟩) (by assumption) ?rqac0
        case yqac0 => intro w hSw; (try dsimp only at hSw); go_simp <;> (try with_reducible rfl)
        (try simp only [List.getElem_toArray, List.getElem_cons_zero, Act.put, List.setIfInBounds_toArray, List.set_cons_zero, List.set_cons_succ])
        refine wpAnyH_take (i := 1) (v := ?vqac1) rfl (by kernel_rfl) (by kernel_rfl) (by kernel_rfl) (fun _ _ _ h => h) (Or.inl ⟨by rfl, ?yqac1⟩) (by assumption) ?rqac1
        case yqac1 => intro w hSw; (try dsimp only at hSw); go_simp <;> (try with_reducible rfl)
        (try simp only [List.getElem_toArray, List.getElem_cons_succ, List.getElem_cons_zero, Act.put, List.setIfInBounds_toArray, List.set_cons_zero, List.set_cons_succ])
        refine wpAnyH_take (i := 2) (v := ?vqac2) rfl (by kernel_rfl) (by kernel_rfl) (by kernel_rfl) (fun _ _ _ h => h) (Or.inl ⟨by rfl, ?yqac2⟩) (by assumption) ?rqac2
        case yqac2 => intro w hSw; (try dsimp only at hSw); go_simp <;> (try with_reducible rfl)
        (try simp only [List.getElem_toArray, List.getElem_cons_succ, List.getElem_cons_zero, Act.put, List.setIfInBounds_toArray, List.set_cons_zero, List.set_cons_succ])
        refine wpAnyH_take (i := 3) (v := ?vqac3) rfl (by kernel_rfl) (by kernel_rfl) (by kernel_rfl) (fun _ _ _ h => h) (Or.inl ⟨by rfl, ?yqac3⟩) (by assumption) ?rqac3
        case yqac3 => intro w hSw; (try dsimp only at hSw); go_simp <;> (try with_reducible rfl)
        (try simp only [List.getElem_toArray, List.getElem_cons_succ, List.getElem_cons_zero, Act.put, List.setIfInBounds_toArray, List.set_cons_zero, List.set_cons_succ])
        refine wpAnyH_take (i := 4) (v := ?vqac4) rfl (by kernel_rfl) (by kernel_rfl) (by kernel_rfl) (fun _ _ _ h => h) (Or.inl ⟨by rfl, ?yqac4⟩) (by assumption) ?rqac4
        case yqac4 => intro w hSw; (try dsimp only at hSw); go_simp <;> (try with_reducible rfl)
        (try simp only [List.getElem_toArray, List.getElem_cons_succ, List.getElem_cons_zero, Act.put, List.setIfInBounds_toArray, List.set_cons_zero, List.set_cons_succ])
        refine wpAnyH_take (i := 5) (v := ?vqac5) rfl (by kernel_rfl) (by kernel_rfl) (by kernel_rfl) (fun _ _ _ h => h) (Or.inl ⟨by rfl, ?yqac5⟩) (by assumption) ?rqac5
        case yqac5 => intro w hSw; (try dsimp only at hSw); go_simp <;> (try with_reducible rfl)
        (try simp only [List.getElem_toArray, List.getElem_cons_succ, List.getElem_cons_zero, Act.put, List.setIfInBounds_toArray, List.set_cons_zero, List.set_cons_succ])
        refine wpAnyH_take (i := 6) (v := ?vqac6) rfl (by kernel_rfl) (by kernel_rfl) (by kernel_rfl) (fun _ _ _ h => h) (Or.inl ⟨by rfl, ?yqac6⟩) (by assumption) ?rqac6
        case yqac6 => intro w hSw; (try dsimp only at hSw); go_simp <;> (try with_reducible rfl)
        (try simp only [List.getElem_toArray, List.getElem_cons_succ, List.getElem_cons_zero, Act.put, List.setIfInBounds_toArray, List.set_cons_zero, List.set_cons_succ])
        refine wpAnyH_take (i := 7) (v := ?vqac7) rfl (by kernel_rfl) (by kernel_rfl) (by kernel_rfl) (fun _ _ _ h => h) (Or.inl ⟨by rfl, ?yqac7⟩) (by assumption) ?rqac7
        case yqac7 => intro w hSw; (try dsimp only at hSw); go_simp <;> (try with_reducible rfl)
        (try simp only [List.getElem_toArray, List.getElem_cons_succ, List.getElem_cons_zero, Act.put, List.setIfInBounds_toArray, List.set_cons_zero, List.set_cons_succ])
        refine wpAnyH_take (i := 8) (v := ?vqac8) rfl (by kernel_rfl) (by kernel_rfl) (by kernel_rfl) (fun _ _ _ h => h) (Or.inl ⟨by rfl, ?yqac8⟩) (by assumption) ?rqac8
        case yqac8 => intro w hSw; (try dsimp only at hSw); go_simp <;> (try with_reducible rfl)
        (try simp only [List.getElem_toArray, List.getElem_cons_succ, List.getElem_cons_zero, Act.put, List.setIfInBounds_toArray, List.set_cons_zero, List.set_cons_succ])
        refine wpAnyH_take (i := 9) (v := ?vqac9) rfl (by kernel_rfl) (by kernel_rfl) (by kernel_rfl) (fun _ _ _ h => h) (Or.inl ⟨by rfl, ?yqac9⟩) (by assumption) ?rqac9
        case yqac9 => intro w hSw; have hSc := hSw; go_simp <;> (try with_reducible rfl)
        (try simp only [List.getElem_toArray, List.getElem_cons_succ, List.getElem_cons_zero, Act.put, List.setIfInBounds_toArray, List.set_cons_zero, List.set_cons_succ])
        refine wpAnyH_take (i := 10) (v := ?vqac10) rfl (by kernel_rfl) (by kernel_rfl) (by kernel_rfl) (fun _ _ _ h => h) (Or.inl ⟨by rfl, ?yqac10⟩) (by assumption) ?rqac10
        case yqac10 => intro w hSw; (try dsimp only at hSw); go_simp <;> (try with_reducible rfl)
        (try simp only [List.getElem_toArray, List.getElem_cons_succ, List.getElem_cons_zero, Act.put, List.setIfInBounds_toArray, List.set_cons_zero, List.set_cons_succ])
        refine wpAnyH_take (i := 11) (v := ?vqac11) rfl (by kernel_rfl) (by kernel_rfl) (by kernel_rfl) (fun _ _ _ h => h) (Or.inl ⟨by rfl, ?yqac11⟩) (by assumption) ?rqac11
        case yqac11 => intro w hSw; (try dsimp only at hSw); go_simp <;> (try with_reducible rfl)
        (try simp only [List.getElem_toArray, List.getElem_cons_succ, List.getElem_cons_zero, Act.put, List.setIfInBounds_toArray, List.set_cons_zero, List.set_cons_succ])
        refine wpAnyH_take (i := 12) (v := ?vqac12) rfl (by kernel_rfl) (by kernel_rfl) (by kernel_rfl) (fun _ _ _ h => h) (Or.inl ⟨by rfl, ?yqac12⟩) (by assumption) ?rqac12
        case yqac12 => intro w hSw; (try dsimp only at hSw); go_simp <;> (try with_reducible rfl)
        (try simp only [List.getElem_toArray, List.getElem_cons_succ, List.getElem_cons_zero, Act.put, List.setIfInBounds_toArray, List.set_cons_zero, List.set_cons_succ])
        refine wpAnyH_ready (rs := [13]) (by kernel_rfl) (by simp) ?_
        refine AllReadyH.cons rfl (fun K hK => ?_) AllReadyH.nil
        go_simp
        go_wp2_with fail
        (with_reducible refine ((HLT.out _)).mono ?_)
        rintro e w4 ⟨rfl, hb4⟩
        have B3 := B3.next hb4 B3.lt
        have hbe := below_join hbe hb4
        refine hK.out _ _ (B3.cell (k := 0) rfl) (fun hHeld => ?_)
        clear hK K hb4
        refine wpAnyH_take (i := 14) (v := ?vqac14) rfl (by kernel_rfl) (by kernel_rfl) (by kernel_rfl) (fun _ _ _ h => h) (Or.inl ⟨by rfl, ?yqac14⟩) (by assumption) ?rqac14
        case yqac14 => intro w hSw; (try dsimp only at hSw); go_simp <;> (try with_reducible rfl)
        (try simp only [List.getElem_toArray, List.getElem_cons_succ, List.getElem_cons_zero, Act.put, List.setIfInBounds_toArray, List.set_cons_zero, List.set_cons_succ])
        refine wpAnyH_take (i := 15) (v := ?vqac15) rfl (by kernel_rfl) (by kernel_rfl) (by kernel_rfl) (fun _ _ _ h => h) (Or.inl ⟨by rfl, ?yqac15⟩) (by assumption) ?rqac15
        case yqac15 => intro w hSw; (try dsimp only at hSw); go_simp <;> (try with_reducible rfl)
        (try simp only [List.getElem_toArray, List.getElem_cons_succ, List.getElem_cons_zero, Act.put, List.setIfInBounds_toArray, List.set_cons_zero, List.set_cons_succ])
        refine wpAnyH_take (i := 16) (v := ?vqac16) rfl (by kernel_rfl) (by kernel_rfl) (by kernel_rfl) (fun _ _ _ h => h) (Or.inl ⟨by rfl, ?yqac16⟩) (by assumption) ?rqac16
        case yqac16 => intro w hSw; (try dsimp only at hSw); go_simp <;> (try with_reducible rfl)
        (try simp only [List.getElem_toArray, List.getElem_cons_succ, List.getElem_cons_zero, Act.put, List.setIfInBounds_toArray, List.set_cons_zero, List.set_cons_succ])
        refine wpAnyH_take (i := 17) (v := ?vqac17) rfl (by kernel_rfl) (by kernel_rfl) (by kernel_rfl) (fun _ _ _ h => h) (Or.inl ⟨by rfl, ?yqac17⟩) (by assumption) ?rqac17
        case yqac17 => intro w hSw; (try dsimp only at hSw); go_simp <;> (try with_reducible rfl)
        (try simp only [List.getElem_toArray, List.getElem_cons_succ, List.getElem_cons_zero, Act.put, List.setIfInBounds_toArray, List.set_cons_zero, List.set_cons_succ])
        refine wpAnyH_ready (rs := [18]) (by kernel_rfl) (by simp) ?_
        refine AllReadyH.cons rfl (fun K hK => ?_) AllReadyH.nil
        go_simp
        go_wp2_with fail
        (with_reducible refine (HST.out _ _ (B3.cell (k := 0) rfl)).mono ?_)
        rintro e w5 ⟨rfl, hb5⟩
        have B3 := B3.next hb5 B3.lt
        have hbe := below_join hbe hb5
        refine hK.out _ _ (B3.cell (k := 0) rfl) (fun hHeld => ?_)
        clear hK K hb5
        refine wpAnyH_take (i := 19) (v := ?vqac19) rfl (by kernel_rfl) (by kernel_rfl) (by kernel_rfl) (fun _ _ _ h => h) (Or.inl ⟨by rfl, ?yqac19⟩) (by assumption) ?rqac19
        case yqac19 => intro w hSw; (try dsimp only at hSw); go_simp <;> (try with_reducible rfl)
        (try simp only [List.getElem_toArray, List.getElem_cons_succ, List.getElem_cons_zero, Act.put, List.setIfInBounds_toArray, List.set_cons_zero, List.set_cons_succ])
        refine wpAnyH_take (i := 20) (v := ?vqac20) rfl (by kernel_rfl) (by kernel_rfl) (by kernel_rfl) (fun _ _ _ h => h) (Or.inl ⟨by rfl, ?yqac20⟩) (by assumption) ?rqac20
        case yqac20 => intro w hSw; (try dsimp only at hSw); go_simp <;> (try with_reducible rfl)
        (try simp only [List.getElem_toArray, List.getElem_cons_succ, List.getElem_cons_zero, Act.put, List.setIfInBounds_toArray, List.set_cons_zero, List.set_cons_succ])
        refine wpAnyH_take (i := 21) (v := ?vqac21) rfl (by kernel_rfl) (by kernel_rfl) (by kernel_rfl) (fun _ _ _ h => h) (Or.inl ⟨by rfl, ?yqac21⟩) (by assumption) ?rqac21
        case yqac21 => intro w hSw; (try dsimp only at hSw); go_simp <;> (try with_reducible rfl)
        (try simp only [List.getElem_toArray, List.getElem_cons_succ, List.getElem_cons_zero, Act.put, List.setIfInBounds_toArray, List.set_cons_zero, List.set_cons_succ])
        refine wpAnyH_done (by kernel_rfl) ?_ _
        clear hHeld 
        go_wp2
        go_ret
        exact ⟨rfl, hbe⟩
    · have h24i : ¬ ((s.size : Int) ≤ 24) := by omega
      rw [decide_eq_false h24, Bool.false_and, Bool.false_and]
      have hd24 : decide (s.size ≤ 24) = false := decide_eq_false h24
      have hd24i : decide ((s.size : Int) ≤ 24) = false := decide_eq_false h24i
      skip
      go_enter Tryd.func11, Tryd.ntmps11
      go_wp2_with (with_reducible refine wpList_alloc (o := ⟨some 3, .alloc 65, _, _, _, _⟩) (by with_unfolding_all rfl) 65 (by with_unfolding_all rfl) .nilFunc [Value.nilFunc] (by exact Tryd.zeroFn) (by with_unfolding_all rfl) ?_)
      intro g3 w1 hg3 hs1 hb1 B3
      have hl3 : w.heap.size ≤ g3 := Nat.le_of_eq hg3.out.symm
      have hb1 := hb1.mono (Nat.le_of_eq hg3.out.symm)
      have hbe : Below w.heap.size w w1 := hb1
      clear hb1 hg3 hs1
      go_wp2_with (with_reducible refine wpList_put (o := ⟨none, .store 65 (.tmp 3) (.func 47), _, _, _, _⟩) (by with_unfolding_all rfl) 65 (.tmp 3) (.func 47) (by with_unfolding_all rfl) g3 0 (by with_unfolding_all rfl) (.func (.func 47) #[] #[]) (by with_unfolding_all rfl) B3 [Value.func (.func 47) #[] #[]] (by with_unfolding_all rfl) (by with_unfolding_all (exact Tryd.szFn)) (by with_unfolding_all (exact Nat.le_refl 1)) (by with_unfolding_all (exact one_cell1 rfl)) ?_)
      intro w2 hu2 C3
      rw [splice_all _ _ (by rfl)] at C3
      have hbe := hbe.trans (hu2.below (B := w.heap.size) hl3)
      clear B3 hu2
      have B3 := C3
      clear C3
      go_wp2
      have hdd := below_drew w2
      have B3 := B3.next hdd B3.lt
      have hbe := below_join hbe hdd
      refine wp_region_held_drew (S := fun _ => True) (by kernel_rfl) trivial (fun hHeld => ?_)
      clear hdd
      generalize w2.drew = w3 at B3 hbe hHeld  ⊢
      refine wpAnyH_take (i := 0) (v := ?vqad0) rfl (by kernel_rfl) (by kernel_rfl) (by kernel_rfl) (fun _ _ _ h => h) (Or.inl ⟨by rfl, ?yqad0⟩) (by assumption) ?rqad0
      case yqad0 => intro w hSw; (try dsimp only at hSw); go_simp <;> (try with_reducible rfl)
      (try simp only [List.getElem_toArray, List.getElem_cons_zero, Act.put, List.setIfInBounds_toArray, List.set_cons_zero, List.set_cons_succ])
      refine wpAnyH_take (i := 1) (v := ?vqad1) rfl (by kernel_rfl) (by kernel_rfl) (by kernel_rfl) (fun _ _ _ h => h) (Or.inl ⟨by rfl, ?yqad1⟩) (by assumption) ?rqad1
      case yqad1 => intro w hSw; (try dsimp only at hSw); go_simp <;> (try with_reducible rfl)
      (try simp only [List.getElem_toArray, List.getElem_cons_succ, List.getElem_cons_zero, Act.put, List.setIfInBounds_toArray, List.set_cons_zero, List.set_cons_succ])
      refine wpAnyH_take (i := 2) (v := ?vqad2) rfl (by kernel_rfl) (by kernel_rfl) (by kernel_rfl) (fun _ _ _ h => h) (Or.inl ⟨by rfl, ?yqad2⟩) (by assumption) ?rqad2
      case yqad2 => intro w hSw; (try dsimp only at hSw); go_simp <;> (try with_reducible rfl)
      (try simp only [List.getElem_toArray, List.getElem_cons_succ, List.getElem_cons_zero, Act.put, List.setIfInBounds_toArray, List.set_cons_zero, List.set_cons_succ])
      refine wpAnyH_take (i := 3) (v := ?vqad3) rfl (by kernel_rfl) (by kernel_rfl) (by kernel_rfl) (fun _ _ _ h => h) (Or.inl ⟨by rfl, ?yqad3⟩) (by assumption) ?rqad3
      case yqad3 => intro w hSw; (try dsimp only at hSw); go_simp <;> (try with_reducible rfl)
      (try simp only [List.getElem_toArray, List.getElem_cons_succ, List.getElem_cons_zero, Act.put, List.setIfInBounds_toArray, List.set_cons_zero, List.set_cons_succ])
      refine wpAnyH_take (i := 4) (v := ?vqad4) rfl (by kernel_rfl) (by kernel_rfl) (by kernel_rfl) (fun _ _ _ h => h) (Or.inl ⟨by rfl, ?yqad4⟩) (by assumption) ?rqad4
      case yqad4 => intro w hSw; (try dsimp only at hSw); go_simp <;> (try with_reducible rfl)
      (try simp only [List.getElem_toArray, List.getElem_cons_succ, List.getElem_cons_zero, Act.put, List.setIfInBounds_toArray, List.set_cons_zero, List.set_cons_succ])
      refine wpAnyH_take (i := 5) (v := ?vqad5) rfl (by kernel_rfl) (by kernel_rfl) (by kernel_rfl) (fun _ _ _ h => h) (Or.inl ⟨by rfl, ?yqad5⟩) (by assumption) ?rqad5
      case yqad5 => intro w hSw; (try dsimp only at hSw); go_simp <;> (try with_reducible rfl)
      (try simp only [List.getElem_toArray, List.getElem_cons_succ, List.getElem_cons_zero, Act.put, List.setIfInBounds_toArray, List.set_cons_zero, List.set_cons_succ])
      refine wpAnyH_take (i := 6) (v := ?vqad6) rfl (by kernel_rfl) (by kernel_rfl) (by kernel_rfl) (fun _ _ _ h => h) (Or.inl ⟨by rfl, ?yqad6⟩) (by assumption) ?rqad6
      case yqad6 => intro w hSw; (try dsimp only at hSw); go_simp <;> (try with_reducible rfl)
      (try simp only [List.getElem_toArray, List.getElem_cons_succ, List.getElem_cons_zero, Act.put, List.setIfInBounds_toArray, List.set_cons_zero, List.set_cons_succ])
      refine wpAnyH_take (i := 7) (v := ?vqad7) rfl (by kernel_rfl) (by kernel_rfl) (by kernel_rfl) (fun _ _ _ h => h) (Or.inl ⟨by rfl, ?yqad7⟩) (by assumption) ?rqad7
      case yqad7 => intro w hSw; (try dsimp only at hSw); go_simp <;> (try with_reducible rfl)
      (try simp only [List.getElem_toArray, List.getElem_cons_succ, List.getElem_cons_zero, Act.put, List.setIfInBounds_toArray, List.set_cons_zero, List.set_cons_succ])
      refine wpAnyH_take (i := 8) (v := ?vqad8) rfl (by kernel_rfl) (by kernel_rfl) (by kernel_rfl) (fun _ _ _ h => h) (Or.inl ⟨by rfl, ?yqad8⟩) (by assumption) ?rqad8
      case yqad8 => intro w hSw; (try dsimp only at hSw); go_simp <;> (try with_reducible rfl)
      (try simp only [List.getElem_toArray, List.getElem_cons_succ, List.getElem_cons_zero, Act.put, List.setIfInBounds_toArray, List.set_cons_zero, List.set_cons_succ])
      refine wpAnyH_take (i := 9) (v := undef) rfl (by kernel_rfl) (by kernel_rfl) (by kernel_rfl) (fun _ _ _ h => h) (Or.inr ⟨by rfl, rfl⟩) (by assumption) ?rqad9
      (try simp only [List.getElem_toArray, List.getElem_cons_succ, List.getElem_cons_zero, Act.put, List.setIfInBounds_toArray, List.set_cons_zero, List.set_cons_succ])
      refine wpAnyH_take (i := 10) (v := undef) rfl (by kernel_rfl) (by kernel_rfl) (by kernel_rfl) (fun _ _ _ h => h) (Or.inr ⟨by rfl, rfl⟩) (by assumption) ?rqad10
      (try simp only [List.getElem_toArray, List.getElem_cons_succ, List.getElem_cons_zero, Act.put, List.setIfInBounds_toArray, List.set_cons_zero, List.set_cons_succ])
      refine wpAnyH_take (i := 11) (v := undef) rfl (by kernel_rfl) (by kernel_rfl) (by kernel_rfl) (fun _ _ _ h => h) (Or.inr ⟨by rfl, rfl⟩) (by assumption) ?rqad11
      (try simp only [List.getElem_toArray, List.getElem_cons_succ, List.getElem_cons_zero, Act.put, List.setIfInBounds_toArray, List.set_cons_zero, List.set_cons_succ])
      refine wpAnyH_take (i := 12) (v := undef) rfl (by kernel_rfl) (by kernel_rfl) (by kernel_rfl) (fun _ _ _ h => h) (Or.inr ⟨by rfl, rfl⟩) (by assumption) ?rqad12
      (try simp only [List.getElem_toArray, List.getElem_cons_succ, List.getElem_cons_zero, Act.put, List.setIfInBounds_toArray, List.set_cons_zero, List.set_cons_succ])
      refine wpAnyH_take (i := 13) (v := undef) rfl (by kernel_rfl) (by kernel_rfl) (by kernel_rfl) (fun _ _ _ h => h) (Or.inr ⟨by rfl, rfl⟩) (by assumption) ?rqad13
      (try simp only [List.getElem_toArray, List.getElem_cons_succ, List.getElem_cons_zero, Act.put, List.setIfInBounds_toArray, List.set_cons_zero, List.set_cons_succ])
      refine wpAnyH_take (i := 14) (v := ?vqad14) rfl (by kernel_rfl) (by kernel_rfl) (by kernel_rfl) (fun _ _ _ h => h) (Or.inl ⟨by rfl, ?yqad14⟩) (by assumption) ?rqad14
      case yqad14 => intro w hSw; (try dsimp only at hSw); go_simp <;> (try with_reducible rfl)
      (try simp only [List.getElem_toArray, List.getElem_cons_succ, List.getElem_cons_zero, Act.put, List.setIfInBounds_toArray, List.set_cons_zero, List.set_cons_succ])
      refine wpAnyH_take (i := 15) (v := ?vqad15) rfl (by kernel_rfl) (by kernel_rfl) (by kernel_rfl) (fun _ _ _ h => h) (Or.inl ⟨by rfl, ?yqad15⟩) (by assumption) ?rqad15
      case yqad15 => intro w hSw; (try dsimp only at hSw); go_simp <;> (try with_reducible rfl)
      (try simp only [List.getElem_toArray, List.getElem_cons_succ, List.getElem_cons_zero, Act.put, List.setIfInBounds_toArray, List.set_cons_zero, List.set_cons_succ])
      refine wpAnyH_take (i := 16) (v := undef) rfl (by kernel_rfl) (by kernel_rfl) (by kernel_rfl) (fun _ _ _ h => h) (Or.inr ⟨by rfl, rfl⟩) (by assumption) ?rqad16
      (try simp only [List.getElem_toArray, List.getElem_cons_succ, List.getElem_cons_zero, Act.put, List.setIfInBounds_toArray, List.set_cons_zero, List.set_cons_succ])
      refine wpAnyH_take (i := 17) (v := undef) rfl (by kernel_rfl) (by kernel_rfl) (by kernel_rfl) (fun _ _ _ h => h) (Or.inr ⟨by rfl, rfl⟩) (by assumption) ?rqad17
      (try simp only [List.getElem_toArray, List.getElem_cons_succ, List.getElem_cons_zero, Act.put, List.setIfInBounds_toArray, List.set_cons_zero, List.set_cons_succ])
      refine wpAnyH_take (i := 18) (v := undef) rfl (by kernel_rfl) (by kernel_rfl) (by kernel_rfl) (fun _ _ _ h => h) (Or.inr ⟨by rfl, rfl⟩) (by assumption) ?rqad18
      (try simp only [List.getElem_toArray, List.getElem_cons_succ, List.getElem_cons_zero, Act.put, List.setIfInBounds_toArray, List.set_cons_zero, List.set_cons_succ])
      refine wpAnyH_take (i := 19) (v := undef) rfl (by kernel_rfl) (by kernel_rfl) (by kernel_rfl) (fun _ _ _ h => h) (Or.inr ⟨by rfl, rfl⟩) (by assumption) ?rqad19
      (try simp only [List.getElem_toArray, List.getElem_cons_succ, List.getElem_cons_zero, Act.put, List.setIfInBounds_toArray, List.set_cons_zero, List.set_cons_succ])
      refine wpAnyH_take (i := 20) (v := ?vqad20) rfl (by kernel_rfl) (by kernel_rfl) (by kernel_rfl) (fun _ _ _ h => h) (Or.inl ⟨by rfl, ?yqad20⟩) (by assumption) ?rqad20
      case yqad20 => intro w hSw; (try dsimp only at hSw); go_simp <;> (try with_reducible rfl)
      (try simp only [List.getElem_toArray, List.getElem_cons_succ, List.getElem_cons_zero, Act.put, List.setIfInBounds_toArray, List.set_cons_zero, List.set_cons_succ])
      refine wpAnyH_take (i := 21) (v := ?vqad21) rfl (by kernel_rfl) (by kernel_rfl) (by kernel_rfl) (fun _ _ _ h => h) (Or.inl ⟨by rfl, ?yqad21⟩) (by assumption) ?rqad21
      case yqad21 => intro w hSw; (try dsimp only at hSw); go_simp <;> (try with_reducible rfl)
      (try simp only [List.getElem_toArray, List.getElem_cons_succ, List.getElem_cons_zero, Act.put, List.setIfInBounds_toArray, List.set_cons_zero, List.set_cons_succ])
      refine wpAnyH_done (by kernel_rfl) ?_ _
      clear hHeld 
      go_wp2
      go_ret
      exact ⟨rfl, hbe⟩
end Go.Proofs.YtbgndopgllnmaaaDoor

/-
  Contract of the walk over Name of the specification. Conditions: a string that is not too large.
-/
namespace Go.Proofs.YtbgndopgllnmaaaDoor
set_option linter.unusedVariables false
set_option linter.unusedSimpArgs false
open Go.RowKit Go.Shelf

/-- What the specification asks of the byte at i. -/
def okAt (z : Int) (i : Nat) : Bool := letterZ z || (charZ z && !decide (i = 0))
theorem okAt_all (s : ByteArray) (h : 0 < s.size) : (∀ i, ∀ k : i < s.size, okAt ((s[i]'k).toNat : Int) i = true) ↔ (letterZ ((s[0]'h).toNat : Int) = true ∧ (s.data.toList.all fun b => charZ (b.toNat : Int)) = true) := by
  rw [← name_all]
  constructor
  · intro a
    refine ⟨?_, fun i _ k => ?_⟩
    · have := a 0 h
      unfold okAt at this
      simpa using this
    · have := a i k
      unfold okAt at this
      rw [Bool.or_eq_true, Bool.and_eq_true] at this
      rcases this with l | l
      · exact letter_char l
      · exact l.1
  · rintro ⟨l, a⟩ i k
    unfold okAt
    by_cases hi : i = 0
    · subst hi
      rw [l]; rfl
    · rw [a i (Nat.zero_le _) k, decide_eq_false hi]; simp
theorem name_ref (s : ByteArray) (h : 1 ≤ s.size) (a : ∀ i, ∀ k : i < s.size, okAt ((s[i]'k).toNat : Int) i = true) : nameB s = decide (s.size ≤ 24) := by
  have := (okAt_all s h).1 a
  rw [name_parts s h, this.1, this.2]; simp
theorem name_not (s : ByteArray) {i : Nat} (k : i < s.size) (a : okAt ((s[i]'k).toNat : Int) i = false) : nameB s = false := by
  have hp : 0 < s.size := by omega
  cases e : nameB s with
  | false => rfl
  | true =>
    rw [name_parts s hp, Bool.and_eq_true, Bool.and_eq_true] at e
    have := (okAt_all s hp).2 ⟨e.1.2, e.2⟩ i k
    rw [a] at this; cases this
def NameRel (s : ByteArray) (i : Value) : Prop := ∃ k : Nat, k ≤ s.size ∧ i = .int .i64 (k : Int) ∧ ∀ j, ∀ h : j < s.size, j < k → okAt ((s[j]'h).toNat : Int) j = true
set_option maxRecDepth 100000 in
set_option maxHeartbeats 3200000 in
theorem rname_any (s : ByteArray) (w : World) (hs : s.size ≤ 9223372036854775807) :
    Calls Tryd.prog 12 #[.string s] w fun e w' => e = .returned (.bool (nameB s)) ∧ w = w' := by
  have hsi : (s.size : Int) ≤ 9223372036854775807 := by omega
  go_enter Tryd.func12, Tryd.ntmps12
  go_wp2
  go_loop [3] (NameRel s) (fun i => s.size - (intOf i).toNat)
  case atStart => exact ⟨0, Nat.zero_le _, rfl, fun j h hj => absurd hj (Nat.not_lt_zero _)⟩
  case round =>
    obtain ⟨k, hk, rfl, hal⟩ := hrel
    have HAL := Lib.hid hal
    clear hal
    by_cases hlt : k < s.size
    · have hki : (k : Int) < (s.size : Int) := by omega
      obtain ⟨c, hc⟩ : ∃ c, s[k]'hlt = c := ⟨_, rfl⟩
      have hx : ∀ h, s[k]'h = c := fun _ => hc
      have hcb : c.toNat < 256 := c.toNat_lt
      obtain ⟨z, hz⟩ : ∃ z : Int, (c.toNat : Int) = z := ⟨_, rfl⟩
      have HNO : Hid (okAt z k = false → nameB s = false) := by
        have : okAt z k = false → nameB s = false := fun h => name_not s hlt (by rw [hc, hz]; exact h)
        exact this
      have HYES : Hid (okAt z k = true → ∀ j, ∀ h : j < s.size, j < k + 1 → okAt ((s[j]'h).toNat : Int) j = true) := by
        have : okAt z k = true → ∀ j, ∀ h : j < s.size, j < k + 1 → okAt ((s[j]'h).toNat : Int) j = true := fun h j hj hjk => by
          rcases (by omega : j = k ∨ j < k) with rfl | h1
          · rw [hc, hz]; exact h
          · exact HAL.out j hj h1
        exact this
      clear HAL hcb
      by_cases h97 : 97 ≤ z
      · by_cases h122 : z ≤ 122
        · have h48 : 48 ≤ z := by omega
          have d57 : decide (z ≤ 57) = false := decide_eq_false (by omega)
          have n95 : (z == 95) = false := beq_eq_false_iff_ne.2 (by omega)
          have n95' : ¬ z = 95 := by omega
          have hok : okAt z k = true := by unfold okAt charZ letterZ; simp [h97, h122]
          have HY := Lib.hid (HYES.out hok)
          clear HYES HNO hok
          go_wp2
          go_round
          case rel => exact ⟨k + 1, by omega, by go_num, HY.out⟩
          case measure => simp [intOf]; omega
        · have h48 : 48 ≤ z := by omega
          have d57 : decide (z ≤ 57) = false := decide_eq_false (by omega)
          have d122 : decide (z ≤ 122) = false := decide_eq_false (by omega)
          have n95 : (z == 95) = false := beq_eq_false_iff_ne.2 (by omega)
          have n95' : ¬ z = 95 := by omega
          have hok : okAt z k = false := by unfold okAt charZ letterZ; simp; omega
          have hno := Lib.hid (HNO.out hok)
          clear HYES HNO hok
          go_wp2
          go_ret
          exact ⟨by rw [hno.out]; rfl, rfl⟩
      · have d97 : decide (97 ≤ z) = false := decide_eq_false h97
        by_cases h48 : 48 ≤ z
        · by_cases h57 : z ≤ 57
          · by_cases hk0 : k = 0
            · subst hk0
              have hok : okAt z 0 = false := by unfold okAt charZ letterZ; simp; omega
              have hno := Lib.hid (HNO.out hok)
              clear HYES HNO hok
              go_wp2
              go_ret
              exact ⟨by rw [hno.out]; rfl, rfl⟩
            · have hk0i : ((k : Int) == 0) = false := beq_eq_false_iff_ne.2 (by omega)
              have hk0b : (k == 0) = false := beq_eq_false_iff_ne.2 hk0
              have hok : okAt z k = true := by unfold okAt charZ letterZ; simp [hk0]; omega
              have HY := Lib.hid (HYES.out hok)
              clear HYES HNO hok
              go_wp2
              go_round
              case rel => exact ⟨k + 1, by omega, by go_num, HY.out⟩
              case measure => simp [intOf]; omega
          · have d57 : decide (z ≤ 57) = false := decide_eq_false h57
            by_cases h95 : z = 95
            · subst h95
              by_cases hk0 : k = 0
              · subst hk0
                have hok : okAt 95 0 = false := by unfold okAt charZ letterZ; decide
                have hno := Lib.hid (HNO.out hok)
                clear HYES HNO hok
                go_wp2
                go_ret
                exact ⟨by rw [hno.out]; rfl, rfl⟩
              · have hk0i : ((k : Int) == 0) = false := beq_eq_false_iff_ne.2 (by omega)
                have hk0b : (k == 0) = false := beq_eq_false_iff_ne.2 hk0
                have hok : okAt 95 k = true := by unfold okAt charZ letterZ; simp [hk0]
                have HY := Lib.hid (HYES.out hok)
                clear HYES HNO hok
                go_wp2
                go_round
                case rel => exact ⟨k + 1, by omega, by go_num, HY.out⟩
                case measure => simp [intOf]; omega
            · have n95 : (z == 95) = false := beq_eq_false_iff_ne.2 h95
              have hok : okAt z k = false := by unfold okAt charZ letterZ; simp; omega
              have hno := Lib.hid (HNO.out hok)
              clear HYES HNO hok
              go_wp2
              go_ret
              exact ⟨by rw [hno.out]; rfl, rfl⟩
        · have d48 : decide (48 ≤ z) = false := decide_eq_false h48
          have n95 : (z == 95) = false := beq_eq_false_iff_ne.2 (by omega)
          have n95' : ¬ z = 95 := by omega
          have hok : okAt z k = false := by unfold okAt charZ letterZ; simp; omega
          have hno := Lib.hid (HNO.out hok)
          clear HYES HNO hok
          go_wp2
          go_ret
          exact ⟨by rw [hno.out]; rfl, rfl⟩
    · have hks : k = s.size := by omega
      subst hks
      by_cases h1 : 1 ≤ s.size
      · have hfin : Hid (decide (s.size ≤ 24) = nameB s) := by
          have : decide (s.size ≤ 24) = nameB s := (name_ref s h1 fun i h => HAL.out i h h).symm
          exact this
        go_wp2
        go_ret
        exact ⟨by rw [← hfin.out]; first | rfl | (rw [show decide (s.size ≤ 24) = decide ((s.size : Int) ≤ 24) from decide_eq_decide.2 (by omega)]; rfl), rfl⟩
      · have h0 : nameB s = false := name_zero s (by omega)
        have hz : s.size = 0 := by omega
        have H0 := Lib.hid h0
        clear h0
        go_wp2
        go_ret
        exact ⟨by rw [H0.out]; rfl, rfl⟩
end Go.Proofs.YtbgndopgllnmaaaDoor
