/-
  Contracts of the functions that the statement calls, part 22 of 25 (merged texts: Me, Mf, Uc, Ud, Ue, Uf, Ug, Mg, Mh). Conditions: as the head of each part says.
-/
import Derived.Test.YtkkgfdfjgfigcaaDoorGU
import Derived.Shelf.Strings.Cut
import Derived.Laws.Strings
import Derived.Test.YtkkgfdfjgfigcaaDoorGJ
import Derived.Shelf.Strings.Split
import Derived.Test.YtkkgfdfjgfigcaaDoorGG

/-
  Contract of the walk over wordOf. Conditions: at most a million bytes; the library's variables lie there.
-/
namespace Go.Proofs.YtkkgfdfjgfigcaaDoor
set_option linter.unusedVariables false
set_option linter.unusedSimpArgs false
open Go.RowKit Go.Shelf

/-- The library's variable lies there. -/
def GOk (w : World) : Prop := ∃ m : Int, w.cell? ⟨Tryd.cutA_ren.g 1, 0, none⟩ = some (.int .i64 m)
theorem GOk.next {w w' : World} (h : GOk w) (hb : Below w.heap.size w w') : GOk w' := by
  obtain ⟨m, hm⟩ := h
  exact ⟨m, by rw [hb.cell (World.block_lt_of_cell? w _ hm)]; exact hm⟩
theorem cut_len (s sep : List UInt8) : (Lib.cut s sep).1.length ≤ s.length ∧ (Lib.cut s sep).2.1.length ≤ s.length := by
  unfold Lib.cut
  split
  · exact ⟨by show (s.take _).length ≤ _; rw [List.length_take]; omega, by show (s.drop _).length ≤ _; rw [List.length_drop]; omega⟩
  · exact ⟨Nat.le_refl _, Nat.zero_le _⟩
theorem arr_size (l : List UInt8) : (⟨l.toArray⟩ : ByteArray).size = l.length := by simp [ByteArray.size]
theorem arr_list (l : List UInt8) : (⟨l.toArray⟩ : ByteArray).data.toList = l := by simp
theorem scut_any (s : ByteArray) (w : World) (hs : s.size ≤ 1000000) (hg : GOk w) :
    Calls Tryd.prog 127 #[.string s, .string { data := #[47] }] w fun e w' => e = .returned (.tuple #[.string ⟨(Lib.cut s.data.toList [47]).1.toArray⟩, .string ⟨(Lib.cut s.data.toList [47]).2.1.toArray⟩, .bool (Lib.cut s.data.toList [47]).2.2]) ∧ Below w.heap.size w w' := by
  obtain ⟨m, hm⟩ := hg
  refine Calls.mono (Any.strings_Cut Tryd.cutA s { data := #[47] } m w (by omega) hm) ?_
  rintro e w' ⟨rfl, n, rfl⟩
  exact ⟨rfl, below_drewN w n⟩
/-- What wordOf reads: mask and bits. -/
def wordR (l : List UInt8) : Int × Int := if l = [42] then (0, 0) else if (Lib.cut l [47]).2.2 = true then (numI (Lib.cut l [47]).2.1, numI (Lib.cut l [47]).1) else (65535, numI (Lib.cut l [47]).1)
set_option maxRecDepth 100000 in
set_option maxHeartbeats 1600000 in
theorem wordOf_any (s : ByteArray) (w : World) (hs : s.size ≤ 1000000) (hg : GOk w) :
    Calls Tryd.prog 91 #[.string s] w fun e w' => e = .returned (.tuple #[.int .i64 (wordR s.data.toList).1, .int .i64 (wordR s.data.toList).2]) ∧ Below w.heap.size w w' := by
  have hlen : s.data.toList.length = s.size := bytes_size s
  by_cases hstar : s = { data := #[42] }
  · subst hstar
    have e : wordR ({ data := #[42] } : ByteArray).data.toList = (0, 0) := if_pos rfl
    rw [e]
    go_enter Tryd.func91, Tryd.ntmps91
    go_wp2
    go_ret2
    exact ⟨rfl, Below.refl _ _⟩
  · have hne : ¬ s.data.toList = [42] := fun h => hstar (by
      cases s with
      | mk d => cases d with
        | mk l => rw [show l = [42] from h])
    have hbq : (s.toList == [42]) = false := beq_eq_false_iff_ne.2 (fun e => hne (by rw [← ByteArray.toList_eq]; exact e))
    have hcl := cut_len s.data.toList [47]
    have hcut := scut_any s
    obtain ⟨R, hR⟩ : ∃ R, Hid (wordR s.data.toList = R) := ⟨_, rfl⟩
    have hRe : (if (Lib.cut s.data.toList [47]).2.2 = true then (numI (Lib.cut s.data.toList [47]).2.1, numI (Lib.cut s.data.toList [47]).1) else (65535, numI (Lib.cut s.data.toList [47]).1)) = R := by
      rw [← hR.out]; unfold wordR; rw [if_neg hne]
    rw [hR.out]
    obtain ⟨C1, hC1⟩ : ∃ C, (Lib.cut s.data.toList [47]).1 = C := ⟨_, rfl⟩
    obtain ⟨C2, hC2⟩ : ∃ C, (Lib.cut s.data.toList [47]).2.1 = C := ⟨_, rfl⟩
    obtain ⟨C3, hC3⟩ : ∃ C, (Lib.cut s.data.toList [47]).2.2 = C := ⟨_, rfl⟩
    rw [hC1, hC2] at hcl
    rw [hC1, hC2, hC3] at hRe
    have hc := hcut w hs hg
    rw [hC1, hC2, hC3] at hc
    have HC := Lib.hid hc
    have n1 := number_any (⟨C1.toArray⟩ : ByteArray)
    have n2 := number_any (⟨C2.toArray⟩ : ByteArray)
    rw [arr_list] at n1 n2
    have N1 := Lib.hid (fun w => n1 w (by rw [arr_size]; omega))
    have N2 := Lib.hid (fun w => n2 w (by rw [arr_size]; omega))
    have HRE := Lib.hid hRe
    clear hC1 hC2 hC3 hc hcut n1 n2 hRe hcl hlen hR hne hg
    go_enter Tryd.func91, Tryd.ntmps91
    go_wp2_with fail
    (with_reducible refine HC.out.mono ?_)
    rintro e w1 ⟨rfl, hb1⟩
    cases C3 with
    | false =>
      have hRv : Hid ((65535, numI C1) = R) := by
        have : (65535, numI C1) = R := HRE.out
        exact this
      go_wp2_with fail
      (with_reducible refine (N1.out _).mono ?_)
      rintro e w2 ⟨rfl, rfl⟩
      go_wp2
      go_ret2
      exact ⟨by rw [← hRv.out]; rfl, hb1⟩
    | true =>
      have hRv : Hid ((numI C2, numI C1) = R) := by
        have : (numI C2, numI C1) = R := HRE.out
        exact this
      go_wp2_with fail
      (with_reducible refine (N2.out _).mono ?_)
      rintro e w2 ⟨rfl, rfl⟩
      go_wp2_with fail
      (with_reducible refine (N1.out _).mono ?_)
      rintro e w2 ⟨rfl, rfl⟩
      go_wp2
      go_ret2
      exact ⟨by rw [← hRv.out]; rfl, hb1⟩
end Go.Proofs.YtkkgfdfjgfigcaaDoor

/-
  Contract of the walk over Parse. Conditions: at most a million bytes; the library's variable lies there.
-/
namespace Go.Proofs.YtkkgfdfjgfigcaaDoor
set_option linter.unusedVariables false
set_option linter.unusedSimpArgs false
open Go.RowKit Go.Shelf

/-- The texts of the words. -/
def wordsOf (s : ByteArray) : List ByteArray := Lib.splitB { data := #[32] } 0 (min 11 (s.size + 1) - 1) s
def maskI (s : ByteArray) : List Int := (wordsOf s).map fun t => (wordR t.data.toList).1
def bitsI (s : ByteArray) : List Int := (wordsOf s).map fun t => (wordR t.data.toList).2
theorem splitB_size (sep : ByteArray) : ∀ (k : Nat) (s t : ByteArray), t ∈ Lib.splitB sep 0 k s → t.size ≤ s.size
  | 0, s, t, h => by
    rw [List.mem_singleton.1 h]; exact Nat.le_refl _
  | k + 1, s, t, h => by
    unfold Lib.splitB at h
    split at h
    · rw [List.mem_singleton.1 h]; exact Nat.le_refl _
    · rcases List.mem_cons.1 h with h | h
      · rw [h, ByteArray.size_extract]; omega
      · have := splitB_size sep k _ t h
        rw [ByteArray.size_extract] at this
        omega
/-- A row of raw words that is filled to k. -/
def rawK (l : List Int) (k : Nat) : List Int := l.take k ++ List.replicate (10 - k) 0
theorem rawK_length {l : List Int} (hl : l.length = 10) {k : Nat} (hk : k ≤ 10) : (rawK l k).length = 10 := by
  unfold rawK; rw [List.length_append, List.length_take, List.length_replicate]; omega
theorem rawK_all {l : List Int} (hl : l.length = 10) : rawK l 10 = l := by
  unfold rawK; rw [List.take_of_length_le (by omega)]; exact List.append_nil _
theorem rawK_put {l : List Int} {x : Int} {R : List Value} (hl : l.length = 10) : ∀ {k : Nat}, k < 10 → l[k]? = some x → splice ((rawK l k).map iV ++ R) k [iV x] = (rawK l (k + 1)).map iV ++ R := by
  obtain ⟨a0, a1, a2, a3, a4, a5, a6, a7, a8, a9, rfl⟩ := list10 hl
  intro k hk hx
  match k, hk with
  | 0, _ => simp at hx; subst hx; rfl
  | 1, _ => simp at hx; subst hx; rfl
  | 2, _ => simp at hx; subst hx; rfl
  | 3, _ => simp at hx; subst hx; rfl
  | 4, _ => simp at hx; subst hx; rfl
  | 5, _ => simp at hx; subst hx; rfl
  | 6, _ => simp at hx; subst hx; rfl
  | 7, _ => simp at hx; subst hx; rfl
  | 8, _ => simp at hx; subst hx; rfl
  | 9, _ => simp at hx; subst hx; rfl
theorem rawK_put2 {l P : List Int} {x : Int} (hP : P.length = 10) (hl : l.length = 10) : ∀ {k : Nat}, k < 10 → l[k]? = some x → splice (P.map iV ++ (rawK l k).map iV) (10 + k) [iV x] = P.map iV ++ (rawK l (k + 1)).map iV := by
  obtain ⟨b0, b1, b2, b3, b4, b5, b6, b7, b8, b9, rfl⟩ := list10 hP
  intro k hk hx
  have h := rawK_put (R := []) hl hk hx
  rw [List.append_nil, List.append_nil] at h
  rw [← h]
  match k, hk with
  | 0, _ => rfl
  | 1, _ => rfl
  | 2, _ => rfl
  | 3, _ => rfl
  | 4, _ => rfl
  | 5, _ => rfl
  | 6, _ => rfl
  | 7, _ => rfl
  | 8, _ => rfl
  | 9, _ => rfl
/-- What Parse answers. -/
def ParseR (s : ByteArray) (e : Ending) : Prop :=
  (∃ p : Pat, p.ok ∧ (wordsOf s).length = 10 ∧ HI p.m = maskI s ∧ HI p.b = bitsI s ∧ textTo p 10 = s.data.toList ∧ e = .returned (.tuple #[.agg p.cells.toArray, .int .i64 0])) ∨
    (e = .returned (.tuple #[.agg (H no ++ H no).toArray, .int .i64 3]) ∧ ∀ p : Pat, p.ok → (wordsOf s).length = 10 → HI p.m = maskI s → HI p.b = bitsI s → textTo p 10 ≠ s.data.toList)
theorem ssplit_any (s : ByteArray) (w : World) (hs : s.size ≤ 1000000) (hg : GOk w) :
    Calls Tryd.prog 90 #[.string s, .string { data := #[32] }, .int .i64 11] w fun e w' => ∃ g c R, e = .returned (.slice (some ⟨g, 0, none⟩) (wordsOf s).length c) ∧ Hid (g = w.heap.size) ∧ Blk w' g 9 ((wordsOf s).map Value.string ++ R) ∧ Below w.heap.size w w' := by
  obtain ⟨m, hm⟩ := hg
  refine Calls.mono (Any.strings_SplitN Tryd.splitA (by kernel_rfl) s { data := #[32] } 11 m w (by omega) hm (by decide) (by decide) (by decide)) ?_
  rintro e w' ⟨rfl, rfl⟩
  exact ⟨_, _, _, rfl, rfl, blk_new w _ _, below_new w _⟩
theorem textTo_same {p q : Pat} (h1 : ∀ i, i < 160 → p.m i = q.m i) (h2 : ∀ i, i < 160 → p.b i = q.b i) : textTo p 10 = textTo q 10 := by
  have key : ∀ k, k ≤ 10 → textTo p k = textTo q k := by
    intro k
    induction k with
    | zero => intro _; rfl
    | succ n ih =>
      intro hn
      have e1 : word p.m n = word q.m n := word_congr fun i hi => h1 i (by omega)
      have e2 : word p.b n = word q.b n := word_congr fun i hi => h2 i (by omega)
      unfold textTo
      rw [ih (by omega), e1, e2]
  exact key 10 (by omega)
def PaRel (s : ByteArray) (M B : List Int) (g2 g4 g5 : Nat) (R : List Value) (w : World) (i : Value) (wr : World) : Prop :=
  ∃ k : Nat, k ≤ 10 ∧ i = .int .i64 (k : Int) ∧ Blk wr g2 25 (H no ++ H no) ∧ Blk wr g4 25 ((rawK M k).map iV ++ (rawK B k).map iV) ∧ Blk wr g5 9 ((wordsOf s).map Value.string ++ R) ∧ Below w.heap.size w wr
theorem raw_zero (l r : List Int) : H no ++ H no = (rawK l 0).map iV ++ (rawK r 0).map iV := by
  rw [H_rep]; rfl
set_option maxRecDepth 100000 in
set_option maxHeartbeats 1600000 in
theorem parse_any (s : ByteArray) (w : World) (hs : s.size ≤ 1000000) (hg : GOk w) :
    Calls Tryd.prog 16 #[.string s] w fun e w' => ParseR s e ∧ Below w.heap.size w w' := by
  have HG := Lib.hid hg
  obtain ⟨M, hM⟩ : ∃ M, Hid (maskI s = M) := ⟨_, rfl⟩
  obtain ⟨B, hB⟩ : ∃ B, Hid (bitsI s = B) := ⟨_, rfl⟩
  obtain ⟨L, hL⟩ : ∃ L, Hid ((wordsOf s).length = L) := ⟨_, rfl⟩
  clear hg
  go_enter Tryd.func16, Tryd.ntmps16
  go_wp2_with (with_reducible refine wpList_alloc (o := ⟨some 2, .alloc 25, _, _, _, _⟩) (by with_unfolding_all rfl) 25 (by with_unfolding_all rfl) (.agg (H no ++ H no).toArray) (H no ++ H no) (by exact Tryd.zeroPt) (by with_unfolding_all rfl) ?_)
  intro g2 w1 hg2 hs1 hb1 hB2
  have hl2 : w.heap.size ≤ g2 := Nat.le_of_eq hg2.out.symm
  have hbe : Below w.heap.size w w1 := hb1.mono hl2
  clear hb1 hs1 hg2
  go_wp2_with (with_reducible refine wpList_alloc (o := ⟨some 4, .alloc 25, _, _, _, _⟩) (by with_unfolding_all rfl) 25 (by with_unfolding_all rfl) (.agg (H no ++ H no).toArray) (H no ++ H no) (by exact Tryd.zeroPt) (by with_unfolding_all rfl) ?_)
  intro g4 w2 hg4 hs2 hb2 hB4
  have hb2' := hb2.mono (Nat.le_of_eq hg4.out.symm)
  have h24 : g2 < g4 := by have := hB2.lt; have := hg4.out; omega
  have hB2 := hB2.next hb2' hB2.lt
  have hbe := below_join hbe hb2'
  have HSP := Lib.hid (ssplit_any s w2 hs (HG.out.next hbe))
  clear hb2 hb2' hs2 hg4
  go_wp2_with fail
  (with_reducible refine HSP.out.mono ?_)
  rintro e w3 ⟨g5, c5, R, rfl, hg5, hB5, hb3⟩
  have h45 : g4 < g5 := by have := hB4.lt; have := hg5.out; omega
  have hB2 := hB2.next hb3 hB2.lt
  have hB4 := hB4.next hb3 hB4.lt
  have hbe := below_join hbe hb3
  rw [hL.out]
  clear hb3 hg5 HSP
  by_cases hL10 : L = 10
  · subst hL10
    have HML : Hid (M.length = 10) := by
      have : M.length = 10 := by rw [← hM.out, ← hL.out]; exact List.length_map _
      exact this
    have HBL : Hid (B.length = 10) := by
      have : B.length = 10 := by rw [← hB.out, ← hL.out]; exact List.length_map _
      exact this
    rw [raw_zero M B] at hB4
    go_wp2
    go_loopw [16] (PaRel s M B g2 g4 g5 R w) (fun i _ => 10 - (intOf i).toNat)
    case atStart => exact ⟨0, by omega, rfl, hB2, hB4, hB5, hbe⟩
    case round =>
      clear hB2 hB4 hB5 hbe
      obtain ⟨k, hk, rfl, hB2, hB4, hB5, hbe⟩ := hrel
      by_cases hlt : k < 10
      · obtain ⟨t, ht⟩ : ∃ t, (wordsOf s)[k]? = some t := ⟨_, List.getElem?_eq_getElem (by rw [hL.out]; exact hlt)⟩
        have htl : t.size ≤ 1000000 := Nat.le_trans (splitB_size _ _ _ _ (List.mem_of_getElem? ht)) hs
        have hct : (((wordsOf s).map Value.string) ++ R)[k]? = some (.string t) := by
          rw [List.getElem?_append_left (by rw [List.length_map, hL.out]; exact hlt), List.getElem?_map, ht]; rfl
        obtain ⟨x, hx⟩ : ∃ x, (wordR t.data.toList).1 = x := ⟨_, rfl⟩
        obtain ⟨y, hy⟩ : ∃ y, (wordR t.data.toList).2 = y := ⟨_, rfl⟩
        have hMx : M[k]? = some x := by rw [← hM.out, ← hx]; unfold maskI; rw [List.getElem?_map, ht]; rfl
        have hBy : B[k]? = some y := by rw [← hB.out, ← hy]; unfold bitsI; rw [List.getElem?_map, ht]; rfl
        have hwo := wordOf_any t wr htl (HG.out.next hbe)
        rw [hx, hy] at hwo
        have HWO := Lib.hid hwo
        have HP1 := Lib.hid (rawK_put (R := (rawK B k).map iV) HML.out hlt hMx)
        have HP2 := Lib.hid (rawK_put2 (rawK_length HML.out (show k + 1 ≤ 10 by omega)) HBL.out hlt hBy)
        have HKL : Hid (((rawK M k).map iV ++ (rawK B k).map iV).length = 20) := by
          have : ((rawK M k).map iV ++ (rawK B k).map iV).length = 20 := by rw [List.length_append, List.length_map, List.length_map, rawK_length HML.out hk, rawK_length HBL.out hk]
          exact this
        have HKL2 : Hid (((rawK M (k + 1)).map iV ++ (rawK B k).map iV).length = 20) := by
          have : ((rawK M (k + 1)).map iV ++ (rawK B k).map iV).length = 20 := by rw [List.length_append, List.length_map, List.length_map, rawK_length HML.out (show k + 1 ≤ 10 by omega), rawK_length HBL.out hk]
          exact this
        have hk0 : (0 : Int) ≤ (k : Int) := by omega
        have hk10 : (k : Int) < 10 := by omega
        have cw := hB5.cell hct
        clear ht hct hx hy hMx hBy hwo htl
        go_wp2_with fail
        (with_reducible refine HWO.out.mono ?_)
        rintro e w5 ⟨rfl, hb5⟩
        have hB2 := hB2.next hb5 hB2.lt
        have hB4 := hB4.next hb5 hB4.lt
        have hB5 := hB5.next hb5 hB5.lt
        have hbe := below_join hbe hb5
        clear hb5 cw HWO
        go_wp2_with (with_reducible refine wpList_put (o := ⟨none, .store 3 (.tmp 29) (.tmp 26), _, _, _, _⟩) (by with_unfolding_all rfl) 3 (.tmp 29) (.tmp 26) (by with_unfolding_all rfl) g4 k (by with_unfolding_all rfl) (iV x) (by with_unfolding_all rfl) hB4 [iV x] (by with_unfolding_all rfl) (by with_unfolding_all (exact Tryd.szI)) (by with_unfolding_all (rw [HKL.out]; show k + 1 ≤ 20; omega)) (by with_unfolding_all (exact one_cell1 rfl)) ?_)
        intro w6 hu6 hB6
        rw [HP1.out] at hB6
        have hB2 := hB2.upd hu6 (by omega)
        have hB5 := hB5.upd hu6 (by omega)
        have hbe := hbe.trans (hu6.below (B := w.heap.size) (by omega))
        clear hu6 hB4
        go_wp2_with (with_reducible refine wpList_put (o := ⟨none, .store 3 (.tmp 31) (.tmp 27), _, _, _, _⟩) (by with_unfolding_all rfl) 3 (.tmp 31) (.tmp 27) (by with_unfolding_all rfl) g4 (10 + k) (by with_unfolding_all rfl) (iV y) (by with_unfolding_all rfl) hB6 [iV y] (by with_unfolding_all rfl) (by with_unfolding_all (exact Tryd.szI)) (by with_unfolding_all (rw [HKL2.out]; show 10 + k + 1 ≤ 20; omega)) (by with_unfolding_all (exact one_cell1 rfl)) ?_)
        intro w7 hu7 hB7
        rw [HP2.out] at hB7
        have hB2 := hB2.upd hu7 (by omega)
        have hB5 := hB5.upd hu7 (by omega)
        have hbe := hbe.trans (hu7.below (B := w.heap.size) (by omega))
        clear hu7 hB6
        go_wp2
        go_roundw
        case rel => exact ⟨k + 1, by omega, by go_num, hB2, hB7, hB5, hbe⟩
        case measure => simp [intOf]; omega
      · obtain rfl : k = 10 := by omega
        rw [rawK_all HML.out, rawK_all HBL.out] at hB4
        clear hB5
        have hzR : (Tryd.prog.info? 25).map (·.size) = some (M.map iV ++ B.map iV).length := by rw [List.length_append, List.length_map, List.length_map, HML.out, HBL.out]; exact Tryd.szP
        obtain ⟨D, hD⟩ : ∃ D, pairI M B = D := ⟨_, rfl⟩
        have hri := fun w => right_any M B w HML.out HBL.out
        rw [hD] at hri
        have HRI := Lib.hid hri
        clear hri
        go_wp2_with (with_reducible refine wpList_get (o := ⟨some 33, .load 25 (.tmp 4), _, _, _, _⟩) (by with_unfolding_all rfl) 25 (.tmp 4) (by with_unfolding_all rfl) g4 0 (by with_unfolding_all rfl) hB4 (M.map iV ++ B.map iV) (cs_all _) _ (by exact Tryd.underlying25) (by with_unfolding_all rfl) hzR ?_)
        (with_reducible refine (HRI.out _).mono ?_)
        rintro e w5 ⟨rfl, hb5⟩
        have hB2 := hB2.next hb5 hB2.lt
        have hB4 := hB4.next hb5 hB4.lt
        have hbe := below_join hbe hb5
        clear hb5 HRI
        cases D with
        | false =>
          have HNO : Hid (∀ p : Pat, p.ok → (wordsOf s).length = 10 → HI p.m = maskI s → HI p.b = bitsI s → textTo p 10 ≠ s.data.toList) := by
            have : ∀ p : Pat, p.ok → (wordsOf s).length = 10 → HI p.m = maskI s → HI p.b = bitsI s → textTo p 10 ≠ s.data.toList := fun p hp _ h1 h2 _ => by
              have h3 := pat_right hp
              rw [h1, h2, hM.out, hB.out, hD] at h3
              cases h3
            exact this
          clear hD hB4 hzR
          go_wp2_with (first | (with_reducible refine wpList_build (o := ⟨some 42, .build 25 #[], _, _, _, _⟩) (by with_unfolding_all rfl) 25 #[] (by with_unfolding_all rfl) #[] (by with_unfolding_all rfl) (.agg (H no ++ H no).toArray) (by with_unfolding_all exact fun w => run_buildP0 w) ?_) | (with_reducible refine wpList_put (o := ⟨none, .store 25 (.tmp 2) (.tmp 42), _, _, _, _⟩) (by with_unfolding_all rfl) 25 (.tmp 2) (.tmp 42) (by with_unfolding_all rfl) g2 0 (by with_unfolding_all rfl) (.agg (H no ++ H no).toArray) (by with_unfolding_all rfl) hB2 (H no ++ H no) (by with_unfolding_all rfl) (by with_unfolding_all (rw [List.length_append, H_length]; exact Tryd.szP)) (by with_unfolding_all (rw [List.length_append, H_length]; omega)) (by with_unfolding_all (exact cells_one Pat.zero)) ?_))
          intro w9 hu9 hB9
          rw [splice_all _ _ rfl] at hB9
          have hfin := hbe.trans (hu9.below (B := w.heap.size) hl2)
          go_wp2
          exact bodyPost_ret (results_cell_two rfl _ _ g2 _ _ _ _ _ rfl rfl hB9 Tryd.underlying25 rfl (by rw [List.size_toArray, List.length_append, H_length]; exact Tryd.szP)) rfl ⟨.inr ⟨rfl, HNO.out⟩, hfin⟩
        | true =>
          obtain ⟨p, hp, hpm, hpb⟩ := right_pat HML.out HBL.out hD
          have hpc : M.map iV ++ B.map iV = p.cells := by rw [← hpm, ← hpb]; unfold Pat.cells; rw [H_iV, H_iV]
          rw [hpc] at hB4 hzR
          obtain ⟨T, hT⟩ : ∃ T : ByteArray, Hid ((⟨(textTo p 10).toArray⟩ : ByteArray) = T) := ⟨_, rfl⟩
          have htx := fun w => text_any p w
          rw [hT.out] at htx
          have HTX := Lib.hid htx
          have HPM := Lib.hid hpm
          have HPB := Lib.hid hpb
          have HP := Lib.hid hp
          clear htx hpc hD hpm hpb hp
          go_wp2_with (with_reducible refine wpList_getg (o := ⟨some 37, .load 25 (.tmp 4), _, _, _, _⟩) (by with_unfolding_all rfl) 25 (.tmp 4) (by with_unfolding_all rfl) g4 0 (by with_unfolding_all rfl) hB4 p.cells (cs_all _) _ (by exact Tryd.underlying25) (by with_unfolding_all rfl) hzR ?_)
          (with_reducible refine (HTX.out _).mono ?_)
          rintro e w6 ⟨rfl, hb6⟩
          have hB2 := hB2.next hb6 hB2.lt
          have hB4 := hB4.next hb6 hB4.lt
          have hbe := below_join hbe hb6
          clear hb6 HTX
          by_cases hts : T = s
          · have HTS : Hid (textTo p 10 = s.data.toList) := by
              have : textTo p 10 = s.data.toList := by rw [← hts, ← hT.out]
              exact this
            have hbq : (T.toList == s.toList) = true := by rw [hts]; exact beq_self_eq_true _
            clear hT hts
            go_wp2_with (first | (with_reducible refine wpList_get (o := ⟨some 43, .load 25 (.tmp 4), _, _, _, _⟩) (by with_unfolding_all rfl) 25 (.tmp 4) (by with_unfolding_all rfl) g4 0 (by with_unfolding_all rfl) hB4 p.cells (cs_all _) _ (by exact Tryd.underlying25) (by with_unfolding_all rfl) hzR ?_) | (with_reducible refine wpList_put (o := ⟨none, .store 25 (.tmp 2) (.tmp 43), _, _, _, _⟩) (by with_unfolding_all rfl) 25 (.tmp 2) (.tmp 43) (by with_unfolding_all rfl) g2 0 (by with_unfolding_all rfl) (.agg p.cells.toArray) (by with_unfolding_all rfl) hB2 p.cells (by with_unfolding_all rfl) (by with_unfolding_all (exact hzR)) (by with_unfolding_all (rw [Pat.cells_length, List.length_append, H_length]; omega)) (by with_unfolding_all (exact cells_one p)) ?_))
            intro w9 hu9 hB9
            rw [splice_all _ _ (by rw [Pat.cells_length, List.length_append, H_length])] at hB9
            have hfin := hbe.trans (hu9.below (B := w.heap.size) hl2)
            go_wp2
            exact bodyPost_ret (results_cell_two rfl _ _ g2 _ _ _ _ _ rfl rfl hB9 Tryd.underlying25 rfl (by rw [List.size_toArray]; exact hzR)) rfl ⟨.inl ⟨p, HP.out, hL.out, by rw [HPM.out, hM.out], by rw [HPB.out, hB.out], HTS.out, rfl⟩, hfin⟩
          · have hnt : ¬ textTo p 10 = s.data.toList := fun e => hts (by
              rw [← hT.out, e])
            have hbq : (T.toList == s.toList) = false := beq_eq_false_iff_ne.2 (fun e => hnt (by
              rw [ByteArray.toList_eq, ByteArray.toList_eq, ← hT.out] at e; exact e))
            have HNO : Hid (∀ p : Pat, p.ok → (wordsOf s).length = 10 → HI p.m = maskI s → HI p.b = bitsI s → textTo p 10 ≠ s.data.toList) := by
              have : ∀ p : Pat, p.ok → (wordsOf s).length = 10 → HI p.m = maskI s → HI p.b = bitsI s → textTo p 10 ≠ s.data.toList := fun q hq _ h1 h2 h3 => hnt (by
                rw [← h3]
                exact textTo_same (fun i hi => HI_inj (by rw [HPM.out, h1, hM.out]) i hi) (fun i hi => HI_inj (by rw [HPB.out, h2, hB.out]) i hi))
              exact this
            clear hT hts hnt hB4 hzR
            go_wp2_with (first | (with_reducible refine wpList_build (o := ⟨some 42, .build 25 #[], _, _, _, _⟩) (by with_unfolding_all rfl) 25 #[] (by with_unfolding_all rfl) #[] (by with_unfolding_all rfl) (.agg (H no ++ H no).toArray) (by with_unfolding_all exact fun w => run_buildP0 w) ?_) | (with_reducible refine wpList_put (o := ⟨none, .store 25 (.tmp 2) (.tmp 42), _, _, _, _⟩) (by with_unfolding_all rfl) 25 (.tmp 2) (.tmp 42) (by with_unfolding_all rfl) g2 0 (by with_unfolding_all rfl) (.agg (H no ++ H no).toArray) (by with_unfolding_all rfl) hB2 (H no ++ H no) (by with_unfolding_all rfl) (by with_unfolding_all (rw [List.length_append, H_length]; exact Tryd.szP)) (by with_unfolding_all (rw [List.length_append, H_length]; omega)) (by with_unfolding_all (exact cells_one Pat.zero)) ?_))
            intro w9 hu9 hB9
            rw [splice_all _ _ rfl] at hB9
            have hfin := hbe.trans (hu9.below (B := w.heap.size) hl2)
            go_wp2
            exact bodyPost_ret (results_cell_two rfl _ _ g2 _ _ _ _ _ rfl rfl hB9 Tryd.underlying25 rfl (by rw [List.size_toArray, List.length_append, H_length]; exact Tryd.szP)) rfl ⟨.inr ⟨rfl, HNO.out⟩, hfin⟩
  · have HNO : Hid (∀ p : Pat, p.ok → (wordsOf s).length = 10 → HI p.m = maskI s → HI p.b = bitsI s → textTo p 10 ≠ s.data.toList) := by
      have : ∀ p : Pat, p.ok → (wordsOf s).length = 10 → HI p.m = maskI s → HI p.b = bitsI s → textTo p 10 ≠ s.data.toList := fun p _ h _ _ _ => hL10 (by rw [← hL.out]; exact h)
      exact this
    have hLi : ¬ ((L : Int) = 10) := by omega
    clear hB4 hB5 hL10
    go_wp2_with (first | (with_reducible refine wpList_build (o := ⟨some 13, .build 25 #[], _, _, _, _⟩) (by with_unfolding_all rfl) 25 #[] (by with_unfolding_all rfl) #[] (by with_unfolding_all rfl) (.agg (H no ++ H no).toArray) (by with_unfolding_all exact fun w => run_buildP0 w) ?_) | (with_reducible refine wpList_put (o := ⟨none, .store 25 (.tmp 2) (.tmp 13), _, _, _, _⟩) (by with_unfolding_all rfl) 25 (.tmp 2) (.tmp 13) (by with_unfolding_all rfl) g2 0 (by with_unfolding_all rfl) (.agg (H no ++ H no).toArray) (by with_unfolding_all rfl) hB2 (H no ++ H no) (by with_unfolding_all rfl) (by with_unfolding_all (rw [List.length_append, H_length]; exact Tryd.szP)) (by with_unfolding_all (rw [List.length_append, H_length]; omega)) (by with_unfolding_all (exact cells_one Pat.zero)) ?_))
    intro w9 hu9 hB9
    rw [splice_all _ _ rfl] at hB9
    have hfin := hbe.trans (hu9.below (B := w.heap.size) hl2)
    go_wp2
    exact bodyPost_ret (results_cell_two rfl _ _ g2 _ _ _ _ _ rfl rfl hB9 Tryd.underlying25 rfl (by rw [List.size_toArray, List.length_append, H_length]; exact Tryd.szP)) rfl ⟨.inr ⟨rfl, HNO.out⟩, hfin⟩
end Go.Proofs.YtkkgfdfjgfigcaaDoor

/-
  What is read of a text is the pattern that was written. Conditions: a right pattern.
-/
namespace Go.Proofs.YtkkgfdfjgfigcaaDoor
set_option linter.unusedVariables false
set_option linter.unusedSimpArgs false
open Go.RowKit Go.Shelf

theorem byte_none : ∀ {l : List UInt8} {c : UInt8}, c ∉ l → Lib.indexByte l c = -1
  | [], _, _ => rfl
  | b :: l, c, h => by
    have h1 : ¬ (b == c) = true := fun e => h (by rw [eq_of_beq e]; exact List.mem_cons_self ..)
    unfold Lib.indexByte
    rw [if_neg h1, byte_none (fun e => h (List.mem_cons_of_mem _ e))]
    rfl
theorem byte_at : ∀ {a r : List UInt8} {c : UInt8}, c ∉ a → Lib.indexByte (a ++ c :: r) c = a.length
  | [], r, c, _ => by
    show Lib.indexByte (c :: r) c = _
    unfold Lib.indexByte
    rw [if_pos (beq_self_eq_true c)]; rfl
  | b :: l, r, c, h => by
    have h1 : ¬ (b == c) = true := fun e => h (by rw [eq_of_beq e]; exact List.mem_cons_self ..)
    have h2 := byte_at (r := r) (fun e => h (List.mem_cons_of_mem b e))
    show Lib.indexByte (b :: (l ++ c :: r)) c = _
    unfold Lib.indexByte
    rw [if_neg h1, h2, if_neg (by rw [beq_iff_eq]; omega), List.length_cons]
    omega
theorem cut_none {l : List UInt8} {c : UInt8} (h : c ∉ l) : Lib.cut l [c] = (l, [], false) := by
  unfold Lib.cut
  rw [Lib.index_one, byte_none h]; rfl
theorem cut_at {a r : List UInt8} {c : UInt8} (h : c ∉ a) : Lib.cut (a ++ c :: r) [c] = (a, r, true) := by
  have e : (a ++ c :: r).drop (a.length + 1) = r := by
    rw [← List.drop_drop, List.drop_left]; rfl
  unfold Lib.cut
  rw [Lib.index_one, byte_at h, if_pos (by omega), Int.toNat_natCast, List.take_left, List.length_singleton, e]
theorem split_at {a r : List UInt8} {c : UInt8} (h : c ∉ a) (k : Nat) : Lib.splitK [c] 0 (k + 1) (a ++ c :: r) = a :: Lib.splitK [c] 0 k r := by
  have e : (a ++ c :: r).drop (a.length + 1) = r := by
    rw [← List.drop_drop, List.drop_left]; rfl
  rw [Lib.splitK, Lib.index_one, byte_at h, if_neg (by rw [beq_iff_eq]; omega), Int.toNat_natCast, Nat.add_zero, List.take_left, List.length_singleton, e]
theorem split_none {a : List UInt8} {c : UInt8} (h : c ∉ a) (k : Nat) : Lib.splitK [c] 0 (k + 1) a = [a] := by
  rw [Lib.splitK, Lib.index_one, byte_none h]; rfl
theorem digs_idx : ∀ d, d < 16 → Lib.indexByte digs (digs.getD d 0) = (d : Int) := by decide
theorem digs_digI : ∀ d, d < 16 → digI (digs.getD d 0) = (d : Int) := by decide
theorem digs_not : ∀ d, d < 16 → digs.getD d 0 ≠ 32 ∧ digs.getD d 0 ≠ 47 ∧ digs.getD d 0 ≠ 42 := by decide
theorem hexL_not (x : Nat) : (32 : UInt8) ∉ hexL x ∧ (47 : UInt8) ∉ hexL x := by
  have h1 := digs_not (x / 4096 % 16) (by omega)
  have h2 := digs_not (x / 256 % 16) (by omega)
  have h3 := digs_not (x / 16 % 16) (by omega)
  have h4 := digs_not (x / 1 % 16) (by omega)
  unfold hexL
  refine ⟨fun h => ?_, fun h => ?_⟩
  · rcases List.mem_cons.1 h with h | h
    · exact h1.1 h.symm
    rcases List.mem_cons.1 h with h | h
    · exact h2.1 h.symm
    rcases List.mem_cons.1 h with h | h
    · exact h3.1 h.symm
    exact h4.1 (List.mem_singleton.1 h).symm
  · rcases List.mem_cons.1 h with h | h
    · exact h1.2.1 h.symm
    rcases List.mem_cons.1 h with h | h
    · exact h2.2.1 h.symm
    rcases List.mem_cons.1 h with h | h
    · exact h3.2.1 h.symm
    exact h4.2.1 (List.mem_singleton.1 h).symm
theorem wordT_not (m b : Nat) : (32 : UInt8) ∉ wordT m b := by
  unfold wordT
  split
  · decide
  · split
    · exact (hexL_not b).1
    · intro h
      rcases List.mem_append.1 h with h | h
      · exact (hexL_not b).1 h
      rcases List.mem_cons.1 h with h | h
      · exact absurd h (by decide)
      exact (hexL_not m).1 h
theorem num_step (n d : Nat) (hn : n < 4096) (hd : d < 16) : numStep (n : Int) (digs.getD d 0) = ((n * 16 + d : Nat) : Int) := by
  unfold numStep
  rw [digs_idx d hd]
  have h1 : IntKind.i64.wrap ((n : Int) * 16) = (n : Int) * 16 := by simp only [IntKind.wrap_i64]; omega
  rw [h1]
  have h2 : IntKind.i64.wrap ((n : Int) * 16 + d) = (n : Int) * 16 + d := by simp only [IntKind.wrap_i64]; omega
  rw [h2]; omega
theorem numI_hex (x : Nat) (h : x < 65536) : numI (hexL x) = (x : Int) := by
  unfold numI hexL
  simp only [List.foldl_cons, List.foldl_nil]
  have e0 : (0 : Int) = ((0 : Nat) : Int) := rfl
  rw [e0, num_step 0 _ (by omega) (by omega), num_step _ _ (by omega) (by omega), num_step _ _ (by omega) (by omega), num_step _ _ (by omega) (by omega)]
  omega
theorem hexL_star (x : Nat) : hexL x ≠ [42] := by unfold hexL; intro h; injection h with _ h; cases h
theorem wordR_text (m b : Nat) (hm : m < 65536) (hb : b < 65536) (h0 : m = 0 → b = 0) : wordR (wordT m b) = ((m : Int), (b : Int)) := by
  unfold wordT
  split
  next h => rw [h, h0 h]; rfl
  next h =>
    split
    next h2 =>
      unfold wordR
      rw [if_neg (hexL_star b), cut_none (hexL_not b).2, if_neg (by simp), numI_hex b hb, h2]; rfl
    next h2 =>
      have hne : ¬ hexL b ++ 47 :: hexL m = [42] := by unfold hexL; intro h; injection h with _ h; cases h
      unfold wordR
      rw [if_neg hne, cut_at (hexL_not b).2, if_pos rfl, numI_hex b hb, numI_hex m hm]

/-- The rest of a text from its last j words on. -/
def tl (p : Pat) : Nat → List UInt8
  | 0 => []
  | j + 1 => wordT (word p.m (9 - j)) (word p.b (9 - j)) ++ (if j = 0 then [] else 32 :: tl p j)
theorem text_tl (p : Pat) : textTo p 10 = tl p 10 := by
  simp only [textTo, tl, List.append_assoc, List.nil_append, List.cons_append, if_true, if_false, Nat.reduceSub, Nat.reduceAdd, Nat.reduceEqDiff, List.append_nil, reduceIte]
theorem wordT_pos (m b : Nat) : 1 ≤ (wordT m b).length := by
  unfold wordT
  split
  · exact Nat.le_refl _
  · split
    · rw [hexL_length]; omega
    · rw [List.length_append, hexL_length]; omega
theorem textTo_long (p : Pat) : ∀ k, k ≤ (textTo p k).length
  | 0 => Nat.zero_le _
  | k + 1 => by
    have h := textTo_long p k
    have h2 := wordT_pos (word p.m k) (word p.b k)
    unfold textTo
    rw [List.length_append, List.length_append]
    omega
theorem ok_words {p : Pat} (h : p.ok) (k : Nat) (hk : k < 10) : word p.m k = 0 → word p.b k = 0 := by
  intro h0
  rw [word_zero] at h0 ⊢
  intro i hi
  have h1 := h0 i hi
  cases hb : p.b i with
  | false => rfl
  | true => exact absurd (h i (by omega) hb) (by rw [h1]; decide)
theorem words_split (p : Pat) : Lib.splitK [32] 0 10 (tl p 10) = (List.range 10).map fun k => wordT (word p.m k) (word p.b k) := by
  have hn := fun k => wordT_not (word p.m k) (word p.b k)
  simp only [tl, if_true, if_false, Nat.reduceSub, Nat.reduceAdd, Nat.reduceEqDiff, List.append_nil, reduceIte]
  rw [split_at (hn 0) 9, split_at (hn 1) 8, split_at (hn 2) 7, split_at (hn 3) 6, split_at (hn 4) 5, split_at (hn 5) 4, split_at (hn 6) 3, split_at (hn 7) 2, split_at (hn 8) 1, split_none (hn 9) 0]
  rfl
/-- What the program reads of a text: the pattern. -/
theorem read_text {p : Pat} (h : p.ok) {s : ByteArray} (hs : textTo p 10 = s.data.toList) : (wordsOf s).length = 10 ∧ maskI s = HI p.m ∧ bitsI s = HI p.b := by
  have hsz : s.data.toList.length = s.size := by rw [Array.length_toList]; rfl
  have hl : 10 ≤ s.size := by rw [← hsz, ← hs]; exact textTo_long p 10
  have hw : (wordsOf s).map (·.data.toList) = (List.range 10).map fun k => wordT (word p.m k) (word p.b k) := by
    unfold wordsOf
    have e : min 11 (s.size + 1) - 1 = 10 := by omega
    rw [e, Lib.splitB_data, ← hs, text_tl]
    exact words_split p
  have hr : ∀ k, k < 10 → wordR (wordT (word p.m k) (word p.b k)) = ((word p.m k : Int), (word p.b k : Int)) := fun k hk => wordR_text _ _ (word_lt ..) (word_lt ..) (ok_words h k hk)
  refine ⟨?_, ?_, ?_⟩
  · have := congrArg List.length hw
    rw [List.length_map, List.length_map, List.length_range] at this
    exact this
  · have e : maskI s = ((wordsOf s).map (·.data.toList)).map fun l => (wordR l).1 := by rw [List.map_map]; rfl
    rw [e, hw, List.map_map]
    unfold HI HN
    rw [List.map_map]
    exact List.map_congr_left fun k hk => by
      show (wordR (wordT (word p.m k) (word p.b k))).1 = ((word p.m k : Nat) : Int)
      rw [hr k (List.mem_range.1 hk)]
  · have e : bitsI s = ((wordsOf s).map (·.data.toList)).map fun l => (wordR l).2 := by rw [List.map_map]; rfl
    rw [e, hw, List.map_map]
    unfold HI HN
    rw [List.map_map]
    exact List.map_congr_left fun k hk => by
      show (wordR (wordT (word p.m k) (word p.b k))).2 = ((word p.b k : Nat) : Int)
      rw [hr k (List.mem_range.1 hk)]
/-- What a reader of texts answers: the right pattern with this text, or the error if there is none. -/
def ParsedT (s : ByteArray) (e : Ending) : Prop :=
  (∃ p : Pat, p.ok ∧ textTo p 10 = s.data.toList ∧ e = .returned (.tuple #[.agg p.cells.toArray, .int .i64 0])) ∨
    (e = .returned (.tuple #[.agg (H no ++ H no).toArray, .int .i64 3]) ∧ ∀ p : Pat, p.ok → textTo p 10 ≠ s.data.toList)
theorem ParseR.text {s : ByteArray} {e : Ending} (h : ParseR s e) : ParsedT s e := by
  rcases h with ⟨p, h1, _, _, _, h5, h6⟩ | ⟨h1, h2⟩
  · exact .inl ⟨p, h1, h5, h6⟩
  · refine .inr ⟨h1, fun p hp ht => ?_⟩
    obtain ⟨e1, e2, e3⟩ := read_text hp ht
    exact h2 p hp e1 e2.symm e3.symm ht
theorem text_inj {p q : Pat} (hp : p.ok) (hq : q.ok) (h : textTo p 10 = textTo q 10) : p.cells = q.cells := by
  have e1 := read_text hp (s := ⟨(textTo q 10).toArray⟩) (by rw [h])
  have e2 := read_text hq (s := ⟨(textTo q 10).toArray⟩) rfl
  unfold Pat.cells
  rw [H_iV, H_iV, H_iV, H_iV, ← e1.2.1, ← e1.2.2, e2.2.1, e2.2.2]
theorem ParsedT.det {s : ByteArray} {e f : Ending} (h : ParsedT s e) (g : ParsedT s f) : e = f := by
  rcases h with ⟨p, h1, h2, h3⟩ | ⟨h1, h2⟩
  · rcases g with ⟨q, g1, g2, g3⟩ | ⟨g1, g2⟩
    · rw [h3, g3, text_inj h1 g1 (h2.trans g2.symm)]
    · exact absurd h2 (g2 p h1)
  · rcases g with ⟨q, g1, g2, g3⟩ | ⟨g1, g2⟩
    · exact absurd g2 (h2 q g1)
    · rw [h1, g1]
end Go.Proofs.YtkkgfdfjgfigcaaDoor

/-
  What the reference reads of a text is the pattern that was written. Conditions: a right pattern.
-/
namespace Go.Proofs.YtkkgfdfjgfigcaaDoor
set_option linter.unusedVariables false
set_option linter.unusedSimpArgs false
open Go.RowKit Go.Shelf

/-- The number of k digits at the beginning of a list; -1: there are none. -/
def numG : Nat → Int → List UInt8 → Int
  | 0, n, _ => n
  | _ + 1, _, [] => -1
  | k + 1, n, c :: l => if digI c < 0 then -1 else numG k (16 * n + digI c) l
def numR (l : List UInt8) : Int := numG 4 0 l
theorem digI_lt (c : UInt8) : -1 ≤ digI c ∧ digI c ≤ 15 := by
  unfold digI
  split
  · omega
  · split
    · omega
    · omega
theorem numG_lt : ∀ (k : Nat) (n : Int) (l : List UInt8), 0 ≤ n → -1 ≤ numG k n l ∧ numG k n l < (n + 1) * 16 ^ k
  | 0, n, _, h => by unfold numG; omega
  | k + 1, n, [], h => by
    unfold numG
    have : (0 : Int) < 16 ^ (k + 1) := Int.pow_pos (by decide)
    have := Int.mul_pos (by omega : 0 < n + 1) this
    omega
  | k + 1, n, c :: l, h => by
    unfold numG
    split
    · have : (0 : Int) < 16 ^ (k + 1) := Int.pow_pos (by decide)
      have := Int.mul_pos (by omega : 0 < n + 1) this
      omega
    · have hd := digI_lt c
      have h1 := numG_lt k (16 * n + digI c) l (by omega)
      refine ⟨h1.1, Int.lt_of_lt_of_le h1.2 ?_⟩
      have h2 : (16 * n + digI c + 1) * 16 ^ k ≤ ((n + 1) * 16) * 16 ^ k := Int.mul_le_mul_of_nonneg_right (by omega) (Int.le_of_lt (Int.pow_pos (by decide)))
      have h3 : (n + 1) * 16 ^ (k + 1) = ((n + 1) * 16) * 16 ^ k := by rw [Int.pow_succ, Int.mul_comm (16 ^ k) 16, Int.mul_assoc]
      omega
theorem numR_lt (l : List UInt8) : -1 ≤ numR l ∧ numR l < 65536 := numG_lt 4 0 l (by decide)
theorem numR_hex (x : Nat) (h : x < 65536) (r : List UInt8) : numR (hexL x ++ r) = (x : Int) := by
  unfold numR hexL
  simp only [List.cons_append, List.nil_append, numG]
  rw [digs_digI _ (by omega), digs_digI _ (by omega), digs_digI _ (by omega), digs_digI _ (by omega)]
  rw [if_neg (by omega), if_neg (by omega), if_neg (by omega), if_neg (by omega)]
  omega
theorem numR_star (r : List UInt8) : numR (42 :: r) = -1 := rfl
/-- What the reference reads of one word: mask, bits, and how far it goes on. -/
def wM (l : List UInt8) : Int := if 0 ≤ numR l then (if (l.drop 4).head? = some 47 then max 0 (numR (l.drop 5)) else 65535) else 0
def wB (l : List UInt8) : Int := if 0 ≤ numR l then numR l else 0
def adv (l : List UInt8) : Nat := (if 0 ≤ numR l then (if (l.drop 4).head? = some 47 then 9 else 4) else 1) + 1
def posR (L : List UInt8) : Nat → Nat
  | 0 => 0
  | k + 1 => posR L k + adv (L.drop (posR L k))
theorem adv_le (l : List UInt8) : adv l ≤ 10 := by
  unfold adv
  split
  · split <;> omega
  · omega
theorem posR_le (L : List UInt8) : ∀ k, posR L k ≤ 10 * k
  | 0 => Nat.le_refl _
  | k + 1 => by
    have := posR_le L k
    have := adv_le (L.drop (posR L k))
    unfold posR; omega
def MR (L : List UInt8) : List Int := (List.range 10).map fun k => wM (L.drop (posR L k))
def BR (L : List UInt8) : List Int := (List.range 10).map fun k => wB (L.drop (posR L k))
theorem word_read (m b : Nat) (r : List UInt8) (hm : m < 65536) (hb : b < 65536) (h0 : m = 0 → b = 0) (hr : r.head? ≠ some 47) :
    wM (wordT m b ++ r) = (m : Int) ∧ wB (wordT m b ++ r) = (b : Int) ∧ adv (wordT m b ++ r) = (wordT m b).length + 1 := by
  unfold wordT
  split
  next h =>
    have e : numR ([42] ++ r) = -1 := numR_star r
    unfold wM wB adv
    rw [e, if_neg (by decide), if_neg (by decide), if_neg (by decide), h, h0 h]
    exact ⟨rfl, rfl, rfl⟩
  next h =>
    split
    next h2 =>
      have e := numR_hex b hb r
      have e4 : (hexL b ++ r).drop 4 = r := rfl
      unfold wM wB adv
      rw [e, e4, if_pos (by omega), if_neg hr, if_pos (by omega), if_pos (by omega), if_neg hr, h2]
      exact ⟨rfl, rfl, rfl⟩
    next h2 =>
      rw [List.append_assoc]
      have e := numR_hex b hb (47 :: hexL m ++ r)
      have e4 : (hexL b ++ (47 :: hexL m ++ r)).drop 4 = 47 :: (hexL m ++ r) := rfl
      have e5 : (hexL b ++ (47 :: hexL m ++ r)).drop 5 = hexL m ++ r := rfl
      have h47 : (47 :: (hexL m ++ r)).head? = some 47 := rfl
      unfold wM wB adv
      rw [e, e4, e5, if_pos (by omega), if_pos h47, if_pos (by omega), if_pos (by omega), if_pos h47, numR_hex m hm r]
      exact ⟨by omega, rfl, rfl⟩
theorem tl_head (p : Pat) (j : Nat) : (if j = 0 then ([] : List UInt8) else 32 :: tl p j).head? ≠ some 47 := by
  split
  · exact fun h => by cases h
  · exact fun h => by injection h with h; exact absurd h (by decide)
theorem tl_read {p : Pat} (h : p.ok) (j : Nat) (hj : j < 10) : wM (tl p (j + 1)) = (word p.m (9 - j) : Int) ∧ wB (tl p (j + 1)) = (word p.b (9 - j) : Int) ∧ (j ≠ 0 → (tl p (j + 1)).drop (adv (tl p (j + 1))) = tl p j) := by
  have h1 := word_read (word p.m (9 - j)) (word p.b (9 - j)) (if j = 0 then [] else 32 :: tl p j) (word_lt ..) (word_lt ..) (ok_words h (9 - j) (by omega)) (tl_head p j)
  refine ⟨h1.1, h1.2.1, fun h0 => ?_⟩
  have h2 := h1.2.2
  rw [if_neg h0] at h2
  show (wordT (word p.m (9 - j)) (word p.b (9 - j)) ++ (if j = 0 then [] else 32 :: tl p j)).drop (adv (wordT (word p.m (9 - j)) (word p.b (9 - j)) ++ (if j = 0 then [] else 32 :: tl p j))) = _
  rw [if_neg h0, h2, ← List.drop_drop, List.drop_left]; rfl
theorem pos_tl {p : Pat} (h : p.ok) : ∀ k, k < 10 → (tl p 10).drop (posR (tl p 10) k) = tl p (10 - k)
  | 0, _ => rfl
  | k + 1, hk => by
    have ih := pos_tl h k (by omega)
    have h1 := (tl_read h (9 - k) (by omega)).2.2 (by omega)
    have e : 9 - k + 1 = 10 - k := by omega
    rw [e] at h1
    show (tl p 10).drop (posR (tl p 10) k + adv ((tl p 10).drop (posR (tl p 10) k))) = _
    rw [← List.drop_drop, ih, h1]
    congr 1; omega
theorem rread_text {p : Pat} (h : p.ok) {L : List UInt8} (hs : textTo p 10 = L) : MR L = HI p.m ∧ BR L = HI p.b := by
  rw [← hs, text_tl]
  have key : ∀ k, k < 10 → wM ((tl p 10).drop (posR (tl p 10) k)) = (word p.m k : Int) ∧ wB ((tl p 10).drop (posR (tl p 10) k)) = (word p.b k : Int) := fun k hk => by
    have h1 := tl_read h (9 - k) (by omega)
    have e : 9 - k + 1 = 10 - k := by omega
    have e2 : 9 - (9 - k) = k := by omega
    rw [pos_tl h k hk]
    rw [e, e2] at h1
    exact ⟨h1.1, h1.2.1⟩
  unfold MR BR HI HN
  rw [List.map_map, List.map_map]
  exact ⟨List.map_congr_left fun k hk => (key k (List.mem_range.1 hk)).1, List.map_congr_left fun k hk => (key k (List.mem_range.1 hk)).2⟩
/-- The reference's answer, given what it reads. -/
theorem ParsedT.refNo {s : ByteArray} (h : pairI (MR s.data.toList) (BR s.data.toList) = false) : ParsedT s (.returned (.tuple #[.agg (H no ++ H no).toArray, .int .i64 3])) :=
  .inr ⟨rfl, fun p hp ht => by
    obtain ⟨e1, e2⟩ := rread_text hp ht
    rw [e1, e2, pat_right hp] at h
    cases h⟩
theorem ParsedT.refOther {s : ByteArray} {q : Pat} (h1 : HI q.m = MR s.data.toList) (h2 : HI q.b = BR s.data.toList) (h : textTo q 10 ≠ s.data.toList) : ParsedT s (.returned (.tuple #[.agg (H no ++ H no).toArray, .int .i64 3])) :=
  .inr ⟨rfl, fun p hp ht => by
    obtain ⟨e1, e2⟩ := rread_text hp ht
    exact h (by rw [← ht]; exact textTo_same (HI_inj (by rw [h1, e1])) (HI_inj (by rw [h2, e2])))⟩
end Go.Proofs.YtkkgfdfjgfigcaaDoor

/-
  Contract of the walk over the reference's number. Conditions: at most a million bytes, a place that is not beyond a thousand.
-/
namespace Go.Proofs.YtkkgfdfjgfigcaaDoor
set_option linter.unusedVariables false
set_option linter.unusedSimpArgs false
open Go.RowKit Go.Shelf

def RNumRel (L : List UInt8) (at_ : Nat) (n i : Value) : Prop := ∃ (k m : Nat), k ≤ 4 ∧ m < 16 ^ k ∧ i = .int .i64 ((at_ + k : Nat) : Int) ∧ n = .int .i64 (m : Int) ∧ numG (4 - k) m (L.drop (at_ + k)) = numR (L.drop at_)
theorem pow16 {k m : Nat} (hk : k < 4) (hm : m < 16 ^ k) : m < 4096 ∧ ∀ d, d < 16 → 16 * m + d < 16 ^ (k + 1) := by
  match k, hk with
  | 0, _ => exact ⟨by omega, fun d hd => by omega⟩
  | 1, _ => exact ⟨by omega, fun d hd => by omega⟩
  | 2, _ => exact ⟨by omega, fun d hd => by omega⟩
  | 3, _ => exact ⟨by omega, fun d hd => by omega⟩
theorem drop_byte (s : ByteArray) (i : Nat) (h : i < s.size) : s.data.toList.drop i = s[i] :: s.data.toList.drop (i + 1) := by
  have hl : i < s.data.toList.length := by rw [bytes_size s]; exact h
  rw [List.drop_eq_getElem_cons hl]; rfl
theorem rnum_go (s : ByteArray) (at_ k m : Nat) (hk : k < 4) : numG (4 - k) (m : Int) (s.data.toList.drop (at_ + k)) = (if h : at_ + k < s.size then (if digI s[at_ + k] < 0 then -1 else numG (4 - (k + 1)) (16 * (m : Int) + digI s[at_ + k]) (s.data.toList.drop (at_ + (k + 1)))) else -1) := by
  have e : 4 - k = (4 - (k + 1)) + 1 := by omega
  rw [e]
  by_cases h : at_ + k < s.size
  · rw [dif_pos h, drop_byte s _ h]; rfl
  · rw [dif_neg h, List.drop_eq_nil_of_le (by rw [bytes_size s]; omega)]; rfl
set_option maxRecDepth 100000 in
set_option maxHeartbeats 1600000 in
theorem rnum_any (s : ByteArray) (at_ : Nat) (w : World) (hs : s.size ≤ 1000000) (hat : at_ ≤ 1000) :
    Calls Tryd.prog 92 #[.string s, .int .i64 (at_ : Int)] w fun e w' => e = .returned (.int .i64 (numR (s.data.toList.drop at_))) ∧ w = w' := by
  obtain ⟨R, hR⟩ : ∃ R, Hid (numR (s.data.toList.drop at_) = R) := ⟨_, rfl⟩
  have hRI : RNumRel s.data.toList at_ (.int .i64 0) (.int .i64 (at_ : Int)) := ⟨0, 0, by omega, by decide, rfl, rfl, rfl⟩
  rw [hR.out]
  have hw4 : IntKind.i64.wrap ((at_ : Int) + 4) = (at_ : Int) + 4 := by simp only [IntKind.wrap_i64]; omega
  go_enter Tryd.func92, Tryd.ntmps92
  go_wp2
  go_loop [5, 6] (RNumRel s.data.toList at_) (fun _ i => at_ + 4 - (intOf i).toNat)
  case atStart => exact hRI
  case round =>
    obtain ⟨k, m, hk, hm, rfl, rfl, hn⟩ := hrel
    rw [hR.out] at hn
    by_cases hlt : k < 4
    · obtain ⟨hm1, hm2⟩ := pow16 hlt hm
      rw [rnum_go s at_ k m hlt] at hn
      have hi : ((at_ + k : Nat) : Int) < (at_ : Int) + 4 := by omega
      by_cases hin : at_ + k < s.size
      · rw [dif_pos hin] at hn
        have hii : ((at_ + k : Nat) : Int) < (s.size : Int) := by omega
        have hll := digI_lt s[at_ + k]
        have HDG := Lib.hid (fun w => rdigit_any s[at_ + k] w)
        obtain ⟨d, hd⟩ : ∃ d, Hid (digI s[at_ + k] = d) := ⟨_, Lib.hid rfl⟩
        rw [hd.out] at HDG hn hll
        have HN := Lib.hid hn
        have HM := Lib.hid hm2
        obtain ⟨j, hj⟩ : ∃ j : Nat, Hid (at_ + k = j) := ⟨_, Lib.hid rfl⟩
        clear hn hm2 hd
        by_cases hneg : d < 0
        · have hdb : decide (d < 0) = true := decide_eq_true hneg
          go_wp2_with fail
          (with_reducible refine (HDG.out _).mono ?_)
          rintro e w1 ⟨rfl, rfl⟩
          go_wp2
          go_ret
          exact ⟨by have := HN.out; rw [if_pos hneg] at this; rw [← this]; rfl, rfl⟩
        · have hdb : decide (d < 0) = false := decide_eq_false hneg
          obtain ⟨e0, he0⟩ : ∃ e0 : Nat, d = (e0 : Int) := ⟨d.toNat, by omega⟩
          have HF : Hid (numG (4 - (k + 1)) ((16 * m + e0 : Nat) : Int) (s.data.toList.drop (at_ + (k + 1))) = R) := by
            have : numG (4 - (k + 1)) ((16 * m + e0 : Nat) : Int) (s.data.toList.drop (at_ + (k + 1))) = R := by
              have h := HN.out
              rw [if_neg hneg] at h
              have e : ((16 * m + e0 : Nat) : Int) = 16 * (m : Int) + d := by omega
              rw [e]; exact h
            exact this
          have hv1 : IntKind.i64.wrap (16 * (m : Int)) = 16 * (m : Int) := by simp only [IntKind.wrap_i64]; omega
          have hv2 : IntKind.i64.wrap (16 * (m : Int) + d) = ((16 * m + e0 : Nat) : Int) := by simp only [IntKind.wrap_i64]; omega
          have hv3 : IntKind.i64.wrap (((at_ + k : Nat) : Int) + 1) = ((at_ + (k + 1) : Nat) : Int) := by simp only [IntKind.wrap_i64]; omega
          go_wp2_with fail
          (with_reducible refine (HDG.out _).mono ?_)
          rintro e w1 ⟨rfl, rfl⟩
          go_wp2_with fail
          (with_reducible refine (HDG.out _).mono ?_)
          rintro e w1 ⟨rfl, rfl⟩
          go_wp2
          go_round
          case rel => exact ⟨k + 1, 16 * m + e0, by omega, HM.out e0 (by omega), by go_num, rfl, by rw [hR.out]; exact HF.out⟩
          case measure => simp [intOf]; omega
      · rw [dif_neg hin] at hn
        have hii : ¬ ((at_ + k : Nat) : Int) < (s.size : Int) := by omega
        go_wp2
        go_ret
        exact ⟨by rw [← hn]; rfl, rfl⟩
    · obtain rfl : k = 4 := by omega
      have hi : ¬ ((at_ + 4 : Nat) : Int) < (at_ : Int) + 4 := by omega
      have e4 : (m : Int) = R := hn
      go_wp2
      go_ret
      exact ⟨by rw [← e4]; rfl, rfl⟩
end Go.Proofs.YtkkgfdfjgfigcaaDoor

/-
  Contract of the walk over the reference's Text. Conditions: none.
-/
namespace Go.Proofs.YtkkgfdfjgfigcaaDoor
set_option linter.unusedVariables false
set_option linter.unusedSimpArgs false
open Go.RowKit Go.Shelf

def RTxRel (p : Pat) (gp : Nat) (w : World) (o i : Value) (wr : World) : Prop :=
  ∃ (k : Nat) (S : ByteArray), k ≤ 10 ∧ i = .int .i64 (k : Int) ∧ o = .string S ∧ S.data.toList = textTo p k ∧ Blk wr gp 25 p.cells ∧ Below w.heap.size w wr
set_option maxRecDepth 100000 in
set_option maxHeartbeats 3200000 in
theorem rtext_any (p : Pat) (w : World) :
    Calls Tryd.prog 19 #[.agg p.cells.toArray] w fun e w' => e = .returned (.string ⟨(textTo p 10).toArray⟩) ∧ Below w.heap.size w w' := by
  go_enter Tryd.func19, Tryd.ntmps19
  go_wp2_with (with_reducible refine wpList_box (o := ⟨some 1, .box 25 (.tmp 0), _, _, _, _⟩) ?g1 25 (.tmp 0) ?o1 (.agg p.cells.toArray) p.cells ?x1 ?c1 ?_)
  try (case g1 => rfl)
  try (case o1 => rfl)
  try (case x1 => rfl)
  try (case c1 => rfl)
  intro gp w1 hgp hs1 hb1 hP1
  have hbe1 : Below w.heap.size w w1 := hb1.mono (Nat.le_of_eq hgp.out.symm)
  clear hb1 hs1 hgp
  go_wp2
  go_loopw [3, 4] (RTxRel p gp w) (fun _ i _ => 10 - (intOf i).toNat)
  case atStart => exact ⟨0, _, by omega, rfl, rfl, rfl, hP1, hbe1⟩
  case round =>
    clear hP1 hbe1
    obtain ⟨k, S, hk, rfl, rfl, hS, hP, hbe⟩ := hrel
    by_cases hlt : k < 10
    · have hki : (k : Int) < 10 := by omega
      obtain ⟨m, hm⟩ : ∃ m, Hid (word p.m k = m) := ⟨_, rfl⟩
      obtain ⟨b, hb⟩ : ∃ b, Hid (word p.b k = b) := ⟨_, rfl⟩
      have hml : m < 65536 := by rw [← hm.out]; exact word_lt ..
      have hbl : b < 65536 := by rw [← hb.out]; exact word_lt ..
      have cm : wr.cell? ⟨gp, k, none⟩ = some (.int .i64 (m : Int)) := hP.cell (by rw [cells_m p hlt, hm.out])
      have cb : wr.cell? ⟨gp, 10 + k, none⟩ = some (.int .i64 (b : Int)) := hP.cell (by rw [cells_b p hlt, hb.out])
      by_cases hk0 : k = 0
      · have hk0i : decide (0 < k) = false := decide_eq_false (by omega)
        have HS0 : Hid (S.data.toList = textTo p k ++ (if k = 0 then [] else [32])) := by
          have : S.data.toList = textTo p k ++ (if k = 0 then [] else [32]) := by rw [if_pos hk0, List.append_nil]; exact hS
          exact this
        obtain ⟨S0, hS0⟩ : ∃ X, S = X := ⟨_, rfl⟩
        rw [hS0] at HS0 ⊢
        clear hS hS0 hk0
        have h10 : Hid ((S0).data.toList = textTo p k ++ (if k = 0 then [] else [32])) := HS0
        have hz1 : (S0.size : Int) ≤ 8388608 := by
          have h := congrArg List.length h10.out
          rw [List.length_append, bytes_size] at h
          have h2 := textTo_length p k
          have h3 : (if k = 0 then ([] : List UInt8) else [32]).length ≤ 1 := by split <;> simp
          omega
        have hz0 : S0.size ≤ 200 := by
          have h := congrArg List.length h10.out
          rw [List.length_append, bytes_size] at h
          have h2 := textTo_length p k
          have h3 : (if k = 0 then ([] : List UInt8) else [32]).length ≤ 1 := by split <;> simp
          omega
        by_cases hm0 : m = 0
        · have hmv : (m : Int) = 0 := by omega
          obtain ⟨T, hTe⟩ : ∃ T, S0 ++ ({ data := #[42] } : ByteArray) = T := ⟨_, rfl⟩
          have hT : Hid (T.data.toList = textTo p (k + 1)) := by
            have : T.data.toList = textTo p (k + 1) := by
              rw [← hTe, ByteArray.data_append, Array.toList_append, h10.out]
              show _ = (textTo p k ++ _) ++ wordT (word p.m k) (word p.b k)
              rw [hm.out, hm0]; rfl
            exact this
          rw [hmv] at cm
          clear hm0 hmv
          go_wp2
          go_roundw
          case rel => exact ⟨k + 1, T, by omega, by go_num, rfl, hT.out, hP, hbe⟩
          case measure => simp [intOf]; omega
        · have hm0i : (m == 0) = false := by rw [beq_eq_false_iff_ne]; exact hm0
          have hm0j : ((m : Int) == 0) = false := by rw [beq_eq_false_iff_ne]; omega
          obtain ⟨HXB, hxb⟩ : ∃ X, (⟨(hexL b).toArray⟩ : ByteArray) = X := ⟨_, rfl⟩
          have hxs : HXB.size = 4 := by rw [← hxb]; rfl
          have hxz : (HXB.size : Int) ≤ 8388608 := by omega
          have hxl : HXB.data.toList = hexL b := by rw [← hxb]
          have HDB := Lib.hid (fun w => rdigits_any b w hbl)
          rw [hxb] at HDB
          obtain ⟨S2, hS2⟩ : ∃ T, S0 ++ HXB = T := ⟨_, rfl⟩
          have hs2 : S2.size ≤ 210 := by rw [← hS2, ByteArray.size_append]; omega
          have hz2 : (S2.size : Int) ≤ 8388608 := by omega
          have hl2 : S2.data.toList = (textTo p k ++ (if k = 0 then [] else [32])) ++ hexL b := by rw [← hS2, ByteArray.data_append, Array.toList_append, h10.out, hxl]
          clear hxb hxl
          by_cases hmf : m = 65535
          · have hmv : (m : Int) = 65535 := by omega
            have hT : Hid (S2.data.toList = textTo p (k + 1)) := by
              have : S2.data.toList = textTo p (k + 1) := by
                rw [hl2]
                show _ = (textTo p k ++ _) ++ wordT (word p.m k) (word p.b k)
                rw [hm.out, hb.out]; unfold wordT; rw [if_neg hm0, if_pos hmf]
              exact this
            rw [hmv] at cm
            clear hm0 hmv hm0i hm0j hmf hl2 hxs hs2
            go_wp2_with fail
            (with_reducible refine (HDB.out _).mono ?_)
            rintro e w5 ⟨rfl, hb5⟩
            have hP5 := hP.next hb5 hP.lt
            have hbe5 := below_join hbe hb5
            go_wp2
            go_roundw
            case rel => exact ⟨k + 1, S2, by omega, by go_num, rfl, hT.out, hP5, hbe5⟩
            case measure => simp [intOf]; omega
          · have hmfi : (m == 65535) = false := by rw [beq_eq_false_iff_ne]; exact hmf
            have hmfj : ((m : Int) == 65535) = false := by rw [beq_eq_false_iff_ne]; omega
            obtain ⟨HXM, hxm⟩ : ∃ X, (⟨(hexL m).toArray⟩ : ByteArray) = X := ⟨_, rfl⟩
            have hxt : HXM.size = 4 := by rw [← hxm]; rfl
            have hxy : (HXM.size : Int) ≤ 8388608 := by omega
            have hxk : HXM.data.toList = hexL m := by rw [← hxm]
            have HDM := Lib.hid (fun w => rdigits_any m w hml)
            rw [hxm] at HDM
            obtain ⟨S3, hS3⟩ : ∃ T, S2 ++ ({ data := #[47] } : ByteArray) = T := ⟨_, rfl⟩
            have hs3 : S3.size ≤ 211 := by rw [← hS3, ByteArray.size_append]; have : ({ data := #[47] } : ByteArray).size = 1 := rfl; omega
            have hz3 : (S3.size : Int) ≤ 8388608 := by omega
            obtain ⟨S4, hS4⟩ : ∃ T, S3 ++ HXM = T := ⟨_, rfl⟩
            have hT : Hid (S4.data.toList = textTo p (k + 1)) := by
              have : S4.data.toList = textTo p (k + 1) := by
                rw [← hS4, ByteArray.data_append, Array.toList_append, ← hS3, ByteArray.data_append, Array.toList_append, hl2, hxk]
                show _ = (textTo p k ++ _) ++ wordT (word p.m k) (word p.b k)
                rw [hm.out, hb.out]; unfold wordT; rw [if_neg hm0, if_neg hmf, List.append_assoc, List.append_assoc]; rfl
              exact this
            have q1 : ¬ (9223372036854775807 < S0.size + HXB.size) := by omega
            have q2 : ¬ (9223372036854775807 < S2.size + 1) := by omega
            have q3 : ¬ (9223372036854775807 < S3.size + HXM.size) := by omega
            have hcell : ∀ w', Below wr.heap.size wr w' → w'.cell? ⟨gp, k, none⟩ = some (.int .i64 (m : Int)) ∧ w'.cell? ⟨gp, 10 + k, none⟩ = some (.int .i64 (b : Int)) := fun w' hw => ⟨(hP.next hw hP.lt).cell (by rw [cells_m p hlt, hm.out]), (hP.next hw hP.lt).cell (by rw [cells_b p hlt, hb.out])⟩
            have HCL := Lib.hid hcell
            clear hcell hxm hxk hl2 hm0 hmf hxs hxt hs2 hs3
            have hdd := below_drew wr
            go_wp2
            refine wp_region_held_drew (S := fun w' => w'.cell? ⟨gp, k, none⟩ = some (.int .i64 (m : Int)) ∧ w'.cell? ⟨gp, 10 + k, none⟩ = some (.int .i64 (b : Int))) (by kernel_rfl) (HCL.out _ hdd) (fun hHeld => ?_)
            generalize wr.drew = wd at hdd hHeld ⊢
            refine wpAnyH_take (i := 0) (v := ?vv00) rfl (by kernel_rfl) (by kernel_rfl) (by kernel_rfl) (fun _ _ _ h => h) (Or.inl ⟨by rfl, ?yv00⟩) (by assumption) ?rv00
            case yv00 => intro w hSw; (try dsimp only at hSw); go_simp <;> (try with_reducible rfl)
            (try simp only [List.getElem_toArray, List.getElem_cons_zero, Act.put, List.setIfInBounds_toArray, List.set_cons_zero, List.set_cons_succ])
            refine wpAnyH_take (i := 1) (v := ?vv01) rfl (by kernel_rfl) (by kernel_rfl) (by kernel_rfl) (fun _ _ _ h => h) (Or.inl ⟨by rfl, ?yv01⟩) (by assumption) ?rv01
            case yv01 => intro w hSw; (try dsimp only at hSw); go_simp <;> (try with_reducible rfl)
            (try simp only [List.getElem_toArray, List.getElem_cons_succ, List.getElem_cons_zero, Act.put, List.setIfInBounds_toArray, List.set_cons_zero, List.set_cons_succ])
            refine wpAnyH_take (i := 2) (v := ?vv02) rfl (by kernel_rfl) (by kernel_rfl) (by kernel_rfl) (fun _ _ _ h => h) (Or.inl ⟨by rfl, ?yv02⟩) (by assumption) ?rv02
            case yv02 => intro w hSw; (try dsimp only at hSw); go_simp <;> (try with_reducible rfl)
            (try simp only [List.getElem_toArray, List.getElem_cons_succ, List.getElem_cons_zero, Act.put, List.setIfInBounds_toArray, List.set_cons_zero, List.set_cons_succ])
            refine wpAnyH_take (i := 3) (v := ?vv03) rfl (by kernel_rfl) (by kernel_rfl) (by kernel_rfl) (fun _ _ _ h => h) (Or.inl ⟨by rfl, ?yv03⟩) (by assumption) ?rv03
            case yv03 => intro w hSw; (try dsimp only at hSw); go_simp <;> (try with_reducible rfl)
            (try simp only [List.getElem_toArray, List.getElem_cons_succ, List.getElem_cons_zero, Act.put, List.setIfInBounds_toArray, List.set_cons_zero, List.set_cons_succ])
            refine wpAnyH_take (i := 4) (v := ?vv04) rfl (by kernel_rfl) (by kernel_rfl) (by kernel_rfl) (fun _ _ _ h => h) (Or.inl ⟨by rfl, ?yv04⟩) (by assumption) ?rv04
            case yv04 => intro w hSw; (try dsimp only at hSw); go_simp <;> (try with_reducible rfl)
            (try simp only [List.getElem_toArray, List.getElem_cons_succ, List.getElem_cons_zero, Act.put, List.setIfInBounds_toArray, List.set_cons_zero, List.set_cons_succ])
            refine wpAnyH_take (i := 8) (v := ?vv08) rfl (by kernel_rfl) (by kernel_rfl) (by kernel_rfl) (fun _ _ _ h => h) (Or.inl ⟨by rfl, ?yv08⟩) (by assumption) ?rv08
            case yv08 => intro w hSw; (try dsimp only at hSw); go_simp <;> (try with_reducible rfl)
            (try simp only [List.getElem_toArray, List.getElem_cons_succ, List.getElem_cons_zero, Act.put, List.setIfInBounds_toArray, List.set_cons_zero, List.set_cons_succ])
            refine wpAnyH_take (i := 9) (v := ?vv09) rfl (by kernel_rfl) (by kernel_rfl) (by kernel_rfl) (fun _ _ _ h => h) (Or.inl ⟨by rfl, ?yv09⟩) (by assumption) ?rv09
            case yv09 => intro w hSw; (try dsimp only at hSw); go_simp <;> (try with_reducible rfl)
            (try simp only [List.getElem_toArray, List.getElem_cons_succ, List.getElem_cons_zero, Act.put, List.setIfInBounds_toArray, List.set_cons_zero, List.set_cons_succ])
            refine wpAnyH_take (i := 10) (v := ?vv010) rfl (by kernel_rfl) (by kernel_rfl) (by kernel_rfl) (fun _ _ _ h => h) (Or.inl ⟨by rfl, ?yv010⟩) (by assumption) ?rv010
            case yv010 => intro w hSw; (try dsimp only at hSw); go_simp <;> (try with_reducible rfl)
            (try simp only [List.getElem_toArray, List.getElem_cons_succ, List.getElem_cons_zero, Act.put, List.setIfInBounds_toArray, List.set_cons_zero, List.set_cons_succ])
            refine wpAnyH_take (i := 11) (v := ?vv011) rfl (by kernel_rfl) (by kernel_rfl) (by kernel_rfl) (fun _ _ _ h => h) (Or.inl ⟨by rfl, ?yv011⟩) (by assumption) ?rv011
            case yv011 => intro w hSw; (try dsimp only at hSw); go_simp <;> (try with_reducible rfl)
            (try simp only [List.getElem_toArray, List.getElem_cons_succ, List.getElem_cons_zero, Act.put, List.setIfInBounds_toArray, List.set_cons_zero, List.set_cons_succ])
            refine wpAnyH_ready (rs := [5]) (by kernel_rfl) (by simp) ?_
            refine AllReadyH.cons rfl (fun K hK => ?_) AllReadyH.nil
            go_simp
            go_wp2_with fail
            (with_reducible refine (HDB.out _).mono ?_)
            rintro e w5 ⟨rfl, hb5⟩
            have hdd5 := below_join hdd hb5
            refine hK.out _ _ (HCL.out _ hdd5) (fun hHeld => ?_)
            clear hK K hb5
            refine wpAnyH_take (i := 6) (v := ?vv06) rfl (by kernel_rfl) (by kernel_rfl) (by kernel_rfl) (fun _ _ _ h => h) (Or.inl ⟨by rfl, ?yv06⟩) (by assumption) ?rv06
            case yv06 => intro w hSw; (try dsimp only at hSw); go_simp <;> (try with_reducible rfl)
            (try simp only [List.getElem_toArray, List.getElem_cons_succ, List.getElem_cons_zero, Act.put, List.setIfInBounds_toArray, List.set_cons_zero, List.set_cons_succ])
            refine wpAnyH_take (i := 7) (v := ?vv07) rfl (by kernel_rfl) (by kernel_rfl) (by kernel_rfl) (fun _ _ _ h => h) (Or.inl ⟨by rfl, ?yv07⟩) (by assumption) ?rv07
            case yv07 => intro w hSw; (try dsimp only at hSw); go_simp <;> (try with_reducible rfl)
            (try simp only [List.getElem_toArray, List.getElem_cons_succ, List.getElem_cons_zero, Act.put, List.setIfInBounds_toArray, List.set_cons_zero, List.set_cons_succ])
            refine wpAnyH_ready (rs := [12]) (by kernel_rfl) (by simp) ?_
            refine AllReadyH.cons rfl (fun K hK => ?_) AllReadyH.nil
            go_simp
            go_wp2_with fail
            (with_reducible refine (HDM.out _).mono ?_)
            rintro e w6 ⟨rfl, hb6⟩
            have hdd6 := below_join hdd5 hb6
            refine hK.out _ _ (HCL.out _ hdd6) (fun hHeld => ?_)
            clear hK K hb6
            refine wpAnyH_take (i := 13) (v := ?vv013) rfl (by kernel_rfl) (by kernel_rfl) (by kernel_rfl) (fun _ _ _ h => h) (Or.inl ⟨by rfl, ?yv013⟩) (by assumption) ?rv013
            case yv013 => intro w hSw; (try dsimp only at hSw); go_simp <;> (try with_reducible rfl)
            (try simp only [List.getElem_toArray, List.getElem_cons_succ, List.getElem_cons_zero, Act.put, List.setIfInBounds_toArray, List.set_cons_zero, List.set_cons_succ])
            refine wpAnyH_take (i := 14) (v := ?vv014) rfl (by kernel_rfl) (by kernel_rfl) (by kernel_rfl) (fun _ _ _ h => h) (Or.inl ⟨by rfl, ?yv014⟩) (by assumption) ?rv014
            case yv014 => intro w hSw; (try dsimp only at hSw); go_simp <;> (try with_reducible rfl)
            (try simp only [List.getElem_toArray, List.getElem_cons_succ, List.getElem_cons_zero, Act.put, List.setIfInBounds_toArray, List.set_cons_zero, List.set_cons_succ])
            refine wpAnyH_done (by kernel_rfl) ?_ _
            have hP5 := hP.next hdd6 hP.lt
            have hbe5 := below_join hbe hdd6
            go_wp2
            go_roundw
            case rel => exact ⟨k + 1, S4, by omega, by go_num, rfl, hT.out, hP5, hbe5⟩
            case measure => simp [intOf]; omega
      · have hk0i : decide (0 < k) = true := decide_eq_true (by omega)
        have hzS : (S.size : Int) ≤ 8388608 := by
          have h := congrArg List.length hS
          rw [bytes_size] at h
          have h2 := textTo_length p k
          omega
        obtain ⟨S1, hS1⟩ : ∃ X, S ++ ({ data := #[32] } : ByteArray) = X := ⟨_, rfl⟩
        have HS1 : Hid (S1.data.toList = textTo p k ++ (if k = 0 then [] else [32])) := by
          have : S1.data.toList = textTo p k ++ (if k = 0 then [] else [32]) := by rw [← hS1, if_neg hk0, ByteArray.data_append, Array.toList_append, hS]
          exact this
        clear hS hk0
        have h11 : Hid ((S1).data.toList = textTo p k ++ (if k = 0 then [] else [32])) := HS1
        have hz1 : (S1.size : Int) ≤ 8388608 := by
          have h := congrArg List.length h11.out
          rw [List.length_append, bytes_size] at h
          have h2 := textTo_length p k
          have h3 : (if k = 0 then ([] : List UInt8) else [32]).length ≤ 1 := by split <;> simp
          omega
        have hz0 : S1.size ≤ 200 := by
          have h := congrArg List.length h11.out
          rw [List.length_append, bytes_size] at h
          have h2 := textTo_length p k
          have h3 : (if k = 0 then ([] : List UInt8) else [32]).length ≤ 1 := by split <;> simp
          omega
        by_cases hm0 : m = 0
        · have hmv : (m : Int) = 0 := by omega
          obtain ⟨T, hTe⟩ : ∃ T, S1 ++ ({ data := #[42] } : ByteArray) = T := ⟨_, rfl⟩
          have hT : Hid (T.data.toList = textTo p (k + 1)) := by
            have : T.data.toList = textTo p (k + 1) := by
              rw [← hTe, ByteArray.data_append, Array.toList_append, h11.out]
              show _ = (textTo p k ++ _) ++ wordT (word p.m k) (word p.b k)
              rw [hm.out, hm0]; rfl
            exact this
          rw [hmv] at cm
          clear hm0 hmv
          go_wp2
          go_roundw
          case rel => exact ⟨k + 1, T, by omega, by go_num, rfl, hT.out, hP, hbe⟩
          case measure => simp [intOf]; omega
        · have hm0i : (m == 0) = false := by rw [beq_eq_false_iff_ne]; exact hm0
          have hm0j : ((m : Int) == 0) = false := by rw [beq_eq_false_iff_ne]; omega
          obtain ⟨HXB, hxb⟩ : ∃ X, (⟨(hexL b).toArray⟩ : ByteArray) = X := ⟨_, rfl⟩
          have hxs : HXB.size = 4 := by rw [← hxb]; rfl
          have hxz : (HXB.size : Int) ≤ 8388608 := by omega
          have hxl : HXB.data.toList = hexL b := by rw [← hxb]
          have HDB := Lib.hid (fun w => rdigits_any b w hbl)
          rw [hxb] at HDB
          obtain ⟨S2, hS2⟩ : ∃ T, S1 ++ HXB = T := ⟨_, rfl⟩
          have hs2 : S2.size ≤ 210 := by rw [← hS2, ByteArray.size_append]; omega
          have hz2 : (S2.size : Int) ≤ 8388608 := by omega
          have hl2 : S2.data.toList = (textTo p k ++ (if k = 0 then [] else [32])) ++ hexL b := by rw [← hS2, ByteArray.data_append, Array.toList_append, h11.out, hxl]
          clear hxb hxl
          by_cases hmf : m = 65535
          · have hmv : (m : Int) = 65535 := by omega
            have hT : Hid (S2.data.toList = textTo p (k + 1)) := by
              have : S2.data.toList = textTo p (k + 1) := by
                rw [hl2]
                show _ = (textTo p k ++ _) ++ wordT (word p.m k) (word p.b k)
                rw [hm.out, hb.out]; unfold wordT; rw [if_neg hm0, if_pos hmf]
              exact this
            rw [hmv] at cm
            clear hm0 hmv hm0i hm0j hmf hl2 hxs hs2
            go_wp2_with fail
            (with_reducible refine (HDB.out _).mono ?_)
            rintro e w5 ⟨rfl, hb5⟩
            have hP5 := hP.next hb5 hP.lt
            have hbe5 := below_join hbe hb5
            go_wp2
            go_roundw
            case rel => exact ⟨k + 1, S2, by omega, by go_num, rfl, hT.out, hP5, hbe5⟩
            case measure => simp [intOf]; omega
          · have hmfi : (m == 65535) = false := by rw [beq_eq_false_iff_ne]; exact hmf
            have hmfj : ((m : Int) == 65535) = false := by rw [beq_eq_false_iff_ne]; omega
            obtain ⟨HXM, hxm⟩ : ∃ X, (⟨(hexL m).toArray⟩ : ByteArray) = X := ⟨_, rfl⟩
            have hxt : HXM.size = 4 := by rw [← hxm]; rfl
            have hxy : (HXM.size : Int) ≤ 8388608 := by omega
            have hxk : HXM.data.toList = hexL m := by rw [← hxm]
            have HDM := Lib.hid (fun w => rdigits_any m w hml)
            rw [hxm] at HDM
            obtain ⟨S3, hS3⟩ : ∃ T, S2 ++ ({ data := #[47] } : ByteArray) = T := ⟨_, rfl⟩
            have hs3 : S3.size ≤ 211 := by rw [← hS3, ByteArray.size_append]; have : ({ data := #[47] } : ByteArray).size = 1 := rfl; omega
            have hz3 : (S3.size : Int) ≤ 8388608 := by omega
            obtain ⟨S4, hS4⟩ : ∃ T, S3 ++ HXM = T := ⟨_, rfl⟩
            have hT : Hid (S4.data.toList = textTo p (k + 1)) := by
              have : S4.data.toList = textTo p (k + 1) := by
                rw [← hS4, ByteArray.data_append, Array.toList_append, ← hS3, ByteArray.data_append, Array.toList_append, hl2, hxk]
                show _ = (textTo p k ++ _) ++ wordT (word p.m k) (word p.b k)
                rw [hm.out, hb.out]; unfold wordT; rw [if_neg hm0, if_neg hmf, List.append_assoc, List.append_assoc]; rfl
              exact this
            have q1 : ¬ (9223372036854775807 < S1.size + HXB.size) := by omega
            have q2 : ¬ (9223372036854775807 < S2.size + 1) := by omega
            have q3 : ¬ (9223372036854775807 < S3.size + HXM.size) := by omega
            have hcell : ∀ w', Below wr.heap.size wr w' → w'.cell? ⟨gp, k, none⟩ = some (.int .i64 (m : Int)) ∧ w'.cell? ⟨gp, 10 + k, none⟩ = some (.int .i64 (b : Int)) := fun w' hw => ⟨(hP.next hw hP.lt).cell (by rw [cells_m p hlt, hm.out]), (hP.next hw hP.lt).cell (by rw [cells_b p hlt, hb.out])⟩
            have HCL := Lib.hid hcell
            clear hcell hxm hxk hl2 hm0 hmf hxs hxt hs2 hs3
            have hdd := below_drew wr
            go_wp2
            refine wp_region_held_drew (S := fun w' => w'.cell? ⟨gp, k, none⟩ = some (.int .i64 (m : Int)) ∧ w'.cell? ⟨gp, 10 + k, none⟩ = some (.int .i64 (b : Int))) (by kernel_rfl) (HCL.out _ hdd) (fun hHeld => ?_)
            generalize wr.drew = wd at hdd hHeld ⊢
            refine wpAnyH_take (i := 0) (v := ?vv10) rfl (by kernel_rfl) (by kernel_rfl) (by kernel_rfl) (fun _ _ _ h => h) (Or.inl ⟨by rfl, ?yv10⟩) (by assumption) ?rv10
            case yv10 => intro w hSw; (try dsimp only at hSw); go_simp <;> (try with_reducible rfl)
            (try simp only [List.getElem_toArray, List.getElem_cons_zero, Act.put, List.setIfInBounds_toArray, List.set_cons_zero, List.set_cons_succ])
            refine wpAnyH_take (i := 1) (v := ?vv11) rfl (by kernel_rfl) (by kernel_rfl) (by kernel_rfl) (fun _ _ _ h => h) (Or.inl ⟨by rfl, ?yv11⟩) (by assumption) ?rv11
            case yv11 => intro w hSw; (try dsimp only at hSw); go_simp <;> (try with_reducible rfl)
            (try simp only [List.getElem_toArray, List.getElem_cons_succ, List.getElem_cons_zero, Act.put, List.setIfInBounds_toArray, List.set_cons_zero, List.set_cons_succ])
            refine wpAnyH_take (i := 2) (v := ?vv12) rfl (by kernel_rfl) (by kernel_rfl) (by kernel_rfl) (fun _ _ _ h => h) (Or.inl ⟨by rfl, ?yv12⟩) (by assumption) ?rv12
            case yv12 => intro w hSw; (try dsimp only at hSw); go_simp <;> (try with_reducible rfl)
            (try simp only [List.getElem_toArray, List.getElem_cons_succ, List.getElem_cons_zero, Act.put, List.setIfInBounds_toArray, List.set_cons_zero, List.set_cons_succ])
            refine wpAnyH_take (i := 3) (v := ?vv13) rfl (by kernel_rfl) (by kernel_rfl) (by kernel_rfl) (fun _ _ _ h => h) (Or.inl ⟨by rfl, ?yv13⟩) (by assumption) ?rv13
            case yv13 => intro w hSw; (try dsimp only at hSw); go_simp <;> (try with_reducible rfl)
            (try simp only [List.getElem_toArray, List.getElem_cons_succ, List.getElem_cons_zero, Act.put, List.setIfInBounds_toArray, List.set_cons_zero, List.set_cons_succ])
            refine wpAnyH_take (i := 4) (v := ?vv14) rfl (by kernel_rfl) (by kernel_rfl) (by kernel_rfl) (fun _ _ _ h => h) (Or.inl ⟨by rfl, ?yv14⟩) (by assumption) ?rv14
            case yv14 => intro w hSw; (try dsimp only at hSw); go_simp <;> (try with_reducible rfl)
            (try simp only [List.getElem_toArray, List.getElem_cons_succ, List.getElem_cons_zero, Act.put, List.setIfInBounds_toArray, List.set_cons_zero, List.set_cons_succ])
            refine wpAnyH_take (i := 8) (v := ?vv18) rfl (by kernel_rfl) (by kernel_rfl) (by kernel_rfl) (fun _ _ _ h => h) (Or.inl ⟨by rfl, ?yv18⟩) (by assumption) ?rv18
            case yv18 => intro w hSw; (try dsimp only at hSw); go_simp <;> (try with_reducible rfl)
            (try simp only [List.getElem_toArray, List.getElem_cons_succ, List.getElem_cons_zero, Act.put, List.setIfInBounds_toArray, List.set_cons_zero, List.set_cons_succ])
            refine wpAnyH_take (i := 9) (v := ?vv19) rfl (by kernel_rfl) (by kernel_rfl) (by kernel_rfl) (fun _ _ _ h => h) (Or.inl ⟨by rfl, ?yv19⟩) (by assumption) ?rv19
            case yv19 => intro w hSw; (try dsimp only at hSw); go_simp <;> (try with_reducible rfl)
            (try simp only [List.getElem_toArray, List.getElem_cons_succ, List.getElem_cons_zero, Act.put, List.setIfInBounds_toArray, List.set_cons_zero, List.set_cons_succ])
            refine wpAnyH_take (i := 10) (v := ?vv110) rfl (by kernel_rfl) (by kernel_rfl) (by kernel_rfl) (fun _ _ _ h => h) (Or.inl ⟨by rfl, ?yv110⟩) (by assumption) ?rv110
            case yv110 => intro w hSw; (try dsimp only at hSw); go_simp <;> (try with_reducible rfl)
            (try simp only [List.getElem_toArray, List.getElem_cons_succ, List.getElem_cons_zero, Act.put, List.setIfInBounds_toArray, List.set_cons_zero, List.set_cons_succ])
            refine wpAnyH_take (i := 11) (v := ?vv111) rfl (by kernel_rfl) (by kernel_rfl) (by kernel_rfl) (fun _ _ _ h => h) (Or.inl ⟨by rfl, ?yv111⟩) (by assumption) ?rv111
            case yv111 => intro w hSw; (try dsimp only at hSw); go_simp <;> (try with_reducible rfl)
            (try simp only [List.getElem_toArray, List.getElem_cons_succ, List.getElem_cons_zero, Act.put, List.setIfInBounds_toArray, List.set_cons_zero, List.set_cons_succ])
            refine wpAnyH_ready (rs := [5]) (by kernel_rfl) (by simp) ?_
            refine AllReadyH.cons rfl (fun K hK => ?_) AllReadyH.nil
            go_simp
            go_wp2_with fail
            (with_reducible refine (HDB.out _).mono ?_)
            rintro e w5 ⟨rfl, hb5⟩
            have hdd5 := below_join hdd hb5
            refine hK.out _ _ (HCL.out _ hdd5) (fun hHeld => ?_)
            clear hK K hb5
            refine wpAnyH_take (i := 6) (v := ?vv16) rfl (by kernel_rfl) (by kernel_rfl) (by kernel_rfl) (fun _ _ _ h => h) (Or.inl ⟨by rfl, ?yv16⟩) (by assumption) ?rv16
            case yv16 => intro w hSw; (try dsimp only at hSw); go_simp <;> (try with_reducible rfl)
            (try simp only [List.getElem_toArray, List.getElem_cons_succ, List.getElem_cons_zero, Act.put, List.setIfInBounds_toArray, List.set_cons_zero, List.set_cons_succ])
            refine wpAnyH_take (i := 7) (v := ?vv17) rfl (by kernel_rfl) (by kernel_rfl) (by kernel_rfl) (fun _ _ _ h => h) (Or.inl ⟨by rfl, ?yv17⟩) (by assumption) ?rv17
            case yv17 => intro w hSw; (try dsimp only at hSw); go_simp <;> (try with_reducible rfl)
            (try simp only [List.getElem_toArray, List.getElem_cons_succ, List.getElem_cons_zero, Act.put, List.setIfInBounds_toArray, List.set_cons_zero, List.set_cons_succ])
            refine wpAnyH_ready (rs := [12]) (by kernel_rfl) (by simp) ?_
            refine AllReadyH.cons rfl (fun K hK => ?_) AllReadyH.nil
            go_simp
            go_wp2_with fail
            (with_reducible refine (HDM.out _).mono ?_)
            rintro e w6 ⟨rfl, hb6⟩
            have hdd6 := below_join hdd5 hb6
            refine hK.out _ _ (HCL.out _ hdd6) (fun hHeld => ?_)
            clear hK K hb6
            refine wpAnyH_take (i := 13) (v := ?vv113) rfl (by kernel_rfl) (by kernel_rfl) (by kernel_rfl) (fun _ _ _ h => h) (Or.inl ⟨by rfl, ?yv113⟩) (by assumption) ?rv113
            case yv113 => intro w hSw; (try dsimp only at hSw); go_simp <;> (try with_reducible rfl)
            (try simp only [List.getElem_toArray, List.getElem_cons_succ, List.getElem_cons_zero, Act.put, List.setIfInBounds_toArray, List.set_cons_zero, List.set_cons_succ])
            refine wpAnyH_take (i := 14) (v := ?vv114) rfl (by kernel_rfl) (by kernel_rfl) (by kernel_rfl) (fun _ _ _ h => h) (Or.inl ⟨by rfl, ?yv114⟩) (by assumption) ?rv114
            case yv114 => intro w hSw; (try dsimp only at hSw); go_simp <;> (try with_reducible rfl)
            (try simp only [List.getElem_toArray, List.getElem_cons_succ, List.getElem_cons_zero, Act.put, List.setIfInBounds_toArray, List.set_cons_zero, List.set_cons_succ])
            refine wpAnyH_done (by kernel_rfl) ?_ _
            have hP5 := hP.next hdd6 hP.lt
            have hbe5 := below_join hbe hdd6
            go_wp2
            go_roundw
            case rel => exact ⟨k + 1, S4, by omega, by go_num, rfl, hT.out, hP5, hbe5⟩
            case measure => simp [intOf]; omega
    · obtain rfl : k = 10 := by omega
      have he : Hid (S = ⟨(textTo p 10).toArray⟩) := by
        have : S = ⟨(textTo p 10).toArray⟩ := by
          apply ByteArray.ext
          apply Array.ext'
          rw [hS]
        exact this
      clear hS
      go_wp2
      go_ret
      exact ⟨by rw [← he.out]; rfl, hbe⟩
end Go.Proofs.YtkkgfdfjgfigcaaDoor

/-
  Contract of the walk over the reference's Parse. Conditions: at most a million bytes.
-/
namespace Go.Proofs.YtkkgfdfjgfigcaaDoor
set_option linter.unusedVariables false
set_option linter.unusedSimpArgs false
open Go.RowKit Go.Shelf

theorem MR_length (L : List UInt8) : (MR L).length = 10 := by unfold MR; rw [List.length_map]; rfl
theorem BR_length (L : List UInt8) : (BR L).length = 10 := by unfold BR; rw [List.length_map]; rfl
theorem MR_get (L : List UInt8) {k : Nat} (h : k < 10) : (MR L)[k]? = some (wM (L.drop (posR L k))) := by
  unfold MR; rw [List.getElem?_map, List.getElem?_range h]; rfl
theorem BR_get (L : List UInt8) {k : Nat} (h : k < 10) : (BR L)[k]? = some (wB (L.drop (posR L k))) := by
  unfold BR; rw [List.getElem?_map, List.getElem?_range h]; rfl
theorem rawK_none {l : List Int} {k : Nat} (hl : l.length = 10) (hk : k < 10) (h : l[k]? = some 0) : rawK l (k + 1) = rawK l k := by
  have e : l.take (k + 1) = l.take k ++ [0] := by
    obtain ⟨h1, h2⟩ := List.getElem?_eq_some_iff.1 h
    rw [List.take_succ_eq_append_getElem h1, h2]
  unfold rawK
  have e2 : 10 - k = (10 - (k + 1)) + 1 := by omega
  rw [e, e2, List.replicate_succ, List.append_assoc]; rfl
theorem wpList_maxZ {P : Program} {ops : Array Oper} {rest : List Oper} {o : Oper} {a : Act} {w : World} {Q : Exit → Act → World → Prop} (hgd : o.guard = none) (x y : Operand) (t u : TypeId)
    (ho : o.op = .call { callee := .builtin .max, args := #[x, y], argTypes := #[t, u] }) (p q m : Int) (hx : a.eval x = .int .i64 p) (hy : a.eval y = .int .i64 q) (hm : max p q = m)
    (h : wpList P ops Q rest (a.put o.dst (.int .i64 m)) w) : wpList P ops Q (o :: rest) a w := by
  refine wpList_plain hgd fun K hK => ?_
  have hrun : (Builtin.max_ #[t, u] o.type #[.int .i64 p, .int .i64 q]).run P w = .ok (.int .i64 m) w := by
    rw [run_max_int2, ← hm]
    congr 2
    split <;> omega
  unfold Oper.wp
  simp [execOp, ho, resolve, invoke, builtin, hx, hy, hrun, Result.andThen]
  exact hK _ _ h
theorem rawK_over {l : List Int} {x : Int} {R : List Value} (hl : l.length = 10) : ∀ {k : Nat}, k < 10 → l[k]? = some x → ∀ y, splice ((rawK (l.set k y) (k + 1)).map iV ++ R) k [iV x] = (rawK l (k + 1)).map iV ++ R := by
  obtain ⟨a0, a1, a2, a3, a4, a5, a6, a7, a8, a9, rfl⟩ := list10 hl
  intro k hk hx y
  match k, hk with
  | 0, _ => simp at hx; subst hx; rfl
  | 1, _ => simp at hx; subst hx; rfl
  | 2, _ => simp at hx; subst hx; rfl
  | 3, _ => simp at hx; subst hx; rfl
  | 4, _ => simp at hx; subst hx; rfl
  | 5, _ => simp at hx; subst hx; rfl
  | 6, _ => simp at hx; subst hx; rfl
  | 7, _ => simp at hx; subst hx; rfl
  | 8, _ => simp at hx; subst hx; rfl
  | 9, _ => simp at hx; subst hx; rfl
theorem rawK_same {l : List Int} {y : Int} (k : Nat) : rawK (l.set k y) k = rawK l k := by
  unfold rawK; rw [List.take_set_of_le (Nat.le_refl k)]
theorem head_byte (s : ByteArray) (i : Nat) (h : i < s.size) : (s.data.toList.drop i).head? = some s[i] := by rw [drop_byte s i h]; rfl
theorem head_none (s : ByteArray) (i : Nat) (h : ¬ i < s.size) : (s.data.toList.drop i).head? = none := by
  rw [List.drop_eq_nil_of_le (by rw [bytes_size s]; omega)]; rfl
def RPaRel (L : List UInt8) (g2 g4 : Nat) (w : World) (at_ i : Value) (wr : World) : Prop :=
  ∃ k : Nat, k ≤ 10 ∧ i = .int .i64 (k : Int) ∧ at_ = .int .i64 ((posR L k : Nat) : Int) ∧ Blk wr g2 25 (H no ++ H no) ∧ Blk wr g4 25 ((rawK (MR L) k).map iV ++ (rawK (BR L) k).map iV) ∧ Below w.heap.size w wr
set_option maxRecDepth 100000 in
set_option maxHeartbeats 1600000 in
theorem rparse_any (s : ByteArray) (w : World) (hs : s.size ≤ 1000000) :
    Calls Tryd.prog 17 #[.string s] w fun e w' => ParsedT s e ∧ Below w.heap.size w w' := by
  obtain ⟨L, hL⟩ : ∃ L, s.data.toList = L := ⟨_, rfl⟩
  obtain ⟨M, hM⟩ : ∃ M, MR L = M := ⟨_, rfl⟩
  obtain ⟨B, hB⟩ : ∃ B, BR L = B := ⟨_, rfl⟩
  have HML : Hid (M.length = 10) := by
    have : M.length = 10 := by rw [← hM]; exact MR_length L
    exact this
  have HBL : Hid (B.length = 10) := by
    have : B.length = 10 := by rw [← hB]; exact BR_length L
    exact this
  have hREL : RPaRel L = fun g2 g4 w at_ i wr => ∃ k : Nat, k ≤ 10 ∧ i = .int .i64 (k : Int) ∧ at_ = .int .i64 ((posR L k : Nat) : Int) ∧ Blk wr g2 25 (H no ++ H no) ∧ Blk wr g4 25 ((rawK M k).map iV ++ (rawK B k).map iV) ∧ Below w.heap.size w wr := by
    funext g2 g4 w a i wr; unfold RPaRel; rw [hM, hB]
  have HREL := Lib.hid hREL
  have HL := Lib.hid hL
  have HM := Lib.hid hM
  have HBB := Lib.hid hB
  clear hREL hL hM hB
  go_enter Tryd.func17, Tryd.ntmps17
  go_wp2_with (with_reducible refine wpList_alloc (o := ⟨some 2, .alloc 25, _, _, _, _⟩) (by with_unfolding_all rfl) 25 (by with_unfolding_all rfl) (.agg (H no ++ H no).toArray) (H no ++ H no) (by exact Tryd.zeroPt) (by with_unfolding_all rfl) ?_)
  intro g2 w1 hg2 hs1 hb1 hB2
  have hl2 : w.heap.size ≤ g2 := Nat.le_of_eq hg2.out.symm
  have hbe : Below w.heap.size w w1 := hb1.mono hl2
  clear hb1 hs1 hg2
  go_wp2_with (first | (with_reducible refine wpList_build (o := ⟨some 9, .build 25 #[], _, _, _, _⟩) (by with_unfolding_all rfl) 25 #[] (by with_unfolding_all rfl) #[] (by with_unfolding_all rfl) (.agg (H no ++ H no).toArray) (by with_unfolding_all exact fun w => run_buildP0 w) ?_) | (with_reducible refine wpList_alloc (o := ⟨some 4, .alloc 25, _, _, _, _⟩) (by with_unfolding_all rfl) 25 (by with_unfolding_all rfl) (.agg (H no ++ H no).toArray) (H no ++ H no) (by exact Tryd.zeroPt) (by with_unfolding_all rfl) ?_))
  intro g4 w2 hg4 hs2 hb2 hB4
  have hb2' := hb2.mono (Nat.le_of_eq hg4.out.symm)
  have h24 : g2 < g4 := by have := hB2.lt; have := hg4.out; omega
  have hB2 := hB2.next hb2' hB2.lt
  have hbe := below_join hbe hb2'
  clear hb2 hb2' hs2 hg4
  go_wp2_with (with_reducible refine wpList_put (o := ⟨none, .store 25 (.tmp 4) (.tmp 9), _, _, _, _⟩) (by with_unfolding_all rfl) 25 (.tmp 4) (.tmp 9) (by with_unfolding_all rfl) g4 0 (by with_unfolding_all rfl) (.agg (H no ++ H no).toArray) (by with_unfolding_all rfl) hB4 (H no ++ H no) (by with_unfolding_all rfl) (by with_unfolding_all (rw [List.length_append, H_length]; exact Tryd.szP)) (by with_unfolding_all (rw [List.length_append, H_length]; omega)) (by with_unfolding_all (exact (cells_one Pat.zero))) ?_)
  intro w3 hu3 hB4'
  rw [splice_all _ _ rfl] at hB4'
  have hB2 := hB2.upd hu3 (by omega)
  have hbe := hbe.trans (hu3.below (B := w.heap.size) (by omega))
  clear hu3 hB4
  have hB4 := hB4'
  rw [raw_zero M B] at hB4
  clear hB4'
  go_wp2
  go_loopw [5, 6] (RPaRel L g2 g4 w) (fun _ i _ => 10 - (intOf i).toNat)
  case atStart => rw [HREL.out]; exact ⟨0, by omega, rfl, rfl, hB2, hB4, hbe⟩
  case round =>
    clear hB2 hB4 hbe
    rw [HREL.out] at hrel
    obtain ⟨k, hk, rfl, rfl, hB2, hB4, hbe⟩ := hrel
    by_cases hlt : k < 10
    · have hk0 : (0 : Int) ≤ (k : Int) := by omega
      have hk10 : (k : Int) < 10 := by omega
      obtain ⟨a, ha⟩ : ∃ a, posR L k = a := ⟨_, rfl⟩
      have ha100 : a ≤ 100 := by rw [← ha]; have := posR_le L k; omega
      have hnx : posR L (k + 1) = a + adv (L.drop a) := by rw [← ha]; rfl
      have hMx := MR_get L hlt
      have hBx := BR_get L hlt
      rw [HM.out, ha] at hMx
      rw [HBB.out, ha] at hBx
      have hnum := fun w => rnum_any s a w hs (by omega)
      rw [HL.out] at hnum
      obtain ⟨N, hN⟩ : ∃ N, numR (L.drop a) = N := ⟨_, rfl⟩
      have hNb := numR_lt (L.drop a)
      rw [hN] at hNb hnum
      unfold wM at hMx
      unfold wB at hBx
      unfold adv at hnx
      rw [hN] at hMx hBx hnx
      have HNUM := Lib.hid hnum
      rw [ha]
      clear hnum ha
      by_cases hneg : N < 0
      · rw [if_neg (by omega)] at hMx hBx hnx
        have HP1 := Lib.hid (rawK_none HML.out hlt hMx)
        have HP2 := Lib.hid (rawK_none HBL.out hlt hBx)
        have HNX := Lib.hid hnx
        have hnb : decide (0 ≤ N) = false := decide_eq_false (by omega)
        have hwa : IntKind.i64.wrap ((a : Int) + 1) = (a : Int) + 1 := by simp only [IntKind.wrap_i64]; omega
        have hwb : IntKind.i64.wrap ((a : Int) + 1 + 1) = ((a + (1 + 1) : Nat) : Int) := by simp only [IntKind.wrap_i64]; omega
        clear hMx hBx hnx hN
        go_wp2_with fail
        (with_reducible refine (HNUM.out _).mono ?_)
        rintro e w5 ⟨rfl, rfl⟩
        go_wp2
        go_roundw
        case rel => rw [HREL.out]; exact ⟨k + 1, by omega, by go_num, (by rw [HNX.out]; exact congrArg (Value.int .i64) (by omega)), hB2, by rw [HP1.out, HP2.out]; exact hB4, hbe⟩
        case measure => simp [intOf]; omega
      · have hnb : decide (0 ≤ N) = true := decide_eq_true (by omega)
        rw [if_pos (by omega)] at hMx hBx hnx
        have HKL : Hid (((rawK M k).map iV ++ (rawK B k).map iV).length = 20) := by
          have : ((rawK M k).map iV ++ (rawK B k).map iV).length = 20 := by rw [List.length_append, List.length_map, List.length_map, rawK_length HML.out hk, rawK_length HBL.out hk]
          exact this
        have HKL2 : Hid (((rawK M k).map iV ++ (rawK B (k + 1)).map iV).length = 20) := by
          have : ((rawK M k).map iV ++ (rawK B (k + 1)).map iV).length = 20 := by rw [List.length_append, List.length_map, List.length_map, rawK_length HML.out hk, rawK_length HBL.out (show k + 1 ≤ 10 by omega)]
          exact this
        have HP2 := Lib.hid (rawK_put2 (rawK_length HML.out hk) HBL.out hlt hBx)
        obtain ⟨a4, ha4⟩ : ∃ a4 : Nat, a + 4 = a4 := ⟨_, rfl⟩
        have hwa : IntKind.i64.wrap ((a : Int) + 4) = (a4 : Int) := by simp only [IntKind.wrap_i64]; omega
        have hwb : IntKind.i64.wrap ((a4 : Int) + 1) = (a4 : Int) + 1 := by simp only [IntKind.wrap_i64]; omega
        have hdr : (L.drop a).drop 4 = L.drop a4 := by rw [List.drop_drop, ha4]
        have hdr5 : (L.drop a).drop 5 = L.drop (a4 + 1) := by rw [List.drop_drop]; congr 1; omega
        rw [hdr, hdr5] at hMx
        rw [hdr] at hnx
        have h04 : (0 : Int) ≤ (a4 : Int) := by omega
        clear hBx hN hdr hdr5
        by_cases hsl : (L.drop a4).head? = some 47
        · rw [if_pos hsl] at hMx hnx
          have hin : a4 < s.size := Nat.lt_of_not_le fun h => by
            have h2 := head_none s a4 (by omega)
            rw [HL.out, hsl] at h2; cases h2
          have hini : (a4 : Int) < (s.size : Int) := by omega
          have hc : Hid (s[a4].toNat = 47) := by
            have h2 := head_byte s a4 hin
            rw [HL.out, hsl] at h2
            injection h2 with h2
            have : s[a4].toNat = 47 := by rw [← h2]; rfl
            exact this
          have hnum2 := fun w => rnum_any s (a4 + 1) w hs (by omega)
          have ea4 : ((a4 + 1 : Nat) : Int) = (a4 : Int) + 1 := by omega
          rw [HL.out, ea4] at hnum2
          obtain ⟨N2, hN2⟩ : ∃ N, numR (L.drop (a4 + 1)) = N := ⟨_, rfl⟩
          have hNb2 := numR_lt (L.drop (a4 + 1))
          rw [hN2] at hNb2 hnum2 hMx
          obtain ⟨X, hX⟩ : ∃ X, max 0 N2 = X := ⟨_, rfl⟩
          rw [hX] at hMx
          have HX := Lib.hid hX
          have HNUM2 := Lib.hid hnum2
          have HP1 : Hid (splice ((rawK M k).map iV ++ (rawK B (k + 1)).map iV) k [iV 65535] = (rawK (M.set k 65535) (k + 1)).map iV ++ (rawK B (k + 1)).map iV) := by
            have : splice ((rawK M k).map iV ++ (rawK B (k + 1)).map iV) k [iV 65535] = (rawK (M.set k 65535) (k + 1)).map iV ++ (rawK B (k + 1)).map iV := by
              rw [← rawK_same (l := M) (y := 65535) k]
              exact rawK_put (by rw [List.length_set]; exact HML.out) hlt (by rw [List.getElem?_set_self (by rw [HML.out]; exact hlt)])
            exact this
          have HP3 := Lib.hid (rawK_over (R := (rawK B (k + 1)).map iV) HML.out hlt hMx 65535)
          have HKL3 : Hid (((rawK (M.set k 65535) (k + 1)).map iV ++ (rawK B (k + 1)).map iV).length = 20) := by
            have : ((rawK (M.set k 65535) (k + 1)).map iV ++ (rawK B (k + 1)).map iV).length = 20 := by rw [List.length_append, List.length_map, List.length_map, rawK_length (by rw [List.length_set]; exact HML.out) (show k + 1 ≤ 10 by omega), rawK_length HBL.out (show k + 1 ≤ 10 by omega)]
            exact this
          have HNX : Hid (posR L (k + 1) = a4 + 5 + 1) := by
            have : posR L (k + 1) = a4 + 5 + 1 := by rw [hnx]; omega
            exact this
          have hwc : IntKind.i64.wrap ((a4 : Int) + 5) = (a4 : Int) + 5 := by simp only [IntKind.wrap_i64]; omega
          have hwd : IntKind.i64.wrap ((a4 : Int) + 5 + 1) = ((a4 + 5 + 1 : Nat) : Int) := by simp only [IntKind.wrap_i64]; omega
          obtain ⟨c, hcv⟩ : ∃ c : Nat, s[a4].toNat = c := ⟨_, rfl⟩
          have hc47 : (c == 47) = true := by rw [beq_iff_eq, ← hcv]; exact hc.out
          have hc47i : ((c : Int) == 47) = true := by rw [beq_iff_eq]; have := beq_iff_eq.1 hc47; omega
          clear hMx hnx hsl hX hnum2 hN2 hc ha4 ea4
          go_wp2_with fail
          (with_reducible refine (HNUM.out _).mono ?_)
          rintro e w5 ⟨rfl, rfl⟩
          go_wp2_with (with_reducible refine wpList_put (o := ⟨none, .store 3 (.tmp 22) (.tmp 20), _, _, _, _⟩) (by with_unfolding_all rfl) 3 (.tmp 22) (.tmp 20) (by with_unfolding_all rfl) g4 (10 + k) (by with_unfolding_all rfl) (iV N) (by with_unfolding_all rfl) hB4 [iV N] (by with_unfolding_all rfl) (by with_unfolding_all (exact Tryd.szI)) (by with_unfolding_all (rw [HKL.out]; show 10 + k + 1 ≤ 20; omega)) (by with_unfolding_all (exact one_cell1 rfl)) ?_)
          intro w6 hu6 hB6
          rw [HP2.out] at hB6
          have hB2 := hB2.upd hu6 (by omega)
          have hbe := hbe.trans (hu6.below (B := w.heap.size) (by omega))
          clear hu6 hB4
          go_wp2_with (with_reducible refine wpList_put (o := ⟨none, .store 3 (.tmp 25) (.const (.int .i64 65535)), _, _, _, _⟩) (by with_unfolding_all rfl) 3 (.tmp 25) (.const (.int .i64 65535)) (by with_unfolding_all rfl) g4 k (by with_unfolding_all rfl) (iV 65535) (by with_unfolding_all rfl) hB6 [iV 65535] (by with_unfolding_all rfl) (by with_unfolding_all (exact Tryd.szI)) (by with_unfolding_all (rw [HKL2.out]; show k + 1 ≤ 20; omega)) (by with_unfolding_all (exact one_cell1 rfl)) ?_)
          intro w7 hu7 hB7
          rw [HP1.out] at hB7
          have hB2 := hB2.upd hu7 (by omega)
          have hbe := hbe.trans (hu7.below (B := w.heap.size) (by omega))
          clear hu7 hB6
          go_wp2_with fail
          (with_reducible refine (HNUM2.out _).mono ?_)
          rintro e w8 ⟨rfl, rfl⟩
          go_wp2_with (first | (with_reducible refine wpList_maxZ (o := ⟨some 49, .call ⟨.builtin .max, #[.const (.int .i64 0), .tmp 48], #[3, 3]⟩, _, _, _, _⟩) (by with_unfolding_all rfl) (.const (.int .i64 0)) (.tmp 48) 3 3 (by with_unfolding_all rfl) 0 N2 X (by with_unfolding_all rfl) (by with_unfolding_all rfl) HX.out ?_) | (with_reducible refine wpList_put (o := ⟨none, .store 3 (.tmp 51) (.tmp 49), _, _, _, _⟩) (by with_unfolding_all rfl) 3 (.tmp 51) (.tmp 49) (by with_unfolding_all rfl) g4 k (by with_unfolding_all rfl) (iV X) (by with_unfolding_all rfl) hB7 [iV X] (by with_unfolding_all rfl) (by with_unfolding_all (exact Tryd.szI)) (by with_unfolding_all (rw [HKL3.out]; show k + 1 ≤ 20; omega)) (by with_unfolding_all (exact one_cell1 rfl)) ?_))
          intro w9 hu9 hB9
          rw [HP3.out] at hB9
          have hB2 := hB2.upd hu9 (by omega)
          have hbe := hbe.trans (hu9.below (B := w.heap.size) (by omega))
          clear hu9 hB7
          go_wp2
          go_roundw
          case rel => rw [HREL.out]; exact ⟨k + 1, by omega, by go_num, (by rw [HNX.out]; exact congrArg (Value.int .i64) (by omega)), hB2, hB9, hbe⟩
          case measure => simp [intOf]; omega
        · rw [if_neg hsl] at hMx hnx
          have HP1 := Lib.hid (rawK_put (R := (rawK B (k + 1)).map iV) HML.out hlt hMx)
          have HNX : Hid (posR L (k + 1) = a4 + 1) := by
            have : posR L (k + 1) = a4 + 1 := by rw [hnx]; omega
            exact this
          by_cases hin : a4 < s.size
          · have hini : (a4 : Int) < (s.size : Int) := by omega
            have hc : Hid (s[a4].toNat ≠ 47) := by
              have : s[a4].toNat ≠ 47 := fun e => hsl (by
                have h2 := head_byte s a4 hin
                rw [HL.out] at h2
                rw [h2]; congr 1
                exact UInt8.toNat_inj.1 e)
              exact this
            obtain ⟨c, hcv⟩ : ∃ c : Nat, s[a4].toNat = c := ⟨_, rfl⟩
            have hc47 : (c == 47) = false := by rw [beq_eq_false_iff_ne, ← hcv]; exact hc.out
            have hc47i : ((c : Int) == 47) = false := by rw [beq_eq_false_iff_ne]; have := beq_eq_false_iff_ne.1 hc47; omega
            clear hMx hnx hsl hc ha4
            go_wp2_with fail
            (with_reducible refine (HNUM.out _).mono ?_)
            rintro e w5 ⟨rfl, rfl⟩
            go_wp2_with (with_reducible refine wpList_put (o := ⟨none, .store 3 (.tmp 22) (.tmp 20), _, _, _, _⟩) (by with_unfolding_all rfl) 3 (.tmp 22) (.tmp 20) (by with_unfolding_all rfl) g4 (10 + k) (by with_unfolding_all rfl) (iV N) (by with_unfolding_all rfl) hB4 [iV N] (by with_unfolding_all rfl) (by with_unfolding_all (exact Tryd.szI)) (by with_unfolding_all (rw [HKL.out]; show 10 + k + 1 ≤ 20; omega)) (by with_unfolding_all (exact one_cell1 rfl)) ?_)
            intro w6 hu6 hB6
            rw [HP2.out] at hB6
            have hB2 := hB2.upd hu6 (by omega)
            have hbe := hbe.trans (hu6.below (B := w.heap.size) (by omega))
            clear hu6 hB4
            go_wp2_with (with_reducible refine wpList_put (o := ⟨none, .store 3 (.tmp 25) (.const (.int .i64 65535)), _, _, _, _⟩) (by with_unfolding_all rfl) 3 (.tmp 25) (.const (.int .i64 65535)) (by with_unfolding_all rfl) g4 k (by with_unfolding_all rfl) (iV 65535) (by with_unfolding_all rfl) hB6 [iV 65535] (by with_unfolding_all rfl) (by with_unfolding_all (exact Tryd.szI)) (by with_unfolding_all (rw [HKL2.out]; show k + 1 ≤ 20; omega)) (by with_unfolding_all (exact one_cell1 rfl)) ?_)
            intro w7 hu7 hB7
            rw [HP1.out] at hB7
            have hB2 := hB2.upd hu7 (by omega)
            have hbe := hbe.trans (hu7.below (B := w.heap.size) (by omega))
            clear hu7 hB6
            go_wp2
            go_roundw
            case rel => rw [HREL.out]; exact ⟨k + 1, by omega, by go_num, (by rw [HNX.out]; exact congrArg (Value.int .i64) (by omega)), hB2, hB7, hbe⟩
            case measure => simp [intOf]; omega
          · have hini : ¬ (a4 : Int) < (s.size : Int) := by omega
            clear hMx hnx hsl ha4
            go_wp2_with fail
            (with_reducible refine (HNUM.out _).mono ?_)
            rintro e w5 ⟨rfl, rfl⟩
            go_wp2_with (with_reducible refine wpList_put (o := ⟨none, .store 3 (.tmp 22) (.tmp 20), _, _, _, _⟩) (by with_unfolding_all rfl) 3 (.tmp 22) (.tmp 20) (by with_unfolding_all rfl) g4 (10 + k) (by with_unfolding_all rfl) (iV N) (by with_unfolding_all rfl) hB4 [iV N] (by with_unfolding_all rfl) (by with_unfolding_all (exact Tryd.szI)) (by with_unfolding_all (rw [HKL.out]; show 10 + k + 1 ≤ 20; omega)) (by with_unfolding_all (exact one_cell1 rfl)) ?_)
            intro w6 hu6 hB6
            rw [HP2.out] at hB6
            have hB2 := hB2.upd hu6 (by omega)
            have hbe := hbe.trans (hu6.below (B := w.heap.size) (by omega))
            clear hu6 hB4
            go_wp2_with (with_reducible refine wpList_put (o := ⟨none, .store 3 (.tmp 25) (.const (.int .i64 65535)), _, _, _, _⟩) (by with_unfolding_all rfl) 3 (.tmp 25) (.const (.int .i64 65535)) (by with_unfolding_all rfl) g4 k (by with_unfolding_all rfl) (iV 65535) (by with_unfolding_all rfl) hB6 [iV 65535] (by with_unfolding_all rfl) (by with_unfolding_all (exact Tryd.szI)) (by with_unfolding_all (rw [HKL2.out]; show k + 1 ≤ 20; omega)) (by with_unfolding_all (exact one_cell1 rfl)) ?_)
            intro w7 hu7 hB7
            rw [HP1.out] at hB7
            have hB2 := hB2.upd hu7 (by omega)
            have hbe := hbe.trans (hu7.below (B := w.heap.size) (by omega))
            clear hu7 hB6
            go_wp2
            go_roundw
            case rel => rw [HREL.out]; exact ⟨k + 1, by omega, by go_num, (by rw [HNX.out]; exact congrArg (Value.int .i64) (by omega)), hB2, hB7, hbe⟩
            case measure => simp [intOf]; omega
    · obtain rfl : k = 10 := by omega
      rw [rawK_all HML.out, rawK_all HBL.out] at hB4
      have hzR : (Tryd.prog.info? 25).map (·.size) = some (M.map iV ++ B.map iV).length := by rw [List.length_append, List.length_map, List.length_map, HML.out, HBL.out]; exact Tryd.szP
      obtain ⟨D, hD⟩ : ∃ D, pairI M B = D := ⟨_, rfl⟩
      have hri := fun w => rright_any M B w HML.out HBL.out
      rw [hD] at hri
      have HRI := Lib.hid hri
      clear hri
      go_wp2_with (with_reducible refine wpList_get (o := ⟨some 56, .load 25 (.tmp 4), _, _, _, _⟩) (by with_unfolding_all rfl) 25 (.tmp 4) (by with_unfolding_all rfl) g4 0 (by with_unfolding_all rfl) hB4 (M.map iV ++ B.map iV) (cs_all _) _ (by exact Tryd.underlying25) (by with_unfolding_all rfl) hzR ?_)
      (with_reducible refine (HRI.out _).mono ?_)
      rintro e w5 ⟨rfl, hb5⟩
      have hB2 := hB2.next hb5 hB2.lt
      have hB4 := hB4.next hb5 hB4.lt
      have hbe := below_join hbe hb5
      clear hb5 HRI
      cases D with
      | false =>
        have HNO : Hid (ParsedT s (.returned (.tuple #[.agg (H no ++ H no).toArray, .int .i64 3]))) := by
          have : ParsedT s (.returned (.tuple #[.agg (H no ++ H no).toArray, .int .i64 3])) := ParsedT.refNo (by rw [HL.out, HM.out, HBB.out]; exact hD)
          exact this
        clear hD hB4 hzR
        go_wp2_with (first | (with_reducible refine wpList_build (o := ⟨some 66, .build 25 #[], _, _, _, _⟩) (by with_unfolding_all rfl) 25 #[] (by with_unfolding_all rfl) #[] (by with_unfolding_all rfl) (.agg (H no ++ H no).toArray) (by with_unfolding_all exact fun w => run_buildP0 w) ?_) | (with_reducible refine wpList_put (o := ⟨none, .store 25 (.tmp 2) (.tmp 66), _, _, _, _⟩) (by with_unfolding_all rfl) 25 (.tmp 2) (.tmp 66) (by with_unfolding_all rfl) g2 0 (by with_unfolding_all rfl) (.agg (H no ++ H no).toArray) (by with_unfolding_all rfl) hB2 (H no ++ H no) (by with_unfolding_all rfl) (by with_unfolding_all (rw [List.length_append, H_length]; exact Tryd.szP)) (by with_unfolding_all (rw [List.length_append, H_length]; omega)) (by with_unfolding_all (exact (cells_one Pat.zero))) ?_))
        intro w9 hu9 hB9
        rw [splice_all _ _ rfl] at hB9
        have hfin := hbe.trans (hu9.below (B := w.heap.size) hl2)
        go_wp2
        refine bodyPost_ret (results_cell_two rfl _ _ g2 _ _ _ _ _ rfl rfl hB9 Tryd.underlying25 rfl (by rw [List.size_toArray, List.length_append, H_length]; exact Tryd.szP)) rfl ⟨?_, hfin⟩
        exact HNO.out
      | true =>
        obtain ⟨p, hp, hpm, hpb⟩ := right_pat HML.out HBL.out hD
        have hpc : M.map iV ++ B.map iV = p.cells := by rw [← hpm, ← hpb]; unfold Pat.cells; rw [H_iV, H_iV]
        rw [hpc] at hB4 hzR
        obtain ⟨T, hT⟩ : ∃ T : ByteArray, Hid ((⟨(textTo p 10).toArray⟩ : ByteArray) = T) := ⟨_, rfl⟩
        have htx := fun w => rtext_any p w
        rw [hT.out] at htx
        have HTX := Lib.hid htx
        have HPM := Lib.hid hpm
        have HPB := Lib.hid hpb
        have HP := Lib.hid hp
        clear htx hpc hD hpm hpb hp
        go_wp2_with (with_reducible refine wpList_getg (o := ⟨some 61, .load 25 (.tmp 4), _, _, _, _⟩) (by with_unfolding_all rfl) 25 (.tmp 4) (by with_unfolding_all rfl) g4 0 (by with_unfolding_all rfl) hB4 p.cells (cs_all _) _ (by exact Tryd.underlying25) (by with_unfolding_all rfl) hzR ?_)
        (with_reducible refine (HTX.out _).mono ?_)
        rintro e w6 ⟨rfl, hb6⟩
        have hB2 := hB2.next hb6 hB2.lt
        have hB4 := hB4.next hb6 hB4.lt
        have hbe := below_join hbe hb6
        clear hb6 HTX
        by_cases hts : T = s
        · have HTS : Hid (textTo p 10 = s.data.toList) := by
            have : textTo p 10 = s.data.toList := by rw [← hts, ← hT.out]
            exact this
          have hbq : (T.toList == s.toList) = true := by rw [hts]; exact beq_self_eq_true _
          clear hT hts
          go_wp2_with (first | (with_reducible refine wpList_get (o := ⟨some 67, .load 25 (.tmp 4), _, _, _, _⟩) (by with_unfolding_all rfl) 25 (.tmp 4) (by with_unfolding_all rfl) g4 0 (by with_unfolding_all rfl) hB4 p.cells (cs_all _) _ (by exact Tryd.underlying25) (by with_unfolding_all rfl) hzR ?_) | (with_reducible refine wpList_put (o := ⟨none, .store 25 (.tmp 2) (.tmp 67), _, _, _, _⟩) (by with_unfolding_all rfl) 25 (.tmp 2) (.tmp 67) (by with_unfolding_all rfl) g2 0 (by with_unfolding_all rfl) (.agg p.cells.toArray) (by with_unfolding_all rfl) hB2 p.cells (by with_unfolding_all rfl) (by with_unfolding_all (exact hzR)) (by with_unfolding_all (rw [Pat.cells_length, List.length_append, H_length]; omega)) (by with_unfolding_all (exact cells_one p)) ?_))
          intro w9 hu9 hB9
          rw [splice_all _ _ (by rw [Pat.cells_length, List.length_append, H_length])] at hB9
          have hfin := hbe.trans (hu9.below (B := w.heap.size) hl2)
          go_wp2
          exact bodyPost_ret (results_cell_two rfl _ _ g2 _ _ _ _ _ rfl rfl hB9 Tryd.underlying25 rfl (by rw [List.size_toArray]; exact hzR)) rfl ⟨.inl ⟨p, HP.out, HTS.out, rfl⟩, hfin⟩
        · have hnt : ¬ textTo p 10 = s.data.toList := fun e => hts (by
            rw [← hT.out, e])
          have hbq : (T.toList == s.toList) = false := beq_eq_false_iff_ne.2 (fun e => hnt (by
            rw [ByteArray.toList_eq, ByteArray.toList_eq, ← hT.out] at e; exact e))
          have HNO : Hid (ParsedT s (.returned (.tuple #[.agg (H no ++ H no).toArray, .int .i64 3]))) := by
            have : ParsedT s (.returned (.tuple #[.agg (H no ++ H no).toArray, .int .i64 3])) := ParsedT.refOther (by rw [HPM.out, HL.out, HM.out]) (by rw [HPB.out, HL.out, HBB.out]) hnt
            exact this
          clear hT hts hnt hB4 hzR
          go_wp2_with (first | (with_reducible refine wpList_build (o := ⟨some 66, .build 25 #[], _, _, _, _⟩) (by with_unfolding_all rfl) 25 #[] (by with_unfolding_all rfl) #[] (by with_unfolding_all rfl) (.agg (H no ++ H no).toArray) (by with_unfolding_all exact fun w => run_buildP0 w) ?_) | (with_reducible refine wpList_put (o := ⟨none, .store 25 (.tmp 2) (.tmp 66), _, _, _, _⟩) (by with_unfolding_all rfl) 25 (.tmp 2) (.tmp 66) (by with_unfolding_all rfl) g2 0 (by with_unfolding_all rfl) (.agg (H no ++ H no).toArray) (by with_unfolding_all rfl) hB2 (H no ++ H no) (by with_unfolding_all rfl) (by with_unfolding_all (rw [List.length_append, H_length]; exact Tryd.szP)) (by with_unfolding_all (rw [List.length_append, H_length]; omega)) (by with_unfolding_all (exact (cells_one Pat.zero))) ?_))
          intro w9 hu9 hB9
          rw [splice_all _ _ rfl] at hB9
          have hfin := hbe.trans (hu9.below (B := w.heap.size) hl2)
          go_wp2
          refine bodyPost_ret (results_cell_two rfl _ _ g2 _ _ _ _ _ rfl rfl hB9 Tryd.underlying25 rfl (by rw [List.size_toArray, List.length_append, H_length]; exact Tryd.szP)) rfl ⟨?_, hfin⟩
          exact HNO.out
end Go.Proofs.YtkkgfdfjgfigcaaDoor

/-
  Contract of the walk over Range at arguments that are refused. Conditions: none.
-/
namespace Go.Proofs.YtkkgfdfjgfigcaaDoor
set_option linter.unusedVariables false
set_option linter.unusedSimpArgs false
open Go.RowKit

/-- What Range accepts. -/
def rangeOk (a wd lo hi : Int) : Prop := 1 ≤ wd ∧ wd ≤ 16 ∧ 0 ≤ a ∧ a ≤ 160 - wd ∧ a % 16 + wd ≤ 16 ∧ 0 ≤ lo ∧ lo ≤ hi ∧ hi < ((2 ^ wd.toNat : Nat) : Int)
set_option maxRecDepth 100000 in
set_option maxHeartbeats 1600000 in
theorem range_bad (a wd lo hi : Int) (w : World) (h : ¬ rangeOk a wd lo hi) :
    Calls Tryd.prog 82 #[.int .i64 a, .int .i64 wd, .int .i64 lo, .int .i64 hi] w fun e w' => e = .returned (.tuple #[.slice none 0 0, .int .i64 1]) ∧ w = w' := by
  have HB := Lib.hid h
  clear h
  by_cases c1 : wd < 1
  ·
    go_enter Tryd.func82, Tryd.ntmps82
    go_wp2
    go_ret2
    exact ⟨rfl, rfl⟩
  by_cases c2 : wd > 16
  ·
    go_enter Tryd.func82, Tryd.ntmps82
    go_wp2
    go_ret2
    exact ⟨rfl, rfl⟩
  by_cases c3 : a < 0
  ·
    go_enter Tryd.func82, Tryd.ntmps82
    go_wp2
    go_ret2
    exact ⟨rfl, rfl⟩
  obtain ⟨n, rfl⟩ : ∃ n : Nat, wd = (n : Int) := ⟨wd.toNat, by omega⟩
  obtain ⟨b, rfl⟩ : ∃ b : Nat, a = (b : Int) := ⟨a.toNat, by omega⟩
  have hw1 : IntKind.i64.wrap (160 - (n : Int)) = 160 - (n : Int) := by simp only [IntKind.wrap_i64]; omega
  by_cases c4 : (b : Int) > 160 - (n : Int)
  ·
    go_enter Tryd.func82, Tryd.ntmps82
    go_wp2
    go_ret2
    exact ⟨rfl, rfl⟩
  obtain ⟨r, hr⟩ : ∃ r : Nat, Hid (b % 16 = r) := ⟨_, rfl⟩
  have hrd : (b : Int).tmod 16 = (r : Int) := by rw [Int.tmod_eq_emod_of_nonneg (by omega), ← hr.out]; rfl
  have hr16 : r < 16 := by have := hr.out; omega
  have hw2 : IntKind.i64.wrap (r : Int) = (r : Int) := by simp only [IntKind.wrap_i64]; omega
  have hw3 : IntKind.i64.wrap ((r : Int) + (n : Int)) = (r : Int) + (n : Int) := by simp only [IntKind.wrap_i64]; omega
  by_cases c5 : (r : Int) + (n : Int) > 16
  ·
    go_enter Tryd.func82, Tryd.ntmps82
    go_wp2
    go_ret2
    exact ⟨rfl, rfl⟩
  by_cases c6 : lo < 0
  ·
    go_enter Tryd.func82, Tryd.ntmps82
    go_wp2
    go_ret2
    exact ⟨rfl, rfl⟩
  by_cases c7 : lo > hi
  ·
    go_enter Tryd.func82, Tryd.ntmps82
    go_wp2
    go_ret2
    exact ⟨rfl, rfl⟩
  obtain ⟨PW, hPW⟩ : ∃ PW : Nat, Hid (2 ^ n = PW) := ⟨_, rfl⟩
  have hsh : ((2 : Int) ^ n) = (PW : Int) := by rw [← hPW.out, Int.natCast_pow]; rfl
  have hPWl : PW ≤ 65536 := by rw [← hPW.out]; exact Nat.pow_le_pow_right (by decide) (show n ≤ 16 by omega)
  have hw4 : IntKind.i64.wrap (PW : Int) = (PW : Int) := by simp only [IntKind.wrap_i64]; omega
  by_cases c8 : hi ≥ (PW : Int)
  ·
    go_enter Tryd.func82, Tryd.ntmps82
    go_wp2
    go_ret2
    exact ⟨rfl, rfl⟩
  refine absurd ?_ HB.out
  have := hr.out
  exact ⟨by omega, by omega, by omega, by omega, by omega, by omega, by omega, by rw [Int.toNat_natCast, hPW.out]; omega⟩
end Go.Proofs.YtkkgfdfjgfigcaaDoor

/-
  What the statements' examples give, in plain words. Conditions: none.
-/
namespace Go.Proofs.YtkkgfdfjgfigcaaDoor
set_option linter.unusedVariables false
set_option linter.unusedSimpArgs false
open Go.RowKit

/-- The words of a pattern as numbers. -/
def Pat.raw (p : Pat) : List Int × List Int := (HI p.m, HI p.b)
def hd (n : Nat) : Nat → Bool := bitsOf (word0 n)
/-- The tag of the examples. -/
def tagP : Pat := ⟨fun i => decide (144 ≤ i), fun i => decide (157 ≤ i)⟩
def tagS : ByteArray := { data := #[42, 32, 42, 32, 42, 32, 42, 32, 42, 32, 42, 32, 42, 32, 42, 32, 42, 32, 48, 48, 48, 55] }
theorem sane_and : ((Pat.first 32768 0).andV (Pat.first 16384 16384)).raw = (Pat.first 49152 16384).raw ∧ (Pat.first 32768 0).over (Pat.first 16384 16384) ∧ ¬ (Pat.first 32768 0).over (Pat.first 32768 32768) := by decide +kernel
theorem sane_join : (Pat.first 49152 0).joins (Pat.first 49152 16384) = true ∧ ((Pat.first 49152 0).joinV (Pat.first 49152 16384)).raw = (Pat.first 32768 0).raw ∧ (Pat.first 49152 0).joins (Pat.first 49152 49152) = false := by decide +kernel
theorem sane_minus : ((Pat.first 0 0).minus (Pat.first 49152 16384)).map Pat.raw = [(Pat.first 32768 32768).raw, (Pat.first 49152 0).raw] := by decide +kernel
theorem sane_range : (rangeL 0 3 1 6).map Pat.raw = [(Pat.first 57344 8192).raw, (Pat.first 49152 16384).raw, (Pat.first 49152 32768).raw, (Pat.first 57344 49152).raw] := by decide +kernel
theorem sane_text : textTo tagP 10 = tagS.data.toList := by decide +kernel
theorem sane_tag : HI tagP.m = [0, 0, 0, 0, 0, 0, 0, 0, 0, 65535] ∧ HI tagP.b = [0, 0, 0, 0, 0, 0, 0, 0, 0, 7] := by decide +kernel
theorem sane_parse : (wordsOf tagS).length = 10 ∧ HI tagP.m = maskI tagS ∧ HI tagP.b = bitsI tagS := by decide +kernel
theorem first_ok : (Pat.first 0 0).ok ∧ (Pat.first 32768 0).ok ∧ (Pat.first 49152 32768).ok ∧ tagP.ok := by
  refine ⟨?_, ?_, ?_, ?_⟩ <;> (unfold Pat.ok; decide +kernel)
theorem sane_m1 : ∀ i, i < 160 → (Pat.first 32768 0).m i = true → i = 0 := by decide +kernel
theorem sane_m2 : ∀ i, i < 160 → (Pat.first 49152 32768).m i = true → i = 0 ∨ i = 1 := by decide +kernel
theorem sane_m0 : ∀ i, i < 160 → (Pat.first 0 0).m i = false := by decide +kernel
theorem sane_bits : (Pat.first 32768 0).m 0 = true ∧ (Pat.first 32768 0).b 0 = false ∧ (Pat.first 49152 32768).m 1 = true ∧ (Pat.first 49152 32768).b 0 = true ∧ (Pat.first 49152 32768).b 1 = false ∧ hd 49152 0 = true ∧ hd 49152 1 = true := by decide +kernel
theorem sane_hd : ∀ i, i < 160 → hd 49152 i = true → i = 0 ∨ i = 1 := by decide +kernel
theorem sane_out {R : Bnd} (h : Pat.found [Pat.first 32768 0, Pat.first 49152 32768] (Pat.first 0 0) none R) : ∃ f, R = some f ∧ HI f = HI (hd 49152) := by
  obtain ⟨b1, b2, b3, b4, b5, b6, b7⟩ := sane_bits
  have g1 : (Pat.first 0 0).hit (hd 49152) := fun i hi hm => by rw [sane_m0 i hi] at hm; cases hm
  have g2 : ¬ Pat.inSome [Pat.first 32768 0, Pat.first 49152 32768] (hd 49152) := by
    rintro ⟨q, hq, hh⟩
    simp only [List.mem_cons, List.mem_nil_iff, or_false] at hq
    rcases hq with rfl | rfl
    · have := hh 0 (by omega) b1
      rw [b2, b6] at this; cases this
    · have := hh 1 (by omega) b3
      rw [b5, b7] at this; cases this
  rcases h with ⟨m, ⟨hm1, hm2, hm3⟩, _, hR⟩ | ⟨h, _⟩
  · refine ⟨m, hR, HI_congr fun i hi => ?_⟩
    have e0 : m 0 = true := by
      cases e : m 0
      · exact absurd ⟨_, List.mem_cons_self .., fun i hi hi2 => by rw [sane_m1 i hi hi2, e, b2]⟩ hm2
      · rfl
    have e1 : m 1 = true := by
      cases e : m 1
      · exact absurd ⟨_, List.mem_cons_of_mem _ (List.mem_cons_self ..), fun i hi hi2 => by
          rcases sane_m2 i hi hi2 with h | h
          · rw [h, e0, b4]
          · rw [h, e, b5]⟩ hm2
      · rfl
    have hle := hm3 _ g1 g2
    have hge : num (hd 49152) ≤ num m := num_mono fun i hi h => by
      rcases sane_hd i hi h with h | h
      · rw [h, e0]
      · rw [h, e1]
    exact num_inj (Nat.le_antisymm hle hge) hi
  · exact absurd trivial (h _ g1 g2)
end Go.Proofs.YtkkgfdfjgfigcaaDoor
