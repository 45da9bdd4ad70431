/-
  Contracts of the functions that the statement calls, part 23 of 26 (merged texts: Me, Mf, Mg, Mh, Na, Nb, Nc). Conditions: as the head of each part says.
-/
import Derived.Test.YtbldnhpbmfmepaaDoorGV
import Derived.Shelf.Strings.Cut
import Derived.Laws.Strings
import Derived.Test.YtbldnhpbmfmepaaDoorGK
import Derived.Shelf.Strings.Split
import Derived.Test.YtbldnhpbmfmepaaDoorGG
import Derived.Test.YtbldnhpbmfmepaaDoorGS
import Derived.Test.YtbldnhpbmfmepaaDoorGP
import Derived.Test.YtbldnhpbmfmepaaDoorGD

/-
  Contract of the walk over wordOf. Conditions: at most a million bytes; the library's variables lie there.
-/
namespace Go.Proofs.YtbldnhpbmfmepaaDoor
set_option linter.unusedVariables false
set_option linter.unusedSimpArgs false
open Go.RowKit Go.Shelf

/-- The library's variable lies there. -/
def GOk (w : World) : Prop := ∃ m : Int, w.cell? ⟨Tryd.cutA_ren.g 1, 0, none⟩ = some (.int .i64 m)
theorem GOk.next {w w' : World} (h : GOk w) (hb : Below w.heap.size w w') : GOk w' := by
  obtain ⟨m, hm⟩ := h
  exact ⟨m, by rw [hb.cell (World.block_lt_of_cell? w _ hm)]; exact hm⟩
theorem cut_len (s sep : List UInt8) : (Lib.cut s sep).1.length ≤ s.length ∧ (Lib.cut s sep).2.1.length ≤ s.length := by
  unfold Lib.cut
  split
  · exact ⟨by show (s.take _).length ≤ _; rw [List.length_take]; omega, by show (s.drop _).length ≤ _; rw [List.length_drop]; omega⟩
  · exact ⟨Nat.le_refl _, Nat.zero_le _⟩
theorem arr_size (l : List UInt8) : (⟨l.toArray⟩ : ByteArray).size = l.length := by simp [ByteArray.size]
theorem arr_list (l : List UInt8) : (⟨l.toArray⟩ : ByteArray).data.toList = l := by simp
theorem scut_any (s : ByteArray) (w : World) (hs : s.size ≤ 1000000) (hg : GOk w) :
    Calls Tryd.prog 113 #[.string s, .string { data := #[47] }] w fun e w' => e = .returned (.tuple #[.string ⟨(Lib.cut s.data.toList [47]).1.toArray⟩, .string ⟨(Lib.cut s.data.toList [47]).2.1.toArray⟩, .bool (Lib.cut s.data.toList [47]).2.2]) ∧ Below w.heap.size w w' := by
  obtain ⟨m, hm⟩ := hg
  refine Calls.mono (Any.strings_Cut Tryd.cutA s { data := #[47] } m w (by omega) hm) ?_
  rintro e w' ⟨rfl, n, rfl⟩
  exact ⟨rfl, below_drewN w n⟩
/-- What wordOf reads: mask and bits. -/
def wordR (l : List UInt8) : Int × Int := if l = [42] then (0, 0) else if (Lib.cut l [47]).2.2 = true then (numI (Lib.cut l [47]).2.1, numI (Lib.cut l [47]).1) else (65535, numI (Lib.cut l [47]).1)
set_option maxRecDepth 100000 in
set_option maxHeartbeats 1600000 in
theorem wordOf_any (s : ByteArray) (w : World) (hs : s.size ≤ 1000000) (hg : GOk w) :
    Calls Tryd.prog 100 #[.string s] w fun e w' => e = .returned (.tuple #[.int .i64 (wordR s.data.toList).1, .int .i64 (wordR s.data.toList).2]) ∧ Below w.heap.size w w' := by
  have hlen : s.data.toList.length = s.size := bytes_size s
  by_cases hstar : s = { data := #[42] }
  · subst hstar
    have e : wordR ({ data := #[42] } : ByteArray).data.toList = (0, 0) := if_pos rfl
    rw [e]
    go_enter Tryd.func100, Tryd.ntmps100
    go_wp2
    go_ret2
    exact ⟨rfl, Below.refl _ _⟩
  · have hne : ¬ s.data.toList = [42] := fun h => hstar (by
      cases s with
      | mk d => cases d with
        | mk l => rw [show l = [42] from h])
    have hbq : (s.toList == [42]) = false := beq_eq_false_iff_ne.2 (fun e => hne (by rw [← ByteArray.toList_eq]; exact e))
    have hcl := cut_len s.data.toList [47]
    have hcut := scut_any s
    obtain ⟨R, hR⟩ : ∃ R, Hid (wordR s.data.toList = R) := ⟨_, rfl⟩
    have hRe : (if (Lib.cut s.data.toList [47]).2.2 = true then (numI (Lib.cut s.data.toList [47]).2.1, numI (Lib.cut s.data.toList [47]).1) else (65535, numI (Lib.cut s.data.toList [47]).1)) = R := by
      rw [← hR.out]; unfold wordR; rw [if_neg hne]
    rw [hR.out]
    obtain ⟨C1, hC1⟩ : ∃ C, (Lib.cut s.data.toList [47]).1 = C := ⟨_, rfl⟩
    obtain ⟨C2, hC2⟩ : ∃ C, (Lib.cut s.data.toList [47]).2.1 = C := ⟨_, rfl⟩
    obtain ⟨C3, hC3⟩ : ∃ C, (Lib.cut s.data.toList [47]).2.2 = C := ⟨_, rfl⟩
    rw [hC1, hC2] at hcl
    rw [hC1, hC2, hC3] at hRe
    have hc := hcut w hs hg
    rw [hC1, hC2, hC3] at hc
    have HC := Lib.hid hc
    have n1 := number_any (⟨C1.toArray⟩ : ByteArray)
    have n2 := number_any (⟨C2.toArray⟩ : ByteArray)
    rw [arr_list] at n1 n2
    have N1 := Lib.hid (fun w => n1 w (by rw [arr_size]; omega))
    have N2 := Lib.hid (fun w => n2 w (by rw [arr_size]; omega))
    have HRE := Lib.hid hRe
    clear hC1 hC2 hC3 hc hcut n1 n2 hRe hcl hlen hR hne hg
    go_enter Tryd.func100, Tryd.ntmps100
    go_wp2_with fail
    (with_reducible refine HC.out.mono ?_)
    rintro e w1 ⟨rfl, hb1⟩
    cases C3 with
    | false =>
      have hRv : Hid ((65535, numI C1) = R) := by
        have : (65535, numI C1) = R := HRE.out
        exact this
      go_wp2_with fail
      (with_reducible refine (N1.out _).mono ?_)
      rintro e w2 ⟨rfl, rfl⟩
      go_wp2
      go_ret2
      exact ⟨by rw [← hRv.out]; rfl, hb1⟩
    | true =>
      have hRv : Hid ((numI C2, numI C1) = R) := by
        have : (numI C2, numI C1) = R := HRE.out
        exact this
      go_wp2_with fail
      (with_reducible refine (N2.out _).mono ?_)
      rintro e w2 ⟨rfl, rfl⟩
      go_wp2_with fail
      (with_reducible refine (N1.out _).mono ?_)
      rintro e w2 ⟨rfl, rfl⟩
      go_wp2
      go_ret2
      exact ⟨by rw [← hRv.out]; rfl, hb1⟩
end Go.Proofs.YtbldnhpbmfmepaaDoor

/-
  Contract of the walk over Parse. Conditions: at most a million bytes; the library's variable lies there.
-/
namespace Go.Proofs.YtbldnhpbmfmepaaDoor
set_option linter.unusedVariables false
set_option linter.unusedSimpArgs false
open Go.RowKit Go.Shelf

/-- The texts of the words. -/
def wordsOf (s : ByteArray) : List ByteArray := Lib.splitB { data := #[32] } 0 (min 11 (s.size + 1) - 1) s
def maskI (s : ByteArray) : List Int := (wordsOf s).map fun t => (wordR t.data.toList).1
def bitsI (s : ByteArray) : List Int := (wordsOf s).map fun t => (wordR t.data.toList).2
theorem splitB_size (sep : ByteArray) : ∀ (k : Nat) (s t : ByteArray), t ∈ Lib.splitB sep 0 k s → t.size ≤ s.size
  | 0, s, t, h => by
    rw [List.mem_singleton.1 h]; exact Nat.le_refl _
  | k + 1, s, t, h => by
    unfold Lib.splitB at h
    split at h
    · rw [List.mem_singleton.1 h]; exact Nat.le_refl _
    · rcases List.mem_cons.1 h with h | h
      · rw [h, ByteArray.size_extract]; omega
      · have := splitB_size sep k _ t h
        rw [ByteArray.size_extract] at this
        omega
/-- A row of raw words that is filled to k. -/
def rawK (l : List Int) (k : Nat) : List Int := l.take k ++ List.replicate (10 - k) 0
theorem rawK_length {l : List Int} (hl : l.length = 10) {k : Nat} (hk : k ≤ 10) : (rawK l k).length = 10 := by
  unfold rawK; rw [List.length_append, List.length_take, List.length_replicate]; omega
theorem rawK_all {l : List Int} (hl : l.length = 10) : rawK l 10 = l := by
  unfold rawK; rw [List.take_of_length_le (by omega)]; exact List.append_nil _
theorem rawK_put {l : List Int} {x : Int} {R : List Value} (hl : l.length = 10) : ∀ {k : Nat}, k < 10 → l[k]? = some x → splice ((rawK l k).map iV ++ R) k [iV x] = (rawK l (k + 1)).map iV ++ R := by
  obtain ⟨a0, a1, a2, a3, a4, a5, a6, a7, a8, a9, rfl⟩ := list10 hl
  intro k hk hx
  match k, hk with
  | 0, _ => simp at hx; subst hx; rfl
  | 1, _ => simp at hx; subst hx; rfl
  | 2, _ => simp at hx; subst hx; rfl
  | 3, _ => simp at hx; subst hx; rfl
  | 4, _ => simp at hx; subst hx; rfl
  | 5, _ => simp at hx; subst hx; rfl
  | 6, _ => simp at hx; subst hx; rfl
  | 7, _ => simp at hx; subst hx; rfl
  | 8, _ => simp at hx; subst hx; rfl
  | 9, _ => simp at hx; subst hx; rfl
theorem rawK_put2 {l P : List Int} {x : Int} (hP : P.length = 10) (hl : l.length = 10) : ∀ {k : Nat}, k < 10 → l[k]? = some x → splice (P.map iV ++ (rawK l k).map iV) (10 + k) [iV x] = P.map iV ++ (rawK l (k + 1)).map iV := by
  obtain ⟨b0, b1, b2, b3, b4, b5, b6, b7, b8, b9, rfl⟩ := list10 hP
  intro k hk hx
  have h := rawK_put (R := []) hl hk hx
  rw [List.append_nil, List.append_nil] at h
  rw [← h]
  match k, hk with
  | 0, _ => rfl
  | 1, _ => rfl
  | 2, _ => rfl
  | 3, _ => rfl
  | 4, _ => rfl
  | 5, _ => rfl
  | 6, _ => rfl
  | 7, _ => rfl
  | 8, _ => rfl
  | 9, _ => rfl
/-- What Parse answers. -/
def ParseR (s : ByteArray) (e : Ending) : Prop :=
  (∃ p : Pat, p.ok ∧ (wordsOf s).length = 10 ∧ HI p.m = maskI s ∧ HI p.b = bitsI s ∧ textTo p 10 = s.data.toList ∧ e = .returned (.tuple #[.agg p.cells.toArray, .int .i64 0])) ∨
    (e = .returned (.tuple #[.agg (H no ++ H no).toArray, .int .i64 3]) ∧ ∀ p : Pat, p.ok → (wordsOf s).length = 10 → HI p.m = maskI s → HI p.b = bitsI s → textTo p 10 ≠ s.data.toList)
theorem ssplit_any (s : ByteArray) (w : World) (hs : s.size ≤ 1000000) (hg : GOk w) :
    Calls Tryd.prog 99 #[.string s, .string { data := #[32] }, .int .i64 11] w fun e w' => ∃ g c R, e = .returned (.slice (some ⟨g, 0, none⟩) (wordsOf s).length c) ∧ Hid (g = w.heap.size) ∧ Blk w' g 9 ((wordsOf s).map Value.string ++ R) ∧ Below w.heap.size w w' := by
  obtain ⟨m, hm⟩ := hg
  refine Calls.mono (Any.strings_SplitN Tryd.splitA (by kernel_rfl) s { data := #[32] } 11 m w (by omega) hm (by decide) (by decide) (by decide)) ?_
  rintro e w' ⟨rfl, rfl⟩
  exact ⟨_, _, _, rfl, rfl, blk_new w _ _, below_new w _⟩
theorem textTo_same {p q : Pat} (h1 : ∀ i, i < 160 → p.m i = q.m i) (h2 : ∀ i, i < 160 → p.b i = q.b i) : textTo p 10 = textTo q 10 := by
  have key : ∀ k, k ≤ 10 → textTo p k = textTo q k := by
    intro k
    induction k with
    | zero => intro _; rfl
    | succ n ih =>
      intro hn
      have e1 : word p.m n = word q.m n := word_congr fun i hi => h1 i (by omega)
      have e2 : word p.b n = word q.b n := word_congr fun i hi => h2 i (by omega)
      unfold textTo
      rw [ih (by omega), e1, e2]
  exact key 10 (by omega)
def PaRel (s : ByteArray) (M B : List Int) (g2 g4 g5 : Nat) (R : List Value) (w : World) (i : Value) (wr : World) : Prop :=
  ∃ k : Nat, k ≤ 10 ∧ i = .int .i64 (k : Int) ∧ Blk wr g2 25 (H no ++ H no) ∧ Blk wr g4 25 ((rawK M k).map iV ++ (rawK B k).map iV) ∧ Blk wr g5 9 ((wordsOf s).map Value.string ++ R) ∧ Below w.heap.size w wr
theorem raw_zero (l r : List Int) : H no ++ H no = (rawK l 0).map iV ++ (rawK r 0).map iV := by
  rw [H_rep]; rfl
set_option maxRecDepth 100000 in
set_option maxHeartbeats 1600000 in
theorem parse_any (s : ByteArray) (w : World) (hs : s.size ≤ 1000000) (hg : GOk w) :
    Calls Tryd.prog 66 #[.string s] w fun e w' => ParseR s e ∧ Below w.heap.size w w' := by
  have HG := Lib.hid hg
  obtain ⟨M, hM⟩ : ∃ M, Hid (maskI s = M) := ⟨_, rfl⟩
  obtain ⟨B, hB⟩ : ∃ B, Hid (bitsI s = B) := ⟨_, rfl⟩
  obtain ⟨L, hL⟩ : ∃ L, Hid ((wordsOf s).length = L) := ⟨_, rfl⟩
  clear hg
  go_enter Tryd.func66, Tryd.ntmps66
  go_wp2_with (with_reducible refine wpList_alloc (o := ⟨some 2, .alloc 25, _, _, _, _⟩) (by with_unfolding_all rfl) 25 (by with_unfolding_all rfl) (.agg (H no ++ H no).toArray) (H no ++ H no) (by exact Tryd.zeroPt) (by with_unfolding_all rfl) ?_)
  intro g2 w1 hg2 hs1 hb1 hB2
  have hl2 : w.heap.size ≤ g2 := Nat.le_of_eq hg2.out.symm
  have hbe : Below w.heap.size w w1 := hb1.mono hl2
  clear hb1 hs1 hg2
  go_wp2_with (with_reducible refine wpList_alloc (o := ⟨some 4, .alloc 25, _, _, _, _⟩) (by with_unfolding_all rfl) 25 (by with_unfolding_all rfl) (.agg (H no ++ H no).toArray) (H no ++ H no) (by exact Tryd.zeroPt) (by with_unfolding_all rfl) ?_)
  intro g4 w2 hg4 hs2 hb2 hB4
  have hb2' := hb2.mono (Nat.le_of_eq hg4.out.symm)
  have h24 : g2 < g4 := by have := hB2.lt; have := hg4.out; omega
  have hB2 := hB2.next hb2' hB2.lt
  have hbe := below_join hbe hb2'
  have HSP := Lib.hid (ssplit_any s w2 hs (HG.out.next hbe))
  clear hb2 hb2' hs2 hg4
  go_wp2_with fail
  (with_reducible refine HSP.out.mono ?_)
  rintro e w3 ⟨g5, c5, R, rfl, hg5, hB5, hb3⟩
  have h45 : g4 < g5 := by have := hB4.lt; have := hg5.out; omega
  have hB2 := hB2.next hb3 hB2.lt
  have hB4 := hB4.next hb3 hB4.lt
  have hbe := below_join hbe hb3
  rw [hL.out]
  clear hb3 hg5 HSP
  by_cases hL10 : L = 10
  · subst hL10
    have HML : Hid (M.length = 10) := by
      have : M.length = 10 := by rw [← hM.out, ← hL.out]; exact List.length_map _
      exact this
    have HBL : Hid (B.length = 10) := by
      have : B.length = 10 := by rw [← hB.out, ← hL.out]; exact List.length_map _
      exact this
    rw [raw_zero M B] at hB4
    go_wp2
    go_loopw [16] (PaRel s M B g2 g4 g5 R w) (fun i _ => 10 - (intOf i).toNat)
    case atStart => exact ⟨0, by omega, rfl, hB2, hB4, hB5, hbe⟩
    case round =>
      clear hB2 hB4 hB5 hbe
      obtain ⟨k, hk, rfl, hB2, hB4, hB5, hbe⟩ := hrel
      by_cases hlt : k < 10
      · obtain ⟨t, ht⟩ : ∃ t, (wordsOf s)[k]? = some t := ⟨_, List.getElem?_eq_getElem (by rw [hL.out]; exact hlt)⟩
        have htl : t.size ≤ 1000000 := Nat.le_trans (splitB_size _ _ _ _ (List.mem_of_getElem? ht)) hs
        have hct : (((wordsOf s).map Value.string) ++ R)[k]? = some (.string t) := by
          rw [List.getElem?_append_left (by rw [List.length_map, hL.out]; exact hlt), List.getElem?_map, ht]; rfl
        obtain ⟨x, hx⟩ : ∃ x, (wordR t.data.toList).1 = x := ⟨_, rfl⟩
        obtain ⟨y, hy⟩ : ∃ y, (wordR t.data.toList).2 = y := ⟨_, rfl⟩
        have hMx : M[k]? = some x := by rw [← hM.out, ← hx]; unfold maskI; rw [List.getElem?_map, ht]; rfl
        have hBy : B[k]? = some y := by rw [← hB.out, ← hy]; unfold bitsI; rw [List.getElem?_map, ht]; rfl
        have hwo := wordOf_any t wr htl (HG.out.next hbe)
        rw [hx, hy] at hwo
        have HWO := Lib.hid hwo
        have HP1 := Lib.hid (rawK_put (R := (rawK B k).map iV) HML.out hlt hMx)
        have HP2 := Lib.hid (rawK_put2 (rawK_length HML.out (show k + 1 ≤ 10 by omega)) HBL.out hlt hBy)
        have HKL : Hid (((rawK M k).map iV ++ (rawK B k).map iV).length = 20) := by
          have : ((rawK M k).map iV ++ (rawK B k).map iV).length = 20 := by rw [List.length_append, List.length_map, List.length_map, rawK_length HML.out hk, rawK_length HBL.out hk]
          exact this
        have HKL2 : Hid (((rawK M (k + 1)).map iV ++ (rawK B k).map iV).length = 20) := by
          have : ((rawK M (k + 1)).map iV ++ (rawK B k).map iV).length = 20 := by rw [List.length_append, List.length_map, List.length_map, rawK_length HML.out (show k + 1 ≤ 10 by omega), rawK_length HBL.out hk]
          exact this
        have hk0 : (0 : Int) ≤ (k : Int) := by omega
        have hk10 : (k : Int) < 10 := by omega
        have cw := hB5.cell hct
        clear ht hct hx hy hMx hBy hwo htl
        go_wp2_with fail
        (with_reducible refine HWO.out.mono ?_)
        rintro e w5 ⟨rfl, hb5⟩
        have hB2 := hB2.next hb5 hB2.lt
        have hB4 := hB4.next hb5 hB4.lt
        have hB5 := hB5.next hb5 hB5.lt
        have hbe := below_join hbe hb5
        clear hb5 cw HWO
        go_wp2_with (with_reducible refine wpList_put (o := ⟨none, .store 3 (.tmp 29) (.tmp 26), _, _, _, _⟩) (by with_unfolding_all rfl) 3 (.tmp 29) (.tmp 26) (by with_unfolding_all rfl) g4 k (by with_unfolding_all rfl) (iV x) (by with_unfolding_all rfl) hB4 [iV x] (by with_unfolding_all rfl) (by with_unfolding_all (exact Tryd.szI)) (by with_unfolding_all (rw [HKL.out]; show k + 1 ≤ 20; omega)) (by with_unfolding_all (exact one_cell1 rfl)) ?_)
        intro w6 hu6 hB6
        rw [HP1.out] at hB6
        have hB2 := hB2.upd hu6 (by omega)
        have hB5 := hB5.upd hu6 (by omega)
        have hbe := hbe.trans (hu6.below (B := w.heap.size) (by omega))
        clear hu6 hB4
        go_wp2_with (with_reducible refine wpList_put (o := ⟨none, .store 3 (.tmp 31) (.tmp 27), _, _, _, _⟩) (by with_unfolding_all rfl) 3 (.tmp 31) (.tmp 27) (by with_unfolding_all rfl) g4 (10 + k) (by with_unfolding_all rfl) (iV y) (by with_unfolding_all rfl) hB6 [iV y] (by with_unfolding_all rfl) (by with_unfolding_all (exact Tryd.szI)) (by with_unfolding_all (rw [HKL2.out]; show 10 + k + 1 ≤ 20; omega)) (by with_unfolding_all (exact one_cell1 rfl)) ?_)
        intro w7 hu7 hB7
        rw [HP2.out] at hB7
        have hB2 := hB2.upd hu7 (by omega)
        have hB5 := hB5.upd hu7 (by omega)
        have hbe := hbe.trans (hu7.below (B := w.heap.size) (by omega))
        clear hu7 hB6
        go_wp2
        go_roundw
        case rel => exact ⟨k + 1, by omega, by go_num, hB2, hB7, hB5, hbe⟩
        case measure => simp [intOf]; omega
      · obtain rfl : k = 10 := by omega
        rw [rawK_all HML.out, rawK_all HBL.out] at hB4
        clear hB5
        have hzR : (Tryd.prog.info? 25).map (·.size) = some (M.map iV ++ B.map iV).length := by rw [List.length_append, List.length_map, List.length_map, HML.out, HBL.out]; exact Tryd.szP
        obtain ⟨D, hD⟩ : ∃ D, pairI M B = D := ⟨_, rfl⟩
        have hri := fun w => right_any M B w HML.out HBL.out
        rw [hD] at hri
        have HRI := Lib.hid hri
        clear hri
        go_wp2_with (with_reducible refine wpList_get (o := ⟨some 33, .load 25 (.tmp 4), _, _, _, _⟩) (by with_unfolding_all rfl) 25 (.tmp 4) (by with_unfolding_all rfl) g4 0 (by with_unfolding_all rfl) hB4 (M.map iV ++ B.map iV) (cs_all _) _ (by exact Tryd.underlying25) (by with_unfolding_all rfl) hzR ?_)
        (with_reducible refine (HRI.out _).mono ?_)
        rintro e w5 ⟨rfl, hb5⟩
        have hB2 := hB2.next hb5 hB2.lt
        have hB4 := hB4.next hb5 hB4.lt
        have hbe := below_join hbe hb5
        clear hb5 HRI
        cases D with
        | false =>
          have HNO : Hid (∀ p : Pat, p.ok → (wordsOf s).length = 10 → HI p.m = maskI s → HI p.b = bitsI s → textTo p 10 ≠ s.data.toList) := by
            have : ∀ p : Pat, p.ok → (wordsOf s).length = 10 → HI p.m = maskI s → HI p.b = bitsI s → textTo p 10 ≠ s.data.toList := fun p hp _ h1 h2 _ => by
              have h3 := pat_right hp
              rw [h1, h2, hM.out, hB.out, hD] at h3
              cases h3
            exact this
          clear hD hB4 hzR
          go_wp2_with (first | (with_reducible refine wpList_build (o := ⟨some 42, .build 25 #[], _, _, _, _⟩) (by with_unfolding_all rfl) 25 #[] (by with_unfolding_all rfl) #[] (by with_unfolding_all rfl) (.agg (H no ++ H no).toArray) (by with_unfolding_all exact fun w => run_buildP0 w) ?_) | (with_reducible refine wpList_put (o := ⟨none, .store 25 (.tmp 2) (.tmp 42), _, _, _, _⟩) (by with_unfolding_all rfl) 25 (.tmp 2) (.tmp 42) (by with_unfolding_all rfl) g2 0 (by with_unfolding_all rfl) (.agg (H no ++ H no).toArray) (by with_unfolding_all rfl) hB2 (H no ++ H no) (by with_unfolding_all rfl) (by with_unfolding_all (rw [List.length_append, H_length]; exact Tryd.szP)) (by with_unfolding_all (rw [List.length_append, H_length]; omega)) (by with_unfolding_all (exact cells_one Pat.zero)) ?_))
          intro w9 hu9 hB9
          rw [splice_all _ _ rfl] at hB9
          have hfin := hbe.trans (hu9.below (B := w.heap.size) hl2)
          go_wp2
          exact bodyPost_ret (results_cell_two rfl _ _ g2 _ _ _ _ _ rfl rfl hB9 Tryd.underlying25 rfl (by rw [List.size_toArray, List.length_append, H_length]; exact Tryd.szP)) rfl ⟨.inr ⟨rfl, HNO.out⟩, hfin⟩
        | true =>
          obtain ⟨p, hp, hpm, hpb⟩ := right_pat HML.out HBL.out hD
          have hpc : M.map iV ++ B.map iV = p.cells := by rw [← hpm, ← hpb]; unfold Pat.cells; rw [H_iV, H_iV]
          rw [hpc] at hB4 hzR
          obtain ⟨T, hT⟩ : ∃ T : ByteArray, Hid ((⟨(textTo p 10).toArray⟩ : ByteArray) = T) := ⟨_, rfl⟩
          have htx := fun w => text_any p w
          rw [hT.out] at htx
          have HTX := Lib.hid htx
          have HPM := Lib.hid hpm
          have HPB := Lib.hid hpb
          have HP := Lib.hid hp
          clear htx hpc hD hpm hpb hp
          go_wp2_with (with_reducible refine wpList_getg (o := ⟨some 37, .load 25 (.tmp 4), _, _, _, _⟩) (by with_unfolding_all rfl) 25 (.tmp 4) (by with_unfolding_all rfl) g4 0 (by with_unfolding_all rfl) hB4 p.cells (cs_all _) _ (by exact Tryd.underlying25) (by with_unfolding_all rfl) hzR ?_)
          (with_reducible refine (HTX.out _).mono ?_)
          rintro e w6 ⟨rfl, hb6⟩
          have hB2 := hB2.next hb6 hB2.lt
          have hB4 := hB4.next hb6 hB4.lt
          have hbe := below_join hbe hb6
          clear hb6 HTX
          by_cases hts : T = s
          · have HTS : Hid (textTo p 10 = s.data.toList) := by
              have : textTo p 10 = s.data.toList := by rw [← hts, ← hT.out]
              exact this
            have hbq : (T.toList == s.toList) = true := by rw [hts]; exact beq_self_eq_true _
            clear hT hts
            go_wp2_with (first | (with_reducible refine wpList_get (o := ⟨some 43, .load 25 (.tmp 4), _, _, _, _⟩) (by with_unfolding_all rfl) 25 (.tmp 4) (by with_unfolding_all rfl) g4 0 (by with_unfolding_all rfl) hB4 p.cells (cs_all _) _ (by exact Tryd.underlying25) (by with_unfolding_all rfl) hzR ?_) | (with_reducible refine wpList_put (o := ⟨none, .store 25 (.tmp 2) (.tmp 43), _, _, _, _⟩) (by with_unfolding_all rfl) 25 (.tmp 2) (.tmp 43) (by with_unfolding_all rfl) g2 0 (by with_unfolding_all rfl) (.agg p.cells.toArray) (by with_unfolding_all rfl) hB2 p.cells (by with_unfolding_all rfl) (by with_unfolding_all (exact hzR)) (by with_unfolding_all (rw [Pat.cells_length, List.length_append, H_length]; omega)) (by with_unfolding_all (exact cells_one p)) ?_))
            intro w9 hu9 hB9
            rw [splice_all _ _ (by rw [Pat.cells_length, List.length_append, H_length])] at hB9
            have hfin := hbe.trans (hu9.below (B := w.heap.size) hl2)
            go_wp2
            exact bodyPost_ret (results_cell_two rfl _ _ g2 _ _ _ _ _ rfl rfl hB9 Tryd.underlying25 rfl (by rw [List.size_toArray]; exact hzR)) rfl ⟨.inl ⟨p, HP.out, hL.out, by rw [HPM.out, hM.out], by rw [HPB.out, hB.out], HTS.out, rfl⟩, hfin⟩
          · have hnt : ¬ textTo p 10 = s.data.toList := fun e => hts (by
              rw [← hT.out, e])
            have hbq : (T.toList == s.toList) = false := beq_eq_false_iff_ne.2 (fun e => hnt (by
              rw [ByteArray.toList_eq, ByteArray.toList_eq, ← hT.out] at e; exact e))
            have HNO : Hid (∀ p : Pat, p.ok → (wordsOf s).length = 10 → HI p.m = maskI s → HI p.b = bitsI s → textTo p 10 ≠ s.data.toList) := by
              have : ∀ p : Pat, p.ok → (wordsOf s).length = 10 → HI p.m = maskI s → HI p.b = bitsI s → textTo p 10 ≠ s.data.toList := fun q hq _ h1 h2 h3 => hnt (by
                rw [← h3]
                exact textTo_same (fun i hi => HI_inj (by rw [HPM.out, h1, hM.out]) i hi) (fun i hi => HI_inj (by rw [HPB.out, h2, hB.out]) i hi))
              exact this
            clear hT hts hnt hB4 hzR
            go_wp2_with (first | (with_reducible refine wpList_build (o := ⟨some 42, .build 25 #[], _, _, _, _⟩) (by with_unfolding_all rfl) 25 #[] (by with_unfolding_all rfl) #[] (by with_unfolding_all rfl) (.agg (H no ++ H no).toArray) (by with_unfolding_all exact fun w => run_buildP0 w) ?_) | (with_reducible refine wpList_put (o := ⟨none, .store 25 (.tmp 2) (.tmp 42), _, _, _, _⟩) (by with_unfolding_all rfl) 25 (.tmp 2) (.tmp 42) (by with_unfolding_all rfl) g2 0 (by with_unfolding_all rfl) (.agg (H no ++ H no).toArray) (by with_unfolding_all rfl) hB2 (H no ++ H no) (by with_unfolding_all rfl) (by with_unfolding_all (rw [List.length_append, H_length]; exact Tryd.szP)) (by with_unfolding_all (rw [List.length_append, H_length]; omega)) (by with_unfolding_all (exact cells_one Pat.zero)) ?_))
            intro w9 hu9 hB9
            rw [splice_all _ _ rfl] at hB9
            have hfin := hbe.trans (hu9.below (B := w.heap.size) hl2)
            go_wp2
            exact bodyPost_ret (results_cell_two rfl _ _ g2 _ _ _ _ _ rfl rfl hB9 Tryd.underlying25 rfl (by rw [List.size_toArray, List.length_append, H_length]; exact Tryd.szP)) rfl ⟨.inr ⟨rfl, HNO.out⟩, hfin⟩
  · have HNO : Hid (∀ p : Pat, p.ok → (wordsOf s).length = 10 → HI p.m = maskI s → HI p.b = bitsI s → textTo p 10 ≠ s.data.toList) := by
      have : ∀ p : Pat, p.ok → (wordsOf s).length = 10 → HI p.m = maskI s → HI p.b = bitsI s → textTo p 10 ≠ s.data.toList := fun p _ h _ _ _ => hL10 (by rw [← hL.out]; exact h)
      exact this
    have hLi : ¬ ((L : Int) = 10) := by omega
    clear hB4 hB5 hL10
    go_wp2_with (first | (with_reducible refine wpList_build (o := ⟨some 13, .build 25 #[], _, _, _, _⟩) (by with_unfolding_all rfl) 25 #[] (by with_unfolding_all rfl) #[] (by with_unfolding_all rfl) (.agg (H no ++ H no).toArray) (by with_unfolding_all exact fun w => run_buildP0 w) ?_) | (with_reducible refine wpList_put (o := ⟨none, .store 25 (.tmp 2) (.tmp 13), _, _, _, _⟩) (by with_unfolding_all rfl) 25 (.tmp 2) (.tmp 13) (by with_unfolding_all rfl) g2 0 (by with_unfolding_all rfl) (.agg (H no ++ H no).toArray) (by with_unfolding_all rfl) hB2 (H no ++ H no) (by with_unfolding_all rfl) (by with_unfolding_all (rw [List.length_append, H_length]; exact Tryd.szP)) (by with_unfolding_all (rw [List.length_append, H_length]; omega)) (by with_unfolding_all (exact cells_one Pat.zero)) ?_))
    intro w9 hu9 hB9
    rw [splice_all _ _ rfl] at hB9
    have hfin := hbe.trans (hu9.below (B := w.heap.size) hl2)
    go_wp2
    exact bodyPost_ret (results_cell_two rfl _ _ g2 _ _ _ _ _ rfl rfl hB9 Tryd.underlying25 rfl (by rw [List.size_toArray, List.length_append, H_length]; exact Tryd.szP)) rfl ⟨.inr ⟨rfl, HNO.out⟩, hfin⟩
end Go.Proofs.YtbldnhpbmfmepaaDoor

/-
  Contract of the walk over Range at arguments that are refused. Conditions: none.
-/
namespace Go.Proofs.YtbldnhpbmfmepaaDoor
set_option linter.unusedVariables false
set_option linter.unusedSimpArgs false
open Go.RowKit

/-- What Range accepts. -/
def rangeOk (a wd lo hi : Int) : Prop := 1 ≤ wd ∧ wd ≤ 16 ∧ 0 ≤ a ∧ a ≤ 160 - wd ∧ a % 16 + wd ≤ 16 ∧ 0 ≤ lo ∧ lo ≤ hi ∧ hi < ((2 ^ wd.toNat : Nat) : Int)
set_option maxRecDepth 100000 in
set_option maxHeartbeats 1600000 in
theorem range_bad (a wd lo hi : Int) (w : World) (h : ¬ rangeOk a wd lo hi) :
    Calls Tryd.prog 64 #[.int .i64 a, .int .i64 wd, .int .i64 lo, .int .i64 hi] w fun e w' => e = .returned (.tuple #[.slice none 0 0, .int .i64 1]) ∧ w = w' := by
  have HB := Lib.hid h
  clear h
  by_cases c1 : wd < 1
  ·
    go_enter Tryd.func64, Tryd.ntmps64
    go_wp2
    go_ret2
    exact ⟨rfl, rfl⟩
  by_cases c2 : wd > 16
  ·
    go_enter Tryd.func64, Tryd.ntmps64
    go_wp2
    go_ret2
    exact ⟨rfl, rfl⟩
  by_cases c3 : a < 0
  ·
    go_enter Tryd.func64, Tryd.ntmps64
    go_wp2
    go_ret2
    exact ⟨rfl, rfl⟩
  obtain ⟨n, rfl⟩ : ∃ n : Nat, wd = (n : Int) := ⟨wd.toNat, by omega⟩
  obtain ⟨b, rfl⟩ : ∃ b : Nat, a = (b : Int) := ⟨a.toNat, by omega⟩
  have hw1 : IntKind.i64.wrap (160 - (n : Int)) = 160 - (n : Int) := by simp only [IntKind.wrap_i64]; omega
  by_cases c4 : (b : Int) > 160 - (n : Int)
  ·
    go_enter Tryd.func64, Tryd.ntmps64
    go_wp2
    go_ret2
    exact ⟨rfl, rfl⟩
  obtain ⟨r, hr⟩ : ∃ r : Nat, Hid (b % 16 = r) := ⟨_, rfl⟩
  have hrd : (b : Int).tmod 16 = (r : Int) := by rw [Int.tmod_eq_emod_of_nonneg (by omega), ← hr.out]; rfl
  have hr16 : r < 16 := by have := hr.out; omega
  have hw2 : IntKind.i64.wrap (r : Int) = (r : Int) := by simp only [IntKind.wrap_i64]; omega
  have hw3 : IntKind.i64.wrap ((r : Int) + (n : Int)) = (r : Int) + (n : Int) := by simp only [IntKind.wrap_i64]; omega
  by_cases c5 : (r : Int) + (n : Int) > 16
  ·
    go_enter Tryd.func64, Tryd.ntmps64
    go_wp2
    go_ret2
    exact ⟨rfl, rfl⟩
  by_cases c6 : lo < 0
  ·
    go_enter Tryd.func64, Tryd.ntmps64
    go_wp2
    go_ret2
    exact ⟨rfl, rfl⟩
  by_cases c7 : lo > hi
  ·
    go_enter Tryd.func64, Tryd.ntmps64
    go_wp2
    go_ret2
    exact ⟨rfl, rfl⟩
  obtain ⟨PW, hPW⟩ : ∃ PW : Nat, Hid (2 ^ n = PW) := ⟨_, rfl⟩
  have hsh : ((2 : Int) ^ n) = (PW : Int) := by rw [← hPW.out, Int.natCast_pow]; rfl
  have hPWl : PW ≤ 65536 := by rw [← hPW.out]; exact Nat.pow_le_pow_right (by decide) (show n ≤ 16 by omega)
  have hw4 : IntKind.i64.wrap (PW : Int) = (PW : Int) := by simp only [IntKind.wrap_i64]; omega
  by_cases c8 : hi ≥ (PW : Int)
  ·
    go_enter Tryd.func64, Tryd.ntmps64
    go_wp2
    go_ret2
    exact ⟨rfl, rfl⟩
  refine absurd ?_ HB.out
  have := hr.out
  exact ⟨by omega, by omega, by omega, by omega, by omega, by omega, by omega, by rw [Int.toNat_natCast, hPW.out]; omega⟩
end Go.Proofs.YtbldnhpbmfmepaaDoor

/-
  What the statements' examples give, in plain words. Conditions: none.
-/
namespace Go.Proofs.YtbldnhpbmfmepaaDoor
set_option linter.unusedVariables false
set_option linter.unusedSimpArgs false
open Go.RowKit

/-- The words of a pattern as numbers. -/
def Pat.raw (p : Pat) : List Int × List Int := (HI p.m, HI p.b)
def hd (n : Nat) : Nat → Bool := bitsOf (word0 n)
/-- The tag of the examples. -/
def tagP : Pat := ⟨fun i => decide (144 ≤ i), fun i => decide (157 ≤ i)⟩
def tagS : ByteArray := { data := #[42, 32, 42, 32, 42, 32, 42, 32, 42, 32, 42, 32, 42, 32, 42, 32, 42, 32, 48, 48, 48, 55] }
theorem sane_and : ((Pat.first 32768 0).andV (Pat.first 16384 16384)).raw = (Pat.first 49152 16384).raw ∧ (Pat.first 32768 0).over (Pat.first 16384 16384) ∧ ¬ (Pat.first 32768 0).over (Pat.first 32768 32768) := by decide +kernel
theorem sane_join : (Pat.first 49152 0).joins (Pat.first 49152 16384) = true ∧ ((Pat.first 49152 0).joinV (Pat.first 49152 16384)).raw = (Pat.first 32768 0).raw ∧ (Pat.first 49152 0).joins (Pat.first 49152 49152) = false := by decide +kernel
theorem sane_minus : ((Pat.first 0 0).minus (Pat.first 49152 16384)).map Pat.raw = [(Pat.first 32768 32768).raw, (Pat.first 49152 0).raw] := by decide +kernel
theorem sane_range : (rangeL 0 3 1 6).map Pat.raw = [(Pat.first 57344 8192).raw, (Pat.first 49152 16384).raw, (Pat.first 49152 32768).raw, (Pat.first 57344 49152).raw] := by decide +kernel
theorem sane_text : textTo tagP 10 = tagS.data.toList := by decide +kernel
theorem sane_tag : HI tagP.m = [0, 0, 0, 0, 0, 0, 0, 0, 0, 65535] ∧ HI tagP.b = [0, 0, 0, 0, 0, 0, 0, 0, 0, 7] := by decide +kernel
theorem sane_parse : (wordsOf tagS).length = 10 ∧ HI tagP.m = maskI tagS ∧ HI tagP.b = bitsI tagS := by decide +kernel
theorem first_ok : (Pat.first 0 0).ok ∧ (Pat.first 32768 0).ok ∧ (Pat.first 49152 32768).ok ∧ tagP.ok := by
  refine ⟨?_, ?_, ?_, ?_⟩ <;> (unfold Pat.ok; decide +kernel)
theorem sane_m1 : ∀ i, i < 160 → (Pat.first 32768 0).m i = true → i = 0 := by decide +kernel
theorem sane_m2 : ∀ i, i < 160 → (Pat.first 49152 32768).m i = true → i = 0 ∨ i = 1 := by decide +kernel
theorem sane_m0 : ∀ i, i < 160 → (Pat.first 0 0).m i = false := by decide +kernel
theorem sane_bits : (Pat.first 32768 0).m 0 = true ∧ (Pat.first 32768 0).b 0 = false ∧ (Pat.first 49152 32768).m 1 = true ∧ (Pat.first 49152 32768).b 0 = true ∧ (Pat.first 49152 32768).b 1 = false ∧ hd 49152 0 = true ∧ hd 49152 1 = true := by decide +kernel
theorem sane_hd : ∀ i, i < 160 → hd 49152 i = true → i = 0 ∨ i = 1 := by decide +kernel
theorem sane_out {R : Bnd} (h : Pat.found [Pat.first 32768 0, Pat.first 49152 32768] (Pat.first 0 0) none R) : ∃ f, R = some f ∧ HI f = HI (hd 49152) := by
  obtain ⟨b1, b2, b3, b4, b5, b6, b7⟩ := sane_bits
  have g1 : (Pat.first 0 0).hit (hd 49152) := fun i hi hm => by rw [sane_m0 i hi] at hm; cases hm
  have g2 : ¬ Pat.inSome [Pat.first 32768 0, Pat.first 49152 32768] (hd 49152) := by
    rintro ⟨q, hq, hh⟩
    simp only [List.mem_cons, List.mem_nil_iff, or_false] at hq
    rcases hq with rfl | rfl
    · have := hh 0 (by omega) b1
      rw [b2, b6] at this; cases this
    · have := hh 1 (by omega) b3
      rw [b5, b7] at this; cases this
  rcases h with ⟨m, ⟨hm1, hm2, hm3⟩, _, hR⟩ | ⟨h, _⟩
  · refine ⟨m, hR, HI_congr fun i hi => ?_⟩
    have e0 : m 0 = true := by
      cases e : m 0
      · exact absurd ⟨_, List.mem_cons_self .., fun i hi hi2 => by rw [sane_m1 i hi hi2, e, b2]⟩ hm2
      · rfl
    have e1 : m 1 = true := by
      cases e : m 1
      · exact absurd ⟨_, List.mem_cons_of_mem _ (List.mem_cons_self ..), fun i hi hi2 => by
          rcases sane_m2 i hi hi2 with h | h
          · rw [h, e0, b4]
          · rw [h, e, b5]⟩ hm2
      · rfl
    have hle := hm3 _ g1 g2
    have hge : num (hd 49152) ≤ num m := num_mono fun i hi h => by
      rcases sane_hd i hi h with h | h
      · rw [h, e0]
      · rw [h, e1]
    exact num_inj (Nat.le_antisymm hle hge) hi
  · exact absurd trivial (h _ g1 g2)
end Go.Proofs.YtbldnhpbmfmepaaDoor

/-
  Rows of two and of four patterns; a row that belongs to nobody else holds its patterns; what the statements' examples give. Conditions: none.
-/
namespace Go.Proofs.YtbldnhpbmfmepaaDoor
set_option linter.unusedVariables false
set_option linter.unusedSimpArgs false
open Go.RowKit

theorem own_pats {w : World} {base : Nat} {l : List Pat} {A : Option Addr} {c : Nat} (h : w.ownsRow base 25 20 (.slice A l.length c) l.length (patCells l)) : PatsAt w A l := fun k p hp => by
  have hk : k < l.length := (List.getElem?_eq_some_iff.1 hp).1
  obtain ⟨A', c', hv, hsh⟩ := own_shape h
  injection hv with hA _ _
  subst hA
  rcases hsh with ⟨_, _, h0⟩ | ⟨g, rfl, _, _⟩
  · omega
  · refine ⟨g, 0, rfl, fun q u hu => ?_⟩
    have hq : q < 20 := by have := (List.getElem?_eq_some_iff.1 hu).1; rw [Pat.cells_length] at this; exact this
    have h1 : (patCells l)[k * 20 + q]? = some u := by
      have key : ∀ (l : List Pat) (k : Nat), l[k]? = some p → (patCells l)[k * 20 + q]? = some u := by
        intro l
        induction l with
        | nil => intro k hk; cases hk
        | cons a l ih =>
          intro k hk
          show (a.cells ++ patCells l)[k * 20 + q]? = _
          cases k with
          | zero =>
            have e : a = p := by simpa using hk
            rw [e, List.getElem?_append_left (by rw [Pat.cells_length]; omega)]
            simpa using hu
          | succ k =>
            rw [List.getElem?_append_right (by rw [Pat.cells_length]; omega), Pat.cells_length, show (k + 1) * 20 + q - 20 = k * 20 + q by omega]
            exact ih k (by simpa using hk)
      exact key l k hp
    have h2 := h.cells (g := g) rfl (k * 20 + q) u h1
    rw [addr_mid, ← Nat.add_assoc] at h2
    exact h2
theorem run_slice2 (W : World) (p q : Pat) : (Instr.buildSlice 31 2 #[(0, .agg p.cells.toArray), (1, .agg q.cells.toArray)]).run Tryd.prog W = .ok (.slice (some ⟨W.heap.size, 0, none⟩) 2 2) (W.alloc (.cells (patCells [p, q]).toArray 25)) := by
  show (Instr.buildSlice 31 2 #[(0, .agg (H p.m ++ H p.b).toArray), (1, .agg (H q.m ++ H q.b).toArray)]).run Tryd.prog W = .ok (.slice (some ⟨W.heap.size, 0, none⟩) 2 2) (W.alloc (.cells ((H p.m ++ H p.b) ++ ((H q.m ++ H q.b) ++ [])).toArray 25))
  obtain ⟨a0, a1, a2, a3, a4, a5, a6, a7, a8, a9, e⟩ := list10 (H_length p.m)
  rw [e]
  obtain ⟨b0, b1, b2, b3, b4, b5, b6, b7, b8, b9, e⟩ := list10 (H_length p.b)
  rw [e]
  obtain ⟨c0, c1, c2, c3, c4, c5, c6, c7, c8, c9, e⟩ := list10 (H_length q.m)
  rw [e]
  obtain ⟨d0, d1, d2, d3, d4, d5, d6, d7, d8, d9, e⟩ := list10 (H_length q.b)
  rw [e]
  kernel_rfl
theorem run_slice4 (W : World) (p q r s : Pat) : (Instr.buildSlice 31 4 #[(0, .agg p.cells.toArray), (1, .agg q.cells.toArray), (2, .agg r.cells.toArray), (3, .agg s.cells.toArray)]).run Tryd.prog W = .ok (.slice (some ⟨W.heap.size, 0, none⟩) 4 4) (W.alloc (.cells (patCells [p, q, r, s]).toArray 25)) := by
  show (Instr.buildSlice 31 4 #[(0, .agg (H p.m ++ H p.b).toArray), (1, .agg (H q.m ++ H q.b).toArray), (2, .agg (H r.m ++ H r.b).toArray), (3, .agg (H s.m ++ H s.b).toArray)]).run Tryd.prog W = .ok (.slice (some ⟨W.heap.size, 0, none⟩) 4 4) (W.alloc (.cells ((H p.m ++ H p.b) ++ ((H q.m ++ H q.b) ++ ((H r.m ++ H r.b) ++ ((H s.m ++ H s.b) ++ [])))).toArray 25))
  obtain ⟨a0, a1, a2, a3, a4, a5, a6, a7, a8, a9, e⟩ := list10 (H_length p.m)
  rw [e]
  obtain ⟨b0, b1, b2, b3, b4, b5, b6, b7, b8, b9, e⟩ := list10 (H_length p.b)
  rw [e]
  obtain ⟨c0, c1, c2, c3, c4, c5, c6, c7, c8, c9, e⟩ := list10 (H_length q.m)
  rw [e]
  obtain ⟨d0, d1, d2, d3, d4, d5, d6, d7, d8, d9, e⟩ := list10 (H_length q.b)
  rw [e]
  obtain ⟨e0, e1, e2, e3, e4, e5, e6, e7, e8, e9, e⟩ := list10 (H_length r.m)
  rw [e]
  obtain ⟨f0, f1, f2, f3, f4, f5, f6, f7, f8, f9, e⟩ := list10 (H_length r.b)
  rw [e]
  obtain ⟨g0, g1, g2, g3, g4, g5, g6, g7, g8, g9, e⟩ := list10 (H_length s.m)
  rw [e]
  obtain ⟨h0, h1, h2, h3, h4, h5, h6, h7, h8, h9, e⟩ := list10 (H_length s.b)
  rw [e]
  kernel_rfl
theorem new_pats (W : World) (l : List Pat) : PatsAt (W.alloc (.cells (patCells l).toArray 25)) (some ⟨W.heap.size, 0, none⟩) l := by
  have hb := blk_new W 25 (patCells l)
  intro k p hp
  have hk : k < l.length := (List.getElem?_eq_some_iff.1 hp).1
  refine ⟨_, 0, rfl, fun q u hu => ?_⟩
  have hq : q < 20 := by have := (List.getElem?_eq_some_iff.1 hu).1; rw [Pat.cells_length] at this; exact this
  have key : ∀ (l : List Pat) (k : Nat), l[k]? = some p → (patCells l)[k * 20 + q]? = some u := by
    intro l
    induction l with
    | nil => intro k hk; cases hk
    | cons a l ih =>
      intro k hk
      show (a.cells ++ patCells l)[k * 20 + q]? = _
      cases k with
      | zero =>
        have e : a = p := by simpa using hk
        rw [e, List.getElem?_append_left (by rw [Pat.cells_length]; omega)]
        simpa using hu
      | succ k =>
        rw [List.getElem?_append_right (by rw [Pat.cells_length]; omega), Pat.cells_length, show (k + 1) * 20 + q - 20 = k * 20 + q by omega]
        exact ih k (by simpa using hk)
  rw [Nat.zero_add]
  exact hb.cell (key l k hp)
theorem wp_slice2 {o : Oper} {a : Act} {W : World} {K : Act → World → Prop} {Q : Exit → Act → World → Prop} (x y : Operand) (ho : o.op = .buildSlice 31 2 #[(0, x), (1, y)])
    (p q : Pat) (hx : a.eval x = .agg p.cells.toArray) (hy : a.eval y = .agg q.cells.toArray)
    (h : ∀ g w', Hid (g = W.heap.size) → Below W.heap.size W w' → g < w'.heap.size → PatsAt w' (some ⟨g, 0, none⟩) [p, q] → K (a.put o.dst (.slice (some ⟨g, 0, none⟩) 2 2)) w') : Oper.wp Tryd.prog o a W K Q := by
  have hrun := run_slice2 W p q
  unfold Oper.wp execOp
  simp only [ho, List.map_toArray, List.map_cons, List.map_nil, hx, hy, Sem.run_bind, Sem.run_pure, Result.andThen_ok, hrun]
  exact h _ _ rfl (below_new W _) (by simp) (new_pats W _)
theorem wpList_slice2 {ops : Array Oper} {rest : List Oper} {o : Oper} {a : Act} {W : World} {Q : Exit → Act → World → Prop} (hw : Region.wanted o (yielded ops a.tmps) = true) (x y : Operand) (ho : o.op = .buildSlice 31 2 #[(0, x), (1, y)])
    (p q : Pat) (hx : a.eval x = .agg p.cells.toArray) (hy : a.eval y = .agg q.cells.toArray)
    (h : ∀ g w', Hid (g = W.heap.size) → Below W.heap.size W w' → g < w'.heap.size → PatsAt w' (some ⟨g, 0, none⟩) [p, q] → wpList Tryd.prog ops Q rest (a.put o.dst (.slice (some ⟨g, 0, none⟩) 2 2)) w') : wpList Tryd.prog ops Q (o :: rest) a W :=
  BigFrame.wpList_want hw fun _ hK => wp_slice2 x y ho p q hx hy fun g w' h1 h2 h3 h4 => hK _ _ (h g w' h1 h2 h3 h4)
theorem wpList_slice4 {ops : Array Oper} {rest : List Oper} {o : Oper} {a : Act} {W : World} {Q : Exit → Act → World → Prop} (hw : Region.wanted o (yielded ops a.tmps) = true) (x y z u : Operand) (ho : o.op = .buildSlice 31 4 #[(0, x), (1, y), (2, z), (3, u)])
    (p q r s : Pat) (hx : a.eval x = .agg p.cells.toArray) (hy : a.eval y = .agg q.cells.toArray) (hz : a.eval z = .agg r.cells.toArray) (hu : a.eval u = .agg s.cells.toArray)
    (h : ∀ g w', Hid (g = W.heap.size) → Below W.heap.size W w' → g < w'.heap.size → PatsAt w' (some ⟨g, 0, none⟩) [p, q, r, s] → wpList Tryd.prog ops Q rest (a.put o.dst (.slice (some ⟨g, 0, none⟩) 4 4)) w') : wpList Tryd.prog ops Q (o :: rest) a W := by
  refine BigFrame.wpList_want hw fun _ hK => ?_
  have hrun := run_slice4 W p q r s
  unfold Oper.wp execOp
  simp only [ho, List.map_toArray, List.map_cons, List.map_nil, hx, hy, hz, hu, Sem.run_bind, Sem.run_pure, Result.andThen_ok, hrun]
  exact hK _ _ (h _ _ rfl (below_new W _) (by simp) (new_pats W _))
theorem wpList_buildw {P : Program} {ops : Array Oper} {rest : List Oper} {o : Oper} {a : Act} {w : World} {Q : Exit → Act → World → Prop} (hw : Region.wanted o (yielded ops a.tmps) = true) (ty : TypeId) (ps : Array (Nat × Operand)) (ho : o.op = .build ty ps)
    (vs : Array (Nat × Value)) (hx : (ps.map fun p => (p.1, a.eval p.2)) = vs) (v : Value) (hr : ∀ w : World, (Instr.build ty vs).run P w = .ok v w) (h : wpList P ops Q rest (a.put o.dst v) w) : wpList P ops Q (o :: rest) a w := by
  refine BigFrame.wpList_want hw fun K hK => ?_
  unfold Oper.wp execOp
  simp only [ho]
  rw [show (ps.map fun x => (x.1, a.eval x.2)) = vs from hx]
  simp [hr]
  exact hK _ _ h
theorem patCells_raw (l : List Pat) : patCells l = (l.map Pat.raw).flatMap fun r => r.1.map iV ++ r.2.map iV := by
  unfold patCells
  rw [List.flatMap_map]
  congr 1
theorem raw_len {l r : List Pat} (h : l.map Pat.raw = r.map Pat.raw) : l.length = r.length := by
  have := congrArg List.length h
  simpa using this
theorem cells_raw {p q : Pat} (h : p.raw = q.raw) : p.cells = q.cells := by
  rw [← rawCells_pat p, ← rawCells_pat q]
  exact congrArg rawCells h
theorem sane_then : ((Pat.first 32768 32768).then (Pat.first 49152 16384)).raw = (Pat.first 49152 16384).raw := by decide +kernel
theorem sane_back : ¬ (Pat.first 49152 16384).over (Pat.first 32768 32768) := by decide +kernel
theorem sane_right : pairI [0, 0, 0, 0, 0, 0, 0, 0, 0, 65535] [0, 0, 0, 0, 0, 0, 0, 0, 0, 7] = true := by decide +kernel
theorem sane_match : tagP.fits tagP.b := by unfold Pat.fits; decide +kernel
theorem sane_zero : (Pat.first 0 0).raw = Pat.zero.raw := by decide +kernel
end Go.Proofs.YtbldnhpbmfmepaaDoor

/-
  Contract of the walk over the statements' own sanity: it returns true. Conditions: the library's variable lies there.
-/
namespace Go.Proofs.YtbldnhpbmfmepaaDoor
set_option linter.unusedVariables false
set_option linter.unusedSimpArgs false
open Go.RowKit

/-- What the examples' calls answer. -/
structure SaneF (A B C Z D E F G R1 R4 T : Pat) (L32 L49 L16 L7 Hd Y : List Value) : Prop where
  fA : ∀ w, Calls Tryd.prog 73 #[.int .i64 32768, .int .i64 0] w fun e w' => e = .returned (.agg A.cells.toArray) ∧ Below w.heap.size w w'
  fB : ∀ w, Calls Tryd.prog 73 #[.int .i64 16384, .int .i64 16384] w fun e w' => e = .returned (.agg B.cells.toArray) ∧ Below w.heap.size w w'
  fC : ∀ w, Calls Tryd.prog 73 #[.int .i64 32768, .int .i64 32768] w fun e w' => e = .returned (.agg C.cells.toArray) ∧ Below w.heap.size w w'
  fZ : ∀ w, Calls Tryd.prog 73 #[.int .i64 0, .int .i64 0] w fun e w' => e = .returned (.agg Z.cells.toArray) ∧ Below w.heap.size w w'
  fD : ∀ w, Calls Tryd.prog 73 #[.int .i64 49152, .int .i64 16384] w fun e w' => e = .returned (.agg D.cells.toArray) ∧ Below w.heap.size w w'
  fE : ∀ w, Calls Tryd.prog 73 #[.int .i64 49152, .int .i64 0] w fun e w' => e = .returned (.agg E.cells.toArray) ∧ Below w.heap.size w w'
  fF : ∀ w, Calls Tryd.prog 73 #[.int .i64 49152, .int .i64 49152] w fun e w' => e = .returned (.agg F.cells.toArray) ∧ Below w.heap.size w w'
  fG : ∀ w, Calls Tryd.prog 73 #[.int .i64 49152, .int .i64 32768] w fun e w' => e = .returned (.agg G.cells.toArray) ∧ Below w.heap.size w w'
  fR1 : ∀ w, Calls Tryd.prog 73 #[.int .i64 57344, .int .i64 8192] w fun e w' => e = .returned (.agg R1.cells.toArray) ∧ Below w.heap.size w w'
  fR4 : ∀ w, Calls Tryd.prog 73 #[.int .i64 57344, .int .i64 49152] w fun e w' => e = .returned (.agg R4.cells.toArray) ∧ Below w.heap.size w w'
  and1 : ∀ w, Calls Tryd.prog 38 #[.agg A.cells.toArray, .agg B.cells.toArray] w fun e w' => e = .returned (.tuple #[.agg D.cells.toArray, .bool true]) ∧ Below w.heap.size w w'
  and2 : ∀ w, Calls Tryd.prog 38 #[.agg A.cells.toArray, .agg C.cells.toArray] w fun e w' => e = .returned (.tuple #[.agg Z.cells.toArray, .bool false]) ∧ Below w.heap.size w w'
  minus : ∀ w, Calls Tryd.prog 54 #[.agg Z.cells.toArray, .agg D.cells.toArray] w fun e w' => ∃ A' c, e = .returned (.slice A' 2 c) ∧ PatsAt w' A' [C, E] ∧ Below w.heap.size w w'
  join1 : ∀ w, Calls Tryd.prog 40 #[.agg E.cells.toArray, .agg D.cells.toArray] w fun e w' => e = .returned (.tuple #[.agg A.cells.toArray, .bool true]) ∧ Below w.heap.size w w'
  join2 : ∀ w, Calls Tryd.prog 40 #[.agg E.cells.toArray, .agg F.cells.toArray] w fun e w' => e = .returned (.tuple #[.agg Z.cells.toArray, .bool false]) ∧ Below w.heap.size w w'
  outs : ∀ (w : World) (g cl : Nat), g < w.heap.size → PatsAt w (some ⟨g, 0, none⟩) [A, G] → Calls Tryd.prog 60 #[.agg Z.cells.toArray, .slice (some ⟨g, 0, none⟩) 2 cl] w fun e w' => e = .returned (.tuple #[.agg Hd.toArray, .bool true]) ∧ Below w.heap.size w w'
  rng : ∀ w, Calls Tryd.prog 64 #[.int .i64 0, .int .i64 3, .int .i64 1, .int .i64 6] w fun e w' => ∃ A' c, e = .returned (.tuple #[.slice A' 4 c, .int .i64 0]) ∧ PatsAt w' A' [R1, D, G, R4] ∧ Below w.heap.size w w'
  then1 : ∀ w, Calls Tryd.prog 48 #[.agg C.cells.toArray, .agg D.cells.toArray] w fun e w' => e = .returned (.agg D.cells.toArray) ∧ Below w.heap.size w w'
  back1 : ∀ w, Calls Tryd.prog 44 #[.agg D.cells.toArray, .agg C.cells.toArray] w fun e w' => e = .returned (.tuple #[.agg Z.cells.toArray, .bool false]) ∧ Below w.heap.size w w'
  parse : ∀ w, GOk w → Calls Tryd.prog 66 #[.string { data := #[42, 32, 42, 32, 42, 32, 42, 32, 42, 32, 42, 32, 42, 32, 42, 32, 42, 32, 48, 48, 48, 55] }] w fun e w' => e = .returned (.tuple #[.agg T.cells.toArray, .int .i64 0]) ∧ Below w.heap.size w w'
  same2 : ∀ (w : World) (A' B' : Option Addr) (c d : Nat), PatsAt w A' [C, E] → PatsAt w B' [C, E] → Calls Tryd.prog 53 #[.slice A' 2 c, .slice B' 2 d] w fun e w' => e = .returned (.bool true) ∧ Below w.heap.size w w'
  same4 : ∀ (w : World) (A' B' : Option Addr) (c d : Nat), PatsAt w A' [R1, D, G, R4] → PatsAt w B' [R1, D, G, R4] → Calls Tryd.prog 53 #[.slice A' 4 c, .slice B' 4 d] w fun e w' => e = .returned (.bool true) ∧ Below w.heap.size w w'
  text : ∀ w, Calls Tryd.prog 68 #[.agg T.cells.toArray] w fun e w' => e = .returned (.string { data := #[42, 32, 42, 32, 42, 32, 42, 32, 42, 32, 42, 32, 42, 32, 42, 32, 42, 32, 48, 48, 48, 55] }) ∧ Below w.heap.size w w'
  right : ∀ w, Calls Tryd.prog 17 #[.agg T.cells.toArray] w fun e w' => e = .returned (.bool true) ∧ Below w.heap.size w w'
  fits : ∀ w, Calls Tryd.prog 29 #[.agg T.cells.toArray, .agg L7.toArray] w fun e w' => e = .returned (.bool true) ∧ Below w.heap.size w w'
  b32 : ∀ w, (Instr.build 23 #[(0, .int .i64 32768)]).run Tryd.prog w = .ok (.agg L32.toArray) w
  b49 : ∀ w, (Instr.build 23 #[(0, .int .i64 49152)]).run Tryd.prog w = .ok (.agg L49.toArray) w
  b16 : ∀ w, (Instr.build 23 #[(0, .int .i64 16384)]).run Tryd.prog w = .ok (.agg L16.toArray) w
  b7 : ∀ w, (Instr.build 23 #[(9, .int .i64 7)]).run Tryd.prog w = .ok (.agg L7.toArray) w
  hd : L49 = Hd
  hl : Hd.length = 10 ∧ (∀ u ∈ Hd, u.oneCell' = true) ∧ (Tryd.prog.info? 23).map (·.size) = some Hd.length
  bC : ∀ w, (Instr.build 43 #[(0, .agg L32.toArray), (1, .agg L32.toArray)]).run Tryd.prog w = .ok (.agg C.cells.toArray) w
  bD : ∀ w, (Instr.build 43 #[(0, .agg L49.toArray), (1, .agg L16.toArray)]).run Tryd.prog w = .ok (.agg D.cells.toArray) w
  bZ : ∀ w, (Instr.build 25 #[]).run Tryd.prog w = .ok (.agg Z.cells.toArray) w
  hdv : ∀ w, (binOp .eql 23 (.agg Hd.toArray) (.agg #[.int .i64 49152, .int .i64 0, .int .i64 0, .int .i64 0, .int .i64 0, .int .i64 0, .int .i64 0, .int .i64 0, .int .i64 0, .int .i64 0])).run Tryd.prog w = .ok (.bool true) w
  put1 : splice Z.cells 9 [.int .i64 65535] = Y ∧ Y.length = 20
  put2 : splice Y 19 [.int .i64 7] = T.cells
  eqD : ∀ w, (binOp .eql 25 (.agg D.cells.toArray) (.agg D.cells.toArray)).run Tryd.prog w = .ok (.bool true) w
  eqA : ∀ w, (binOp .eql 25 (.agg A.cells.toArray) (.agg A.cells.toArray)).run Tryd.prog w = .ok (.bool true) w
  eqT : ∀ w, (binOp .eql 25 (.agg T.cells.toArray) (.agg T.cells.toArray)).run Tryd.prog w = .ok (.bool true) w
  eqM : ∀ w, (binOp .eql 43 (.agg D.cells.toArray) (.agg D.cells.toArray)).run Tryd.prog w = .ok (.bool true) w
  eqH : ∀ w, (binOp .eql 23 (.agg Hd.toArray) (.agg Hd.toArray)).run Tryd.prog w = .ok (.bool true) w
theorem Tryd.guardM : Tryd.prog.eqGuardType Tryd.prog.depth 43 = false := by kernel_rfl
set_option maxRecDepth 100000 in
set_option maxHeartbeats 6400000 in
theorem sanity_of (A B C Z D E F G R1 R4 T : Pat) (L32 L49 L16 L7 Hd Y : List Value) (hs : SaneF A B C Z D E F G R1 R4 T L32 L49 L16 L7 Hd Y) (w : World) (hg : GOk w) :
    Calls Tryd.prog 14 #[] w fun e w' => e = .returned (.bool true) ∧ Below w.heap.size w w' := by
  have HS := Lib.hid hs
  have HG := Lib.hid hg
  have hunP := Tryd.underlying25
  have hunM := Tryd.underlying43
  have hunH := Tryd.underlying23
  have hguP := Tryd.guardP
  have hguM := Tryd.guardM
  have hguH := Tryd.guardH
  have hzH := HS.out.hl.2.2
  have hzs : ∀ p : Pat, (Tryd.prog.info? 25).map (·.size) = some p.cells.length := fun p => by rw [Pat.cells_length]; exact Tryd.szP
  have hzm : ∀ p : Pat, (Tryd.prog.info? 43).map (·.size) = some p.cells.length := fun p => by rw [Pat.cells_length]; exact Tryd.szM
  have HZS := Lib.hid hzs
  have HZM := Lib.hid hzm
  clear hs hg hzs hzm
  have eD := HS.out.eqD
  have eA := HS.out.eqA
  have eT := HS.out.eqT
  have eM := HS.out.eqM
  have eH := HS.out.eqH
  go_enter Tryd.func14, Tryd.ntmps14
  go_wp2_with fail
  (with_reducible refine (HS.out.fA _).mono ?_)
  rintro e w1 ⟨rfl, hb1⟩
  have hbe : Below w.heap.size w w1 := hb1
  clear hb1
  go_wp2_with fail
  (with_reducible refine (HS.out.fB _).mono ?_)
  rintro e w2 ⟨rfl, hb2⟩
  have hbe := below_join hbe hb2
  clear hb2
  go_wp2_with fail
  (with_reducible refine (HS.out.and1 _).mono ?_)
  rintro e w3 ⟨rfl, hb3⟩
  have hbe := below_join hbe hb3
  clear hb3
  go_wp2_with (with_reducible refine wpList_alloc (o := ⟨some 1, .alloc 25, _, _, _, _⟩) (by with_unfolding_all rfl) 25 (by with_unfolding_all rfl) (.agg (H no ++ H no).toArray) (H no ++ H no) (by exact Tryd.zeroPt) (by with_unfolding_all rfl) ?_)
  intro g1 w4 hg1 hs4 hb4 hB4
  have hl4 : w3.heap.size ≤ g1 := Nat.le_of_eq hg1.out.symm
  have hb4 := hb4.mono hl4
  go_wp2_with (with_reducible refine wpList_put (o := ⟨none, .store 25 (.tmp 1) (.tmp 26), _, _, _, _⟩) (by with_unfolding_all rfl) 25 (.tmp 1) (.tmp 26) (by with_unfolding_all rfl) g1 0 (by with_unfolding_all rfl) (.agg D.cells.toArray) (by with_unfolding_all rfl) hB4 D.cells (by with_unfolding_all rfl) (by with_unfolding_all (rw [Pat.cells_length]; exact Tryd.szP)) (by with_unfolding_all (rw [Pat.cells_length, List.length_append, H_length] <;> omega)) (by with_unfolding_all (exact cells_one _)) ?_)
  intro w5 hu5 B1
  rw [splice_all _ _ (by rw [Pat.cells_length, List.length_append, H_length])] at B1
  have hb5 := hb4.trans (hu5.below (B := w3.heap.size) hl4)
  clear hu5 hB4 hg1 hs4
  have hbe := below_join hbe hb5
  clear hb4 hb5 hl4
  go_wp2_with fail
  (with_reducible refine (HS.out.fA _).mono ?_)
  rintro e w6 ⟨rfl, hb6⟩
  have B1 := B1.next hb6 B1.lt
  have hbe := below_join hbe hb6
  clear hb6
  go_wp2_with fail
  (with_reducible refine (HS.out.fC _).mono ?_)
  rintro e w7 ⟨rfl, hb7⟩
  have B1 := B1.next hb7 B1.lt
  have hbe := below_join hbe hb7
  clear hb7
  go_wp2_with fail
  (with_reducible refine (HS.out.and2 _).mono ?_)
  rintro e w8 ⟨rfl, hb8⟩
  have B1 := B1.next hb8 B1.lt
  have hbe := below_join hbe hb8
  clear hb8
  go_wp2_with (with_reducible refine wpList_alloc (o := ⟨some 3, .alloc 25, _, _, _, _⟩) (by with_unfolding_all rfl) 25 (by with_unfolding_all rfl) (.agg (H no ++ H no).toArray) (H no ++ H no) (by exact Tryd.zeroPt) (by with_unfolding_all rfl) ?_)
  intro g3 w9 hg3 hs9 hb9 hB9
  have hl9 : w8.heap.size ≤ g3 := Nat.le_of_eq hg3.out.symm
  have hb9 := hb9.mono hl9
  go_wp2_with (with_reducible refine wpList_put (o := ⟨none, .store 25 (.tmp 3) (.tmp 32), _, _, _, _⟩) (by with_unfolding_all rfl) 25 (.tmp 3) (.tmp 32) (by with_unfolding_all rfl) g3 0 (by with_unfolding_all rfl) (.agg Z.cells.toArray) (by with_unfolding_all rfl) hB9 Z.cells (by with_unfolding_all rfl) (by with_unfolding_all (rw [Pat.cells_length]; exact Tryd.szP)) (by with_unfolding_all (rw [Pat.cells_length, List.length_append, H_length] <;> omega)) (by with_unfolding_all (exact cells_one _)) ?_)
  intro w10 hu10 B3
  rw [splice_all _ _ (by rw [Pat.cells_length, List.length_append, H_length])] at B3
  have hb10 := hb9.trans (hu10.below (B := w8.heap.size) hl9)
  clear hu10 hB9 hg3 hs9
  have B1 := B1.next hb10 B1.lt
  have hbe := below_join hbe hb10
  clear hb9 hb10 hl9
  go_wp2_with fail
  (with_reducible refine (HS.out.fZ _).mono ?_)
  rintro e w11 ⟨rfl, hb11⟩
  have B1 := B1.next hb11 B1.lt
  have hbe := below_join hbe hb11
  clear hb11
  go_wp2_with fail
  (with_reducible refine (HS.out.fD _).mono ?_)
  rintro e w12 ⟨rfl, hb12⟩
  have B1 := B1.next hb12 B1.lt
  have hbe := below_join hbe hb12
  clear hb12
  go_wp2_with fail
  (with_reducible refine (HS.out.minus _).mono ?_)
  rintro e w13 ⟨A5, c5, rfl, M5, hb13⟩
  have B1 := B1.next hb13 B1.lt
  have hbe := below_join hbe hb13
  clear hb13
  go_wp2_with fail
  (with_reducible refine (HS.out.fE _).mono ?_)
  rintro e w14 ⟨rfl, hb14⟩
  have B1 := B1.next hb14 B1.lt
  have M5 := M5.next hb14
  have hbe := below_join hbe hb14
  clear hb14
  go_wp2_with fail
  (with_reducible refine (HS.out.fD _).mono ?_)
  rintro e w15 ⟨rfl, hb15⟩
  have B1 := B1.next hb15 B1.lt
  have M5 := M5.next hb15
  have hbe := below_join hbe hb15
  clear hb15
  go_wp2_with fail
  (with_reducible refine (HS.out.join1 _).mono ?_)
  rintro e w16 ⟨rfl, hb16⟩
  have B1 := B1.next hb16 B1.lt
  have M5 := M5.next hb16
  have hbe := below_join hbe hb16
  clear hb16
  go_wp2_with (with_reducible refine wpList_alloc (o := ⟨some 6, .alloc 25, _, _, _, _⟩) (by with_unfolding_all rfl) 25 (by with_unfolding_all rfl) (.agg (H no ++ H no).toArray) (H no ++ H no) (by exact Tryd.zeroPt) (by with_unfolding_all rfl) ?_)
  intro g6 w17 hg6 hs17 hb17 hB17
  have hl17 : w16.heap.size ≤ g6 := Nat.le_of_eq hg6.out.symm
  have hb17 := hb17.mono hl17
  go_wp2_with (with_reducible refine wpList_put (o := ⟨none, .store 25 (.tmp 6) (.tmp 41), _, _, _, _⟩) (by with_unfolding_all rfl) 25 (.tmp 6) (.tmp 41) (by with_unfolding_all rfl) g6 0 (by with_unfolding_all rfl) (.agg A.cells.toArray) (by with_unfolding_all rfl) hB17 A.cells (by with_unfolding_all rfl) (by with_unfolding_all (rw [Pat.cells_length]; exact Tryd.szP)) (by with_unfolding_all (rw [Pat.cells_length, List.length_append, H_length] <;> omega)) (by with_unfolding_all (exact cells_one _)) ?_)
  intro w18 hu18 B6
  rw [splice_all _ _ (by rw [Pat.cells_length, List.length_append, H_length])] at B6
  have hb18 := hb17.trans (hu18.below (B := w16.heap.size) hl17)
  clear hu18 hB17 hg6 hs17
  have B1 := B1.next hb18 B1.lt
  have M5 := M5.next hb18
  have hbe := below_join hbe hb18
  clear hb17 hb18 hl17
  go_wp2_with fail
  (with_reducible refine (HS.out.fE _).mono ?_)
  rintro e w19 ⟨rfl, hb19⟩
  have B1 := B1.next hb19 B1.lt
  have M5 := M5.next hb19
  have B6 := B6.next hb19 B6.lt
  have hbe := below_join hbe hb19
  clear hb19
  go_wp2_with fail
  (with_reducible refine (HS.out.fF _).mono ?_)
  rintro e w20 ⟨rfl, hb20⟩
  have B1 := B1.next hb20 B1.lt
  have M5 := M5.next hb20
  have B6 := B6.next hb20 B6.lt
  have hbe := below_join hbe hb20
  clear hb20
  go_wp2_with fail
  (with_reducible refine (HS.out.join2 _).mono ?_)
  rintro e w21 ⟨rfl, hb21⟩
  have B1 := B1.next hb21 B1.lt
  have M5 := M5.next hb21
  have B6 := B6.next hb21 B6.lt
  have hbe := below_join hbe hb21
  clear hb21
  go_wp2_with (with_reducible refine wpList_alloc (o := ⟨some 8, .alloc 25, _, _, _, _⟩) (by with_unfolding_all rfl) 25 (by with_unfolding_all rfl) (.agg (H no ++ H no).toArray) (H no ++ H no) (by exact Tryd.zeroPt) (by with_unfolding_all rfl) ?_)
  intro g8 w22 hg8 hs22 hb22 hB22
  have hl22 : w21.heap.size ≤ g8 := Nat.le_of_eq hg8.out.symm
  have hb22 := hb22.mono hl22
  go_wp2_with (with_reducible refine wpList_put (o := ⟨none, .store 25 (.tmp 8) (.tmp 47), _, _, _, _⟩) (by with_unfolding_all rfl) 25 (.tmp 8) (.tmp 47) (by with_unfolding_all rfl) g8 0 (by with_unfolding_all rfl) (.agg Z.cells.toArray) (by with_unfolding_all rfl) hB22 Z.cells (by with_unfolding_all rfl) (by with_unfolding_all (rw [Pat.cells_length]; exact Tryd.szP)) (by with_unfolding_all (rw [Pat.cells_length, List.length_append, H_length] <;> omega)) (by with_unfolding_all (exact cells_one _)) ?_)
  intro w23 hu23 B8
  rw [splice_all _ _ (by rw [Pat.cells_length, List.length_append, H_length])] at B8
  have hb23 := hb22.trans (hu23.below (B := w21.heap.size) hl22)
  clear hu23 hB22 hg8 hs22
  have B1 := B1.next hb23 B1.lt
  have M5 := M5.next hb23
  have B6 := B6.next hb23 B6.lt
  have hbe := below_join hbe hb23
  clear hb22 hb23 hl22
  go_wp2_with fail
  (with_reducible refine (HS.out.fZ _).mono ?_)
  rintro e w24 ⟨rfl, hb24⟩
  have B1 := B1.next hb24 B1.lt
  have M5 := M5.next hb24
  have B6 := B6.next hb24 B6.lt
  have hbe := below_join hbe hb24
  clear hb24
  go_wp2_with fail
  (with_reducible refine (HS.out.fA _).mono ?_)
  rintro e w25 ⟨rfl, hb25⟩
  have B1 := B1.next hb25 B1.lt
  have M5 := M5.next hb25
  have B6 := B6.next hb25 B6.lt
  have hbe := below_join hbe hb25
  clear hb25
  go_wp2_with fail
  (with_reducible refine (HS.out.fG _).mono ?_)
  rintro e w26 ⟨rfl, hb26⟩
  have B1 := B1.next hb26 B1.lt
  have M5 := M5.next hb26
  have B6 := B6.next hb26 B6.lt
  have hbe := below_join hbe hb26
  clear hb26
  go_wp2_with (with_reducible refine wpList_slice2 (o := ⟨some 53, .buildSlice 31 2 #[(0, .tmp 51), (1, .tmp 52)], _, _, _, _⟩) (by with_unfolding_all rfl) (.tmp 51) (.tmp 52) (by with_unfolding_all rfl) A G (by with_unfolding_all rfl) (by with_unfolding_all rfl) ?_)
  intro gs w27 hgs hb27 hlt PS
  have B1 := B1.next hb27 B1.lt
  have M5 := M5.next hb27
  have B6 := B6.next hb27 B6.lt
  have hbe := below_join hbe hb27
  clear hb27 hgs
  go_wp2_with fail
  (with_reducible refine (HS.out.outs _ gs _ hlt PS).mono ?_)
  rintro e w28 ⟨rfl, hb28⟩
  have B1 := B1.next hb28 B1.lt
  have M5 := M5.next hb28
  have B6 := B6.next hb28 B6.lt
  have hbe := below_join hbe hb28
  clear hb28
  clear PS hlt
  go_wp2_with (with_reducible refine wpList_alloc (o := ⟨some 10, .alloc 23, _, _, _, _⟩) (by with_unfolding_all rfl) 23 (by with_unfolding_all rfl) (.agg (H no).toArray) (H no) (by exact Tryd.zeroH) (by with_unfolding_all rfl) ?_)
  intro g10 w29 hg10 hs29 hb29 hB29
  have hl29 : w28.heap.size ≤ g10 := Nat.le_of_eq hg10.out.symm
  have hb29 := hb29.mono hl29
  go_wp2_with (with_reducible refine wpList_put (o := ⟨none, .store 23 (.tmp 10) (.tmp 55), _, _, _, _⟩) (by with_unfolding_all rfl) 23 (.tmp 10) (.tmp 55) (by with_unfolding_all rfl) g10 0 (by with_unfolding_all rfl) (.agg Hd.toArray) (by with_unfolding_all rfl) hB29 Hd (by with_unfolding_all rfl) (by with_unfolding_all (exact hzH)) (by with_unfolding_all (rw [HS.out.hl.1, H_length] <;> omega)) (by with_unfolding_all (exact HS.out.hl.2.1)) ?_)
  intro w30 hu30 B10
  rw [splice_all _ _ (by rw [HS.out.hl.1, H_length])] at B10
  have hb30 := hb29.trans (hu30.below (B := w28.heap.size) hl29)
  clear hu30 hB29 hg10 hs29
  have B1 := B1.next hb30 B1.lt
  have M5 := M5.next hb30
  have B6 := B6.next hb30 B6.lt
  have hbe := below_join hbe hb30
  clear hb29 hb30 hl29
  go_wp2_with fail
  (with_reducible refine (HS.out.rng _).mono ?_)
  rintro e w31 ⟨A12, c12, rfl, M12, hb31⟩
  have B1 := B1.next hb31 B1.lt
  have M5 := M5.next hb31
  have B6 := B6.next hb31 B6.lt
  have B10 := B10.next hb31 B10.lt
  have hbe := below_join hbe hb31
  clear hb31
  go_wp2_with (first | (with_reducible refine wpList_build (o := ⟨some 61, .build 23 #[(0, (.const (.int .i64 32768)))], _, _, _, _⟩) (by with_unfolding_all rfl) 23 #[(0, (.const (.int .i64 32768)))] (by with_unfolding_all rfl) #[(0, .int .i64 32768)] (by with_unfolding_all rfl) (.agg L32.toArray) HS.out.b32 ?_) | (with_reducible refine wpList_build (o := ⟨some 62, .build 23 #[(0, (.const (.int .i64 32768)))], _, _, _, _⟩) (by with_unfolding_all rfl) 23 #[(0, (.const (.int .i64 32768)))] (by with_unfolding_all rfl) #[(0, .int .i64 32768)] (by with_unfolding_all rfl) (.agg L32.toArray) HS.out.b32 ?_) | (with_reducible refine wpList_build (o := ⟨some 63, .build 43 #[(0, .tmp 61), (1, .tmp 62)], _, _, _, _⟩) (by with_unfolding_all rfl) 43 #[(0, .tmp 61), (1, .tmp 62)] (by with_unfolding_all rfl) #[(0, .agg L32.toArray), (1, .agg L32.toArray)] (by with_unfolding_all rfl) (.agg C.cells.toArray) HS.out.bC ?_) | (with_reducible refine wpList_build (o := ⟨some 64, .build 23 #[(0, (.const (.int .i64 49152)))], _, _, _, _⟩) (by with_unfolding_all rfl) 23 #[(0, (.const (.int .i64 49152)))] (by with_unfolding_all rfl) #[(0, .int .i64 49152)] (by with_unfolding_all rfl) (.agg L49.toArray) HS.out.b49 ?_) | (with_reducible refine wpList_build (o := ⟨some 65, .build 23 #[(0, (.const (.int .i64 16384)))], _, _, _, _⟩) (by with_unfolding_all rfl) 23 #[(0, (.const (.int .i64 16384)))] (by with_unfolding_all rfl) #[(0, .int .i64 16384)] (by with_unfolding_all rfl) (.agg L16.toArray) HS.out.b16 ?_) | (with_reducible refine wpList_build (o := ⟨some 66, .build 43 #[(0, .tmp 64), (1, .tmp 65)], _, _, _, _⟩) (by with_unfolding_all rfl) 43 #[(0, .tmp 64), (1, .tmp 65)] (by with_unfolding_all rfl) #[(0, .agg L49.toArray), (1, .agg L16.toArray)] (by with_unfolding_all rfl) (.agg D.cells.toArray) HS.out.bD ?_))
  (with_reducible refine (HS.out.then1 _).mono ?_)
  rintro e w32 ⟨rfl, hb32⟩
  have B1 := B1.next hb32 B1.lt
  have M5 := M5.next hb32
  have B6 := B6.next hb32 B6.lt
  have B10 := B10.next hb32 B10.lt
  have M12 := M12.next hb32
  have hbe := below_join hbe hb32
  clear hb32
  go_wp2_with (with_reducible refine wpList_alloc (o := ⟨some 14, .alloc 43, _, _, _, _⟩) (by with_unfolding_all rfl) 43 (by with_unfolding_all rfl) (.agg (H no ++ H no).toArray) (H no ++ H no) (by exact Tryd.zeroMd) (by with_unfolding_all rfl) ?_)
  intro g14 w33 hg14 hs33 hb33 hB33
  have hl33 : w32.heap.size ≤ g14 := Nat.le_of_eq hg14.out.symm
  have hb33 := hb33.mono hl33
  go_wp2_with (with_reducible refine wpList_put (o := ⟨none, .store 43 (.tmp 14) (.tmp 67), _, _, _, _⟩) (by with_unfolding_all rfl) 43 (.tmp 14) (.tmp 67) (by with_unfolding_all rfl) g14 0 (by with_unfolding_all rfl) (.agg D.cells.toArray) (by with_unfolding_all rfl) hB33 D.cells (by with_unfolding_all rfl) (by with_unfolding_all (rw [Pat.cells_length]; exact Tryd.szM)) (by with_unfolding_all (rw [Pat.cells_length, List.length_append, H_length] <;> omega)) (by with_unfolding_all (exact cells_one _)) ?_)
  intro w34 hu34 B14
  rw [splice_all _ _ (by rw [Pat.cells_length, List.length_append, H_length])] at B14
  have hb34 := hb33.trans (hu34.below (B := w32.heap.size) hl33)
  clear hu34 hB33 hg14 hs33
  have B1 := B1.next hb34 B1.lt
  have M5 := M5.next hb34
  have B6 := B6.next hb34 B6.lt
  have B10 := B10.next hb34 B10.lt
  have M12 := M12.next hb34
  have hbe := below_join hbe hb34
  clear hb33 hb34 hl33
  go_wp2_with fail
  (with_reducible refine (HS.out.fD _).mono ?_)
  rintro e w35 ⟨rfl, hb35⟩
  have B1 := B1.next hb35 B1.lt
  have M5 := M5.next hb35
  have B6 := B6.next hb35 B6.lt
  have B10 := B10.next hb35 B10.lt
  have M12 := M12.next hb35
  have B14 := B14.next hb35 B14.lt
  have hbe := below_join hbe hb35
  clear hb35
  go_wp2_with (first | (with_reducible refine wpList_build (o := ⟨some 70, .build 23 #[(0, (.const (.int .i64 32768)))], _, _, _, _⟩) (by with_unfolding_all rfl) 23 #[(0, (.const (.int .i64 32768)))] (by with_unfolding_all rfl) #[(0, .int .i64 32768)] (by with_unfolding_all rfl) (.agg L32.toArray) HS.out.b32 ?_) | (with_reducible refine wpList_build (o := ⟨some 71, .build 23 #[(0, (.const (.int .i64 32768)))], _, _, _, _⟩) (by with_unfolding_all rfl) 23 #[(0, (.const (.int .i64 32768)))] (by with_unfolding_all rfl) #[(0, .int .i64 32768)] (by with_unfolding_all rfl) (.agg L32.toArray) HS.out.b32 ?_) | (with_reducible refine wpList_build (o := ⟨some 72, .build 43 #[(0, .tmp 70), (1, .tmp 71)], _, _, _, _⟩) (by with_unfolding_all rfl) 43 #[(0, .tmp 70), (1, .tmp 71)] (by with_unfolding_all rfl) #[(0, .agg L32.toArray), (1, .agg L32.toArray)] (by with_unfolding_all rfl) (.agg C.cells.toArray) HS.out.bC ?_))
  (with_reducible refine (HS.out.back1 _).mono ?_)
  rintro e w36 ⟨rfl, hb36⟩
  have B1 := B1.next hb36 B1.lt
  have M5 := M5.next hb36
  have B6 := B6.next hb36 B6.lt
  have B10 := B10.next hb36 B10.lt
  have M12 := M12.next hb36
  have B14 := B14.next hb36 B14.lt
  have hbe := below_join hbe hb36
  clear hb36
  go_wp2_with (with_reducible refine wpList_alloc (o := ⟨some 15, .alloc 25, _, _, _, _⟩) (by with_unfolding_all rfl) 25 (by with_unfolding_all rfl) (.agg (H no ++ H no).toArray) (H no ++ H no) (by exact Tryd.zeroPt) (by with_unfolding_all rfl) ?_)
  intro g15 w37 hg15 hs37 hb37 hB37
  have hl37 : w36.heap.size ≤ g15 := Nat.le_of_eq hg15.out.symm
  have hb37 := hb37.mono hl37
  go_wp2_with (with_reducible refine wpList_put (o := ⟨none, .store 25 (.tmp 15) (.tmp 74), _, _, _, _⟩) (by with_unfolding_all rfl) 25 (.tmp 15) (.tmp 74) (by with_unfolding_all rfl) g15 0 (by with_unfolding_all rfl) (.agg Z.cells.toArray) (by with_unfolding_all rfl) hB37 Z.cells (by with_unfolding_all rfl) (by with_unfolding_all (rw [Pat.cells_length]; exact Tryd.szP)) (by with_unfolding_all (rw [Pat.cells_length, List.length_append, H_length] <;> omega)) (by with_unfolding_all (exact cells_one _)) ?_)
  intro w38 hu38 B15
  rw [splice_all _ _ (by rw [Pat.cells_length, List.length_append, H_length])] at B15
  have hb38 := hb37.trans (hu38.below (B := w36.heap.size) hl37)
  clear hu38 hB37 hg15 hs37
  have B1 := B1.next hb38 B1.lt
  have M5 := M5.next hb38
  have B6 := B6.next hb38 B6.lt
  have B10 := B10.next hb38 B10.lt
  have M12 := M12.next hb38
  have B14 := B14.next hb38 B14.lt
  have hbe := below_join hbe hb38
  clear hb37 hb38 hl37
  go_wp2_with (first | (with_reducible refine wpList_build (o := ⟨some 76, .build 25 #[], _, _, _, _⟩) (by with_unfolding_all rfl) 25 #[] (by with_unfolding_all rfl) #[] (by with_unfolding_all rfl) (.agg Z.cells.toArray) HS.out.bZ ?_) | (with_reducible refine wpList_alloc (o := ⟨some 17, .alloc 25, _, _, _, _⟩) (by with_unfolding_all rfl) 25 (by with_unfolding_all rfl) (.agg (H no ++ H no).toArray) (H no ++ H no) (by exact Tryd.zeroPt) (by with_unfolding_all rfl) ?_))
  intro g17 w39 hg17 hs39 hb39 hB39
  have hl39 : w38.heap.size ≤ g17 := Nat.le_of_eq hg17.out.symm
  have hb39 := hb39.mono hl39
  go_wp2_with (with_reducible refine wpList_put (o := ⟨none, .store 25 (.tmp 17) (.tmp 76), _, _, _, _⟩) (by with_unfolding_all rfl) 25 (.tmp 17) (.tmp 76) (by with_unfolding_all rfl) g17 0 (by with_unfolding_all rfl) (.agg Z.cells.toArray) (by with_unfolding_all rfl) hB39 Z.cells (by with_unfolding_all rfl) (by with_unfolding_all (rw [Pat.cells_length]; exact Tryd.szP)) (by with_unfolding_all (rw [Pat.cells_length, List.length_append, H_length] <;> omega)) (by with_unfolding_all (exact cells_one _)) ?_)
  intro w40 hu40 B17
  rw [splice_all _ _ (by rw [Pat.cells_length, List.length_append, H_length])] at B17
  have hb40 := hb39.trans (hu40.below (B := w38.heap.size) hl39)
  clear hu40 hB39 hg17 hs39
  go_wp2_with (with_reducible refine wpList_put (o := ⟨none, .store 3 (.tmp 78) (.const (.int .i64 65535)), _, _, _, _⟩) (by with_unfolding_all rfl) 3 (.tmp 78) (.const (.int .i64 65535)) (by with_unfolding_all rfl) g17 9 (by with_unfolding_all rfl) (.int .i64 65535) (by with_unfolding_all rfl) B17 [.int .i64 65535] (by with_unfolding_all rfl) (by with_unfolding_all (exact Tryd.szI)) (by with_unfolding_all (rw [Pat.cells_length]; show 9 + 1 ≤ 20; omega)) (by with_unfolding_all (exact one_cell1 rfl)) ?_)
  clear B17
  intro w41 hu41 B17
  rw [HS.out.put1.1] at B17
  have hb40 := hb40.trans (hu41.below (B := w38.heap.size) hl39)
  clear hu41
  go_wp2_with (with_reducible refine wpList_put (o := ⟨none, .store 3 (.tmp 80) (.const (.int .i64 7)), _, _, _, _⟩) (by with_unfolding_all rfl) 3 (.tmp 80) (.const (.int .i64 7)) (by with_unfolding_all rfl) g17 19 (by with_unfolding_all rfl) (.int .i64 7) (by with_unfolding_all rfl) B17 [.int .i64 7] (by with_unfolding_all rfl) (by with_unfolding_all (exact Tryd.szI)) (by with_unfolding_all (rw [HS.out.put1.2]; show 19 + 1 ≤ 20; omega)) (by with_unfolding_all (exact one_cell1 rfl)) ?_)
  clear B17
  intro w42 hu42 B17
  rw [HS.out.put2] at B17
  have hb40 := hb40.trans (hu42.below (B := w38.heap.size) hl39)
  clear hu42
  have B1 := B1.next hb40 B1.lt
  have M5 := M5.next hb40
  have B6 := B6.next hb40 B6.lt
  have B10 := B10.next hb40 B10.lt
  have M12 := M12.next hb40
  have B14 := B14.next hb40 B14.lt
  have hbe := below_join hbe hb40
  clear hb39 hb40 hl39
  go_wp2_with fail
  (with_reducible refine (HS.out.parse _ (HG.out.next hbe)).mono ?_)
  rintro e w43 ⟨rfl, hb43⟩
  have B1 := B1.next hb43 B1.lt
  have M5 := M5.next hb43
  have B6 := B6.next hb43 B6.lt
  have B10 := B10.next hb43 B10.lt
  have M12 := M12.next hb43
  have B14 := B14.next hb43 B14.lt
  have B17 := B17.next hb43 B17.lt
  have hbe := below_join hbe hb43
  clear hb43
  go_wp2_with (with_reducible refine wpList_alloc (o := ⟨some 18, .alloc 25, _, _, _, _⟩) (by with_unfolding_all rfl) 25 (by with_unfolding_all rfl) (.agg (H no ++ H no).toArray) (H no ++ H no) (by exact Tryd.zeroPt) (by with_unfolding_all rfl) ?_)
  intro g18 w44 hg18 hs44 hb44 hB44
  have hl44 : w43.heap.size ≤ g18 := Nat.le_of_eq hg18.out.symm
  have hb44 := hb44.mono hl44
  go_wp2_with (with_reducible refine wpList_put (o := ⟨none, .store 25 (.tmp 18) (.tmp 83), _, _, _, _⟩) (by with_unfolding_all rfl) 25 (.tmp 18) (.tmp 83) (by with_unfolding_all rfl) g18 0 (by with_unfolding_all rfl) (.agg T.cells.toArray) (by with_unfolding_all rfl) hB44 T.cells (by with_unfolding_all rfl) (by with_unfolding_all (rw [Pat.cells_length]; exact Tryd.szP)) (by with_unfolding_all (rw [Pat.cells_length, List.length_append, H_length] <;> omega)) (by with_unfolding_all (exact cells_one _)) ?_)
  intro w45 hu45 B18
  rw [splice_all _ _ (by rw [Pat.cells_length, List.length_append, H_length])] at B18
  have hb45 := hb44.trans (hu45.below (B := w43.heap.size) hl44)
  clear hu45 hB44 hg18 hs44
  have B1 := B1.next hb45 B1.lt
  have M5 := M5.next hb45
  have B6 := B6.next hb45 B6.lt
  have B10 := B10.next hb45 B10.lt
  have M12 := M12.next hb45
  have B14 := B14.next hb45 B14.lt
  have B17 := B17.next hb45 B17.lt
  have hbe := below_join hbe hb45
  clear hb44 hb45 hl44
  go_wp2
  have hdd := below_drew w45
  have K1 : Hid (∀ w', Below w45.heap.size w45 w' → w'.rangeAt g1 0 D.cells) := (fun w' h => blk_range (B1.next h B1.lt) : ∀ w', Below w45.heap.size w45 w' → w'.rangeAt g1 0 D.cells)
  have K6 : Hid (∀ w', Below w45.heap.size w45 w' → w'.rangeAt g6 0 A.cells) := (fun w' h => blk_range (B6.next h B6.lt) : ∀ w', Below w45.heap.size w45 w' → w'.rangeAt g6 0 A.cells)
  have K10 : Hid (∀ w', Below w45.heap.size w45 w' → w'.rangeAt g10 0 Hd) := (fun w' h => blk_range (B10.next h B10.lt) : ∀ w', Below w45.heap.size w45 w' → w'.rangeAt g10 0 Hd)
  have zD := HZS.out D
  have zA := HZS.out A
  refine wp_region_held_drew (S := fun w' => Below w45.heap.size w45 w') (by kernel_rfl) hdd (fun hHeld => ?_)
  generalize w45.drew = wd at hdd hHeld ⊢
  refine wpAnyH_take (i := 0) (v := ?vv0) rfl (by kernel_rfl) (by kernel_rfl) (by kernel_rfl) (fun _ _ _ h => h) (Or.inl ⟨by rfl, ?yv0⟩) (by assumption) ?rv0
  case yv0 => intro w hSw; (try dsimp only at hSw); go_simp <;> (try with_reducible rfl)
  (try simp only [List.getElem_toArray, List.getElem_cons_zero, Act.put, List.setIfInBounds_toArray, List.set_cons_zero, List.set_cons_succ])
  refine wpAnyH_take (i := 1) (v := ?vv1) rfl (by kernel_rfl) (by kernel_rfl) (by kernel_rfl) (fun _ _ _ h => h) (Or.inl ⟨by rfl, ?yv1⟩) (by assumption) ?rv1
  case yv1 => intro w hSw; (try dsimp only at hSw); go_simp <;> (try with_reducible rfl)
  (try simp only [List.getElem_toArray, List.getElem_cons_succ, List.getElem_cons_zero, Act.put, List.setIfInBounds_toArray, List.set_cons_zero, List.set_cons_succ])
  refine' wpAnyH_take (i := 2) (v := _) rfl (by kernel_rfl) (by kernel_rfl) (by kernel_rfl) (fun _ _ _ h => h) (yieldsIf_load_mid (by rfl) _ _ (by rfl) _ _ (by rfl) _ _ ?Sv2 ?uv2 ?dv2 ?iv2) (by assumption) ?rv2
  case Sv2 => exact (by intro w h; exact K1.out _ h)
  case uv2 => exact hunP
  case dv2 => rfl
  case iv2 => exact zD
  (try simp only [List.getElem_toArray, List.getElem_cons_succ, List.getElem_cons_zero, Act.put, List.setIfInBounds_toArray, List.set_cons_zero, List.set_cons_succ])
  refine wpAnyH_ready (rs := [3]) (by kernel_rfl) (by simp) ?_
  refine AllReadyH.cons rfl (fun K hK => ?_) AllReadyH.nil
  go_simp
  go_wp2_with fail
  (with_reducible refine (HS.out.fD _).mono ?_)
  rintro e w46 ⟨rfl, hb46⟩
  have hk46 := below_join hdd hb46
  refine hK.out _ _ hk46 (fun hHeld => ?_)
  clear hK K hb46 hdd
  refine wpAnyH_take (i := 4) (v := ?vv4) rfl (by kernel_rfl) (by kernel_rfl) (by kernel_rfl) (fun _ _ _ h => h) (Or.inl ⟨by rfl, ?yv4⟩) (by assumption) ?rv4
  case yv4 => intro w hSw; (try dsimp only at hSw); go_simp <;> (try with_reducible rfl)
  (try simp only [List.getElem_toArray, List.getElem_cons_succ, List.getElem_cons_zero, Act.put, List.setIfInBounds_toArray, List.set_cons_zero, List.set_cons_succ])
  refine wpAnyH_take (i := 5) (v := ?vv5) rfl (by kernel_rfl) (by kernel_rfl) (by kernel_rfl) (fun _ _ _ h => h) (Or.inl ⟨by rfl, ?yv5⟩) (by assumption) ?rv5
  case yv5 => intro w hSw; (try dsimp only at hSw); go_simp <;> (try with_reducible rfl)
  (try simp only [List.getElem_toArray, List.getElem_cons_succ, List.getElem_cons_zero, Act.put, List.setIfInBounds_toArray, List.set_cons_zero, List.set_cons_succ])
  refine wpAnyH_take (i := 6) (v := ?vv6) rfl (by kernel_rfl) (by kernel_rfl) (by kernel_rfl) (fun _ _ _ h => h) (Or.inl ⟨by rfl, ?yv6⟩) (by assumption) ?rv6
  case yv6 => intro w hSw; (try dsimp only at hSw); go_simp <;> (try with_reducible rfl)
  (try simp only [List.getElem_toArray, List.getElem_cons_succ, List.getElem_cons_zero, Act.put, List.setIfInBounds_toArray, List.set_cons_zero, List.set_cons_succ])
  refine wpAnyH_take (i := 7) (v := ?vv7) rfl (by kernel_rfl) (by kernel_rfl) (by kernel_rfl) (fun _ _ _ h => h) (Or.inl ⟨by rfl, ?yv7⟩) (by assumption) ?rv7
  case yv7 => intro w hSw; (try dsimp only at hSw); go_simp <;> (try with_reducible rfl)
  (try simp only [List.getElem_toArray, List.getElem_cons_succ, List.getElem_cons_zero, Act.put, List.setIfInBounds_toArray, List.set_cons_zero, List.set_cons_succ])
  refine wpAnyH_take (i := 8) (v := ?vv8) rfl (by kernel_rfl) (by kernel_rfl) (by kernel_rfl) (fun _ _ _ h => h) (Or.inl ⟨by rfl, ?yv8⟩) (by assumption) ?rv8
  case yv8 => intro w hSw; (try dsimp only at hSw); go_simp <;> (try with_reducible rfl)
  (try simp only [List.getElem_toArray, List.getElem_cons_succ, List.getElem_cons_zero, Act.put, List.setIfInBounds_toArray, List.set_cons_zero, List.set_cons_succ])
  refine wpAnyH_take (i := 9) (v := ?vv9) rfl (by kernel_rfl) (by kernel_rfl) (by kernel_rfl) (fun _ _ _ h => h) (Or.inl ⟨by rfl, ?yv9⟩) (by assumption) ?rv9
  case yv9 => intro w hSw; (try dsimp only at hSw); go_simp <;> (try with_reducible rfl)
  (try simp only [List.getElem_toArray, List.getElem_cons_succ, List.getElem_cons_zero, Act.put, List.setIfInBounds_toArray, List.set_cons_zero, List.set_cons_succ])
  refine wpAnyH_take (i := 10) (v := ?vv10) rfl (by kernel_rfl) (by kernel_rfl) (by kernel_rfl) (fun _ _ _ h => h) (Or.inl ⟨by rfl, ?yv10⟩) (by assumption) ?rv10
  case yv10 => intro w hSw; (try dsimp only at hSw); go_simp <;> (try with_reducible rfl)
  (try simp only [List.getElem_toArray, List.getElem_cons_succ, List.getElem_cons_zero, Act.put, List.setIfInBounds_toArray, List.set_cons_zero, List.set_cons_succ])
  refine wpAnyH_take (i := 11) (v := ?vv11) rfl (by kernel_rfl) (by kernel_rfl) (by kernel_rfl) (fun _ _ _ h => h) (Or.inl ⟨by rfl, ?yv11⟩) (by assumption) ?rv11
  case yv11 => intro w hSw; (try dsimp only at hSw); go_simp <;> (try with_reducible rfl)
  (try simp only [List.getElem_toArray, List.getElem_cons_succ, List.getElem_cons_zero, Act.put, List.setIfInBounds_toArray, List.set_cons_zero, List.set_cons_succ])
  refine wpAnyH_ready (rs := [12]) (by kernel_rfl) (by simp) ?_
  refine AllReadyH.cons rfl (fun K hK => ?_) AllReadyH.nil
  go_simp
  go_wp2_with fail
  (with_reducible refine (HS.out.fC _).mono ?_)
  rintro e w47 ⟨rfl, hb47⟩
  have hk47 := below_join hk46 hb47
  refine hK.out _ _ hk47 (fun hHeld => ?_)
  clear hK K hb47 hk46
  refine wpAnyH_ready (rs := [13]) (by kernel_rfl) (by simp) ?_
  refine AllReadyH.cons rfl (fun K hK => ?_) AllReadyH.nil
  go_simp
  go_wp2_with fail
  (with_reducible refine (HS.out.fE _).mono ?_)
  rintro e w48 ⟨rfl, hb48⟩
  have hk48 := below_join hk47 hb48
  refine hK.out _ _ hk48 (fun hHeld => ?_)
  clear hK K hb48 hk47
  refine wpAnyH_ready (rs := [14]) (by kernel_rfl) (by simp) ?_
  refine AllReadyH.cons rfl (fun K hK => ?_) AllReadyH.nil
  rw [if_pos (by rfl)]
  refine wp_slice2 (.tmp 97) (.tmp 98) rfl C E rfl rfl ?_
  intro gq w49 hgq hb49 hltq PQ
  have hk49 := below_join hk48 hb49
  refine hK.out _ _ hk49 (fun hHeld => ?_)
  clear hK K hb49 hgq hltq hk48
  refine wpAnyH_ready (rs := [15]) (by kernel_rfl) (by simp) ?_
  refine AllReadyH.cons rfl (fun K hK => ?_) AllReadyH.nil
  go_simp
  go_wp2_with fail
  (with_reducible refine (HS.out.same2 _ _ _ _ _ (M5.next hk49) PQ).mono ?_)
  rintro e w50 ⟨rfl, hb50⟩
  have hk50 := below_join hk49 hb50
  refine hK.out _ _ hk50 (fun hHeld => ?_)
  clear hK K hb50 hk49
  clear PQ
  refine wpAnyH_take (i := 16) (v := ?vv16) rfl (by kernel_rfl) (by kernel_rfl) (by kernel_rfl) (fun _ _ _ h => h) (Or.inl ⟨by rfl, ?yv16⟩) (by assumption) ?rv16
  case yv16 => intro w hSw; (try dsimp only at hSw); go_simp <;> (try with_reducible rfl)
  (try simp only [List.getElem_toArray, List.getElem_cons_succ, List.getElem_cons_zero, Act.put, List.setIfInBounds_toArray, List.set_cons_zero, List.set_cons_succ])
  refine wpAnyH_take (i := 17) (v := ?vv17) rfl (by kernel_rfl) (by kernel_rfl) (by kernel_rfl) (fun _ _ _ h => h) (Or.inl ⟨by rfl, ?yv17⟩) (by assumption) ?rv17
  case yv17 => intro w hSw; (try dsimp only at hSw); go_simp <;> (try with_reducible rfl)
  (try simp only [List.getElem_toArray, List.getElem_cons_succ, List.getElem_cons_zero, Act.put, List.setIfInBounds_toArray, List.set_cons_zero, List.set_cons_succ])
  refine wpAnyH_take (i := 18) (v := ?vv18) rfl (by kernel_rfl) (by kernel_rfl) (by kernel_rfl) (fun _ _ _ h => h) (Or.inl ⟨by rfl, ?yv18⟩) (by assumption) ?rv18
  case yv18 => intro w hSw; (try dsimp only at hSw); go_simp <;> (try with_reducible rfl)
  (try simp only [List.getElem_toArray, List.getElem_cons_succ, List.getElem_cons_zero, Act.put, List.setIfInBounds_toArray, List.set_cons_zero, List.set_cons_succ])
  refine wpAnyH_take (i := 19) (v := ?vv19) rfl (by kernel_rfl) (by kernel_rfl) (by kernel_rfl) (fun _ _ _ h => h) (Or.inl ⟨by rfl, ?yv19⟩) (by assumption) ?rv19
  case yv19 => intro w hSw; (try dsimp only at hSw); go_simp <;> (try with_reducible rfl)
  (try simp only [List.getElem_toArray, List.getElem_cons_succ, List.getElem_cons_zero, Act.put, List.setIfInBounds_toArray, List.set_cons_zero, List.set_cons_succ])
  refine wpAnyH_take (i := 20) (v := ?vv20) rfl (by kernel_rfl) (by kernel_rfl) (by kernel_rfl) (fun _ _ _ h => h) (Or.inl ⟨by rfl, ?yv20⟩) (by assumption) ?rv20
  case yv20 => intro w hSw; (try dsimp only at hSw); go_simp <;> (try with_reducible rfl)
  (try simp only [List.getElem_toArray, List.getElem_cons_succ, List.getElem_cons_zero, Act.put, List.setIfInBounds_toArray, List.set_cons_zero, List.set_cons_succ])
  refine' wpAnyH_take (i := 21) (v := _) rfl (by kernel_rfl) (by kernel_rfl) (by kernel_rfl) (fun _ _ _ h => h) (yieldsIf_load_mid (by rfl) _ _ (by rfl) _ _ (by rfl) _ _ ?Sv21 ?uv21 ?dv21 ?iv21) (by assumption) ?rv21
  case Sv21 => exact (by intro w h; exact K6.out _ h)
  case uv21 => exact hunP
  case dv21 => rfl
  case iv21 => exact zA
  (try simp only [List.getElem_toArray, List.getElem_cons_succ, List.getElem_cons_zero, Act.put, List.setIfInBounds_toArray, List.set_cons_zero, List.set_cons_succ])
  refine wpAnyH_ready (rs := [22]) (by kernel_rfl) (by simp) ?_
  refine AllReadyH.cons rfl (fun K hK => ?_) AllReadyH.nil
  go_simp
  go_wp2_with fail
  (with_reducible refine (HS.out.fA _).mono ?_)
  rintro e w51 ⟨rfl, hb51⟩
  have hk51 := below_join hk50 hb51
  refine hK.out _ _ hk51 (fun hHeld => ?_)
  clear hK K hb51 hk50
  refine wpAnyH_take (i := 23) (v := ?vv23) rfl (by kernel_rfl) (by kernel_rfl) (by kernel_rfl) (fun _ _ _ h => h) (Or.inl ⟨by rfl, ?yv23⟩) (by assumption) ?rv23
  case yv23 => intro w hSw; (try dsimp only at hSw); go_simp <;> (try with_reducible rfl)
  (try simp only [List.getElem_toArray, List.getElem_cons_succ, List.getElem_cons_zero, Act.put, List.setIfInBounds_toArray, List.set_cons_zero, List.set_cons_succ])
  refine wpAnyH_take (i := 24) (v := ?vv24) rfl (by kernel_rfl) (by kernel_rfl) (by kernel_rfl) (fun _ _ _ h => h) (Or.inl ⟨by rfl, ?yv24⟩) (by assumption) ?rv24
  case yv24 => intro w hSw; (try dsimp only at hSw); go_simp <;> (try with_reducible rfl)
  (try simp only [List.getElem_toArray, List.getElem_cons_succ, List.getElem_cons_zero, Act.put, List.setIfInBounds_toArray, List.set_cons_zero, List.set_cons_succ])
  refine wpAnyH_take (i := 25) (v := ?vv25) rfl (by kernel_rfl) (by kernel_rfl) (by kernel_rfl) (fun _ _ _ h => h) (Or.inl ⟨by rfl, ?yv25⟩) (by assumption) ?rv25
  case yv25 => intro w hSw; (try dsimp only at hSw); go_simp <;> (try with_reducible rfl)
  (try simp only [List.getElem_toArray, List.getElem_cons_succ, List.getElem_cons_zero, Act.put, List.setIfInBounds_toArray, List.set_cons_zero, List.set_cons_succ])
  refine wpAnyH_take (i := 26) (v := ?vv26) rfl (by kernel_rfl) (by kernel_rfl) (by kernel_rfl) (fun _ _ _ h => h) (Or.inl ⟨by rfl, ?yv26⟩) (by assumption) ?rv26
  case yv26 => intro w hSw; (try dsimp only at hSw); go_simp <;> (try with_reducible rfl)
  (try simp only [List.getElem_toArray, List.getElem_cons_succ, List.getElem_cons_zero, Act.put, List.setIfInBounds_toArray, List.set_cons_zero, List.set_cons_succ])
  refine wpAnyH_take (i := 27) (v := ?vv27) rfl (by kernel_rfl) (by kernel_rfl) (by kernel_rfl) (fun _ _ _ h => h) (Or.inl ⟨by rfl, ?yv27⟩) (by assumption) ?rv27
  case yv27 => intro w hSw; (try dsimp only at hSw); go_simp <;> (try with_reducible rfl)
  (try simp only [List.getElem_toArray, List.getElem_cons_succ, List.getElem_cons_zero, Act.put, List.setIfInBounds_toArray, List.set_cons_zero, List.set_cons_succ])
  refine wpAnyH_take (i := 28) (v := ?vv28) rfl (by kernel_rfl) (by kernel_rfl) (by kernel_rfl) (fun _ _ _ h => h) (Or.inl ⟨by rfl, ?yv28⟩) (by assumption) ?rv28
  case yv28 => intro w hSw; (try dsimp only at hSw); go_simp <;> (try with_reducible rfl)
  (try simp only [List.getElem_toArray, List.getElem_cons_succ, List.getElem_cons_zero, Act.put, List.setIfInBounds_toArray, List.set_cons_zero, List.set_cons_succ])
  refine wpAnyH_take (i := 29) (v := ?vv29) rfl (by kernel_rfl) (by kernel_rfl) (by kernel_rfl) (fun _ _ _ h => h) (Or.inl ⟨by rfl, ?yv29⟩) (by assumption) ?rv29
  case yv29 => intro w hSw; (try dsimp only at hSw); go_simp <;> (try with_reducible rfl)
  (try simp only [List.getElem_toArray, List.getElem_cons_succ, List.getElem_cons_zero, Act.put, List.setIfInBounds_toArray, List.set_cons_zero, List.set_cons_succ])
  refine wpAnyH_take (i := 30) (v := ?vv30) rfl (by kernel_rfl) (by kernel_rfl) (by kernel_rfl) (fun _ _ _ h => h) (Or.inl ⟨by rfl, ?yv30⟩) (by assumption) ?rv30
  case yv30 => intro w hSw; (try dsimp only at hSw); go_simp <;> (try with_reducible rfl)
  (try simp only [List.getElem_toArray, List.getElem_cons_succ, List.getElem_cons_zero, Act.put, List.setIfInBounds_toArray, List.set_cons_zero, List.set_cons_succ])
  refine wpAnyH_take (i := 31) (v := ?vv31) rfl (by kernel_rfl) (by kernel_rfl) (by kernel_rfl) (fun _ _ _ h => h) (Or.inl ⟨by rfl, ?yv31⟩) (by assumption) ?rv31
  case yv31 => intro w hSw; (try dsimp only at hSw); go_simp <;> (try with_reducible rfl)
  (try simp only [List.getElem_toArray, List.getElem_cons_succ, List.getElem_cons_zero, Act.put, List.setIfInBounds_toArray, List.set_cons_zero, List.set_cons_succ])
  refine wpAnyH_take (i := 32) (v := ?vv32) rfl (by kernel_rfl) (by kernel_rfl) (by kernel_rfl) (fun _ _ _ h => h) (Or.inl ⟨by rfl, ?yv32⟩) (by assumption) ?rv32
  case yv32 => intro w hSw; (try dsimp only at hSw); go_simp <;> (try with_reducible rfl)
  (try simp only [List.getElem_toArray, List.getElem_cons_succ, List.getElem_cons_zero, Act.put, List.setIfInBounds_toArray, List.set_cons_zero, List.set_cons_succ])
  refine' wpAnyH_take (i := 33) (v := _) rfl (by kernel_rfl) (by kernel_rfl) (by kernel_rfl) (fun _ _ _ h => h) (yieldsIf_load_mid (by rfl) _ _ (by rfl) _ _ (by rfl) _ _ ?Sv33 ?uv33 ?dv33 ?iv33) (by assumption) ?rv33
  case Sv33 => exact (by intro w h; exact K10.out _ h)
  case uv33 => exact hunH
  case dv33 => rfl
  case iv33 => exact hzH
  (try simp only [List.getElem_toArray, List.getElem_cons_succ, List.getElem_cons_zero, Act.put, List.setIfInBounds_toArray, List.set_cons_zero, List.set_cons_succ])
  have eb := HS.out.hdv
  refine wpAnyH_take (i := 34) (v := ?vv34) rfl (by kernel_rfl) (by kernel_rfl) (by kernel_rfl) (fun _ _ _ h => h) (Or.inl ⟨by rfl, ?yv34⟩) (by assumption) ?rv34
  case yv34 => intro w hSw; (try dsimp only at hSw); go_simp <;> (try with_reducible rfl)
  (try simp only [List.getElem_toArray, List.getElem_cons_succ, List.getElem_cons_zero, Act.put, List.setIfInBounds_toArray, List.set_cons_zero, List.set_cons_succ])
  refine wpAnyH_take (i := 35) (v := ?vv35) rfl (by kernel_rfl) (by kernel_rfl) (by kernel_rfl) (fun _ _ _ h => h) (Or.inl ⟨by rfl, ?yv35⟩) (by assumption) ?rv35
  case yv35 => intro w hSw; (try dsimp only at hSw); go_simp <;> (try with_reducible rfl)
  (try simp only [List.getElem_toArray, List.getElem_cons_succ, List.getElem_cons_zero, Act.put, List.setIfInBounds_toArray, List.set_cons_zero, List.set_cons_succ])
  refine wpAnyH_take (i := 36) (v := ?vv36) rfl (by kernel_rfl) (by kernel_rfl) (by kernel_rfl) (fun _ _ _ h => h) (Or.inl ⟨by rfl, ?yv36⟩) (by assumption) ?rv36
  case yv36 => intro w hSw; (try dsimp only at hSw); go_simp <;> (try with_reducible rfl)
  (try simp only [List.getElem_toArray, List.getElem_cons_succ, List.getElem_cons_zero, Act.put, List.setIfInBounds_toArray, List.set_cons_zero, List.set_cons_succ])
  refine wpAnyH_take (i := 37) (v := ?vv37) rfl (by kernel_rfl) (by kernel_rfl) (by kernel_rfl) (fun _ _ _ h => h) (Or.inl ⟨by rfl, ?yv37⟩) (by assumption) ?rv37
  case yv37 => intro w hSw; (try dsimp only at hSw); go_simp <;> (try with_reducible rfl)
  (try simp only [List.getElem_toArray, List.getElem_cons_succ, List.getElem_cons_zero, Act.put, List.setIfInBounds_toArray, List.set_cons_zero, List.set_cons_succ])
  refine wpAnyH_done (by kernel_rfl) ?_ _
  clear hHeld eb K1 K6 K10 B1 B6 B10 M5
  have M12 := M12.next hk51
  have B14 := B14.next hk51 B14.lt
  have B17 := B17.next hk51 B17.lt
  have B18 := B18.next hk51 B18.lt
  have hbe := below_join hbe hk51
  clear hk51
  go_wp2_with fail
  (with_reducible refine (HS.out.fR1 _).mono ?_)
  rintro e w52 ⟨rfl, hb52⟩
  have M12 := M12.next hb52
  have B14 := B14.next hb52 B14.lt
  have B17 := B17.next hb52 B17.lt
  have B18 := B18.next hb52 B18.lt
  have hbe := below_join hbe hb52
  clear hb52
  go_wp2_with fail
  (with_reducible refine (HS.out.fD _).mono ?_)
  rintro e w53 ⟨rfl, hb53⟩
  have M12 := M12.next hb53
  have B14 := B14.next hb53 B14.lt
  have B17 := B17.next hb53 B17.lt
  have B18 := B18.next hb53 B18.lt
  have hbe := below_join hbe hb53
  clear hb53
  go_wp2_with fail
  (with_reducible refine (HS.out.fG _).mono ?_)
  rintro e w54 ⟨rfl, hb54⟩
  have M12 := M12.next hb54
  have B14 := B14.next hb54 B14.lt
  have B17 := B17.next hb54 B17.lt
  have B18 := B18.next hb54 B18.lt
  have hbe := below_join hbe hb54
  clear hb54
  go_wp2_with fail
  (with_reducible refine (HS.out.fR4 _).mono ?_)
  rintro e w55 ⟨rfl, hb55⟩
  have M12 := M12.next hb55
  have B14 := B14.next hb55 B14.lt
  have B17 := B17.next hb55 B17.lt
  have B18 := B18.next hb55 B18.lt
  have hbe := below_join hbe hb55
  clear hb55
  go_wp2_with (with_reducible refine wpList_slice4 (o := ⟨some 130, .buildSlice 31 4 #[(0, .tmp 126), (1, .tmp 127), (2, .tmp 128), (3, .tmp 129)], _, _, _, _⟩) (by with_unfolding_all rfl) (.tmp 126) (.tmp 127) (.tmp 128) (.tmp 129) (by with_unfolding_all rfl) R1 D G R4 (by with_unfolding_all rfl) (by with_unfolding_all rfl) (by with_unfolding_all rfl) (by with_unfolding_all rfl) ?_)
  intro gt w56 hgt hb56 hltt PT
  have M12 := M12.next hb56
  have B14 := B14.next hb56 B14.lt
  have B17 := B17.next hb56 B17.lt
  have B18 := B18.next hb56 B18.lt
  have hbe := below_join hbe hb56
  clear hb56 hgt hltt
  go_wp2_with fail
  (with_reducible refine (HS.out.same4 _ _ _ _ _ M12 PT).mono ?_)
  rintro e w57 ⟨rfl, hb57⟩
  have M12 := M12.next hb57
  have B14 := B14.next hb57 B14.lt
  have B17 := B17.next hb57 B17.lt
  have B18 := B18.next hb57 B18.lt
  have hbe := below_join hbe hb57
  clear hb57
  clear PT M12
  have zT := HZS.out T
  have zM := HZM.out D
  go_wp2_with (first | (with_reducible refine wpList_getg (o := ⟨some 138, .load 43 (.tmp 14), _, _, _, _⟩) (by with_unfolding_all rfl) 43 (.tmp 14) (by with_unfolding_all rfl) g14 0 (by with_unfolding_all rfl) B14 D.cells (cs_all _) _ (by exact hunM) (by with_unfolding_all rfl) (by exact zM) ?_) | (with_reducible refine wpList_buildw (o := ⟨some 139, .build 23 #[(0, (.const (.int .i64 49152)))], _, _, _, _⟩) (by with_unfolding_all rfl) 23 #[(0, (.const (.int .i64 49152)))] (by with_unfolding_all rfl) #[(0, .int .i64 49152)] (by with_unfolding_all rfl) (.agg L49.toArray) HS.out.b49 ?_) | (with_reducible refine wpList_buildw (o := ⟨some 140, .build 23 #[(0, (.const (.int .i64 16384)))], _, _, _, _⟩) (by with_unfolding_all rfl) 23 #[(0, (.const (.int .i64 16384)))] (by with_unfolding_all rfl) #[(0, .int .i64 16384)] (by with_unfolding_all rfl) (.agg L16.toArray) HS.out.b16 ?_) | (with_reducible refine wpList_buildw (o := ⟨some 141, .build 43 #[(0, .tmp 139), (1, .tmp 140)], _, _, _, _⟩) (by with_unfolding_all rfl) 43 #[(0, .tmp 139), (1, .tmp 140)] (by with_unfolding_all rfl) #[(0, .agg L49.toArray), (1, .agg L16.toArray)] (by with_unfolding_all rfl) (.agg D.cells.toArray) HS.out.bD ?_) | (with_reducible refine wpList_getg (o := ⟨some 149, .load 25 (.tmp 17), _, _, _, _⟩) (by with_unfolding_all rfl) 25 (.tmp 17) (by with_unfolding_all rfl) g17 0 (by with_unfolding_all rfl) B17 T.cells (cs_all _) _ (by exact hunP) (by with_unfolding_all rfl) (by exact zT) ?_))
  (with_reducible refine (HS.out.text _).mono ?_)
  rintro e w58 ⟨rfl, hb58⟩
  have B14 := B14.next hb58 B14.lt
  have B17 := B17.next hb58 B17.lt
  have B18 := B18.next hb58 B18.lt
  have hbe := below_join hbe hb58
  clear hb58
  go_wp2_with (first | (with_reducible refine wpList_getg (o := ⟨some 158, .load 25 (.tmp 18), _, _, _, _⟩) (by with_unfolding_all rfl) 25 (.tmp 18) (by with_unfolding_all rfl) g18 0 (by with_unfolding_all rfl) B18 T.cells (cs_all _) _ (by exact hunP) (by with_unfolding_all rfl) (by exact zT) ?_) | (with_reducible refine wpList_getg (o := ⟨some 159, .load 25 (.tmp 17), _, _, _, _⟩) (by with_unfolding_all rfl) 25 (.tmp 17) (by with_unfolding_all rfl) g17 0 (by with_unfolding_all rfl) B17 T.cells (cs_all _) _ (by exact hunP) (by with_unfolding_all rfl) (by exact zT) ?_) | (with_reducible refine wpList_getg (o := ⟨some 163, .load 25 (.tmp 17), _, _, _, _⟩) (by with_unfolding_all rfl) 25 (.tmp 17) (by with_unfolding_all rfl) g17 0 (by with_unfolding_all rfl) B17 T.cells (cs_all _) _ (by exact hunP) (by with_unfolding_all rfl) (by exact zT) ?_))
  (with_reducible refine (HS.out.right _).mono ?_)
  rintro e w59 ⟨rfl, hb59⟩
  have B14 := B14.next hb59 B14.lt
  have B17 := B17.next hb59 B17.lt
  have B18 := B18.next hb59 B18.lt
  have hbe := below_join hbe hb59
  clear hb59
  go_wp2_with (first | (with_reducible refine wpList_getg (o := ⟨some 167, .load 25 (.tmp 17), _, _, _, _⟩) (by with_unfolding_all rfl) 25 (.tmp 17) (by with_unfolding_all rfl) g17 0 (by with_unfolding_all rfl) B17 T.cells (cs_all _) _ (by exact hunP) (by with_unfolding_all rfl) (by exact zT) ?_) | (with_reducible refine wpList_buildw (o := ⟨some 168, .build 23 #[(9, (.const (.int .i64 7)))], _, _, _, _⟩) (by with_unfolding_all rfl) 23 #[(9, (.const (.int .i64 7)))] (by with_unfolding_all rfl) #[(9, .int .i64 7)] (by with_unfolding_all rfl) (.agg L7.toArray) HS.out.b7 ?_))
  (with_reducible refine (HS.out.fits _).mono ?_)
  rintro e w60 ⟨rfl, hb60⟩
  have B14 := B14.next hb60 B14.lt
  have B17 := B17.next hb60 B17.lt
  have B18 := B18.next hb60 B18.lt
  have hbe := below_join hbe hb60
  clear hb60
  go_wp2
  go_ret
  exact ⟨rfl, hbe⟩
end Go.Proofs.YtbldnhpbmfmepaaDoor

/-
  Contract of the walk over the statements' own sanity, its facts put in. Conditions: the library's variable lies there.
-/
namespace Go.Proofs.YtbldnhpbmfmepaaDoor
set_option linter.unusedVariables false
set_option linter.unusedSimpArgs false
open Go.RowKit

theorem fits_any (p : Pat) (h : Nat → Bool) (w : World) (hf : p.fits h) :
    Calls Tryd.prog 29 #[.agg p.cells.toArray, .agg (H h).toArray] w fun e w' => e = .returned (.bool true) ∧ Below w.heap.size w w' := by
  have := match_any p h w
  rw [decide_eq_true hf] at this
  exact this
theorem samePs_self : ∀ l : List Pat, samePs l l = true
  | [] => rfl
  | p :: l => by
    show (p.same p && samePs l l) = true
    rw [samePs_self l, Pat.same_iff.2 ⟨fun _ _ => rfl, fun _ _ => rfl⟩]; rfl
theorem sane_facts : SaneF (.first 32768 0) (.first 16384 16384) (.first 32768 32768) (.first 0 0) (.first 49152 16384) (.first 49152 0) (.first 49152 49152) (.first 49152 32768) (.first 57344 8192) (.first 57344 49152) tagP
    (H (bitsOf (word0 32768))) (H (bitsOf (word0 49152))) (H (bitsOf (word0 16384))) (H tagP.b) (H (hd 49152)) (H tagP.m ++ H no) where
  fA w := first_any 32768 0 w (by decide) (by decide)
  fB w := first_any 16384 16384 w (by decide) (by decide)
  fC w := first_any 32768 32768 w (by decide) (by decide)
  fZ w := first_any 0 0 w (by decide) (by decide)
  fD w := first_any 49152 16384 w (by decide) (by decide)
  fE w := first_any 49152 0 w (by decide) (by decide)
  fF w := first_any 49152 49152 w (by decide) (by decide)
  fG w := first_any 49152 32768 w (by decide) (by decide)
  fR1 w := first_any 57344 8192 w (by decide) (by decide)
  fR4 w := first_any 57344 49152 w (by decide) (by decide)
  and1 w := by
    have h := and_any (.first 32768 0) (.first 16384 16384) w
    rw [cells_raw sane_and.1, decide_eq_true sane_and.2.1] at h
    exact h
  and2 w := by
    have h := and_any (.first 32768 0) (.first 32768 32768) w
    rw [show (Pat.first 32768 0).andV (.first 32768 32768) = .zero from if_neg sane_and.2.2, decide_eq_false sane_and.2.2, ← cells_raw sane_zero] at h
    exact h
  minus w := by
    refine (minus_any (.first 0 0) (.first 49152 16384) w first_ok.1).mono ?_
    rintro e w' ⟨v, rfl, how, hb⟩
    obtain ⟨A, c, rfl, _⟩ := own_shape how
    have hr : ((Pat.first 0 0).minus (.first 49152 16384)).map Pat.raw = [Pat.first 32768 32768, Pat.first 49152 0].map Pat.raw := sane_minus
    have hp := own_pats how
    rw [raw_len hr] at how ⊢
    refine ⟨A, c, rfl, ?_, hb⟩
    rw [patCells_raw, hr, ← patCells_raw] at how
    exact own_pats how
  join1 w := by
    have h := join2_any (.first 49152 0) (.first 49152 16384) w
    rw [cells_raw sane_join.2.1, sane_join.1] at h
    exact h
  join2 w := by
    have h := join2_any (.first 49152 0) (.first 49152 49152) w
    rw [show (Pat.first 49152 0).joinV (.first 49152 49152) = .zero from if_neg (by rw [sane_join.2.2]; decide), sane_join.2.2, ← cells_raw sane_zero] at h
    exact h
  outs w g cl hg hp := by
    have hok : ∀ q, q ∈ [Pat.first 32768 0, Pat.first 49152 32768] → q.ok := fun q hq => by
      simp only [List.mem_cons, List.mem_nil_iff, or_false] at hq
      rcases hq with rfl | rfl
      · exact first_ok.2.1
      · exact first_ok.2.2.1
    refine (outside_any cl (some ⟨g, 0, none⟩) [.first 32768 0, .first 49152 32768] (.first 0 0) w hok first_ok.1 (by decide) hp (fun g' o e => by injection e with e; injection e with e _; omega)).mono ?_
    rintro e w' ⟨R, rfl, hf, hb⟩
    obtain ⟨f, rfl, hh⟩ := sane_out hf
    refine ⟨?_, hb⟩
    show Ending.returned (.tuple #[.agg (H f).toArray, .bool true]) = _
    rw [H_iV, hh, ← H_iV]
  rng w := by
    refine (range_any 0 3 1 6 w (by decide) (by decide) (by decide) (by decide) (by decide)).mono ?_
    rintro e w' ⟨A, c, rfl, how, hb⟩
    have hr : (rangeL 0 3 1 6).map Pat.raw = [Pat.first 57344 8192, Pat.first 49152 16384, Pat.first 49152 32768, Pat.first 57344 49152].map Pat.raw := sane_range
    rw [raw_len hr] at how ⊢
    refine ⟨A, c, rfl, ?_, hb⟩
    rw [patCells_raw, hr, ← patCells_raw] at how
    exact own_pats how
  then1 w := by
    have h := then_any (.first 32768 32768) (.first 49152 16384) w
    rw [cells_raw sane_then] at h
    exact h
  back1 w := by
    have h := back_any (.first 49152 16384) (.first 32768 32768) w
    rw [show (Pat.first 49152 16384).backV (.first 32768 32768) = .zero from if_neg sane_back, decide_eq_false sane_back, ← cells_raw sane_zero] at h
    exact h
  parse w hg := by
    refine (parse_any tagS w (by decide) hg).mono ?_
    rintro e w' ⟨hp, hb⟩
    refine ⟨?_, hb⟩
    rcases hp with ⟨p, _, _, h1, h2, _, he⟩ | ⟨_, hno⟩
    · rw [he]
      have : p.raw = tagP.raw := by
        unfold Pat.raw
        rw [h1, h2, ← sane_parse.2.1, ← sane_parse.2.2]
      rw [cells_raw this]
    · exact absurd sane_text (hno tagP first_ok.2.2.2 sane_parse.1 sane_parse.2.1 sane_parse.2.2)
  same2 w A' B' c d h1 h2 := by
    have h := rsame_any A' B' c d [Pat.first 32768 32768, Pat.first 49152 0] [Pat.first 32768 32768, Pat.first 49152 0] w (by decide) (by decide) h1 h2
    rw [samePs_self] at h
    exact h
  same4 w A' B' c d h1 h2 := by
    have h := rsame_any A' B' c d [Pat.first 57344 8192, Pat.first 49152 16384, Pat.first 49152 32768, Pat.first 57344 49152] [Pat.first 57344 8192, Pat.first 49152 16384, Pat.first 49152 32768, Pat.first 57344 49152] w (by decide) (by decide) h1 h2
    rw [samePs_self] at h
    exact h
  text w := by
    have h := text_any tagP w
    rw [sane_text] at h
    exact h
  right w := by
    have h := right_any [0, 0, 0, 0, 0, 0, 0, 0, 0, 65535] [0, 0, 0, 0, 0, 0, 0, 0, 0, 7] w rfl rfl
    rw [sane_right, ← sane_tag.1, ← sane_tag.2, ← H_iV, ← H_iV] at h
    exact h
  fits w := fits_any tagP tagP.b w sane_match
  b32 w := by rw [H_word0 32768 (by decide)]; exact run_word0 w 32768
  b49 w := by rw [H_word0 49152 (by decide)]; exact run_word0 w 49152
  b16 w := by rw [H_word0 16384 (by decide)]; exact run_word0 w 16384
  b7 w := by
    rw [H_iV, sane_tag.2]
    kernel_rfl
  hd := rfl
  hl := ⟨H_length _, H_one _, by rw [H_length]; exact Tryd.szH⟩
  bC w := run_buildM w _ _ (H_length _) (H_length _)
  bD w := run_buildM w _ _ (H_length _) (H_length _)
  bZ w := by rw [cells_raw sane_zero]; exact run_buildP0 w
  hdv w := by
    have e : (#[.int .i64 49152, .int .i64 0, .int .i64 0, .int .i64 0, .int .i64 0, .int .i64 0, .int .i64 0, .int .i64 0, .int .i64 0, .int .i64 0] : Array Value) = (H (hd 49152)).toArray := by
      rw [show H (hd 49152) = (word0 49152).map nV from H_word0 49152 (by decide)]; rfl
    rw [e, H_iV, eql_head w _ _ (HI_length _) (HI_length _)]; simp
  put1 := ⟨by
    rw [cells_raw sane_zero, H_iV tagP.m, sane_tag.1]
    show splice (H no ++ H no) 9 [.int .i64 65535] = _ ++ H no
    rw [H_rep]; rfl, by rw [List.length_append, H_length, H_length]⟩
  put2 := by
    show splice (H tagP.m ++ H no) 19 [.int .i64 7] = H tagP.m ++ H tagP.b
    rw [H_iV tagP.m, sane_tag.1, H_iV tagP.b, sane_tag.2, H_rep]; rfl
  eqD w := by rw [eql_pat]; simp
  eqA w := by rw [eql_pat]; simp
  eqT w := by rw [eql_pat]; simp
  eqM w := by rw [eql_mod]; simp
  eqH w := by rw [H_iV, eql_head w _ _ (HI_length _) (HI_length _)]; simp
/-- The statements' own sanity. -/
theorem sanity_any (w : World) (hg : GOk w) :
    Calls Tryd.prog 14 #[] w fun e w' => e = .returned (.bool true) ∧ Below w.heap.size w w' :=
  sanity_of _ _ _ _ _ _ _ _ _ _ _ _ _ _ _ _ _ sane_facts w hg
end Go.Proofs.YtbldnhpbmfmepaaDoor
