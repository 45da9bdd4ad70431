/-
  Contracts of the functions that the statement calls, part 6 of 13 (merged texts: Qf, Qg, Qh, Qi). Conditions: as the head of each part says.
-/
import Derived.Test.YtlpocfojgibhjaaDoorGD
import Derived.Test.YtlpocfojgibhjaaDoorGE
import Derived.Shelf.Small.Strs
import Derived.Shelf.Small.Wraps
import Derived.Shelf.Strings.Prefix
import Derived.Shelf.Strings.Count

/-
  Contracts of the walks over separates and sign. Conditions: the program's tables lie there.
-/
namespace Go.Proofs.YtlpocfojgibhjaaDoor
set_option linter.unusedVariables false
set_option linter.unusedSimpArgs false
open Go.RowKit Go.Shelf

def wordVs : List Value := wordsL.map fun l => .string ⟨l.toArray⟩
def twoVs : List Value := [.string { data := #[58, 61] }, .string { data := #[46, 46] }, .string { data := #[45, 62] }]
theorem rangeAt_below {w w' : World} {b o : Nat} {cs : List Value} (h : w.rangeAt b o cs) (hb : Below w.heap.size w w') : w'.rangeAt b o cs := fun j v hv => cellf_below hb (h j v hv)
/-- The program's tables lie there. -/
structure TT (w : World) : Prop where
  words : w.rangeAt 0 0 wordVs
  twos : w.rangeAt 2 0 twoVs
theorem TT.next {w w' : World} (h : TT w) (hb : Below w.heap.size w w') : TT w' := ⟨rangeAt_below h.words hb, rangeAt_below h.twos hb⟩

theorem index_lib (s : ByteArray) (c : Int) (w : World) : Calls Tryd.prog 79 #[.string s, .int .u8 c] w fun e w' => e = .returned (.int .i64 (Lib.indexByte s.data.toList c.toNat.toUInt8)) ∧ w' = w := Any.strings_IndexByte Tryd.indexA s c w
theorem prefix_lib (s p : ByteArray) (w : World) : Calls Tryd.prog 39 #[.string s, .string p] w fun e w' => e = .returned (.bool (Lib.hasPrefix s.data.toList p.data.toList)) ∧ w' = w := Any.strings_HasPrefix Tryd.prefixA s p w
theorem cutp_lib (s p : ByteArray) (w : World) : Calls Tryd.prog 37 #[.string s, .string p] w fun e w' => e = .returned (.tuple #[.string ⟨(Lib.trimPrefix s.data.toList p.data.toList).toArray⟩, .bool (Lib.hasPrefix s.data.toList p.data.toList)]) ∧ w' = w := Any.strings_CutPrefix Tryd.cutpA s p w
theorem compare_lib (a b : ByteArray) (w : World) : Calls Tryd.prog 83 #[.string a, .string b] w fun e w' => e = .returned (.int .i64 (Lib.compareBytes a.data.toList b.data.toList)) ∧ w' = w := Any.strings_Compare Tryd.compareA a b w
theorem count_lib (s : ByteArray) (c : UInt8) (w : World) : Calls Tryd.prog 23 #[.string s, .string ⟨#[c]⟩] w fun e w' => e = .returned (.int .i64 (Lib.countByte s.data.toList c)) ∧ w' = w := Any.strings_Count_one Tryd.countA s c w
theorem ret_str {a b : ByteArray} (h : b = a) : Ending.returned (.string a) = Ending.returned (.string b) := by rw [h]
theorem u8_back (b : UInt8) : ((b.toNat : Int).toNat).toUInt8 = b := by simp
theorem ix_sep (b : UInt8) : decide ((0 : Int) ≤ Lib.indexByte [32, 9, 13, 10] b) = sepB b := by
  have : ∀ k : Fin 256, decide ((0 : Int) ≤ Lib.indexByte [32, 9, 13, 10] (UInt8.ofNat k.1)) = sepB (UInt8.ofNat k.1) := by decide +kernel
  have h := this ⟨b.toNat, b.toNat_lt⟩
  simpa using h
theorem ix_one (b : UInt8) : decide ((0 : Int) ≤ Lib.indexByte [40, 41, 91, 93, 123, 125, 44, 59, 58, 46, 61, 43, 42, 47, 124] b) = decide (b ∈ oneL) := by
  have : ∀ k : Fin 256, decide ((0 : Int) ≤ Lib.indexByte [40, 41, 91, 93, 123, 125, 44, 59, 58, 46, 61, 43, 42, 47, 124] (UInt8.ofNat k.1)) = decide (UInt8.ofNat k.1 ∈ oneL) := by decide +kernel
  have h := this ⟨b.toNat, b.toNat_lt⟩
  simpa using h
set_option maxRecDepth 100000 in
theorem separates_any (b : UInt8) (w : World) : Calls Tryd.prog 70 #[.int .u8 (b.toNat : Int)] w fun e w' => e = .returned (.bool (sepB b)) ∧ Below w.heap.size w w' := by
  have HI := index_lib { data := #[32, 9, 13, 10] } (b.toNat : Int) w
  have hd := ix_sep b
  rw [u8_back] at HI
  obtain ⟨i, hi⟩ : ∃ i, Lib.indexByte [32, 9, 13, 10] b = i := ⟨_, rfl⟩
  rw [show ({ data := #[32, 9, 13, 10] } : ByteArray).data.toList = [32, 9, 13, 10] from rfl, hi] at HI
  rw [hi] at hd
  rw [← hd]
  clear hd hi
  go_enter Tryd.func70, Tryd.ntmps70
  go_wp2_with fail
  (with_reducible refine HI.mono ?_)
  rintro e w1 ⟨rfl, rfl⟩
  go_wp2
  go_ret
  exact ⟨rfl, Below.refl _ _⟩
theorem prefix_cut {s : ByteArray} {a b : UInt8} (h : Lib.hasPrefix s.data.toList [a, b] = true) : s.extract 0 2 = { data := #[a, b] } := by
  apply data_inj
  rw [cut_list]
  rw [Lib.hasPrefix, List.isPrefixOf_iff_prefix] at h
  obtain ⟨t, ht⟩ := h
  rw [← ht]
  rfl
theorem prefix_two {l : List UInt8} {a b : UInt8} (h : Lib.hasPrefix l [a, b] = true) (ht : two a b = true) : signL l = 2 := by
  rw [Lib.hasPrefix, List.isPrefixOf_iff_prefix] at h
  obtain ⟨t, rfl⟩ := h
  show signL (a :: b :: t) = 2
  rw [signL_two, if_pos ht]
theorem sign_none (h0 : Lib.hasPrefix [] [58, 61] = false) : signL [] = 0 := rfl
theorem pre_two (x y a b : UInt8) (l : List UInt8) : Lib.hasPrefix (x :: y :: l) [a, b] = decide (x = a ∧ y = b) := by
  have : Lib.hasPrefix (x :: y :: l) [a, b] = true ↔ (x = a ∧ y = b) := by
    rw [Lib.hasPrefix, List.isPrefixOf_iff_prefix]
    constructor
    · rintro ⟨t, ht⟩
      simp at ht
      exact ⟨ht.1.symm, ht.2.1.symm⟩
    · rintro ⟨rfl, rfl⟩
      exact ⟨l, rfl⟩
  by_cases h : x = a ∧ y = b
  · rw [decide_eq_true h]; exact this.2 h
  · rw [decide_eq_false h]
    cases hc : Lib.hasPrefix (x :: y :: l) [a, b] with
    | false => rfl
    | true => exact absurd (this.1 hc) h
theorem sign_other {x : UInt8} {l : List UInt8} (h0 : Lib.hasPrefix (x :: l) [58, 61] = false) (h1 : Lib.hasPrefix (x :: l) [46, 46] = false) (h2 : Lib.hasPrefix (x :: l) [45, 62] = false) : signL (x :: l) = if x ∈ oneL then 1 else 0 := by
  cases l with
  | nil => exact signL_one x
  | cons y l =>
    rw [pre_two] at h0 h1 h2
    rw [signL_two, if_neg (by unfold two; rw [h0, h1, h2]; decide)]
def SgRel (w : World) (p0 p1 p2 : Bool) (i : Value) (wr : World) : Prop := ∃ k : Nat, (k = 0 ∧ True ∨ k = 1 ∧ p0 = false ∨ k = 2 ∧ p0 = false ∧ p1 = false ∨ k = 3 ∧ p0 = false ∧ p1 = false ∧ p2 = false) ∧ i = .int .i64 (k : Int) ∧ wr = w
theorem Tryd.szTwo : (Tryd.prog.info? 89).map (·.size) = some 3 := by kernel_rfl
set_option maxRecDepth 100000 in
set_option maxHeartbeats 3200000 in
theorem sign_any (s : ByteArray) (w : World) (hT : TT w) : Calls Tryd.prog 64 #[.string s] w fun e w' => e = .returned (.string (s.extract 0 (signL s.data.toList))) ∧ Below w.heap.size w w' := by
  have H0 := fun w => prefix_lib s { data := #[58, 61] } w
  have H1 := fun w => prefix_lib s { data := #[46, 46] } w
  have H2 := fun w => prefix_lib s { data := #[45, 62] } w
  have c0 : Lib.hasPrefix s.data.toList [58, 61] = true → ({ data := #[58, 61] } : ByteArray) = s.extract 0 (signL s.data.toList) := fun h => by rw [prefix_two h rfl, prefix_cut h]
  have c1 : Lib.hasPrefix s.data.toList [46, 46] = true → ({ data := #[46, 46] } : ByteArray) = s.extract 0 (signL s.data.toList) := fun h => by rw [prefix_two h rfl, prefix_cut h]
  have c2 : Lib.hasPrefix s.data.toList [45, 62] = true → ({ data := #[45, 62] } : ByteArray) = s.extract 0 (signL s.data.toList) := fun h => by rw [prefix_two h rfl, prefix_cut h]
  have c3 := sign_other (x := s.data.toList.headD 0) (l := s.data.toList.tail)
  obtain ⟨R, hR⟩ : ∃ R, s.extract 0 (signL s.data.toList) = R := ⟨_, rfl⟩
  have hnil : s.size = 0 → R = { data := #[] } := fun h => by
    rw [← hR]
    apply data_inj
    rw [cut_list]
    have : s.data.toList = [] := List.eq_nil_of_length_eq_zero (by rw [bytes_size]; exact h)
    rw [this]
    rfl
  have hpos : (h : 0 < s.size) → Lib.hasPrefix s.data.toList [58, 61] = false → Lib.hasPrefix s.data.toList [46, 46] = false → Lib.hasPrefix s.data.toList [45, 62] = false → R = if s[0] ∈ oneL then s.extract 0 1 else { data := #[] } := fun h e0 e1 e2 => by
    rw [← hR]
    obtain ⟨x, l, hl⟩ : ∃ x l, s.data.toList = x :: l := by
      cases hs : s.data.toList with
      | nil => have := bytes_size s; rw [hs] at this; simp at this; omega
      | cons x l => exact ⟨x, l, rfl⟩
    have hx : s[0] = x := by rw [← byte_at s h]; simp [hl]
    rw [hl] at e0 e1 e2 ⊢
    rw [sign_other e0 e1 e2, hx]
    split
    · rfl
    · apply data_inj
      rw [cut_list]
      simp
  rw [show ({ data := #[58, 61] } : ByteArray).data.toList = [58, 61] from rfl] at H0
  rw [show ({ data := #[46, 46] } : ByteArray).data.toList = [46, 46] from rfl] at H1
  rw [show ({ data := #[45, 62] } : ByteArray).data.toList = [45, 62] from rfl] at H2
  rw [hR] at c0 c1 c2 ⊢
  obtain ⟨p0, hp0⟩ : ∃ p, Lib.hasPrefix s.data.toList [58, 61] = p := ⟨_, rfl⟩
  obtain ⟨p1, hp1⟩ : ∃ p, Lib.hasPrefix s.data.toList [46, 46] = p := ⟨_, rfl⟩
  obtain ⟨p2, hp2⟩ : ∃ p, Lib.hasPrefix s.data.toList [45, 62] = p := ⟨_, rfl⟩
  rw [hp0] at H0 c0 hpos
  rw [hp1] at H1 c1 hpos
  rw [hp2] at H2 c2 hpos
  have C0 := Lib.hid c0
  have C1 := Lib.hid c1
  have C2 := Lib.hid c2
  have HN := Lib.hid hnil
  have HP := Lib.hid hpos
  have h2 := hT.twos
  clear c0 c1 c2 c3 hnil hpos hR hp0 hp1 hp2
  go_enter Tryd.func64, Tryd.ntmps64
  have z0 : w.cell? ⟨2, 0, none⟩ = some (.string { data := #[58, 61] }) := h2 0 _ rfl
  have z1 : w.cell? ⟨2, 1, none⟩ = some (.string { data := #[46, 46] }) := h2 1 _ rfl
  have z2 : w.cell? ⟨2, 2, none⟩ = some (.string { data := #[45, 62] }) := h2 2 _ rfl
  clear h2
  have x0 : ∀ w, Sem.run Tryd.prog (Instr.index 89 (.agg #[.string { data := #[58, 61] }, .string { data := #[46, 46] }, .string { data := #[45, 62] }]) (.int .i64 0)) w = .ok (.string { data := #[58, 61] }) w := fun w => by kernel_rfl
  have x1 : ∀ w, Sem.run Tryd.prog (Instr.index 89 (.agg #[.string { data := #[58, 61] }, .string { data := #[46, 46] }, .string { data := #[45, 62] }]) (.int .i64 1)) w = .ok (.string { data := #[46, 46] }) w := fun w => by kernel_rfl
  have x2 : ∀ w, Sem.run Tryd.prog (Instr.index 89 (.agg #[.string { data := #[58, 61] }, .string { data := #[46, 46] }, .string { data := #[45, 62] }]) (.int .i64 2)) w = .ok (.string { data := #[45, 62] }) w := fun w => by kernel_rfl
  go_wp2
  go_loopw [6] (SgRel w p0 p1 p2) (fun i _ => 3 - (intOf i).toNat)
  case atStart => exact ⟨0, Or.inl ⟨rfl, trivial⟩, rfl, rfl⟩
  case round =>
    clear z0 z1 z2
    obtain ⟨k, hk, rfl, rfl⟩ := hrel
    rcases hk with hk | hk | hk | hk
    · obtain rfl := hk.1
      go_wp2_with fail
      (with_reducible refine (H0 _).mono ?_)
      rintro e w2 ⟨rfl, rfl⟩
      cases p0
      · go_wp2
        go_roundw
        case rel => exact ⟨1, Or.inr (Or.inl ⟨rfl, rfl⟩), by go_num, rfl⟩
        case measure => simp [intOf]
      · go_wp2
        go_ret
        exact ⟨ret_str (C0.out trivial).symm, Below.refl _ _⟩
    · obtain rfl := hk.1
      go_wp2_with fail
      (with_reducible refine (H1 _).mono ?_)
      rintro e w2 ⟨rfl, rfl⟩
      cases p1
      · go_wp2
        go_roundw
        case rel => exact ⟨2, Or.inr (Or.inr (Or.inl ⟨rfl, hk.2, rfl⟩)), by go_num, rfl⟩
        case measure => simp [intOf]
      · go_wp2
        go_ret
        exact ⟨ret_str (C1.out trivial).symm, Below.refl _ _⟩
    · obtain rfl := hk.1
      go_wp2_with fail
      (with_reducible refine (H2 _).mono ?_)
      rintro e w2 ⟨rfl, rfl⟩
      cases p2
      · go_wp2
        go_roundw
        case rel => exact ⟨3, Or.inr (Or.inr (Or.inr ⟨rfl, hk.2.1, hk.2.2, rfl⟩)), by go_num, rfl⟩
        case measure => simp [intOf]
      · go_wp2
        go_ret
        exact ⟨ret_str (C2.out trivial).symm, Below.refl _ _⟩
    · obtain rfl := hk.1
      by_cases hs : s.size = 0
      · have hs0 : s = { data := #[] } := by
          apply data_inj
          exact List.eq_nil_of_length_eq_zero (by rw [bytes_size]; exact hs)
        have hq := toList_nil hs
        have hq2 := isEmpty_nil hs
        go_wp2
        go_ret
        exact ⟨ret_str (HN.out hs), Below.refl _ _⟩
      · have hs0 : s ≠ { data := #[] } := fun e => hs (by rw [e]; rfl)
        have hq := toList_ne (show 0 < s.size by omega)
        have hq2 := isEmpty_ne (show 0 < s.size by omega)
        have h0 : 0 < s.size := by omega
        have h0i : (0 : Int) < (s.size : Int) := by omega
        have hr := HP.out h0 hk.2.1 hk.2.2.1 hk.2.2.2
        obtain ⟨b, hb⟩ : ∃ b, s[0]'h0 = b := ⟨_, rfl⟩
        have HI := index_lib { data := #[40, 41, 91, 93, 123, 125, 44, 59, 58, 46, 61, 43, 42, 47, 124] } (b.toNat : Int) wr
        have hd := ix_one b
        rw [u8_back] at HI
        obtain ⟨i, hi⟩ : ∃ i, Lib.indexByte [40, 41, 91, 93, 123, 125, 44, 59, 58, 46, 61, 43, 42, 47, 124] b = i := ⟨_, rfl⟩
        rw [show ({ data := #[40, 41, 91, 93, 123, 125, 44, 59, 58, 46, 61, 43, 42, 47, 124] } : ByteArray).data.toList = [40, 41, 91, 93, 123, 125, 44, 59, 58, 46, 61, 43, 42, 47, 124] from rfl, hi] at HI
        rw [hi] at hd
        rw [hb] at hr
        have h1i : (1 : Int) ≤ (s.size : Int) := by omega
        by_cases hm : b ∈ oneL
        · have hge : (0 : Int) ≤ i := by simpa [hm] using hd
          rw [if_pos hm] at hr
          have HR := Lib.hid hr
          clear hr hd hm hi
          go_wp2_with fail
          (with_reducible refine HI.mono ?_)
          rintro e w2 ⟨rfl, rfl⟩
          go_wp2
          go_ret
          exact ⟨ret_str HR.out, Below.refl _ _⟩
        · have hge : ¬ (0 : Int) ≤ i := by simpa [hm] using hd
          rw [if_neg hm] at hr
          have HR := Lib.hid hr
          clear hr hd hm hi
          go_wp2_with fail
          (with_reducible refine HI.mono ?_)
          rintro e w2 ⟨rfl, rfl⟩
          go_wp2
          go_ret
          exact ⟨ret_str HR.out, Below.refl _ _⟩
end Go.Proofs.YtlpocfojgibhjaaDoor

/-
  Contracts of the walks over kind: a word is found by halving. Conditions: the program's tables lie there.
-/
namespace Go.Proofs.YtlpocfojgibhjaaDoor
set_option linter.unusedVariables false
set_option linter.unusedSimpArgs false
open Go.RowKit Go.Shelf

def wAt (k : Nat) : List UInt8 := wordsL.getD k []
def wB (k : Nat) : ByteArray := ⟨(wAt k).toArray⟩
theorem words_len : wordsL.length = 49 := rfl
set_option maxRecDepth 100000 in
theorem words_sorted : ∀ a : Fin 49, ∀ b : Fin 49, a.1 < b.1 → 0 < Lib.compareBytes (wAt b.1) (wAt a.1) ∧ Lib.compareBytes (wAt a.1) (wAt b.1) < 0 := by decide +kernel
theorem compare_self : ∀ l : List UInt8, Lib.compareBytes l l = 0
  | [] => rfl
  | a :: l => by
    unfold Lib.compareBytes
    rw [if_neg (UInt8.lt_irrefl a), if_neg (UInt8.lt_irrefl a), compare_self l]
theorem compare_zero : ∀ a b : List UInt8, Lib.compareBytes a b = 0 → a = b
  | [], [], _ => rfl
  | [], _ :: _, h => by simp [Lib.compareBytes] at h
  | _ :: _, [], h => by simp [Lib.compareBytes] at h
  | a :: x, b :: y, h => by
    unfold Lib.compareBytes at h
    split at h
    · simp at h
    · rename_i h1
      split at h
      · simp at h
      · rename_i h2
        have e : a = b := UInt8.le_antisymm (UInt8.not_lt.1 h2) (UInt8.not_lt.1 h1)
        rw [e, compare_zero x y h]
theorem wVs_get {k : Nat} (h : k < 49) : wordVs[k]? = some (.string (wB k)) := by
  unfold wordVs wB wAt
  rw [List.getElem?_map, List.getElem?_eq_getElem (by rw [words_len]; exact h), List.getD_eq_getElem?_getD, List.getElem?_eq_getElem (by rw [words_len]; exact h)]
  rfl
theorem mem_words {l : List UInt8} : l ∈ wordsL ↔ ∃ k, k < 49 ∧ wAt k = l := by
  constructor
  · intro h
    obtain ⟨k, hk, e⟩ := List.getElem_of_mem h
    rw [words_len] at hk
    refine ⟨k, hk, ?_⟩
    unfold wAt
    rw [List.getD_eq_getElem?_getD, List.getElem?_eq_getElem (by rw [words_len]; exact hk), ← e]
    rfl
  · rintro ⟨k, hk, rfl⟩
    unfold wAt
    rw [List.getD_eq_getElem?_getD, List.getElem?_eq_getElem (by rw [words_len]; exact hk)]
    exact List.getElem_mem _
/-- How a text compares with a word. -/
def cmpW (l : List UInt8) (k : Nat) : Int := Lib.compareBytes l (wAt k)
theorem cmpW_hi {l : List UInt8} {h k : Nat} (hh : h < 49) (hc : 0 < cmpW l h) (hk : k < 49) (e : wAt k = l) : h < k := by
  rcases Nat.lt_trichotomy h k with h1 | h1 | h1
  · exact h1
  · subst h1
    subst e
    unfold cmpW at hc
    rw [compare_self] at hc
    omega
  · have := (words_sorted ⟨k, hk⟩ ⟨h, hh⟩ h1).2
    subst e
    unfold cmpW at hc
    simp only at this
    omega
theorem cmpW_lo {l : List UInt8} {h k : Nat} (hh : h < 49) (hc : ¬ 0 < cmpW l h) (hk : k < 49) (e : wAt k = l) : k ≤ h := by
  rcases Nat.lt_trichotomy h k with h1 | h1 | h1
  · have := (words_sorted ⟨h, hh⟩ ⟨k, hk⟩ h1).1
    subst e
    unfold cmpW at hc
    simp only at this
    omega
  · omega
  · omega
set_option maxRecDepth 100000 in
set_option maxHeartbeats 1600000 in
theorem kind1_any (s : ByteArray) (g k : Nat) (hk : k < 49) (w : World) (hg : w.cell? ⟨g, 0, none⟩ = some (.string s)) (hT : TT w) :
    Calls Tryd.prog 82 #[.int .i64 (k : Int), .pointer (some ⟨g, 0, none⟩)] w fun e w' => e = .returned (.int .i64 (cmpW s.data.toList k)) ∧ Below w.heap.size w w' := by
  have HC := fun w => compare_lib s (wB k) w
  have hw := hT.words k _ (wVs_get hk)
  rw [show (wB k).data.toList = wAt k from rfl] at HC
  obtain ⟨c, hc⟩ : ∃ c, cmpW s.data.toList k = c := ⟨_, rfl⟩
  rw [show Lib.compareBytes s.data.toList (wAt k) = c from hc] at HC
  rw [hc]
  rw [show 0 + k = k from Nat.zero_add k] at hw
  obtain ⟨B, hB⟩ : ∃ B, wB k = B := ⟨_, rfl⟩
  rw [hB] at hw HC
  clear hc hB
  have h1 : (k : Int) < 49 := by omega
  have h2 : (0 : Int) ≤ (k : Int) := by omega
  go_enter Tryd.func82, Tryd.ntmps82
  go_wp2
  go_quiet ((go_at_call 83; exact Calls.quiet_of_same (HC _)))
  have hb := below_drewN w nq
  go_wp2
  go_ret
  exact ⟨rfl, hb⟩
theorem ret_two {i : Int} {a b : Bool} (h : a = b) : Ending.returned (.tuple #[.int .i64 i, .bool a]) = Ending.returned (.tuple #[.int .i64 i, .bool b]) := by rw [h]
def FindRel (l : List UInt8) (w : World) (i j : Value) (wr : World) : Prop :=
  ∃ a b : Nat, a ≤ b ∧ b ≤ 49 ∧ i = .int .i64 (a : Int) ∧ j = .int .i64 (b : Int) ∧ (∀ k, k < 49 → wAt k = l → a ≤ k ∧ k ≤ b) ∧ Below w.heap.size w wr
set_option maxRecDepth 100000 in
set_option maxHeartbeats 1600000 in
theorem find_any (s : ByteArray) (g : Nat) (w : World) (hg : w.cell? ⟨g, 0, none⟩ = some (.string s)) (hT : TT w) :
    Calls Tryd.prog 81 #[.int .i64 49, .func (.func 82) #[] #[.pointer (some ⟨g, 0, none⟩)]] w fun e w' => (∃ i : Int, e = .returned (.tuple #[.int .i64 i, .bool (decide (s.data.toList ∈ wordsL))])) ∧ Below w.heap.size w w' := by
  have HG := Lib.hid hg
  have HT := Lib.hid hT
  obtain ⟨l, hl⟩ : ∃ l, s.data.toList = l := ⟨_, rfl⟩
  have HL := Lib.hid hl
  rw [hl]
  clear hg hT hl
  go_enter Tryd.func81, Tryd.ntmps81
  go_wp2
  go_loopw [4, 6] (fun i j wr => FindRel l w i j wr) (fun i j _ => (intOf j).toNat - (intOf i).toNat)
  case atStart => exact ⟨0, 49, by omega, by omega, rfl, rfl, fun k h _ => ⟨by omega, by omega⟩, Below.refl _ _⟩
  case round =>
    obtain ⟨a, b, hab, hb, rfl, rfl, hm, hbe⟩ := hrel
    have HM := Lib.hid hm
    clear hm
    by_cases hlt : a < b
    · have hli : (a : Int) < (b : Int) := by omega
      obtain ⟨h, hh⟩ : ∃ h, (a + b) / 2 = h := ⟨_, rfl⟩
      have hdiv : ((a : Int) + (b : Int)) / 2 = (h : Int) := by omega
      have h49 : h < 49 := by omega
      have hah : a ≤ h := by omega
      have hhb : h < b := by omega
      have HK := kind1_any s g h h49 wr (cellf_below hbe HG.out) (HT.out.next hbe)
      rw [HL.out] at HK
      by_cases hc : 0 < cmpW l h
      · have hlo := fun k hk e => cmpW_hi (l := l) (h := h) (k := k) h49 hc hk e
        obtain ⟨c, hcc⟩ : ∃ c, cmpW l h = c := ⟨_, rfl⟩
        rw [hcc] at HK hc
        have HLO := Lib.hid hlo
        clear hlo hh hcc
        go_wp2_with fail
        (with_reducible refine HK.mono ?_)
        rintro e w2 ⟨rfl, hb2⟩
        have hbe := below_join hbe hb2
        clear hb2 HK
        go_wp2
        go_roundw
        case rel => exact ⟨h + 1, b, hhb, hb, by go_num, rfl, fun k hk e => ⟨HLO.out k hk e, (HM.out k hk e).2⟩, hbe⟩
        case measure => simp [intOf]; omega
      · have hlo := fun k hk e => cmpW_lo (l := l) (h := h) (k := k) h49 hc hk e
        obtain ⟨c, hcc⟩ : ∃ c, cmpW l h = c := ⟨_, rfl⟩
        rw [hcc] at HK hc
        have HLO := Lib.hid hlo
        clear hlo hh hcc
        go_wp2_with fail
        (with_reducible refine HK.mono ?_)
        rintro e w2 ⟨rfl, hb2⟩
        have hbe := below_join hbe hb2
        clear hb2 HK
        go_wp2
        go_roundw
        case rel => exact ⟨a, h, hah, by omega, rfl, rfl, fun k hk e => ⟨(HM.out k hk e).1, HLO.out k hk e⟩, hbe⟩
        case measure => simp [intOf]; omega
    · have hab2 : b = a := by omega
      subst hab2
      by_cases h49 : b < 49
      · have hbi : (b : Int) < 49 := by omega
        have HK := kind1_any s g b h49 wr (cellf_below hbe HG.out) (HT.out.next hbe)
        rw [HL.out] at HK
        have hfin : (cmpW l b == 0) = decide (l ∈ wordsL) := by
          by_cases hm : l ∈ wordsL
          · obtain ⟨k, hk, e⟩ := mem_words.1 hm
            have := HM.out k hk e
            have hkb : k = b := by omega
            subst hkb
            rw [decide_eq_true hm]
            unfold cmpW
            rw [e, compare_self]
            rfl
          · rw [decide_eq_false hm]
            refine beq_eq_false_iff_ne.2 fun e => hm (mem_words.2 ⟨b, h49, (compare_zero _ _ e).symm⟩)
        obtain ⟨c, hcc⟩ : ∃ c, cmpW l b = c := ⟨_, rfl⟩
        rw [hcc] at HK hfin
        have HF := Lib.hid hfin
        clear hfin hcc
        go_wp2_with fail
        (with_reducible refine HK.mono ?_)
        rintro e w2 ⟨rfl, hb2⟩
        have hbe := below_join hbe hb2
        clear hb2 HK
        go_wp2
        go_ret2
        exact ⟨⟨_, ret_two HF.out⟩, hbe⟩
      · have hbi : ¬ (b : Int) < 49 := by omega
        have hfin : false = decide (l ∈ wordsL) := by
          symm
          refine decide_eq_false fun hm => ?_
          obtain ⟨k, hk, e⟩ := mem_words.1 hm
          have := HM.out k hk e
          omega
        have HF := Lib.hid hfin
        clear hfin
        go_wp2
        go_ret2
        exact ⟨⟨_, ret_two HF.out⟩, hbe⟩
theorem lenS (s : ByteArray) : s.data.toList.length = s.size := bytes_size s
set_option maxRecDepth 100000 in
set_option maxHeartbeats 1600000 in
theorem kind_any (s : ByteArray) (w : World) (hT : TT w) :
    Calls Tryd.prog 42 #[.string s] w fun e w' => e = .returned (.int .i64 (kindM s.data.toList : Nat)) ∧ Below w.heap.size w w' := by
  obtain ⟨l, hl⟩ : ∃ l, s.data.toList = l := ⟨_, rfl⟩
  have hlen := lenS s
  have HF := fun g w hg hT => find_any s g w hg hT
  have hK : kindM l = if l ∈ wordsL then 2 else if s.size ≤ 24 then 1 else 5 := by rw [← hlen, hl]; rfl
  rw [hl] at HF ⊢
  rw [hK]
  have HT := Lib.hid hT
  clear hK hT hlen hl
  by_cases hm : l ∈ wordsL
  · rw [if_pos hm]
    rw [decide_eq_true hm] at HF
    go_enter Tryd.func42, Tryd.ntmps42
    go_wp2_with (with_reducible refine wpList_box (o := ⟨some 1, .box 9 (.tmp 0), _, _, _, _⟩) ?g1qa 9 (.tmp 0) ?o1qa (.string s) [.string s] ?x1qa ?c1qa ?_)
    try (case g1qa => rfl)
    try (case o1qa => rfl)
    try (case x1qa => rfl)
    try (case c1qa => rfl)
    intro g1 w1 hg1 hs1 hb1 B1
    have hb1 := hb1.mono (Nat.le_of_eq hg1.out.symm)
    have hc1 := B1.cell (k := 0) rfl
    go_wp2_with fail
    (with_reducible refine (HF g1 _ hc1 (HT.out.next hb1)).mono ?_)
    rintro e w2 ⟨⟨i, rfl⟩, hb2⟩
    have hbe := below_join hb1 hb2
    go_wp2
    go_ret
    exact ⟨rfl, hbe⟩
  · rw [if_neg hm]
    rw [decide_eq_false hm] at HF
    by_cases h24 : s.size ≤ 24
    · rw [if_pos h24]
      have h24i : (s.size : Int) ≤ 24 := by omega
      go_enter Tryd.func42, Tryd.ntmps42
      go_wp2_with (with_reducible refine wpList_box (o := ⟨some 1, .box 9 (.tmp 0), _, _, _, _⟩) ?g1qb 9 (.tmp 0) ?o1qb (.string s) [.string s] ?x1qb ?c1qb ?_)
      try (case g1qb => rfl)
      try (case o1qb => rfl)
      try (case x1qb => rfl)
      try (case c1qb => rfl)
      intro g1 w1 hg1 hs1 hb1 B1
      have hb1 := hb1.mono (Nat.le_of_eq hg1.out.symm)
      have hc1 := B1.cell (k := 0) rfl
      go_wp2_with fail
      (with_reducible refine (HF g1 _ hc1 (HT.out.next hb1)).mono ?_)
      rintro e w2 ⟨⟨i, rfl⟩, hb2⟩
      have hbe := below_join hb1 hb2
      have hc1 := cellf_below hb2 hc1
      go_wp2
      go_ret
      exact ⟨rfl, hbe⟩
    · rw [if_neg h24]
      have h24i : ¬ (s.size : Int) ≤ 24 := by omega
      go_enter Tryd.func42, Tryd.ntmps42
      go_wp2_with (with_reducible refine wpList_box (o := ⟨some 1, .box 9 (.tmp 0), _, _, _, _⟩) ?g1qc 9 (.tmp 0) ?o1qc (.string s) [.string s] ?x1qc ?c1qc ?_)
      try (case g1qc => rfl)
      try (case o1qc => rfl)
      try (case x1qc => rfl)
      try (case c1qc => rfl)
      intro g1 w1 hg1 hs1 hb1 B1
      have hb1 := hb1.mono (Nat.le_of_eq hg1.out.symm)
      have hc1 := B1.cell (k := 0) rfl
      go_wp2_with fail
      (with_reducible refine (HF g1 _ hc1 (HT.out.next hb1)).mono ?_)
      rintro e w2 ⟨⟨i, rfl⟩, hb2⟩
      have hbe := below_join hb1 hb2
      have hc1 := cellf_below hb2 hc1
      go_wp2
      go_ret
      exact ⟨rfl, hbe⟩
end Go.Proofs.YtlpocfojgibhjaaDoor

/-
  Contracts of the walks over value and Number. Condition: texts that fit into memory.
-/
namespace Go.Proofs.YtlpocfojgibhjaaDoor
set_option linter.unusedVariables false
set_option linter.unusedSimpArgs false
open Go.RowKit Go.Shelf

theorem ix_d16 (b : UInt8) : Lib.indexByte [48, 49, 50, 51, 52, 53, 54, 55, 56, 57, 97, 98, 99, 100, 101, 102] b = if 16 ≤ digV b then -1 else (digV b : Int) := by
  have : ∀ k : Fin 256, Lib.indexByte [48, 49, 50, 51, 52, 53, 54, 55, 56, 57, 97, 98, 99, 100, 101, 102] (UInt8.ofNat k.1) = if 16 ≤ digV (UInt8.ofNat k.1) then -1 else (digV (UInt8.ofNat k.1) : Int) := by decide +kernel
  have h := this ⟨b.toNat, b.toNat_lt⟩
  simpa using h
theorem ix_d10 (b : UInt8) : Lib.indexByte [48, 49, 50, 51, 52, 53, 54, 55, 56, 57] b = if 10 ≤ digV b then -1 else (digV b : Int) := by
  have : ∀ k : Fin 256, Lib.indexByte [48, 49, 50, 51, 52, 53, 54, 55, 56, 57] (UInt8.ofNat k.1) = if 10 ≤ digV (UInt8.ofNat k.1) then -1 else (digV (UInt8.ofNat k.1) : Int) := by decide +kernel
  have h := this ⟨b.toNat, b.toNat_lt⟩
  simpa using h
theorem digV_le (b : UInt8) : digV b ≤ 16 := by
  have : ∀ k : Fin 256, digV (UInt8.ofNat k.1) ≤ 16 := by decide +kernel
  have h := this ⟨b.toNat, b.toNat_lt⟩
  simpa using h
def numE : Option Nat → Ending
  | none => .returned (.tuple #[.int .i64 0, .bool false])
  | some n => .returned (.tuple #[.int .i64 (n : Int), .bool true])
theorem numE_none : numE none = .returned (.tuple #[.int .i64 0, .bool false]) := rfl
theorem numE_some (n : Nat) : numE (some n) = .returned (.tuple #[.int .i64 (n : Int), .bool true]) := rfl
def valE (l : List UInt8) : Option Nat → Option Nat
  | none => none
  | some n => if l = [] then none else some n
theorem valL_get {base n k : Nat} {l : List UInt8} {b : UInt8} (h : l[k]? = some b) : valL base n (l.drop k) = if base ≤ digV b ∨ 1073741824 < n * base + digV b then none else valL base (n * base + digV b) (l.drop (k + 1)) := by
  have hl := (List.getElem?_eq_some_iff.1 h).1
  rw [List.drop_eq_getElem_cons hl, (List.getElem?_eq_some_iff.1 h).2]
  rfl
def ValRel (base : Nat) (l : List UInt8) (V : Option Nat) (w : World) (i m : Value) (wr : World) : Prop :=
  ∃ k n : Nat, k ≤ l.length ∧ n ≤ 1073741824 ∧ i = .int .i64 (k : Int) ∧ m = .int .i64 (n : Int) ∧ valL base n (l.drop k) = V ∧ Below w.heap.size w wr
theorem run_cut16 (w : World) : (Instr.slice 9 (.string { data := #[48, 49, 50, 51, 52, 53, 54, 55, 56, 57, 97, 98, 99, 100, 101, 102] }) none (some (.int .i64 16)) none).run Tryd.prog w = .ok (.string { data := #[48, 49, 50, 51, 52, 53, 54, 55, 56, 57, 97, 98, 99, 100, 101, 102] }) w := by kernel_rfl
set_option maxRecDepth 100000 in
set_option maxHeartbeats 3200000 in
theorem value16_any (s : ByteArray) (w : World) (hs : s.size ≤ 140737488355328) :
    Calls Tryd.prog 38 #[.string s, .int .i64 16] w fun e w' => e = numE (valE s.data.toList (valL 16 0 s.data.toList)) ∧ Below w.heap.size w w' := by
  have hb10 := fun k (h : k < s.size) => byte_at s h
  obtain ⟨l, hl⟩ : ∃ l, s.data.toList = l := ⟨_, rfl⟩
  have hlen := lenS s
  rw [hl] at hlen ⊢
  obtain ⟨V, hV⟩ : ∃ V, Hid (valL 16 0 l = V) := ⟨_, rfl⟩
  rw [hV.out]
  have HAT : Hid (∀ k (h : k < s.size), l[k]? = some (s[k]'h)) := by
    have : ∀ k (h : k < s.size), l[k]? = some (s[k]'h) := fun k h => by
      rw [← hl, ← hb10 k h, List.getElem?_eq_getElem]
    exact this
  have HL0 : Hid (s.size = 0 → l = []) := (fun h => List.eq_nil_of_length_eq_zero (by omega) : s.size = 0 → l = [])
  have HL1 : Hid (l = [] → s.size = 0) := (fun h => by rw [← hlen, h]; rfl : l = [] → s.size = 0)
  obtain ⟨N, hN⟩ : ∃ N, Hid (l.length = N) := ⟨_, rfl⟩
  rw [hN.out] at hlen
  have HLEN := Lib.hid hlen
  clear hb10 hl hlen
  have hcut := run_cut16
  go_enter Tryd.func38, Tryd.ntmps38
  go_wp2
  go_loopw [11, 6] (fun i m wr => ValRel 16 l V w i m wr) (fun i _ _ => N - (intOf i).toNat)
  case atStart => exact ⟨0, 0, Nat.zero_le _, by omega, rfl, rfl, hV.out, Below.refl _ _⟩
  case round =>
    obtain ⟨k, n, hk, hn, rfl, rfl, hv, hbe⟩ := hrel
    rw [hN.out] at hk
    have HV := Lib.hid hv
    clear hv
    by_cases hlt : k < s.size
    · have hki : (k : Int) < (s.size : Int) := by omega
      have hk0 : (0 : Int) ≤ (k : Int) := by omega
      have hkN : k < N := by have := HLEN.out; omega
      have hst := valL_get (base := 16) (n := n) (HAT.out k hlt)
      rw [HV.out] at hst
      obtain ⟨b, hb⟩ : ∃ b, s[k]'hlt = b := ⟨_, rfl⟩
      rw [hb] at hst
      have HI := fun w => index_lib { data := #[48, 49, 50, 51, 52, 53, 54, 55, 56, 57, 97, 98, 99, 100, 101, 102] } (b.toNat : Int) w
      rw [u8_back, show ({ data := #[48, 49, 50, 51, 52, 53, 54, 55, 56, 57, 97, 98, 99, 100, 101, 102] } : ByteArray).data.toList = [48, 49, 50, 51, 52, 53, 54, 55, 56, 57, 97, 98, 99, 100, 101, 102] from rfl, ix_d16] at HI
      have hd16 := digV_le b
      obtain ⟨d, hd⟩ : ∃ d, digV b = d := ⟨_, rfl⟩
      rw [hd] at hst HI hd16
      by_cases hd0 : 16 ≤ d
      · rw [if_pos hd0] at HI
        rw [if_pos (Or.inl hd0)] at hst
        have HR := Lib.hid hst
        clear hst hd
        go_wp2
        go_quiet ((go_at_call 79; exact Calls.quiet_of_same (HI _)))
        have hbe := below_join hbe (below_drewN wr nq)
        go_wp2
        go_ret2
        exact ⟨by rw [HR.out]; rfl, hbe⟩
      · rw [if_neg hd0] at HI
        obtain ⟨m, hm⟩ : ∃ m, n * 16 + d = m := ⟨_, rfl⟩
        have hmi : (n : Int) * 16 + (d : Int) = (m : Int) := by omega
        rw [hm] at hst
        by_cases hbig : 1073741824 < m
        · rw [if_pos (Or.inr hbig)] at hst
          have hbigi : (1073741824 : Int) < (m : Int) := by omega
          have hbigj : ¬ (m : Int) ≤ 1073741824 := by omega
          have HR := Lib.hid hst
          clear hst hd
          go_wp2
          go_quiet ((go_at_call 79; exact Calls.quiet_of_same (HI _)))
          have hbe := below_join hbe (below_drewN wr nq)
          have hd0i : ¬ (d : Int) < 0 := by omega
          go_wp2
          go_ret2
          exact ⟨by rw [HR.out]; rfl, hbe⟩
        · rw [if_neg (by omega)] at hst
          have hbigi : ¬ (1073741824 : Int) < (m : Int) := by omega
          have HR := Lib.hid hst
          clear hst hd
          go_wp2
          go_quiet ((go_at_call 79; exact Calls.quiet_of_same (HI _)))
          have hbe := below_join hbe (below_drewN wr nq)
          have hd0i : ¬ (d : Int) < 0 := by omega
          go_wp2
          go_roundw
          case rel => exact ⟨k + 1, m, by rw [hN.out]; omega, by omega, by go_num, rfl, HR.out.symm, hbe⟩
          case measure => simp [intOf]; omega
    · have hkn : k = s.size := by have := HLEN.out; omega
      subst hkn
      have hfin : V = some n := by
        rw [← HV.out, List.drop_eq_nil_of_le (by rw [hN.out, HLEN.out]; exact Nat.le_refl _)]
        rfl
      have HF := Lib.hid hfin
      clear hfin
      by_cases h0 : s.size = 0
      · have h0i : ¬ (0 : Int) < (s.size : Int) := by omega
        have hz : n = 0 := by
          have h1 := HF.out
          rw [← hV.out, HL0.out h0] at h1
          have : some 0 = some n := h1
          injection this with h2
          exact h2.symm
        subst hz
        go_wp2
        go_ret2
        exact ⟨by rw [HF.out, HL0.out h0]; rfl, hbe⟩
      · have h0i : (0 : Int) < (s.size : Int) := by omega
        have hne : l ≠ [] := fun e => h0 (HL1.out e)
        have HE : Hid (numE (valE l V) = .returned (.tuple #[.int .i64 (n : Int), .bool true])) := by
          have : numE (valE l V) = .returned (.tuple #[.int .i64 (n : Int), .bool true]) := by rw [HF.out]; unfold valE; simp only; rw [if_neg hne]; rfl
          exact this
        clear hne
        go_wp2
        go_ret2
        exact ⟨(ret_two (decide_eq_true (Nat.pos_of_ne_zero h0))).trans HE.out.symm, hbe⟩
theorem run_cut10 (w : World) : (Instr.slice 9 (.string { data := #[48, 49, 50, 51, 52, 53, 54, 55, 56, 57, 97, 98, 99, 100, 101, 102] }) none (some (.int .i64 10)) none).run Tryd.prog w = .ok (.string { data := #[48, 49, 50, 51, 52, 53, 54, 55, 56, 57] }) w := by kernel_rfl
set_option maxRecDepth 100000 in
set_option maxHeartbeats 3200000 in
theorem value10_any (s : ByteArray) (w : World) (hs : s.size ≤ 140737488355328) :
    Calls Tryd.prog 38 #[.string s, .int .i64 10] w fun e w' => e = numE (valE s.data.toList (valL 10 0 s.data.toList)) ∧ Below w.heap.size w w' := by
  have hb10 := fun k (h : k < s.size) => byte_at s h
  obtain ⟨l, hl⟩ : ∃ l, s.data.toList = l := ⟨_, rfl⟩
  have hlen := lenS s
  rw [hl] at hlen ⊢
  obtain ⟨V, hV⟩ : ∃ V, Hid (valL 10 0 l = V) := ⟨_, rfl⟩
  rw [hV.out]
  have HAT : Hid (∀ k (h : k < s.size), l[k]? = some (s[k]'h)) := by
    have : ∀ k (h : k < s.size), l[k]? = some (s[k]'h) := fun k h => by
      rw [← hl, ← hb10 k h, List.getElem?_eq_getElem]
    exact this
  have HL0 : Hid (s.size = 0 → l = []) := (fun h => List.eq_nil_of_length_eq_zero (by omega) : s.size = 0 → l = [])
  have HL1 : Hid (l = [] → s.size = 0) := (fun h => by rw [← hlen, h]; rfl : l = [] → s.size = 0)
  obtain ⟨N, hN⟩ : ∃ N, Hid (l.length = N) := ⟨_, rfl⟩
  rw [hN.out] at hlen
  have HLEN := Lib.hid hlen
  clear hb10 hl hlen
  have hcut := run_cut10
  go_enter Tryd.func38, Tryd.ntmps38
  go_wp2
  go_loopw [11, 6] (fun i m wr => ValRel 10 l V w i m wr) (fun i _ _ => N - (intOf i).toNat)
  case atStart => exact ⟨0, 0, Nat.zero_le _, by omega, rfl, rfl, hV.out, Below.refl _ _⟩
  case round =>
    obtain ⟨k, n, hk, hn, rfl, rfl, hv, hbe⟩ := hrel
    rw [hN.out] at hk
    have HV := Lib.hid hv
    clear hv
    by_cases hlt : k < s.size
    · have hki : (k : Int) < (s.size : Int) := by omega
      have hk0 : (0 : Int) ≤ (k : Int) := by omega
      have hkN : k < N := by have := HLEN.out; omega
      have hst := valL_get (base := 10) (n := n) (HAT.out k hlt)
      rw [HV.out] at hst
      obtain ⟨b, hb⟩ : ∃ b, s[k]'hlt = b := ⟨_, rfl⟩
      rw [hb] at hst
      have HI := fun w => index_lib { data := #[48, 49, 50, 51, 52, 53, 54, 55, 56, 57] } (b.toNat : Int) w
      rw [u8_back, show ({ data := #[48, 49, 50, 51, 52, 53, 54, 55, 56, 57] } : ByteArray).data.toList = [48, 49, 50, 51, 52, 53, 54, 55, 56, 57] from rfl, ix_d10] at HI
      have hd16 := digV_le b
      obtain ⟨d, hd⟩ : ∃ d, digV b = d := ⟨_, rfl⟩
      rw [hd] at hst HI hd16
      by_cases hd0 : 10 ≤ d
      · rw [if_pos hd0] at HI
        rw [if_pos (Or.inl hd0)] at hst
        have HR := Lib.hid hst
        clear hst hd
        go_wp2
        go_quiet ((go_at_call 79; exact Calls.quiet_of_same (HI _)))
        have hbe := below_join hbe (below_drewN wr nq)
        go_wp2
        go_ret2
        exact ⟨by rw [HR.out]; rfl, hbe⟩
      · rw [if_neg hd0] at HI
        obtain ⟨m, hm⟩ : ∃ m, n * 10 + d = m := ⟨_, rfl⟩
        have hmi : (n : Int) * 10 + (d : Int) = (m : Int) := by omega
        rw [hm] at hst
        by_cases hbig : 1073741824 < m
        · rw [if_pos (Or.inr hbig)] at hst
          have hbigi : (1073741824 : Int) < (m : Int) := by omega
          have hbigj : ¬ (m : Int) ≤ 1073741824 := by omega
          have HR := Lib.hid hst
          clear hst hd
          go_wp2
          go_quiet ((go_at_call 79; exact Calls.quiet_of_same (HI _)))
          have hbe := below_join hbe (below_drewN wr nq)
          have hd0i : ¬ (d : Int) < 0 := by omega
          go_wp2
          go_ret2
          exact ⟨by rw [HR.out]; rfl, hbe⟩
        · rw [if_neg (by omega)] at hst
          have hbigi : ¬ (1073741824 : Int) < (m : Int) := by omega
          have HR := Lib.hid hst
          clear hst hd
          go_wp2
          go_quiet ((go_at_call 79; exact Calls.quiet_of_same (HI _)))
          have hbe := below_join hbe (below_drewN wr nq)
          have hd0i : ¬ (d : Int) < 0 := by omega
          go_wp2
          go_roundw
          case rel => exact ⟨k + 1, m, by rw [hN.out]; omega, by omega, by go_num, rfl, HR.out.symm, hbe⟩
          case measure => simp [intOf]; omega
    · have hkn : k = s.size := by have := HLEN.out; omega
      subst hkn
      have hfin : V = some n := by
        rw [← HV.out, List.drop_eq_nil_of_le (by rw [hN.out, HLEN.out]; exact Nat.le_refl _)]
        rfl
      have HF := Lib.hid hfin
      clear hfin
      by_cases h0 : s.size = 0
      · have h0i : ¬ (0 : Int) < (s.size : Int) := by omega
        have hz : n = 0 := by
          have h1 := HF.out
          rw [← hV.out, HL0.out h0] at h1
          have : some 0 = some n := h1
          injection this with h2
          exact h2.symm
        subst hz
        go_wp2
        go_ret2
        exact ⟨by rw [HF.out, HL0.out h0]; rfl, hbe⟩
      · have h0i : (0 : Int) < (s.size : Int) := by omega
        have hne : l ≠ [] := fun e => h0 (HL1.out e)
        have HE : Hid (numE (valE l V) = .returned (.tuple #[.int .i64 (n : Int), .bool true])) := by
          have : numE (valE l V) = .returned (.tuple #[.int .i64 (n : Int), .bool true]) := by rw [HF.out]; unfold valE; simp only; rw [if_neg hne]; rfl
          exact this
        clear hne
        go_wp2
        go_ret2
        exact ⟨(ret_two (decide_eq_true (Nat.pos_of_ne_zero h0))).trans HE.out.symm, hbe⟩
theorem pre_one (l : List UInt8) : Lib.hasPrefix l [48] = decide ([48] <+: l) := by
  unfold Lib.hasPrefix
  by_cases h : [48] <+: l
  · rw [decide_eq_true h]; exact List.isPrefixOf_iff_prefix.2 h
  · rw [decide_eq_false h]
    cases hc : List.isPrefixOf [48] l with
    | false => rfl
    | true => exact absurd (List.isPrefixOf_iff_prefix.1 hc) h
theorem pre_hex (l : List UInt8) : Lib.hasPrefix l [48, 120] = decide ([48, 120] <+: l) := by
  unfold Lib.hasPrefix
  by_cases h : [48, 120] <+: l
  · rw [decide_eq_true h]; exact List.isPrefixOf_iff_prefix.2 h
  · rw [decide_eq_false h]
    cases hc : List.isPrefixOf [48, 120] l with
    | false => rfl
    | true => exact absurd (List.isPrefixOf_iff_prefix.1 hc) h
theorem trim_hex {l : List UInt8} (h : [48, 120] <+: l) : Lib.trimPrefix l [48, 120] = l.drop 2 := by
  unfold Lib.trimPrefix
  rw [pre_hex, decide_eq_true h, if_pos rfl]
  rfl
theorem mk_size (l : List UInt8) : ({ data := l.toArray } : ByteArray).size = l.length := by simp [ByteArray.size]
set_option maxRecDepth 100000 in
set_option maxHeartbeats 3200000 in
theorem number_any (s : ByteArray) (w : World) (hs : s.size ≤ 140737488355328) :
    Calls Tryd.prog 16 #[.string s] w fun e w' => e = numE (numM s.data.toList) ∧ Below w.heap.size w w' := by
  have HC := fun w => cutp_lib s { data := #[48, 120] } w
  have HP := fun w => prefix_lib s { data := #[48] } w
  have H10 := fun w => value10_any s w hs
  have hlen := lenS s
  have hinj := fun (e : s.data.toList = [48]) => (data_inj e : s = { data := #[48] })
  obtain ⟨l, hl⟩ : ∃ l, s.data.toList = l := ⟨_, rfl⟩
  rw [hl] at HC HP H10 hlen hinj ⊢
  rw [show ({ data := #[48, 120] } : ByteArray).data.toList = [48, 120] from rfl, pre_hex] at HC
  rw [show ({ data := #[48] } : ByteArray).data.toList = [48] from rfl, pre_one] at HP
  have hsl : s = { data := #[48] } → l = [48] := fun e => by rw [← hl, e]
  obtain ⟨R, hR⟩ : ∃ R, Hid (numM l = R) := ⟨_, rfl⟩
  rw [hR.out]
  by_cases hx : [48, 120] <+: l
  · rw [decide_eq_true hx, trim_hex hx] at HC
    have h2 : 2 ≤ l.length := by obtain ⟨t, rfl⟩ := hx; simp
    have hN : numM l = if 10 < l.length ∨ l.length = 2 then none else valL 16 0 (l.drop 2) := if_pos hx
    have hdl : (l.drop 2).length = l.length - 2 := List.length_drop
    obtain ⟨D, hD⟩ : ∃ D, l.drop 2 = D := ⟨_, rfl⟩
    have hsz := mk_size D
    have H16 := fun w h => value16_any { data := D.toArray } w h
    rw [hD] at HC hN hdl
    rw [show ({ data := D.toArray } : ByteArray).data.toList = D from rfl] at H16
    rw [hdl] at hsz
    obtain ⟨B, hB⟩ : ∃ B : ByteArray, { data := D.toArray } = B := ⟨_, rfl⟩
    rw [hB] at HC H16 hsz
    by_cases hbig : 10 < l.length
    · have hbi : (8 : Int) < (B.size : Int) := by omega
      have hr : R = none := by rw [← hR.out, hN, if_pos (Or.inl hbig)]
      have HR := Lib.hid hr
      clear hr hN hdl hD hB hx HP hinj hsl hl
      go_enter Tryd.func16, Tryd.ntmps16
      go_wp2_with fail
      (with_reducible refine (HC _).mono ?_)
      rintro e w1 ⟨rfl, rfl⟩
      go_wp2
      go_ret2
      exact ⟨by rw [HR.out]; rfl, Below.refl _ _⟩
    · have hbi : ¬ (8 : Int) < (B.size : Int) := by omega
      have hr : valE D (valL 16 0 D) = R := by
        rw [← hR.out, hN]
        by_cases h0 : l.length = 2
        · have : D = [] := List.eq_nil_of_length_eq_zero (by omega)
          rw [if_pos (Or.inr h0), this]
          rfl
        · have : D ≠ [] := fun e => by rw [e] at hdl; simp at hdl; omega
          rw [if_neg (by omega)]
          cases valL 16 0 D with
          | none => rfl
          | some n => unfold valE; simp only; rw [if_neg this]
      have HV := fun w => H16 w (by omega)
      rw [hr] at HV
      clear hr hN hdl hD hB hx HP hinj hsl hl H16
      go_enter Tryd.func16, Tryd.ntmps16
      go_wp2_with fail
      (with_reducible refine (HC _).mono ?_)
      rintro e w1 ⟨rfl, rfl⟩
      cases R with
      | none =>
        simp only [numE_none, numE_some] at HV ⊢
        go_wp2_with fail
        (with_reducible refine (HV _).mono ?_)
        rintro e w2 ⟨rfl, hb2⟩
        go_wp2
        go_ret2
        exact ⟨rfl, hb2⟩
      | some n =>
        simp only [numE_none, numE_some] at HV ⊢
        go_wp2_with fail
        (with_reducible refine (HV _).mono ?_)
        rintro e w2 ⟨rfl, hb2⟩
        go_wp2
        go_ret2
        exact ⟨rfl, hb2⟩
  · rw [decide_eq_false hx] at HC
    have hN : numM l = if [48] <+: l ∧ l ≠ [48] then none else if l = [] then none else valL 10 0 l := if_neg hx
    by_cases hp : [48] <+: l
    · rw [decide_eq_true hp] at HP
      by_cases hq : l = [48]
      · have hse := hinj hq
        rw [if_neg (fun h => h.2 hq), if_neg (by rw [hq]; decide)] at hN
        have hv : valE l (valL 10 0 l) = R := by rw [← hR.out, hN, hq]; rfl
        rw [hv] at H10
        have hss := beq_same hse
        have hs1 : s.toList = [48] := by rw [ByteArray.toList_eq, hl, hq]
        clear hv hN hq hx hp hinj hsl hl hse hss
        go_enter Tryd.func16, Tryd.ntmps16
        go_wp2_with fail
        (with_reducible refine (HC _).mono ?_)
        rintro e w1 ⟨rfl, rfl⟩
        go_wp2_with fail
        (with_reducible refine (HP _).mono ?_)
        rintro e w1 ⟨rfl, rfl⟩
        cases R with
        | none =>
          simp only [numE_none, numE_some] at H10 ⊢
          go_wp2_with fail
          (with_reducible refine (H10 _).mono ?_)
          rintro e w2 ⟨rfl, hb2⟩
          go_wp2
          go_ret2
          exact ⟨rfl, hb2⟩
        | some n =>
          simp only [numE_none, numE_some] at H10 ⊢
          go_wp2_with fail
          (with_reducible refine (H10 _).mono ?_)
          rintro e w2 ⟨rfl, hb2⟩
          go_wp2
          go_ret2
          exact ⟨rfl, hb2⟩
      · rw [if_pos ⟨hp, hq⟩] at hN
        have hr : R = none := by rw [← hR.out, hN]
        have HR := Lib.hid hr
        have hs1 : (s.toList == [48]) = false := beq_eq_false_iff_ne.2 (by rw [ByteArray.toList_eq, hl]; exact hq)
        clear hr hN hx hp hinj hsl hl hq H10
        go_enter Tryd.func16, Tryd.ntmps16
        go_wp2_with fail
        (with_reducible refine (HC _).mono ?_)
        rintro e w1 ⟨rfl, rfl⟩
        go_wp2_with fail
        (with_reducible refine (HP _).mono ?_)
        rintro e w1 ⟨rfl, rfl⟩
        go_wp2
        go_ret2
        exact ⟨by rw [HR.out]; rfl, Below.refl _ _⟩
    · rw [decide_eq_false hp] at HP
      rw [if_neg (fun h => hp h.1)] at hN
      have hv : valE l (valL 10 0 l) = R := by
        rw [← hR.out, hN]
        by_cases h0 : l = []
        · rw [if_pos h0, h0]; rfl
        · rw [if_neg h0]
          cases valL 10 0 l with
          | none => rfl
          | some n => unfold valE; simp only; rw [if_neg h0]
      rw [hv] at H10
      clear hv hN hx hp hinj hsl hl
      go_enter Tryd.func16, Tryd.ntmps16
      go_wp2_with fail
      (with_reducible refine (HC _).mono ?_)
      rintro e w1 ⟨rfl, rfl⟩
      go_wp2_with fail
      (with_reducible refine (HP _).mono ?_)
      rintro e w1 ⟨rfl, rfl⟩
      cases R with
      | none =>
        simp only [numE_none, numE_some] at H10 ⊢
        go_wp2_with fail
        (with_reducible refine (H10 _).mono ?_)
        rintro e w2 ⟨rfl, hb2⟩
        go_wp2
        go_ret2
        exact ⟨rfl, hb2⟩
      | some n =>
        simp only [numE_none, numE_some] at H10 ⊢
        go_wp2_with fail
        (with_reducible refine (H10 _).mono ?_)
        rintro e w2 ⟨rfl, hb2⟩
        go_wp2
        go_ret2
        exact ⟨rfl, hb2⟩
end Go.Proofs.YtlpocfojgibhjaaDoor

/-
  Contracts of the walks over begins, gap, and leading with their closures. Conditions: the program's tables lie there; texts that fit into memory.
-/
namespace Go.Proofs.YtlpocfojgibhjaaDoor
set_option linter.unusedVariables false
set_option linter.unusedSimpArgs false
open Go.RowKit Go.Shelf

theorem sign_size (s : ByteArray) : (s.extract 0 (signL s.data.toList)).size = signL s.data.toList := by
  rw [← bytes_size, cut_list]
  simp
  have := signL_le s.data.toList
  rw [bytes_size] at this
  exact Nat.min_eq_left this
theorem head_of (s : ByteArray) (h : 0 < s.size) : ∃ l, s.data.toList = s[0] :: l := by
  cases hs : s.data.toList with
  | nil => have := bytes_size s; rw [hs] at this; simp at this; omega
  | cons x l =>
    refine ⟨l, ?_⟩
    have := byte_at s h
    simp only [hs] at this
    rw [← this]
    rfl
set_option maxRecDepth 100000 in
set_option maxHeartbeats 3200000 in
theorem begins_any (s : ByteArray) (h0 : 0 < s.size) (hs : s.size ≤ 140737488355328) (w : World) (hT : TT w) :
    Calls Tryd.prog 67 #[.string s] w fun e w' => e = .returned (.bool (begB s.data.toList)) ∧ Below w.heap.size w w' := by
  have HS := fun w h => sign_any s w h
  have hsz := sign_size s
  obtain ⟨l, hl⟩ := head_of s h0
  have hB : begB s.data.toList = (lo s[0] || dg s[0] || sepB s[0] || decide (s[0] = 35) || decide (0 < signL s.data.toList)) := by rw [hl]; rfl
  rw [hB]
  clear hB hl
  obtain ⟨R, hR⟩ : ∃ R, s.extract 0 (signL s.data.toList) = R := ⟨_, rfl⟩
  rw [hR] at HS hsz
  obtain ⟨z, hz⟩ : ∃ z, signL s.data.toList = z := ⟨_, rfl⟩
  rw [hz] at hsz ⊢
  obtain ⟨b, hb⟩ : ∃ b, s[0]'h0 = b := ⟨_, rfl⟩
  rw [hb]
  have HL := fun w => letter_any b w
  have HD := fun w => digit_any b w
  have HP := fun w => separates_any b w
  obtain ⟨p, hp⟩ : ∃ p, lo b = p := ⟨_, rfl⟩
  obtain ⟨q, hq⟩ : ∃ q, dg b = q := ⟨_, rfl⟩
  obtain ⟨r, hr⟩ : ∃ r, sepB b = r := ⟨_, rfl⟩
  rw [hp] at HL ⊢
  rw [hq] at HD ⊢
  rw [hr] at HP ⊢
  clear hp hq hr hR hz
  have h0i : (0 : Int) < (s.size : Int) := by omega
  cases p
  · cases q
    · cases r
      · by_cases h35 : b = 35
        · have h35i : ((b.toNat : Int) == 35) = true := by rw [h35]; rfl
          rw [decide_eq_true h35]
          clear h35
          go_enter Tryd.func67, Tryd.ntmps67
          go_wp2_with fail
          (with_reducible refine (HL _).mono ?_)
          rintro e w1 ⟨rfl, hb1⟩
          go_wp2_with fail
          (with_reducible refine (HD _).mono ?_)
          rintro e w2 ⟨rfl, hb2⟩
          have hb1 := below_join hb1 hb2
          go_wp2_with fail
          (with_reducible refine (HP _).mono ?_)
          rintro e w3 ⟨rfl, hb3⟩
          have hb1 := below_join hb1 hb3
          go_wp2
          go_ret
          exact ⟨rfl, hb1⟩
        · have h35i : ((b.toNat : Int) == 35) = false := beq_eq_false_iff_ne.2 fun e => h35 (UInt8.toNat_inj.1 (by simpa using (by omega : b.toNat = 35)))
          rw [decide_eq_false h35]
          clear h35
          by_cases hz : 0 < z
          · have k1 := toList_ne (s := R) (by omega)
            have k2 := isEmpty_ne (s := R) (by omega)
            rw [decide_eq_true hz]
            go_enter Tryd.func67, Tryd.ntmps67
            go_wp2_with fail
            (with_reducible refine (HL _).mono ?_)
            rintro e w1 ⟨rfl, hb1⟩
            go_wp2_with fail
            (with_reducible refine (HD _).mono ?_)
            rintro e w2 ⟨rfl, hb2⟩
            have hb1 := below_join hb1 hb2
            go_wp2_with fail
            (with_reducible refine (HP _).mono ?_)
            rintro e w3 ⟨rfl, hb3⟩
            have hb1 := below_join hb1 hb3
            go_wp2_with fail
            (with_reducible refine (HS _ (hT.next hb1)).mono ?_)
            rintro e w4 ⟨rfl, hb4⟩
            have hb1 := below_join hb1 hb4
            go_wp2
            go_ret
            exact ⟨rfl, hb1⟩
          · have k1 := toList_nil (s := R) (by omega)
            have k2 := isEmpty_nil (s := R) (by omega)
            rw [decide_eq_false hz]
            go_enter Tryd.func67, Tryd.ntmps67
            go_wp2_with fail
            (with_reducible refine (HL _).mono ?_)
            rintro e w1 ⟨rfl, hb1⟩
            go_wp2_with fail
            (with_reducible refine (HD _).mono ?_)
            rintro e w2 ⟨rfl, hb2⟩
            have hb1 := below_join hb1 hb2
            go_wp2_with fail
            (with_reducible refine (HP _).mono ?_)
            rintro e w3 ⟨rfl, hb3⟩
            have hb1 := below_join hb1 hb3
            go_wp2_with fail
            (with_reducible refine (HS _ (hT.next hb1)).mono ?_)
            rintro e w4 ⟨rfl, hb4⟩
            have hb1 := below_join hb1 hb4
            go_wp2
            go_ret
            exact ⟨rfl, hb1⟩
      · go_enter Tryd.func67, Tryd.ntmps67
        go_wp2_with fail
        (with_reducible refine (HL _).mono ?_)
        rintro e w1 ⟨rfl, hb1⟩
        go_wp2_with fail
        (with_reducible refine (HD _).mono ?_)
        rintro e w2 ⟨rfl, hb2⟩
        have hb1 := below_join hb1 hb2
        go_wp2_with fail
        (with_reducible refine (HP _).mono ?_)
        rintro e w3 ⟨rfl, hb3⟩
        have hb1 := below_join hb1 hb3
        go_wp2
        go_ret
        exact ⟨rfl, hb1⟩
    · go_enter Tryd.func67, Tryd.ntmps67
      go_wp2_with fail
      (with_reducible refine (HL _).mono ?_)
      rintro e w1 ⟨rfl, hb1⟩
      go_wp2_with fail
      (with_reducible refine (HD _).mono ?_)
      rintro e w2 ⟨rfl, hb2⟩
      have hb1 := below_join hb1 hb2
      go_wp2
      go_ret
      exact ⟨rfl, hb1⟩
  · go_enter Tryd.func67, Tryd.ntmps67
    go_wp2_with fail
    (with_reducible refine (HL _).mono ?_)
    rintro e w1 ⟨rfl, hb1⟩
    go_wp2
    go_ret
    exact ⟨rfl, hb1⟩
theorem odd_get : ∀ (l : List UInt8) (j : Nat), j < oddL l → begB (l.drop j) = false
  | [], j, h => by simp [oddL] at h
  | b :: l, 0, h => by
    rw [oddL_cons] at h
    split at h
    · omega
    · rename_i hn; simpa using hn
  | b :: l, j + 1, h => by
    rw [oddL_cons] at h
    split at h
    · omega
    · exact odd_get l j (by omega)
theorem odd_stop : ∀ (l : List UInt8), oddL l < l.length → begB (l.drop (oddL l)) = true
  | [], h => by simp at h
  | b :: l, h => by
    by_cases hw : begB (b :: l) = true
    · have e : oddL (b :: l) = 0 := by rw [oddL_cons, if_pos hw]
      rw [e]; exact hw
    · have e : oddL (b :: l) = oddL l + 1 := by rw [oddL_cons, if_neg hw]
      rw [e]
      exact odd_stop l (by rw [e] at h; simpa using h)
theorem tail_list (s : ByteArray) (k : Nat) : (s.extract k s.size).data.toList = s.data.toList.drop k := by
  rw [cut_list]
  rw [List.take_of_length_le (by rw [bytes_size]; exact Nat.le_refl _)]
theorem tail_size (s : ByteArray) (k : Nat) : (s.extract k s.size).size = s.size - k := by
  rw [← bytes_size, tail_list, List.length_drop, bytes_size]
set_option maxRecDepth 100000 in
set_option maxHeartbeats 1600000 in
theorem st1_any (s : ByteArray) (g k : Nat) (hk : k < s.size) (hs : s.size ≤ 140737488355328) (w : World) (hg : w.cell? ⟨g, 0, none⟩ = some (.string s)) (hT : TT w) :
    Calls Tryd.prog 66 #[.int .i64 (k : Int), .pointer (some ⟨g, 0, none⟩)] w fun e w' => e = .returned (.bool (!begB (s.data.toList.drop k))) ∧ Below w.heap.size w w' := by
  have HW := fun w h => begins_any (s.extract k s.size) (by rw [tail_size]; omega) (by rw [tail_size]; omega) w h
  rw [tail_list] at HW
  obtain ⟨p, hp⟩ : ∃ p, begB (s.data.toList.drop k) = p := ⟨_, rfl⟩
  rw [hp] at HW ⊢
  clear hp
  obtain ⟨S, hS⟩ : ∃ S, s.extract k s.size = S := ⟨_, rfl⟩
  rw [hS] at HW
  have h1 : (k : Int) ≤ (s.size : Int) := by omega
  have h2 : (0 : Int) ≤ (k : Int) := by omega
  go_enter Tryd.func66, Tryd.ntmps66
  go_wp2_with fail
  (with_reducible refine (HW _ hT).mono ?_)
  rintro e w1 ⟨rfl, hb1⟩
  go_wp2
  go_ret
  exact ⟨rfl, hb1⟩
set_option maxRecDepth 100000 in
set_option maxHeartbeats 1600000 in
theorem lead_st1 (s : ByteArray) (g : Nat) (hs : s.size ≤ 140737488355328) (w : World) (hg : w.cell? ⟨g, 0, none⟩ = some (.string s)) (hT : TT w) :
    Calls Tryd.prog 43 #[.string s, .func (.func 66) #[] #[.pointer (some ⟨g, 0, none⟩)]] w fun e w' => e = .returned (.string (s.extract 0 (oddL s.data.toList))) ∧ Below w.heap.size w w' := by
  have hle := oddL_le s.data.toList
  have hlen := lenS s
  have hAt := fun k (hk : k < oddL s.data.toList) => odd_get _ k hk
  have hEnd := fun (hk : oddL s.data.toList < s.data.toList.length) => odd_stop _ hk
  have HST := fun k hk w hg hT => st1_any s g k hk hs w hg hT
  obtain ⟨l, hl⟩ : ∃ l, s.data.toList = l := ⟨_, rfl⟩
  rw [hl] at hle hlen hAt hEnd HST ⊢
  obtain ⟨n, hn⟩ : ∃ n, oddL l = n := ⟨_, rfl⟩
  rw [hn] at hle hAt hEnd ⊢
  rw [hlen] at hle hEnd
  clear hn hl hlen
  have HA := Lib.hid hAt
  have HE := Lib.hid hEnd
  have HG := Lib.hid hg
  have HT := Lib.hid hT
  clear hAt hEnd hg hT
  have hni : (n : Int) ≤ (s.size : Int) := by omega
  have hn0 : (0 : Int) ≤ (n : Int) := by omega
  go_enter Tryd.func43, Tryd.ntmps43
  go_wp2
  go_loopw [5] (LeadRel n w) (fun i _ => n - (intOf i).toNat)
  case atStart => exact ⟨0, Nat.zero_le _, rfl, Below.refl _ _⟩
  case round =>
    obtain ⟨k, hk, rfl, hbe⟩ := hrel
    by_cases hlt : k < n
    · have hks : k < s.size := by omega
      have hki : (k : Int) < (s.size : Int) := by omega
      have HW := HST k hks wr (cellf_below hbe HG.out) (HT.out.next hbe)
      rw [HA.out k hlt] at HW
      go_wp2_with fail
      (with_reducible refine HW.mono ?_)
      rintro e w2 ⟨rfl, hb2⟩
      have hbe := below_join hbe hb2
      clear hb2 HW
      go_wp2
      go_roundw
      case rel => exact ⟨k + 1, hlt, by go_num, hbe⟩
      case measure => simp [intOf]; omega
    · have hkn : k = n := by omega
      subst hkn
      by_cases hks : k < s.size
      · have hki : (k : Int) < (s.size : Int) := by omega
        have HW := HST k hks wr (cellf_below hbe HG.out) (HT.out.next hbe)
        rw [HE.out hks] at HW
        go_wp2_with fail
        (with_reducible refine HW.mono ?_)
        rintro e w2 ⟨rfl, hb2⟩
        have hbe := below_join hbe hb2
        clear hb2 HW
        go_wp2
        go_ret
        exact ⟨rfl, hbe⟩
      · have hki : ¬ (k : Int) < (s.size : Int) := by omega
        go_wp2
        go_ret
        exact ⟨rfl, hbe⟩
/-- Whether a byte is in a comment, behind the byte. -/
def insB (ins : Bool) (b : UInt8) : Bool := decide (b = 35) || ins && decide (b ≠ 10)
def insL : Bool → List UInt8 → Bool
  | ins, [] => ins
  | ins, b :: l => insL (insB ins b) l
theorem insL_snoc : ∀ (l : List UInt8) (ins : Bool) (b : UInt8), insL ins (l ++ [b]) = insB (insL ins l) b
  | [], _, _ => rfl
  | a :: l, ins, b => insL_snoc l (insB ins a) b
def gapB (ins : Bool) (b : UInt8) : Bool := insB ins b || sepB b
theorem gapL_step (ins : Bool) (b : UInt8) (l : List UInt8) : gapL ins (b :: l) = if gapB ins b then gapL (insB ins b) l + 1 else 0 := by
  unfold gapB
  show (if insB ins b then gapL true l + 1 else if sepB b then gapL false l + 1 else 0) = _
  cases insB ins b <;> cases sepB b <;> rfl
theorem gap_get : ∀ (l : List UInt8) (ins : Bool) (j : Nat) (h : j < l.length), j < gapL ins l → gapB (insL ins (l.take j)) l[j] = true
  | b :: l, ins, 0, _, hr => by
    rw [gapL_step] at hr
    split at hr
    · assumption
    · omega
  | b :: l, ins, j + 1, h, hr => by
    rw [gapL_step] at hr
    split at hr
    · exact gap_get l _ j (by simpa using h) (by omega)
    · omega
theorem gap_stop : ∀ (l : List UInt8) (ins : Bool) (h : gapL ins l < l.length), gapB (insL ins (l.take (gapL ins l))) l[gapL ins l] = false
  | [], ins, h => by simp at h
  | b :: l, ins, h => by
    by_cases hw : gapB ins b = true
    · have e : gapL ins (b :: l) = gapL (insB ins b) l + 1 := by rw [gapL_step, if_pos hw]
      have h' : gapL (insB ins b) l < l.length := by rw [e] at h; simpa using h
      have := gap_stop l (insB ins b) h'
      simpa [e, insL] using this
    · have e : gapL ins (b :: l) = 0 := by rw [gapL_step, if_neg hw]
      simpa [e, insL] using hw
set_option maxRecDepth 100000 in
set_option maxHeartbeats 3200000 in
theorem gap1_any (s : ByteArray) (g1 g2 k : Nat) (ins : Bool) (hk : k < s.size) (hs : s.size ≤ 140737488355328) (w : World) (B1 : Blk w g1 9 [.string s]) (h12 : g1 < g2) (B2 : Blk w g2 4 [.bool ins]) :
    Calls Tryd.prog 69 #[.int .i64 (k : Int), .pointer (some ⟨g1, 0, none⟩), .pointer (some ⟨g2, 0, none⟩)] w fun e w' => e = .returned (.bool (gapB ins (s[k]'hk))) ∧ Blk w' g2 4 [.bool (insB ins (s[k]'hk))] ∧ Below g2 w w' := by
  obtain ⟨b, hb⟩ : ∃ b, s[k]'hk = b := ⟨_, rfl⟩
  rw [hb]
  have HP := fun w => separates_any b w
  obtain ⟨r, hr⟩ : ∃ r, sepB b = r := ⟨_, rfl⟩
  rw [hr] at HP
  have h1 : (k : Int) < (s.size : Int) := by omega
  have h2 : (0 : Int) ≤ (k : Int) := by omega
  have hne : g1 ≠ g2 := by omega
  have hn10 : ∀ h, (({ data := #[10] } : ByteArray)[0]'h).toNat = 10 := fun _ => rfl
  by_cases h35 : b = 35
  · have h35i : ((b.toNat : Int) == 35) = true := by rw [h35]; rfl
    have hI : insB ins b = true := by unfold insB; rw [decide_eq_true h35]; rfl
    have hG : gapB ins b = true := by unfold gapB; rw [hI]; rfl
    rw [hI, hG]
    clear h35 hI hG hr
    go_enter Tryd.func69, Tryd.ntmps69
    go_wp2
    have hdd := below_drew w
    have B1 := B1.next hdd B1.lt
    have hbe : Below g2 w w.drew := hdd.mono (Nat.le_of_lt B2.lt)
    have B2 := B2.next hdd B2.lt
    refine wp_region_held_drew (S := fun w' => w'.cell? ⟨g1, 0, none⟩ = some (.string s)) (by kernel_rfl) (B1.cell (k := 0) rfl) (fun hHeld => ?_)
    clear hdd
    generalize w.drew = w1 at B1 B2 hbe hHeld ⊢
    refine wpAnyH_take (i := 0) (v := ?vqa0) rfl (by kernel_rfl) (by kernel_rfl) (by kernel_rfl) (fun _ _ _ h => h) (Or.inl ⟨by rfl, ?yqa0⟩) (by assumption) ?rqa0
    case yqa0 => intro w hSw; have hSc := hSw; go_simp <;> (try with_reducible rfl)
    (try simp only [List.getElem_toArray, List.getElem_cons_zero, Act.put, List.setIfInBounds_toArray, List.set_cons_zero, List.set_cons_succ])
    refine wpAnyH_take (i := 1) (v := ?vqa1) rfl (by kernel_rfl) (by kernel_rfl) (by kernel_rfl) (fun _ _ _ h => h) (Or.inl ⟨by rfl, ?yqa1⟩) (by assumption) ?rqa1
    case yqa1 => intro w hSw; (try dsimp only at hSw); go_simp <;> (try with_reducible rfl)
    (try simp only [List.getElem_toArray, List.getElem_cons_succ, List.getElem_cons_zero, Act.put, List.setIfInBounds_toArray, List.set_cons_zero, List.set_cons_succ])
    refine wpAnyH_take (i := 2) (v := ?vqa2) rfl (by kernel_rfl) (by kernel_rfl) (by kernel_rfl) (fun _ _ _ h => h) (Or.inl ⟨by rfl, ?yqa2⟩) (by assumption) ?rqa2
    case yqa2 => intro w hSw; (try dsimp only at hSw); go_simp <;> (try with_reducible rfl)
    (try simp only [List.getElem_toArray, List.getElem_cons_succ, List.getElem_cons_zero, Act.put, List.setIfInBounds_toArray, List.set_cons_zero, List.set_cons_succ])
    refine wpAnyH_take (i := 3) (v := ?vqa3) rfl (by kernel_rfl) (by kernel_rfl) (by kernel_rfl) (fun _ _ _ h => h) (Or.inl ⟨by rfl, ?yqa3⟩) (by assumption) ?rqa3
    case yqa3 => intro w hSw; (try dsimp only at hSw); go_simp <;> (try with_reducible rfl)
    (try simp only [List.getElem_toArray, List.getElem_cons_succ, List.getElem_cons_zero, Act.put, List.setIfInBounds_toArray, List.set_cons_zero, List.set_cons_succ])
    refine wpAnyH_take (i := 4) (v := ?vqa4) rfl (by kernel_rfl) (by kernel_rfl) (by kernel_rfl) (fun _ _ _ h => h) (Or.inl ⟨by rfl, ?yqa4⟩) (by assumption) ?rqa4
    case yqa4 => intro w hSw; (try dsimp only at hSw); go_simp <;> (try with_reducible rfl)
    (try simp only [List.getElem_toArray, List.getElem_cons_succ, List.getElem_cons_zero, Act.put, List.setIfInBounds_toArray, List.set_cons_zero, List.set_cons_succ])
    refine wpAnyH_take (i := 5) (v := undef) rfl (by kernel_rfl) (by kernel_rfl) (by kernel_rfl) (fun _ _ _ h => h) (Or.inr ⟨by rfl, rfl⟩) (by assumption) ?rqa5
    (try simp only [List.getElem_toArray, List.getElem_cons_succ, List.getElem_cons_zero, Act.put, List.setIfInBounds_toArray, List.set_cons_zero, List.set_cons_succ])
    refine wpAnyH_take (i := 6) (v := undef) rfl (by kernel_rfl) (by kernel_rfl) (by kernel_rfl) (fun _ _ _ h => h) (Or.inr ⟨by rfl, rfl⟩) (by assumption) ?rqa6
    (try simp only [List.getElem_toArray, List.getElem_cons_succ, List.getElem_cons_zero, Act.put, List.setIfInBounds_toArray, List.set_cons_zero, List.set_cons_succ])
    refine wpAnyH_take (i := 7) (v := undef) rfl (by kernel_rfl) (by kernel_rfl) (by kernel_rfl) (fun _ _ _ h => h) (Or.inr ⟨by rfl, rfl⟩) (by assumption) ?rqa7
    (try simp only [List.getElem_toArray, List.getElem_cons_succ, List.getElem_cons_zero, Act.put, List.setIfInBounds_toArray, List.set_cons_zero, List.set_cons_succ])
    refine wpAnyH_take (i := 8) (v := undef) rfl (by kernel_rfl) (by kernel_rfl) (by kernel_rfl) (fun _ _ _ h => h) (Or.inr ⟨by rfl, rfl⟩) (by assumption) ?rqa8
    (try simp only [List.getElem_toArray, List.getElem_cons_succ, List.getElem_cons_zero, Act.put, List.setIfInBounds_toArray, List.set_cons_zero, List.set_cons_succ])
    refine wpAnyH_take (i := 9) (v := undef) rfl (by kernel_rfl) (by kernel_rfl) (by kernel_rfl) (fun _ _ _ h => h) (Or.inr ⟨by rfl, rfl⟩) (by assumption) ?rqa9
    (try simp only [List.getElem_toArray, List.getElem_cons_succ, List.getElem_cons_zero, Act.put, List.setIfInBounds_toArray, List.set_cons_zero, List.set_cons_succ])
    refine wpAnyH_take (i := 10) (v := undef) rfl (by kernel_rfl) (by kernel_rfl) (by kernel_rfl) (fun _ _ _ h => h) (Or.inr ⟨by rfl, rfl⟩) (by assumption) ?rqa10
    (try simp only [List.getElem_toArray, List.getElem_cons_succ, List.getElem_cons_zero, Act.put, List.setIfInBounds_toArray, List.set_cons_zero, List.set_cons_succ])
    refine wpAnyH_take (i := 11) (v := undef) rfl (by kernel_rfl) (by kernel_rfl) (by kernel_rfl) (fun _ _ _ h => h) (Or.inr ⟨by rfl, rfl⟩) (by assumption) ?rqa11
    (try simp only [List.getElem_toArray, List.getElem_cons_succ, List.getElem_cons_zero, Act.put, List.setIfInBounds_toArray, List.set_cons_zero, List.set_cons_succ])
    refine wpAnyH_take (i := 12) (v := undef) rfl (by kernel_rfl) (by kernel_rfl) (by kernel_rfl) (fun _ _ _ h => h) (Or.inr ⟨by rfl, rfl⟩) (by assumption) ?rqa12
    (try simp only [List.getElem_toArray, List.getElem_cons_succ, List.getElem_cons_zero, Act.put, List.setIfInBounds_toArray, List.set_cons_zero, List.set_cons_succ])
    refine wpAnyH_take (i := 13) (v := ?vqa13) rfl (by kernel_rfl) (by kernel_rfl) (by kernel_rfl) (fun _ _ _ h => h) (Or.inl ⟨by rfl, ?yqa13⟩) (by assumption) ?rqa13
    case yqa13 => intro w hSw; (try dsimp only at hSw); go_simp <;> (try with_reducible rfl)
    (try simp only [List.getElem_toArray, List.getElem_cons_succ, List.getElem_cons_zero, Act.put, List.setIfInBounds_toArray, List.set_cons_zero, List.set_cons_succ])
    refine wpAnyH_ready (rs := [14]) (by kernel_rfl) (by simp) ?_
    refine AllReadyH.cons rfl (fun K hK => ?_) AllReadyH.nil
    rw [if_pos (by rfl)]
    refine wp_put 4 (.tmp 2) (.tmp 18) rfl g2 0 rfl (.bool true) rfl B2 [.bool true] rfl (by exact Tryd.szBool) (by exact Nat.le_refl 1) (one_cell1 rfl) ?_
    intro w2 hu2 C2
    rw [splice_all _ _ (by rfl)] at C2
    have B1 := B1.upd hu2 hne
    have hbe := hbe.trans (hu2.below (B := g2) (Nat.le_refl _))
    clear B2 hu2
    refine hK.out _ _ (B1.cell (k := 0) rfl) (fun hHeld => ?_)
    clear hK K
    refine wpAnyH_done (by kernel_rfl) ?_ _
    clear hHeld
    have c1 := B1.cell (k := 0) rfl
    have c2 := C2.cell (k := 0) rfl
    go_wp2
    go_ret
    exact ⟨rfl, C2, hbe⟩
  · have h35i : ((b.toNat : Int) == 35) = false := beq_eq_false_iff_ne.2 fun e => h35 (UInt8.toNat_inj.1 (by simpa using (by omega : b.toNat = 35)))
    cases ins
    · have hI : insB false b = false := by unfold insB; rw [decide_eq_false h35]; rfl
      have hG : gapB false b = r := by unfold gapB; rw [hI, hr]; rfl
      rw [hI, hG]
      clear h35 hI hG hr
      go_enter Tryd.func69, Tryd.ntmps69
      go_wp2
      have hdd := below_drew w
      have B1 := B1.next hdd B1.lt
      have hbe : Below g2 w w.drew := hdd.mono (Nat.le_of_lt B2.lt)
      have B2 := B2.next hdd B2.lt
      refine wp_region_held_drew (S := fun w' => w'.cell? ⟨g1, 0, none⟩ = some (.string s)) (by kernel_rfl) (B1.cell (k := 0) rfl) (fun hHeld => ?_)
      clear hdd
      generalize w.drew = w1 at B1 B2 hbe hHeld ⊢
      refine wpAnyH_take (i := 0) (v := ?vqb0) rfl (by kernel_rfl) (by kernel_rfl) (by kernel_rfl) (fun _ _ _ h => h) (Or.inl ⟨by rfl, ?yqb0⟩) (by assumption) ?rqb0
      case yqb0 => intro w hSw; have hSc := hSw; go_simp <;> (try with_reducible rfl)
      (try simp only [List.getElem_toArray, List.getElem_cons_zero, Act.put, List.setIfInBounds_toArray, List.set_cons_zero, List.set_cons_succ])
      refine wpAnyH_take (i := 1) (v := ?vqb1) rfl (by kernel_rfl) (by kernel_rfl) (by kernel_rfl) (fun _ _ _ h => h) (Or.inl ⟨by rfl, ?yqb1⟩) (by assumption) ?rqb1
      case yqb1 => intro w hSw; (try dsimp only at hSw); go_simp <;> (try with_reducible rfl)
      (try simp only [List.getElem_toArray, List.getElem_cons_succ, List.getElem_cons_zero, Act.put, List.setIfInBounds_toArray, List.set_cons_zero, List.set_cons_succ])
      refine wpAnyH_take (i := 2) (v := ?vqb2) rfl (by kernel_rfl) (by kernel_rfl) (by kernel_rfl) (fun _ _ _ h => h) (Or.inl ⟨by rfl, ?yqb2⟩) (by assumption) ?rqb2
      case yqb2 => intro w hSw; (try dsimp only at hSw); go_simp <;> (try with_reducible rfl)
      (try simp only [List.getElem_toArray, List.getElem_cons_succ, List.getElem_cons_zero, Act.put, List.setIfInBounds_toArray, List.set_cons_zero, List.set_cons_succ])
      refine wpAnyH_take (i := 3) (v := ?vqb3) rfl (by kernel_rfl) (by kernel_rfl) (by kernel_rfl) (fun _ _ _ h => h) (Or.inl ⟨by rfl, ?yqb3⟩) (by assumption) ?rqb3
      case yqb3 => intro w hSw; (try dsimp only at hSw); go_simp <;> (try with_reducible rfl)
      (try simp only [List.getElem_toArray, List.getElem_cons_succ, List.getElem_cons_zero, Act.put, List.setIfInBounds_toArray, List.set_cons_zero, List.set_cons_succ])
      refine wpAnyH_take (i := 4) (v := ?vqb4) rfl (by kernel_rfl) (by kernel_rfl) (by kernel_rfl) (fun _ _ _ h => h) (Or.inl ⟨by rfl, ?yqb4⟩) (by assumption) ?rqb4
      case yqb4 => intro w hSw; (try dsimp only at hSw); go_simp <;> (try with_reducible rfl)
      (try simp only [List.getElem_toArray, List.getElem_cons_succ, List.getElem_cons_zero, Act.put, List.setIfInBounds_toArray, List.set_cons_zero, List.set_cons_succ])
      refine wpAnyH_ready (rs := [5]) (by kernel_rfl) (by simp) ?_
      refine AllReadyH.cons rfl (fun K hK => ?_) AllReadyH.nil
      have hcq := B2.cell (k := 0) rfl
      go_simp
      refine hK.out _ _ (B1.cell (k := 0) rfl) (fun hHeld => ?_)
      clear hK K hcq
      refine wpAnyH_take (i := 6) (v := ?vqbb6) rfl (by kernel_rfl) (by kernel_rfl) (by kernel_rfl) (fun _ _ _ h => h) (Or.inl ⟨by rfl, ?yqbb6⟩) (by assumption) ?rqbb6
      case yqbb6 => intro w hSw; (try dsimp only at hSw); go_simp <;> (try with_reducible rfl)
      (try simp only [List.getElem_toArray, List.getElem_cons_succ, List.getElem_cons_zero, Act.put, List.setIfInBounds_toArray, List.set_cons_zero, List.set_cons_succ])
      refine wpAnyH_take (i := 7) (v := undef) rfl (by kernel_rfl) (by kernel_rfl) (by kernel_rfl) (fun _ _ _ h => h) (Or.inr ⟨by rfl, rfl⟩) (by assumption) ?rqbb7
      (try simp only [List.getElem_toArray, List.getElem_cons_succ, List.getElem_cons_zero, Act.put, List.setIfInBounds_toArray, List.set_cons_zero, List.set_cons_succ])
      refine wpAnyH_take (i := 8) (v := undef) rfl (by kernel_rfl) (by kernel_rfl) (by kernel_rfl) (fun _ _ _ h => h) (Or.inr ⟨by rfl, rfl⟩) (by assumption) ?rqbb8
      (try simp only [List.getElem_toArray, List.getElem_cons_succ, List.getElem_cons_zero, Act.put, List.setIfInBounds_toArray, List.set_cons_zero, List.set_cons_succ])
      refine wpAnyH_take (i := 9) (v := undef) rfl (by kernel_rfl) (by kernel_rfl) (by kernel_rfl) (fun _ _ _ h => h) (Or.inr ⟨by rfl, rfl⟩) (by assumption) ?rqbb9
      (try simp only [List.getElem_toArray, List.getElem_cons_succ, List.getElem_cons_zero, Act.put, List.setIfInBounds_toArray, List.set_cons_zero, List.set_cons_succ])
      refine wpAnyH_take (i := 10) (v := undef) rfl (by kernel_rfl) (by kernel_rfl) (by kernel_rfl) (fun _ _ _ h => h) (Or.inr ⟨by rfl, rfl⟩) (by assumption) ?rqbb10
      (try simp only [List.getElem_toArray, List.getElem_cons_succ, List.getElem_cons_zero, Act.put, List.setIfInBounds_toArray, List.set_cons_zero, List.set_cons_succ])
      refine wpAnyH_take (i := 11) (v := undef) rfl (by kernel_rfl) (by kernel_rfl) (by kernel_rfl) (fun _ _ _ h => h) (Or.inr ⟨by rfl, rfl⟩) (by assumption) ?rqbb11
      (try simp only [List.getElem_toArray, List.getElem_cons_succ, List.getElem_cons_zero, Act.put, List.setIfInBounds_toArray, List.set_cons_zero, List.set_cons_succ])
      refine wpAnyH_take (i := 12) (v := ?vqbb12) rfl (by kernel_rfl) (by kernel_rfl) (by kernel_rfl) (fun _ _ _ h => h) (Or.inl ⟨by rfl, ?yqbb12⟩) (by assumption) ?rqbb12
      case yqbb12 => intro w hSw; (try dsimp only at hSw); go_simp <;> (try with_reducible rfl)
      (try simp only [List.getElem_toArray, List.getElem_cons_succ, List.getElem_cons_zero, Act.put, List.setIfInBounds_toArray, List.set_cons_zero, List.set_cons_succ])
      refine wpAnyH_take (i := 13) (v := ?vqbb13) rfl (by kernel_rfl) (by kernel_rfl) (by kernel_rfl) (fun _ _ _ h => h) (Or.inl ⟨by rfl, ?yqbb13⟩) (by assumption) ?rqbb13
      case yqbb13 => intro w hSw; (try dsimp only at hSw); go_simp <;> (try with_reducible rfl)
      (try simp only [List.getElem_toArray, List.getElem_cons_succ, List.getElem_cons_zero, Act.put, List.setIfInBounds_toArray, List.set_cons_zero, List.set_cons_succ])
      refine wpAnyH_ready (rs := [14]) (by kernel_rfl) (by simp) ?_
      refine AllReadyH.cons rfl (fun K hK => ?_) AllReadyH.nil
      rw [if_pos (by rfl)]
      refine wp_put 4 (.tmp 2) (.tmp 18) rfl g2 0 rfl (.bool false) rfl B2 [.bool false] rfl (by exact Tryd.szBool) (by exact Nat.le_refl 1) (one_cell1 rfl) ?_
      intro w2 hu2 C2
      rw [splice_all _ _ (by rfl)] at C2
      have B1 := B1.upd hu2 hne
      have hbe := hbe.trans (hu2.below (B := g2) (Nat.le_refl _))
      clear B2 hu2
      refine hK.out _ _ (B1.cell (k := 0) rfl) (fun hHeld => ?_)
      clear hK K
      refine wpAnyH_done (by kernel_rfl) ?_ _
      clear hHeld
      have c1 := B1.cell (k := 0) rfl
      have c2 := C2.cell (k := 0) rfl
      go_wp2_with fail
      (with_reducible refine (HP _).mono ?_)
      rintro e w3 ⟨rfl, hb3⟩
      have hc2l := Nat.le_of_lt C2.lt
      have C2 := C2.next hb3 C2.lt
      have hbe := hbe.trans (hb3.mono hc2l)
      go_wp2
      go_ret
      exact ⟨rfl, C2, hbe⟩
    · by_cases h10 : b = 10
      · have h10i : ((b.toNat : Int) != 10) = false := by rw [h10]; rfl
        have hI : insB true b = false := by unfold insB; rw [decide_eq_false h35, h10]; rfl
        have hG : gapB true b = r := by unfold gapB; rw [hI, hr]; rfl
        rw [hI, hG]
        clear h35 hI hG hr h10
        go_enter Tryd.func69, Tryd.ntmps69
        go_wp2
        have hdd := below_drew w
        have B1 := B1.next hdd B1.lt
        have hbe : Below g2 w w.drew := hdd.mono (Nat.le_of_lt B2.lt)
        have B2 := B2.next hdd B2.lt
        refine wp_region_held_drew (S := fun w' => w'.cell? ⟨g1, 0, none⟩ = some (.string s)) (by kernel_rfl) (B1.cell (k := 0) rfl) (fun hHeld => ?_)
        clear hdd
        generalize w.drew = w1 at B1 B2 hbe hHeld ⊢
        refine wpAnyH_take (i := 0) (v := ?vqc0) rfl (by kernel_rfl) (by kernel_rfl) (by kernel_rfl) (fun _ _ _ h => h) (Or.inl ⟨by rfl, ?yqc0⟩) (by assumption) ?rqc0
        case yqc0 => intro w hSw; have hSc := hSw; go_simp <;> (try with_reducible rfl)
        (try simp only [List.getElem_toArray, List.getElem_cons_zero, Act.put, List.setIfInBounds_toArray, List.set_cons_zero, List.set_cons_succ])
        refine wpAnyH_take (i := 1) (v := ?vqc1) rfl (by kernel_rfl) (by kernel_rfl) (by kernel_rfl) (fun _ _ _ h => h) (Or.inl ⟨by rfl, ?yqc1⟩) (by assumption) ?rqc1
        case yqc1 => intro w hSw; (try dsimp only at hSw); go_simp <;> (try with_reducible rfl)
        (try simp only [List.getElem_toArray, List.getElem_cons_succ, List.getElem_cons_zero, Act.put, List.setIfInBounds_toArray, List.set_cons_zero, List.set_cons_succ])
        refine wpAnyH_take (i := 2) (v := ?vqc2) rfl (by kernel_rfl) (by kernel_rfl) (by kernel_rfl) (fun _ _ _ h => h) (Or.inl ⟨by rfl, ?yqc2⟩) (by assumption) ?rqc2
        case yqc2 => intro w hSw; (try dsimp only at hSw); go_simp <;> (try with_reducible rfl)
        (try simp only [List.getElem_toArray, List.getElem_cons_succ, List.getElem_cons_zero, Act.put, List.setIfInBounds_toArray, List.set_cons_zero, List.set_cons_succ])
        refine wpAnyH_take (i := 3) (v := ?vqc3) rfl (by kernel_rfl) (by kernel_rfl) (by kernel_rfl) (fun _ _ _ h => h) (Or.inl ⟨by rfl, ?yqc3⟩) (by assumption) ?rqc3
        case yqc3 => intro w hSw; (try dsimp only at hSw); go_simp <;> (try with_reducible rfl)
        (try simp only [List.getElem_toArray, List.getElem_cons_succ, List.getElem_cons_zero, Act.put, List.setIfInBounds_toArray, List.set_cons_zero, List.set_cons_succ])
        refine wpAnyH_take (i := 4) (v := ?vqc4) rfl (by kernel_rfl) (by kernel_rfl) (by kernel_rfl) (fun _ _ _ h => h) (Or.inl ⟨by rfl, ?yqc4⟩) (by assumption) ?rqc4
        case yqc4 => intro w hSw; (try dsimp only at hSw); go_simp <;> (try with_reducible rfl)
        (try simp only [List.getElem_toArray, List.getElem_cons_succ, List.getElem_cons_zero, Act.put, List.setIfInBounds_toArray, List.set_cons_zero, List.set_cons_succ])
        refine wpAnyH_ready (rs := [5]) (by kernel_rfl) (by simp) ?_
        refine AllReadyH.cons rfl (fun K hK => ?_) AllReadyH.nil
        have hcq := B2.cell (k := 0) rfl
        go_simp
        refine hK.out _ _ (B1.cell (k := 0) rfl) (fun hHeld => ?_)
        clear hK K hcq
        refine wpAnyH_take (i := 6) (v := ?vqcb6) rfl (by kernel_rfl) (by kernel_rfl) (by kernel_rfl) (fun _ _ _ h => h) (Or.inl ⟨by rfl, ?yqcb6⟩) (by assumption) ?rqcb6
        case yqcb6 => intro w hSw; (try dsimp only at hSw); go_simp <;> (try with_reducible rfl)
        (try simp only [List.getElem_toArray, List.getElem_cons_succ, List.getElem_cons_zero, Act.put, List.setIfInBounds_toArray, List.set_cons_zero, List.set_cons_succ])
        refine wpAnyH_take (i := 7) (v := ?vqcb7) rfl (by kernel_rfl) (by kernel_rfl) (by kernel_rfl) (fun _ _ _ h => h) (Or.inl ⟨by rfl, ?yqcb7⟩) (by assumption) ?rqcb7
        case yqcb7 => intro w hSw; have hSc := hSw; go_simp <;> (try with_reducible rfl)
        (try simp only [List.getElem_toArray, List.getElem_cons_succ, List.getElem_cons_zero, Act.put, List.setIfInBounds_toArray, List.set_cons_zero, List.set_cons_succ])
        refine wpAnyH_take (i := 8) (v := ?vqcb8) rfl (by kernel_rfl) (by kernel_rfl) (by kernel_rfl) (fun _ _ _ h => h) (Or.inl ⟨by rfl, ?yqcb8⟩) (by assumption) ?rqcb8
        case yqcb8 => intro w hSw; (try dsimp only at hSw); go_simp <;> (try with_reducible rfl)
        (try simp only [List.getElem_toArray, List.getElem_cons_succ, List.getElem_cons_zero, Act.put, List.setIfInBounds_toArray, List.set_cons_zero, List.set_cons_succ])
        refine wpAnyH_take (i := 9) (v := ?vqcb9) rfl (by kernel_rfl) (by kernel_rfl) (by kernel_rfl) (fun _ _ _ h => h) (Or.inl ⟨by rfl, ?yqcb9⟩) (by assumption) ?rqcb9
        case yqcb9 => intro w hSw; (try dsimp only at hSw); go_simp <;> (try with_reducible rfl)
        (try simp only [List.getElem_toArray, List.getElem_cons_succ, List.getElem_cons_zero, Act.put, List.setIfInBounds_toArray, List.set_cons_zero, List.set_cons_succ])
        refine wpAnyH_take (i := 10) (v := ?vqcb10) rfl (by kernel_rfl) (by kernel_rfl) (by kernel_rfl) (fun _ _ _ h => h) (Or.inl ⟨by rfl, ?yqcb10⟩) (by assumption) ?rqcb10
        case yqcb10 => intro w hSw; (try dsimp only at hSw); go_simp <;> (try with_reducible rfl)
        (try simp only [List.getElem_toArray, List.getElem_cons_succ, List.getElem_cons_zero, Act.put, List.setIfInBounds_toArray, List.set_cons_zero, List.set_cons_succ])
        refine wpAnyH_take (i := 11) (v := ?vqcb11) rfl (by kernel_rfl) (by kernel_rfl) (by kernel_rfl) (fun _ _ _ h => h) (Or.inl ⟨by rfl, ?yqcb11⟩) (by assumption) ?rqcb11
        case yqcb11 => intro w hSw; (try dsimp only at hSw); go_simp <;> (try with_reducible rfl)
        (try simp only [List.getElem_toArray, List.getElem_cons_succ, List.getElem_cons_zero, Act.put, List.setIfInBounds_toArray, List.set_cons_zero, List.set_cons_succ])
        refine wpAnyH_take (i := 12) (v := ?vqcb12) rfl (by kernel_rfl) (by kernel_rfl) (by kernel_rfl) (fun _ _ _ h => h) (Or.inl ⟨by rfl, ?yqcb12⟩) (by assumption) ?rqcb12
        case yqcb12 => intro w hSw; (try dsimp only at hSw); go_simp <;> (try with_reducible rfl)
        (try simp only [List.getElem_toArray, List.getElem_cons_succ, List.getElem_cons_zero, Act.put, List.setIfInBounds_toArray, List.set_cons_zero, List.set_cons_succ])
        refine wpAnyH_take (i := 13) (v := ?vqcb13) rfl (by kernel_rfl) (by kernel_rfl) (by kernel_rfl) (fun _ _ _ h => h) (Or.inl ⟨by rfl, ?yqcb13⟩) (by assumption) ?rqcb13
        case yqcb13 => intro w hSw; (try dsimp only at hSw); go_simp <;> (try with_reducible rfl)
        (try simp only [List.getElem_toArray, List.getElem_cons_succ, List.getElem_cons_zero, Act.put, List.setIfInBounds_toArray, List.set_cons_zero, List.set_cons_succ])
        refine wpAnyH_ready (rs := [14]) (by kernel_rfl) (by simp) ?_
        refine AllReadyH.cons rfl (fun K hK => ?_) AllReadyH.nil
        rw [if_pos (by rfl)]
        refine wp_put 4 (.tmp 2) (.tmp 18) rfl g2 0 rfl (.bool false) rfl B2 [.bool false] rfl (by exact Tryd.szBool) (by exact Nat.le_refl 1) (one_cell1 rfl) ?_
        intro w2 hu2 C2
        rw [splice_all _ _ (by rfl)] at C2
        have B1 := B1.upd hu2 hne
        have hbe := hbe.trans (hu2.below (B := g2) (Nat.le_refl _))
        clear B2 hu2
        refine hK.out _ _ (B1.cell (k := 0) rfl) (fun hHeld => ?_)
        clear hK K
        refine wpAnyH_done (by kernel_rfl) ?_ _
        clear hHeld
        have c1 := B1.cell (k := 0) rfl
        have c2 := C2.cell (k := 0) rfl
        go_wp2_with fail
        (with_reducible refine (HP _).mono ?_)
        rintro e w3 ⟨rfl, hb3⟩
        have hc2l := Nat.le_of_lt C2.lt
        have C2 := C2.next hb3 C2.lt
        have hbe := hbe.trans (hb3.mono hc2l)
        go_wp2
        go_ret
        exact ⟨rfl, C2, hbe⟩
      · have h10i : ((b.toNat : Int) != 10) = true := bne_iff_ne.2 fun e => h10 (UInt8.toNat_inj.1 (by simpa using (by omega : b.toNat = 10)))
        have hI : insB true b = true := by unfold insB; rw [decide_eq_false h35, decide_eq_true h10]; rfl
        have hG : gapB true b = true := by unfold gapB; rw [hI]; rfl
        rw [hI, hG]
        clear h35 hI hG hr h10
        go_enter Tryd.func69, Tryd.ntmps69
        go_wp2
        have hdd := below_drew w
        have B1 := B1.next hdd B1.lt
        have hbe : Below g2 w w.drew := hdd.mono (Nat.le_of_lt B2.lt)
        have B2 := B2.next hdd B2.lt
        refine wp_region_held_drew (S := fun w' => w'.cell? ⟨g1, 0, none⟩ = some (.string s)) (by kernel_rfl) (B1.cell (k := 0) rfl) (fun hHeld => ?_)
        clear hdd
        generalize w.drew = w1 at B1 B2 hbe hHeld ⊢
        refine wpAnyH_take (i := 0) (v := ?vqd0) rfl (by kernel_rfl) (by kernel_rfl) (by kernel_rfl) (fun _ _ _ h => h) (Or.inl ⟨by rfl, ?yqd0⟩) (by assumption) ?rqd0
        case yqd0 => intro w hSw; have hSc := hSw; go_simp <;> (try with_reducible rfl)
        (try simp only [List.getElem_toArray, List.getElem_cons_zero, Act.put, List.setIfInBounds_toArray, List.set_cons_zero, List.set_cons_succ])
        refine wpAnyH_take (i := 1) (v := ?vqd1) rfl (by kernel_rfl) (by kernel_rfl) (by kernel_rfl) (fun _ _ _ h => h) (Or.inl ⟨by rfl, ?yqd1⟩) (by assumption) ?rqd1
        case yqd1 => intro w hSw; (try dsimp only at hSw); go_simp <;> (try with_reducible rfl)
        (try simp only [List.getElem_toArray, List.getElem_cons_succ, List.getElem_cons_zero, Act.put, List.setIfInBounds_toArray, List.set_cons_zero, List.set_cons_succ])
        refine wpAnyH_take (i := 2) (v := ?vqd2) rfl (by kernel_rfl) (by kernel_rfl) (by kernel_rfl) (fun _ _ _ h => h) (Or.inl ⟨by rfl, ?yqd2⟩) (by assumption) ?rqd2
        case yqd2 => intro w hSw; (try dsimp only at hSw); go_simp <;> (try with_reducible rfl)
        (try simp only [List.getElem_toArray, List.getElem_cons_succ, List.getElem_cons_zero, Act.put, List.setIfInBounds_toArray, List.set_cons_zero, List.set_cons_succ])
        refine wpAnyH_take (i := 3) (v := ?vqd3) rfl (by kernel_rfl) (by kernel_rfl) (by kernel_rfl) (fun _ _ _ h => h) (Or.inl ⟨by rfl, ?yqd3⟩) (by assumption) ?rqd3
        case yqd3 => intro w hSw; (try dsimp only at hSw); go_simp <;> (try with_reducible rfl)
        (try simp only [List.getElem_toArray, List.getElem_cons_succ, List.getElem_cons_zero, Act.put, List.setIfInBounds_toArray, List.set_cons_zero, List.set_cons_succ])
        refine wpAnyH_take (i := 4) (v := ?vqd4) rfl (by kernel_rfl) (by kernel_rfl) (by kernel_rfl) (fun _ _ _ h => h) (Or.inl ⟨by rfl, ?yqd4⟩) (by assumption) ?rqd4
        case yqd4 => intro w hSw; (try dsimp only at hSw); go_simp <;> (try with_reducible rfl)
        (try simp only [List.getElem_toArray, List.getElem_cons_succ, List.getElem_cons_zero, Act.put, List.setIfInBounds_toArray, List.set_cons_zero, List.set_cons_succ])
        refine wpAnyH_ready (rs := [5]) (by kernel_rfl) (by simp) ?_
        refine AllReadyH.cons rfl (fun K hK => ?_) AllReadyH.nil
        have hcq := B2.cell (k := 0) rfl
        go_simp
        refine hK.out _ _ (B1.cell (k := 0) rfl) (fun hHeld => ?_)
        clear hK K hcq
        refine wpAnyH_take (i := 6) (v := ?vqdb6) rfl (by kernel_rfl) (by kernel_rfl) (by kernel_rfl) (fun _ _ _ h => h) (Or.inl ⟨by rfl, ?yqdb6⟩) (by assumption) ?rqdb6
        case yqdb6 => intro w hSw; (try dsimp only at hSw); go_simp <;> (try with_reducible rfl)
        (try simp only [List.getElem_toArray, List.getElem_cons_succ, List.getElem_cons_zero, Act.put, List.setIfInBounds_toArray, List.set_cons_zero, List.set_cons_succ])
        refine wpAnyH_take (i := 7) (v := ?vqdb7) rfl (by kernel_rfl) (by kernel_rfl) (by kernel_rfl) (fun _ _ _ h => h) (Or.inl ⟨by rfl, ?yqdb7⟩) (by assumption) ?rqdb7
        case yqdb7 => intro w hSw; have hSc := hSw; go_simp <;> (try with_reducible rfl)
        (try simp only [List.getElem_toArray, List.getElem_cons_succ, List.getElem_cons_zero, Act.put, List.setIfInBounds_toArray, List.set_cons_zero, List.set_cons_succ])
        refine wpAnyH_take (i := 8) (v := ?vqdb8) rfl (by kernel_rfl) (by kernel_rfl) (by kernel_rfl) (fun _ _ _ h => h) (Or.inl ⟨by rfl, ?yqdb8⟩) (by assumption) ?rqdb8
        case yqdb8 => intro w hSw; (try dsimp only at hSw); go_simp <;> (try with_reducible rfl)
        (try simp only [List.getElem_toArray, List.getElem_cons_succ, List.getElem_cons_zero, Act.put, List.setIfInBounds_toArray, List.set_cons_zero, List.set_cons_succ])
        refine wpAnyH_take (i := 9) (v := ?vqdb9) rfl (by kernel_rfl) (by kernel_rfl) (by kernel_rfl) (fun _ _ _ h => h) (Or.inl ⟨by rfl, ?yqdb9⟩) (by assumption) ?rqdb9
        case yqdb9 => intro w hSw; (try dsimp only at hSw); go_simp <;> (try with_reducible rfl)
        (try simp only [List.getElem_toArray, List.getElem_cons_succ, List.getElem_cons_zero, Act.put, List.setIfInBounds_toArray, List.set_cons_zero, List.set_cons_succ])
        refine wpAnyH_take (i := 10) (v := ?vqdb10) rfl (by kernel_rfl) (by kernel_rfl) (by kernel_rfl) (fun _ _ _ h => h) (Or.inl ⟨by rfl, ?yqdb10⟩) (by assumption) ?rqdb10
        case yqdb10 => intro w hSw; (try dsimp only at hSw); go_simp <;> (try with_reducible rfl)
        (try simp only [List.getElem_toArray, List.getElem_cons_succ, List.getElem_cons_zero, Act.put, List.setIfInBounds_toArray, List.set_cons_zero, List.set_cons_succ])
        refine wpAnyH_take (i := 11) (v := ?vqdb11) rfl (by kernel_rfl) (by kernel_rfl) (by kernel_rfl) (fun _ _ _ h => h) (Or.inl ⟨by rfl, ?yqdb11⟩) (by assumption) ?rqdb11
        case yqdb11 => intro w hSw; (try dsimp only at hSw); go_simp <;> (try with_reducible rfl)
        (try simp only [List.getElem_toArray, List.getElem_cons_succ, List.getElem_cons_zero, Act.put, List.setIfInBounds_toArray, List.set_cons_zero, List.set_cons_succ])
        refine wpAnyH_take (i := 12) (v := ?vqdb12) rfl (by kernel_rfl) (by kernel_rfl) (by kernel_rfl) (fun _ _ _ h => h) (Or.inl ⟨by rfl, ?yqdb12⟩) (by assumption) ?rqdb12
        case yqdb12 => intro w hSw; (try dsimp only at hSw); go_simp <;> (try with_reducible rfl)
        (try simp only [List.getElem_toArray, List.getElem_cons_succ, List.getElem_cons_zero, Act.put, List.setIfInBounds_toArray, List.set_cons_zero, List.set_cons_succ])
        refine wpAnyH_take (i := 13) (v := ?vqdb13) rfl (by kernel_rfl) (by kernel_rfl) (by kernel_rfl) (fun _ _ _ h => h) (Or.inl ⟨by rfl, ?yqdb13⟩) (by assumption) ?rqdb13
        case yqdb13 => intro w hSw; (try dsimp only at hSw); go_simp <;> (try with_reducible rfl)
        (try simp only [List.getElem_toArray, List.getElem_cons_succ, List.getElem_cons_zero, Act.put, List.setIfInBounds_toArray, List.set_cons_zero, List.set_cons_succ])
        refine wpAnyH_ready (rs := [14]) (by kernel_rfl) (by simp) ?_
        refine AllReadyH.cons rfl (fun K hK => ?_) AllReadyH.nil
        rw [if_pos (by rfl)]
        refine wp_put 4 (.tmp 2) (.tmp 18) rfl g2 0 rfl (.bool true) rfl B2 [.bool true] rfl (by exact Tryd.szBool) (by exact Nat.le_refl 1) (one_cell1 rfl) ?_
        intro w2 hu2 C2
        rw [splice_all _ _ (by rfl)] at C2
        have B1 := B1.upd hu2 hne
        have hbe := hbe.trans (hu2.below (B := g2) (Nat.le_refl _))
        clear B2 hu2
        refine hK.out _ _ (B1.cell (k := 0) rfl) (fun hHeld => ?_)
        clear hK K
        refine wpAnyH_done (by kernel_rfl) ?_ _
        clear hHeld
        have c1 := B1.cell (k := 0) rfl
        have c2 := C2.cell (k := 0) rfl
        go_wp2
        go_ret
        exact ⟨rfl, C2, hbe⟩
end Go.Proofs.YtlpocfojgibhjaaDoor
