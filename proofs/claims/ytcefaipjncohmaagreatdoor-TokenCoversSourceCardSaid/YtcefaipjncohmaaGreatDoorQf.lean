/-
  Contracts of the walks over separates and sign. Conditions: the program's tables lie there.
-/
import Derived.Test.YtcefaipjncohmaaGreatDoorQe
import Derived.Test.YtcefaipjncohmaaGreatDoorShelfs
import Derived.Shelf.Small.Strs
import Derived.Shelf.Small.Wraps
import Derived.Shelf.Strings.Prefix
import Derived.Shelf.Strings.Count
namespace Go.Proofs.YtcefaipjncohmaaGreatDoor
set_option linter.unusedVariables false
set_option linter.unusedSimpArgs false
open Go.RowKit Go.Shelf

def wordVs : List Value := wordsL.map fun l => .string ⟨l.toArray⟩
def twoVs : List Value := [.string { data := #[58, 61] }, .string { data := #[46, 46] }, .string { data := #[45, 62] }]
theorem rangeAt_below {w w' : World} {b o : Nat} {cs : List Value} (h : w.rangeAt b o cs) (hb : Below w.heap.size w w') : w'.rangeAt b o cs := fun j v hv => cellf_below hb (h j v hv)
/-- The program's tables lie there. -/
structure TT (w : World) : Prop where
  words : w.rangeAt 0 0 wordVs
  twos : w.rangeAt 1 0 twoVs
theorem TT.next {w w' : World} (h : TT w) (hb : Below w.heap.size w w') : TT w' := ⟨rangeAt_below h.words hb, rangeAt_below h.twos hb⟩

theorem index_lib (s : ByteArray) (c : Int) (w : World) : Calls Tryz.prog 77 #[.string s, .int .u8 c] w fun e w' => e = .returned (.int .i64 (Lib.indexByte s.data.toList c.toNat.toUInt8)) ∧ w' = w := Any.strings_IndexByte Tryz.indexA s c w
theorem prefix_lib (s p : ByteArray) (w : World) : Calls Tryz.prog 33 #[.string s, .string p] w fun e w' => e = .returned (.bool (Lib.hasPrefix s.data.toList p.data.toList)) ∧ w' = w := Any.strings_HasPrefix Tryz.prefixA s p w
theorem cutp_lib (s p : ByteArray) (w : World) : Calls Tryz.prog 38 #[.string s, .string p] w fun e w' => e = .returned (.tuple #[.string ⟨(Lib.trimPrefix s.data.toList p.data.toList).toArray⟩, .bool (Lib.hasPrefix s.data.toList p.data.toList)]) ∧ w' = w := Any.strings_CutPrefix Tryz.cutpA s p w
theorem compare_lib (a b : ByteArray) (w : World) : Calls Tryz.prog 81 #[.string a, .string b] w fun e w' => e = .returned (.int .i64 (Lib.compareBytes a.data.toList b.data.toList)) ∧ w' = w := Any.strings_Compare Tryz.compareA a b w
theorem count_lib (s : ByteArray) (c : UInt8) (w : World) : Calls Tryz.prog 19 #[.string s, .string ⟨#[c]⟩] w fun e w' => e = .returned (.int .i64 (Lib.countByte s.data.toList c)) ∧ w' = w := Any.strings_Count_one Tryz.countA s c w
theorem ret_str {a b : ByteArray} (h : b = a) : Ending.returned (.string a) = Ending.returned (.string b) := by rw [h]
theorem u8_back (b : UInt8) : ((b.toNat : Int).toNat).toUInt8 = b := by simp
theorem ix_sep (b : UInt8) : decide ((0 : Int) ≤ Lib.indexByte [32, 9, 13, 10] b) = sepB b := by
  have : ∀ k : Fin 256, decide ((0 : Int) ≤ Lib.indexByte [32, 9, 13, 10] (UInt8.ofNat k.1)) = sepB (UInt8.ofNat k.1) := by decide +kernel
  have h := this ⟨b.toNat, b.toNat_lt⟩
  simpa using h
theorem ix_one (b : UInt8) : decide ((0 : Int) ≤ Lib.indexByte [40, 41, 91, 93, 123, 125, 44, 59, 58, 46, 61, 43, 42, 47, 124] b) = decide (b ∈ oneL) := by
  have : ∀ k : Fin 256, decide ((0 : Int) ≤ Lib.indexByte [40, 41, 91, 93, 123, 125, 44, 59, 58, 46, 61, 43, 42, 47, 124] (UInt8.ofNat k.1)) = decide (UInt8.ofNat k.1 ∈ oneL) := by decide +kernel
  have h := this ⟨b.toNat, b.toNat_lt⟩
  simpa using h
set_option maxRecDepth 100000 in
theorem separates_any (b : UInt8) (w : World) : Calls Tryz.prog 60 #[.int .u8 (b.toNat : Int)] w fun e w' => e = .returned (.bool (sepB b)) ∧ Below w.heap.size w w' := by
  have HI := index_lib { data := #[32, 9, 13, 10] } (b.toNat : Int) w
  have hd := ix_sep b
  rw [u8_back] at HI
  obtain ⟨i, hi⟩ : ∃ i, Lib.indexByte [32, 9, 13, 10] b = i := ⟨_, rfl⟩
  rw [show ({ data := #[32, 9, 13, 10] } : ByteArray).data.toList = [32, 9, 13, 10] from rfl, hi] at HI
  rw [hi] at hd
  rw [← hd]
  clear hd hi
  go_enter Tryz.func60, Tryz.ntmps60
  go_wp2_with fail
  (with_reducible refine HI.mono ?_)
  rintro e w1 ⟨rfl, rfl⟩
  go_wp2
  go_ret
  exact ⟨rfl, Below.refl _ _⟩
theorem prefix_cut {s : ByteArray} {a b : UInt8} (h : Lib.hasPrefix s.data.toList [a, b] = true) : s.extract 0 2 = { data := #[a, b] } := by
  apply data_inj
  rw [cut_list]
  rw [Lib.hasPrefix, List.isPrefixOf_iff_prefix] at h
  obtain ⟨t, ht⟩ := h
  rw [← ht]
  rfl
theorem prefix_two {l : List UInt8} {a b : UInt8} (h : Lib.hasPrefix l [a, b] = true) (ht : two a b = true) : signL l = 2 := by
  rw [Lib.hasPrefix, List.isPrefixOf_iff_prefix] at h
  obtain ⟨t, rfl⟩ := h
  show signL (a :: b :: t) = 2
  rw [signL_two, if_pos ht]
theorem sign_none (h0 : Lib.hasPrefix [] [58, 61] = false) : signL [] = 0 := rfl
theorem pre_two (x y a b : UInt8) (l : List UInt8) : Lib.hasPrefix (x :: y :: l) [a, b] = decide (x = a ∧ y = b) := by
  have : Lib.hasPrefix (x :: y :: l) [a, b] = true ↔ (x = a ∧ y = b) := by
    rw [Lib.hasPrefix, List.isPrefixOf_iff_prefix]
    constructor
    · rintro ⟨t, ht⟩
      simp at ht
      exact ⟨ht.1.symm, ht.2.1.symm⟩
    · rintro ⟨rfl, rfl⟩
      exact ⟨l, rfl⟩
  by_cases h : x = a ∧ y = b
  · rw [decide_eq_true h]; exact this.2 h
  · rw [decide_eq_false h]
    cases hc : Lib.hasPrefix (x :: y :: l) [a, b] with
    | false => rfl
    | true => exact absurd (this.1 hc) h
theorem sign_other {x : UInt8} {l : List UInt8} (h0 : Lib.hasPrefix (x :: l) [58, 61] = false) (h1 : Lib.hasPrefix (x :: l) [46, 46] = false) (h2 : Lib.hasPrefix (x :: l) [45, 62] = false) : signL (x :: l) = if x ∈ oneL then 1 else 0 := by
  cases l with
  | nil => exact signL_one x
  | cons y l =>
    rw [pre_two] at h0 h1 h2
    rw [signL_two, if_neg (by unfold two; rw [h0, h1, h2]; decide)]
def SgRel (w : World) (p0 p1 p2 : Bool) (i : Value) (wr : World) : Prop := ∃ k : Nat, (k = 0 ∧ True ∨ k = 1 ∧ p0 = false ∨ k = 2 ∧ p0 = false ∧ p1 = false ∨ k = 3 ∧ p0 = false ∧ p1 = false ∧ p2 = false) ∧ i = .int .i64 (k : Int) ∧ wr = w
theorem Tryz.szTwo : (Tryz.prog.info? 96).map (·.size) = some 3 := by kernel_rfl
set_option maxRecDepth 100000 in
set_option maxHeartbeats 3200000 in
theorem sign_any (s : ByteArray) (w : World) (hT : TT w) : Calls Tryz.prog 54 #[.string s] w fun e w' => e = .returned (.string (s.extract 0 (signL s.data.toList))) ∧ Below w.heap.size w w' := by
  have H0 := fun w => prefix_lib s { data := #[58, 61] } w
  have H1 := fun w => prefix_lib s { data := #[46, 46] } w
  have H2 := fun w => prefix_lib s { data := #[45, 62] } w
  have c0 : Lib.hasPrefix s.data.toList [58, 61] = true → ({ data := #[58, 61] } : ByteArray) = s.extract 0 (signL s.data.toList) := fun h => by rw [prefix_two h rfl, prefix_cut h]
  have c1 : Lib.hasPrefix s.data.toList [46, 46] = true → ({ data := #[46, 46] } : ByteArray) = s.extract 0 (signL s.data.toList) := fun h => by rw [prefix_two h rfl, prefix_cut h]
  have c2 : Lib.hasPrefix s.data.toList [45, 62] = true → ({ data := #[45, 62] } : ByteArray) = s.extract 0 (signL s.data.toList) := fun h => by rw [prefix_two h rfl, prefix_cut h]
  have c3 := sign_other (x := s.data.toList.headD 0) (l := s.data.toList.tail)
  obtain ⟨R, hR⟩ : ∃ R, s.extract 0 (signL s.data.toList) = R := ⟨_, rfl⟩
  have hnil : s.size = 0 → R = { data := #[] } := fun h => by
    rw [← hR]
    apply data_inj
    rw [cut_list]
    have : s.data.toList = [] := List.eq_nil_of_length_eq_zero (by rw [bytes_size]; exact h)
    rw [this]
    rfl
  have hpos : (h : 0 < s.size) → Lib.hasPrefix s.data.toList [58, 61] = false → Lib.hasPrefix s.data.toList [46, 46] = false → Lib.hasPrefix s.data.toList [45, 62] = false → R = if s[0] ∈ oneL then s.extract 0 1 else { data := #[] } := fun h e0 e1 e2 => by
    rw [← hR]
    obtain ⟨x, l, hl⟩ : ∃ x l, s.data.toList = x :: l := by
      cases hs : s.data.toList with
      | nil => have := bytes_size s; rw [hs] at this; simp at this; omega
      | cons x l => exact ⟨x, l, rfl⟩
    have hx : s[0] = x := by rw [← byte_at s h]; simp [hl]
    rw [hl] at e0 e1 e2 ⊢
    rw [sign_other e0 e1 e2, hx]
    split
    · rfl
    · apply data_inj
      rw [cut_list]
      simp
  rw [show ({ data := #[58, 61] } : ByteArray).data.toList = [58, 61] from rfl] at H0
  rw [show ({ data := #[46, 46] } : ByteArray).data.toList = [46, 46] from rfl] at H1
  rw [show ({ data := #[45, 62] } : ByteArray).data.toList = [45, 62] from rfl] at H2
  rw [hR] at c0 c1 c2 ⊢
  obtain ⟨p0, hp0⟩ : ∃ p, Lib.hasPrefix s.data.toList [58, 61] = p := ⟨_, rfl⟩
  obtain ⟨p1, hp1⟩ : ∃ p, Lib.hasPrefix s.data.toList [46, 46] = p := ⟨_, rfl⟩
  obtain ⟨p2, hp2⟩ : ∃ p, Lib.hasPrefix s.data.toList [45, 62] = p := ⟨_, rfl⟩
  rw [hp0] at H0 c0 hpos
  rw [hp1] at H1 c1 hpos
  rw [hp2] at H2 c2 hpos
  have C0 := Lib.hid c0
  have C1 := Lib.hid c1
  have C2 := Lib.hid c2
  have HN := Lib.hid hnil
  have HP := Lib.hid hpos
  have h2 := hT.twos
  clear c0 c1 c2 c3 hnil hpos hR hp0 hp1 hp2
  go_enter Tryz.func54, Tryz.ntmps54
  have z0 : w.cell? ⟨1, 0, none⟩ = some (.string { data := #[58, 61] }) := h2 0 _ rfl
  have z1 : w.cell? ⟨1, 1, none⟩ = some (.string { data := #[46, 46] }) := h2 1 _ rfl
  have z2 : w.cell? ⟨1, 2, none⟩ = some (.string { data := #[45, 62] }) := h2 2 _ rfl
  clear h2
  have x0 : ∀ w, Sem.run Tryz.prog (Instr.index 96 (.agg #[.string { data := #[58, 61] }, .string { data := #[46, 46] }, .string { data := #[45, 62] }]) (.int .i64 0)) w = .ok (.string { data := #[58, 61] }) w := fun w => by kernel_rfl
  have x1 : ∀ w, Sem.run Tryz.prog (Instr.index 96 (.agg #[.string { data := #[58, 61] }, .string { data := #[46, 46] }, .string { data := #[45, 62] }]) (.int .i64 1)) w = .ok (.string { data := #[46, 46] }) w := fun w => by kernel_rfl
  have x2 : ∀ w, Sem.run Tryz.prog (Instr.index 96 (.agg #[.string { data := #[58, 61] }, .string { data := #[46, 46] }, .string { data := #[45, 62] }]) (.int .i64 2)) w = .ok (.string { data := #[45, 62] }) w := fun w => by kernel_rfl
  go_wp2
  go_loopw [6] (SgRel w p0 p1 p2) (fun i _ => 3 - (intOf i).toNat)
  case atStart => exact ⟨0, Or.inl ⟨rfl, trivial⟩, rfl, rfl⟩
  case round =>
    clear z0 z1 z2
    obtain ⟨k, hk, rfl, rfl⟩ := hrel
    rcases hk with hk | hk | hk | hk
    · obtain rfl := hk.1
      go_wp2_with fail
      (with_reducible refine (H0 _).mono ?_)
      rintro e w2 ⟨rfl, rfl⟩
      cases p0
      · go_wp2
        go_roundw
        case rel => exact ⟨1, Or.inr (Or.inl ⟨rfl, rfl⟩), by go_num, rfl⟩
        case measure => simp [intOf]
      · go_wp2
        go_ret
        exact ⟨ret_str (C0.out trivial).symm, Below.refl _ _⟩
    · obtain rfl := hk.1
      go_wp2_with fail
      (with_reducible refine (H1 _).mono ?_)
      rintro e w2 ⟨rfl, rfl⟩
      cases p1
      · go_wp2
        go_roundw
        case rel => exact ⟨2, Or.inr (Or.inr (Or.inl ⟨rfl, hk.2, rfl⟩)), by go_num, rfl⟩
        case measure => simp [intOf]
      · go_wp2
        go_ret
        exact ⟨ret_str (C1.out trivial).symm, Below.refl _ _⟩
    · obtain rfl := hk.1
      go_wp2_with fail
      (with_reducible refine (H2 _).mono ?_)
      rintro e w2 ⟨rfl, rfl⟩
      cases p2
      · go_wp2
        go_roundw
        case rel => exact ⟨3, Or.inr (Or.inr (Or.inr ⟨rfl, hk.2.1, hk.2.2, rfl⟩)), by go_num, rfl⟩
        case measure => simp [intOf]
      · go_wp2
        go_ret
        exact ⟨ret_str (C2.out trivial).symm, Below.refl _ _⟩
    · obtain rfl := hk.1
      by_cases hs : s.size = 0
      · have hs0 : s = { data := #[] } := by
          apply data_inj
          exact List.eq_nil_of_length_eq_zero (by rw [bytes_size]; exact hs)
        have hq := toList_nil hs
        have hq2 := isEmpty_nil hs
        go_wp2
        go_ret
        exact ⟨ret_str (HN.out hs), Below.refl _ _⟩
      · have hs0 : s ≠ { data := #[] } := fun e => hs (by rw [e]; rfl)
        have hq := toList_ne (show 0 < s.size by omega)
        have hq2 := isEmpty_ne (show 0 < s.size by omega)
        have h0 : 0 < s.size := by omega
        have h0i : (0 : Int) < (s.size : Int) := by omega
        have hr := HP.out h0 hk.2.1 hk.2.2.1 hk.2.2.2
        obtain ⟨b, hb⟩ : ∃ b, s[0]'h0 = b := ⟨_, rfl⟩
        have HI := index_lib { data := #[40, 41, 91, 93, 123, 125, 44, 59, 58, 46, 61, 43, 42, 47, 124] } (b.toNat : Int) wr
        have hd := ix_one b
        rw [u8_back] at HI
        obtain ⟨i, hi⟩ : ∃ i, Lib.indexByte [40, 41, 91, 93, 123, 125, 44, 59, 58, 46, 61, 43, 42, 47, 124] b = i := ⟨_, rfl⟩
        rw [show ({ data := #[40, 41, 91, 93, 123, 125, 44, 59, 58, 46, 61, 43, 42, 47, 124] } : ByteArray).data.toList = [40, 41, 91, 93, 123, 125, 44, 59, 58, 46, 61, 43, 42, 47, 124] from rfl, hi] at HI
        rw [hi] at hd
        rw [hb] at hr
        have h1i : (1 : Int) ≤ (s.size : Int) := by omega
        by_cases hm : b ∈ oneL
        · have hge : (0 : Int) ≤ i := by simpa [hm] using hd
          rw [if_pos hm] at hr
          have HR := Lib.hid hr
          clear hr hd hm hi
          go_wp2_with fail
          (with_reducible refine HI.mono ?_)
          rintro e w2 ⟨rfl, rfl⟩
          go_wp2
          go_ret
          exact ⟨ret_str HR.out, Below.refl _ _⟩
        · have hge : ¬ (0 : Int) ≤ i := by simpa [hm] using hd
          rw [if_neg hm] at hr
          have HR := Lib.hid hr
          clear hr hd hm hi
          go_wp2_with fail
          (with_reducible refine HI.mono ?_)
          rintro e w2 ⟨rfl, rfl⟩
          go_wp2
          go_ret
          exact ⟨ret_str HR.out, Below.refl _ _⟩
end Go.Proofs.YtcefaipjncohmaaGreatDoor
