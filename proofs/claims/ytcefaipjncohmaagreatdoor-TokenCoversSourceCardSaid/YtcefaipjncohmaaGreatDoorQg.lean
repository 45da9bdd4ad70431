/-
  Contracts of the walks over kind: a word is found by halving. Conditions: the program's tables lie there.
-/
import Derived.Test.YtcefaipjncohmaaGreatDoorQf
namespace Go.Proofs.YtcefaipjncohmaaGreatDoor
set_option linter.unusedVariables false
set_option linter.unusedSimpArgs false
open Go.RowKit Go.Shelf

def wAt (k : Nat) : List UInt8 := wordsL.getD k []
def wB (k : Nat) : ByteArray := ⟨(wAt k).toArray⟩
theorem words_len : wordsL.length = 49 := rfl
set_option maxRecDepth 100000 in
theorem words_sorted : ∀ a : Fin 49, ∀ b : Fin 49, a.1 < b.1 → 0 < Lib.compareBytes (wAt b.1) (wAt a.1) ∧ Lib.compareBytes (wAt a.1) (wAt b.1) < 0 := by decide +kernel
theorem compare_self : ∀ l : List UInt8, Lib.compareBytes l l = 0
  | [] => rfl
  | a :: l => by
    unfold Lib.compareBytes
    rw [if_neg (UInt8.lt_irrefl a), if_neg (UInt8.lt_irrefl a), compare_self l]
theorem compare_zero : ∀ a b : List UInt8, Lib.compareBytes a b = 0 → a = b
  | [], [], _ => rfl
  | [], _ :: _, h => by simp [Lib.compareBytes] at h
  | _ :: _, [], h => by simp [Lib.compareBytes] at h
  | a :: x, b :: y, h => by
    unfold Lib.compareBytes at h
    split at h
    · simp at h
    · rename_i h1
      split at h
      · simp at h
      · rename_i h2
        have e : a = b := UInt8.le_antisymm (UInt8.not_lt.1 h2) (UInt8.not_lt.1 h1)
        rw [e, compare_zero x y h]
theorem wVs_get {k : Nat} (h : k < 49) : wordVs[k]? = some (.string (wB k)) := by
  unfold wordVs wB wAt
  rw [List.getElem?_map, List.getElem?_eq_getElem (by rw [words_len]; exact h), List.getD_eq_getElem?_getD, List.getElem?_eq_getElem (by rw [words_len]; exact h)]
  rfl
theorem mem_words {l : List UInt8} : l ∈ wordsL ↔ ∃ k, k < 49 ∧ wAt k = l := by
  constructor
  · intro h
    obtain ⟨k, hk, e⟩ := List.getElem_of_mem h
    rw [words_len] at hk
    refine ⟨k, hk, ?_⟩
    unfold wAt
    rw [List.getD_eq_getElem?_getD, List.getElem?_eq_getElem (by rw [words_len]; exact hk), ← e]
    rfl
  · rintro ⟨k, hk, rfl⟩
    unfold wAt
    rw [List.getD_eq_getElem?_getD, List.getElem?_eq_getElem (by rw [words_len]; exact hk)]
    exact List.getElem_mem _
/-- How a text compares with a word. -/
def cmpW (l : List UInt8) (k : Nat) : Int := Lib.compareBytes l (wAt k)
theorem cmpW_hi {l : List UInt8} {h k : Nat} (hh : h < 49) (hc : 0 < cmpW l h) (hk : k < 49) (e : wAt k = l) : h < k := by
  rcases Nat.lt_trichotomy h k with h1 | h1 | h1
  · exact h1
  · subst h1
    subst e
    unfold cmpW at hc
    rw [compare_self] at hc
    omega
  · have := (words_sorted ⟨k, hk⟩ ⟨h, hh⟩ h1).2
    subst e
    unfold cmpW at hc
    simp only at this
    omega
theorem cmpW_lo {l : List UInt8} {h k : Nat} (hh : h < 49) (hc : ¬ 0 < cmpW l h) (hk : k < 49) (e : wAt k = l) : k ≤ h := by
  rcases Nat.lt_trichotomy h k with h1 | h1 | h1
  · have := (words_sorted ⟨h, hh⟩ ⟨k, hk⟩ h1).1
    subst e
    unfold cmpW at hc
    simp only at this
    omega
  · omega
  · omega
set_option maxRecDepth 100000 in
set_option maxHeartbeats 1600000 in
theorem kind1_any (s : ByteArray) (g k : Nat) (hk : k < 49) (w : World) (hg : w.cell? ⟨g, 0, none⟩ = some (.string s)) (hT : TT w) :
    Calls Tryz.prog 80 #[.int .i64 (k : Int), .pointer (some ⟨g, 0, none⟩)] w fun e w' => e = .returned (.int .i64 (cmpW s.data.toList k)) ∧ Below w.heap.size w w' := by
  have HC := fun w => compare_lib s (wB k) w
  have hw := hT.words k _ (wVs_get hk)
  rw [show (wB k).data.toList = wAt k from rfl] at HC
  obtain ⟨c, hc⟩ : ∃ c, cmpW s.data.toList k = c := ⟨_, rfl⟩
  rw [show Lib.compareBytes s.data.toList (wAt k) = c from hc] at HC
  rw [hc]
  rw [show 0 + k = k from Nat.zero_add k] at hw
  obtain ⟨B, hB⟩ : ∃ B, wB k = B := ⟨_, rfl⟩
  rw [hB] at hw HC
  clear hc hB
  have h1 : (k : Int) < 49 := by omega
  have h2 : (0 : Int) ≤ (k : Int) := by omega
  go_enter Tryz.func80, Tryz.ntmps80
  go_wp2
  go_quiet ((go_at_call 81; exact Calls.quiet_of_same (HC _)))
  have hb := below_drewN w nq
  go_wp2
  go_ret
  exact ⟨rfl, hb⟩
theorem ret_two {i : Int} {a b : Bool} (h : a = b) : Ending.returned (.tuple #[.int .i64 i, .bool a]) = Ending.returned (.tuple #[.int .i64 i, .bool b]) := by rw [h]
def FindRel (l : List UInt8) (w : World) (i j : Value) (wr : World) : Prop :=
  ∃ a b : Nat, a ≤ b ∧ b ≤ 49 ∧ i = .int .i64 (a : Int) ∧ j = .int .i64 (b : Int) ∧ (∀ k, k < 49 → wAt k = l → a ≤ k ∧ k ≤ b) ∧ Below w.heap.size w wr
set_option maxRecDepth 100000 in
set_option maxHeartbeats 1600000 in
theorem find_any (s : ByteArray) (g : Nat) (w : World) (hg : w.cell? ⟨g, 0, none⟩ = some (.string s)) (hT : TT w) :
    Calls Tryz.prog 79 #[.int .i64 49, .func (.func 80) #[] #[.pointer (some ⟨g, 0, none⟩)]] w fun e w' => (∃ i : Int, e = .returned (.tuple #[.int .i64 i, .bool (decide (s.data.toList ∈ wordsL))])) ∧ Below w.heap.size w w' := by
  have HG := Lib.hid hg
  have HT := Lib.hid hT
  obtain ⟨l, hl⟩ : ∃ l, s.data.toList = l := ⟨_, rfl⟩
  have HL := Lib.hid hl
  rw [hl]
  clear hg hT hl
  go_enter Tryz.func79, Tryz.ntmps79
  go_wp2
  go_loopw [4, 6] (fun i j wr => FindRel l w i j wr) (fun i j _ => (intOf j).toNat - (intOf i).toNat)
  case atStart => exact ⟨0, 49, by omega, by omega, rfl, rfl, fun k h _ => ⟨by omega, by omega⟩, Below.refl _ _⟩
  case round =>
    obtain ⟨a, b, hab, hb, rfl, rfl, hm, hbe⟩ := hrel
    have HM := Lib.hid hm
    clear hm
    by_cases hlt : a < b
    · have hli : (a : Int) < (b : Int) := by omega
      obtain ⟨h, hh⟩ : ∃ h, (a + b) / 2 = h := ⟨_, rfl⟩
      have hdiv : ((a : Int) + (b : Int)) / 2 = (h : Int) := by omega
      have h49 : h < 49 := by omega
      have hah : a ≤ h := by omega
      have hhb : h < b := by omega
      have HK := kind1_any s g h h49 wr (cellf_below hbe HG.out) (HT.out.next hbe)
      rw [HL.out] at HK
      by_cases hc : 0 < cmpW l h
      · have hlo := fun k hk e => cmpW_hi (l := l) (h := h) (k := k) h49 hc hk e
        obtain ⟨c, hcc⟩ : ∃ c, cmpW l h = c := ⟨_, rfl⟩
        rw [hcc] at HK hc
        have HLO := Lib.hid hlo
        clear hlo hh hcc
        go_wp2_with fail
        (with_reducible refine HK.mono ?_)
        rintro e w2 ⟨rfl, hb2⟩
        have hbe := below_join hbe hb2
        clear hb2 HK
        go_wp2
        go_roundw
        case rel => exact ⟨h + 1, b, hhb, hb, by go_num, rfl, fun k hk e => ⟨HLO.out k hk e, (HM.out k hk e).2⟩, hbe⟩
        case measure => simp [intOf]; omega
      · have hlo := fun k hk e => cmpW_lo (l := l) (h := h) (k := k) h49 hc hk e
        obtain ⟨c, hcc⟩ : ∃ c, cmpW l h = c := ⟨_, rfl⟩
        rw [hcc] at HK hc
        have HLO := Lib.hid hlo
        clear hlo hh hcc
        go_wp2_with fail
        (with_reducible refine HK.mono ?_)
        rintro e w2 ⟨rfl, hb2⟩
        have hbe := below_join hbe hb2
        clear hb2 HK
        go_wp2
        go_roundw
        case rel => exact ⟨a, h, hah, by omega, rfl, rfl, fun k hk e => ⟨(HM.out k hk e).1, HLO.out k hk e⟩, hbe⟩
        case measure => simp [intOf]; omega
    · have hab2 : b = a := by omega
      subst hab2
      by_cases h49 : b < 49
      · have hbi : (b : Int) < 49 := by omega
        have HK := kind1_any s g b h49 wr (cellf_below hbe HG.out) (HT.out.next hbe)
        rw [HL.out] at HK
        have hfin : (cmpW l b == 0) = decide (l ∈ wordsL) := by
          by_cases hm : l ∈ wordsL
          · obtain ⟨k, hk, e⟩ := mem_words.1 hm
            have := HM.out k hk e
            have hkb : k = b := by omega
            subst hkb
            rw [decide_eq_true hm]
            unfold cmpW
            rw [e, compare_self]
            rfl
          · rw [decide_eq_false hm]
            refine beq_eq_false_iff_ne.2 fun e => hm (mem_words.2 ⟨b, h49, (compare_zero _ _ e).symm⟩)
        obtain ⟨c, hcc⟩ : ∃ c, cmpW l b = c := ⟨_, rfl⟩
        rw [hcc] at HK hfin
        have HF := Lib.hid hfin
        clear hfin hcc
        go_wp2_with fail
        (with_reducible refine HK.mono ?_)
        rintro e w2 ⟨rfl, hb2⟩
        have hbe := below_join hbe hb2
        clear hb2 HK
        go_wp2
        go_ret2
        exact ⟨⟨_, ret_two HF.out⟩, hbe⟩
      · have hbi : ¬ (b : Int) < 49 := by omega
        have hfin : false = decide (l ∈ wordsL) := by
          symm
          refine decide_eq_false fun hm => ?_
          obtain ⟨k, hk, e⟩ := mem_words.1 hm
          have := HM.out k hk e
          omega
        have HF := Lib.hid hfin
        clear hfin
        go_wp2
        go_ret2
        exact ⟨⟨_, ret_two HF.out⟩, hbe⟩
theorem lenS (s : ByteArray) : s.data.toList.length = s.size := bytes_size s
set_option maxRecDepth 100000 in
set_option maxHeartbeats 1600000 in
theorem kind_any (s : ByteArray) (w : World) (hT : TT w) :
    Calls Tryz.prog 43 #[.string s] w fun e w' => e = .returned (.int .i64 (kindM s.data.toList : Nat)) ∧ Below w.heap.size w w' := by
  obtain ⟨l, hl⟩ : ∃ l, s.data.toList = l := ⟨_, rfl⟩
  have hlen := lenS s
  have HF := fun g w hg hT => find_any s g w hg hT
  have hK : kindM l = if l ∈ wordsL then 2 else if s.size ≤ 24 then 1 else 5 := by rw [← hlen, hl]; rfl
  rw [hl] at HF ⊢
  rw [hK]
  have HT := Lib.hid hT
  clear hK hT hlen hl
  by_cases hm : l ∈ wordsL
  · rw [if_pos hm]
    rw [decide_eq_true hm] at HF
    go_enter Tryz.func43, Tryz.ntmps43
    go_wp2_with (with_reducible refine wpList_box (o := ⟨some 1, .box 9 (.tmp 0), _, _, _, _⟩) ?g1qa 9 (.tmp 0) ?o1qa (.string s) [.string s] ?x1qa ?c1qa ?_)
    try (case g1qa => rfl)
    try (case o1qa => rfl)
    try (case x1qa => rfl)
    try (case c1qa => rfl)
    intro g1 w1 hg1 hs1 hb1 B1
    have hb1 := hb1.mono (Nat.le_of_eq hg1.out.symm)
    have hc1 := B1.cell (k := 0) rfl
    go_wp2_with fail
    (with_reducible refine (HF g1 _ hc1 (HT.out.next hb1)).mono ?_)
    rintro e w2 ⟨⟨i, rfl⟩, hb2⟩
    have hbe := below_join hb1 hb2
    go_wp2
    go_ret
    exact ⟨rfl, hbe⟩
  · rw [if_neg hm]
    rw [decide_eq_false hm] at HF
    by_cases h24 : s.size ≤ 24
    · rw [if_pos h24]
      have h24i : (s.size : Int) ≤ 24 := by omega
      go_enter Tryz.func43, Tryz.ntmps43
      go_wp2_with (with_reducible refine wpList_box (o := ⟨some 1, .box 9 (.tmp 0), _, _, _, _⟩) ?g1qb 9 (.tmp 0) ?o1qb (.string s) [.string s] ?x1qb ?c1qb ?_)
      try (case g1qb => rfl)
      try (case o1qb => rfl)
      try (case x1qb => rfl)
      try (case c1qb => rfl)
      intro g1 w1 hg1 hs1 hb1 B1
      have hb1 := hb1.mono (Nat.le_of_eq hg1.out.symm)
      have hc1 := B1.cell (k := 0) rfl
      go_wp2_with fail
      (with_reducible refine (HF g1 _ hc1 (HT.out.next hb1)).mono ?_)
      rintro e w2 ⟨⟨i, rfl⟩, hb2⟩
      have hbe := below_join hb1 hb2
      have hc1 := cellf_below hb2 hc1
      go_wp2
      go_ret
      exact ⟨rfl, hbe⟩
    · rw [if_neg h24]
      have h24i : ¬ (s.size : Int) ≤ 24 := by omega
      go_enter Tryz.func43, Tryz.ntmps43
      go_wp2_with (with_reducible refine wpList_box (o := ⟨some 1, .box 9 (.tmp 0), _, _, _, _⟩) ?g1qc 9 (.tmp 0) ?o1qc (.string s) [.string s] ?x1qc ?c1qc ?_)
      try (case g1qc => rfl)
      try (case o1qc => rfl)
      try (case x1qc => rfl)
      try (case c1qc => rfl)
      intro g1 w1 hg1 hs1 hb1 B1
      have hb1 := hb1.mono (Nat.le_of_eq hg1.out.symm)
      have hc1 := B1.cell (k := 0) rfl
      go_wp2_with fail
      (with_reducible refine (HF g1 _ hc1 (HT.out.next hb1)).mono ?_)
      rintro e w2 ⟨⟨i, rfl⟩, hb2⟩
      have hbe := below_join hb1 hb2
      have hc1 := cellf_below hb2 hc1
      go_wp2
      go_ret
      exact ⟨rfl, hbe⟩
end Go.Proofs.YtcefaipjncohmaaGreatDoor
