/-
  One line of a gap in memory, and Cut, Trim and Contains at it, for TokenCoversSource. Conditions: the library's variables lie there.
-/
import Derived.Test.YtcefaipjncohmaaGreatDoorVe
import Derived.Test.YtcefaipjncohmaaGreatDoorVh
namespace Go.Proofs.YtcefaipjncohmaaGreatDoor
set_option linter.unusedVariables false
set_option linter.unusedSimpArgs false
open Go.RowKit Go.Shelf

theorem cut_len (l : List UInt8) : (Lib.cut l [35]).1.length ≤ l.length := by
  by_cases h : (35 : UInt8) ∈ l
  · obtain ⟨a, r, rfl, ha⟩ := split_at h
    rw [lcut_at ha]
    simp
  · rw [lcut_none h]
    exact Nat.le_refl _
/-- A line's text in memory. -/
theorem line_at {l : List UInt8} {Ls : List ByteArray} (h : Ls.map (·.data.toList) = linesL l) {i : Nat} {line : List UInt8} (hl : (linesL l)[i]? = some line) : ∃ Y : ByteArray, (Ls.map Value.string)[i]? = some (.string Y) ∧ Y.data.toList = line := by
  rw [← h, List.getElem?_map] at hl
  cases hY : Ls[i]? with
  | none => rw [hY] at hl; cases hl
  | some Y =>
    rw [hY] at hl
    exact ⟨Y, by rw [List.getElem?_map, hY]; rfl, Option.some.inj hl⟩
/-- What the walk wants of one line of a gap. -/
structure SegMem (Ls : List ByteArray) (m ln cl L1 C1 j : Nat) (kb : Bool) (Y : ByteArray) (a b : Nat) : Prop where
  at_ : (Ls.map Value.string)[j - 1]? = some (.string Y)
  small : Y.size ≤ 2000
  ge : 1 ≤ j
  le : j - 1 < m
  a1 : j = ln → a = cl - 1
  a2 : j ≠ ln → a = 0
  b1 : j = L1 → b = C1 - 1
  b2 : j ≠ L1 → b = Y.size
  ab : a ≤ b
  bl : b ≤ Y.size
  tr : Lib.trimS (Lib.cut (Y.extract a b).data.toList [35]).1 [32, 9, 13] = []
  co : kb = false → j = L1 → (Lib.cut (Y.extract a b).data.toList [35]).2.2 = false
theorem seg_mem {s : ByteArray} {Ls : List ByteArray} (hs : s.size ≤ 2000) (h : Ls.map (·.data.toList) = linesL s.data.toList) {m ln cl L1 C1 j : Nat} {kb : Bool} (hm : (linesL s.data.toList).length = m) (hln : 1 ≤ ln) (hj : ln ≤ j) (hg : SegOk s.data.toList ln cl L1 C1 kb j) : ∃ Y a b, SegMem Ls m ln cl L1 C1 j kb Y a b := by
  obtain ⟨line, h1, h2, h3, h4, h5⟩ := hg
  obtain ⟨Y, hY1, hY2⟩ := line_at h h1
  have hYs : Y.size = line.length := by rw [← bytes_size, hY2]
  have hb := line_len_at h1
  rw [bytes_size] at hb
  have hlt := (List.getElem?_eq_some_iff.1 h1).1
  rw [← hYs] at h2 h3 h4 h5
  refine ⟨Y, if j = ln then cl - 1 else 0, if j = L1 then C1 - 1 else Y.size, hY1, by omega, by omega, by omega, fun e => if_pos e, fun e => if_neg e, fun e => if_pos e, fun e => if_neg e, h2, h3, ?_, ?_⟩
  · rw [ext_list, hY2]; exact h4
  · rw [ext_list, hY2]; exact h5
/-- Cut at a gap's line. -/
theorem cut_gap {X : ByteArray} (hX : X.size ≤ 2000) (ht : Lib.trimS (Lib.cut X.data.toList [35]).1 [32, 9, 13] = []) (w : World) (hq : QW w) : Calls Tryz.prog 7 #[.string X, .string { data := #[35] }] w fun e w' => (∃ (G R : ByteArray) (cb : Bool), e = .returned (.tuple #[.string G, .string R, .bool cb]) ∧ G.size ≤ 2000 ∧ Lib.trimS G.data.toList [32, 9, 13] = [] ∧ (Lib.cut X.data.toList [35]).2.2 = cb) ∧ Below w.heap.size w w' := by
  refine Calls.mono (cutL_any X hX w hq) ?_
  rintro e w' ⟨rfl, hb⟩
  refine ⟨⟨_, _, _, rfl, ?_, ?_, rfl⟩, hb⟩
  · have h1 := cut_len X.data.toList
    have h2 : (⟨(Lib.cut X.data.toList [35]).1.toArray⟩ : ByteArray).size = (Lib.cut X.data.toList [35]).1.length := mk_size _
    rw [bytes_size] at h1
    omega
  · exact ht
theorem trim_gap {G : ByteArray} (hG : G.size ≤ 2000) (ht : Lib.trimS G.data.toList [32, 9, 13] = []) (w : World) : Calls Tryz.prog 8 #[.string G, .string { data := #[32, 9, 13] }] w fun e w' => (∃ Z : ByteArray, e = .returned (.string Z) ∧ Z.toList = [] ∧ Z.toList.isEmpty = true) ∧ Below w.heap.size w w' := by
  refine Calls.mono (trimL_any G hG w) ?_
  rintro e w' ⟨rfl, hb⟩
  rw [ht]
  exact ⟨⟨_, rfl, toList_nil rfl, isEmpty_nil rfl⟩, hb⟩
theorem contains_no {X : ByteArray} (h : (10 : UInt8) ∉ X.data.toList) (w : World) : Calls Tryz.prog 9 #[.string X, .string { data := #[10] }] w fun e w' => e = .returned (.bool false) ∧ Below w.heap.size w w' := by
  have h1 := containsL_any X w
  rw [contains_none h] at h1
  exact h1
end Go.Proofs.YtcefaipjncohmaaGreatDoor
