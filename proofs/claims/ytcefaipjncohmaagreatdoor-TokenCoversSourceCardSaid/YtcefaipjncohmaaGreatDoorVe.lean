/-
  Contracts of Split, Cut, Trim and Contains at the texts of TokenCoversSource. Conditions: texts that fit into memory; the library's variables lie there.
-/
import Derived.Test.YtcefaipjncohmaaGreatDoorVd
import Derived.Test.YtcefaipjncohmaaGreatDoorQs
import Derived.Shelf.Strings.Cut
import Derived.Shelf.Strings.Search3
import Derived.Shelf.Strings.SlTrimAscii
import Derived.WalkSmall
namespace Go.Proofs.YtcefaipjncohmaaGreatDoor
set_option linter.unusedVariables false
set_option linter.unusedSimpArgs false
open Go.RowKit Go.Shelf

theorem splitL_any (s : ByteArray) (hs : s.size ≤ 2000) (w : World) (hq : QW w) : Calls Tryz.prog 6 #[.string s, .string { data := #[10] }] w fun e w' => (∃ (g : Nat) (Ls : List ByteArray), e = .returned (.slice (some ⟨g, 0, none⟩) (linesL s.data.toList).length (linesL s.data.toList).length) ∧ Blk w' g 9 (Ls.map Value.string) ∧ Ls.map (·.data.toList) = linesL s.data.toList ∧ w.heap.size ≤ g) ∧ Below w.heap.size w w' := by
  obtain ⟨m, hm⟩ := hq.idx
  have h := Any.strings_Split Tryz.splitA (by kernel_rfl) s { data := #[10] } m w (by omega) hm (Nat.le_refl _)
  have hL : (Lib.splitB { data := #[10] } 0 (Lib.countB s { data := #[10] }) s).map (·.data.toList) = linesL s.data.toList := by
    rw [Lib.splitB_data]
    exact split_lines _ _ (Nat.le_refl _)
  have hlen := Lib.splitB_all { data := #[10] } (Nat.le_refl _) 0 _ s rfl
  have hn : Lib.countB s { data := #[10] } + 1 = (linesL s.data.toList).length := by
    rw [← hL, List.length_map]
    exact hlen.symm
  rw [hn] at h
  refine Calls.mono h ?_
  rintro e w' ⟨rfl, rfl⟩
  exact ⟨⟨w.heap.size, _, rfl, blk_new w _ _, hL, Nat.le_refl _⟩, below_new w _⟩
theorem cutL_any (s : ByteArray) (hs : s.size ≤ 2000) (w : World) (hq : QW w) : Calls Tryz.prog 7 #[.string s, .string { data := #[35] }] w fun e w' => e = .returned (.tuple #[.string ⟨(Lib.cut s.data.toList [35]).1.toArray⟩, .string ⟨(Lib.cut s.data.toList [35]).2.1.toArray⟩, .bool (Lib.cut s.data.toList [35]).2.2]) ∧ Below w.heap.size w w' := by
  obtain ⟨m, hm⟩ := hq.idx
  refine Calls.mono (Any.strings_Cut Tryz.cutA s { data := #[35] } m w (by omega) hm) ?_
  rintro e w' ⟨rfl, n, rfl⟩
  exact ⟨rfl, rfl, rfl, rfl, Nat.le_refl _, fun _ _ => rfl⟩
theorem trimL_any (s : ByteArray) (hs : s.size ≤ 2000) (w : World) : Calls Tryz.prog 8 #[.string s, .string { data := #[32, 9, 13] }] w fun e w' => e = .returned (.string ⟨(Lib.trimS s.data.toList [32, 9, 13]).toArray⟩) ∧ Below w.heap.size w w' :=
  Any.strings_Trim_laid Tryz.trimA (by kernel_rfl) s { data := #[32, 9, 13] } w (by omega) (by decide) (ascii_of_all (by decide))
theorem containsL_any (s : ByteArray) (w : World) : Calls Tryz.prog 9 #[.string s, .string { data := #[10] }] w fun e w' => e = .returned (.bool (decide (0 ≤ Lib.indexByte s.data.toList 10))) ∧ Below w.heap.size w w' := by
  refine Calls.mono (Any.strings_Contains_one Tryz.containsA s 10 w) ?_
  rintro e w' ⟨rfl, rfl⟩
  exact ⟨rfl, Below.refl _ _⟩
end Go.Proofs.YtcefaipjncohmaaGreatDoor
