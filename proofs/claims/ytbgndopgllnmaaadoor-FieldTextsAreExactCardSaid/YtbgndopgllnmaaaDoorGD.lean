/-
  Contracts of the functions that the statement calls, part 4 of 25 (merged texts: Bb, Bo, Bp). Conditions: as the head of each part says.
-/
import Derived.BigQuiet
import Derived.Deep.MidRow
import Derived.Deep.QuietTactic
import Derived.Laws.BytesArg
import Derived.Laws.CopyOwn
import Derived.Laws.CopyRow
import Derived.Laws.Rows
import Derived.Laws.StructEq
import Derived.Laws.World
import Derived.Lib.BufferWrite
import Derived.Lib.Hide
import Derived.Outline
import Derived.StillTailTactics
import Derived.Test.YtbgndopgllnmaaaDoorRows
import Derived.WalkKit
import Derived.WalkMore
import Derived.Test.YtbgndopgllnmaaaDoorGB
import Derived.Test.YtbgndopgllnmaaaDoorGC

/-
  Rows, worlds and types of layer 6's walks; only some blocks have turned. Conditions: none.
-/

namespace Go.Proofs.YtbgndopgllnmaaaDoor
set_option linter.unusedVariables false
set_option linter.unusedSimpArgs false
open Go.RowKit

theorem one_cell1 {v : Value} (h : v.oneCell' = true) : ∀ u ∈ [v], u.oneCell' = true := by
  intro u hu; simp at hu; subst hu; exact h
theorem cs_all (l : List Value) : (l.drop 0).take l.length = l := by simp
theorem below_join {a b c : World} (h : Below a.heap.size a b) (k : Below b.heap.size b c) : Below a.heap.size a c := h.trans (k.mono h.size)
theorem below_drew (w : World) : Below w.heap.size w w.drew := (Below.refl _ _).drew
theorem below_drewN (w : World) (n : Nat) : Below w.heap.size w (w.drewN n) := ⟨rfl, rfl, rfl, Nat.le_refl _, fun _ _ => rfl⟩
/-- Only the blocks of a list have turned, and there are new ones. -/
structure Only (L : List Nat) (w w' : World) : Prop where
  os : w'.os = w.os
  tape : w'.tape = w.tape
  output : w'.output = w.output
  size : w.heap.size ≤ w'.heap.size
  block : ∀ k, k < w.heap.size → k ∉ L → w'.heap[k]? = w.heap[k]?
theorem Only.refl (L : List Nat) (w : World) : Only L w w := ⟨rfl, rfl, rfl, Nat.le_refl _, fun _ _ _ => rfl⟩
theorem Only.trans {L : List Nat} {a b c : World} (h : Only L a b) (k : Only L b c) : Only L a c :=
  ⟨k.os.trans h.os, k.tape.trans h.tape, k.output.trans h.output, Nat.le_trans h.size k.size, fun i hi hn => (k.block i (Nat.lt_of_lt_of_le hi h.size) hn).trans (h.block i hi hn)⟩
theorem Only.mono {L L' : List Nat} {a b : World} (h : Only L a b) (hs : ∀ k ∈ L, k ∈ L') : Only L' a b := ⟨h.os, h.tape, h.output, h.size, fun i hi hn => h.block i hi (fun hm => hn (hs i hm))⟩
theorem Only.below {L : List Nat} {B : Nat} {a b : World} (h : Only L a b) (hL : ∀ k ∈ L, B ≤ k) (hB : B ≤ a.heap.size) : Below B a b :=
  ⟨h.os, h.tape, h.output, h.size, fun i hi => h.block i (Nat.lt_of_lt_of_le hi hB) (fun hm => Nat.lt_irrefl _ (Nat.lt_of_lt_of_le hi (hL i hm)))⟩
theorem Blk.only {L : List Nat} {w w' : World} {g : Nat} {t : TypeId} {l : List Value} (h : Blk w g t l) (ho : Only L w w') (hg : g ∉ L) : Blk w' g t l := by unfold Blk; rw [ho.block g h.lt hg]; exact h
theorem bytes_size (s : ByteArray) : s.data.toList.length = s.size := by rw [Array.length_toList]; rfl
theorem nV_one : ∀ l : List Nat, ∀ u ∈ l.map nV, u.oneCell' = true := by
  intro l u hu; simp only [List.mem_map] at hu; obtain ⟨c, _, rfl⟩ := hu; rfl
theorem H_one (f : Nat → Bool) : ∀ u ∈ H f, u.oneCell' = true := nV_one _
theorem splice_set {α : Type} (L : List α) (k : Nat) (v : α) (h : k < L.length) : splice L k [v] = L.set k v := by
  apply List.ext_getElem?
  intro i
  rw [splice_get _ _ _ (by omega)]
  by_cases e : i = k
  · subst e
    rw [if_neg (by omega), if_pos (by simp), List.getElem?_set_self h]
    simp
  · rw [List.getElem?_set_ne (fun e' => e e'.symm)]
    split
    · rfl
    · rw [if_neg (by simp; omega)]
theorem Tryd.szI : (Tryd.prog.info? 3).map (·.size) = some 1 := by kernel_rfl
theorem Tryd.szH : (Tryd.prog.info? 30).map (·.size) = some 10 := by kernel_rfl
theorem Tryd.szP : (Tryd.prog.info? 48).map (·.size) = some 20 := by kernel_rfl
/-- The head without bits. -/
def no : Nat → Bool := fun _ => false
theorem Tryd.zeroH : (Tryd.prog.info? 30).map (·.zero) = some (some (.agg (H no).toArray)) := by kernel_rfl
theorem Tryd.zeroPt : (Tryd.prog.info? 48).map (·.zero) = some (some (.agg (H no ++ H no).toArray)) := by kernel_rfl
end Go.Proofs.YtbgndopgllnmaaaDoor

/-
  Contracts of the walks over meet: the words of a head, turned one after the other. Conditions: none.
-/

namespace Go.Proofs.YtbgndopgllnmaaaDoor
set_option linter.unusedVariables false
set_option linter.unusedSimpArgs false
open Go.RowKit

/-- The first k words are those of r, the others those of f. -/
def upto (f r : Nat → Bool) (k : Nat) : Nat → Bool := fun i => if i < 16 * k then r i else f i
theorem upto_zero (f r : Nat → Bool) : upto f r 0 = f := by funext i; unfold upto; rw [if_neg (by omega)]
theorem upto_all (f r : Nat → Bool) : H (upto f r 10) = H r := H_congr fun i hi => by unfold upto; rw [if_pos (by omega)]
theorem upto_set (f r : Nat → Bool) {k : Nat} (hk : k < 10) : (H (upto f r k)).set k (.int .i64 (word r k : Int)) = H (upto f r (k + 1)) := by
  rw [H_set _ _ hk]
  refine H_congr fun i _ => ?_
  unfold upto
  by_cases h : i / 16 = k
  · rw [if_pos h, if_pos (by omega)]
  · rw [if_neg h]
    by_cases h2 : i < 16 * k
    · rw [if_pos h2, if_pos (by omega)]
    · rw [if_neg h2, if_neg (by omega)]
theorem upto_word (f r : Nat → Bool) (k : Nat) : word (upto f r k) k = word f k := word_congr fun i hi => by unfold upto; rw [if_neg (by omega)]
end Go.Proofs.YtbgndopgllnmaaaDoor

/-
  Contracts of the walks over overlap, Match and the tests of two patterns. Conditions: the patterns lie there.
-/

namespace Go.Proofs.YtbgndopgllnmaaaDoor
set_option linter.unusedVariables false
set_option linter.unusedSimpArgs false
open Go.RowKit

theorem cells_m (p : Pat) {k : Nat} (h : k < 10) : p.cells[k]? = some (.int .i64 (word p.m k : Int)) := by
  unfold Pat.cells
  rw [List.getElem?_append_left (by rw [H_length]; exact h), H_get _ h]
theorem cells_b (p : Pat) {k : Nat} (h : k < 10) : p.cells[10 + k]? = some (.int .i64 (word p.b k : Int)) := by
  unfold Pat.cells
  rw [List.getElem?_append_right (by rw [H_length]; omega), H_length, show 10 + k - 10 = k by omega, H_get _ h]
/-- Whether two patterns overlap. -/
def Pat.lap (p q : Pat) (i : Nat) : Bool := ((p.b i != q.b i) && p.m i) && q.m i
def Pat.over (p q : Pat) : Prop := ∀ i, i < 160 → p.lap q i = false
instance (p q : Pat) : Decidable (p.over q) := by unfold Pat.over; exact inferInstance
end Go.Proofs.YtbgndopgllnmaaaDoor
