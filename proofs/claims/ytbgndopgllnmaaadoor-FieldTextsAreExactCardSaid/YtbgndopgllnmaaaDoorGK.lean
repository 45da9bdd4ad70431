/-
  Contracts of the functions that the statement calls, part 11 of 25 (merged texts: Ma, Mb, Mc, Md). Conditions: as the head of each part says.
-/
import Derived.BigQuiet
import Derived.ChangeKeysEq
import Derived.Deep.MidRow
import Derived.Deep.QuietTactic
import Derived.Deep.RegionHeld
import Derived.Deep.RegionHeld3
import Derived.Great.BuildSlice
import Derived.Laws.BytesArg
import Derived.Laws.CopyOwn
import Derived.Laws.CopyRow
import Derived.Laws.Rows
import Derived.Laws.StructEq
import Derived.Laws.World
import Derived.Lib.BitFns
import Derived.Lib.BufferWrite
import Derived.Lib.ConvBytes
import Derived.Lib.Hide
import Derived.LoopIn
import Derived.LoopNIn
import Derived.Outline
import Derived.OwnWalkIn
import Derived.RangeFuncLeaves
import Derived.RangeFuncWrites
import Derived.Shelf.Small.Bits
import Derived.StillTailTactics
import Derived.TacticsInMore
import Derived.Test.YtbgndopgllnmaaaDoorRows
import Derived.Test.YtbgndopgllnmaaaDoorGA
import Derived.WalkKit
import Derived.WalkMore
import Derived.Test.YtbgndopgllnmaaaDoorGJ
import Derived.Shelf.Strings.Builder1
import Derived.Shelf.Small.Strs

/-
  Bytes; contract of the walk over hex. Conditions: a word.
-/

namespace Go.Proofs.YtbgndopgllnmaaaDoor
set_option linter.unusedVariables false
set_option linter.unusedSimpArgs false
open Go.RowKit

def B8 (c : UInt8) : Value := .int .u8 (c.toNat : Int)
def HoldsB (w : World) (A : Option Addr) (xs : List Value) : Prop := ∀ k u, xs[k]? = some u → ∃ ad, A = some ad ∧ w.cell? (ad.add k) = some u
theorem ofNat_toNat8 (c : UInt8) : UInt8.ofNat ((c.toNat : Int)).toNat = c := by simp
/-- 'string(b)' of a slice that holds the bytes of a list. -/
theorem run_conv (w : World) (A : Option Addr) (cap : Nat) (l : List UInt8) (hh : HoldsB w A (l.map B8)) :
    (convert 72 9 (.slice A l.length cap)).run Tryd.prog w = .ok (.string ⟨l.toArray⟩) w := by
  rcases A with _ | ad
  · have hl : l = [] := by
      cases l with
      | nil => rfl
      | cons c r => obtain ⟨ad, h, _⟩ := hh 0 (B8 c) rfl; cases h
    subst hl
    rw [run_convert_bytes_nil w 72 5 Tryd.underlying72 Tryd.underlying5 _ _ 9 Tryd.underlying9]
    rfl
  · have hl : (loadCells ad l.length).run Tryd.prog w = .ok ((l.map fun c => (c.toNat : Int)).map (Value.int .u8)).toArray w := by
      have := run_loadCells_list (P := Tryd.prog) w ad (l.map B8) (fun j v hj => by
        obtain ⟨ad', e, hc⟩ := hh j v hj
        cases e
        exact hc)
      rw [List.length_map] at this
      rw [this, List.map_map]
      rfl
    rw [run_convert_bytes_string w 72 9 5 _ _ _ Tryd.underlying72 Tryd.underlying5 Tryd.underlying9, run_bytesToString w ad l.length cap _ hl, foldl_push_bytes]
    congr 2
    apply ByteArray.ext
    apply Array.toList_inj.1
    simp only [ByteArray.empty, ByteArray.emptyWithCapacity, List.map_map]
    rw [show ((fun n : Int => UInt8.ofNat n.toNat) ∘ fun c : UInt8 => (c.toNat : Int)) = id from funext ofNat_toNat8, List.map_id]
    simp
    rfl
theorem blk_conv {w : World} {g : Nat} {t : TypeId} {l : List UInt8} (h : Blk w g t (l.map B8)) {n : Nat} (hn : n = l.length) (c : Nat) : (convert 72 9 (.slice (some ⟨g, 0, none⟩) n c)).run Tryd.prog w = .ok (.string ⟨l.toArray⟩) w := by
  subst hn
  exact run_conv w _ c l fun k u hu => ⟨_, rfl, blk_add h k u hu⟩
def digs : List UInt8 := [48, 49, 50, 51, 52, 53, 54, 55, 56, 57, 97, 98, 99, 100, 101, 102]
theorem dig_at (n : Nat) (h : n < 16) (h' : n < ({ data := #[48, 49, 50, 51, 52, 53, 54, 55, 56, 57, 97, 98, 99, 100, 101, 102] } : ByteArray).size) : (({ data := #[48, 49, 50, 51, 52, 53, 54, 55, 56, 57, 97, 98, 99, 100, 101, 102] } : ByteArray)[n]'h') = digs.getD n 0 := by
  have : ∀ m : Fin 16, (({ data := #[48, 49, 50, 51, 52, 53, 54, 55, 56, 57, 97, 98, 99, 100, 101, 102] } : ByteArray)[m.1]'m.2) = digs.getD m.1 0 := by decide
  exact this ⟨n, h⟩
/-- A digit, as the program reads it. -/
def digB (n : Nat) (h : n < 16) : UInt8 := ({ data := #[48, 49, 50, 51, 52, 53, 54, 55, 56, 57, 97, 98, 99, 100, 101, 102] } : ByteArray)[n]'h
theorem digB_eq (n : Nat) (h : n < 16) : digB n h = digs.getD n 0 := dig_at n h h
/-- The four digits of a word. -/
def hexL (x : Nat) : List UInt8 := [digs.getD (x / 4096 % 16) 0, digs.getD (x / 256 % 16) 0, digs.getD (x / 16 % 16) 0, digs.getD (x / 1 % 16) 0]
theorem and15 (y : Nat) (h : y < 65536) : bits .and .i64 (y : Int) 15 = ((y % 16 : Nat) : Int) := by
  have := and_nat y 15 h (by decide)
  rw [show ((15 : Nat) : Int) = 15 from rfl] at this
  rw [this, show y &&& 15 = y % 16 from Nat.and_two_pow_sub_one_eq_mod y 4]
theorem Tryd.sz8 : (Tryd.prog.info? 5).map (·.size) = some 1 := by kernel_rfl
theorem Tryd.zero4 : (Tryd.prog.info? 95).map (·.zero) = some (some (.agg ([0, 0, 0, 0].map B8).toArray)) := by kernel_rfl
end Go.Proofs.YtbgndopgllnmaaaDoor

/-
  The library's strings.Builder at this program; contracts of the walks over wordText and Text. Conditions: a right pattern.
-/

namespace Go.Proofs.YtbgndopgllnmaaaDoor
set_option linter.unusedVariables false
set_option linter.unusedSimpArgs false
open Go.RowKit Go.Shelf

def Tryd.bwriteA_ren : Ren := ⟨fun | 166 => 65 | 240 => 73 | 276 => 80 | n => n, fun | 20 => 20 | 37 => 72 | 70 => 71 | 72 => 74 | 75 => 86 | 80 => 77 | 164 => 101 | n => n, fun | n => n⟩
theorem Tryd.bwriteA : Lays.n166 Tryd.prog Tryd.bwriteA_ren where
  mixed := by kernel_rfl
  f166 := Tryd.func65.trans (congrArg some (by kernel_rfl))
  f240 := Tryd.func73.trans (congrArg some (by kernel_rfl))
  f276 := Tryd.func80.trans (congrArg some (by kernel_rfl))
  t0 := by first | exact Tryd.underlying0 | kernel_rfl
  a0 := by first | exact Tryd.isAgg0 | exact fun w => by kernel_rfl
  z0 := by first | exact Tryd.sizeOf0 | exact fun w => by kernel_rfl
  v0 := by first | exact Tryd.zeroValue0 | exact fun w => by kernel_rfl
  t3 := by first | exact Tryd.underlying3 | kernel_rfl
  a3 := by first | exact Tryd.isAgg3 | exact fun w => by kernel_rfl
  z3 := by first | exact Tryd.sizeOf3 | exact fun w => by kernel_rfl
  v3 := by first | exact Tryd.zeroValue3 | exact fun w => by kernel_rfl
  t4 := by first | exact Tryd.underlying4 | kernel_rfl
  a4 := by first | exact Tryd.isAgg4 | exact fun w => by kernel_rfl
  z4 := by first | exact Tryd.sizeOf4 | exact fun w => by kernel_rfl
  v4 := by first | exact Tryd.zeroValue4 | exact fun w => by kernel_rfl
  t9 := by first | exact Tryd.underlying9 | kernel_rfl
  a9 := by first | exact Tryd.isAgg9 | exact fun w => by kernel_rfl
  z9 := by first | exact Tryd.sizeOf9 | exact fun w => by kernel_rfl
  v9 := by first | exact Tryd.zeroValue9 | exact fun w => by kernel_rfl
  t20 := by first | exact Tryd.underlying20 | kernel_rfl
  a20 := by first | exact Tryd.isAgg20 | exact fun w => by kernel_rfl
  z20 := by first | exact Tryd.sizeOf20 | exact fun w => by kernel_rfl
  v20 := by first | exact Tryd.zeroValue20 | exact fun w => by kernel_rfl
  t37 := by first | exact Tryd.underlying72 | kernel_rfl
  a37 := by first | exact Tryd.isAgg72 | exact fun w => by kernel_rfl
  z37 := by first | exact Tryd.sizeOf72 | exact fun w => by kernel_rfl
  v37 := by first | exact Tryd.zeroValue72 | exact fun w => by kernel_rfl
  t70 := by first | exact Tryd.underlying71 | kernel_rfl
  a70 := by first | exact Tryd.isAgg71 | exact fun w => by kernel_rfl
  z70 := by first | exact Tryd.sizeOf71 | exact fun w => by kernel_rfl
  v70 := by first | exact Tryd.zeroValue71 | exact fun w => by kernel_rfl
  t72 := by first | exact Tryd.underlying74 | kernel_rfl
  a72 := by first | exact Tryd.isAgg74 | exact fun w => by kernel_rfl
  z72 := by first | exact Tryd.sizeOf74 | exact fun w => by kernel_rfl
  v72 := by first | exact Tryd.zeroValue74 | exact fun w => by kernel_rfl
  t75 := by first | exact Tryd.underlying86 | kernel_rfl
  a75 := by first | exact Tryd.isAgg86 | exact fun w => by kernel_rfl
  z75 := by first | exact Tryd.sizeOf86 | exact fun w => by kernel_rfl
  v75 := by first | exact Tryd.zeroValue86 | exact fun w => by kernel_rfl
  t164 := by first | exact Tryd.underlying101 | kernel_rfl
  a164 := by first | exact Tryd.isAgg101 | exact fun w => by kernel_rfl
  z164 := by first | exact Tryd.sizeOf101 | exact fun w => by kernel_rfl
  v164 := by first | exact Tryd.zeroValue101 | exact fun w => by kernel_rfl
theorem Tryd.bwriteX : Builder.Extra Tryd.prog Tryd.bwriteA_ren where
  sizeBuilder := by kernel_rfl
  liesBuilder := by kernel_rfl
  t5 := Tryd.underlying5
  a5 := by first | exact Tryd.isAgg5 | exact fun w => by kernel_rfl
  z5 := by first | exact Tryd.sizeOf5 | exact fun w => by kernel_rfl
  v5 := by first | exact Tryd.zeroValue5 | exact fun w => by kernel_rfl
  infoByte := by kernel_rfl
  cellsByte := by kernel_rfl
  sizeByte := by kernel_rfl
  neB5 := by decide
theorem Tryd.bstringX : Builder.Extra Tryd.prog Tryd.bstringA_ren where
  sizeBuilder := by kernel_rfl
  liesBuilder := by kernel_rfl
  t5 := Tryd.bwriteX.t5
  a5 := Tryd.bwriteX.a5
  z5 := Tryd.bwriteX.z5
  v5 := Tryd.bwriteX.v5
  infoByte := by kernel_rfl
  cellsByte := by kernel_rfl
  sizeByte := by kernel_rfl
  neB5 := by decide
theorem write_str (B b : Nat) (bs : List Value) (s : ByteArray) (w : World) (h : Lib.IsBuilder 74 5 B b bs w) (hlen : bs.length + s.size ≤ 1000000) (hBw : B ≤ w.heap.size) :
    Calls Tryd.prog 65 #[.pointer (some ⟨b, 0, none⟩), .string s] w fun e w' => e = .returned (.tuple #[.int .i64 s.size, .nilIface]) ∧ Lib.BuilderAt 74 5 B b (.pointer (some ⟨b, 0, none⟩)) (bs ++ s.data.toList.map B8) w' ∧ Below B w w' :=
  Any.Builder_WriteString Tryd.bwriteA Tryd.bwriteX B b bs s w h (by omega) hBw
theorem text_str (B b : Nat) (l : List UInt8) (w : World) (h : Lib.IsBuilder 74 5 B b (l.map B8) w) (hBw : B ≤ w.heap.size) :
    Calls Tryd.prog 57 #[.pointer (some ⟨b, 0, none⟩)] w fun e w' => e = .returned (.string ⟨l.toArray⟩) ∧ Below B w w' :=
  Any.Builder_String_any Tryd.bstringA Tryd.bstringX B b l w h hBw
theorem builder_next {T e : TypeId} {B b : Nat} {bs : List Value} {w w' : World} (h : Lib.IsBuilder T e B b bs w) (hb : Below w.heap.size w w') (hl : b < w.heap.size) : Lib.IsBuilder T e B b bs w' := by
  rcases h with ⟨h1, v, hk, hown, hne⟩ | ⟨h1, v, hk, hown, hne⟩
  · exact .inl ⟨h1, v, (hb.block b hl).trans hk, own_keep hown (fun g hg => hb.block g (hown.lt g hg).2), hne⟩
  · exact .inr ⟨h1, v, (hb.block b hl).trans hk, own_keep hown (fun g hg => hb.block g (hown.lt g hg).2), hne⟩
end Go.Proofs.YtbgndopgllnmaaaDoor

/-
  Contract of the walk over Text. Conditions: none.
-/

namespace Go.Proofs.YtbgndopgllnmaaaDoor
set_option linter.unusedVariables false
set_option linter.unusedSimpArgs false
open Go.RowKit Go.Shelf

theorem hexL_length (x : Nat) : (hexL x).length = 4 := rfl
end Go.Proofs.YtbgndopgllnmaaaDoor

/-
  Contract of the walk over number. Conditions: at most a million bytes.
-/

namespace Go.Proofs.YtbgndopgllnmaaaDoor
set_option linter.unusedVariables false
set_option linter.unusedSimpArgs false
open Go.RowKit Go.Shelf

theorem index_any (c : UInt8) (w : World) :
    Calls Tryd.prog 71 #[.string { data := #[48, 49, 50, 51, 52, 53, 54, 55, 56, 57, 97, 98, 99, 100, 101, 102] }, .int .u8 (c.toNat : Int)] w fun e w' => e = .returned (.int .i64 (Lib.indexByte digs c)) ∧ w = w' := by
  have h := Any.strings_IndexByte Tryd.indexA { data := #[48, 49, 50, 51, 52, 53, 54, 55, 56, 57, 97, 98, 99, 100, 101, 102] } (c.toNat : Int) w
  refine Calls.mono h ?_
  rintro e w' ⟨rfl, rfl⟩
  refine ⟨?_, rfl⟩
  rw [show ((c.toNat : Int)).toNat.toUInt8 = c by simp]
  rfl
end Go.Proofs.YtbgndopgllnmaaaDoor
