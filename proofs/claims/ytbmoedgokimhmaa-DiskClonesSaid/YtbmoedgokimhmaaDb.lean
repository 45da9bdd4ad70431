/-
  Bytes, rows and strings of layer 4's walks; only some blocks have turned. Conditions: none.
-/
import Derived.Test.YtbmoedgokimhmaaRows
import Derived.Test.YtbmoedgokimhmaaBlk
import Derived.Test.YtbmoedgokimhmaaHreg
import Derived.WalkKit
import Derived.WalkMore
import Derived.Lib.Hide
import Derived.Outline
import Derived.BigQuiet
import Derived.Laws.BytesArg
import Derived.Laws.StructEq
import Derived.Lib.ConvBytes
import Derived.Lib.AppendStr
import Derived.Deep.QuietTactic
namespace Go.Proofs.Ytbmoedgokimhmaa
open Go.RowKit

def B8 (c : UInt8) : Value := .int .u8 (c.toNat : Int)
theorem B8_one (l : List UInt8) : ∀ u ∈ l.map B8, u.oneCell' = true := by
  intro u hu; simp only [List.mem_map] at hu; obtain ⟨c, _, rfl⟩ := hu; rfl
theorem one_cell1 {v : Value} (h : v.oneCell' = true) : ∀ u ∈ [v], u.oneCell' = true := by
  intro u hu; simp at hu; subst hu; exact h
theorem cs_all (l : List Value) : (l.drop 0).take l.length = l := by simp
theorem bytes_size (s : ByteArray) : s.data.toList.length = s.size := by rw [Array.length_toList]; rfl
theorem str_toList (l : List UInt8) : (⟨l.toArray⟩ : ByteArray).data.toList = l := by simp
theorem str_size (l : List UInt8) : (⟨l.toArray⟩ : ByteArray).size = l.length := by simp [ByteArray.size]
theorem str_eta (s : ByteArray) : ∃ l : List UInt8, s = ⟨l.toArray⟩ ∧ s.data.toList = l := ⟨s.data.toList, by cases s; simp, rfl⟩
theorem str_ext {s t : ByteArray} (h : s.data.toList = t.data.toList) : s = t := by
  obtain ⟨l, rfl, e⟩ := str_eta s
  obtain ⟨r, rfl, e2⟩ := str_eta t
  rw [e, e2] at h
  rw [h]
theorem below_join {a b c : World} (h : Below a.heap.size a b) (k : Below b.heap.size b c) : Below a.heap.size a c := h.trans (k.mono h.size)
theorem below_drew (w : World) : Below w.heap.size w w.drew := (Below.refl _ _).drew
def Holds (w : World) (A : Option Addr) (xs : List Value) : Prop := ∀ k u, xs[k]? = some u → ∃ ad, A = some ad ∧ w.cell? (ad.add k) = some u
theorem Holds.next {w w' : World} {A : Option Addr} {xs : List Value} (h : Holds w A xs) (hb : Below w.heap.size w w') : Holds w' A xs := fun j u hu => by
  obtain ⟨ad, e, hc⟩ := h j u hu
  exact ⟨ad, e, by rw [hb.cell (World.block_lt_of_cell? w _ hc)]; exact hc⟩
theorem ofNat_toNat8 (c : UInt8) : UInt8.ofNat ((c.toNat : Int)).toNat = c := by simp
/-- 'string(b)' of a slice that holds the bytes of a list. -/
theorem run_conv (w : World) (A : Option Addr) (cap : Nat) (l : List UInt8) (hh : Holds w A (l.map B8)) :
    (convert 110 9 (.slice A l.length cap)).run Try.prog w = .ok (.string ⟨l.toArray⟩) w := by
  rcases A with _ | ad
  · have hl : l = [] := by
      cases l with
      | nil => rfl
      | cons c r => obtain ⟨ad, h, _⟩ := hh 0 (B8 c) rfl; cases h
    subst hl
    rw [run_convert_bytes_nil w 110 5 Try.underlying110 Try.underlying5 _ _ 9 Try.underlying9]
    rfl
  · have hl : (loadCells ad l.length).run Try.prog w = .ok ((l.map fun c => (c.toNat : Int)).map (Value.int .u8)).toArray w := by
      have := run_loadCells_list (P := Try.prog) w ad (l.map B8) (fun j v hj => by
        obtain ⟨ad', e, hc⟩ := hh j v hj
        cases e
        exact hc)
      rw [List.length_map] at this
      rw [this, List.map_map]
      rfl
    rw [run_convert_bytes_string w 110 9 5 _ _ _ Try.underlying110 Try.underlying5 Try.underlying9, run_bytesToString w ad l.length cap _ hl, foldl_push_bytes]
    congr 2
    apply ByteArray.ext
    apply Array.toList_inj.1
    simp only [ByteArray.empty, ByteArray.emptyWithCapacity, List.map_map]
    rw [show ((fun n : Int => UInt8.ofNat n.toNat) ∘ fun c : UInt8 => (c.toNat : Int)) = id from funext ofNat_toNat8, List.map_id]
    simp
    rfl
theorem run_conv_at (w : World) (A : Option Addr) (cap n : Nat) (l : List UInt8) (hn : n = l.length) (hh : Holds w A (l.map B8)) :
    (convert 110 9 (.slice A n cap)).run Try.prog w = .ok (.string ⟨l.toArray⟩) w := by subst hn; exact run_conv w A cap l hh
theorem own_blk {w : World} {base size n g : Nat} {e : TypeId} {xs : List Value} (h : w.ownsRow base e size (.slice (some ⟨g, 0, none⟩) n n) n xs) : Blk w g e xs := by
  obtain ⟨h1, h2⟩ := h
  rcases h2 with ⟨hv, _⟩ | ⟨g', cap, cur, hv, _, hh, _, _, hsz, htk⟩
  · cases hv
  · cases hv
    have hc : cur.toList = xs := by rw [← htk, List.take_of_length_le (by simp; omega)]
    unfold Blk
    rw [hh, ← hc]
theorem blk_range {w : World} {g : Nat} {t : TypeId} {l : List Value} (h : Blk w g t l) : w.rangeAt g 0 l := fun j v hv => by rw [Nat.zero_add]; exact h.cell hv
/-- Only the blocks of a list have turned, and there are new ones. -/
structure Only (L : List Nat) (w w' : World) : Prop where
  os : w'.os = w.os
  tape : w'.tape = w.tape
  output : w'.output = w.output
  size : w.heap.size ≤ w'.heap.size
  block : ∀ k, k < w.heap.size → k ∉ L → w'.heap[k]? = w.heap[k]?
theorem Only.refl (L : List Nat) (w : World) : Only L w w := ⟨rfl, rfl, rfl, Nat.le_refl _, fun _ _ _ => rfl⟩
theorem Only.trans {L : List Nat} {a b c : World} (h : Only L a b) (k : Only L b c) : Only L a c :=
  ⟨k.os.trans h.os, k.tape.trans h.tape, k.output.trans h.output, Nat.le_trans h.size k.size, fun i hi hn => (k.block i (Nat.lt_of_lt_of_le hi h.size) hn).trans (h.block i hi hn)⟩
theorem Only.mono {L L' : List Nat} {a b : World} (h : Only L a b) (hs : ∀ k ∈ L, k ∈ L') : Only L' a b := ⟨h.os, h.tape, h.output, h.size, fun i hi hn => h.block i hi (fun hm => hn (hs i hm))⟩
theorem Only.of_below {L : List Nat} {a b : World} (h : Below a.heap.size a b) : Only L a b := ⟨h.os, h.tape, h.output, h.size, fun i hi _ => h.block i hi⟩
theorem Only.of_upd {L : List Nat} {a b : World} {g : Nat} (h : Upd g a b) (hg : g ∈ L) : Only L a b := ⟨h.os, h.tape, h.output, Nat.le_of_eq h.size.symm, fun i _ hn => h.block i (fun e => hn (e ▸ hg))⟩
theorem Only.of_grown {L : List Nat} {a b : World} {g : Nat} (h : a.grownBy b (some g)) (hg : g ∈ L) : Only L a b := ⟨h.os, h.tape, h.output, h.size, fun i hi hn => h.block i hi (fun e => hn (by cases e; exact hg))⟩
theorem Only.below {L : List Nat} {B : Nat} {a b : World} (h : Only L a b) (hL : ∀ k ∈ L, B ≤ k) (hB : B ≤ a.heap.size) : Below B a b :=
  ⟨h.os, h.tape, h.output, h.size, fun i hi => h.block i (Nat.lt_of_lt_of_le hi hB) (fun hm => Nat.lt_irrefl _ (Nat.lt_of_lt_of_le hi (hL i hm)))⟩
theorem Blk.only {L : List Nat} {w w' : World} {g : Nat} {t : TypeId} {l : List Value} (h : Blk w g t l) (ho : Only L w w') (hg : g ∉ L) : Blk w' g t l := by unfold Blk; rw [ho.block g h.lt hg]; exact h
end Go.Proofs.Ytbmoedgokimhmaa
