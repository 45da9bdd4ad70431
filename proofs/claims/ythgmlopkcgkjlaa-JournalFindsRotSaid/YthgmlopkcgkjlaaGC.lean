/-
  Contracts of the functions that the statement calls, part 3 of 37 (merged texts: Db, Dm). Conditions: as the head of each part says.
-/
import Derived.Test.YthgmlopkcgkjlaaRows
import Derived.Test.YthgmlopkcgkjlaaGA
import Derived.Test.YthgmlopkcgkjlaaGB
import Derived.WalkKit
import Derived.WalkMore
import Derived.Lib.Hide
import Derived.Outline
import Derived.BigQuiet
import Derived.Laws.BytesArg
import Derived.Laws.StructEq
import Derived.Lib.ConvBytes
import Derived.Lib.AppendStr
import Derived.Deep.QuietTactic

/-
  Bytes, rows and strings of layer 4's walks; only some blocks have turned. Conditions: none.
-/
namespace Go.Proofs.Ythgmlopkcgkjlaa
open Go.RowKit

def B8 (c : UInt8) : Value := .int .u8 (c.toNat : Int)
theorem B8_one (l : List UInt8) : ∀ u ∈ l.map B8, u.oneCell' = true := by
  intro u hu; simp only [List.mem_map] at hu; obtain ⟨c, _, rfl⟩ := hu; rfl
theorem one_cell1 {v : Value} (h : v.oneCell' = true) : ∀ u ∈ [v], u.oneCell' = true := by
  intro u hu; simp at hu; subst hu; exact h
theorem cs_all (l : List Value) : (l.drop 0).take l.length = l := by simp
theorem bytes_size (s : ByteArray) : s.data.toList.length = s.size := by rw [Array.length_toList]; rfl
theorem str_toList (l : List UInt8) : (⟨l.toArray⟩ : ByteArray).data.toList = l := by simp
theorem str_size (l : List UInt8) : (⟨l.toArray⟩ : ByteArray).size = l.length := by simp [ByteArray.size]
theorem str_eta (s : ByteArray) : ∃ l : List UInt8, s = ⟨l.toArray⟩ ∧ s.data.toList = l := ⟨s.data.toList, by cases s; simp, rfl⟩
theorem str_ext {s t : ByteArray} (h : s.data.toList = t.data.toList) : s = t := by
  obtain ⟨l, rfl, e⟩ := str_eta s
  obtain ⟨r, rfl, e2⟩ := str_eta t
  rw [e, e2] at h
  rw [h]
theorem below_join {a b c : World} (h : Below a.heap.size a b) (k : Below b.heap.size b c) : Below a.heap.size a c := h.trans (k.mono h.size)
theorem below_drew (w : World) : Below w.heap.size w w.drew := (Below.refl _ _).drew
def Holds (w : World) (A : Option Addr) (xs : List Value) : Prop := ∀ k u, xs[k]? = some u → ∃ ad, A = some ad ∧ w.cell? (ad.add k) = some u
theorem Holds.next {w w' : World} {A : Option Addr} {xs : List Value} (h : Holds w A xs) (hb : Below w.heap.size w w') : Holds w' A xs := fun j u hu => by
  obtain ⟨ad, e, hc⟩ := h j u hu
  exact ⟨ad, e, by rw [hb.cell (World.block_lt_of_cell? w _ hc)]; exact hc⟩
theorem ofNat_toNat8 (c : UInt8) : UInt8.ofNat ((c.toNat : Int)).toNat = c := by simp
/-- 'string(b)' of a slice that holds the bytes of a list. -/
theorem run_conv (w : World) (A : Option Addr) (cap : Nat) (l : List UInt8) (hh : Holds w A (l.map B8)) :
    (convert 110 9 (.slice A l.length cap)).run Try.prog w = .ok (.string ⟨l.toArray⟩) w := by
  rcases A with _ | ad
  · have hl : l = [] := by
      cases l with
      | nil => rfl
      | cons c r => obtain ⟨ad, h, _⟩ := hh 0 (B8 c) rfl; cases h
    subst hl
    rw [run_convert_bytes_nil w 110 5 Try.underlying110 Try.underlying5 _ _ 9 Try.underlying9]
    rfl
  · have hl : (loadCells ad l.length).run Try.prog w = .ok ((l.map fun c => (c.toNat : Int)).map (Value.int .u8)).toArray w := by
      have := run_loadCells_list (P := Try.prog) w ad (l.map B8) (fun j v hj => by
        obtain ⟨ad', e, hc⟩ := hh j v hj
        cases e
        exact hc)
      rw [List.length_map] at this
      rw [this, List.map_map]
      rfl
    rw [run_convert_bytes_string w 110 9 5 _ _ _ Try.underlying110 Try.underlying5 Try.underlying9, run_bytesToString w ad l.length cap _ hl, foldl_push_bytes]
    congr 2
    apply ByteArray.ext
    apply Array.toList_inj.1
    simp only [ByteArray.empty, ByteArray.emptyWithCapacity, List.map_map]
    rw [show ((fun n : Int => UInt8.ofNat n.toNat) ∘ fun c : UInt8 => (c.toNat : Int)) = id from funext ofNat_toNat8, List.map_id]
    simp
    rfl
theorem run_conv_at (w : World) (A : Option Addr) (cap n : Nat) (l : List UInt8) (hn : n = l.length) (hh : Holds w A (l.map B8)) :
    (convert 110 9 (.slice A n cap)).run Try.prog w = .ok (.string ⟨l.toArray⟩) w := by subst hn; exact run_conv w A cap l hh
theorem own_blk {w : World} {base size n g : Nat} {e : TypeId} {xs : List Value} (h : w.ownsRow base e size (.slice (some ⟨g, 0, none⟩) n n) n xs) : Blk w g e xs := by
  obtain ⟨h1, h2⟩ := h
  rcases h2 with ⟨hv, _⟩ | ⟨g', cap, cur, hv, _, hh, _, _, hsz, htk⟩
  · cases hv
  · cases hv
    have hc : cur.toList = xs := by rw [← htk, List.take_of_length_le (by simp; omega)]
    unfold Blk
    rw [hh, ← hc]
theorem blk_range {w : World} {g : Nat} {t : TypeId} {l : List Value} (h : Blk w g t l) : w.rangeAt g 0 l := fun j v hv => by rw [Nat.zero_add]; exact h.cell hv
/-- Only the blocks of a list have turned, and there are new ones. -/
structure Only (L : List Nat) (w w' : World) : Prop where
  os : w'.os = w.os
  tape : w'.tape = w.tape
  output : w'.output = w.output
  size : w.heap.size ≤ w'.heap.size
  block : ∀ k, k < w.heap.size → k ∉ L → w'.heap[k]? = w.heap[k]?
theorem Only.refl (L : List Nat) (w : World) : Only L w w := ⟨rfl, rfl, rfl, Nat.le_refl _, fun _ _ _ => rfl⟩
theorem Only.trans {L : List Nat} {a b c : World} (h : Only L a b) (k : Only L b c) : Only L a c :=
  ⟨k.os.trans h.os, k.tape.trans h.tape, k.output.trans h.output, Nat.le_trans h.size k.size, fun i hi hn => (k.block i (Nat.lt_of_lt_of_le hi h.size) hn).trans (h.block i hi hn)⟩
theorem Only.mono {L L' : List Nat} {a b : World} (h : Only L a b) (hs : ∀ k ∈ L, k ∈ L') : Only L' a b := ⟨h.os, h.tape, h.output, h.size, fun i hi hn => h.block i hi (fun hm => hn (hs i hm))⟩
theorem Only.of_below {L : List Nat} {a b : World} (h : Below a.heap.size a b) : Only L a b := ⟨h.os, h.tape, h.output, h.size, fun i hi _ => h.block i hi⟩
theorem Only.of_upd {L : List Nat} {a b : World} {g : Nat} (h : Upd g a b) (hg : g ∈ L) : Only L a b := ⟨h.os, h.tape, h.output, Nat.le_of_eq h.size.symm, fun i _ hn => h.block i (fun e => hn (e ▸ hg))⟩
theorem Only.of_grown {L : List Nat} {a b : World} {g : Nat} (h : a.grownBy b (some g)) (hg : g ∈ L) : Only L a b := ⟨h.os, h.tape, h.output, h.size, fun i hi hn => h.block i hi (fun e => hn (by cases e; exact hg))⟩
theorem Only.below {L : List Nat} {B : Nat} {a b : World} (h : Only L a b) (hL : ∀ k ∈ L, B ≤ k) (hB : B ≤ a.heap.size) : Below B a b :=
  ⟨h.os, h.tape, h.output, h.size, fun i hi => h.block i (Nat.lt_of_lt_of_le hi hB) (fun hm => Nat.lt_irrefl _ (Nat.lt_of_lt_of_le hi (hL i hm)))⟩
theorem Blk.only {L : List Nat} {w w' : World} {g : Nat} {t : TypeId} {l : List Value} (h : Blk w g t l) (ho : Only L w w') (hg : g ∉ L) : Blk w' g t l := by unfold Blk; rw [ho.block g h.lt hg]; exact h
end Go.Proofs.Ythgmlopkcgkjlaa

/-
  Chapter 4's disks in plain words. Conditions: none.
-/
namespace Go.Proofs.Ythgmlopkcgkjlaa

/-- A page: its content, and its pending content, if it has one. -/
structure Pg where
  old : List UInt8
  new : Option (List UInt8)
/-- A disk; its trip is -1 if it is unlimited. -/
structure DM where
  ps : List Pg
  up : Bool
  trip : Int
def Z128 : List UInt8 := List.replicate 128 0
namespace Pg
def now (p : Pg) : List UInt8 := p.new.getD p.old
def ok (p : Pg) : Prop := p.old.length = 128 ∧ ∀ l, p.new = some l → l.length = 128
def pend (p : Pg) : Bool := p.new.isSome
/-- The first c bytes of the pending content become content. -/
def settle (p : Pg) (c : Nat) : Pg := match p.new with
  | none => p
  | some l => ⟨l.take c ++ p.old.drop c, none⟩
theorem now_length {p : Pg} (h : p.ok) : p.now.length = 128 := by
  unfold now
  cases hn : p.new with
  | none => exact h.1
  | some l => exact h.2 l hn
theorem settle_ok {p : Pg} (h : p.ok) (c : Nat) : (p.settle c).ok := by
  unfold settle
  cases hn : p.new with
  | none => exact h
  | some l =>
    refine ⟨?_, fun _ h => by cases h⟩
    have := h.2 l hn
    have := h.1
    simp; omega
end Pg
namespace DM
def make (n : Nat) : DM := ⟨List.replicate n ⟨Z128, none⟩, true, -1⟩
def ok (M : DM) : Prop := (∀ p ∈ M.ps, p.ok) ∧ -1 ≤ M.trip ∧ M.trip ≤ 9223372036854775807 ∧ M.ps.length ≤ 4096
def okP (M : DM) (i : Int) : Bool := decide (0 ≤ i ∧ i < (M.ps.length : Int))
def page (M : DM) (i : Nat) : Pg := M.ps.getD i ⟨[], none⟩
/-- A step: the disk behind it is up if there was power. -/
def step (M : DM) : DM := if M.trip = 0 then { M with up := false } else if M.trip = -1 then M else { M with trip := M.trip - 1 }
def readS (M : DM) (i : Int) : List UInt8 := if M.up then (if M.okP i then (M.page i.toNat).now else []) else []
def readE (M : DM) (i : Int) : Int := if M.up then (if M.okP i then 0 else 1) else 13
def put (l : List UInt8) (a : Nat) (s : List UInt8) : List UInt8 := l.take a ++ s ++ l.drop (a + s.length)
def fits (a : Int) (n : Nat) : Bool := decide (0 ≤ a ∧ a + (n : Int) ≤ 128)
def set (M : DM) (i : Nat) (p : Pg) : DM := { M with ps := M.ps.set i p }
def writeE (M : DM) (i a : Int) (s : List UInt8) : Int := if M.up then (if M.okP i && fits a s.length then (if M.step.up then 0 else 13) else 1) else 13
def write (M : DM) (i a : Int) (s : List UInt8) : DM :=
  if M.up then (if M.okP i && fits a s.length then (if M.step.up then M.step.set i.toNat ⟨(M.page i.toNat).old, some (put (M.page i.toNat).now a.toNat s)⟩ else M.step) else M) else M
def flushE (M : DM) : Int := if M.up then (if M.step.up then 0 else 13) else 13
def flush (M : DM) : DM := if M.up then (if M.step.up then { M.step with ps := M.ps.map fun p => p.settle 128 } else M.step) else M
def tripTo (M : DM) (n : Int) : DM := { M with trip := max n (-1) }
/-- The numbers of the pages that are pending. -/
def pending (M : DM) : List Nat := (List.range M.ps.length).filter fun i => (M.page i).pend
def pick (picks : List Int) (k : Nat) : Nat := match picks[k]? with
  | none => 128
  | some x => (min (max x 0) 128).toNat
/-- The pages behind the first j of the pending ones of a list. -/
def mountTo (ps : List Pg) (l : List Nat) (picks : List Int) : Nat → List Pg
  | 0 => ps
  | j + 1 => (mountTo ps l picks j).set (l.getD j 0) (((mountTo ps l picks j).getD (l.getD j 0) ⟨[], none⟩).settle (pick picks j))
def mount (M : DM) (picks : List Int) : DM := ⟨mountTo M.ps M.pending picks M.pending.length, true, -1⟩
def rotE (M : DM) (i b : Int) : Int := if M.okP i && decide (0 ≤ b ∧ b < 1024) then 0 else 1
def flip (l : List UInt8) (b : Nat) : List UInt8 := l.set (b / 8) (l.getD (b / 8) 0 ^^^ UInt8.ofNat (2 ^ (b % 8)))
def rot (M : DM) (i b : Int) : DM := if M.okP i && decide (0 ≤ b ∧ b < 1024) then M.set i.toNat ⟨flip (M.page i.toNat).old b.toNat, (M.page i.toNat).new⟩ else M
def image (M : DM) : List (List UInt8) := M.ps.map Pg.old
theorem page_at {M : DM} {i : Nat} (h : i < M.ps.length) : M.ps[i]? = some (M.page i) := by
  unfold page
  rw [List.getD_eq_getElem?_getD, List.getElem?_eq_getElem h]; rfl
theorem page_ok {M : DM} (hM : M.ok) {i : Nat} (h : i < M.ps.length) : (M.page i).ok := hM.1 _ (List.mem_of_getElem? (page_at h))
theorem okP_nat {M : DM} {i : Int} (h : M.okP i = true) : ∃ k : Nat, i = (k : Int) ∧ k < M.ps.length := by
  have := of_decide_eq_true h
  exact ⟨i.toNat, by omega, by omega⟩
theorem step_ok {M : DM} (hM : M.ok) : M.step.ok := by
  obtain ⟨h1, h2, h3, h4⟩ := hM
  unfold step
  split
  · exact ⟨h1, h2, h3, h4⟩
  · split
    · exact ⟨h1, h2, h3, h4⟩
    · exact ⟨h1, by show -1 ≤ M.trip - 1; omega, by show M.trip - 1 ≤ _; omega, h4⟩
theorem set_ok {M : DM} (hM : M.ok) (i : Nat) {p : Pg} (hp : p.ok) : (M.set i p).ok := by
  obtain ⟨h1, h2, h3, h4⟩ := hM
  refine ⟨fun q hq => ?_, h2, h3, by show (M.ps.set i p).length ≤ 4096; rw [List.length_set]; exact h4⟩
  rcases List.mem_or_eq_of_mem_set hq with h | h
  · exact h1 q h
  · rw [h]; exact hp
theorem put_length {l : List UInt8} {a : Nat} {s : List UInt8} (h : a + s.length ≤ l.length) : (put l a s).length = l.length := by unfold put; simp; omega
theorem make_ok {n : Nat} (h : n ≤ 4096) : (make n).ok := by
  refine ⟨fun p hp => ?_, by show (-1 : Int) ≤ -1; omega, by show (-1 : Int) ≤ 9223372036854775807; omega, by show (List.replicate n _).length ≤ 4096; rw [List.length_replicate]; exact h⟩
  rw [List.eq_of_mem_replicate hp]
  exact ⟨by simp [Z128], fun _ h => by cases h⟩
end DM
end Go.Proofs.Ythgmlopkcgkjlaa
