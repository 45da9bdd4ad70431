/-
  Chapter 4's disks in plain words. Conditions: none.
-/
import Derived.Test.YtbmoedgokimhmaaDb
namespace Go.Proofs.Ytbmoedgokimhmaa

/-- A page: its content, and its pending content, if it has one. -/
structure Pg where
  old : List UInt8
  new : Option (List UInt8)
/-- A disk; its trip is -1 if it is unlimited. -/
structure DM where
  ps : List Pg
  up : Bool
  trip : Int
def Z128 : List UInt8 := List.replicate 128 0
namespace Pg
def now (p : Pg) : List UInt8 := p.new.getD p.old
def ok (p : Pg) : Prop := p.old.length = 128 ∧ ∀ l, p.new = some l → l.length = 128
def pend (p : Pg) : Bool := p.new.isSome
/-- The first c bytes of the pending content become content. -/
def settle (p : Pg) (c : Nat) : Pg := match p.new with
  | none => p
  | some l => ⟨l.take c ++ p.old.drop c, none⟩
theorem now_length {p : Pg} (h : p.ok) : p.now.length = 128 := by
  unfold now
  cases hn : p.new with
  | none => exact h.1
  | some l => exact h.2 l hn
theorem settle_ok {p : Pg} (h : p.ok) (c : Nat) : (p.settle c).ok := by
  unfold settle
  cases hn : p.new with
  | none => exact h
  | some l =>
    refine ⟨?_, fun _ h => by cases h⟩
    have := h.2 l hn
    have := h.1
    simp; omega
end Pg
namespace DM
def make (n : Nat) : DM := ⟨List.replicate n ⟨Z128, none⟩, true, -1⟩
def ok (M : DM) : Prop := (∀ p ∈ M.ps, p.ok) ∧ -1 ≤ M.trip ∧ M.trip ≤ 9223372036854775807 ∧ M.ps.length ≤ 4096
def okP (M : DM) (i : Int) : Bool := decide (0 ≤ i ∧ i < (M.ps.length : Int))
def page (M : DM) (i : Nat) : Pg := M.ps.getD i ⟨[], none⟩
/-- A step: the disk behind it is up if there was power. -/
def step (M : DM) : DM := if M.trip = 0 then { M with up := false } else if M.trip = -1 then M else { M with trip := M.trip - 1 }
def readS (M : DM) (i : Int) : List UInt8 := if M.up then (if M.okP i then (M.page i.toNat).now else []) else []
def readE (M : DM) (i : Int) : Int := if M.up then (if M.okP i then 0 else 1) else 13
def put (l : List UInt8) (a : Nat) (s : List UInt8) : List UInt8 := l.take a ++ s ++ l.drop (a + s.length)
def fits (a : Int) (n : Nat) : Bool := decide (0 ≤ a ∧ a + (n : Int) ≤ 128)
def set (M : DM) (i : Nat) (p : Pg) : DM := { M with ps := M.ps.set i p }
def writeE (M : DM) (i a : Int) (s : List UInt8) : Int := if M.up then (if M.okP i && fits a s.length then (if M.step.up then 0 else 13) else 1) else 13
def write (M : DM) (i a : Int) (s : List UInt8) : DM :=
  if M.up then (if M.okP i && fits a s.length then (if M.step.up then M.step.set i.toNat ⟨(M.page i.toNat).old, some (put (M.page i.toNat).now a.toNat s)⟩ else M.step) else M) else M
def flushE (M : DM) : Int := if M.up then (if M.step.up then 0 else 13) else 13
def flush (M : DM) : DM := if M.up then (if M.step.up then { M.step with ps := M.ps.map fun p => p.settle 128 } else M.step) else M
def tripTo (M : DM) (n : Int) : DM := { M with trip := max n (-1) }
/-- The numbers of the pages that are pending. -/
def pending (M : DM) : List Nat := (List.range M.ps.length).filter fun i => (M.page i).pend
def pick (picks : List Int) (k : Nat) : Nat := match picks[k]? with
  | none => 128
  | some x => (min (max x 0) 128).toNat
/-- The pages behind the first j of the pending ones of a list. -/
def mountTo (ps : List Pg) (l : List Nat) (picks : List Int) : Nat → List Pg
  | 0 => ps
  | j + 1 => (mountTo ps l picks j).set (l.getD j 0) (((mountTo ps l picks j).getD (l.getD j 0) ⟨[], none⟩).settle (pick picks j))
def mount (M : DM) (picks : List Int) : DM := ⟨mountTo M.ps M.pending picks M.pending.length, true, -1⟩
def rotE (M : DM) (i b : Int) : Int := if M.okP i && decide (0 ≤ b ∧ b < 1024) then 0 else 1
def flip (l : List UInt8) (b : Nat) : List UInt8 := l.set (b / 8) (l.getD (b / 8) 0 ^^^ UInt8.ofNat (2 ^ (b % 8)))
def rot (M : DM) (i b : Int) : DM := if M.okP i && decide (0 ≤ b ∧ b < 1024) then M.set i.toNat ⟨flip (M.page i.toNat).old b.toNat, (M.page i.toNat).new⟩ else M
def image (M : DM) : List (List UInt8) := M.ps.map Pg.old
theorem page_at {M : DM} {i : Nat} (h : i < M.ps.length) : M.ps[i]? = some (M.page i) := by
  unfold page
  rw [List.getD_eq_getElem?_getD, List.getElem?_eq_getElem h]; rfl
theorem page_ok {M : DM} (hM : M.ok) {i : Nat} (h : i < M.ps.length) : (M.page i).ok := hM.1 _ (List.mem_of_getElem? (page_at h))
theorem okP_nat {M : DM} {i : Int} (h : M.okP i = true) : ∃ k : Nat, i = (k : Int) ∧ k < M.ps.length := by
  have := of_decide_eq_true h
  exact ⟨i.toNat, by omega, by omega⟩
theorem step_ok {M : DM} (hM : M.ok) : M.step.ok := by
  obtain ⟨h1, h2, h3, h4⟩ := hM
  unfold step
  split
  · exact ⟨h1, h2, h3, h4⟩
  · split
    · exact ⟨h1, h2, h3, h4⟩
    · exact ⟨h1, by show -1 ≤ M.trip - 1; omega, by show M.trip - 1 ≤ _; omega, h4⟩
theorem set_ok {M : DM} (hM : M.ok) (i : Nat) {p : Pg} (hp : p.ok) : (M.set i p).ok := by
  obtain ⟨h1, h2, h3, h4⟩ := hM
  refine ⟨fun q hq => ?_, h2, h3, by show (M.ps.set i p).length ≤ 4096; rw [List.length_set]; exact h4⟩
  rcases List.mem_or_eq_of_mem_set hq with h | h
  · exact h1 q h
  · rw [h]; exact hp
theorem put_length {l : List UInt8} {a : Nat} {s : List UInt8} (h : a + s.length ≤ l.length) : (put l a s).length = l.length := by unfold put; simp; omega
theorem make_ok {n : Nat} (h : n ≤ 4096) : (make n).ok := by
  refine ⟨fun p hp => ?_, by show (-1 : Int) ≤ -1; omega, by show (-1 : Int) ≤ 9223372036854775807; omega, by show (List.replicate n _).length ≤ 4096; rw [List.length_replicate]; exact h⟩
  rw [List.eq_of_mem_replicate hp]
  exact ⟨by simp [Z128], fun _ h => by cases h⟩
end DM
end Go.Proofs.Ytbmoedgokimhmaa
