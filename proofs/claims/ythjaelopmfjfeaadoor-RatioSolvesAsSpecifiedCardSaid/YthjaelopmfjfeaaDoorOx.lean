/-
  A list of rows that came in, read. Conditions: the row's own.
-/
import Derived.Test.YthjaelopmfjfeaaDoorOw
import Derived.Test.YthjaelopmfjfeaaDoorZc
namespace Go.Proofs.YthjaelopmfjfeaaDoor
set_option linter.unusedVariables false
set_option linter.unusedSimpArgs false
open Go.ChangeShapes Go.WideShapes Go.ChangeAt Go.RowKit
open Go.Deep (choose_lt)
set_option linter.unusedVariables false

instance : Inhabited (Hdr × List (Int × Int)) := ⟨((none, 0, 0), [])⟩
/-- A row that came in: it is nil, or lies somewhere, and has room for what it holds. -/
structure CameQ (w : World) (p : Hdr × List (Int × Int)) : Prop where
  raw : RawQ w p
  void : p.1.1 = none → p.1 = (none, 0, 0)
  room : p.1.2.1 ≤ p.1.2.2
section
variable {H : Type} {enc : TypeId × Value → H} {W : World} {d : DataW H} {p : List MemPlace}
theorem row_of {base fuel : Nat} {cs : List Value} {y : DataW H × List MemPlace} (hf : DataW.trod enc Tryd.prog W base (fun _ => true) true fuel 40 cs = some y) : ∃ r : Hdr × List (Int × Int), cs = [hdrV r.1] ∧ CameQ W r := by
  have hf2 := hf
  rcases Go.Deep.open_slice Tryd.underlying40 hf2 with ⟨hcs, hx⟩ | ⟨x, n, c, m, fl, D, Pl, hcs, _, hl, hm, hmm, hx, hel⟩
  · refine ⟨((none, 0, 0), []), hcs, ⟨rfl, Nat.zero_le _, fun k p hp => by cases hp⟩, fun _ => rfl, Nat.le_refl _⟩
  · subst hcs
    obtain ⟨l, e1, h2, _⟩ := ratios_of hf
    refine ⟨((some x, n, c), l), rfl, ⟨e1, ?_, h2⟩, (fun e => by cases e), hl⟩
    show l.length ≤ _
    rw [← e1]
    unfold maxLen at hm
    omega
/-- A list of rows that came in. -/
theorem open_rows {a : Option Addr} {len cap : Nat} (h : DataW.Trod enc Tryd.prog W 0 (fun _ => true) true 45 (.slice a len cap) d p) : ∃ l : List (Hdr × List (Int × Int)), len = l.length ∧ HdrsAt W a (l.map fun p => p.1) ∧ (∀ p ∈ l, CameQ W p) ∧ LenOf d len := by
  obtain ⟨fuel, hf⟩ := h
  have hf2 : DataW.trod enc Tryd.prog W 0 (fun _ => true) true fuel 45 [.slice a len cap] = some (d, p) := hf
  rcases Go.Deep.open_slice Tryd.underlying45 hf2 with ⟨hcs, hx⟩ | ⟨x, n, c, m, fl, D, Pl, hcs, _, hl, hm, hmm, hx, hel⟩
  · injection hcs with hcs _
    injection hcs with e1 e2 e3
    subst e1 e2 e3
    exact ⟨[], rfl, (fun j y hy => by cases hy), (fun p hp => by cases hp), .inl rfl⟩
  · injection hcs with hcs _
    injection hcs with e1 e2 e3
    subst e1 e2 e3
    have hmc : m = cap := by simpa using hmm
    have c1 : Tryd.prog.cellsOf 40 = 1 := by kernel_rfl
    have each : ∀ i, i < m → ∃ y : Hdr × List (Int × Int), CameQ W y ∧ W.cell? (x.add i) = some (hdrV y.1) := fun i hi => by
      obtain ⟨cs', h1, h2⟩ := hel i hi
      rw [c1, Nat.mul_one] at h1
      obtain ⟨hl4, hcl, hat⟩ := World.cells?_some h1
      obtain ⟨y, rfl, hy⟩ := row_of h2
      refine ⟨y, hy, ?_⟩
      have h0 := hat 0 (by decide)
      have ha : (x.add i).add 0 = x.add i := by generalize x.add i = z; cases z; rfl
      rw [ha] at h0
      exact h0
    obtain ⟨f, hfx⟩ := choose_lt each
    refine ⟨(List.range len).map f, by simp, fun j y hy => ?_, fun y hy => ?_, ?_⟩
    · rw [List.getElem?_map, List.getElem?_map] at hy
      have hj : j < len := by
        rcases Nat.lt_or_ge j len with h | h
        · exact h
        · rw [List.getElem?_eq_none (by simp; omega)] at hy; cases hy
      rw [List.getElem?_range hj] at hy
      injection hy with hy
      subst hy
      exact ⟨x, rfl, (hfx j (by omega)).2⟩
    · obtain ⟨j, hj, rfl⟩ := List.mem_map.1 hy
      exact (hfx j (by have := List.mem_range.1 hj; omega)).1
    · simp only [Prod.mk.injEq] at hx
      exact .inr ⟨_, _, hx.1, by simp⟩
end
end Go.Proofs.YthjaelopmfjfeaaDoor
