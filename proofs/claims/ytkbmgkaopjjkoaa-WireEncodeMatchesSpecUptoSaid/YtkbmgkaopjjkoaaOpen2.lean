/-
  The arguments of layer 1's statements, read: a slice of digests; how much a slice of strings holds. Conditions: the row's own.
-/
import Derived.Test.YtkbmgkaopjjkoaaOpen
import Derived.Test.YtkbmgkaopjjkoaaFew
import Derived.Deep.Slices
namespace Go.Proofs.Ytkbmgkaopjjkoaa
open Go.ChangeShapes Go.WideShapes Go.ChangeAt Go.RowKit
open Go.Deep (choose_lt open_slice)

theorem digCells_inv : ∀ (xs : List (List UInt8)) (_ : ∀ d ∈ xs, d.length = 16) (k : Nat) (u : Value), (digCells xs)[k]? = some u → ∃ h : k / 16 < xs.length, (xs[k / 16].map B8)[k % 16]? = some u
  | [], _, k, u, hu => by simp [digCells] at hu
  | d :: xs, h, k, u, hu => by
    have hd : (d.map B8).length = 16 := by rw [List.length_map]; exact h d (by simp)
    simp only [digCells, List.flatMap_cons] at hu
    rcases Nat.lt_or_ge k 16 with hk | hk
    · rw [List.getElem?_append_left (by omega)] at hu
      have e1 : k / 16 = 0 := by omega
      have e2 : k % 16 = k := by omega
      refine ⟨by rw [e1]; simp, ?_⟩
      simp only [e1, e2, List.getElem_cons_zero]
      exact hu
    · rw [List.getElem?_append_right (by omega), hd] at hu
      obtain ⟨h1, h2⟩ := digCells_inv xs (fun x hx => h x (by simp [hx])) (k - 16) u hu
      have e1 : k / 16 = (k - 16) / 16 + 1 := by omega
      have e2 : (k - 16) % 16 = k % 16 := by omega
      refine ⟨by rw [e1]; simp; omega, ?_⟩
      simp only [e1, List.getElem_cons_succ]
      rw [← e2]; exact h2

section
variable {H : Type} {enc : TypeId × Value → H} {W : World} {a : Option Addr} {len cap : Nat} {d : DataW H} {p : List MemPlace}

/-- One digest, read. -/
theorem dig_of {base n : Nat} {spare : Nat → Bool} {held : Bool} {cs : List Value} {y : DataW H × List MemPlace} (h : DataW.trod enc Try.prog W base spare held n 57 cs = some y) : ∃ dd : List UInt8, dd.length = 16 ∧ dd.map B8 = cs := by
  obtain ⟨xs, m, rfl, rfl, hl, hxl, hi⟩ := DataW.trod_array Try.underlying57 h
  have hl16 : cs.length = 16 := by rw [hl]; kernel_rfl
  have each : ∀ i, i < 16 → ∃ q : UInt8, cs[i]? = some (B8 q) := fun i hi16 => by
    have h1 := hi i hi16
    rw [List.getElem?_eq_getElem (by omega), Try.cells5, Nat.mul_one] at h1
    obtain ⟨z, hz, _, hw⟩ := DataW.trod_int Try.underlying5 h1
    have h2 : cs[i]? = some (.int .u8 z) := by
      have : ((cs.drop i).take 1)[0]? = some (.int .u8 z) := by rw [hz]; rfl
      rw [List.getElem?_take_of_lt (by omega), List.getElem?_drop] at this
      exact this
    exact ⟨_, by rw [h2, u8_of hw]⟩
  obtain ⟨f, hf⟩ := choose_lt (α := UInt8) (n := 16) (p := fun i q => cs[i]? = some (B8 q)) each
  refine ⟨(List.range 16).map f, by simp, ?_⟩
  apply List.ext_getElem?
  intro i
  rcases Nat.lt_or_ge i 16 with h | h
  · rw [hf i h]; simp [h]
  · rw [List.getElem?_eq_none (by simp; omega), List.getElem?_eq_none (by omega)]

/-- A []api.Digest that came in. -/
theorem open_digl (h : DataW.Trod enc Try.prog W 0 (fun _ => true) true 24 (.slice a len cap) d p) : ∃ l : List (List UInt8), len = l.length ∧ len ≤ cap ∧ len ≤ 9223372036854775807 ∧ Holds W a (digCells l) ∧ (∀ x ∈ l, WM.okD x) ∧ LenOf d len := by
  obtain ⟨fuel, hf⟩ := h
  rcases open_slice Try.underlying24 hf with ⟨hcs, _⟩ | ⟨x, ln, c, m, n, D, Pl, hcs, _, hl, hm, hmm, hx, hel⟩
  · simp [Value.cells] at hcs
    obtain ⟨rfl, rfl, rfl⟩ := hcs
    exact ⟨[], rfl, Nat.le_refl _, by omega, (fun k u hu => by simp [digCells] at hu), (fun x hx => by cases hx), .inl rfl⟩
  · simp [Value.cells] at hcs
    obtain ⟨rfl, rfl, rfl⟩ := hcs
    unfold maxLen at hm
    have hmc : m = cap := by simpa using hmm
    have c57 : Try.prog.cellsOf 57 = 16 := by kernel_rfl
    have each : ∀ i, i < m → ∃ dd : List UInt8, dd.length = 16 ∧ ∀ j u, (dd.map B8)[j]? = some u → W.cell? ((x.add (i * 16)).add j) = some u := fun i hi => by
      obtain ⟨cs', h1, h2⟩ := hel i hi
      obtain ⟨dd, h3, h4⟩ := dig_of h2
      obtain ⟨_, h5, h6⟩ := World.cells?_some h1
      rw [c57] at h5 h6
      refine ⟨dd, h3, fun j u hu => ?_⟩
      have hj : j < 16 := by
        rcases Nat.lt_or_ge j 16 with h | h
        · exact h
        · rw [List.getElem?_eq_none (by simp; omega)] at hu; cases hu
      rw [h6 j hj, ← h4]; exact hu
    obtain ⟨f, hf⟩ := choose_lt each
    have hok : ∀ y ∈ (List.range len).map f, y.length = 16 := fun y hy => by
      obtain ⟨i, hi, rfl⟩ := List.mem_map.1 hy
      exact (hf i (by have := List.mem_range.1 hi; omega)).1
    refine ⟨(List.range len).map f, by simp, hl, by omega, ?_, hok, ?_⟩
    · intro k u hu
      obtain ⟨h1, h2⟩ := digCells_inv _ hok k u hu
      have hk : k / 16 < len := by simpa using h1
      simp only [List.getElem_map, List.getElem_range] at h2
      have := (hf (k / 16) (by omega)).2 (k % 16) u h2
      rw [add_add, show k / 16 * 16 + k % 16 = k by omega] at this
      exact ⟨x, rfl, this⟩
    · simp only [Prod.mk.injEq] at hx
      exact .inr ⟨_, _, hx.1, by simp⟩

/-- A []string that came in, with its datum. -/
theorem open_strd (h : DataW.Trod enc Try.prog W 0 (fun _ => true) true 23 (.slice a len cap) d p) : ∃ l : List ByteArray, len = l.length ∧ len ≤ cap ∧ len ≤ 9223372036854775807 ∧ Holds W a (l.map Value.string) ∧ (len = 0 ∨ ∃ sp, d = .slice (l.map fun s => .lit (.string s.data.toList)) sp) := by
  obtain ⟨fuel, hf⟩ := h
  rcases open_strings Try.underlying23 Try.underlying9 (by kernel_rfl) hf with ⟨hcs, _⟩ | ⟨x, l, c, zs, hcs, _, hl, hm, hz, hx, hcell, hwz⟩
  · simp [Value.cells] at hcs
    obtain ⟨rfl, rfl, rfl⟩ := hcs
    exact ⟨[], rfl, Nat.le_refl _, by omega, (fun k u hu => by simp at hu), .inl rfl⟩
  · simp [Value.cells] at hcs
    obtain ⟨rfl, rfl, rfl⟩ := hcs
    unfold maxLen at hm
    have hz' : zs.length = cap := by simpa using hz
    simp only [Prod.mk.injEq] at hx
    refine ⟨zs.take len, by simp; omega, hl, by omega, fun k u hu => ⟨x, rfl, ?_⟩, .inr ⟨_, hx.1⟩⟩
    have hk : k < len := by
      rcases Nat.lt_or_ge k len with h | h
      · exact h
      · rw [List.getElem?_eq_none (by simp; omega)] at hu; cases hu
    have hkz : k < zs.length := by omega
    rw [hcell k hkz, ← hu]
    simp [List.getElem?_take, hk, List.getElem?_eq_getElem hkz]
end
end Go.Proofs.Ytkbmgkaopjjkoaa
