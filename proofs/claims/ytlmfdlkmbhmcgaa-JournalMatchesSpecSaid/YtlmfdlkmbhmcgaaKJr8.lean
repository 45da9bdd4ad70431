/-
  The arguments of layer 5's statements, read: a call, three bytes, three rows of numbers. Conditions: the row's own.
-/
import Derived.Test.YtlmfdlkmbhmcgaaGU
namespace Go.Proofs.Ytlmfdlkmbhmcgaa
open Go.ChangeShapes Go.WideShapes Go.ChangeAt Go.RowKit
open Go.Deep (choose_lt)

theorem okWide_arrJ {P : Program} {w : World} {r : Reach} {base : Nat} {t e : TypeId} {n : Nat} {v : Value} (ht : P.underlying t = some (.array n e)) (h : Value.okWide P w r base t v) : ∃ cs, v = .agg cs ∧ cs.size = P.cellsOf t := by
  simp only [Value.okWide, ht] at h
  obtain ⟨cs, h1, h2, _⟩ := h
  exact ⟨cs, h1, h2⟩
section
variable {H : Type} {enc : TypeId × Value → H} {W : World} {d : DataW H} {p : List MemPlace} {cs : Array Value}
theorem open_opA (hs : cs.size = Try.prog.cellsOf 75) (h : DataW.Trod enc Try.prog W 0 (fun _ => true) true 75 (.agg cs) d p) : ∃ x : OpJ, cs = (opJ x).toArray := by
  obtain ⟨fuel, hf⟩ := h
  have c4 : Try.prog.cellsOf 75 = 4 := by kernel_rfl
  have hf2 : DataW.trod enc Try.prog W 0 (fun _ => true) true fuel 75 cs.toList = some (d, p) := hf
  obtain ⟨x, hx⟩ := op_of hf2 (by rw [Array.length_toList, hs, c4])
  exact ⟨x, by rw [← hx]⟩
theorem cells3 {f : Nat → Value} (hl : cs.toList.length = 3) (h : ∀ i, i < 3 → cs.toList[i]? = some (f i)) : cs = #[f 0, f 1, f 2] := by
  apply Array.toList_inj.1
  apply List.ext_getElem?
  intro i
  match i with
  | 0 => exact h 0 (by omega)
  | 1 => exact h 1 (by omega)
  | 2 => exact h 2 (by omega)
  | i + 3 => rw [List.getElem?_eq_none (by omega), List.getElem?_eq_none (by show 3 ≤ i + 3; omega)]
theorem open_tri (hs : cs.size = Try.prog.cellsOf 93) (h : DataW.Trod enc Try.prog W 0 (fun _ => true) true 93 (.agg cs) d p) : ∃ a b c : UInt8, cs = #[.int .u8 (a.toNat : Int), .int .u8 (b.toNat : Int), .int .u8 (c.toNat : Int)] := by
  obtain ⟨fuel, hf⟩ := h
  have c3 : Try.prog.cellsOf 93 = 3 := by kernel_rfl
  have c1 : Try.prog.cellsOf 5 = 1 := by kernel_rfl
  obtain ⟨xs, m, e1, _, hl, hxl, hi⟩ := DataW.trod_array Try.underlying93 hf
  have hcl : cs.toList.length = 3 := by rw [Array.length_toList, hs, c3]
  have each : ∀ i, i < 3 → ∃ q : UInt8, cs.toList[i]? = some (.int .u8 (q.toNat : Int)) := fun i hiN => by
    have h1 := hi i hiN
    have e : (Value.agg cs).cells.toList = cs.toList := rfl
    rw [List.getElem?_eq_getElem (by omega), e, c1, Nat.mul_one] at h1
    obtain ⟨z, hz, _, hw⟩ := DataW.trod_int Try.underlying5 h1
    have h2 : cs.toList[i]? = some (.int .u8 z) := by
      have : ((cs.toList.drop i).take 1)[0]? = some (.int .u8 z) := by rw [hz]; rfl
      rw [List.getElem?_take_of_lt (by omega), List.getElem?_drop] at this
      exact this
    obtain ⟨b, hb⟩ := byte_of hw
    exact ⟨b, by rw [h2, hb]⟩
  obtain ⟨f, hf⟩ := choose_lt (α := UInt8) (n := 3) (p := fun i q => cs.toList[i]? = some (.int .u8 (q.toNat : Int))) each
  exact ⟨f 0, f 1, f 2, cells3 (f := fun i => .int .u8 ((f i).toNat : Int)) hcl hf⟩
theorem open_picks3 (hs : cs.size = Try.prog.cellsOf 94) (h : DataW.Trod enc Try.prog W 0 (fun _ => true) true 94 (.agg cs) d p) : ∃ (A0 A1 A2 : Option Addr) (c0 c1 c2 : Nat) (k0 k1 k2 : List Int), cs = #[.slice A0 k0.length c0, .slice A1 k1.length c1, .slice A2 k2.length c2] ∧ PkAt W A0 k0 ∧ PkAt W A1 k1 ∧ PkAt W A2 k2 := by
  obtain ⟨fuel, hf⟩ := h
  have c3 : Try.prog.cellsOf 94 = 3 := by kernel_rfl
  have c1 : Try.prog.cellsOf 32 = 1 := by kernel_rfl
  obtain ⟨xs, m, e1, _, hl, hxl, hi⟩ := DataW.trod_array Try.underlying94 hf
  have hcl : cs.toList.length = 3 := by rw [Array.length_toList, hs, c3]
  have each : ∀ i, i < 3 → ∃ q : Option Addr × Nat × List Int, cs.toList[i]? = some (.slice q.1 q.2.2.length q.2.1) ∧ PkAt W q.1 q.2.2 := fun i hiN => by
    have h1 := hi i hiN
    have e : (Value.agg cs).cells.toList = cs.toList := rfl
    have hd : (cs.toList.drop (i * 1)).take 1 = [cs.toList[i]'(by omega)] := by rw [Nat.mul_one, List.drop_eq_getElem_cons (by omega)]; rfl
    rw [List.getElem?_eq_getElem (by omega), e, c1, hd] at h1
    obtain ⟨A, l, c, hv, hp, _, _⟩ := ints_of h1
    exact ⟨(A, c, l), by rw [List.getElem?_eq_getElem (by omega), hv], hp⟩
  obtain ⟨f, hf⟩ := choose_lt each
  exact ⟨_, _, _, _, _, _, _, _, _, cells3 (f := fun i => .slice (f i).1 (f i).2.2.length (f i).2.1) hcl (fun i hi => (hf i hi).1), (hf 0 (by omega)).2, (hf 1 (by omega)).2, (hf 2 (by omega)).2⟩
end
end Go.Proofs.Ytlmfdlkmbhmcgaa
