/-
  Arguments that are a slice of strings or an array of bytes, read. Conditions: the row's own.
-/
import Derived.Test.YtnhnfdfjlagcjaaDoorHopen
import Derived.Deep.Slices
namespace Go.Proofs.YtnhnfdfjlagcjaaDoor
open Go.ChangeShapes Go.WideShapes Go.ChangeAt Go.RowKit
open Go.Deep (choose_lt open_slice)

section
variable {H : Type} {enc : TypeId × Value → H} {W : World} {a : Option Addr} {len cap : Nat} {d : DataW H} {p : List MemPlace}
/-- A []string that came in, with its datum. -/
theorem open_strd (h : DataW.Trod enc Tryd.prog W 0 (fun _ => true) true 27 (.slice a len cap) d p) : ∃ l : List ByteArray, len = l.length ∧ len ≤ cap ∧ len ≤ 9223372036854775807 ∧ Holds W a (l.map Value.string) ∧ (len = 0 ∨ ∃ sp, d = .slice (l.map fun s => .lit (.string s.data.toList)) sp) := by
  obtain ⟨fuel, hf⟩ := h
  rcases open_strings Tryd.underlying27 Tryd.underlying9 (by kernel_rfl) hf with ⟨hcs, _⟩ | ⟨x, l, c, zs, hcs, _, hl, hm, hz, hx, hcell, hwz⟩
  · simp [Value.cells] at hcs
    obtain ⟨rfl, rfl, rfl⟩ := hcs
    exact ⟨[], rfl, Nat.le_refl _, by omega, (fun k u hu => by simp at hu), .inl rfl⟩
  · simp [Value.cells] at hcs
    obtain ⟨rfl, rfl, rfl⟩ := hcs
    unfold maxLen at hm
    have hz' : zs.length = cap := by simpa using hz
    simp only [Prod.mk.injEq] at hx
    refine ⟨zs.take len, by simp; omega, hl, by omega, fun k u hu => ⟨x, rfl, ?_⟩, .inr ⟨_, hx.1⟩⟩
    have hk : k < len := by
      rcases Nat.lt_or_ge k len with h | h
      · exact h
      · rw [List.getElem?_eq_none (by simp; omega)] at hu; cases hu
    have hkz : k < zs.length := by omega
    rw [hcell k hkz, ← hu]
    simp [hk, List.getElem?_eq_getElem hkz]
end
theorem strd_lenOf {H : Type} {d : DataW H} {len : Nat} {l : List ByteArray} (h : len = 0 ∨ ∃ sp, d = .slice (l.map fun s => .lit (.string s.data.toList)) sp) (he : len = l.length) : LenOf d len := by
  rcases h with rfl | ⟨sp, rfl⟩
  · exact .inl rfl
  · exact .inr ⟨_, _, rfl, by simp [he]⟩
theorem weights_texts {H : Type} {P : Program} {t : TypeId} : ∀ (l : List ByteArray) (s : ByteArray), s ∈ l → s.data.toList.length ∈ DataW.weightsAll P t (l.map fun s => DataW.lit (H := H) (.string s.data.toList))
  | x :: r, s, h => by
    simp only [List.map_cons, DataW.weightsAll, List.mem_append]
    rcases List.mem_cons.1 h with rfl | h
    · exact .inl (by simp [DataW.weights])
    · exact .inr (weights_texts r s h)
theorem strd_reach {H : Type} {ts : List TypeId} {ds : List (DataW H)} {d : DataW H} {len j : Nat} {t e : TypeId} {l : List ByteArray} (h : len = 0 ∨ ∃ sp, d = .slice (l.map fun s => .lit (.string s.data.toList)) sp) (he : len = l.length)
    (hsz : (DataW.weightsEach Tryd.prog ts ds).all (· ≤ reachBytes) = true) (ht : ts[j]? = some t) (hd : ds[j]? = some d) (hu : Tryd.prog.underlying t = some (.slice e)) : ∀ s ∈ l, s.size ≤ 140737488351232 := by
  intro s hs
  rcases h with rfl | ⟨sp, rfl⟩
  · have : l = [] := List.eq_nil_of_length_eq_zero he.symm
    subst this
    cases hs
  · have hm := weights_texts (H := H) (P := Tryd.prog) (t := e) l s hs
    have := List.all_eq_true.1 hsz _ (DataW.weights_mem_each ht hd s.data.toList.length (by simp only [DataW.weights, hu]; exact List.mem_cons_of_mem _ (List.mem_append_left _ hm)))
    rw [bytes_size] at this
    have h2 : s.size ≤ reachBytes := of_decide_eq_true this
    exact h2

theorem okWide_arr {P : Program} {w : World} {r : Reach} {base : Nat} {t e : TypeId} {n : Nat} {v : Value} (ht : P.underlying t = some (.array n e)) (h : Value.okWide P w r base t v) : ∃ cs, v = .agg cs ∧ cs.size = P.cellsOf t := by
  simp only [Value.okWide, ht] at h
  obtain ⟨cs, h1, h2, _⟩ := h
  exact ⟨cs, h1, h2⟩
/-- An array of bytes that came in. -/
theorem open_arr {H : Type} {enc : TypeId × Value → H} {W : World} {t : TypeId} {N : Nat} {cs : Array Value} {d : DataW H} {p : List MemPlace} (hu : Tryd.prog.underlying t = some (.array N 5)) (hc : Tryd.prog.cellsOf t = N) (hs : cs.size = Tryd.prog.cellsOf t)
    (h : DataW.Trod enc Tryd.prog W 0 (fun _ => true) true t (.agg cs) d p) : ∃ l : List UInt8, l.length = N ∧ cs = (l.map B8).toArray := by
  obtain ⟨fuel, hf⟩ := h
  obtain ⟨xs, m, e1, _, hl, hxl, hi⟩ := DataW.trod_array hu hf
  have hcl : cs.toList.length = N := by rw [show cs.toList.length = cs.size from Array.length_toList, hs, hc]
  have hu5 : Tryd.prog.cellsOf 5 = 1 := by kernel_rfl
  have each : ∀ i, i < N → ∃ q : UInt8, cs.toList[i]? = some (B8 q) := fun i hiN => by
    have h1 := hi i hiN
    have e : (Value.agg cs).cells.toList = cs.toList := rfl
    rw [List.getElem?_eq_getElem (by omega), e, hu5, Nat.mul_one] at h1
    obtain ⟨z, hz, _, hw⟩ := DataW.trod_int Tryd.underlying5 h1
    have h2 : cs.toList[i]? = some (.int .u8 z) := by
      have : ((cs.toList.drop i).take 1)[0]? = some (.int .u8 z) := by rw [hz]; rfl
      rw [List.getElem?_take_of_lt (by omega), List.getElem?_drop] at this
      exact this
    exact ⟨_, by rw [h2, u8_of hw]⟩
  obtain ⟨f, hf⟩ := choose_lt (α := UInt8) (n := N) (p := fun i q => cs.toList[i]? = some (B8 q)) each
  refine ⟨(List.range N).map f, by simp, ?_⟩
  apply Array.toList_inj.1
  rw [List.toList_toArray]
  apply List.ext_getElem?
  intro i
  rcases Nat.lt_or_ge i N with h | h
  · rw [hf i h]; simp [h]
  · rw [List.getElem?_eq_none (by omega), List.getElem?_eq_none (by simp; omega)]
end Go.Proofs.YtnhnfdfjlagcjaaDoor
