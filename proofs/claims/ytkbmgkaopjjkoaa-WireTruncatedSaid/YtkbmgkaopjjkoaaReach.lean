/-
  What the form's own reach says of the strings of a slice that came in. Conditions: the row's own.
-/
import Derived.Test.YtkbmgkaopjjkoaaOpen2
namespace Go.Proofs.Ytkbmgkaopjjkoaa
open Go.ChangeShapes Go.WideShapes Go.ChangeAt Go.RowKit

theorem strd_lenOf {H : Type} {d : DataW H} {len : Nat} {l : List ByteArray} (h : len = 0 ∨ ∃ sp, d = .slice (l.map fun s => .lit (.string s.data.toList)) sp) (he : len = l.length) : LenOf d len := by
  rcases h with rfl | ⟨sp, rfl⟩
  · exact .inl rfl
  · exact .inr ⟨_, _, rfl, by simp [he]⟩
theorem weights_texts {H : Type} {P : Program} {t : TypeId} : ∀ (l : List ByteArray) (s : ByteArray), s ∈ l → s.data.toList.length ∈ DataW.weightsAll P t (l.map fun s => DataW.lit (H := H) (.string s.data.toList))
  | x :: r, s, h => by
    simp only [List.map_cons, DataW.weightsAll, List.mem_append]
    rcases List.mem_cons.1 h with rfl | h
    · exact .inl (by simp [DataW.weights])
    · exact .inr (weights_texts r s h)
theorem strd_reach {H : Type} {ts : List TypeId} {ds : List (DataW H)} {d : DataW H} {len j : Nat} {t e : TypeId} {l : List ByteArray} (h : len = 0 ∨ ∃ sp, d = .slice (l.map fun s => .lit (.string s.data.toList)) sp) (he : len = l.length)
    (hsz : (DataW.weightsEach Try.prog ts ds).all (· ≤ reachBytes) = true) (ht : ts[j]? = some t) (hd : ds[j]? = some d) (hu : Try.prog.underlying t = some (.slice e)) : ∀ s ∈ l, s.size ≤ 140737488351232 := by
  intro s hs
  rcases h with rfl | ⟨sp, rfl⟩
  · have : l = [] := List.eq_nil_of_length_eq_zero he.symm
    subst this
    cases hs
  · have hm := weights_texts (H := H) (P := Try.prog) (t := e) l s hs
    have := List.all_eq_true.1 hsz _ (DataW.weights_mem_each ht hd s.data.toList.length (by simp only [DataW.weights, hu]; exact List.mem_cons_of_mem _ (List.mem_append_left _ hm)))
    rw [bytes_size] at this
    have h2 : s.size ≤ reachBytes := of_decide_eq_true this
    exact h2
theorem total_le (b : Nat) : ∀ (l : List ByteArray), (∀ s ∈ l, s.size ≤ b) → total l ≤ l.length * b
  | [], _ => by simp [total]
  | s :: r, h => by
    have h1 := h s (by simp)
    have h2 := total_le b r (fun x hx => h x (by simp [hx]))
    simp only [total, List.length_cons, Nat.succ_mul]; omega
theorem total_forty {l : List ByteArray} {len : Nat} (he : len = l.length) (h : ∀ s ∈ l, s.size ≤ 140737488351232) : len ≤ 40 → l.length + total l ≤ 4611686018427387904 := by
  intro h40
  have h1 := total_le _ l h
  have h2 : l.length * 140737488351232 ≤ 40 * 140737488351232 := Nat.mul_le_mul_right _ (by omega)
  omega
end Go.Proofs.Ytkbmgkaopjjkoaa
