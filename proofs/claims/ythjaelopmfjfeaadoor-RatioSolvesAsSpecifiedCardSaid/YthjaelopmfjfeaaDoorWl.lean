/-
  A system in plain words: its table, what is found of it. Conditions: none.
-/
import Derived.Test.YthjaelopmfjfeaaDoorWk
namespace Go.Proofs.YthjaelopmfjfeaaDoor
set_option linter.unusedVariables false
set_option linter.unusedSimpArgs false
open Go.RowKit Go.Shelf

/-- The table of a system. -/
def tabC (m : Nat) (al : List (List Rat)) (bs : List Rat) : List (List Rat) := (List.range m).map fun i => tabRow m ((al[i]?).getD []) ((bs[i]?).getD 0) i
theorem tabC_length (m : Nat) (al : List (List Rat)) (bs : List Rat) : (tabC m al bs).length = m := by unfold tabC; rw [List.length_map, List.length_range]
theorem tabC_get {m : Nat} {al : List (List Rat)} {bs : List Rat} {i : Nat} {a : List Rat} {b : Rat} (hi : i < m) (ha : al[i]? = some a) (hb : bs[i]? = some b) : (tabC m al bs)[i]? = some (tabRow m a b i) := by
  unfold tabC
  rw [List.getElem?_map, List.getElem?_range hi]
  show some (tabRow m ((al[i]?).getD []) ((bs[i]?).getD 0) i) = _
  rw [ha, hb]; rfl
theorem fits_zero : fits 0 := by decide
theorem fits_one : fits 1 := by decide
theorem tabRow_fits {m i : Nat} {a : List Rat} {b : Rat} (ha : ∀ x ∈ a, fits x) (hb : fits b) : ∀ x ∈ tabRow m a b i, fits x := fun x hx => by
  unfold tabRow at hx
  rcases List.mem_append.1 hx with h | h
  · exact ha x h
  · rcases List.mem_append.1 h with h | h
    · rw [List.mem_singleton.1 h]; exact hb
    · rcases List.mem_or_eq_of_mem_set h with h | h
      · rw [(List.mem_replicate.1 h).2]; exact fits_zero
      · rw [h]; exact fits_one
/-- The table that tableOf lays, as elimination reads it. -/
theorem TabTo.el {w w' : World} {gr ge m n B T : Nat} {rs : List (Hdr × List Rat)} {bs : List Rat} {M : List RowM} (h : TabTo w gr m n rs bs m M w') (hrl : rs.length = m) (hbl : bs.length = m) (hB : B ≤ w.heap.size) (hgr : w.heap.size ≤ gr)
    (hR : ∀ p ∈ rs, p.2.length = n ∧ ∀ x ∈ p.2, fits x) (hb : ∀ x ∈ bs, fits x) (hge : w'.heap.size ≤ ge) (hT : ge < T) {w3 : World} (hw : Below w'.heap.size w' w3) (he : Blk w3 ge 24 [.int .i64 0]) : EL B T gr ge (n + 1 + m) M (tabC m (rs.map fun p => p.2) bs) w3 := by
  have hgl := h.hdrs.lt
  refine ⟨?_, by rw [h.cnt, tabC_length], fun i r l h1 h2 => ?_, h.diff, fun i r h1 => ?_, he, ⟨by omega, by omega, by omega, by omega, hT⟩, h.caps⟩
  · have := h.hdrs.next hw hgl
    rw [Nat.sub_self] at this
    simpa using this
  · have hi : i < m := by rw [← h.cnt]; exact (List.getElem?_eq_some_iff.1 h1).1
    obtain ⟨p, hp⟩ : ∃ p, rs[i]? = some p := ⟨_, List.getElem?_eq_getElem (by omega)⟩
    obtain ⟨b, hbi⟩ : ∃ b, bs[i]? = some b := ⟨_, List.getElem?_eq_getElem (by omega)⟩
    rw [tabC_get hi (by rw [List.getElem?_map, hp]; rfl) hbi] at h2
    injection h2 with h2
    subst h2
    obtain ⟨q1, q2⟩ := hR p (List.mem_of_getElem? hp)
    exact ⟨tabRow_length b i q1, tabRow_fits q2 (hb b (List.mem_of_getElem? hbi)), (h.rows i r p b h1 hp hbi).next hw (h.apart i r h1).2.2⟩
  · obtain ⟨q1, q2, q3⟩ := h.apart i r h1
    exact ⟨q1, by omega, by omega, by omega⟩
/-- The numbers of the columns that have a row, one after another. -/
def setTo (C : List (List Rat)) (n : Nat) : Nat → List Nat → List Rat → List Rat
  | _, [], x => x
  | i, c :: hs, x => setTo C n (i + 1) hs (x.set c (at2 C i n))
theorem setTo_append (C : List (List Rat)) (n : Nat) : ∀ (a b : List Nat) (i : Nat) (x : List Rat), setTo C n i (a ++ b) x = setTo C n (i + a.length) b (setTo C n i a x)
  | [], b, i, x => rfl
  | c :: a, b, i, x => by
    have e : i + (c :: a).length = i + 1 + a.length := by rw [List.length_cons]; omega
    rw [e]
    exact setTo_append C n a b (i + 1) _
/-- What is found of a system. -/
inductive Found where
  | large
  | marks (y : List Rat)
  | numbers (x : List Rat)
def solveM (C : List (List Rat)) (n : Nat) : Found :=
  match elimM C n with
  | none => .large
  | some (C2, hs) => match pivot C2 hs.length n with
    | some i => match opTo (fun _ y => okQ (y / at2 C2 i n)) 0 (((C2[i]?).getD []).drop (n + 1)) with
      | none => .large
      | some y => .marks y
    | none => .numbers (setTo C2 n 0 hs (List.replicate n 0))
theorem elimM_lt {C : List (List Rat)} : ∀ (k : Nat) (C2 : List (List Rat)) (hs : List Nat), elimM C k = some (C2, hs) → ∀ c ∈ hs, c < k
  | 0, C2, hs, h => by injection h with h; injection h with _ h; rw [← h]; intro c hc; cases hc
  | k + 1, C2, hs, h => by
    have h' : (elimM C k).bind (stepE k) = some (C2, hs) := h
    cases hk : elimM C k with
    | none => rw [hk] at h'; cases h'
    | some S =>
      obtain ⟨C3, hs3⟩ := S
      have ih := elimM_lt k C3 hs3 hk
      rw [hk, Option.bind_some] at h'
      unfold stepE at h'
      dsimp only at h'
      cases hp : pivot C3 hs3.length k with
      | none =>
        rw [hp] at h'
        injection h' with h'
        injection h' with _ h'
        rw [← h']
        exact fun c hc => Nat.lt_succ_of_lt (ih c hc)
      | some i =>
        rw [hp] at h'
        dsimp only at h'
        obtain ⟨a, _, h2⟩ := Option.bind_eq_some_iff.1 h'
        obtain ⟨b, _, h3⟩ := Option.map_eq_some_iff.1 h2
        injection h3 with _ h3
        rw [← h3]
        intro c hc
        rcases List.mem_append.1 hc with h4 | h4
        · exact Nat.lt_succ_of_lt (ih c h4)
        · rw [List.mem_singleton.1 h4]; exact Nat.lt_succ_self k
theorem setTo_length (C : List (List Rat)) (n : Nat) : ∀ (hs : List Nat) (i : Nat) (x : List Rat), (setTo C n i hs x).length = x.length
  | [], _, _ => rfl
  | c :: hs, i, x => (setTo_length C n hs (i + 1) _).trans (List.length_set ..)
theorem setTo_fits {C : List (List Rat)} {n : Nat} (hC : ∀ i, fits (at2 C i n)) : ∀ (hs : List Nat) (i : Nat) (x : List Rat), (∀ y ∈ x, fits y) → ∀ y ∈ setTo C n i hs x, fits y
  | [], _, _, h => h
  | c :: hs, i, x, h => setTo_fits hC hs (i + 1) _ (fun y hy => by
    rcases List.mem_or_eq_of_mem_set hy with h1 | h1
    · exact h y h1
    · rw [h1]; exact hC i)
theorem setTo_step {C : List (List Rat)} {n i c : Nat} {hs : List Nat} {x : List Rat} (hc : hs[i]? = some c) : setTo C n 0 (hs.take (i + 1)) x = (setTo C n 0 (hs.take i) x).set c (at2 C i n) := by
  obtain ⟨hi, e⟩ := List.getElem?_eq_some_iff.1 hc
  rw [List.take_succ_eq_append_getElem hi, e, setTo_append, List.length_take, Nat.min_eq_left (by omega), Nat.zero_add]
  rfl
theorem EL.at2_fits {B T gr ge N n : Nat} {M : List RowM} {C : List (List Rat)} {w : World} (h : EL B T gr ge N M C w) (i : Nat) : fits (at2 C i n) := by
  unfold at2
  cases hl : C[i]? with
  | none => exact fits_zero
  | some l =>
    rw [Option.bind_some]
    cases hx : l[n]? with
    | none => exact fits_zero
    | some x =>
      have hi := (List.getElem?_eq_some_iff.1 hl).1
      have hs := h.same
      exact (h.rows i M[i] l (List.getElem?_eq_getElem (by omega)) hl).2.1 x (List.mem_of_getElem? hx)
theorem own_cellI {w : World} {T n c : Nat} {t : TypeId} {A : Option Addr} {xs : List Value} (h : w.ownsRow T t 1 (.slice A n c) n xs) {i : Nat} {y : Value} (hy : xs[i]? = some y) : ∃ g, A = some ⟨g, 0, none⟩ ∧ w.cell? ⟨g, i, none⟩ = some y := by
  have hi := (List.getElem?_eq_some_iff.1 hy).1
  have hl := h.1
  rcases h.2 with ⟨_, h0⟩ | ⟨g, cap, cur, hv, hb, h3, _, _, _, ht⟩
  · omega
  · injection hv with hA _ _
    refine ⟨g, hA, ?_⟩
    rw [cell_of_row w g i cur t (0, 0) h3]
    rw [← ht, List.getElem?_take, if_pos (by omega)] at hy
    simpa using hy
def NumRel (C : List (List Rat)) (n u gz : Nat) (hs : List Nat) (w4 : World) (i : Value) (wr : World) : Prop :=
  ∃ k : Nat, k ≤ u ∧ i = .int .i64 (k : Int) ∧ Blk wr gz 23 (rowC (setTo C n 0 (hs.take k) (List.replicate n 0))) ∧ Below w4.heap.size w4 wr
end Go.Proofs.YthjaelopmfjfeaaDoor
