/-
  What elimination keeps, and why what is found of a system is right. Conditions: none.
-/
import Derived.Test.YthjaelopmfjfeaaDoorWl
namespace Go.Proofs.YthjaelopmfjfeaaDoor
set_option linter.unusedVariables false
set_option linter.unusedSimpArgs false
open Go.RowKit Go.Shelf
set_option linter.unusedVariables false

/-- A sum of the first n numbers. -/
def sumN : Nat → (Nat → Rat) → Rat
  | 0, _ => 0
  | n + 1, f => sumN n f + f n
theorem sumN_congr {f g : Nat → Rat} : ∀ {n : Nat}, (∀ k, k < n → f k = g k) → sumN n f = sumN n g
  | 0, _ => rfl
  | n + 1, h => by
    unfold sumN
    rw [sumN_congr (n := n) (fun k hk => h k (by omega)), h n (by omega)]
theorem sumN_add (f g : Nat → Rat) : ∀ n, sumN n (fun k => f k + g k) = sumN n f + sumN n g
  | 0 => by unfold sumN; grind
  | n + 1 => by unfold sumN; rw [sumN_add f g n]; grind
theorem sumN_mul (c : Rat) (f : Nat → Rat) : ∀ n, sumN n (fun k => c * f k) = c * sumN n f
  | 0 => by unfold sumN; grind
  | n + 1 => by unfold sumN; rw [sumN_mul c f n]; grind
theorem sumN_zero {f : Nat → Rat} : ∀ {n : Nat}, (∀ k, k < n → f k = 0) → sumN n f = 0
  | 0, _ => rfl
  | n + 1, h => by unfold sumN; rw [sumN_zero (n := n) (fun k hk => h k (by omega)), h n (by omega)]; grind
theorem sumN_swap (f : Nat → Nat → Rat) (m : Nat) : ∀ n, sumN n (fun i => sumN m (fun j => f i j)) = sumN m (fun j => sumN n (fun i => f i j))
  | 0 => by
    have h : sumN m (fun j => sumN 0 (fun i => f i j)) = 0 := sumN_zero (fun k _ => rfl)
    rw [h]; rfl
  | n + 1 => by
    have h : sumN m (fun j => sumN (n + 1) (fun i => f i j)) = sumN m (fun j => sumN n (fun i => f i j) + f n j) := rfl
    rw [h, sumN_add, ← sumN_swap f m n]; rfl
theorem sumN_one {f : Nat → Rat} {j : Nat} : ∀ {n : Nat}, j < n → (∀ k, k < n → k ≠ j → f k = 0) → sumN n f = f j
  | 0, h, _ => absurd h (Nat.not_lt_zero _)
  | n + 1, h, hz => by
    unfold sumN
    by_cases e : n = j
    · subst e
      rw [sumN_zero (n := n) (fun k hk => hz k (by omega) (by omega))]; grind
    · rw [sumN_one (n := n) (j := j) (by omega) (fun k hk hn => hz k (by omega) hn), hz n (by omega) e]; grind
theorem sumN_split (a : Nat) (f : Nat → Rat) : ∀ b, sumN (a + b) f = sumN a f + sumN b (fun k => f (a + k))
  | 0 => by show sumN a f = sumN a f + 0; grind
  | b + 1 => by
    show sumN (a + b) f + f (a + b) = sumN a f + (sumN b (fun k => f (a + k)) + f (a + b))
    rw [sumN_split a f b]; grind
theorem opTo_get {F : Nat → Rat → Option Rat} : ∀ {l : List Rat} {k : Nat} {r : List Rat}, opTo F k l = some r → ∀ {i : Nat} {x : Rat}, l[i]? = some x → ∃ y, F (k + i) x = some y ∧ r[i]? = some y
  | [], _, _, _, i, x, hx => by cases i <;> cases hx
  | z :: l, k, r, h, i, x, hx => by
    unfold opTo at h
    obtain ⟨y, h1, h2⟩ := Option.bind_eq_some_iff.1 h
    obtain ⟨r2, h3, rfl⟩ := Option.map_eq_some_iff.1 h2
    cases i with
    | zero => injection hx with hx; subst hx; exact ⟨y, h1, rfl⟩
    | succ i =>
      obtain ⟨y2, a, b⟩ := opTo_get h3 (i := i) (x := x) hx
      exact ⟨y2, by rw [← a]; congr 1; omega, b⟩
theorem mapO_all {α : Type} {F : Nat → α → Option α} : ∀ {l : List α} {k : Nat} {r : List α}, mapO F k l = some r → r.length = l.length ∧ ∀ {i : Nat} {x : α}, l[i]? = some x → ∃ y, F (k + i) x = some y ∧ r[i]? = some y
  | [], _, r, h => by
    injection h with h
    subst h
    exact ⟨rfl, fun {i x} hx => by cases i <;> cases hx⟩
  | z :: l, k, r, h => by
    unfold mapO at h
    obtain ⟨y, h1, h2⟩ := Option.bind_eq_some_iff.1 h
    obtain ⟨r2, h3, rfl⟩ := Option.map_eq_some_iff.1 h2
    obtain ⟨hl, hg⟩ := mapO_all h3
    refine ⟨by rw [List.length_cons, List.length_cons, hl], fun {i x} hx => ?_⟩
    cases i with
    | zero => injection hx with hx; subst hx; exact ⟨y, h1, rfl⟩
    | succ i =>
      obtain ⟨y2, a, b⟩ := hg (i := i) (x := x) hx
      exact ⟨y2, by rw [← a]; congr 1; omega, b⟩
theorem okQ_val {q y : Rat} (h : okQ q = some y) : y = q := by
  unfold okQ at h
  split at h
  · injection h with h; exact h.symm
  · cases h
theorem subF_val {t : Rat} {r : List Rat} {k : Nat} {x y : Rat} (h : subF t r k x = some y) : y = x - t * (r[k]?).getD 0 := by
  unfold subF at h
  obtain ⟨o, h1, h2⟩ := Option.bind_eq_some_iff.1 h
  split at h2
  · rw [okQ_val h2, h1]; rfl
  · cases h2
theorem at2_get {C : List (List Rat)} {j : Nat} {l : List Rat} (h : C[j]? = some l) (k : Nat) : at2 C j k = (l[k]?).getD 0 := by unfold at2; rw [h]; rfl
/-- A table of m rows of N elements. -/
structure WF (C : List (List Rat)) (m N : Nat) : Prop where
  len : C.length = m
  wide : ∀ (j : Nat) (l : List Rat), C[j]? = some l → l.length = N
def other (u i j : Nat) : Nat := if j = i then u else j
theorem step_some {c m N : Nat} {C C2 : List (List Rat)} {hs hs2 : List Nat} (hC : WF C m N) (h : stepE c (C, hs) = some (C2, hs2)) :
    (C2 = C ∧ hs2 = hs ∧ ∀ j, hs.length ≤ j → j < m → at2 C j c = 0) ∨
    (∃ i, hs.length ≤ i ∧ i < m ∧ at2 C i c ≠ 0 ∧ hs2 = hs ++ [c] ∧ WF C2 m N ∧ (∀ k, k < N → at2 C2 hs.length k = at2 C i k / at2 C i c) ∧
      ∀ j, j < m → j ≠ hs.length → ∀ k, k < N → at2 C2 j k = at2 C (other hs.length i j) k - at2 C (other hs.length i j) c * (at2 C i k / at2 C i c)) := by
  unfold stepE at h
  dsimp only at h
  obtain ⟨u, hu⟩ : ∃ u, hs.length = u := ⟨_, rfl⟩
  rw [hu] at h ⊢
  cases hp : pivot C u c with
  | none =>
    rw [hp] at h
    injection h with h
    injection h with h1 h2
    refine .inl ⟨h1.symm, h2.symm, fun j a b => ?_⟩
    unfold pivot at hp
    have := List.find?_eq_none.1 hp j (List.mem_range.2 (by rw [hC.len]; exact b))
    rw [decide_eq_true a, Bool.true_and] at this
    simpa using this
  | some i =>
    rw [hp] at h
    dsimp only at h
    unfold pivot at hp
    obtain ⟨p1, p2, p3⟩ := List.find?_range_eq_some.1 hp
    have hi := List.mem_range.1 p2
    rw [hC.len] at hi
    simp only [Bool.and_eq_true, decide_eq_true_eq, Bool.not_eq_true', decide_eq_false_iff_not] at p1
    obtain ⟨p1, pz⟩ := p1
    obtain ⟨hd, h1, h2⟩ := Option.bind_eq_some_iff.1 h
    obtain ⟨D, h3, h4⟩ := Option.map_eq_some_iff.1 h2
    injection h4 with h4 h5
    subst h4
    obtain ⟨li, hli⟩ : ∃ l, C[i]? = some l := ⟨_, List.getElem?_eq_getElem (by rw [hC.len]; exact hi)⟩
    obtain ⟨lu, hlu⟩ : ∃ l, C[u]? = some l := ⟨_, List.getElem?_eq_getElem (by rw [hC.len]; omega)⟩
    rw [hli, Option.getD_some] at h1 h3
    rw [hlu, Option.getD_some] at h3
    have hsl : (swapR C u i lu li).length = m := by unfold swapR; rw [List.length_set, List.length_set, hC.len]
    have hum : u < m := by omega
    have hlil := hC.wide i li hli
    have hhl := opTo_length _ _ _ _ h1
    have hhk : ∀ k, k < N → (hd[k]?).getD 0 = at2 C i k / at2 C i c := fun k hk => by
      obtain ⟨y, e1, e2⟩ := opTo_get h1 (i := k) (x := li[k]'(by omega)) (List.getElem?_eq_getElem (by omega))
      rw [e2, Option.getD_some, okQ_val e1, at2_get hli k, List.getElem?_eq_getElem (by omega)]; rfl
    obtain ⟨hml, hmg⟩ := mapO_all h3
    rw [List.length_set, hsl] at hml
    have htu : ((swapR C u i lu li).set u hd)[u]? = some hd := List.getElem?_set_self (by omega)
    obtain ⟨yu, eu1, eu2⟩ := hmg htu
    have hyu : yu = hd := by
      unfold rowF at eu1
      rw [if_neg (fun hh => hh.1 (by omega))] at eu1
      injection eu1 with eu1
      exact eu1.symm
    have hoth : ∀ j, j < m → j ≠ u → ∃ l y, C[other u i j]? = some l ∧ rowF u c hd j l = some y ∧ D[j]? = some y := fun j hj hn => by
      have hon : other u i j < m := by unfold other; split <;> omega
      obtain ⟨l, hl⟩ : ∃ l, C[other u i j]? = some l := ⟨_, List.getElem?_eq_getElem (by rw [hC.len]; exact hon)⟩
      have ht : ((swapR C u i lu li).set u hd)[j]? = some l := by
        rw [List.getElem?_set_ne (fun e => hn e.symm), swap_get hlu hli]
        unfold other at hl
        by_cases e : j = i
        · rw [if_pos e] at hl ⊢
          rw [← hl, hlu]
        · rw [if_neg e] at hl ⊢
          rw [if_neg hn, hl]
      obtain ⟨y, a, b⟩ := hmg ht
      rw [Nat.zero_add] at a
      exact ⟨l, y, hl, a, b⟩
    refine .inr ⟨i, p1, hi, pz, h5.symm, ⟨hml, fun j l hl => ?_⟩, fun k hk => ?_, fun j hj hn k hk => ?_⟩
    · have hjm : j < m := by rw [← hml]; exact (List.getElem?_eq_some_iff.1 hl).1
      by_cases e : j = u
      · subst e
        rw [eu2] at hl
        injection hl with hl
        rw [← hl, hyu, hhl, hlil]
      · obtain ⟨l0, y, a, b, d⟩ := hoth j hjm e
        rw [d] at hl
        injection hl with hl
        subst hl
        have h0 := hC.wide _ _ a
        unfold rowF at b
        split at b
        · rw [opTo_length _ _ _ _ b, h0]
        · injection b with b; rw [← b, h0]
    · rw [at2_get eu2, hyu, hhk k hk]
    · obtain ⟨l0, y, a, b, d⟩ := hoth j hj hn
      have h0 := hC.wide _ _ a
      rw [at2_get d, at2_get a, at2_get a]
      obtain ⟨x, hx⟩ : ∃ x, l0[k]? = some x := ⟨_, List.getElem?_eq_getElem (by omega)⟩
      unfold rowF at b
      split at b
      next hcd =>
        obtain ⟨z, e1, e2⟩ := opTo_get b hx
        rw [Nat.zero_add] at e1
        rw [e2, subF_val e1, hx, hhk k hk]
        rfl
      next hcd =>
        injection b with b
        subst b
        have hz : (l0[c]?).getD 0 = 0 := Classical.byContradiction fun e => hcd ⟨hn, e⟩
        rw [hz]
        grind
/-- A linear combination of a row's elements. -/
def lin (C : List (List Rat)) (N : Nat) (w : Nat → Rat) (j : Nat) : Rat := sumN N (fun k => at2 C j k * w k)
/-- What the elimination keeps: the first rows have a column each, in which they alone have a 1; the others have no element left; the same combinations are 0. -/
structure Inv (C0 C : List (List Rat)) (m N : Nat) (hs : List Nat) (c : Nat) : Prop where
  wf : WF C m N
  few : hs.length ≤ m
  unit : ∀ i a, hs[i]? = some a → a < c ∧ ∀ j, j < m → at2 C j a = if j = i then 1 else 0
  zero : ∀ j, hs.length ≤ j → j < m → ∀ k, k < c → at2 C j k = 0
  same : ∀ w, (∀ j, j < m → lin C N w j = 0) ↔ (∀ j, j < m → lin C0 N w j = 0)
theorem Inv.step {C0 C C2 : List (List Rat)} {m N c : Nat} {hs hs2 : List Nat} (h : Inv C0 C m N hs c) (hc : c < N) (hst : stepE c (C, hs) = some (C2, hs2)) : Inv C0 C2 m N hs2 (c + 1) := by
  rcases step_some h.wf hst with ⟨rfl, rfl, hz⟩ | ⟨i, hui, him, hp, rfl, hwf, hu, ho⟩
  · refine ⟨h.wf, h.few, fun i a ha => ⟨Nat.lt_succ_of_lt (h.unit i a ha).1, (h.unit i a ha).2⟩, fun j a b k hk => ?_, h.same⟩
    by_cases e : k = c
    · rw [e]; exact hz j a b
    · exact h.zero j a b k (by omega)
  · obtain ⟨u, hul⟩ : ∃ u, hs.length = u := ⟨_, rfl⟩
    have hz := h.zero
    have hn := h.unit
    rw [hul] at hui hu ho hz
    have hum : u < m := by omega
    have hoi : ∀ j, j < m → j ≠ u → other u i j < m ∧ u ≤ other u i i := fun j hj hn => by unfold other; split <;> simp <;> omega
    have hpp : at2 C i c / at2 C i c = 1 := by grind
    have hzi : ∀ k, k < c → at2 C i k / at2 C i c = 0 := fun k hk => by rw [hz i hui him k hk]; grind
    have hcol : ∀ j, j < m → at2 C2 j c = if j = u then 1 else 0 := fun j hj => by
      by_cases e : j = u
      · rw [e, hu c hc, if_pos rfl, hpp]
      · rw [ho j hj e c hc, if_neg e, hpp]; grind
    refine ⟨hwf, by rw [List.length_append, hul]; exact hum, fun i2 a ha => ?_, fun j a b k hk => ?_, fun w => ?_⟩
    · rcases Nat.lt_or_ge i2 u with h1 | h1
      · rw [List.getElem?_append_left (by omega)] at ha
        obtain ⟨hac, hun⟩ := hn i2 a ha
        have hia : at2 C i a = 0 := by rw [hun i him, if_neg (by omega)]
        refine ⟨by omega, fun j hj => ?_⟩
        by_cases e : j = u
        · rw [e, hu a (by omega), hia, if_neg (by omega)]; grind
        · rw [ho j hj e a (by omega), hia]
          by_cases e2 : j = i
          · have : other u i j = u := by unfold other; rw [if_pos e2]
            rw [this, hun u hum, if_neg (by omega), if_neg (by omega)]; grind
          · have : other u i j = j := by unfold other; rw [if_neg e2]
            rw [this, hun j hj]; grind
      · rw [List.getElem?_append_right (by omega), hul] at ha
        have hi2 : i2 = u := by
          have := (List.getElem?_eq_some_iff.1 ha).1
          rw [List.length_singleton] at this
          omega
        subst hi2
        rw [Nat.sub_self] at ha
        injection ha with ha
        subst ha
        exact ⟨Nat.lt_succ_self _, hcol⟩
    · rw [List.length_append, hul, List.length_singleton] at a
      by_cases e : k = c
      · rw [e, hcol j b, if_neg (by omega)]
      · rw [ho j b (by omega) k (by omega), hzi k (by omega), hz (other u i j) (by unfold other; split <;> omega) (hoi j b (by omega)).1 k (by omega)]; grind
    · have l1 : lin C2 N w u = (1 / at2 C i c) * lin C N w i := by
        unfold lin
        rw [← sumN_mul]
        exact sumN_congr fun k hk => by rw [hu k hk]; grind
      have l2 : ∀ j, j < m → j ≠ u → lin C2 N w j = lin C N w (other u i j) + (-(at2 C (other u i j) c / at2 C i c)) * lin C N w i := fun j hj hn => by
        unfold lin
        rw [← sumN_mul, ← sumN_add]
        exact sumN_congr fun k hk => by rw [ho j hj hn k hk]; grind
      rw [← h.same w]
      refine ⟨fun hh => ?_, fun hh => ?_⟩
      · have hi0 : lin C N w i = 0 := by
          have := hh u hum
          rw [l1] at this
          grind
        have hot : ∀ j, j < m → j ≠ u → lin C N w (other u i j) = 0 := fun j hj hn => by
          have := hh j hj
          rw [l2 j hj hn, hi0] at this
          grind
        intro j hj
        by_cases e : j = u
        · by_cases e2 : u = i
          · rw [e, e2]; exact hi0
          · have := hot i him (fun e3 => e2 e3.symm)
            unfold other at this
            rw [if_pos rfl] at this
            rw [e]; exact this
        · by_cases e2 : j = i
          · rw [e2]; exact hi0
          · have := hot j hj e
            unfold other at this
            rw [if_neg e2] at this
            exact this
      · intro j hj
        by_cases e : j = u
        · rw [e, l1, hh i him]; grind
        · rw [l2 j hj e, hh i him, hh _ (hoi j hj e).1]; grind
theorem elim_inv {C0 : List (List Rat)} {m N : Nat} (hC : WF C0 m N) : ∀ (c : Nat) (C : List (List Rat)) (hs : List Nat), c ≤ N → elimM C0 c = some (C, hs) → Inv C0 C m N hs c
  | 0, C, hs, _, h => by
    injection h with h
    injection h with h1 h2
    subst h1 h2
    exact ⟨hC, Nat.zero_le _, fun i a ha => (by cases ha), fun j _ _ k hk => absurd hk (Nat.not_lt_zero _), fun w => Iff.rfl⟩
  | c + 1, C, hs, hn, h => by
    obtain ⟨⟨C3, hs3⟩, h1, h2⟩ := Option.bind_eq_some_iff.1 (show (elimM C0 c).bind (stepE c) = _ from h)
    exact (elim_inv hC c C3 hs3 (by omega) h1).step (by omega) h2
theorem setTo_out (C : List (List Rat)) (n k : Nat) : ∀ (hs : List Nat) (i : Nat) (x : List Rat), k ∉ hs → (setTo C n i hs x)[k]? = x[k]?
  | [], _, _, _ => rfl
  | c :: hs, i, x, h => by
    show (setTo C n (i + 1) hs (x.set c (at2 C i n)))[k]? = _
    rw [setTo_out C n k hs (i + 1) _ (fun e => h (List.mem_cons_of_mem _ e)), List.getElem?_set_ne (fun e => h (by rw [e]; exact List.mem_cons_self ..))]
theorem setTo_in (C : List (List Rat)) (n a : Nat) : ∀ (hs : List Nat) (i : Nat) (x : List Rat) (j : Nat), hs[j]? = some a → (∀ j2, hs[j2]? = some a → j2 = j) → a < x.length → (setTo C n i hs x)[a]? = some (at2 C (i + j) n)
  | [], _, _, j, h, _, _ => by cases j <;> cases h
  | c :: hs, i, x, j, h, hd, hx => by
    show (setTo C n (i + 1) hs (x.set c (at2 C i n)))[a]? = _
    cases j with
    | zero =>
      injection h with h
      subst h
      have hno : c ∉ hs := fun e => by
        obtain ⟨q, hq⟩ := List.getElem?_of_mem e
        have := hd (q + 1) hq
        omega
      rw [setTo_out C n c hs (i + 1) _ hno, List.getElem?_set_self hx]; rfl
    | succ j =>
      rw [setTo_in C n a hs (i + 1) _ j h (fun j2 h2 => by have := hd (j2 + 1) h2; omega) (by rw [List.length_set]; exact hx)]
      congr 2; omega
/-- A list as numbers. -/
def nth (x : List Rat) (k : Nat) : Rat := (x[k]?).getD 0
/-- x is a solution of the table's equations; y shows that there is none. -/
def Sol (C : List (List Rat)) (m n : Nat) (x : List Rat) : Prop := ∀ j, j < m → sumN n (fun k => at2 C j k * nth x k) = at2 C j n
def Ref (C : List (List Rat)) (m n : Nat) (y : List Rat) : Prop := (∀ k, k < n → sumN m (fun q => nth y q * at2 C q k) = 0) ∧ sumN m (fun q => nth y q * at2 C q n) = 1
theorem not_both {C : List (List Rat)} {m n : Nat} {x y : List Rat} (h : Sol C m n x) (g : Ref C m n y) : False := by
  have h1 : sumN m (fun q => nth y q * at2 C q n) = sumN m (fun q => sumN n (fun k => nth y q * (at2 C q k * nth x k))) := sumN_congr fun q hq => by
    rw [← h q hq, sumN_mul]
  have h2 : sumN n (fun k => sumN m (fun q => nth y q * (at2 C q k * nth x k))) = 0 := sumN_zero fun k hk => by
    have : sumN m (fun q => nth y q * (at2 C q k * nth x k)) = nth x k * sumN m (fun q => nth y q * at2 C q k) := by
      rw [← sumN_mul]; exact sumN_congr fun q _ => by grind
    rw [this, g.1 k hk]; grind
  have h3 := g.2
  rw [h1, sumN_swap, h2] at h3
  exact absurd h3 (by decide)
/-- What a row is worth where the numbers of its columns are x, its b -1, its marks nothing. -/
def asX (n : Nat) (x : Nat → Rat) (k : Nat) : Rat := if k < n then x k else if k = n then -1 else 0
theorem lin_asX (C : List (List Rat)) (n m : Nat) (x : Nat → Rat) (j : Nat) : lin C (n + 1 + m) (asX n x) j = sumN n (fun k => at2 C j k * x k) - at2 C j n := by
  unfold lin
  rw [sumN_split, sumN_split]
  have h1 : sumN n (fun k => at2 C j k * asX n x k) = sumN n (fun k => at2 C j k * x k) := sumN_congr fun k hk => by unfold asX; rw [if_pos hk]
  have h2 : sumN 1 (fun k => at2 C j (n + k) * asX n x (n + k)) = - at2 C j n := by
    show 0 + at2 C j (n + 0) * asX n x (n + 0) = _
    unfold asX
    rw [if_neg (by omega), if_pos (by omega)]
    grind
  have h3 : sumN m (fun k => at2 C j (n + 1 + k) * asX n x (n + 1 + k)) = 0 := sumN_zero fun k _ => by
    unfold asX
    rw [if_neg (by omega), if_neg (by omega)]
    grind
  rw [h1, h2, h3]
  grind
theorem Inv.sol {C0 C : List (List Rat)} {m n : Nat} {hs : List Nat} (h : Inv C0 C m (n + 1 + m) hs n) (hz : ∀ j, hs.length ≤ j → j < m → at2 C j n = 0) : Sol C0 m n (setTo C n 0 hs (List.replicate n 0)) := by
  have hd : ∀ i i2 a, hs[i]? = some a → hs[i2]? = some a → i2 = i := fun i i2 a h1 h2 => by
    have hi : i < m := by have := (List.getElem?_eq_some_iff.1 h1).1; have := h.few; omega
    have e1 := (h.unit i a h1).2 i hi
    have e2 := (h.unit i2 a h2).2 i hi
    rw [if_pos rfl] at e1
    rw [e1] at e2
    by_cases e : i = i2
    · exact e.symm
    · rw [if_neg e] at e2; exact absurd e2 (by decide)
  have hx : ∀ k, k ∉ hs → nth (setTo C n 0 hs (List.replicate n 0)) k = 0 := fun k hk => by
    unfold nth
    rw [setTo_out C n k hs 0 _ hk]
    rcases Nat.lt_or_ge k n with e | e
    · rw [List.getElem?_replicate_of_lt e]; rfl
    · rw [List.getElem?_eq_none (by simp; exact e)]; rfl
  have hy : ∀ i a, hs[i]? = some a → nth (setTo C n 0 hs (List.replicate n 0)) a = at2 C i n := fun i a ha => by
    unfold nth
    rw [setTo_in C n a hs 0 _ i ha (fun j2 h2 => hd i j2 a ha h2) (by rw [List.length_replicate]; exact (h.unit i a ha).1), Nat.zero_add]; rfl
  have hl := (h.same (asX n (nth (setTo C n 0 hs (List.replicate n 0))))).1 (fun j hj => by
    rw [lin_asX]
    rcases Nat.lt_or_ge j hs.length with e | e
    · obtain ⟨a, ha⟩ : ∃ a, hs[j]? = some a := ⟨_, List.getElem?_eq_getElem e⟩
      have ha2 := h.unit j a ha
      rw [sumN_one (j := a) ha2.1 (fun k hk hn => ?_), hy j a ha, ha2.2 j hj, if_pos rfl]
      · grind
      · by_cases hm : k ∈ hs
        · obtain ⟨i, hi⟩ := List.getElem?_of_mem hm
          have hij : j ≠ i := fun e3 => hn (by rw [e3, hi] at ha; injection ha)
          rw [(h.unit i k hi).2 j hj, if_neg hij]
          grind
        · rw [hx k hm]; grind
    · rw [sumN_zero (fun k hk => by rw [h.zero j e hj k hk]; grind), hz j e hj]
      grind)
  intro j hj
  have := hl j hj
  rw [lin_asX] at this
  grind
/-- What a row is worth where its marks stand for the given rows. -/
def asY (C0 : List (List Rat)) (n k q : Nat) : Rat := if q = k then 1 else if n < q then -(at2 C0 (q - (n + 1)) k) else 0
theorem lin_asY (C0 C : List (List Rat)) (n m k : Nat) (hk : k ≤ n) (j : Nat) : lin C (n + 1 + m) (asY C0 n k) j = at2 C j k - sumN m (fun q => at2 C j (n + 1 + q) * at2 C0 q k) := by
  unfold lin
  rw [sumN_split]
  have h1 : sumN (n + 1) (fun q => at2 C j q * asY C0 n k q) = at2 C j k := by
    rw [sumN_one (j := k) (by omega) (fun q hq hn => by unfold asY; rw [if_neg hn, if_neg (by omega)]; grind)]
    unfold asY
    rw [if_pos rfl]; grind
  have h3 : sumN m (fun q => at2 C j (n + 1 + q) * asY C0 n k (n + 1 + q)) = (-1) * sumN m (fun q => at2 C j (n + 1 + q) * at2 C0 q k) := by
    rw [← sumN_mul]
    exact sumN_congr fun q _ => by
      unfold asY
      rw [if_neg (by omega), if_pos (by omega), Nat.add_sub_cancel_left]
      grind
  rw [h1, h3]
  grind
theorem Inv.ref {C0 C : List (List Rat)} {m n i : Nat} {hs : List Nat} {y : List Rat} (h : Inv C0 C m (n + 1 + m) hs n) (hm : ∀ j, j < m → ∀ q, q < m → at2 C0 j (n + 1 + q) = if q = j then 1 else 0) (hi : hs.length ≤ i) (him : i < m) (hb : at2 C i n ≠ 0) (hy : ∀ q, q < m → nth y q = at2 C i (n + 1 + q) / at2 C i n) : Ref C0 m n y := by
  have key : ∀ k, k ≤ n → sumN m (fun q => nth y q * at2 C0 q k) = at2 C i k / at2 C i n := fun k hk => by
    have h0 := (h.same (asY C0 n k)).2 (fun j hj => by
      rw [lin_asY C0 C0 n m k hk j, sumN_one (j := j) hj (fun q hq hn => by rw [hm j hj q hq, if_neg hn]; grind), hm j hj j hj, if_pos rfl]
      grind) i him
    rw [lin_asY C0 C n m k hk i] at h0
    have h1 : sumN m (fun q => nth y q * at2 C0 q k) = (1 / at2 C i n) * sumN m (fun q => at2 C i (n + 1 + q) * at2 C0 q k) := by
      rw [← sumN_mul]
      exact sumN_congr fun q hq => by rw [hy q hq]; grind
    rw [h1]
    grind
  refine ⟨fun k hk => ?_, ?_⟩
  · rw [key k (by omega), h.zero i hi him k hk]; grind
  · rw [key n (Nat.le_refl _)]; grind
theorem tab_at {m n : Nat} {al : List (List Rat)} {bs : List Rat} {j : Nat} {a : List Rat} {b : Rat} (hj : j < m) (ha : al[j]? = some a) (hb : bs[j]? = some b) (hl : a.length = n) :
    (∀ k, k < n → at2 (tabC m al bs) j k = nth a k) ∧ at2 (tabC m al bs) j n = b ∧ ∀ q, q < m → at2 (tabC m al bs) j (n + 1 + q) = if q = j then 1 else 0 := by
  have hg := tabC_get hj ha hb
  refine ⟨fun k hk => ?_, ?_, fun q hq => ?_⟩
  · rw [at2_get hg]
    unfold tabRow nth
    rw [List.getElem?_append_left (by omega)]
  · rw [at2_get hg]
    unfold tabRow
    rw [List.getElem?_append_right (by omega), hl, Nat.sub_self]; rfl
  · rw [at2_get hg]
    unfold tabRow
    have e : n + 1 + q - a.length = q + 1 := by omega
    rw [List.getElem?_append_right (by omega), e]
    show (((List.replicate m (0 : Rat)).set j 1)[q]?).getD 0 = _
    by_cases e2 : q = j
    · subst e2
      rw [List.getElem?_set_self (by simp; exact hq), if_pos rfl]; rfl
    · rw [List.getElem?_set_ne (fun e3 => e2 e3.symm), List.getElem?_replicate_of_lt hq, if_neg e2]; rfl
/-- What is found of a system is right. -/
theorem found_right {m n : Nat} {al : List (List Rat)} {bs : List Rat} (hm : al.length = m) (hw : ∀ a ∈ al, a.length = n) (hb : bs.length = m) :
    match solveM (tabC m al bs) n with
    | .large => True
    | .numbers x => Sol (tabC m al bs) m n x
    | .marks y => Ref (tabC m al bs) m n y := by
  have hwf : WF (tabC m al bs) m (n + 1 + m) := ⟨tabC_length .., fun j l hl => by
    have hj : j < m := by have := (List.getElem?_eq_some_iff.1 hl).1; rw [tabC_length] at this; exact this
    rw [tabC_get hj (List.getElem?_eq_getElem (by omega)) (List.getElem?_eq_getElem (by omega))] at hl
    injection hl with hl
    rw [← hl]
    exact tabRow_length _ _ (hw _ (List.getElem_mem _))⟩
  have hmk : ∀ j, j < m → ∀ q, q < m → at2 (tabC m al bs) j (n + 1 + q) = if q = j then 1 else 0 := fun j hj q hq =>
    (tab_at hj (List.getElem?_eq_getElem (by omega)) (List.getElem?_eq_getElem (by omega)) (hw _ (List.getElem_mem _))).2.2 q hq
  obtain ⟨C0, hC0⟩ : ∃ C, tabC m al bs = C := ⟨_, rfl⟩
  rw [hC0] at hwf hmk ⊢
  unfold solveM
  cases he : elimM C0 n with
  | none => exact trivial
  | some S =>
    obtain ⟨C, hs⟩ := S
    have hi := elim_inv hwf n C hs (by omega) he
    dsimp only
    cases hp : pivot C hs.length n with
    | none =>
      dsimp only
      refine hi.sol fun j a b => ?_
      unfold pivot at hp
      have := List.find?_eq_none.1 hp j (List.mem_range.2 (by rw [hi.wf.len]; exact b))
      rw [decide_eq_true a, Bool.true_and] at this
      simpa using this
    | some i =>
      unfold pivot at hp
      obtain ⟨p1, p2, p3⟩ := List.find?_range_eq_some.1 hp
      have him := List.mem_range.1 p2
      rw [hi.wf.len] at him
      simp only [Bool.and_eq_true, decide_eq_true_eq, Bool.not_eq_true', decide_eq_false_iff_not] at p1
      dsimp only
      obtain ⟨li, hli⟩ : ∃ l, C[i]? = some l := ⟨_, List.getElem?_eq_getElem (by rw [hi.wf.len]; exact him)⟩
      have hll := hi.wf.wide i li hli
      rw [hli, Option.getD_some]
      cases ho : opTo (fun _ y => okQ (y / at2 C i n)) 0 (li.drop (n + 1)) with
      | none => exact trivial
      | some y =>
        dsimp only
        refine hi.ref hmk p1.1 him p1.2 fun q hq => ?_
        have hx : (li.drop (n + 1))[q]? = some (li[n + 1 + q]'(by omega)) := by
          rw [List.getElem?_drop, List.getElem?_eq_getElem (by omega)]
        obtain ⟨z, e1, e2⟩ := opTo_get ho hx
        unfold nth
        rw [e2, Option.getD_some, okQ_val e1, at2_get hli (n + 1 + q), List.getElem?_eq_getElem (l := li) (i := n + 1 + q) (by omega)]; rfl
end Go.Proofs.YthjaelopmfjfeaaDoor
