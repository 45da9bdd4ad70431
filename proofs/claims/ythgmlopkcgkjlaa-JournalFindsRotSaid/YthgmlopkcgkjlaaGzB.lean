/-
  Contracts of the functions that the statement calls, part 28 of 37 (merged texts: Jk4). Conditions: as the head of each part says.
-/
import Derived.Test.YthgmlopkcgkjlaaGT
import Derived.RangeFuncWrites
import Derived.RangeFuncLeaves

/-
  A range over an iterator that visits a given row of elements, where the body writes given blocks and the iterator only its own. Conditions: the iterator's contract.
-/
namespace Go.Proofs.Ythgmlopkcgkjlaa
open Go.RowKit Go.Shelf

theorem below_put {B l : Nat} (W : World) (o : Obj) (h : B ≤ l) : Below B W (W.putObj l o) :=
  ⟨rfl, rfl, rfl, by simp, fun _k hk => World.putObj_heap_other (by omega)⟩
theorem only_put (l : Nat) (W : World) (o : Obj) : Only [l] W (W.putObj l o) :=
  ⟨rfl, rfl, rfl, by simp, fun _k _ hk => World.putObj_heap_other (fun e => hk (by simp [e]))⟩
/-- How the body of a round may be left. -/
def RoundEnd {α : Type} (L : List Nat) (I : List α → World → Prop) (Ix : Code → List α → World → Prop) (s : List α) (W : World) : Exit → Act → World → Prop
  | .normal, _, W' => Only L W W' ∧ I s W'
  | .ret, _, W' => Only L W W' ∧ Ix .ret s W'
  | .exit id, _, W' => Only L W W' ∧ Ix (.exit id) s W'
  | .goto t, _, W' => Only L W W' ∧ Ix (.goto t) s W'
  | .panic _, _, _ => False
  | .outgrown, _, _ => False
/-- What a round does, as the iterator sees it. -/
def RoundDone {α : Type} (l : Nat) (L : List Nat) (J Jx : List α → World → Prop) (s : List α) (W : World) (e : Ending) (W' : World) : Prop :=
  (e = .returned (.bool true) ∧ J s W' ∧ Only (l :: L) W W') ∨ (e = .returned (.bool false) ∧ Jx s W' ∧ Only (l :: L) W W')
/-- The contract of an iterator of a row of elements: whatever is kept by changes from the heap's end at its call on. -/
def Visits {α : Type} (n : Nat) (P : Program) (gf : Nat) (lb : Array Value) (encs : α → Array Value) (xs : List α) (L : List Nat) (l : Nat) (W1 : World) : Prop :=
  ∀ J Jx : List α → World → Prop, (∀ s W W', J s W → W1.heap.size ≤ W.heap.size → Below W1.heap.size W W' → J s W') → (∀ s W W', Jx s W → W1.heap.size ≤ W.heap.size → Below W1.heap.size W W' → Jx s W') →
    (∀ pre x W, J pre W → W1.heap.size ≤ W.heap.size → (pre ++ [x]) <+: xs → YieldAt Fence.wide (n - 1) P l (encs x) W (RoundDone l L J Jx (pre ++ [x]) W)) → J [] W1 →
    CallsIn Fence.wide n P gf (#[.func (.yield l) #[] #[]] ++ lb) W1 fun e W' => (∃ v, e = .returned v) ∧ (J xs W' ∨ ∃ pre, pre <+: xs ∧ Jx pre W')
theorem range_walk {α : Type} {P : Program} {n : Nat} {g : Operand} {ps : Array Tmp} {assign body : Code} {Q : Exit → Act → World → Prop} {a : Act} {w : World} {gf : Nat} {lb : Array Value}
    (hg : a.eval g = .func (.func gf) #[] lb) (eg : ∀ args w, (callFunc gf args).run P w = .ok (.enter gf args) w) {encs : α → Array Value} (hps : ∀ x, (encs x).size = ps.size)
    (L : List Nat) (hL : ∀ k ∈ L, k < w.heap.size) (xs : List α) (I : List α → World → Prop) (Ix : Code → List α → World → Prop)
    (hI : ∀ s W W', I s W → w.heap.size ≤ W.heap.size → Below w.heap.size W W' → I s W') (hIx : ∀ c s W W', Ix c s W → w.heap.size ≤ W.heap.size → Below w.heap.size W W' → Ix c s W') (h0 : I [] w) (a₁ : α → Act)
    (hassign : ∀ (l : Nat) (x : α) (W : World) (K : Act → World → Prop), K (a₁ x) W → assign.wpIn (Fence.wide.inRound l) (n - 1 - 1) P (Exit.then K (fun _ _ _ => False)) { tmps := (ps.zip (encs x)).foldl (fun t (p, v) => t.setIfInBounds p v) a.tmps, defers := [] } W)
    (hbody : ∀ (l : Nat) (pre : List α) (x : α) (W : World), I pre W → w.heap.size ≤ W.heap.size → (pre ++ [x]) <+: xs → body.wpIn (Fence.wide.inRound l) (n - 1 - 1) P (RoundEnd L I Ix (pre ++ [x]) W) (a₁ x) W)
    (hiter : ∀ W1, Below w.heap.size w W1 → w.heap.size + 2 = W1.heap.size → Visits (n - 1) P gf lb encs xs L (w.heap.size + 1) W1)
    (hdone : ∀ W, I xs W → w.heap.size ≤ W.heap.size → W.heap[w.heap.size]? = some (.deferred (some [])) → Q .normal { a with defers := { target := .collected w.heap.size, args := #[] } :: a.defers } W)
    (hstop : ∀ (c : Code) (pre : List α) (W : World), pre <+: xs → Ix c pre W → w.heap.size ≤ W.heap.size → W.heap[w.heap.size]? = some (.deferred (some [])) → c.wpIn Fence.wide n P Q { a with defers := { target := .collected w.heap.size, args := #[] } :: a.defers } W) :
    (Code.rangeFunc g ps assign body).wpIn Fence.wide n P Q a w := by
  refine wpIn_rangeFunc ?_
  intro fn hfn
  obtain ⟨B, hB⟩ : ∃ B, w.heap.size = B := ⟨_, rfl⟩
  have hbelow : ∀ o o', Below B w ((w.alloc o).alloc o') := fun o o' => by
    rw [← hB]
    exact (((Below.refl _ w).alloc (Nat.le_refl _) o).alloc (by simp) o')
  obtain ⟨R, hR⟩ : ∃ R : LoopState → Option Code → Loop, R = fun st pe => { state := st, pending := pe, fn := fn, tmps := a.tmps, params := ps, assign := assign, body := body, defers := B } := ⟨_, rfl⟩
  have hen := run_enterLoop_outer (P := P) (w := w) fn a.tmps ps assign body
  rw [hB] at hen
  obtain ⟨W1, hW1⟩ : ∃ W1, (w.alloc (.deferred (some []))).alloc (.loop (R .ready none)) = W1 := ⟨_, rfl⟩
  have hen' : (Instr.enterLoop fn a.tmps ps assign body none).run P w = .ok (B + 1, [{ target := .collected B, args := #[] }]) W1 := by rw [hen, ← hW1, hR]
  have hW1s : B + 2 = W1.heap.size := by rw [← hW1]; simp; omega
  have hbW1 : Below B w W1 := by rw [← hW1]; exact hbelow _ _
  have hd1 : W1.heap[B]? = some (.deferred (some [])) := by
    rw [← hW1, Below.heap_alloc _ _ _ (by simp; omega), ← hB]
    exact World.alloc_heap_new w _
  have hl1 : W1.heap[B + 1]? = some (.loop (R .ready none)) := by
    have := World.alloc_heap_new (w.alloc (.deferred (some []))) (.loop (R .ready none))
    rw [World.size_alloc, hB, hW1] at this
    exact this
  have hBL : ∀ k ∈ L, k < B := fun k hk => by rw [← hB]; exact hL k hk
  rw [hB] at hI hIx hbody hiter hdone hstop
  refine ⟨B + 1, [{ target := .collected B, args := #[] }], W1, { target := .fn (.func gf) lb, args := #[.func (.yield (B + 1)) #[] #[]] }, W1, gf, #[.func (.yield (B + 1)) #[] #[]] ++ lb, W1, hen', ?_, fun _ _ => trivial, ?_, fun h => (by cases h), ?_⟩
  · simp only [resolve, hg]
    simp [go_sem]
  · simp [invoke, go_sem, eg]
  have hJ : ∀ (st : LoopState) (pe : Option Code) (T : List α → World → Prop), (∀ s W W', T s W → B ≤ W.heap.size → Below B W W' → T s W') → ∀ s W W', (T s W ∧ W.heap[B + 1]? = some (.loop (R st pe)) ∧ W.heap[B]? = some (.deferred (some []))) → W1.heap.size ≤ W.heap.size → Below W1.heap.size W W' → (T s W' ∧ W'.heap[B + 1]? = some (.loop (R st pe)) ∧ W'.heap[B]? = some (.deferred (some []))) := by
    intro st pe T hT s W W' h hs hb
    exact ⟨hT s W W' h.1 (by omega) (hb.mono (by omega)), (hb.block _ (by omega)).trans h.2.1, (hb.block _ (by omega)).trans h.2.2⟩
  have hmain := hiter W1 hbW1 hW1s
    (fun s W => I s W ∧ W.heap[B + 1]? = some (.loop (R .ready none)) ∧ W.heap[B]? = some (.deferred (some [])))
    (fun s W => ∃ c, Ix c s W ∧ W.heap[B + 1]? = some (.loop (R .done (some c))) ∧ W.heap[B]? = some (.deferred (some [])))
    (hJ .ready none I hI)
    (fun s W W' h hs hb => by
      obtain ⟨c, h⟩ := h
      exact ⟨c, hJ .done (some c) (Ix c) (hIx c) s W W' h hs hb⟩)
    ?_ ⟨hI [] w W1 h0 (by omega) hbW1, hl1, hd1⟩
  · refine hmain.mono ?_
    rintro e W2 ⟨⟨v, rfl⟩, hx⟩
    rcases hx with ⟨hi, hl, hk⟩ | ⟨pre, hpre, c, hi, hl, hk⟩
    · have hsz : B + 1 < W2.heap.size := (Array.getElem?_eq_some_iff.1 hl).1
      have hr := run_endLoop (P := P) hl (by rw [hR]; simp)
      have hpe : (R .ready none).pending = none := by rw [hR]
      rw [hpe] at hr
      obtain ⟨ob, hob⟩ : ∃ ob, (Instr.endLoop (B + 1)).run P W2 = .ok none (W2.putObj (B + 1) ob) := ⟨_, hr⟩
      refine ⟨none, W2.putObj (B + 1) ob, hob, ?_⟩
      exact hdone _ (hI _ W2 _ hi (by omega) (below_put (l := B + 1) W2 _ (by omega))) (by rw [World.putObj_size]; omega) (by rw [World.putObj_heap_other (by omega)]; exact hk)
    · have hsz : B + 1 < W2.heap.size := (Array.getElem?_eq_some_iff.1 hl).1
      have hr := run_endLoop (P := P) hl (by rw [hR]; simp)
      have hpe : (R .done (some c)).pending = some c := by rw [hR]
      rw [hpe] at hr
      obtain ⟨ob, hob⟩ : ∃ ob, (Instr.endLoop (B + 1)).run P W2 = .ok (some c) (W2.putObj (B + 1) ob) := ⟨_, hr⟩
      refine ⟨some c, W2.putObj (B + 1) ob, hob, ?_⟩
      exact hstop c pre _ hpre (hIx c _ W2 _ hi (by omega) (below_put (l := B + 1) W2 _ (by omega))) (by rw [World.putObj_size]; omega) (by rw [World.putObj_heap_other (by omega)]; exact hk)
  · rintro pre x W ⟨hi, hl, hk⟩ hWs hpx
    have hlt : B + 1 < W.heap.size := (Array.getElem?_eq_some_iff.1 hl).1
    have hy := run_yield (P := P) (args := encs x) hl (by rw [hR]; exact hps x)
    rw [hR] at hy
    have hbr := run_beginRound (P := P) hl (by rw [hR])
    obtain ⟨Wb, hWb⟩ : ∃ Wb, W.putObj (B + 1) (.loop { R .ready none with state := .busy }) = Wb := ⟨_, rfl⟩
    have hob : Only [B + 1] W Wb := by rw [← hWb]; exact only_put _ _ _
    have hbb : Below B W Wb := by rw [← hWb]; exact below_put _ _ (by omega)
    have hlb : Wb.heap[B + 1]? = some (.loop { R .ready none with state := .busy }) := by rw [← hWb]; exact World.putObj_heap_same hlt
    have hkb : Wb.heap[B]? = some (.deferred (some [])) := by rw [← hWb, World.putObj_heap_other (by omega)]; exact hk
    rw [hWb] at hbr
    have hsb := hbb.size
    refine ⟨fn, _, assign, body, hy, roundIn_of_wpIn hfn (hassign _ x W _ ⟨Wb, hbr, ?_⟩)⟩
    refine wpIn_mono (hbody _ pre x Wb (hI _ W Wb hi (by omega) hbb) (by omega) hpx) ?_
    have fin : ∀ (jump : Option Code) (W3 : World), Only L Wb W3 → ∃ W4, (Instr.endRound (B + 1) jump).run P W3 = .ok (.bool jump.isNone) W4 ∧ W4.heap[B + 1]? = some (.loop (R (if jump.isNone then .ready else .done) jump)) ∧ W4.heap[B]? = some (.deferred (some [])) ∧ Below B W3 W4 ∧ B ≤ W3.heap.size ∧ Only ((B + 1) :: L) W W4 := by
      intro jump W3 ho
      have hl3 := (ho.block (B + 1) (by omega) (fun hm => by have := hBL _ hm; omega)).trans hlb
      have hk3 := (ho.block B (by omega) (fun hm => by have := hBL _ hm; omega)).trans hkb
      have hs3 := ho.size
      have hlt3 := (Array.getElem?_eq_some_iff.1 hl3).1
      have hr := run_endRound (P := P) jump hl3
      refine ⟨_, hr, ?_, ?_, below_put _ _ (by omega), by omega, ?_⟩
      · rw [World.putObj_heap_same hlt3, hR]
      · rw [World.putObj_heap_other (by omega)]; exact hk3
      · exact ((hob.mono (by simp)).trans (ho.mono (by intro k hk; simp [hk]))).trans ((only_put _ _ _).mono (by simp))
    rintro e a3 W3 hp
    cases e with
    | normal =>
      obtain ⟨ho, hi3⟩ := hp
      obtain ⟨W4, hr, hl4, hk4, hb4, hs3, ho4⟩ := fin none W3 ho
      exact ⟨_, _, hr, .inl ⟨rfl, ⟨hI _ _ _ hi3 hs3 hb4, hl4, hk4⟩, ho4⟩⟩
    | ret =>
      obtain ⟨ho, hi3⟩ := hp
      obtain ⟨W4, hr, hl4, hk4, hb4, hs3, ho4⟩ := fin (some .ret) W3 ho
      exact ⟨_, _, hr, .inr ⟨rfl, ⟨.ret, hIx _ _ _ _ hi3 hs3 hb4, hl4, hk4⟩, ho4⟩⟩
    | exit id =>
      obtain ⟨ho, hi3⟩ := hp
      obtain ⟨W4, hr, hl4, hk4, hb4, hs3, ho4⟩ := fin (some (.exit id)) W3 ho
      exact ⟨_, _, hr, .inr ⟨rfl, ⟨.exit id, hIx _ _ _ _ hi3 hs3 hb4, hl4, hk4⟩, ho4⟩⟩
    | goto t =>
      obtain ⟨ho, hi3⟩ := hp
      obtain ⟨W4, hr, hl4, hk4, hb4, hs3, ho4⟩ := fin (some (.goto t)) W3 ho
      exact ⟨_, _, hr, .inr ⟨rfl, ⟨.goto t, hIx _ _ _ _ hi3 hs3 hb4, hl4, hk4⟩, ho4⟩⟩
    | panic ch => exact hp.elim
    | outgrown => exact hp.elim
end Go.Proofs.Ythgmlopkcgkjlaa
