/-
  Contracts of the functions that the statement calls, part 12 of 25 (merged texts: Ia). Conditions: as the head of each part says.
-/
import Derived.Test.YtkkgfdfjgfigcaaDoorGC
import Derived.RangeFuncWrites
import Derived.RangeFuncLeaves

/-
  A range over an iterator that visits a given row of elements, where the body writes given blocks and the iterator only its own. Conditions: the iterator's contract.
-/
namespace Go.Proofs.YtkkgfdfjgfigcaaDoor
set_option linter.unusedVariables false
set_option linter.unusedSimpArgs false
open Go.RowKit

theorem below_put {B l : Nat} (W : World) (o : Obj) (h : B ≤ l) : Below B W (W.putObj l o) :=
  ⟨rfl, rfl, rfl, by simp, fun _k hk => World.putObj_heap_other (by omega)⟩
theorem only_put (l : Nat) (W : World) (o : Obj) : Only [l] W (W.putObj l o) :=
  ⟨rfl, rfl, rfl, by simp, fun _k _ hk => World.putObj_heap_other (fun e => hk (by simp [e]))⟩
/-- Only the blocks of a set have turned, and there are new ones. -/
structure OnlyD (D : Nat → Prop) (w w' : World) : Prop where
  os : w'.os = w.os
  tape : w'.tape = w.tape
  output : w'.output = w.output
  size : w.heap.size ≤ w'.heap.size
  block : ∀ k, k < w.heap.size → ¬ D k → w'.heap[k]? = w.heap[k]?
theorem OnlyD.refl (D : Nat → Prop) (w : World) : OnlyD D w w := ⟨rfl, rfl, rfl, Nat.le_refl _, fun _ _ _ => rfl⟩
theorem OnlyD.trans {D : Nat → Prop} {a b c : World} (h : OnlyD D a b) (k : OnlyD D b c) : OnlyD D a c :=
  ⟨k.os.trans h.os, k.tape.trans h.tape, k.output.trans h.output, Nat.le_trans h.size k.size, fun i hi hn => (k.block i (Nat.lt_of_lt_of_le hi h.size) hn).trans (h.block i hi hn)⟩
/-- The second set may hold what is new. -/
theorem OnlyD.join {D E : Nat → Prop} {a b c : World} (h : OnlyD D a b) (k : OnlyD E b c) (hs : ∀ g, E g → D g ∨ a.heap.size ≤ g) : OnlyD D a c :=
  ⟨k.os.trans h.os, k.tape.trans h.tape, k.output.trans h.output, Nat.le_trans h.size k.size, fun i hi hn => (k.block i (Nat.lt_of_lt_of_le hi h.size) (fun he => by rcases hs i he with h1 | h1; exact hn h1; omega)).trans (h.block i hi hn)⟩
theorem OnlyD.mono {D D' : Nat → Prop} {a b : World} (h : OnlyD D a b) (hs : ∀ g, D g → D' g) : OnlyD D' a b := ⟨h.os, h.tape, h.output, h.size, fun i hi hn => h.block i hi (fun hm => hn (hs i hm))⟩
theorem OnlyD.of_only {L : List Nat} {a b : World} (h : Only L a b) : OnlyD (fun g => g ∈ L) a b := ⟨h.os, h.tape, h.output, h.size, fun i hi hn => h.block i hi hn⟩
theorem OnlyD.of_below {D : Nat → Prop} {a b : World} (h : Below a.heap.size a b) : OnlyD D a b := ⟨h.os, h.tape, h.output, h.size, fun i hi _ => h.block i hi⟩
theorem OnlyD.of_upd {D : Nat → Prop} {a b : World} {g : Nat} (h : Upd g a b) (hg : D g) : OnlyD D a b := ⟨h.os, h.tape, h.output, Nat.le_of_eq h.size.symm, fun i _ hn => h.block i (fun e => hn (e ▸ hg))⟩
theorem OnlyD.of_new {D : Nat → Prop} {a b c : World} {g : Nat} (h : OnlyD D a b) (hu : Upd g b c) (hg : a.heap.size ≤ g) : OnlyD D a c :=
  ⟨hu.os.trans h.os, hu.tape.trans h.tape, hu.output.trans h.output, Nat.le_trans h.size (Nat.le_of_eq hu.size.symm), fun i hi hn => (hu.block i (by omega)).trans (h.block i hi hn)⟩
theorem OnlyD.below {D : Nat → Prop} {B : Nat} {a b : World} (h : OnlyD D a b) (hD : ∀ g, D g → B ≤ g) (hB : B ≤ a.heap.size) : Below B a b :=
  ⟨h.os, h.tape, h.output, h.size, fun i hi => h.block i (Nat.lt_of_lt_of_le hi hB) (fun hm => Nat.lt_irrefl _ (Nat.lt_of_lt_of_le hi (hD i hm)))⟩
theorem Blk.onlyD {D : Nat → Prop} {w w' : World} {g : Nat} {t : TypeId} {l : List Value} (h : Blk w g t l) (ho : OnlyD D w w') (hg : ¬ D g) : Blk w' g t l := by unfold Blk; rw [ho.block g h.lt hg]; exact h
/-- Changes from B on that leave alone what belongs to the body of a range. -/
structure Keeps (D : World → Nat → Prop) (B : Nat) (W W' : World) : Prop where
  below : Below B W W'
  kept : ∀ g, D W g → W'.heap[g]? = W.heap[g]?
/-- What belongs to the body lies there. -/
def Real (D : World → Nat → Prop) (W : World) : Prop := ∀ g, D W g → g < W.heap.size
theorem Keeps.refl (D : World → Nat → Prop) (B : Nat) (W : World) : Keeps D B W W := ⟨Below.refl _ _, fun _ _ => rfl⟩
theorem Keeps.mono {D : World → Nat → Prop} {B B' : Nat} {W W' : World} (h : Keeps D B W W') (hB : B' ≤ B) : Keeps D B' W W' := ⟨h.below.mono hB, h.kept⟩
theorem Keeps.step {D : World → Nat → Prop} {B : Nat} {W x y : World} (h : Keeps D B W x) (hr : Real D W) (hB : B ≤ W.heap.size) (hb : Below x.heap.size x y) : Keeps D B W y :=
  ⟨h.below.trans (hb.mono (Nat.le_trans hB h.below.size)), fun g hg => (hb.block g (Nat.lt_of_lt_of_le (hr g hg) h.below.size)).trans (h.kept g hg)⟩
theorem Keeps.upd {D : World → Nat → Prop} {B g : Nat} {W x y : World} (h : Keeps D B W x) (hu : Upd g x y) (hg : B ≤ g) (hn : ¬ D W g) : Keeps D B W y :=
  ⟨h.below.trans (hu.below (B := B) hg), fun k hk => (hu.block k (fun e => hn (e ▸ hk))).trans (h.kept k hk)⟩
theorem Keeps.put {D : World → Nat → Prop} {B g : Nat} {W : World} (o : Obj) (hg : B ≤ g) (hn : ¬ D W g) : Keeps D B W (W.putObj g o) :=
  ⟨below_put _ _ hg, fun _ hk => World.putObj_heap_other (fun e => hn (e ▸ hk))⟩
/-- What belongs to the body of a range turns, and what is new may belong to it then. -/
structure Turns (D : World → Nat → Prop) (W W' : World) : Prop where
  only : OnlyD (D W) W W'
  grow : ∀ g, D W' g → D W g ∨ W.heap.size ≤ g
  real : Real D W'
/-- Such changes leave to the body what belongs to it. -/
def StaysD (D : World → Nat → Prop) (B : Nat) : Prop := ∀ W W', B ≤ W.heap.size → Keeps D B W W' → ∀ g, D W' g ↔ D W g
theorem StaysD.mono {D : World → Nat → Prop} {B B' : Nat} (h : StaysD D B) (hB : B ≤ B') : StaysD D B' := fun W W' hs hb => h W W' (Nat.le_trans hB hs) (hb.mono hB)
/-- How the body of a round may be left. -/
def RoundEnd {α : Type} (D : World → Nat → Prop) (I : List α → World → Prop) (Ix : Code → List α → World → Prop) (s : List α) (W : World) : Exit → Act → World → Prop
  | .normal, _, W' => Turns D W W' ∧ I s W'
  | .ret, _, W' => Turns D W W' ∧ Ix .ret s W'
  | .exit id, _, W' => Turns D W W' ∧ Ix (.exit id) s W'
  | .goto t, _, W' => Turns D W W' ∧ Ix (.goto t) s W'
  | .panic _, _, _ => False
  | .outgrown, _, _ => False
/-- What a round does, as the iterator sees it. -/
def RoundDone {α : Type} (l : Nat) (D : World → Nat → Prop) (J Jx : List α → World → Prop) (s : List α) (W : World) (e : Ending) (W' : World) : Prop :=
  (e = .returned (.bool true) ∧ J s W' ∧ OnlyD (fun g => g = l ∨ D W g) W W' ∧ (∀ g, D W' g → D W g ∨ W.heap.size ≤ g) ∧ Real D W') ∨ (e = .returned (.bool false) ∧ Jx s W' ∧ OnlyD (fun g => g = l ∨ D W g) W W' ∧ (∀ g, D W' g → D W g ∨ W.heap.size ≤ g) ∧ Real D W')
/-- The contract of an iterator of a row of elements: whatever is kept by changes from the heap's end at its call on. -/
def Visits {α : Type} (n : Nat) (P : Program) (gf : Nat) (lb : Array Value) (encs : α → Array Value) (xs : List α) (D : World → Nat → Prop) (l : Nat) (W1 : World) : Prop :=
  ∀ J Jx : List α → World → Prop, (∀ s W W', J s W → W1.heap.size ≤ W.heap.size → Keeps D W1.heap.size W W' → J s W') → (∀ s W W', Jx s W → W1.heap.size ≤ W.heap.size → Keeps D W1.heap.size W W' → Jx s W') →
    (∀ pre x W, J pre W → W1.heap.size ≤ W.heap.size → Real D W → (pre ++ [x]) <+: xs → YieldAt Fence.wide (n - 1) P l (encs x) W (RoundDone l D J Jx (pre ++ [x]) W)) → J [] W1 →
    CallsIn Fence.wide n P gf (#[.func (.yield l) #[] #[]] ++ lb) W1 fun e W' => (∃ v, e = .returned v) ∧ (J xs W' ∨ ∃ pre, pre <+: xs ∧ Jx pre W')
/-- A walk over an iterator may take it that what belongs to the body lies there. -/
theorem visits_real {α : Type} {n : Nat} {P : Program} {gf : Nat} {lb : Array Value} {encs : α → Array Value} {xs : List α} {D : World → Nat → Prop} {l : Nat} {W1 : World} (hR : Real D W1) (hS : StaysD D W1.heap.size)
    (h : ∀ J Jx : List α → World → Prop, (∀ s W W', J s W → W1.heap.size ≤ W.heap.size → Keeps D W1.heap.size W W' → J s W') → (∀ s W W', Jx s W → W1.heap.size ≤ W.heap.size → Keeps D W1.heap.size W W' → Jx s W') →
      (∀ pre x W, J pre W → W1.heap.size ≤ W.heap.size → (pre ++ [x]) <+: xs → YieldAt Fence.wide (n - 1) P l (encs x) W (RoundDone l D J Jx (pre ++ [x]) W)) → (∀ s W, J s W → Real D W) → J [] W1 →
      CallsIn Fence.wide n P gf (#[.func (.yield l) #[] #[]] ++ lb) W1 fun e W' => (∃ v, e = .returned v) ∧ (J xs W' ∨ ∃ pre, pre <+: xs ∧ Jx pre W')) : Visits n P gf lb encs xs D l W1 := by
  intro J Jx hJ hJx hY h0
  refine (h (fun s W => J s W ∧ Real D W) Jx (fun s W W' hj hs hk => ⟨hJ s W W' hj.1 hs hk, fun g hg => Nat.lt_of_lt_of_le (hj.2 g ((hS W W' hs hk g).1 hg)) hk.below.size⟩) hJx ?_ (fun _ _ hj => hj.2) ⟨h0, hR⟩).mono ?_
  · intro pre x W hj hs hp
    obtain ⟨fn, tm, asg, bdy, hyd, hRd⟩ := hY pre x W hj.1 hs hj.2 hp
    refine ⟨fn, tm, asg, bdy, hyd, hRd.mono ?_⟩
    rintro e W' (⟨h1, h2, h3, h4, h5⟩ | ⟨h1, h2, h3, h4, h5⟩)
    · exact .inl ⟨h1, ⟨h2, h5⟩, h3, h4, h5⟩
    · exact .inr ⟨h1, h2, h3, h4, h5⟩
  · rintro e W' ⟨hv, hx⟩
    exact ⟨hv, hx.imp (fun h => h.1) id⟩
theorem range_walkA {α : Type} {P : Program} {n : Nat} {g : Operand} {ps : Array Tmp} {assign body : Code} {Q : Exit → Act → World → Prop} {a : Act} {w : World} {gf : Nat} {lb : Array Value}
    (hg : a.eval g = .func (.func gf) #[] lb) (eg : ∀ args w, (callFunc gf args).run P w = .ok (.enter gf args) w) {encs : α → Array Value} (hps : ∀ x, (encs x).size = ps.size)
    (D : World → Nat → Prop) (hD : ∀ g, D w g → g < w.heap.size) (hDs : StaysD D w.heap.size) (xs : List α) (I : List α → World → Prop) (Ix : Code → List α → World → Prop)
    (hI : ∀ s W W', I s W → w.heap.size ≤ W.heap.size → Keeps D w.heap.size W W' → I s W') (hIx : ∀ c s W W', Ix c s W → w.heap.size ≤ W.heap.size → Keeps D w.heap.size W W' → Ix c s W') (h0 : I [] w) (Asg : α → Act → World → Prop) (hAs : ∀ x a W W', Asg x a W → Only [w.heap.size + 1] W W' → Asg x a W')
    (hassign : ∀ (l : Nat) (x : α) (W : World) (K : Act → World → Prop), w.heap.size + 2 ≤ W.heap.size → (∀ a' W', Asg x a' W' → Below W.heap.size W W' → K a' W') → assign.wpIn (Fence.wide.inRound l) (n - 1 - 1) P (Exit.then K (fun _ _ _ => False)) { tmps := (ps.zip (encs x)).foldl (fun t (p, v) => t.setIfInBounds p v) a.tmps, defers := [] } W)
    (hbody : ∀ (l : Nat) (pre : List α) (x : α) (a' : Act) (W : World), Asg x a' W → I pre W → w.heap.size ≤ W.heap.size → Real D W → (pre ++ [x]) <+: xs → body.wpIn (Fence.wide.inRound l) (n - 1 - 1) P (RoundEnd D I Ix (pre ++ [x]) W) a' W)
    (hiter : ∀ W1, Below w.heap.size w W1 → w.heap.size + 2 = W1.heap.size → Visits (n - 1) P gf lb encs xs D (w.heap.size + 1) W1)
    (hdone : ∀ W, I xs W → w.heap.size ≤ W.heap.size → W.heap[w.heap.size]? = some (.deferred (some [])) → ¬ D W w.heap.size → Q .normal { a with defers := { target := .collected w.heap.size, args := #[] } :: a.defers } W)
    (hstop : ∀ (c : Code) (pre : List α) (W : World), pre <+: xs → Ix c pre W → w.heap.size ≤ W.heap.size → W.heap[w.heap.size]? = some (.deferred (some [])) → ¬ D W w.heap.size → c.wpIn Fence.wide n P Q { a with defers := { target := .collected w.heap.size, args := #[] } :: a.defers } W) :
    (Code.rangeFunc g ps assign body).wpIn Fence.wide n P Q a w := by
  refine wpIn_rangeFunc ?_
  intro fn hfn
  obtain ⟨B, hB⟩ : ∃ B, w.heap.size = B := ⟨_, rfl⟩
  have hbelow : ∀ o o', Below B w ((w.alloc o).alloc o') := fun o o' => by
    rw [← hB]
    exact (((Below.refl _ w).alloc (Nat.le_refl _) o).alloc (by simp) o')
  obtain ⟨R, hR⟩ : ∃ R : LoopState → Option Code → Loop, R = fun st pe => { state := st, pending := pe, fn := fn, tmps := a.tmps, params := ps, assign := assign, body := body, defers := B } := ⟨_, rfl⟩
  have hen := run_enterLoop_outer (P := P) (w := w) fn a.tmps ps assign body
  rw [hB] at hen
  obtain ⟨W1, hW1⟩ : ∃ W1, (w.alloc (.deferred (some []))).alloc (.loop (R .ready none)) = W1 := ⟨_, rfl⟩
  have hen' : (Instr.enterLoop fn a.tmps ps assign body none).run P w = .ok (B + 1, [{ target := .collected B, args := #[] }]) W1 := by rw [hen, ← hW1, hR]
  have hW1s : B + 2 = W1.heap.size := by rw [← hW1]; simp; omega
  have hbW1 : Below B w W1 := by rw [← hW1]; exact hbelow _ _
  have hd1 : W1.heap[B]? = some (.deferred (some [])) := by
    rw [← hW1, Below.heap_alloc _ _ _ (by simp; omega), ← hB]
    exact World.alloc_heap_new w _
  have hl1 : W1.heap[B + 1]? = some (.loop (R .ready none)) := by
    have := World.alloc_heap_new (w.alloc (.deferred (some []))) (.loop (R .ready none))
    rw [World.size_alloc, hB, hW1] at this
    exact this
  have hDw : ∀ g, D w g → g < B := fun k hk => by rw [← hB]; exact hD k hk
  rw [hB] at hI hIx hbody hiter hdone hstop hDs hassign hAs
  have hkW1 : Keeps D B w W1 := ⟨hbW1, fun g hg => hbW1.block g (hDw g hg)⟩
  have hD1 : ∀ g, D W1 g → g < B := fun g hg => hDw g ((hDs w W1 (by omega) hkW1 g).1 hg)
  refine ⟨B + 1, [{ target := .collected B, args := #[] }], W1, { target := .fn (.func gf) lb, args := #[.func (.yield (B + 1)) #[] #[]] }, W1, gf, #[.func (.yield (B + 1)) #[] #[]] ++ lb, W1, hen', ?_, fun _ _ => trivial, ?_, fun h => (by cases h), ?_⟩
  · simp only [resolve, hg]
    simp [go_sem]
  · simp [invoke, go_sem, eg]
  have hJ : ∀ (st : LoopState) (pe : Option Code) (T : List α → World → Prop), (∀ s W W', T s W → B ≤ W.heap.size → Keeps D B W W' → T s W') → ∀ s W W', (T s W ∧ W.heap[B + 1]? = some (.loop (R st pe)) ∧ W.heap[B]? = some (.deferred (some [])) ∧ ∀ g, B ≤ g → g ≤ B + 1 → ¬ D W g) → W1.heap.size ≤ W.heap.size → Keeps D W1.heap.size W W' → (T s W' ∧ W'.heap[B + 1]? = some (.loop (R st pe)) ∧ W'.heap[B]? = some (.deferred (some [])) ∧ ∀ g, B ≤ g → g ≤ B + 1 → ¬ D W' g) := by
    intro st pe T hT s W W' h hs hb
    exact ⟨hT s W W' h.1 (by omega) (hb.mono (by omega)), (hb.below.block _ (by omega)).trans h.2.1, (hb.below.block _ (by omega)).trans h.2.2.1, fun g h1 h2 hg => h.2.2.2 g h1 h2 ((hDs W W' (by omega) (hb.mono (by omega)) g).1 hg)⟩
  have hmain := hiter W1 hbW1 hW1s
    (fun s W => I s W ∧ W.heap[B + 1]? = some (.loop (R .ready none)) ∧ W.heap[B]? = some (.deferred (some [])) ∧ ∀ g, B ≤ g → g ≤ B + 1 → ¬ D W g)
    (fun s W => ∃ c, Ix c s W ∧ W.heap[B + 1]? = some (.loop (R .done (some c))) ∧ W.heap[B]? = some (.deferred (some [])) ∧ ∀ g, B ≤ g → g ≤ B + 1 → ¬ D W g)
    (hJ .ready none I hI)
    (fun s W W' h hs hb => by
      obtain ⟨c, h⟩ := h
      exact ⟨c, hJ .done (some c) (Ix c) (hIx c) s W W' h hs hb⟩)
    ?_ ⟨hI [] w W1 h0 (by omega) hkW1, hl1, hd1, fun g h1 _ hg => by have := hD1 g hg; omega⟩
  · refine hmain.mono ?_
    rintro e W2 ⟨⟨v, rfl⟩, hx⟩
    rcases hx with ⟨hi, hl, hk, hnD⟩ | ⟨pre, hpre, c, hi, hl, hk, hnD⟩
    · have hsz : B + 1 < W2.heap.size := (Array.getElem?_eq_some_iff.1 hl).1
      have hr := run_endLoop (P := P) hl (by rw [hR]; simp)
      have hpe : (R .ready none).pending = none := by rw [hR]
      rw [hpe] at hr
      obtain ⟨ob, hob⟩ : ∃ ob, (Instr.endLoop (B + 1)).run P W2 = .ok none (W2.putObj (B + 1) ob) := ⟨_, hr⟩
      refine ⟨none, W2.putObj (B + 1) ob, hob, ?_⟩
      have hkp : Keeps D B W2 (W2.putObj (B + 1) ob) := Keeps.put (g := B + 1) _ (by omega) (hnD _ (by omega) (Nat.le_refl _))
      exact hdone _ (hI _ W2 _ hi (by omega) hkp) (by rw [World.putObj_size]; omega) (by rw [World.putObj_heap_other (by omega)]; exact hk) (fun h => hnD _ (Nat.le_refl _) (by omega) ((hDs W2 _ (by omega) hkp _).1 h))
    · have hsz : B + 1 < W2.heap.size := (Array.getElem?_eq_some_iff.1 hl).1
      have hr := run_endLoop (P := P) hl (by rw [hR]; simp)
      have hpe : (R .done (some c)).pending = some c := by rw [hR]
      rw [hpe] at hr
      obtain ⟨ob, hob⟩ : ∃ ob, (Instr.endLoop (B + 1)).run P W2 = .ok (some c) (W2.putObj (B + 1) ob) := ⟨_, hr⟩
      refine ⟨some c, W2.putObj (B + 1) ob, hob, ?_⟩
      have hkp : Keeps D B W2 (W2.putObj (B + 1) ob) := Keeps.put (g := B + 1) _ (by omega) (hnD _ (by omega) (Nat.le_refl _))
      exact hstop c pre _ hpre (hIx c _ W2 _ hi (by omega) hkp) (by rw [World.putObj_size]; omega) (by rw [World.putObj_heap_other (by omega)]; exact hk) (fun h => hnD _ (Nat.le_refl _) (by omega) ((hDs W2 _ (by omega) hkp _).1 h))
  · rintro pre x W ⟨hi, hl, hk, hnD⟩ hWs hRe hpx
    have hlt : B + 1 < W.heap.size := (Array.getElem?_eq_some_iff.1 hl).1
    have hy := run_yield (P := P) (args := encs x) hl (by rw [hR]; exact hps x)
    rw [hR] at hy
    refine ⟨fn, _, assign, body, hy, roundIn_of_wpIn hfn (hassign _ x W _ (by omega) fun a' Wa hA hba => ?_)⟩
    have hltW : B < W.heap.size := (Array.getElem?_eq_some_iff.1 hk).1
    have hla := (hba.block (B + 1) hlt).trans hl
    have hka := (hba.block B hltW).trans hk
    have hlta : B + 1 < Wa.heap.size := Nat.lt_of_lt_of_le hlt hba.size
    have hbr := run_beginRound (P := P) hla (by rw [hR])
    obtain ⟨Wb, hWb⟩ : ∃ Wb, Wa.putObj (B + 1) (.loop { R .ready none with state := .busy }) = Wb := ⟨_, rfl⟩
    have hput : Only [B + 1] Wa Wb := by rw [← hWb]; exact only_put _ _ _
    have hob : OnlyD (fun g => g = B + 1 ∨ D W g) W Wb := (OnlyD.of_below hba).trans ((OnlyD.of_only hput).mono (fun g hg => .inl (by simpa using hg)))
    have hbb : Below B W Wb := (hba.mono (by omega)).trans (by rw [← hWb]; exact below_put _ _ (by omega))
    have hkb' : Keeps D B W Wb := ⟨hbb, fun g hg => by
      have h1 : g ≠ B + 1 := fun e => hnD _ (by omega) (Nat.le_refl _) (e ▸ hg)
      have h2 := hRe g hg
      exact (hput.block g (Nat.lt_of_lt_of_le h2 hba.size) (by simpa using h1)).trans (hba.block g h2)⟩
    have hDb := hDs W Wb (by omega) hkb'
    have hlb : Wb.heap[B + 1]? = some (.loop { R .ready none with state := .busy }) := by rw [← hWb]; exact World.putObj_heap_same hlta
    have hkb : Wb.heap[B]? = some (.deferred (some [])) := by rw [← hWb, World.putObj_heap_other (by omega)]; exact hka
    rw [hWb] at hbr
    have hsb := hbb.size
    refine ⟨Wb, hbr, ?_⟩
    refine wpIn_mono (hbody _ pre x a' Wb (hAs _ _ _ _ hA hput) (hI _ W Wb hi (by omega) hkb') (by omega) (fun g hg => Nat.lt_of_lt_of_le (hRe g ((hDb g).1 hg)) hbb.size) hpx) ?_
    have hnDb : ∀ g, B ≤ g → g ≤ B + 1 → ¬ D Wb g := fun g h1 h2 hg => hnD g h1 h2 ((hDb g).1 hg)
    have fin : ∀ (jump : Option Code) (W3 : World), Turns D Wb W3 → ∃ W4, (Instr.endRound (B + 1) jump).run P W3 = .ok (.bool jump.isNone) W4 ∧ W4.heap[B + 1]? = some (.loop (R (if jump.isNone then .ready else .done) jump)) ∧ W4.heap[B]? = some (.deferred (some [])) ∧ Keeps D B W3 W4 ∧ B ≤ W3.heap.size ∧ OnlyD (fun g => g = B + 1 ∨ D W g) W W4 ∧ (∀ g, D W4 g → D W g ∨ W.heap.size ≤ g) ∧ Real D W4 ∧ ∀ g, B ≤ g → g ≤ B + 1 → ¬ D W4 g := by
      intro jump W3 ht
      have ho := ht.only
      have hl3 := (ho.block (B + 1) (by omega) (hnDb _ (by omega) (Nat.le_refl _))).trans hlb
      have hk3 := (ho.block B (by omega) (hnDb _ (Nat.le_refl _) (by omega))).trans hkb
      have hs3 := ho.size
      have hlt3 := (Array.getElem?_eq_some_iff.1 hl3).1
      have hr := run_endRound (P := P) jump hl3
      have hn3 : ¬ D W3 (B + 1) := fun h => by
        rcases ht.grow _ h with h | h
        · exact hnDb _ (by omega) (Nat.le_refl _) h
        · omega
      have hb4 : Keeps D B W3 (W3.putObj (B + 1) (.loop { R .ready none with state := if jump.isNone then .ready else .done, pending := jump })) := Keeps.put _ (by omega) hn3
      have hD4 := hDs _ _ (by omega) hb4
      have hgrow : ∀ g, D (W3.putObj (B + 1) (.loop { R .ready none with state := if jump.isNone then .ready else .done, pending := jump })) g → D W g ∨ W.heap.size ≤ g := fun g hg => by
        rcases ht.grow g ((hD4 g).1 hg) with h | h
        · exact .inl ((hDb g).1 h)
        · have := hob.size; exact .inr (by omega)
      refine ⟨_, hr, ?_, ?_, hb4, by omega, ?_, ?_, ?_, ?_⟩
      · rw [World.putObj_heap_same hlt3, hR]
      · rw [World.putObj_heap_other (by omega)]; exact hk3
      · exact (hob.trans (ho.mono (fun g hg => .inr ((hDb g).1 hg)))).trans ((OnlyD.of_only (only_put _ _ _)).mono (fun g hg => .inl (by simpa using hg)))
      · exact hgrow
      · exact fun g hg => by rw [World.putObj_size]; exact ht.real g ((hD4 g).1 hg)
      · intro g h1 h2 hg
        rcases hgrow g hg with h | h
        · exact hnD g h1 h2 h
        · omega
    rintro e a3 W3 hp
    cases e with
    | normal =>
      obtain ⟨ho, hi3⟩ := hp
      obtain ⟨W4, hr, hl4, hk4, hb4, hs3, ho4, hg4, hr4, hn4⟩ := fin none W3 ho
      exact ⟨_, _, hr, .inl ⟨rfl, ⟨hI _ _ _ hi3 hs3 hb4, hl4, hk4, hn4⟩, ho4, hg4, hr4⟩⟩
    | ret =>
      obtain ⟨ho, hi3⟩ := hp
      obtain ⟨W4, hr, hl4, hk4, hb4, hs3, ho4, hg4, hr4, hn4⟩ := fin (some .ret) W3 ho
      exact ⟨_, _, hr, .inr ⟨rfl, ⟨.ret, hIx _ _ _ _ hi3 hs3 hb4, hl4, hk4, hn4⟩, ho4, hg4, hr4⟩⟩
    | exit id =>
      obtain ⟨ho, hi3⟩ := hp
      obtain ⟨W4, hr, hl4, hk4, hb4, hs3, ho4, hg4, hr4, hn4⟩ := fin (some (.exit id)) W3 ho
      exact ⟨_, _, hr, .inr ⟨rfl, ⟨.exit id, hIx _ _ _ _ hi3 hs3 hb4, hl4, hk4, hn4⟩, ho4, hg4, hr4⟩⟩
    | goto t =>
      obtain ⟨ho, hi3⟩ := hp
      obtain ⟨W4, hr, hl4, hk4, hb4, hs3, ho4, hg4, hr4, hn4⟩ := fin (some (.goto t)) W3 ho
      exact ⟨_, _, hr, .inr ⟨rfl, ⟨.goto t, hIx _ _ _ _ hi3 hs3 hb4, hl4, hk4, hn4⟩, ho4, hg4, hr4⟩⟩
    | panic ch => exact hp.elim
    | outgrown => exact hp.elim
/-- The same, where what the loop assigns hangs on the element alone. -/
theorem range_walk {α : Type} {P : Program} {n : Nat} {g : Operand} {ps : Array Tmp} {assign body : Code} {Q : Exit → Act → World → Prop} {a : Act} {w : World} {gf : Nat} {lb : Array Value}
    (hg : a.eval g = .func (.func gf) #[] lb) (eg : ∀ args w, (callFunc gf args).run P w = .ok (.enter gf args) w) {encs : α → Array Value} (hps : ∀ x, (encs x).size = ps.size)
    (D : World → Nat → Prop) (hD : ∀ g, D w g → g < w.heap.size) (hDs : StaysD D w.heap.size) (xs : List α) (I : List α → World → Prop) (Ix : Code → List α → World → Prop)
    (hI : ∀ s W W', I s W → w.heap.size ≤ W.heap.size → Keeps D w.heap.size W W' → I s W') (hIx : ∀ c s W W', Ix c s W → w.heap.size ≤ W.heap.size → Keeps D w.heap.size W W' → Ix c s W') (h0 : I [] w) (a₁ : α → Act)
    (hassign : ∀ (l : Nat) (x : α) (W : World) (K : Act → World → Prop), K (a₁ x) W → assign.wpIn (Fence.wide.inRound l) (n - 1 - 1) P (Exit.then K (fun _ _ _ => False)) { tmps := (ps.zip (encs x)).foldl (fun t (p, v) => t.setIfInBounds p v) a.tmps, defers := [] } W)
    (hbody : ∀ (l : Nat) (pre : List α) (x : α) (W : World), I pre W → w.heap.size ≤ W.heap.size → Real D W → (pre ++ [x]) <+: xs → body.wpIn (Fence.wide.inRound l) (n - 1 - 1) P (RoundEnd D I Ix (pre ++ [x]) W) (a₁ x) W)
    (hiter : ∀ W1, Below w.heap.size w W1 → w.heap.size + 2 = W1.heap.size → Visits (n - 1) P gf lb encs xs D (w.heap.size + 1) W1)
    (hdone : ∀ W, I xs W → w.heap.size ≤ W.heap.size → W.heap[w.heap.size]? = some (.deferred (some [])) → ¬ D W w.heap.size → Q .normal { a with defers := { target := .collected w.heap.size, args := #[] } :: a.defers } W)
    (hstop : ∀ (c : Code) (pre : List α) (W : World), pre <+: xs → Ix c pre W → w.heap.size ≤ W.heap.size → W.heap[w.heap.size]? = some (.deferred (some [])) → ¬ D W w.heap.size → c.wpIn Fence.wide n P Q { a with defers := { target := .collected w.heap.size, args := #[] } :: a.defers } W) :
    (Code.rangeFunc g ps assign body).wpIn Fence.wide n P Q a w :=
  range_walkA hg eg hps D hD hDs xs I Ix hI hIx h0 (fun x a' _ => a' = a₁ x) (fun _ _ _ _ h _ => h) (fun l x W K _ hK => hassign l x W K (hK _ _ rfl (Below.refl _ _)))
    (fun l pre x _ W he hi hs hr hp => he ▸ hbody l pre x W hi hs hr hp) hiter hdone hstop
end Go.Proofs.YtkkgfdfjgfigcaaDoor
