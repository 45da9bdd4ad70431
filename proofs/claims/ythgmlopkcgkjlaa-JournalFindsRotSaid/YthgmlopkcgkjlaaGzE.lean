/-
  Contracts of the functions that the statement calls, part 31 of 37 (merged texts: Jkh). Conditions: as the head of each part says.
-/
import Derived.Test.YthgmlopkcgkjlaaGzC
import Derived.Test.YthgmlopkcgkjlaaGzD

/-
  Small laws for the walk over the journal's fill. Conditions: none.
-/
namespace Go.Proofs.Ythgmlopkcgkjlaa
open Go.RowKit Go.Shelf

theorem Blk.same {w w' : World} {g : Nat} {t : TypeId} {l : List Value} (h : Blk w g t l) (e : w'.heap[g]? = w.heap[g]?) : Blk w' g t l := by unfold Blk; rw [e]; exact h
theorem RowAt.same {w w' : World} {A : Option Addr} {xs : List Value} (h : RowAt w A xs) (e : ∀ g, A = some ⟨g, 0, none⟩ → w'.heap[g]? = w.heap[g]?) : RowAt w' A xs := fun k u hu => by
  obtain ⟨g, eA, hc⟩ := h k u hu
  exact ⟨g, eA, (World.cell?_of_block (a := ⟨g, k, none⟩) (e g eA)).trans hc⟩
theorem PRep.same {w w' : World} {gd gp gm cp : Nat} {Y : List Value} {M : DM} {k : Nat} (h : PRep w gd gp gm cp Y M k) (e1 : w'.heap[gd]? = w.heap[gd]?) (e2 : w'.heap[gp]? = w.heap[gp]?) (e3 : w'.heap[gm]? = w.heap[gm]?) : PRep w' gd gp gm cp Y M k := by
  refine ⟨h.d.same e1, h.p.same e2, ?_, h.n1, h.n2, h.n3⟩
  obtain ⟨D, ⟨es, clock, hb, F, hs, hD⟩, h2⟩ := h.m
  exact ⟨D, ⟨es, clock, e3.trans hb, F, hs, hD⟩, h2⟩
theorem Only.drop {L L' : List Nat} {a b c : World} (h : Only L a b) (k : Only L' b c) (hL : ∀ g ∈ L', g ∈ L ∨ a.heap.size ≤ g) : Only L a c :=
  ⟨k.os.trans h.os, k.tape.trans h.tape, k.output.trans h.output, Nat.le_trans h.size k.size, fun i hi hn => (k.block i (Nat.lt_of_lt_of_le hi h.size) (fun hm => by rcases hL i hm with h1 | h1; exact hn h1; omega)).trans (h.block i hi hn)⟩
theorem rows_elem {S : List UInt8} {m j : Nat} {x : List UInt8} (h : JM.rows S j ++ [x] <+: JM.rows S m) : j < m ∧ x = JM.piece S j := by
  have hl := h.length_le
  rw [List.length_append, JM.rows_length, JM.rows_length, List.length_singleton] at hl
  refine ⟨by omega, ?_⟩
  obtain ⟨t, ht⟩ := h
  have h1 : (JM.rows S m)[j]? = some (JM.piece S j) := by
    unfold JM.rows
    rw [List.getElem?_map, List.getElem?_range (by omega)]; rfl
  rw [← ht, List.getElem?_append_left (by rw [List.length_append, JM.rows_length, List.length_singleton]; omega), List.getElem?_append_right (by rw [JM.rows_length]; exact Nat.le_refl _), JM.rows_length, Nat.sub_self] at h1
  exact Option.some.inj h1
/-- A store into a variable, inside a fence. -/
theorem wpListIn_put {F : Fence} {n : Nat} {P : Program} {ops : Array Oper} {rest : List Oper} {o : Oper} {a : Act} {w : World} {Q : Exit → Act → World → Prop} (hgd : o.guard = none) (ty : TypeId) (x y : Operand) (ho : o.op = .store ty x y)
    (g k : Nat) (hx : a.eval x = .pointer (some ⟨g, k, none⟩)) (v : Value) (hy : a.eval y = v) {t : TypeId} {l : List Value} (hb : Blk w g t l) (cs : List Value) (hv : v.cells = cs.toArray)
    (hi : (P.info? ty).map (·.size) = some cs.length) (hl : k + cs.length ≤ l.length) (h1 : ∀ u ∈ cs, u.oneCell' = true)
    (h : ∀ w', Upd g w w' → Blk w' g t (splice l k cs) → wpListIn F n P ops Q rest (a.put o.dst undef) w') : wpListIn F n P ops Q (o :: rest) a w := by
  refine wpListIn_plain hgd fun K hK => ?_
  unfold Oper.wpIn
  refine ⟨fun f hf => ?_, ?_⟩
  · simp [Oper.about, ho] at hf
  · have hne : ∀ c, o.op ≠ .defer c := fun c h => by rw [ho] at h; cases h
    rw [Oper.semAt_eq _ _ _ hne]
    unfold execOp
    simp only [ho, hx, hy, Instr.storeAt, Instr.sureAddr, Sem.run_bind, Sem.run_pure, Result.andThen_ok, run_put w g k t ty l v cs hv hb hi hl h1]
    exact hK _ _ (h _ (upd_setRow w g _) (blk_setRow hb _))
/-- A statement that is left by its end. -/
def EndsIn (R : Act → World → Prop) : Exit → Act → World → Prop
  | .normal, a, w => R a w
  | _, _, _ => False
theorem wp_cut {P : Program} {c : Code} {Q : Exit → Act → World → Prop} {a : Act} {w : World} {R : Act → World → Prop} (h : c.wp P (EndsIn R) a w) (hr : ∀ a w, R a w → Q .normal a w) : c.wp P Q a w :=
  wp_mono h fun e a w q => by cases e <;> first | exact hr _ _ q | exact q.elim
/-- Code that does not panic. -/
def NoPanic (Q : Exit → Act → World → Prop) : Exit → Act → World → Prop
  | .panic _, _, _ => False
  | e, a, w => Q e a w
theorem wp_calm {P : Program} {c : Code} {Q : Exit → Act → World → Prop} {a : Act} {w : World} (h : c.wp P (NoPanic Q) a w) : c.wp P Q a w :=
  wp_mono h fun e a w q => by cases e <;> first | exact q | exact q.elim
theorem only_new {L : List Nat} {a b c : World} {g : Nat} (h : Only L a b) (hu : Upd g b c) (hg : a.heap.size ≤ g) : Only L a c :=
  ⟨hu.os.trans h.os, hu.tape.trans h.tape, hu.output.trans h.output, Nat.le_trans h.size (Nat.le_of_eq hu.size.symm), fun i hi hn => (hu.block i (by omega)).trans (h.block i hi hn)⟩
theorem parts_any (A : Option Addr) (n c : Nat) (w : World) :
    Calls Try.prog 115 #[.slice A n c] w fun e w' => ∃ gb, e = .returned (.func (.func 134) #[] #[.pointer (some ⟨gb, 0, none⟩)]) ∧ Blk w' gb 43 [.slice A n c] ∧ Below w.heap.size w w' ∧ w.heap.size ≤ gb := by
  go_enter Try.func115, Try.ntmps115
  go_wp2
  go_ret
  exact ⟨w.heap.size, rfl, blk_new w 43 [.slice A n c], below_new w _, Nat.le_refl _⟩
theorem results_cell1 {fn : Func} {p : Tmp} {g : Nat} {t : TypeId} {u : Value} (h : fn.results = #[.cell p 26]) (tmps : Array Value) (w : World) (hp : tmps.getD p undef = .pointer (some ⟨g, 0, none⟩)) (hb : Blk w g t [u]) : (results fn tmps).run Try.prog w = .ok u w := by
  have hc := hb.cell (k := 0) rfl
  have hp' : tmps[p]?.getD undef = .pointer (some ⟨g, 0, none⟩) := by simpa using hp
  simp [results, h, hp', asAddr, go_sem, hc]
end Go.Proofs.Ythgmlopkcgkjlaa
