/-
  Contracts of the walks over readers and first. Conditions: the program's tables lie there; the text is empty or begins with no separator.
-/
import Derived.Test.YtcefaipjncohmaaGreatDoorQj
namespace Go.Proofs.YtcefaipjncohmaaGreatDoor
set_option linter.unusedVariables false
set_option linter.unusedSimpArgs false
open Go.RowKit Go.Shelf

def rdVs (gw : Nat) : List Value := [(.func (.func 49) #[] #[.pointer (some ⟨gw, 0, none⟩)]), (.func (.func 50) #[] #[.pointer (some ⟨gw, 0, none⟩)]), (.func (.func 51) #[] #[.pointer (some ⟨gw, 0, none⟩)]), (.func (.func 53) #[] #[]), (.func (.func 55) #[] #[]), (.func (.func 58) #[] #[])]
/-- The closures that read tokens lie there. -/
structure RDs (gw gk : Nat) (w : World) : Prop where
  cw : w.cell? ⟨gw, 0, none⟩ = some (.func (.func 47) #[] #[])
  el : w.rangeAt gk 0 (rdVs gw)
theorem RDs.next {gw gk : Nat} {w w' : World} (h : RDs gw gk w) (hb : Below w.heap.size w w') : RDs gw gk w' := ⟨cellf_below hb h.cw, rangeAt_below h.el hb⟩
theorem run_rds (gw : Nat) (w : World) : (Instr.buildSlice 43 6 #[(0, (.func (.func 49) #[] #[.pointer (some ⟨gw, 0, none⟩)])), (1, (.func (.func 50) #[] #[.pointer (some ⟨gw, 0, none⟩)])), (2, (.func (.func 51) #[] #[.pointer (some ⟨gw, 0, none⟩)])), (3, (.func (.func 53) #[] #[])), (4, (.func (.func 55) #[] #[])), (5, (.func (.func 58) #[] #[]))]).run Tryz.prog w = .ok (.slice (some ⟨w.heap.size, 0, none⟩) 6 6) (w.alloc (.cells (rdVs gw).toArray 81)) := by kernel_rfl
theorem wpList_rds {ops : Array Oper} {rest : List Oper} {o : Oper} {a : Act} {w : World} {Q : Exit → Act → World → Prop} (hw : Region.wanted o (yielded ops a.tmps) = true) (n : Nat) (ps : Array (Nat × Operand)) (ho : o.op = .buildSlice 43 n ps)
    (vs : Array (Nat × Value)) (hx : (ps.map fun p => (p.1, a.eval p.2)) = vs) (l : List Value) (hr : ∀ w : World, (Instr.buildSlice 43 n vs).run Tryz.prog w = .ok (.slice (some ⟨w.heap.size, 0, none⟩) n n) (w.alloc (.cells l.toArray 81)))
    (h : ∀ g w', Hid (g = w.heap.size) → Below w.heap.size w w' → Blk w' g 81 l → wpList Tryz.prog ops Q rest (a.put o.dst (.slice (some ⟨g, 0, none⟩) n n)) w') : wpList Tryz.prog ops Q (o :: rest) a w := by
  refine BigFrame.wpList_want hw fun K hK => ?_
  unfold Oper.wp execOp
  simp only [ho]
  rw [show (ps.map fun x => (x.1, a.eval x.2)) = vs from hx]
  simp [hr]
  exact hK _ _ (h _ _ rfl (below_new w _) (blk_new w _ _))
theorem Tryz.szFn : (Tryz.prog.info? 39).map (·.size) = some 1 := by kernel_rfl
theorem Tryz.zeroFn : (Tryz.prog.info? 39).map (·.zero) = some (some .nilFunc) := by kernel_rfl
set_option maxRecDepth 100000 in
set_option maxHeartbeats 1600000 in
theorem readers_any (w : World) : Calls Tryz.prog 17 #[] w fun e w' => (∃ gw gk, e = .returned (.slice (some ⟨gk, 0, none⟩) 6 6) ∧ RDs gw gk w') ∧ Below w.heap.size w w' := by
  go_enter Tryz.func17, Tryz.ntmps17
  go_wp2_with (with_reducible refine wpList_alloc (o := ⟨some 1, .alloc 39, _, _, _, _⟩) (by with_unfolding_all rfl) 39 (by with_unfolding_all rfl) .nilFunc [.nilFunc] (by exact Tryz.zeroFn) (by with_unfolding_all rfl) ?_)
  intro g1 w1 hg1 hs1 hb1 B1
  have hb1 := hb1.mono (Nat.le_of_eq hg1.out.symm)
  have hl1 : w.heap.size ≤ g1 := Nat.le_of_eq hg1.out.symm
  go_wp2_with (with_reducible refine wpList_put (o := ⟨none, .store 39 (.tmp 1) (.func 47), _, _, _, _⟩) (by with_unfolding_all rfl) 39 (.tmp 1) (.func 47) (by with_unfolding_all rfl) g1 0 (by with_unfolding_all rfl) (.func (.func 47) #[] #[]) (by with_unfolding_all rfl) B1 [(.func (.func 47) #[] #[])] (by with_unfolding_all rfl) (by with_unfolding_all exact Tryz.szFn) (by with_unfolding_all simp) (by with_unfolding_all exact one_cell1 rfl) ?_)
  intro w2 hu2 C1
  have C1 : Blk w2 g1 39 [.func (.func 47) #[] #[]] := C1
  have hbe := hb1.trans (hu2.below (B := w.heap.size) hl1)
  clear B1 hu2 hb1 hs1 hg1
  go_wp2_with (with_reducible refine wpList_rds (o := ⟨some 17, .buildSlice 43 6 #[(0, .tmp 11), (1, .tmp 12), (2, .tmp 13), (3, .tmp 14), (4, .tmp 15), (5, .tmp 16)], _, _, _, _⟩) (by with_unfolding_all rfl) 6 #[(0, .tmp 11), (1, .tmp 12), (2, .tmp 13), (3, .tmp 14), (4, .tmp 15), (5, .tmp 16)] (by with_unfolding_all rfl) #[(0, (.func (.func 49) #[] #[.pointer (some ⟨g1, 0, none⟩)])), (1, (.func (.func 50) #[] #[.pointer (some ⟨g1, 0, none⟩)])), (2, (.func (.func 51) #[] #[.pointer (some ⟨g1, 0, none⟩)])), (3, (.func (.func 53) #[] #[])), (4, (.func (.func 55) #[] #[])), (5, (.func (.func 58) #[] #[]))] (by with_unfolding_all rfl) (rdVs g1) (fun w => run_rds g1 w) ?_)
  intro g2 w3 hg2 hb3 B2
  have C1 := C1.next hb3 C1.lt
  have hbe := below_join hbe hb3
  go_wp2
  go_ret
  exact ⟨⟨g1, g2, rfl, C1.cell (k := 0) rfl, fun j v hv => by rw [Nat.zero_add]; exact B2.cell hv⟩, hbe⟩
theorem num_nil : numM [] = none := rfl
theorem digV_dg {b : UInt8} (h : ¬ 10 ≤ digV b) : dg b = true := by
  have : ∀ k : Fin 256, ¬ 10 ≤ digV (UInt8.ofNat k.1) → dg (UInt8.ofNat k.1) = true := by decide +kernel
  have h2 := this ⟨b.toNat, b.toNat_lt⟩
  simp only [UInt8.ofNat_toNat] at h2
  exact h2 h
theorem num_head {l : List UInt8} {n : Nat} (h : numM l = some n) : ∃ b r, l = b :: r ∧ dg b = true := by
  cases l with
  | nil => cases h
  | cons b r =>
    refine ⟨b, r, rfl, ?_⟩
    unfold numM at h
    split at h
    · rename_i hx
      obtain ⟨t, ht⟩ := hx
      simp at ht
      rw [← ht.1]; rfl
    · split at h
      · cases h
      · split at h
        · cases h
        · show dg b = true
          have e : valL 10 0 (b :: r) = if 10 ≤ digV b ∨ 1073741824 < 0 * 10 + digV b then none else valL 10 (0 * 10 + digV b) r := rfl
          rw [e] at h
          split at h
          · cases h
          · rename_i hn
            exact digV_dg fun e => hn (Or.inl e)
theorem run_nil {l : List UInt8} (h : runL l = 0) : l.take (runL l) = [] := by rw [h]; rfl
theorem wb_run {b : UInt8} {r : List UInt8} (h : wb b = true) : 0 < runL (b :: r) := runL_pos h
section
variable (l : List UInt8)
def o0 : Bool := decide (0 < runL l) && lo (l.headD 0)
def o1 : Bool := (numM (l.take (runL l))).isSome
def o2 : Bool := decide (0 < runL l) && dg (l.headD 0)
def o3 : Bool := decide (0 < signL l)
def o4 : Bool := decide (0 < oddL l)
theorem tm0 (h : o0 l = true) : tokM l = ⟨kindM (l.take (runL l)), 0, runL l⟩ := by
  cases l with
  | nil => simp [o0, runL] at h
  | cons b r =>
    simp only [o0, Bool.and_eq_true, List.headD_cons] at h
    rw [tokM_cons, if_pos h.2]
theorem no_lo {b : UInt8} {r : List UInt8} (h : o0 (b :: r) = false) : ¬ lo b = true := fun e => by
  have := wb_run (r := r) (lo_wb e)
  simp only [o0, List.headD_cons, e, Bool.and_true, decide_eq_false_iff_not] at h
  exact h this
theorem tm1 (h0 : o0 l = false) (h : o1 l = true) : tokM l = ⟨3, (numM (l.take (runL l))).getD 0, runL l⟩ := by
  obtain ⟨n, hn⟩ := Option.isSome_iff_exists.1 h
  obtain ⟨b, r, e, hd⟩ := num_head hn
  cases l with
  | nil => simp at e
  | cons c t =>
    have hcb : c = b := by
      cases hr : runL (c :: t) with
      | zero => rw [hr] at e; simp at e
      | succ k => rw [hr] at e; simp at e; exact e.1
    subst hcb
    rw [tokM_cons, if_neg (no_lo h0), if_pos hd, hn]
    rfl
theorem tm2 (h0 : o0 l = false) (h1 : o1 l = false) (h : o2 l = true) : tokM l = ⟨5, 0, runL l⟩ := by
  cases l with
  | nil => simp [o2, runL] at h
  | cons b r =>
    simp only [o2, Bool.and_eq_true, List.headD_cons] at h
    have hn : numM ((b :: r).take (runL (b :: r))) = none := by
      cases hv : numM ((b :: r).take (runL (b :: r))) with
      | none => rfl
      | some n => simp [o1, hv] at h1
    rw [tokM_cons, if_neg (no_lo h0), if_pos h.2, hn]
theorem no_dg {b : UInt8} {r : List UInt8} (h : o2 (b :: r) = false) : ¬ dg b = true := fun e => by
  have := wb_run (r := r) (dg_wb e)
  simp only [o2, List.headD_cons, e, Bool.and_true, decide_eq_false_iff_not] at h
  exact h this
theorem tm3 (h0 : o0 l = false) (h2 : o2 l = false) (h : o3 l = true) : tokM l = ⟨4, 0, signL l⟩ := by
  cases l with
  | nil => simp [o3, signL] at h
  | cons b r =>
    simp only [o3, decide_eq_true_eq] at h
    rw [tokM_cons, if_neg (no_lo h0), if_neg (no_dg h2), if_pos h]
theorem tm4 (h0 : o0 l = false) (h2 : o2 l = false) (h3 : o3 l = false) (h : o4 l = true) : tokM l = ⟨5, 0, oddL l⟩ := by
  cases l with
  | nil => simp [o4, oddL] at h
  | cons b r =>
    simp only [o3, decide_eq_false_iff_not] at h3
    rw [tokM_cons, if_neg (no_lo h0), if_neg (no_dg h2), if_neg h3]
theorem tm5 (hg : l = [] ∨ nog l = true) (h0 : o0 l = false) (h2 : o2 l = false) (h3 : o3 l = false) (h4 : o4 l = false) : l = [] := by
  rcases hg with hg | hg
  · exact hg
  · exfalso
    have hp := tokM_pos hg
    cases l with
    | nil => cases hg
    | cons b r =>
      simp only [o3, decide_eq_false_iff_not] at h3
      simp only [o4, decide_eq_false_iff_not] at h4
      rw [tokM_cons, if_neg (no_lo h0), if_neg (no_dg h2), if_neg h3] at hp
      exact h4 hp
end
end Go.Proofs.YtcefaipjncohmaaGreatDoor
