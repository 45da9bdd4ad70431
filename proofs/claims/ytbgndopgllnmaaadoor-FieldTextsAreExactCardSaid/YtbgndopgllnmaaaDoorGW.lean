/-
  Contracts of the functions that the statement calls, part 23 of 25 (merged texts: Fj, Fr). Conditions: as the head of each part says.
-/
import Derived.Test.YtbgndopgllnmaaaDoorGV
import Derived.Test.YtbgndopgllnmaaaDoorGM
import Derived.Test.YtbgndopgllnmaaaDoorGR
import Derived.Laws.AppendOwn
import Derived.Laws.StructEq
import Derived.ChangeKeysEq
import Derived.Test.YtbgndopgllnmaaaDoorGI

/-
  Contracts of the walks over Right, Key and Range of both sides, SameInts and SamePatterns. Conditions: fields that lie in a word, few names.
-/
namespace Go.Proofs.YtbgndopgllnmaaaDoor
set_option linter.unusedVariables false
set_option linter.unusedSimpArgs false
open Go.RowKit Go.Shelf

theorem Tryd.guardF : Tryd.prog.eqGuardType Tryd.prog.depth 33 = false := by kernel_rfl
theorem Tryd.structF : Tryd.prog.underlying 33 = some (.struct (Tryd.prog.fieldsOf 33)) := by kernel_rfl
theorem Tryd.heldF : Tryd.prog.stoodInHeld 33 = false := by kernel_rfl
theorem Tryd.plainInt : Tryd.prog.plainKey 3 = true := by kernel_rfl
theorem Tryd.plainStr : Tryd.prog.plainKey 9 = true := by kernel_rfl
theorem equal_field (w : World) (k : Nat) (s t : ByteArray) (a b c d : Int) :
    (Op.equalIn (k + 3) 33 (.agg #[.string s, .int .i64 a, .int .i64 b]) (.agg #[.string t, .int .i64 c, .int .i64 d])).run Tryd.prog w = .ok ((s.toList == t.toList) && (decide (a = c) && decide (b = d))) w := by
  rw [run_equalIn_struct (P := Tryd.prog) w (k + 2) _ _ _ Tryd.structF Tryd.heldF]
  have hf : (Tryd.prog.fieldsOf 33).toList.map (fun f => (f.name == "_", f.type, f.offset)) = [(false, 9, 0), (false, 3, 1), (false, 3, 2)] := by kernel_rfl
  generalize (Tryd.prog.fieldsOf 33).toList = fs at hf
  obtain ⟨f0, f, g, rfl⟩ : ∃ f0 f g, fs = [f0, f, g] := by
    rcases fs with _ | ⟨f, _ | ⟨g, _ | ⟨x, _ | ⟨y, r⟩⟩⟩⟩
    · simp at hf
    · simp at hf
    · simp at hf
    · exact ⟨f, g, x, rfl⟩
    · simp at hf
  simp only [List.map_cons, List.map_nil, List.cons.injEq, Prod.mk.injEq, and_true] at hf
  obtain ⟨⟨n0, t0, o0⟩, ⟨n1, t1, o1⟩, n2, t2, o2⟩ := hf
  have p01 := run_part_plain (P := Tryd.prog) (w := w) Tryd.plainStr (xs := #[Value.string s, .int .i64 a, .int .i64 b]) (off := 0) (v := .string s) rfl
  have p02 := run_part_plain (P := Tryd.prog) (w := w) Tryd.plainStr (xs := #[Value.string t, .int .i64 c, .int .i64 d]) (off := 0) (v := .string t) rfl
  have p1 := run_part_plain (P := Tryd.prog) (w := w) Tryd.plainInt (xs := #[Value.string s, .int .i64 a, .int .i64 b]) (off := 1) (v := .int .i64 a) rfl
  have p2 := run_part_plain (P := Tryd.prog) (w := w) Tryd.plainInt (xs := #[Value.string t, .int .i64 c, .int .i64 d]) (off := 1) (v := .int .i64 c) rfl
  have p3 := run_part_plain (P := Tryd.prog) (w := w) Tryd.plainInt (xs := #[Value.string s, .int .i64 a, .int .i64 b]) (off := 2) (v := .int .i64 b) rfl
  have p4 := run_part_plain (P := Tryd.prog) (w := w) Tryd.plainInt (xs := #[Value.string t, .int .i64 c, .int .i64 d]) (off := 2) (v := .int .i64 d) rfl
  have q0 : (Op.equalIn (k + 2) 9 (.string s) (.string t)).run Tryd.prog w = .ok (s.toList == t.toList) w := run_equalIn_string (P := Tryd.prog) w (k + 1) 9 _ _ Tryd.underlying9
  have q1 : (Op.equalIn (k + 2) 3 (.int .i64 a) (.int .i64 c)).run Tryd.prog w = .ok (a == c) w := run_equalIn_int (P := Tryd.prog) w (k + 1) 3 .i64 .i64 _ _ Tryd.underlying3
  have q2 : (Op.equalIn (k + 2) 3 (.int .i64 b) (.int .i64 d)).run Tryd.prog w = .ok (b == d) w := run_equalIn_int (P := Tryd.prog) w (k + 1) 3 .i64 .i64 _ _ Tryd.underlying3
  have k0 := beq_eq_false_iff_ne.1 n0
  have k1 := beq_eq_false_iff_ne.1 n1
  have k2 := beq_eq_false_iff_ne.1 n2
  have last : (Op.eqFields (k + 2) #[Value.string s, .int .i64 a, .int .i64 b] #[Value.string t, .int .i64 c, .int .i64 d] [g]).run Tryd.prog w = .ok (decide (b = d)) w := by
    simp only [Op.eqFields, t2, o2, Sem.run_bind, Sem.run_ite, Sem.run_pure, p3, p4, Result.andThen_ok, q2]
    rw [if_pos (by simpa using k2)]
    by_cases e : b = d
    · subst e; simp
    · have : (b == d) = false := beq_eq_false_iff_ne.2 e
      rw [this, decide_eq_false e]; simp
  have mid : (Op.eqFields (k + 2) #[Value.string s, .int .i64 a, .int .i64 b] #[Value.string t, .int .i64 c, .int .i64 d] (f :: [g])).run Tryd.prog w = .ok (decide (a = c) && decide (b = d)) w := by
    rw [Op.eqFields]
    simp only [t1, o1, Sem.run_bind, Sem.run_ite, Sem.run_pure, p1, p2, Result.andThen_ok, q1, last]
    rw [if_pos (by simpa using k1)]
    by_cases e : a = c
    · subst e; simp
    · have : (a == c) = false := beq_eq_false_iff_ne.2 e
      rw [this, decide_eq_false e]; simp
  show (Op.eqFields (k + 2) _ _ (f0 :: (f :: [g]))).run Tryd.prog w = _
  rw [Op.eqFields]
  simp only [t0, o0, Sem.run_bind, Sem.run_ite, Sem.run_pure, p01, p02, Result.andThen_ok, q0, mid]
  rw [if_pos (by simpa using k0)]
  cases e : (s.toList == t.toList) with
  | true => simp
  | false => simp
theorem eqlFd (w : World) (s t : ByteArray) (a b c d : Int) : (binOp .eql 33 (.agg #[.string s, .int .i64 a, .int .i64 b]) (.agg #[.string t, .int .i64 c, .int .i64 d])).run Tryd.prog w = .ok (.bool ((s.toList == t.toList) && (decide (a = c) && decide (b = d)))) w := by
  rw [run_eql_struct, equal_field w 9997]; rfl
theorem neqFd (w : World) (s t : ByteArray) (a b c d : Int) : (binOp .neq 33 (.agg #[.string s, .int .i64 a, .int .i64 b]) (.agg #[.string t, .int .i64 c, .int .i64 d])).run Tryd.prog w = .ok (.bool (!((s.toList == t.toList) && (decide (a = c) && decide (b = d))))) w := by
  rw [run_neq_struct, equal_field w 9997]; rfl
theorem sameB {s t : ByteArray} : (s.toList == t.toList) = decide (s = t) := by
  by_cases h : s = t
  · subst h; simp
  · rw [beq_bytes h, decide_eq_false h]
theorem port_list : portB.toList = [112, 111, 114, 116] := by rw [ByteArray.toList_eq]; rfl
/-- A right field, or the port. -/
def rightF (f : Fd) : Prop := checkM [f] = 0 ∨ f = portF
instance (f : Fd) : Decidable (f = portF) := decidable_of_iff (f.nm = portB ∧ f.at_ = 0 ∧ f.wd = 16) ⟨fun h => by cases f; simp only [portF] at *; obtain ⟨rfl, rfl, rfl⟩ := h; rfl, fun h => by subst h; exact ⟨rfl, rfl, rfl⟩⟩
instance (f : Fd) : Decidable (rightF f) := by unfold rightF; exact inferInstance
theorem check_one (f : Fd) : checkM [f] = errF [] f := by
  unfold checkM
  rw [if_neg (show ¬ ([f].length > 16) by simp)]
  show (if errF [] f = 0 then checkL ([] ++ [f]) [] else errF [] f) = _
  split
  · rename_i h; rw [h]; rfl
  · rfl
theorem errF_place {done : List Fd} {f : Fd} (h : errF done f = 0) : placeB f.at_ f.wd = true := by
  unfold errF at h
  split at h
  · cases h
  · split at h
    · cases h
    · split at h
      · cases h
      · rename_i hp
        simpa using hp
theorem right_lies {f : Fd} (h : rightF f) : ∃ a n : Nat, f.at_ = (a : Int) ∧ f.wd = (n : Int) ∧ Lies a n := by
  rcases h with h | h
  · rw [check_one] at h
    obtain ⟨a, n, ha, hn, hl, _, _⟩ := place_nat (errF_place h)
    exact ⟨a, n, ha, hn, hl⟩
  · subst h
    exact ⟨0, 16, rfl, rfl, ⟨by decide, by decide, by decide⟩⟩
theorem run_fd1 (w : World) (s : ByteArray) (a b : Int) : (Instr.buildSlice 22 1 #[(0, .agg #[.string s, .int .i64 a, .int .i64 b])]).run Tryd.prog w = .ok (.slice (some ⟨w.heap.size, 0, none⟩) 1 1) (w.alloc (.cells [Value.string s, .int .i64 a, .int .i64 b].toArray 33)) := by kernel_rfl
theorem wpList_fd1 {ops : Array Oper} {rest : List Oper} {o : Oper} {a : Act} {w : World} {Q : Exit → Act → World → Prop} (hw : Region.wanted o (yielded ops a.tmps) = true) (x : Operand) (ho : o.op = .buildSlice 22 1 #[(0, x)]) (s : ByteArray) (p q : Int) (hx : a.eval x = .agg #[.string s, .int .i64 p, .int .i64 q])
    (h : ∀ g w', Hid (g = w.heap.size) → Below w.heap.size w w' → Blk w' g 33 [Value.string s, .int .i64 p, .int .i64 q] → wpList Tryd.prog ops Q rest (a.put o.dst (.slice (some ⟨g, 0, none⟩) 1 1)) w') : wpList Tryd.prog ops Q (o :: rest) a w := by
  refine BigFrame.wpList_want hw fun K hK => ?_
  have hr := run_fd1 w s p q
  unfold Oper.wp execOp
  simp only [ho, List.map_toArray, List.map_cons, List.map_nil, hx, Sem.run_bind, Sem.run_pure, Result.andThen_ok, hr]
  exact hK _ _ (h _ _ rfl (below_new w _) (blk_new w _ _))
theorem fsAt_one {w : World} {g : Nat} {t : TypeId} {s : ByteArray} {a b : Int} (h : Blk w g t [Value.string s, .int .i64 a, .int .i64 b]) : FsAt w (some ⟨g, 0, none⟩) [⟨s, a, b⟩] := fun k f hf => by
  match k with
  | 0 =>
    injection hf with hf
    subst hf
    exact ⟨g, 0, rfl, h.cell rfl, h.cell rfl, h.cell rfl⟩
  | k + 1 => cases hf
set_option maxRecDepth 100000 in
set_option maxHeartbeats 3200000 in
theorem rright8_any (s : ByteArray) (a b : Int) (w : World) (hs : s.size ≤ 9223372036854775807) :
    Calls Tryd.prog 25 #[.agg #[.string s, .int .i64 a, .int .i64 b]] w fun e w' => e = .returned (.bool (decide (rightF ⟨s, a, b⟩))) ∧ Below w.heap.size w w' := by
  obtain ⟨C, hC⟩ : ∃ C, checkM [⟨s, a, b⟩] = C := ⟨_, rfl⟩
  have HCK : Hid (∀ (g : Nat) (w : World), Blk w g 33 [Value.string s, .int .i64 a, .int .i64 b] → Calls Tryd.prog 10 #[.slice (some ⟨g, 0, none⟩) 1 1] w fun e w' => e = .returned (.int .i64 C) ∧ Below w.heap.size w w') := by
    have : ∀ (g : Nat) (w : World), Blk w g 33 [Value.string s, .int .i64 a, .int .i64 b] → Calls Tryd.prog 10 #[.slice (some ⟨g, 0, none⟩) 1 1] w fun e w' => e = .returned (.int .i64 C) ∧ Below w.heap.size w w' := fun g w h => by
      rw [← hC]
      exact rcheck_any (some ⟨g, 0, none⟩) 1 [⟨s, a, b⟩] w (by simp) (fun f hf => by rw [List.mem_singleton.1 hf]; exact hs) (fsAt_one h)
    exact this
  by_cases hz : C = 0
  · have hr : decide (rightF ⟨s, a, b⟩) = true := decide_eq_true (.inl (by rw [hC]; exact hz))
    rw [hr]
    subst hz
    clear hr hC
    go_enter Tryd.func25, Tryd.ntmps25
    go_wp2_with (with_reducible refine wpList_box (o := ⟨some 1, .box 33 (.tmp 0), _, _, _, _⟩) ?g1qaa 33 (.tmp 0) ?o1qaa (.agg #[.string s, .int .i64 a, .int .i64 b]) [Value.string s, .int .i64 a, .int .i64 b] ?x1qaa ?c1qaa ?_)
    try (case g1qaa => rfl)
    try (case o1qaa => rfl)
    try (case x1qaa => rfl)
    try (case c1qaa => rfl)
    intro g1 w1 hg1 hs1 hb1 B1
    have hl1 : w.heap.size ≤ g1 := Nat.le_of_eq hg1.out.symm
    have hb1 := hb1.mono (Nat.le_of_eq hg1.out.symm)
    have hbe : Below w.heap.size w w1 := hb1
    clear hb1 hg1 hs1
    have z1_0 := B1.cell (k := 0) rfl
    have z1_1 := B1.cell (k := 1) rfl
    have z1_2 := B1.cell (k := 2) rfl
    go_wp2_with (with_reducible refine wpList_fd1 (o := ⟨some 5, .buildSlice 22 1 #[(0, .tmp 4)], _, _, _, _⟩) (by with_unfolding_all rfl) (.tmp 4) (by with_unfolding_all rfl) s a b (by with_unfolding_all rfl) ?_)
    intro g5 w2 hg5 hb2 B5
    clear z1_0 z1_1 z1_2
    have B1 := B1.next hb2 B1.lt
    have hbe := below_join hbe hb2
    clear hb2 hg5
    have HCK := Lib.hid (HCK.out g5 _ B5)
    go_wp2_with fail
    (with_reducible refine (HCK.out).mono ?_)
    rintro e w3 ⟨rfl, hb3⟩
    have B1 := B1.next hb3 B1.lt
    have hbe := below_join hbe hb3
    clear hb3
    clear B5
    go_wp2
    have hdd := below_drew w3
    have B1 := B1.next hdd B1.lt
    have hbe := below_join hbe hdd
    refine wp_region_held_drew (S := fun _ => True) (by kernel_rfl) trivial (fun hHeld => ?_)
    clear hdd
    generalize w3.drew = w4 at B1 hbe hHeld  ⊢
    refine wpAnyH_take (i := 0) (v := ?vqab0) rfl (by kernel_rfl) (by kernel_rfl) (by kernel_rfl) (fun _ _ _ h => h) (Or.inl ⟨by rfl, ?yqab0⟩) (by assumption) ?rqab0
    case yqab0 => intro w hSw; (try dsimp only at hSw); go_simp <;> (try with_reducible rfl)
    (try simp only [List.getElem_toArray, List.getElem_cons_zero, Act.put, List.setIfInBounds_toArray, List.set_cons_zero, List.set_cons_succ])
    refine wpAnyH_take (i := 1) (v := ?vqab1) rfl (by kernel_rfl) (by kernel_rfl) (by kernel_rfl) (fun _ _ _ h => h) (Or.inl ⟨by rfl, ?yqab1⟩) (by assumption) ?rqab1
    case yqab1 => intro w hSw; (try dsimp only at hSw); go_simp <;> (try with_reducible rfl)
    (try simp only [List.getElem_toArray, List.getElem_cons_succ, List.getElem_cons_zero, Act.put, List.setIfInBounds_toArray, List.set_cons_zero, List.set_cons_succ])
    refine wpAnyH_take (i := 2) (v := ?vqab2) rfl (by kernel_rfl) (by kernel_rfl) (by kernel_rfl) (fun _ _ _ h => h) (Or.inl ⟨by rfl, ?yqab2⟩) (by assumption) ?rqab2
    case yqab2 => intro w hSw; (try dsimp only at hSw); go_simp <;> (try with_reducible rfl)
    (try simp only [List.getElem_toArray, List.getElem_cons_succ, List.getElem_cons_zero, Act.put, List.setIfInBounds_toArray, List.set_cons_zero, List.set_cons_succ])
    refine wpAnyH_take (i := 3) (v := undef) rfl (by kernel_rfl) (by kernel_rfl) (by kernel_rfl) (fun _ _ _ h => h) (Or.inr ⟨by rfl, rfl⟩) (by assumption) ?rqab3
    (try simp only [List.getElem_toArray, List.getElem_cons_succ, List.getElem_cons_zero, Act.put, List.setIfInBounds_toArray, List.set_cons_zero, List.set_cons_succ])
    refine wpAnyH_take (i := 4) (v := undef) rfl (by kernel_rfl) (by kernel_rfl) (by kernel_rfl) (fun _ _ _ h => h) (Or.inr ⟨by rfl, rfl⟩) (by assumption) ?rqab4
    (try simp only [List.getElem_toArray, List.getElem_cons_succ, List.getElem_cons_zero, Act.put, List.setIfInBounds_toArray, List.set_cons_zero, List.set_cons_succ])
    refine wpAnyH_take (i := 5) (v := undef) rfl (by kernel_rfl) (by kernel_rfl) (by kernel_rfl) (fun _ _ _ h => h) (Or.inr ⟨by rfl, rfl⟩) (by assumption) ?rqab5
    (try simp only [List.getElem_toArray, List.getElem_cons_succ, List.getElem_cons_zero, Act.put, List.setIfInBounds_toArray, List.set_cons_zero, List.set_cons_succ])
    refine wpAnyH_take (i := 6) (v := ?vqab6) rfl (by kernel_rfl) (by kernel_rfl) (by kernel_rfl) (fun _ _ _ h => h) (Or.inl ⟨by rfl, ?yqab6⟩) (by assumption) ?rqab6
    case yqab6 => intro w hSw; (try dsimp only at hSw); go_simp <;> (try with_reducible rfl)
    (try simp only [List.getElem_toArray, List.getElem_cons_succ, List.getElem_cons_zero, Act.put, List.setIfInBounds_toArray, List.set_cons_zero, List.set_cons_succ])
    refine wpAnyH_take (i := 7) (v := ?vqab7) rfl (by kernel_rfl) (by kernel_rfl) (by kernel_rfl) (fun _ _ _ h => h) (Or.inl ⟨by rfl, ?yqab7⟩) (by assumption) ?rqab7
    case yqab7 => intro w hSw; (try dsimp only at hSw); go_simp <;> (try with_reducible rfl)
    (try simp only [List.getElem_toArray, List.getElem_cons_succ, List.getElem_cons_zero, Act.put, List.setIfInBounds_toArray, List.set_cons_zero, List.set_cons_succ])
    refine wpAnyH_done (by kernel_rfl) ?_ _
    clear hHeld 
    go_wp2
    go_ret
    exact ⟨rfl, hbe⟩
  · have hzb : (C == 0) = false := beq_eq_false_iff_ne.2 hz
    have hr : decide (rightF ⟨s, a, b⟩) = ((s.toList == [112, 111, 114, 116]) && (decide (a = 0) && decide (b = 16))) := by
      have h1 : (s.toList == [112, 111, 114, 116]) = decide (s = portB) := by
        by_cases h : s = portB
        · rw [h, port_list, decide_eq_true rfl]; rfl
        · rw [beq_port h, decide_eq_false h]
      rw [h1]
      by_cases hq : (⟨s, a, b⟩ : Fd) = portF
      · have hrr : rightF ⟨s, a, b⟩ := Or.inr hq
        rw [decide_eq_true hrr]
        injection hq with q1 q2 q3
        rw [decide_eq_true q1, decide_eq_true q2, decide_eq_true q3]; rfl
      · have hn : ¬ rightF ⟨s, a, b⟩ := fun h => by
          rcases h with h | h
          · rw [hC] at h; exact hz h
          · exact hq h
        rw [decide_eq_false hn]
        symm
        rw [Bool.and_eq_false_iff, Bool.and_eq_false_iff, decide_eq_false_iff_not, decide_eq_false_iff_not, decide_eq_false_iff_not]
        by_cases q1 : s = portB
        · by_cases q2 : a = 0
          · exact .inr (.inr fun q3 => hq (by rw [q1, q2, q3]; rfl))
          · exact .inr (.inl q2)
        · exact .inl q1
    rw [hr]
    obtain ⟨D, hD⟩ : ∃ D, ((s.toList == [112, 111, 114, 116]) && (decide (a = 0) && decide (b = 16))) = D := ⟨_, rfl⟩
    rw [hD]
    have heq : ∀ w, (binOp .eql 33 (.agg #[.string s, .int .i64 a, .int .i64 b]) (.agg #[.string { data := #[112, 111, 114, 116] }, .int .i64 0, .int .i64 16])).run Tryd.prog w = .ok (.bool D) w := fun w => by
      rw [eqlFd, ← hD]
      have hpl : (({ data := #[112, 111, 114, 116] } : ByteArray)).toList = [112, 111, 114, 116] := port_list
      rw [hpl]
    clear hr hC hD hz
    go_enter Tryd.func25, Tryd.ntmps25
    go_wp2_with (with_reducible refine wpList_box (o := ⟨some 1, .box 33 (.tmp 0), _, _, _, _⟩) ?g1qac 33 (.tmp 0) ?o1qac (.agg #[.string s, .int .i64 a, .int .i64 b]) [Value.string s, .int .i64 a, .int .i64 b] ?x1qac ?c1qac ?_)
    try (case g1qac => rfl)
    try (case o1qac => rfl)
    try (case x1qac => rfl)
    try (case c1qac => rfl)
    intro g1 w1 hg1 hs1 hb1 B1
    have hl1 : w.heap.size ≤ g1 := Nat.le_of_eq hg1.out.symm
    have hb1 := hb1.mono (Nat.le_of_eq hg1.out.symm)
    have hbe : Below w.heap.size w w1 := hb1
    clear hb1 hg1 hs1
    have z1_0 := B1.cell (k := 0) rfl
    have z1_1 := B1.cell (k := 1) rfl
    have z1_2 := B1.cell (k := 2) rfl
    go_wp2_with (with_reducible refine wpList_fd1 (o := ⟨some 5, .buildSlice 22 1 #[(0, .tmp 4)], _, _, _, _⟩) (by with_unfolding_all rfl) (.tmp 4) (by with_unfolding_all rfl) s a b (by with_unfolding_all rfl) ?_)
    intro g5 w2 hg5 hb2 B5
    clear z1_0 z1_1 z1_2
    have B1 := B1.next hb2 B1.lt
    have hbe := below_join hbe hb2
    clear hb2 hg5
    have HCK := Lib.hid (HCK.out g5 _ B5)
    go_wp2_with fail
    (with_reducible refine (HCK.out).mono ?_)
    rintro e w3 ⟨rfl, hb3⟩
    have B1 := B1.next hb3 B1.lt
    have hbe := below_join hbe hb3
    clear hb3
    clear B5
    go_wp2
    have hdd := below_drew w3
    have B1 := B1.next hdd B1.lt
    have hbe := below_join hbe hdd
    have zz1_1 : (Tryd.prog.info? 33).map (·.size) = some [Value.string s, .int .i64 a, .int .i64 b].length := (by first | exact Tryd.szF | (simp only [H_length, Pat.cells_length, List.length_append]; exact Tryd.szF))
    refine wp_region_held_drew (S := fun w' => w'.rangeAt g1 0 [Value.string s, .int .i64 a, .int .i64 b]) (by kernel_rfl) (blk_range B1) (fun hHeld => ?_)
    clear hdd
    generalize w3.drew = w4 at B1 hbe hHeld  ⊢
    refine wpAnyH_take (i := 0) (v := ?vqad0) rfl (by kernel_rfl) (by kernel_rfl) (by kernel_rfl) (fun _ _ _ h => h) (Or.inl ⟨by rfl, ?yqad0⟩) (by assumption) ?rqad0
    case yqad0 => intro w hSw; (try dsimp only at hSw); go_simp <;> (try with_reducible rfl)
    (try simp only [List.getElem_toArray, List.getElem_cons_zero, Act.put, List.setIfInBounds_toArray, List.set_cons_zero, List.set_cons_succ])
    refine wpAnyH_take (i := 1) (v := ?vqad1) rfl (by kernel_rfl) (by kernel_rfl) (by kernel_rfl) (fun _ _ _ h => h) (Or.inl ⟨by rfl, ?yqad1⟩) (by assumption) ?rqad1
    case yqad1 => intro w hSw; (try dsimp only at hSw); go_simp <;> (try with_reducible rfl)
    (try simp only [List.getElem_toArray, List.getElem_cons_succ, List.getElem_cons_zero, Act.put, List.setIfInBounds_toArray, List.set_cons_zero, List.set_cons_succ])
    refine wpAnyH_take (i := 2) (v := ?vqad2) rfl (by kernel_rfl) (by kernel_rfl) (by kernel_rfl) (fun _ _ _ h => h) (Or.inl ⟨by rfl, ?yqad2⟩) (by assumption) ?rqad2
    case yqad2 => intro w hSw; (try dsimp only at hSw); go_simp <;> (try with_reducible rfl)
    (try simp only [List.getElem_toArray, List.getElem_cons_succ, List.getElem_cons_zero, Act.put, List.setIfInBounds_toArray, List.set_cons_zero, List.set_cons_succ])
    refine' wpAnyH_take (i := 3) (v := _) rfl (by kernel_rfl) (by kernel_rfl) (by kernel_rfl) (fun _ _ _ h => h) (yieldsIf_load_mid (by rfl) _ _ (by rfl) _ _ (by rfl) _ _ ?Sqad3 ?uqad3 ?dqad3 ?iqad3) (by assumption) ?rqad3
    case Sqad3 => exact (by intro w h; exact h)
    case uqad3 => exact Tryd.underlying33
    case dqad3 => rfl
    case iqad3 => exact zz1_1
    (try simp only [List.getElem_toArray, List.getElem_cons_succ, List.getElem_cons_zero, Act.put, List.setIfInBounds_toArray, List.set_cons_zero, List.set_cons_succ])
    refine wpAnyH_ready (rs := [4]) (by kernel_rfl) (by simp) ?_
    refine AllReadyH.cons rfl (fun K hK => ?_) AllReadyH.nil
    go_simp
    go_wp2_with fail
    (with_reducible refine (rport_any _).mono ?_)
    rintro e w5 ⟨rfl, hb5⟩
    have B1 := B1.next hb5 B1.lt
    have hbe := below_join hbe hb5
    refine hK.out _ _ (blk_range B1) (fun hHeld => ?_)
    clear hK K hb5
    refine wpAnyH_take (i := 5) (v := ?vqad5) rfl (by kernel_rfl) (by kernel_rfl) (by kernel_rfl) (fun _ _ _ h => h) (Or.inl ⟨by rfl, ?yqad5⟩) (by assumption) ?rqad5
    case yqad5 => intro w hSw; (try dsimp only at hSw); go_simp <;> (try with_reducible rfl)
    (try simp only [List.getElem_toArray, List.getElem_cons_succ, List.getElem_cons_zero, Act.put, List.setIfInBounds_toArray, List.set_cons_zero, List.set_cons_succ])
    refine wpAnyH_take (i := 6) (v := ?vqad6) rfl (by kernel_rfl) (by kernel_rfl) (by kernel_rfl) (fun _ _ _ h => h) (Or.inl ⟨by rfl, ?yqad6⟩) (by assumption) ?rqad6
    case yqad6 => intro w hSw; (try dsimp only at hSw); go_simp <;> (try with_reducible rfl)
    (try simp only [List.getElem_toArray, List.getElem_cons_succ, List.getElem_cons_zero, Act.put, List.setIfInBounds_toArray, List.set_cons_zero, List.set_cons_succ])
    refine wpAnyH_take (i := 7) (v := ?vqad7) rfl (by kernel_rfl) (by kernel_rfl) (by kernel_rfl) (fun _ _ _ h => h) (Or.inl ⟨by rfl, ?yqad7⟩) (by assumption) ?rqad7
    case yqad7 => intro w hSw; (try dsimp only at hSw); go_simp <;> (try with_reducible rfl)
    (try simp only [List.getElem_toArray, List.getElem_cons_succ, List.getElem_cons_zero, Act.put, List.setIfInBounds_toArray, List.set_cons_zero, List.set_cons_succ])
    refine wpAnyH_done (by kernel_rfl) ?_ _
    clear hHeld zz1_1
    go_wp2
    go_ret
    exact ⟨rfl, hbe⟩
theorem run_rowI8 (w : World) (n : Int) : (Instr.buildSlice 38 1 #[(0, .int .i64 n)]).run Tryd.prog w = .ok (.slice (some ⟨w.heap.size, 0, none⟩) 1 1) (w.alloc (.cells [Value.int .i64 n].toArray 3)) := by kernel_rfl
theorem wpList_rowI8 {ops : Array Oper} {rest : List Oper} {o : Oper} {a : Act} {w : World} {Q : Exit → Act → World → Prop} (hgd : o.guard = none) (x : Operand) (ho : o.op = .buildSlice 38 1 #[(0, x)]) (n : Int) (hx : a.eval x = .int .i64 n)
    (h : ∀ g w', Hid (g = w.heap.size) → Below w.heap.size w w' → Blk w' g 3 [Value.int .i64 n] → wpList Tryd.prog ops Q rest (a.put o.dst (.slice (some ⟨g, 0, none⟩) 1 1)) w') : wpList Tryd.prog ops Q (o :: rest) a w := by
  refine wpList_plain hgd fun K hK => ?_
  have hr := run_rowI8 w n
  unfold Oper.wp execOp
  simp only [ho, List.map_toArray, List.map_cons, List.map_nil, hx, Sem.run_bind, Sem.run_pure, Result.andThen_ok, hr]
  exact hK _ _ (h _ _ rfl (below_new w _) (blk_new w _ _))
theorem infoInt8 : ∃ i, Tryd.prog.info? 3 = some i ∧ i.zero = some (.int .i64 0) ∧ i.size = 1 ∧ i.bytes = 8 := by
  have h : (Tryd.prog.info? 3).map (fun i => (i.zero, i.size, i.bytes)) = some (some (.int .i64 0), 1, 8) := by kernel_rfl
  cases hq : Tryd.prog.info? 3 with
  | none => simp [hq] at h
  | some i =>
    simp [hq] at h
    exact ⟨i, rfl, h.1, h.2.1, h.2.2⟩
theorem wpList_appI8 {ops : Array Oper} {rest : List Oper} {o : Oper} {a : Act} {w : World} {Q : Exit → Act → World → Prop} (hgd : o.guard = none) (s x : Operand)
    (ho : o.op = .call { callee := .builtin .append, args := #[s, x], argTypes := #[38, 38] }) (base : Nat) (v : Value) (n : Nat) (xs : List Value) (hs : a.eval s = v) (hown : w.ownsRow base 3 1 v n xs)
    (g : Nat) (u : Value) (hx : a.eval x = .slice (some ⟨g, 0, none⟩) 1 1) (hg : Blk w g 3 [u]) (h1 : u.oneCell' = true) (hn : n ≤ 1000) (hbase : base ≤ w.heap.size)
    (h : ∀ v' w', w'.ownsRow base 3 1 v' (n + 1) (xs ++ [u]) → w.grownBy w' v.ownBlock → wpList Tryd.prog ops Q rest (a.put o.dst v') w') : wpList Tryd.prog ops Q (o :: rest) a w := by
  refine wpList_plain hgd fun K hK => ?_
  obtain ⟨i, i1, i2, i3, i4⟩ := infoInt8
  obtain ⟨v', w', hr, r1, r2, _⟩ := run_append_own (P := Tryd.prog) w base 38 o.type 3 i _ 1 8 Tryd.underlying38 i1 i2 i3 i4 rfl (by decide) v n xs hown ⟨g, 0, none⟩ 1 1 [u] rfl (fun j y hy => by
    rw [addr_mid, Nat.zero_add]
    exact hg.cell hy) (one_cell1 h1) (by show n + 1 ≤ maxLen; unfold maxLen; omega) (by omega) hbase
  unfold Oper.wp
  simp [execOp, ho, resolve, invoke, builtin, hs, hx, hr, Result.andThen]
  exact hK _ _ (h v' w' r1 r2)
theorem below_grown8 {T : Nat} {w w' : World} {row : Option Nat} (h : w.grownBy w' row) (hr : ∀ g, row = some g → T ≤ g) (hT : T ≤ w.heap.size) : Below T w w' :=
  ⟨h.os, h.tape, h.output, h.size, fun k hk => h.block k (Nat.lt_of_lt_of_le hk hT) (fun e => by have := hr k e.symm; omega)⟩
theorem own_base8 {w : World} {base n size : Nat} {e : TypeId} {v : Value} {xs : List Value} (h : w.ownsRow base e size v n xs) : ∀ g, v.ownBlock = some g → base ≤ g ∧ g < w.heap.size := fun g hg => by
  obtain ⟨A, c, rfl, hA⟩ := own_shape h
  rcases hA with ⟨rfl, _, _⟩ | ⟨q, rfl, h1, h2⟩
  · cases hg
  · injection hg with hg
    subst hg
    exact ⟨h1, h2⟩
theorem own_next8 {w w' : World} {base n size : Nat} {e : TypeId} {v : Value} {xs : List Value} (h : w.ownsRow base e size v n xs) (hb : Below w.heap.size w w') : w'.ownsRow base e size v n xs := own_keep h fun g hg => hb.block g (own_base8 h g hg).2
/-- A list of names lies there. -/
def StAt (w : World) (A : Option Addr) (l : List ByteArray) : Prop := ∀ k s, l[k]? = some s → ∃ g o, A = some ⟨g, o, none⟩ ∧ w.cell? ⟨g, o + k, none⟩ = some (.string s)
theorem StAt.next {w w' : World} {A : Option Addr} {l : List ByteArray} (h : StAt w A l) (hb : Below w.heap.size w w') : StAt w' A l := fun k p hp => by
  obtain ⟨g, o, e, h1⟩ := h k p hp
  exact ⟨g, o, e, cellf_below hb h1⟩
def keyV (h : Nat → Bool) (f : Fd) : Int := (fieldN h f.at_.toNat f.wd.toNat : Int)
def keyL (l : List Fd) (h : Nat → Bool) : List ByteArray → Option (List Int)
  | [] => some []
  | nm :: r => match findM nm l with
    | none => none
    | some f => (keyL l h r).map (keyV h f :: ·)
theorem keyL_get {l : List Fd} {h : Nat → Bool} {ns : List ByteArray} {k : Nat} {nm : ByteArray} (hk : ns[k]? = some nm) : keyL l h (ns.drop k) = match findM nm l with
    | none => none
    | some f => (keyL l h (ns.drop (k + 1))).map (keyV h f :: ·) := by
  have hl := (List.getElem?_eq_some_iff.1 hk).1
  rw [List.drop_eq_getElem_cons hl, (List.getElem?_eq_some_iff.1 hk).2]
  rfl
def intV (n : Int) : Value := .int .i64 n
/-- What Key answers. -/
def KeyR (T : Nat) (r : Option (List Int)) (e : Ending) (w' : World) : Prop :=
  match r with
  | none => e = .returned (.tuple #[.slice none 0 0, .bool false])
  | some vs => ∃ A c, e = .returned (.tuple #[.slice A vs.length c, .bool true]) ∧ w'.ownsRow T 3 1 (.slice A vs.length c) vs.length (vs.map intV)
structure KeyI (l : List Fd) (h : Nat → Bool) (ns : List ByteArray) (g5 T : Nat) (w : World) (k : Nat) (vs : List Int) (A : Option Addr) (c : Nat) (wr : World) : Prop where
  len : vs.length = k
  val : keyL l h ns = (keyL l h (ns.drop k)).map (vs ++ ·)
  own : wr.ownsRow T 3 1 (.slice A vs.length c) vs.length (vs.map intV)
  b5 : Blk wr g5 30 (H h)
  size : T ≤ wr.heap.size
  below : Below w.heap.size w wr
def KeyRel (l : List Fd) (h : Nat → Bool) (ns : List ByteArray) (g5 T n : Nat) (w : World) (v i : Value) (wr : World) : Prop :=
  ∃ (k : Nat) (vs : List Int) (A : Option Addr) (c : Nat), k ≤ n ∧ i = .int .i64 (k : Int) ∧ v = .slice A vs.length c ∧ KeyI l h ns g5 T w k vs A c wr
theorem find_fits {l : List Fd} {nm : ByteArray} {f : Fd} (hr : ∀ f ∈ l, ∃ a n : Nat, f.at_ = (a : Int) ∧ f.wd = (n : Int) ∧ Lies a n) (h : findM nm l = some f) : ∃ a n : Nat, f.at_ = (a : Int) ∧ f.wd = (n : Int) ∧ Lies a n := by
  unfold findM at h
  split at h
  · injection h with h
    subst h
    exact ⟨0, 16, rfl, rfl, ⟨by decide, by decide, by decide⟩⟩
  · have : ∀ {l : List Fd}, findL nm l = some f → f ∈ l := by
      intro l
      induction l with
      | nil => intro h; cases h
      | cons x l ih =>
        intro h
        unfold findL at h
        split at h
        · injection h with h; subst h; exact List.mem_cons_self ..
        · exact List.mem_cons_of_mem _ (ih h)
    exact hr f (this h)
set_option maxRecDepth 100000 in
set_option maxHeartbeats 3200000 in
theorem key_any (A B : Option Addr) (c d : Nat) (l : List Fd) (ns : List ByteArray) (h : Nat → Bool) (w : World) (hl : l.length ≤ 140737488355328) (hn20 : ns.length ≤ 100) (hr : ∀ f ∈ l, ∃ a n : Nat, f.at_ = (a : Int) ∧ f.wd = (n : Int) ∧ Lies a n) (hS : FsAt w A l) (hT : StAt w B ns) :
    Calls Tryd.prog 20 #[.slice A l.length c, .slice B ns.length d, .agg (H h).toArray] w fun e w' => KeyR w.heap.size (keyL l h ns) e w' ∧ Below w.heap.size w w' := by
  obtain ⟨n, hn⟩ : ∃ n, Hid (ns.length = n) := ⟨_, rfl⟩
  obtain ⟨m, hm⟩ : ∃ m, Hid (l.length = m) := ⟨_, rfl⟩
  have HFI0 := Lib.hid (fun (nm : ByteArray) (w' : World) (h' : FsAt w' A l) => find_any A c l nm w' hl h')
  rw [hn.out] at hn20 ⊢
  rw [hm.out] at HFI0 ⊢
  have hni : (n : Int) ≤ 100 := by omega
  have HS := Lib.hid hS
  have HT := Lib.hid hT
  have HR := Lib.hid hr
  obtain ⟨K, hK⟩ : ∃ K, Hid (keyL l h ns = K) := ⟨_, rfl⟩
  rw [hK.out]
  clear hS hT hr hl
  go_enter Tryd.func20, Tryd.ntmps20
  go_wp2_with (with_reducible refine wpList_box (o := ⟨some 5, .box 30 (.tmp 2), _, _, _, _⟩) ?g5qae 30 (.tmp 2) ?o5qae (.agg (H h).toArray) (H h) ?x5qae ?c5qae ?_)
  try (case g5qae => rfl)
  try (case o5qae => rfl)
  try (case x5qae => rfl)
  try (case c5qae => rfl)
  intro g5 w1 hg5 hs1 hb1 B5
  have hl5 : w.heap.size ≤ g5 := Nat.le_of_eq hg5.out.symm
  have hb1 := hb1.mono (Nat.le_of_eq hg5.out.symm)
  have hbe : Below w.heap.size w w1 := hb1
  clear hb1 hg5 hs1
  obtain ⟨T, hTd⟩ : ∃ T, Hid (w1.heap.size = T) := ⟨_, rfl⟩
  have h5T : g5 < T := by rw [← hTd.out]; exact B5.lt
  have hwT : w.heap.size ≤ T := by rw [← hTd.out]; exact hbe.size
  have hI0 : KeyI l h ns g5 T w 0 [] none 0 w1 := ⟨rfl, by rw [List.drop_zero]; cases keyL l h ns <;> rfl, World.ownsRow_nil _ _ _ _, B5, by rw [hTd.out]; exact Nat.le_refl _, hbe⟩
  have H0 := Lib.hid hI0
  clear hI0 B5 hbe hTd
  go_wp2
  go_loopw [8, 15] (KeyRel l h ns g5 T n w) (fun _ i _ => n - (intOf i).toNat)
  case atStart => exact ⟨0, [], none, 0, Nat.zero_le _, rfl, rfl, H0.out⟩
  case round =>
    clear H0
    obtain ⟨k, vs, Av, cv, hk, rfl, rfl, hI⟩ := hrel
    have hlen := hI.len
    have hval := hI.val
    have hown := hI.own
    have B5 := hI.b5
    have hTr := hI.size
    have hbe := hI.below
    clear hI
    by_cases hlt : k < n
    · have hki : (k : Int) < (n : Int) := by omega
      have hk0 : (0 : Int) ≤ (k : Int) := by omega
      obtain ⟨nm, hnm⟩ : ∃ nm, ns[k]? = some nm := ⟨_, List.getElem?_eq_getElem (by rw [hn.out]; exact hlt)⟩
      obtain ⟨gb, ob, hB, cn⟩ := (HT.out.next hbe) k nm hnm
      subst hB
      have hkg := keyL_get (l := l) (h := h) hnm
      have HFI := Lib.hid (HFI0.out nm _ (HS.out.next hbe))
      cases hfm : findM nm l with
      | none =>
        have hK0 : Hid (K = none) := by
          have : K = none := by rw [← hK.out, hval, hkg, hfm]; rfl
          exact this
        rw [hfm] at HFI
        have HFI2 : Hid (Calls Tryd.prog 14 #[.slice A m c, .string nm] wr fun e w' => e = .returned (.tuple #[.agg #[.string ByteArray.empty, .int .i64 0, .int .i64 0], .bool false]) ∧ Below wr.heap.size wr w') := HFI
        clear HFI hfm hkg hval hown hlen hnm
        go_wp2_with fail
        (with_reducible refine (HFI2.out).mono ?_)
        rintro e w21 ⟨rfl, hb21⟩
        clear cn
        have B5 := B5.next hb21 B5.lt
        have hbe := below_join hbe hb21
        clear hb21
        go_wp2_with (with_reducible refine wpList_alloc (o := ⟨some 11, .alloc 33, _, _, _, _⟩) (by with_unfolding_all rfl) 33 (by with_unfolding_all rfl) (.agg #[.string ByteArray.empty, .int .i64 0, .int .i64 0]) [Value.string ByteArray.empty, .int .i64 0, .int .i64 0] (by exact Tryd.zeroF) (by with_unfolding_all rfl) ?_)
        intro g11 w22 hg11 hs22 hb22 B11
        have hl11 : w.heap.size ≤ g11 := Nat.le_trans hbe.size (Nat.le_of_eq hg11.out.symm)
        have ne5_11 : g5 ≠ g11 := by have := B5.lt; have := hg11.out; omega
        have ne11_5 := ne5_11.symm
        have hb22 := hb22.mono (Nat.le_of_eq hg11.out.symm)
        have B5 := B5.next hb22 B5.lt
        have hbe := below_join hbe hb22
        clear hb22 hg11 hs22
        go_wp2_with (with_reducible refine wpList_put (o := ⟨none, .store 33 (.tmp 11) (.tmp 23), _, _, _, _⟩) (by with_unfolding_all rfl) 33 (.tmp 11) (.tmp 23) (by with_unfolding_all rfl) g11 0 (by with_unfolding_all rfl) (.agg #[.string ByteArray.empty, .int .i64 0, .int .i64 0]) (by with_unfolding_all rfl) B11 [Value.string ByteArray.empty, .int .i64 0, .int .i64 0] (by with_unfolding_all rfl) (by with_unfolding_all (first | exact Tryd.szF | (simp only [H_length, Pat.cells_length, List.length_append]; exact Tryd.szF))) (by with_unfolding_all (first | exact Nat.le_refl 3 | (simp only [H_length, Pat.cells_length, List.length_append]; omega))) (by with_unfolding_all (exact fields_one _ _ _)) ?_)
        intro w23 hu23 C11
        rw [splice_all _ _ (by rfl)] at C11
        have B5 := B5.upd hu23 ne5_11
        have hbe := hbe.trans (hu23.below (B := w.heap.size) hl11)
        clear B11 hu23
        have B11 := C11
        clear C11
        go_wp2
        go_ret2
        exact ⟨by rw [hK0.out]; rfl, hbe⟩
      | some f =>
        obtain ⟨a, b, hfa, hfb, hLb⟩ := find_fits HR.out hfm
        obtain ⟨fm, fa, fb⟩ := f
        have hfa : fa = (a : Int) := hfa
        have hfb : fb = (b : Int) := hfb
        subst hfa hfb
        rw [hfm] at HFI hkg
        have HFI2 : Hid (Calls Tryd.prog 14 #[.slice A m c, .string nm] wr fun e w' => e = .returned (.tuple #[.agg #[.string fm, .int .i64 (a : Int), .int .i64 (b : Int)], .bool true]) ∧ Below wr.heap.size wr w') := HFI
        obtain ⟨V, hV⟩ : ∃ V, fieldN h a b = V := ⟨_, rfl⟩
        have HGE := Lib.hid (fun w' => get_any fm a b h w' hLb)
        rw [hV] at HGE
        have hkv : keyV h ⟨fm, (a : Int), (b : Int)⟩ = (V : Int) := by rw [← hV]; rfl
        have HVN : Hid (keyL l h ns = (keyL l h (ns.drop (k + 1))).map ((vs ++ [(V : Int)]) ++ ·)) := by
          have : keyL l h ns = (keyL l h (ns.drop (k + 1))).map ((vs ++ [(V : Int)]) ++ ·) := by
            rw [hval, hkg]
            show ((keyL l h (ns.drop (k + 1))).map (keyV h ⟨fm, (a : Int), (b : Int)⟩ :: ·)).map (vs ++ ·) = _
            rw [hkv, Option.map_map]
            congr 1
            funext x
            show vs ++ ((V : Int) :: x) = (vs ++ [(V : Int)]) ++ x
            rw [List.append_assoc]; rfl
          exact this
        obtain ⟨q, hq⟩ : ∃ q, Hid (vs.length = q) := ⟨_, rfl⟩
        rw [hq.out] at hlen hown ⊢
        obtain ⟨Y, hY⟩ : ∃ Y, Hid (vs.map intV = Y) := ⟨_, rfl⟩
        rw [hY.out] at hown
        have HOW := Lib.hid hown
        have HLEN := Lib.hid hlen
        have hq1 : q ≤ 1000 := by omega
        have hbr : Below wr.heap.size wr wr := Below.refl _ _
        clear HFI hfm hkg hval hown hlen hnm hkv hV
        go_wp2_with fail
        (with_reducible refine (HFI2.out).mono ?_)
        rintro e w21 ⟨rfl, hb21⟩
        clear cn
        have B5 := B5.next hb21 B5.lt
        have hbe := below_join hbe hb21
        have hbr := below_join hbr hb21
        clear hb21
        go_wp2_with (with_reducible refine wpList_alloc (o := ⟨some 11, .alloc 33, _, _, _, _⟩) (by with_unfolding_all rfl) 33 (by with_unfolding_all rfl) (.agg #[.string ByteArray.empty, .int .i64 0, .int .i64 0]) [Value.string ByteArray.empty, .int .i64 0, .int .i64 0] (by exact Tryd.zeroF) (by with_unfolding_all rfl) ?_)
        intro g11 w22 hg11 hs22 hb22 B11
        have hl11 : w.heap.size ≤ g11 := Nat.le_trans hbe.size (Nat.le_of_eq hg11.out.symm)
        have hr11 : wr.heap.size ≤ g11 := Nat.le_trans hbr.size (Nat.le_of_eq hg11.out.symm)
        have ne5_11 : g5 ≠ g11 := by have := B5.lt; have := hg11.out; omega
        have ne11_5 := ne5_11.symm
        have hb22 := hb22.mono (Nat.le_of_eq hg11.out.symm)
        have B5 := B5.next hb22 B5.lt
        have hbe := below_join hbe hb22
        have hbr := below_join hbr hb22
        clear hb22 hg11 hs22
        go_wp2_with (with_reducible refine wpList_put (o := ⟨none, .store 33 (.tmp 11) (.tmp 23), _, _, _, _⟩) (by with_unfolding_all rfl) 33 (.tmp 11) (.tmp 23) (by with_unfolding_all rfl) g11 0 (by with_unfolding_all rfl) (.agg #[.string fm, .int .i64 (a : Int), .int .i64 (b : Int)]) (by with_unfolding_all rfl) B11 [Value.string fm, .int .i64 (a : Int), .int .i64 (b : Int)] (by with_unfolding_all rfl) (by with_unfolding_all (first | exact Tryd.szF | (simp only [H_length, Pat.cells_length, List.length_append]; exact Tryd.szF))) (by with_unfolding_all (first | exact Nat.le_refl 3 | (simp only [H_length, Pat.cells_length, List.length_append]; omega))) (by with_unfolding_all (exact fields_one _ _ _)) ?_)
        intro w23 hu23 C11
        rw [splice_all _ _ (by rfl)] at C11
        have B5 := B5.upd hu23 ne5_11
        have hbe := hbe.trans (hu23.below (B := w.heap.size) hl11)
        have hbr := hbr.trans (hu23.below (B := wr.heap.size) hr11)
        clear B11 hu23
        have B11 := C11
        clear C11
        have z11_0 := B11.cell (k := 0) rfl
        have z11_1 := B11.cell (k := 1) rfl
        have z11_2 := B11.cell (k := 2) rfl
        go_wp2_with (first | (with_reducible refine wpList_getg (o := ⟨some 29, .load 30 (.tmp 5), _, _, _, _⟩) (by with_unfolding_all rfl) 30 (.tmp 5) (by with_unfolding_all rfl) g5 0 (by with_unfolding_all rfl) B5 (H h) (cs_all _) _ (by exact Tryd.underlying30) (by with_unfolding_all rfl) (by first | exact Tryd.szH | (simp only [H_length, Pat.cells_length, List.length_append]; exact Tryd.szH)) ?_))
        (with_reducible refine (HGE.out _).mono ?_)
        rintro e w24 ⟨rfl, hb24⟩
        clear z11_0 z11_1 z11_2
        have B5 := B5.next hb24 B5.lt
        have B11 := B11.next hb24 B11.lt
        have hbe := below_join hbe hb24
        have hbr := below_join hbr hb24
        clear hb24
        go_wp2_with (with_reducible refine wpList_rowI8 (o := ⟨some 31, .buildSlice 38 1 #[(0, .tmp 30)], _, _, _, _⟩) (by with_unfolding_all rfl) (.tmp 30) (by with_unfolding_all rfl) (V : Int) (by with_unfolding_all rfl) ?_)
        intro gi w25 hgi hb25 BI
        have B5 := B5.next hb25 B5.lt
        have B11 := B11.next hb25 B11.lt
        have hbe := below_join hbe hb25
        have hbr := below_join hbr hb25
        clear hgi hb25
        have HOW2 := Lib.hid (own_next8 HOW.out hbr)
        have hTs := Nat.le_trans hTr hbr.size
        go_wp2_with (with_reducible refine wpList_appI8 (o := ⟨some 32, .call ⟨.builtin .append, #[.tmp 27, .tmp 31], #[38, 38]⟩, _, _, _, _⟩) (by with_unfolding_all rfl) (.tmp 27) (.tmp 31) (by with_unfolding_all rfl) T (.slice Av q cv) q Y (by with_unfolding_all rfl) HOW2.out gi (.int .i64 (V : Int)) (by with_unfolding_all rfl) BI (by with_unfolding_all rfl) hq1 hTs ?_)
        intro vv wz hown9 hgr9
        obtain ⟨A9, c9, rfl, _⟩ := own_shape hown9
        have hb9 := below_grown8 hgr9 (fun g hg => (own_base8 HOW2.out g hg).1) hTs
        have B5 := B5.next hb9 h5T
        have hbz := hbe.trans (hb9.mono hwT)
        have hI9 : KeyI l h ns g5 T w (k + 1) (vs ++ [(V : Int)]) A9 c9 wz := by
          refine ⟨by rw [List.length_append, hq.out, HLEN.out]; rfl, HVN.out, ?_, B5, Nat.le_trans hTs hb9.size, hbz⟩
          rw [List.length_append, List.map_append, hq.out, hY.out]
          exact hown9
        have HI9 := Lib.hid hI9
        have HLL : Hid ((vs ++ [(V : Int)]).length = q + 1) := by
          have : (vs ++ [(V : Int)]).length = q + 1 := by rw [List.length_append, hq.out]; rfl
          exact this
        clear hown9 hgr9 hI9 HOW HOW2 B5 BI hb9 hbz
        go_wp2
        go_roundw
        case rel => exact ⟨k + 1, vs ++ [(V : Int)], A9, c9, by omega, by go_num, by rw [HLL.out], HI9.out⟩
        case measure => simp [intOf]; omega
    · obtain rfl : k = n := by omega
      have hK1 : Hid (K = some vs) := by
        have : K = some vs := by
          rw [← hK.out, hval, List.drop_eq_nil_of_le (by rw [hn.out]; exact Nat.le_refl _)]
          show some (vs ++ []) = _
          rw [List.append_nil]
        exact this
      have hown2 : wr.ownsRow w.heap.size 3 1 (.slice Av vs.length cv) vs.length (vs.map intV) := own_mono hown (fun g hg => Nat.le_trans hwT (own_base8 hown g hg).1)
      have HOW := Lib.hid hown2
      clear hval hown hown2 B5
      go_wp2
      go_ret2
      exact ⟨by rw [hK1.out]; exact ⟨Av, cv, rfl, HOW.out⟩, hbe⟩
set_option maxRecDepth 100000 in
set_option maxHeartbeats 3200000 in
theorem rkey_any (A B : Option Addr) (c d : Nat) (l : List Fd) (ns : List ByteArray) (h : Nat → Bool) (w : World) (hl : l.length ≤ 140737488355328) (hn20 : ns.length ≤ 100) (hr : ∀ f ∈ l, ∃ a n : Nat, f.at_ = (a : Int) ∧ f.wd = (n : Int) ∧ Lies a n) (hS : FsAt w A l) (hT : StAt w B ns) :
    Calls Tryd.prog 21 #[.slice A l.length c, .slice B ns.length d, .agg (H h).toArray] w fun e w' => KeyR w.heap.size (keyL l h ns) e w' ∧ Below w.heap.size w w' := by
  obtain ⟨n, hn⟩ : ∃ n, Hid (ns.length = n) := ⟨_, rfl⟩
  obtain ⟨m, hm⟩ : ∃ m, Hid (l.length = m) := ⟨_, rfl⟩
  have HFI0 := Lib.hid (fun (nm : ByteArray) (w' : World) (h' : FsAt w' A l) => rfind_any A c l nm w' hl h')
  rw [hn.out] at hn20 ⊢
  rw [hm.out] at HFI0 ⊢
  have hni : (n : Int) ≤ 100 := by omega
  have HS := Lib.hid hS
  have HT := Lib.hid hT
  have HR := Lib.hid hr
  obtain ⟨K, hK⟩ : ∃ K, Hid (keyL l h ns = K) := ⟨_, rfl⟩
  rw [hK.out]
  clear hS hT hr hl
  go_enter Tryd.func21, Tryd.ntmps21
  go_wp2_with (with_reducible refine wpList_box (o := ⟨some 5, .box 30 (.tmp 2), _, _, _, _⟩) ?g5qaf 30 (.tmp 2) ?o5qaf (.agg (H h).toArray) (H h) ?x5qaf ?c5qaf ?_)
  try (case g5qaf => rfl)
  try (case o5qaf => rfl)
  try (case x5qaf => rfl)
  try (case c5qaf => rfl)
  intro g5 w1 hg5 hs1 hb1 B5
  have hl5 : w.heap.size ≤ g5 := Nat.le_of_eq hg5.out.symm
  have hb1 := hb1.mono (Nat.le_of_eq hg5.out.symm)
  have hbe : Below w.heap.size w w1 := hb1
  clear hb1 hg5 hs1
  obtain ⟨T, hTd⟩ : ∃ T, Hid (w1.heap.size = T) := ⟨_, rfl⟩
  have h5T : g5 < T := by rw [← hTd.out]; exact B5.lt
  have hwT : w.heap.size ≤ T := by rw [← hTd.out]; exact hbe.size
  have hI0 : KeyI l h ns g5 T w 0 [] none 0 w1 := ⟨rfl, by rw [List.drop_zero]; cases keyL l h ns <;> rfl, World.ownsRow_nil _ _ _ _, B5, by rw [hTd.out]; exact Nat.le_refl _, hbe⟩
  have H0 := Lib.hid hI0
  clear hI0 B5 hbe hTd
  go_wp2
  go_loopw [8, 9] (KeyRel l h ns g5 T n w) (fun _ i _ => n - (intOf i).toNat)
  case atStart => exact ⟨0, [], none, 0, Nat.zero_le _, rfl, rfl, H0.out⟩
  case round =>
    clear H0
    obtain ⟨k, vs, Av, cv, hk, rfl, rfl, hI⟩ := hrel
    have hlen := hI.len
    have hval := hI.val
    have hown := hI.own
    have B5 := hI.b5
    have hTr := hI.size
    have hbe := hI.below
    clear hI
    by_cases hlt : k < n
    · have hki : (k : Int) < (n : Int) := by omega
      have hk0 : (0 : Int) ≤ (k : Int) := by omega
      obtain ⟨nm, hnm⟩ : ∃ nm, ns[k]? = some nm := ⟨_, List.getElem?_eq_getElem (by rw [hn.out]; exact hlt)⟩
      obtain ⟨gb, ob, hB, cn⟩ := (HT.out.next hbe) k nm hnm
      subst hB
      have hkg := keyL_get (l := l) (h := h) hnm
      have HFI := Lib.hid (HFI0.out nm _ (HS.out.next hbe))
      cases hfm : findM nm l with
      | none =>
        have hK0 : Hid (K = none) := by
          have : K = none := by rw [← hK.out, hval, hkg, hfm]; rfl
          exact this
        rw [hfm] at HFI
        have HFI2 : Hid (Calls Tryd.prog 15 #[.slice A m c, .string nm] wr fun e w' => e = .returned (.tuple #[.agg #[.string ByteArray.empty, .int .i64 0, .int .i64 0], .bool false]) ∧ Below wr.heap.size wr w') := HFI
        clear HFI hfm hkg hval hown hlen hnm
        go_wp2_with fail
        (with_reducible refine (HFI2.out).mono ?_)
        rintro e w21 ⟨rfl, hb21⟩
        clear cn
        have B5 := B5.next hb21 B5.lt
        have hbe := below_join hbe hb21
        clear hb21
        go_wp2_with (with_reducible refine wpList_alloc (o := ⟨some 10, .alloc 33, _, _, _, _⟩) (by with_unfolding_all rfl) 33 (by with_unfolding_all rfl) (.agg #[.string ByteArray.empty, .int .i64 0, .int .i64 0]) [Value.string ByteArray.empty, .int .i64 0, .int .i64 0] (by exact Tryd.zeroF) (by with_unfolding_all rfl) ?_)
        intro g10 w22 hg10 hs22 hb22 B10
        have hl10 : w.heap.size ≤ g10 := Nat.le_trans hbe.size (Nat.le_of_eq hg10.out.symm)
        have ne5_10 : g5 ≠ g10 := by have := B5.lt; have := hg10.out; omega
        have ne10_5 := ne5_10.symm
        have hb22 := hb22.mono (Nat.le_of_eq hg10.out.symm)
        have B5 := B5.next hb22 B5.lt
        have hbe := below_join hbe hb22
        clear hb22 hg10 hs22
        go_wp2_with (with_reducible refine wpList_put (o := ⟨none, .store 33 (.tmp 10) (.tmp 25), _, _, _, _⟩) (by with_unfolding_all rfl) 33 (.tmp 10) (.tmp 25) (by with_unfolding_all rfl) g10 0 (by with_unfolding_all rfl) (.agg #[.string ByteArray.empty, .int .i64 0, .int .i64 0]) (by with_unfolding_all rfl) B10 [Value.string ByteArray.empty, .int .i64 0, .int .i64 0] (by with_unfolding_all rfl) (by with_unfolding_all (first | exact Tryd.szF | (simp only [H_length, Pat.cells_length, List.length_append]; exact Tryd.szF))) (by with_unfolding_all (first | exact Nat.le_refl 3 | (simp only [H_length, Pat.cells_length, List.length_append]; omega))) (by with_unfolding_all (exact fields_one _ _ _)) ?_)
        intro w23 hu23 C10
        rw [splice_all _ _ (by rfl)] at C10
        have B5 := B5.upd hu23 ne5_10
        have hbe := hbe.trans (hu23.below (B := w.heap.size) hl10)
        clear B10 hu23
        have B10 := C10
        clear C10
        go_wp2
        go_ret2
        exact ⟨by rw [hK0.out]; rfl, hbe⟩
      | some f =>
        obtain ⟨a, b, hfa, hfb, hLb⟩ := find_fits HR.out hfm
        obtain ⟨fm, fa, fb⟩ := f
        have hfa : fa = (a : Int) := hfa
        have hfb : fb = (b : Int) := hfb
        subst hfa hfb
        rw [hfm] at HFI hkg
        have HFI2 : Hid (Calls Tryd.prog 15 #[.slice A m c, .string nm] wr fun e w' => e = .returned (.tuple #[.agg #[.string fm, .int .i64 (a : Int), .int .i64 (b : Int)], .bool true]) ∧ Below wr.heap.size wr w') := HFI
        obtain ⟨V, hV⟩ : ∃ V, fieldN h a b = V := ⟨_, rfl⟩
        have HGE := Lib.hid (fun w' => rget_any fm a b h w' hLb)
        rw [hV] at HGE
        have hkv : keyV h ⟨fm, (a : Int), (b : Int)⟩ = (V : Int) := by rw [← hV]; rfl
        have HVN : Hid (keyL l h ns = (keyL l h (ns.drop (k + 1))).map ((vs ++ [(V : Int)]) ++ ·)) := by
          have : keyL l h ns = (keyL l h (ns.drop (k + 1))).map ((vs ++ [(V : Int)]) ++ ·) := by
            rw [hval, hkg]
            show ((keyL l h (ns.drop (k + 1))).map (keyV h ⟨fm, (a : Int), (b : Int)⟩ :: ·)).map (vs ++ ·) = _
            rw [hkv, Option.map_map]
            congr 1
            funext x
            show vs ++ ((V : Int) :: x) = (vs ++ [(V : Int)]) ++ x
            rw [List.append_assoc]; rfl
          exact this
        obtain ⟨q, hq⟩ : ∃ q, Hid (vs.length = q) := ⟨_, rfl⟩
        rw [hq.out] at hlen hown ⊢
        obtain ⟨Y, hY⟩ : ∃ Y, Hid (vs.map intV = Y) := ⟨_, rfl⟩
        rw [hY.out] at hown
        have HOW := Lib.hid hown
        have HLEN := Lib.hid hlen
        have hq1 : q ≤ 1000 := by omega
        have hbr : Below wr.heap.size wr wr := Below.refl _ _
        clear HFI hfm hkg hval hown hlen hnm hkv hV
        go_wp2_with fail
        (with_reducible refine (HFI2.out).mono ?_)
        rintro e w21 ⟨rfl, hb21⟩
        clear cn
        have B5 := B5.next hb21 B5.lt
        have hbe := below_join hbe hb21
        have hbr := below_join hbr hb21
        clear hb21
        go_wp2_with (with_reducible refine wpList_alloc (o := ⟨some 10, .alloc 33, _, _, _, _⟩) (by with_unfolding_all rfl) 33 (by with_unfolding_all rfl) (.agg #[.string ByteArray.empty, .int .i64 0, .int .i64 0]) [Value.string ByteArray.empty, .int .i64 0, .int .i64 0] (by exact Tryd.zeroF) (by with_unfolding_all rfl) ?_)
        intro g10 w22 hg10 hs22 hb22 B10
        have hl10 : w.heap.size ≤ g10 := Nat.le_trans hbe.size (Nat.le_of_eq hg10.out.symm)
        have hr10 : wr.heap.size ≤ g10 := Nat.le_trans hbr.size (Nat.le_of_eq hg10.out.symm)
        have ne5_10 : g5 ≠ g10 := by have := B5.lt; have := hg10.out; omega
        have ne10_5 := ne5_10.symm
        have hb22 := hb22.mono (Nat.le_of_eq hg10.out.symm)
        have B5 := B5.next hb22 B5.lt
        have hbe := below_join hbe hb22
        have hbr := below_join hbr hb22
        clear hb22 hg10 hs22
        go_wp2_with (with_reducible refine wpList_put (o := ⟨none, .store 33 (.tmp 10) (.tmp 25), _, _, _, _⟩) (by with_unfolding_all rfl) 33 (.tmp 10) (.tmp 25) (by with_unfolding_all rfl) g10 0 (by with_unfolding_all rfl) (.agg #[.string fm, .int .i64 (a : Int), .int .i64 (b : Int)]) (by with_unfolding_all rfl) B10 [Value.string fm, .int .i64 (a : Int), .int .i64 (b : Int)] (by with_unfolding_all rfl) (by with_unfolding_all (first | exact Tryd.szF | (simp only [H_length, Pat.cells_length, List.length_append]; exact Tryd.szF))) (by with_unfolding_all (first | exact Nat.le_refl 3 | (simp only [H_length, Pat.cells_length, List.length_append]; omega))) (by with_unfolding_all (exact fields_one _ _ _)) ?_)
        intro w23 hu23 C10
        rw [splice_all _ _ (by rfl)] at C10
        have B5 := B5.upd hu23 ne5_10
        have hbe := hbe.trans (hu23.below (B := w.heap.size) hl10)
        have hbr := hbr.trans (hu23.below (B := wr.heap.size) hr10)
        clear B10 hu23
        have B10 := C10
        clear C10
        have z10_0 := B10.cell (k := 0) rfl
        have z10_1 := B10.cell (k := 1) rfl
        have z10_2 := B10.cell (k := 2) rfl
        go_wp2_with (first | (with_reducible refine wpList_getg (o := ⟨some 31, .load 30 (.tmp 5), _, _, _, _⟩) (by with_unfolding_all rfl) 30 (.tmp 5) (by with_unfolding_all rfl) g5 0 (by with_unfolding_all rfl) B5 (H h) (cs_all _) _ (by exact Tryd.underlying30) (by with_unfolding_all rfl) (by first | exact Tryd.szH | (simp only [H_length, Pat.cells_length, List.length_append]; exact Tryd.szH)) ?_))
        (with_reducible refine (HGE.out _).mono ?_)
        rintro e w24 ⟨rfl, hb24⟩
        clear z10_0 z10_1 z10_2
        have B5 := B5.next hb24 B5.lt
        have B10 := B10.next hb24 B10.lt
        have hbe := below_join hbe hb24
        have hbr := below_join hbr hb24
        clear hb24
        go_wp2_with (with_reducible refine wpList_rowI8 (o := ⟨some 33, .buildSlice 38 1 #[(0, .tmp 32)], _, _, _, _⟩) (by with_unfolding_all rfl) (.tmp 32) (by with_unfolding_all rfl) (V : Int) (by with_unfolding_all rfl) ?_)
        intro gi w25 hgi hb25 BI
        have B5 := B5.next hb25 B5.lt
        have B10 := B10.next hb25 B10.lt
        have hbe := below_join hbe hb25
        have hbr := below_join hbr hb25
        clear hgi hb25
        have HOW2 := Lib.hid (own_next8 HOW.out hbr)
        have hTs := Nat.le_trans hTr hbr.size
        go_wp2_with (with_reducible refine wpList_appI8 (o := ⟨some 34, .call ⟨.builtin .append, #[.tmp 29, .tmp 33], #[38, 38]⟩, _, _, _, _⟩) (by with_unfolding_all rfl) (.tmp 29) (.tmp 33) (by with_unfolding_all rfl) T (.slice Av q cv) q Y (by with_unfolding_all rfl) HOW2.out gi (.int .i64 (V : Int)) (by with_unfolding_all rfl) BI (by with_unfolding_all rfl) hq1 hTs ?_)
        intro vv wz hown9 hgr9
        obtain ⟨A9, c9, rfl, _⟩ := own_shape hown9
        have hb9 := below_grown8 hgr9 (fun g hg => (own_base8 HOW2.out g hg).1) hTs
        have B5 := B5.next hb9 h5T
        have hbz := hbe.trans (hb9.mono hwT)
        have hI9 : KeyI l h ns g5 T w (k + 1) (vs ++ [(V : Int)]) A9 c9 wz := by
          refine ⟨by rw [List.length_append, hq.out, HLEN.out]; rfl, HVN.out, ?_, B5, Nat.le_trans hTs hb9.size, hbz⟩
          rw [List.length_append, List.map_append, hq.out, hY.out]
          exact hown9
        have HI9 := Lib.hid hI9
        have HLL : Hid ((vs ++ [(V : Int)]).length = q + 1) := by
          have : (vs ++ [(V : Int)]).length = q + 1 := by rw [List.length_append, hq.out]; rfl
          exact this
        clear hown9 hgr9 hI9 HOW HOW2 B5 BI hb9 hbz
        go_wp2
        go_roundw
        case rel => exact ⟨k + 1, vs ++ [(V : Int)], A9, c9, by omega, by go_num, by rw [HLL.out], HI9.out⟩
        case measure => simp [intOf]; omega
    · obtain rfl : k = n := by omega
      have hK1 : Hid (K = some vs) := by
        have : K = some vs := by
          rw [← hK.out, hval, List.drop_eq_nil_of_le (by rw [hn.out]; exact Nat.le_refl _)]
          show some (vs ++ []) = _
          rw [List.append_nil]
        exact this
      have hown2 : wr.ownsRow w.heap.size 3 1 (.slice Av vs.length cv) vs.length (vs.map intV) := own_mono hown (fun g hg => Nat.le_trans hwT (own_base8 hown g hg).1)
      have HOW := Lib.hid hown2
      clear hval hown hown2 B5
      go_wp2
      go_ret2
      exact ⟨by rw [hK1.out]; exact ⟨Av, cv, rfl, HOW.out⟩, hbe⟩
end Go.Proofs.YtbgndopgllnmaaaDoor

/-
  Contracts of the walks over SameInts, SamePatterns, Range of both sides and Example. Conditions: lists that are not too long.
-/
namespace Go.Proofs.YtbgndopgllnmaaaDoor
set_option linter.unusedVariables false
set_option linter.unusedSimpArgs false
open Go.RowKit Go.Shelf

set_option maxRecDepth 100000 in
set_option maxHeartbeats 1600000 in
theorem sameP_any (A B : Option Addr) (c d : Nat) (l r : List Pat) (w : World) (hl : l.length ≤ 140737488355328) (hr : r.length ≤ 140737488355328) (hS : PatsAt w A l) (hS2 : PatsAt w B r) :
    Calls Tryd.prog 34 #[.slice A l.length c, .slice B r.length d] w fun e w' => e = .returned (.bool (samePs l r)) ∧ Below w.heap.size w w' := by
  obtain ⟨D, hD⟩ : ∃ D, Hid (samePs l r = D) := ⟨_, rfl⟩
  rw [hD.out]
  have HS := Lib.hid hS
  have HS2 := Lib.hid hS2
  obtain ⟨n, hn⟩ : ∃ n, Hid (l.length = n) := ⟨_, rfl⟩
  obtain ⟨m, hm⟩ : ∃ m, Hid (r.length = m) := ⟨_, rfl⟩
  rw [hn.out] at hl ⊢
  rw [hm.out] at hr ⊢
  clear hS hS2
  go_enter Tryd.func34, Tryd.ntmps34
  by_cases hnm : n = m
  · subst hnm
    go_wp2
    go_loopw [5] (RSameRel l r n w) (fun i _ => n - (intOf i).toNat)
    case atStart => exact ⟨0, Nat.zero_le _, rfl, fun j p q hj => absurd hj (Nat.not_lt_zero j), Below.refl _ _⟩
    case round =>
      obtain ⟨k, hk, rfl, hz, hbel⟩ := hrel
      have HZ := Lib.hid hz
      clear hz
      by_cases hlt : k < n
      · have hki : (k : Int) < (n : Int) := by omega
        obtain ⟨p, hp⟩ : ∃ p, l[k]? = some p := ⟨_, List.getElem?_eq_getElem (by rw [hn.out]; exact hlt)⟩
        obtain ⟨q, hq⟩ : ∃ q, r[k]? = some q := ⟨_, List.getElem?_eq_getElem (by rw [hm.out]; exact hlt)⟩
        obtain ⟨ga, oa, rfl, hca⟩ := (HS.out.next hbel) k p hp
        obtain ⟨gb, ob, rfl, hcb⟩ := (HS2.out.next hbel) k q hq
        obtain ⟨E, hE⟩ : ∃ E, Hid (p.same q = E) := ⟨_, rfl⟩
        have hneq : ∀ w, (binOp .neq 48 (.agg p.cells.toArray) (.agg q.cells.toArray)).run Tryd.prog w = .ok (.bool (!E)) w := fun w => by rw [neq_pat, ← hE.out]; rfl
        have hgd := Tryd.guardP
        have HPk := Lib.hid hp
        have HQk := Lib.hid hq
        have hun := Tryd.underlying48
        have hz1 : (Tryd.prog.info? 48).map (·.size) = some p.cells.length := by rw [Pat.cells_length]; exact Tryd.szP
        have hz2 : (Tryd.prog.info? 48).map (·.size) = some q.cells.length := by rw [Pat.cells_length]; exact Tryd.szP
        clear hp hq
        go_wp2
        have hdd := below_drew wr
        refine wp_region_held_drew (S := fun w' => w'.rangeAt ga (oa + k * 20) p.cells ∧ w'.rangeAt gb (ob + k * 20) q.cells) (by kernel_rfl) ⟨hca, hcb⟩ (fun hHeld => ?_)
        generalize wr.drew = wd at hdd hHeld ⊢
        clear hca hcb
        refine wpAnyH_take (i := 0) (v := ?vv0) rfl (by kernel_rfl) (by kernel_rfl) (by kernel_rfl) (fun _ _ _ h => h) (Or.inl ⟨by rfl, ?yv0⟩) (by assumption) ?rv0
        case yv0 => intro w hSw; (try dsimp only at hSw); go_simp <;> (try with_reducible rfl)
        (try simp only [List.getElem_toArray, List.getElem_cons_zero, Act.put, List.setIfInBounds_toArray, List.set_cons_zero, List.set_cons_succ])
        refine wpAnyH_take (i := 1) (v := ?vv1) rfl (by kernel_rfl) (by kernel_rfl) (by kernel_rfl) (fun _ _ _ h => h) (Or.inl ⟨by rfl, ?yv1⟩) (by assumption) ?rv1
        case yv1 => intro w hSw; (try dsimp only at hSw); go_simp <;> (try with_reducible rfl)
        (try simp only [List.getElem_toArray, List.getElem_cons_succ, List.getElem_cons_zero, Act.put, List.setIfInBounds_toArray, List.set_cons_zero, List.set_cons_succ])
        refine wpAnyH_take (i := 2) (v := ?vv2) rfl (by kernel_rfl) (by kernel_rfl) (by kernel_rfl) (fun _ _ _ h => h) (Or.inl ⟨by rfl, ?yv2⟩) (by assumption) ?rv2
        case yv2 => intro w hSw; (try dsimp only at hSw); go_simp <;> (try with_reducible rfl)
        (try simp only [List.getElem_toArray, List.getElem_cons_succ, List.getElem_cons_zero, Act.put, List.setIfInBounds_toArray, List.set_cons_zero, List.set_cons_succ])
        refine' wpAnyH_take (i := 3) (v := _) rfl (by kernel_rfl) (by kernel_rfl) (by kernel_rfl) (fun _ _ _ h => h) (yieldsIf_load_mid (by rfl) _ _ (by rfl) _ _ (by rfl) _ _ ?Sv3 ?uv3 ?dv3 ?iv3) (by assumption) ?rv3
        case Sv3 => exact (by intro w h; exact h.1)
        case uv3 => exact hun
        case dv3 => rfl
        case iv3 => exact hz1
        (try simp only [List.getElem_toArray, List.getElem_cons_succ, List.getElem_cons_zero, Act.put, List.setIfInBounds_toArray, List.set_cons_zero, List.set_cons_succ])
        refine wpAnyH_take (i := 4) (v := ?vv4) rfl (by kernel_rfl) (by kernel_rfl) (by kernel_rfl) (fun _ _ _ h => h) (Or.inl ⟨by rfl, ?yv4⟩) (by assumption) ?rv4
        case yv4 => intro w hSw; (try dsimp only at hSw); go_simp <;> (try with_reducible rfl)
        (try simp only [List.getElem_toArray, List.getElem_cons_succ, List.getElem_cons_zero, Act.put, List.setIfInBounds_toArray, List.set_cons_zero, List.set_cons_succ])
        refine wpAnyH_take (i := 5) (v := ?vv5) rfl (by kernel_rfl) (by kernel_rfl) (by kernel_rfl) (fun _ _ _ h => h) (Or.inl ⟨by rfl, ?yv5⟩) (by assumption) ?rv5
        case yv5 => intro w hSw; (try dsimp only at hSw); go_simp <;> (try with_reducible rfl)
        (try simp only [List.getElem_toArray, List.getElem_cons_succ, List.getElem_cons_zero, Act.put, List.setIfInBounds_toArray, List.set_cons_zero, List.set_cons_succ])
        refine wpAnyH_take (i := 6) (v := ?vv6) rfl (by kernel_rfl) (by kernel_rfl) (by kernel_rfl) (fun _ _ _ h => h) (Or.inl ⟨by rfl, ?yv6⟩) (by assumption) ?rv6
        case yv6 => intro w hSw; (try dsimp only at hSw); go_simp <;> (try with_reducible rfl)
        (try simp only [List.getElem_toArray, List.getElem_cons_succ, List.getElem_cons_zero, Act.put, List.setIfInBounds_toArray, List.set_cons_zero, List.set_cons_succ])
        refine' wpAnyH_take (i := 7) (v := _) rfl (by kernel_rfl) (by kernel_rfl) (by kernel_rfl) (fun _ _ _ h => h) (yieldsIf_load_mid (by rfl) _ _ (by rfl) _ _ (by rfl) _ _ ?Sv7 ?uv7 ?dv7 ?iv7) (by assumption) ?rv7
        case Sv7 => exact (by intro w h; exact h.2)
        case uv7 => exact hun
        case dv7 => rfl
        case iv7 => exact hz2
        (try simp only [List.getElem_toArray, List.getElem_cons_succ, List.getElem_cons_zero, Act.put, List.setIfInBounds_toArray, List.set_cons_zero, List.set_cons_succ])
        refine wpAnyH_take (i := 8) (v := ?vv8) rfl (by kernel_rfl) (by kernel_rfl) (by kernel_rfl) (fun _ _ _ h => h) (Or.inl ⟨by rfl, ?yv8⟩) (by assumption) ?rv8
        case yv8 => intro w hSw; (try dsimp only at hSw); go_simp <;> (try with_reducible rfl)
        (try simp only [List.getElem_toArray, List.getElem_cons_succ, List.getElem_cons_zero, Act.put, List.setIfInBounds_toArray, List.set_cons_zero, List.set_cons_succ])
        refine wpAnyH_done (by kernel_rfl) ?_ _
        have hbel2 := hbel.trans (hdd.mono hbel.size)
        clear hneq hbel hdd
        rcases E with _ | _
        · have hno : Hid (D = false) := by
            have : D = false := by
              rw [← hD.out, Bool.eq_false_iff]
              intro hall
              have := (samePs_iff (by rw [hn.out, hm.out])).1 hall k p q HPk.out HQk.out
              rw [hE.out] at this
              cases this
            exact this
          go_wp2
          go_ret
          exact ⟨by rw [hno.out]; rfl, hbel2⟩
        · go_wp2
          go_roundw
          case rel => exact ⟨k + 1, by omega, by go_num, fun j a b hj ha hb => by
            by_cases e : j = k
            · rw [e, HPk.out] at ha
              rw [e, HQk.out] at hb
              injection ha with ha
              injection hb with hb
              rw [← ha, ← hb]; exact hE.out
            · exact HZ.out j a b (by omega) ha hb, hbel2⟩
          case measure => simp [intOf]; omega
      · obtain rfl : k = n := by omega
        have hyes : Hid (D = true) := by
          have : D = true := by
            rw [← hD.out]
            exact (samePs_iff (by rw [hn.out, hm.out])).2 fun j a b ha hb => HZ.out j a b (by rw [← hn.out]; exact (List.getElem?_eq_some_iff.1 ha).1) ha hb
          exact this
        go_wp2
        go_ret
        exact ⟨by rw [hyes.out]; rfl, hbel⟩
  · have hne : ((n : Int) != (m : Int)) = true := bne_iff_ne.2 (by omega)
    have hno : Hid (D = false) := by
      have : D = false := by
        rw [← hD.out, Bool.eq_false_iff]
        intro hall
        have := samePs_len hall
        rw [hn.out, hm.out] at this
        exact hnm this
      exact this
    go_wp2
    go_ret
    exact ⟨by rw [hno.out]; rfl, Below.refl _ _⟩

/-- A list of ints lies there. -/
def IsAt (w : World) (A : Option Addr) (l : List Int) : Prop := ∀ k x, l[k]? = some x → ∃ g o, A = some ⟨g, o, none⟩ ∧ w.cell? ⟨g, o + k, none⟩ = some (.int .i64 x)
theorem IsAt.next {w w' : World} {A : Option Addr} {l : List Int} (h : IsAt w A l) (hb : Below w.heap.size w w') : IsAt w' A l := fun k p hp => by
  obtain ⟨g, o, e, h1⟩ := h k p hp
  exact ⟨g, o, e, cellf_below hb h1⟩
theorem own_ints {w : World} {T : Nat} {l : List Int} {A : Option Addr} {c : Nat} (h : w.ownsRow T 3 1 (.slice A l.length c) l.length (l.map intV)) : IsAt w A l := fun k x hx => by
  have hi := (List.getElem?_eq_some_iff.1 hx).1
  have hl := h.1
  rcases h.2 with ⟨_, h0⟩ | ⟨g, cap, cur, hv, hb, h3, _, _, _, ht⟩
  · omega
  · injection hv with hA _ _
    refine ⟨g, 0, hA, ?_⟩
    have hy : (l.map intV)[k]? = some (.int .i64 x) := by rw [List.getElem?_map, hx]; rfl
    rw [Nat.zero_add, cell_of_row w g k cur 3 (0, 0) h3]
    rw [← ht, List.getElem?_take, if_pos (by omega)] at hy
    simpa using hy
def SiRel (a b : List Int) (w : World) (i : Value) (wr : World) : Prop := ∃ k : Nat, k ≤ a.length ∧ i = .int .i64 (k : Int) ∧ (∀ j, j < k → a[j]? = b[j]?) ∧ Below w.heap.size w wr
set_option maxRecDepth 100000 in
set_option maxHeartbeats 1600000 in
theorem sameI_any (A B : Option Addr) (c d : Nat) (a b : List Int) (w : World) (ha : a.length ≤ 140737488355328) (hb : b.length ≤ 140737488355328) (hA : IsAt w A a) (hB : IsAt w B b) :
    Calls Tryd.prog 22 #[.slice A a.length c, .slice B b.length d] w fun e w' => e = .returned (.bool (decide (a = b))) ∧ Below w.heap.size w w' := by
  obtain ⟨D, hD⟩ : ∃ D, Hid (decide (a = b) = D) := ⟨_, rfl⟩
  rw [hD.out]
  have HA := Lib.hid hA
  have HB := Lib.hid hB
  obtain ⟨n, hn⟩ : ∃ n, Hid (a.length = n) := ⟨_, rfl⟩
  obtain ⟨m, hm⟩ : ∃ m, Hid (b.length = m) := ⟨_, rfl⟩
  rw [hn.out] at ha ⊢
  rw [hm.out] at hb ⊢
  clear hA hB
  by_cases hnm : n = m
  · subst hnm
    have H0 : Hid (SiRel a b w (.int .i64 0) w) := (⟨0, Nat.zero_le _, rfl, fun j hj => absurd hj (Nat.not_lt_zero _), Below.refl _ _⟩ : SiRel a b w (.int .i64 0) w)
    go_enter Tryd.func22, Tryd.ntmps22
    go_wp2
    go_loopw [5] (SiRel a b w) (fun i _ => n - (intOf i).toNat)
    case atStart => exact H0.out
    case round =>
      clear H0
      obtain ⟨k, hk, rfl, hz, hbe⟩ := hrel
      rw [hn.out] at hk
      have HZ := Lib.hid hz
      clear hz
      by_cases hlt : k < n
      · have hki : (k : Int) < (n : Int) := by omega
        have hk0 : (0 : Int) ≤ (k : Int) := by omega
        obtain ⟨x, hx⟩ : ∃ x, a[k]? = some x := ⟨_, List.getElem?_eq_getElem (by rw [hn.out]; exact hlt)⟩
        obtain ⟨y, hy⟩ : ∃ y, b[k]? = some y := ⟨_, List.getElem?_eq_getElem (by rw [hm.out]; exact hlt)⟩
        obtain ⟨ga, oa, e1, c0⟩ := (HA.out.next hbe) k x hx
        obtain ⟨gb, ob, e2, d0⟩ := (HB.out.next hbe) k y hy
        subst e1 e2
        by_cases hxy : x = y
        · subst hxy
          have HN : Hid (∀ j, j < k + 1 → a[j]? = b[j]?) := by
            have : ∀ j, j < k + 1 → a[j]? = b[j]? := fun j hj => by
              rcases (by omega : j < k ∨ j = k) with h | rfl
              · exact HZ.out j h
              · rw [hx, hy]
            exact this
          clear hx hy HZ
          go_wp2
          go_quiet (fail)
          have hdd := hbe.trans ((below_drewN wr nq).mono hbe.size)
          go_wp2
          go_roundw
          case rel => exact ⟨k + 1, by rw [hn.out]; omega, by go_num, HN.out, hdd⟩
          case measure => simp [intOf]; omega
        · have hne : (x != y) = true := by rw [bne_iff_ne]; exact hxy
          have hno : Hid (D = false) := by
            have : D = false := by
              rw [← hD.out]
              exact decide_eq_false fun e => hxy (by rw [e] at hx; rw [hx] at hy; injection hy)
            exact this
          clear hx hy HZ hxy
          go_wp2
          go_quiet (fail)
          have hdd := hbe.trans ((below_drewN wr nq).mono hbe.size)
          go_wp2
          go_ret
          exact ⟨by rw [hno.out]; rfl, hdd⟩
      · obtain rfl : k = n := by omega
        have hyes : Hid (D = true) := by
          have : D = true := by
            rw [← hD.out]
            refine decide_eq_true (List.ext_getElem? fun j => ?_)
            rcases Nat.lt_or_ge j k with h | h
            · exact HZ.out j h
            · rw [List.getElem?_eq_none (by rw [hn.out]; exact h), List.getElem?_eq_none (by rw [hm.out]; exact h)]
          exact this
        go_wp2
        go_ret
        exact ⟨by rw [hyes.out]; rfl, hbe⟩
  · have hne : ((n : Int) != (m : Int)) = true := bne_iff_ne.2 (by omega)
    have hne2 : (n != m) = true := bne_iff_ne.2 hnm
    have hno : Hid (D = false) := by
      have : D = false := by
        rw [← hD.out]
        exact decide_eq_false fun e => hnm (by rw [← hn.out, ← hm.out, e])
      exact this
    go_enter Tryd.func22, Tryd.ntmps22
    go_wp2
    go_ret
    exact ⟨by rw [hno.out]; rfl, Below.refl _ _⟩
/-- The patterns of a range of values. -/
def rangeF (a n lo hi : Nat) : List Pat := if lo ≤ hi then rangeL a n lo hi else []
theorem not_range {a n lo hi : Nat} (h : ¬ lo ≤ hi) : ¬ rangeOk (a : Int) (n : Int) (lo : Int) (hi : Int) := fun k => h (by have := k.2.2.2.2.2.2.1; omega)
set_option maxRecDepth 100000 in
set_option maxHeartbeats 3200000 in
theorem frange_any (s : ByteArray) (a n lo hi : Nat) (w : World) (h : Lies a n) (hhi : hi < 2 ^ n) :
    Calls Tryd.prog 30 #[.agg #[.string s, .int .i64 (a : Int), .int .i64 (n : Int)], .int .i64 (lo : Int), .int .i64 (hi : Int)] w fun e w' => ∃ A c, (e = .returned (.slice A (rangeF a n lo hi).length c) ∧ PatsAt w' A (rangeF a n lo hi)) ∧ Below w.heap.size w w' := by
  by_cases hlo : lo ≤ hi
  · have hr : rangeF a n lo hi = rangeL a n lo hi := if_pos hlo
    rw [hr]
    have HG := Lib.hid (fun w => range_any a n lo hi w h.one h.word h.head hlo hhi)
    obtain ⟨L, hL⟩ : ∃ L, Hid (rangeL a n lo hi = L) := ⟨_, rfl⟩
    rw [hL.out] at HG ⊢
    clear hr h hhi hlo
    go_enter Tryd.func30, Tryd.ntmps30
    go_wp2_with (with_reducible refine wpList_box (o := ⟨some 3, .box 33 (.tmp 0), _, _, _, _⟩) ?g3 33 (.tmp 0) ?o3 (.agg #[.string s, .int .i64 (a : Int), .int .i64 (n : Int)]) [Value.string s, .int .i64 (a : Int), .int .i64 (n : Int)] ?x3 ?c3 ?_)
    try (case g3 => rfl)
    try (case o3 => rfl)
    try (case x3 => rfl)
    try (case c3 => rfl)
    intro g3 w1 hg3 hs1 hb1 B3
    have hl3 : w.heap.size ≤ g3 := Nat.le_of_eq hg3.out.symm
    have hb1 := hb1.mono (Nat.le_of_eq hg3.out.symm)
    have hbe : Below w.heap.size w w1 := hb1
    clear hb1 hg3 hs1
    have z3_0 := B3.cell (k := 0) rfl
    have z3_1 := B3.cell (k := 1) rfl
    have z3_2 := B3.cell (k := 2) rfl
    go_wp2_with fail
    (with_reducible refine (HG.out _).mono ?_)
    rintro e w5 ⟨A, c, rfl, hown, hb5⟩
    have hbe := below_join hbe hb5
    have HP := Lib.hid (own_pats hown)
    clear hown
    go_wp2
    go_ret
    exact ⟨A, c, ⟨rfl, HP.out⟩, hbe⟩
  · have hr : rangeF a n lo hi = [] := if_neg hlo
    rw [hr]
    have HG := Lib.hid (fun w => range_bad (a : Int) (n : Int) (lo : Int) (hi : Int) w (not_range hlo))
    clear hr h hhi hlo
    go_enter Tryd.func30, Tryd.ntmps30
    go_wp2_with (with_reducible refine wpList_box (o := ⟨some 3, .box 33 (.tmp 0), _, _, _, _⟩) ?g3 33 (.tmp 0) ?o3 (.agg #[.string s, .int .i64 (a : Int), .int .i64 (n : Int)]) [Value.string s, .int .i64 (a : Int), .int .i64 (n : Int)] ?x3 ?c3 ?_)
    try (case g3 => rfl)
    try (case o3 => rfl)
    try (case x3 => rfl)
    try (case c3 => rfl)
    intro g3 w1 hg3 hs1 hb1 B3
    have hl3 : w.heap.size ≤ g3 := Nat.le_of_eq hg3.out.symm
    have hb1 := hb1.mono (Nat.le_of_eq hg3.out.symm)
    have hbe : Below w.heap.size w w1 := hb1
    clear hb1 hg3 hs1
    have z3_0 := B3.cell (k := 0) rfl
    have z3_1 := B3.cell (k := 1) rfl
    have z3_2 := B3.cell (k := 2) rfl
    go_wp2_with fail
    (with_reducible refine (HG.out _).mono ?_)
    rintro e w5 ⟨rfl, rfl⟩
    go_wp2
    go_ret
    exact ⟨none, 0, ⟨rfl, fun k p hp => by cases hp⟩, hbe⟩
set_option maxRecDepth 100000 in
set_option maxHeartbeats 3200000 in
theorem rfrange_any (s : ByteArray) (a n lo hi : Nat) (w : World) (h : Lies a n) (hhi : hi < 2 ^ n) :
    Calls Tryd.prog 35 #[.agg #[.string s, .int .i64 (a : Int), .int .i64 (n : Int)], .int .i64 (lo : Int), .int .i64 (hi : Int)] w fun e w' => ∃ A c, (e = .returned (.slice A (rangeF a n lo hi).length c) ∧ PatsAt w' A (rangeF a n lo hi)) ∧ Below w.heap.size w w' := by
  by_cases hlo : lo ≤ hi
  · have hr : rangeF a n lo hi = rangeL a n lo hi := if_pos hlo
    rw [hr]
    have HG := Lib.hid (fun w => rrange_any a n lo hi w h.one h.word h.head hlo hhi)
    obtain ⟨L, hL⟩ : ∃ L, Hid (rangeL a n lo hi = L) := ⟨_, rfl⟩
    rw [hL.out] at HG ⊢
    clear hr h hhi hlo
    go_enter Tryd.func35, Tryd.ntmps35
    go_wp2_with (with_reducible refine wpList_box (o := ⟨some 3, .box 33 (.tmp 0), _, _, _, _⟩) ?g3 33 (.tmp 0) ?o3 (.agg #[.string s, .int .i64 (a : Int), .int .i64 (n : Int)]) [Value.string s, .int .i64 (a : Int), .int .i64 (n : Int)] ?x3 ?c3 ?_)
    try (case g3 => rfl)
    try (case o3 => rfl)
    try (case x3 => rfl)
    try (case c3 => rfl)
    intro g3 w1 hg3 hs1 hb1 B3
    have hl3 : w.heap.size ≤ g3 := Nat.le_of_eq hg3.out.symm
    have hb1 := hb1.mono (Nat.le_of_eq hg3.out.symm)
    have hbe : Below w.heap.size w w1 := hb1
    clear hb1 hg3 hs1
    have z3_0 := B3.cell (k := 0) rfl
    have z3_1 := B3.cell (k := 1) rfl
    have z3_2 := B3.cell (k := 2) rfl
    go_wp2_with fail
    (with_reducible refine (HG.out _).mono ?_)
    rintro e w5 ⟨A, c, rfl, hown, hb5⟩
    have hbe := below_join hbe hb5
    have HP := Lib.hid (own_pats hown)
    clear hown
    go_wp2
    go_ret
    exact ⟨A, c, ⟨rfl, HP.out⟩, hbe⟩
  · have hr : rangeF a n lo hi = [] := if_neg hlo
    rw [hr]
    have HG := Lib.hid (fun w => rrange_bad (a : Int) (n : Int) (lo : Int) (hi : Int) w (not_range hlo))
    clear hr h hhi hlo
    go_enter Tryd.func35, Tryd.ntmps35
    go_wp2_with (with_reducible refine wpList_box (o := ⟨some 3, .box 33 (.tmp 0), _, _, _, _⟩) ?g3 33 (.tmp 0) ?o3 (.agg #[.string s, .int .i64 (a : Int), .int .i64 (n : Int)]) [Value.string s, .int .i64 (a : Int), .int .i64 (n : Int)] ?x3 ?c3 ?_)
    try (case g3 => rfl)
    try (case o3 => rfl)
    try (case x3 => rfl)
    try (case c3 => rfl)
    intro g3 w1 hg3 hs1 hb1 B3
    have hl3 : w.heap.size ≤ g3 := Nat.le_of_eq hg3.out.symm
    have hb1 := hb1.mono (Nat.le_of_eq hg3.out.symm)
    have hbe : Below w.heap.size w w1 := hb1
    clear hb1 hg3 hs1
    have z3_0 := B3.cell (k := 0) rfl
    have z3_1 := B3.cell (k := 1) rfl
    have z3_2 := B3.cell (k := 2) rfl
    go_wp2_with fail
    (with_reducible refine (HG.out _).mono ?_)
    rintro e w5 ⟨rfl, rfl⟩
    go_wp2
    go_ret
    exact ⟨none, 0, ⟨rfl, fun k p hp => by cases hp⟩, hbe⟩
theorem run_ex1 (w : World) (s : ByteArray) (a b : Int) : (Instr.build 33 #[(0, .string s), (1, .int .i64 a), (2, .int .i64 b)]).run Tryd.prog w = .ok (.agg #[.string s, .int .i64 a, .int .i64 b]) w := by kernel_rfl
def dstB : ByteArray := { data := #[100, 115, 116] }
def srcB : ByteArray := { data := #[115, 114, 99] }
def kindB : ByteArray := { data := #[107, 105, 110, 100] }
def exampleF : List Fd := [⟨dstB, 16, 8⟩, ⟨srcB, 24, 8⟩, ⟨kindB, 33, 3⟩]
def exC : List Value := [.string { data := #[100, 115, 116] }, .int .i64 16, .int .i64 8, .string { data := #[115, 114, 99] }, .int .i64 24, .int .i64 8, .string { data := #[107, 105, 110, 100] }, .int .i64 33, .int .i64 3]
theorem run_ex3 (w : World) : (Instr.buildSlice 22 3 #[(0, .agg #[.string { data := #[100, 115, 116] }, .int .i64 16, .int .i64 8]), (1, .agg #[.string { data := #[115, 114, 99] }, .int .i64 24, .int .i64 8]), (2, .agg #[.string { data := #[107, 105, 110, 100] }, .int .i64 33, .int .i64 3])]).run Tryd.prog w = .ok (.slice (some ⟨w.heap.size, 0, none⟩) 3 3) (w.alloc (.cells exC.toArray 33)) := by kernel_rfl
set_option maxRecDepth 100000 in
set_option maxHeartbeats 1600000 in
theorem example_any (w : World) :
    Calls Tryd.prog 43 #[] w fun e w' => ∃ g, e = .returned (.slice (some ⟨g, 0, none⟩) 3 3) ∧ Blk w' g 33 exC ∧ Hid (g = w.heap.size) ∧ Below w.heap.size w w' := by
  go_enter Tryd.func43, Tryd.ntmps43
  have h1 := fun w => run_ex1 w { data := #[100, 115, 116] } 16 8
  have h2 := fun w => run_ex1 w { data := #[115, 114, 99] } 24 8
  have h3 := fun w => run_ex1 w { data := #[107, 105, 110, 100] } 33 3
  have h4 := run_ex3
  go_wp2
  go_ret
  exact ⟨_, rfl, blk_new w _ _, rfl, below_new w _⟩
end Go.Proofs.YtbgndopgllnmaaaDoor
