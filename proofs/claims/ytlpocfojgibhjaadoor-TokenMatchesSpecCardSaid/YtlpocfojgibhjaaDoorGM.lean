/-
  Contracts of the functions that the statement calls, part 13 of 13 (merged texts: Qt, Qu). Conditions: as the head of each part says.
-/
import Derived.Test.YtlpocfojgibhjaaDoorGK
import Derived.ChangeKeysEq

/-
  Contracts of the walks over Same (of equal lists) and Placeless. Conditions: the lists lie there.
-/
namespace Go.Proofs.YtlpocfojgibhjaaDoor
set_option linter.unusedVariables false
set_option linter.unusedSimpArgs false
open Go.RowKit Go.Shelf

theorem Tryd.guardT : Tryd.prog.eqGuardType Tryd.prog.depth 37 = false := by kernel_rfl
theorem Tryd.structT : Tryd.prog.underlying 37 = some (.struct (Tryd.prog.fieldsOf 37)) := by kernel_rfl
theorem Tryd.heldT : Tryd.prog.stoodInHeld 37 = false := by kernel_rfl
theorem Tryd.plainInt : Tryd.prog.plainKey 3 = true := by kernel_rfl
theorem Tryd.plainStr : Tryd.prog.plainKey 9 = true := by kernel_rfl
theorem equal_tok (w : World) (k : Nat) (a b : Int) (s : ByteArray) (c d : Int) :
    (Op.equalIn (k + 3) 37 (.agg #[Value.int .i64 a, .int .i64 b, .string s, .int .i64 c, .int .i64 d]) (.agg #[Value.int .i64 a, .int .i64 b, .string s, .int .i64 c, .int .i64 d])).run Tryd.prog w = .ok true w := by
  rw [run_equalIn_struct (P := Tryd.prog) w (k + 2) _ _ _ Tryd.structT Tryd.heldT]
  have hf : (Tryd.prog.fieldsOf 37).toList.map (fun f => (f.name == "_", f.type, f.offset)) = [(false, 3, 0), (false, 3, 1), (false, 9, 2), (false, 3, 3), (false, 3, 4)] := by kernel_rfl
  generalize (Tryd.prog.fieldsOf 37).toList = fs at hf
  obtain ⟨f0, f1, f2, f3, f4, rfl⟩ : ∃ f0 f1 f2 f3 f4, fs = [f0, f1, f2, f3, f4] := by
    rcases fs with _ | ⟨f0, _ | ⟨f1, _ | ⟨f2, _ | ⟨f3, _ | ⟨f4, _ | ⟨x, r⟩⟩⟩⟩⟩⟩
    · simp at hf
    · simp at hf
    · simp at hf
    · simp at hf
    · simp at hf
    · exact ⟨f0, f1, f2, f3, f4, rfl⟩
    · simp at hf
  simp only [List.map_cons, List.map_nil, List.cons.injEq, Prod.mk.injEq, and_true] at hf
  obtain ⟨⟨n0, t0, o0⟩, ⟨n1, t1, o1⟩, ⟨n2, t2, o2⟩, ⟨n3, t3, o3⟩, n4, t4, o4⟩ := hf
  have p0 := run_part_plain (P := Tryd.prog) (w := w) Tryd.plainInt (xs := #[Value.int .i64 a, .int .i64 b, .string s, .int .i64 c, .int .i64 d]) (off := 0) (v := .int .i64 a) rfl
  have q0 : (Op.equalIn (k + 2) 3 (.int .i64 a) (.int .i64 a)).run Tryd.prog w = .ok true w := by
    rw [run_equalIn_int (P := Tryd.prog) w (k + 1) 3 .i64 .i64 _ _ Tryd.underlying3]
    simp
  have k0 := beq_eq_false_iff_ne.1 n0
  have p1 := run_part_plain (P := Tryd.prog) (w := w) Tryd.plainInt (xs := #[Value.int .i64 a, .int .i64 b, .string s, .int .i64 c, .int .i64 d]) (off := 1) (v := .int .i64 b) rfl
  have q1 : (Op.equalIn (k + 2) 3 (.int .i64 b) (.int .i64 b)).run Tryd.prog w = .ok true w := by
    rw [run_equalIn_int (P := Tryd.prog) w (k + 1) 3 .i64 .i64 _ _ Tryd.underlying3]
    simp
  have k1 := beq_eq_false_iff_ne.1 n1
  have p2 := run_part_plain (P := Tryd.prog) (w := w) Tryd.plainStr (xs := #[Value.int .i64 a, .int .i64 b, .string s, .int .i64 c, .int .i64 d]) (off := 2) (v := .string s) rfl
  have q2 : (Op.equalIn (k + 2) 9 (.string s) (.string s)).run Tryd.prog w = .ok true w := by
    rw [run_equalIn_string (P := Tryd.prog) w (k + 1) 9 _ _ Tryd.underlying9]
    simp
  have k2 := beq_eq_false_iff_ne.1 n2
  have p3 := run_part_plain (P := Tryd.prog) (w := w) Tryd.plainInt (xs := #[Value.int .i64 a, .int .i64 b, .string s, .int .i64 c, .int .i64 d]) (off := 3) (v := .int .i64 c) rfl
  have q3 : (Op.equalIn (k + 2) 3 (.int .i64 c) (.int .i64 c)).run Tryd.prog w = .ok true w := by
    rw [run_equalIn_int (P := Tryd.prog) w (k + 1) 3 .i64 .i64 _ _ Tryd.underlying3]
    simp
  have k3 := beq_eq_false_iff_ne.1 n3
  have p4 := run_part_plain (P := Tryd.prog) (w := w) Tryd.plainInt (xs := #[Value.int .i64 a, .int .i64 b, .string s, .int .i64 c, .int .i64 d]) (off := 4) (v := .int .i64 d) rfl
  have q4 : (Op.equalIn (k + 2) 3 (.int .i64 d) (.int .i64 d)).run Tryd.prog w = .ok true w := by
    rw [run_equalIn_int (P := Tryd.prog) w (k + 1) 3 .i64 .i64 _ _ Tryd.underlying3]
    simp
  have k4 := beq_eq_false_iff_ne.1 n4
  have e4 : (Op.eqFields (k + 2) #[Value.int .i64 a, .int .i64 b, .string s, .int .i64 c, .int .i64 d] #[Value.int .i64 a, .int .i64 b, .string s, .int .i64 c, .int .i64 d] [f4]).run Tryd.prog w = .ok true w := by
    rw [Op.eqFields]
    simp only [t4, o4, Sem.run_bind, Sem.run_ite, Sem.run_pure, p4, Result.andThen_ok, q4, Op.eqFields]
    rw [if_pos (by simpa using k4)]
    simp
  have e3 : (Op.eqFields (k + 2) #[Value.int .i64 a, .int .i64 b, .string s, .int .i64 c, .int .i64 d] #[Value.int .i64 a, .int .i64 b, .string s, .int .i64 c, .int .i64 d] [f3, f4]).run Tryd.prog w = .ok true w := by
    rw [Op.eqFields]
    simp only [t3, o3, Sem.run_bind, Sem.run_ite, Sem.run_pure, p3, Result.andThen_ok, q3, e4]
    rw [if_pos (by simpa using k3)]
    simp
  have e2 : (Op.eqFields (k + 2) #[Value.int .i64 a, .int .i64 b, .string s, .int .i64 c, .int .i64 d] #[Value.int .i64 a, .int .i64 b, .string s, .int .i64 c, .int .i64 d] [f2, f3, f4]).run Tryd.prog w = .ok true w := by
    rw [Op.eqFields]
    simp only [t2, o2, Sem.run_bind, Sem.run_ite, Sem.run_pure, p2, Result.andThen_ok, q2, e3]
    rw [if_pos (by simpa using k2)]
    simp
  have e1 : (Op.eqFields (k + 2) #[Value.int .i64 a, .int .i64 b, .string s, .int .i64 c, .int .i64 d] #[Value.int .i64 a, .int .i64 b, .string s, .int .i64 c, .int .i64 d] [f1, f2, f3, f4]).run Tryd.prog w = .ok true w := by
    rw [Op.eqFields]
    simp only [t1, o1, Sem.run_bind, Sem.run_ite, Sem.run_pure, p1, Result.andThen_ok, q1, e2]
    rw [if_pos (by simpa using k1)]
    simp
  have e0 : (Op.eqFields (k + 2) #[Value.int .i64 a, .int .i64 b, .string s, .int .i64 c, .int .i64 d] #[Value.int .i64 a, .int .i64 b, .string s, .int .i64 c, .int .i64 d] [f0, f1, f2, f3, f4]).run Tryd.prog w = .ok true w := by
    rw [Op.eqFields]
    simp only [t0, o0, Sem.run_bind, Sem.run_ite, Sem.run_pure, p0, Result.andThen_ok, q0, e1]
    rw [if_pos (by simpa using k0)]
    simp
  exact e0
theorem neqT (w : World) (a b : Int) (s : ByteArray) (c d : Int) : (binOp .neq 37 (.agg #[Value.int .i64 a, .int .i64 b, .string s, .int .i64 c, .int .i64 d]) (.agg #[Value.int .i64 a, .int .i64 b, .string s, .int .i64 c, .int .i64 d])).run Tryd.prog w = .ok (.bool false) w := by
  rw [run_neq_struct, equal_tok w 9997]; rfl
theorem TksAt.five {w : World} {A : Option Addr} {l : List Tok} (h : TksAt w A l) {k : Nat} {t : Tok} (ht : l[k]? = some t) : ∃ g o, A = some ⟨g, o, none⟩ ∧ w.cell? ⟨g, o + k * 5, none⟩ = some (.int .i64 (t.kind : Int)) ∧ w.cell? ⟨g, o + k * 5 + 1, none⟩ = some (.int .i64 (t.n : Int)) ∧ w.cell? ⟨g, o + k * 5 + 2, none⟩ = some (.string (tB t)) ∧ w.cell? ⟨g, o + k * 5 + 3, none⟩ = some (.int .i64 (t.line : Int)) ∧ w.cell? ⟨g, o + k * 5 + 4, none⟩ = some (.int .i64 (t.col : Int)) := by
  obtain ⟨g, o, e, hc⟩ := h k t ht
  exact ⟨g, o, e, hc 0 _ rfl, hc 1 _ rfl, hc 2 _ rfl, hc 3 _ rfl, hc 4 _ rfl⟩
def SmRel (n : Nat) (w : World) (i : Value) (wr : World) : Prop := ∃ k : Nat, k ≤ n ∧ i = .int .i64 (k : Int) ∧ Below w.heap.size w wr
set_option maxRecDepth 100000 in
set_option maxHeartbeats 3200000 in
theorem same_any (A B : Option Addr) (c d : Nat) (l : List Tok) (w : World) (hN : l.length ≤ 1000000) (hA : TksAt w A l) (hB : TksAt w B l) :
    Calls Tryd.prog 10 #[.slice A l.length c, .slice B l.length d] w fun e w' => e = .returned (.bool true) ∧ Below w.heap.size w w' := by
  obtain ⟨n, hn⟩ : ∃ n, Hid (l.length = n) := ⟨_, rfl⟩
  rw [hn.out] at hN ⊢
  have HA := Lib.hid hA
  have HB := Lib.hid hB
  clear hA hB
  have hni : (n : Int) ≤ 1000000 := by omega
  go_enter Tryd.func10, Tryd.ntmps10
  go_wp2
  go_loopw [5] (SmRel n w) (fun i _ => n - (intOf i).toNat)
  case atStart => exact ⟨0, Nat.zero_le _, rfl, Below.refl _ _⟩
  case round =>
    obtain ⟨k, hk, rfl, hbe⟩ := hrel
    by_cases hlt : k < n
    · have hki : (k : Int) < (n : Int) := by omega
      have hk0 : (0 : Int) ≤ (k : Int) := by omega
      obtain ⟨t, ht⟩ : ∃ t, l[k]? = some t := ⟨_, List.getElem?_eq_getElem (by rw [hn.out]; exact hlt)⟩
      obtain ⟨ga, oa, hAe, a0, a1, a2, a3, a4⟩ := (HA.out.next hbe).five ht
      obtain ⟨gb, ob, hBe, b0, b1, b2, b3, b4⟩ := (HB.out.next hbe).five ht
      subst hAe hBe
      have hneq := fun w => neqT w (t.kind : Int) (t.n : Int) (tB t) (t.line : Int) (t.col : Int)
      obtain ⟨K, hK⟩ : ∃ K, t.kind = K := ⟨_, rfl⟩
      obtain ⟨N1, hN1⟩ : ∃ K, t.n = K := ⟨_, rfl⟩
      obtain ⟨L1, hL1⟩ : ∃ K, t.line = K := ⟨_, rfl⟩
      obtain ⟨C1, hC1⟩ : ∃ K, t.col = K := ⟨_, rfl⟩
      obtain ⟨X, hX⟩ : ∃ K, tB t = K := ⟨_, rfl⟩
      rw [hK] at a0 b0
      rw [hN1] at a1 b1
      rw [hX] at a2 b2
      rw [hL1] at a3 b3
      rw [hC1] at a4 b4
      simp only [hK, hN1, hX, hL1, hC1] at hneq
      clear hK hN1 hL1 hC1 hX ht
      go_wp2
      go_quiet (fail)
      have hbe := below_join hbe (below_drewN wr nq)
      clear a0 a1 a2 a3 a4 b0 b1 b2 b3 b4
      go_wp2
      go_roundw
      case rel => exact ⟨k + 1, hlt, by go_num, hbe⟩
      case measure => simp [intOf]; omega
    · have hkn : k = n := by omega
      subst hkn
      go_wp2
      go_ret
      exact ⟨rfl, hbe⟩
/-- A token without its place. -/
def noPl (t : Tok) : Tok := { t with line := 0, col := 0 }
def PlRel (l : List Tok) (w : World) (i v : Value) (wr : World) : Prop :=
  ∃ k : Nat, k ≤ l.length ∧ i = .int .i64 (k : Int) ∧ wr.ownsRow w.heap.size 37 5 v k (flatT ((l.take k).map noPl)) ∧ Below w.heap.size w wr
set_option maxRecDepth 100000 in
set_option maxHeartbeats 3200000 in
theorem placeless_any (A : Option Addr) (c : Nat) (l : List Tok) (w : World) (hN : l.length ≤ 100000) (hA : TksAt w A l) :
    Calls Tryd.prog 25 #[.slice A l.length c] w fun e w' => (∃ B d, e = .returned (.slice B l.length d) ∧ w'.ownsRow w.heap.size 37 5 (.slice B l.length d) l.length (flatT (l.map noPl))) ∧ Below w.heap.size w w' := by
  obtain ⟨n, hn⟩ : ∃ n, Hid (l.length = n) := ⟨_, rfl⟩
  rw [hn.out] at hN ⊢
  have HA := Lib.hid hA
  clear hA
  have hni : (n : Int) ≤ 100000 := by omega
  go_enter Tryd.func25, Tryd.ntmps25
  go_wp2
  go_loopw [4, 3] (PlRel l w) (fun i _ _ => n - (intOf i).toNat)
  case atStart => exact ⟨0, Nat.zero_le _, rfl, World.ownsRow_nil _ _ _ _, Below.refl _ _⟩
  case round =>
    obtain ⟨k, hk, rfl, Ov, hbe⟩ := hrel
    rw [hn.out] at hk
    by_cases hlt : k < n
    · have hki : (k : Int) < (n : Int) := by omega
      have hk0 : (0 : Int) ≤ (k : Int) := by omega
      obtain ⟨t, ht⟩ : ∃ t, l[k]? = some t := ⟨_, List.getElem?_eq_getElem (by rw [hn.out]; exact hlt)⟩
      obtain ⟨ga, oa, hAe, a0, a1, a2, a3, a4⟩ := (HA.out.next hbe).five ht
      subst hAe
      have hnx : Hid (flatT ((l.take (k + 1)).map noPl) = flatT ((l.take k).map noPl) ++ [Value.int .i64 (t.kind : Int), .int .i64 (t.n : Int), .string (tB t), .int .i64 0, .int .i64 0]) := by
        have : flatT ((l.take (k + 1)).map noPl) = flatT ((l.take k).map noPl) ++ [Value.int .i64 (t.kind : Int), .int .i64 (t.n : Int), .string (tB t), .int .i64 0, .int .i64 0] := by
          obtain ⟨h1, h2⟩ := List.getElem?_eq_some_iff.1 ht
          rw [← List.take_append_getElem h1, h2, List.map_append, List.map_cons, List.map_nil, flatT_snoc]; rfl
        exact this
      obtain ⟨F, hF⟩ : ∃ F, flatT ((l.take (k + 1)).map noPl) = F := ⟨_, rfl⟩
      obtain ⟨F0, hF0⟩ : ∃ F, flatT ((l.take k).map noPl) = F := ⟨_, rfl⟩
      rw [hF, hF0] at hnx
      rw [hF0] at Ov
      have HF := Lib.hid hF
      obtain ⟨K, hK⟩ : ∃ K, t.kind = K := ⟨_, rfl⟩
      obtain ⟨N1, hN1⟩ : ∃ K, t.n = K := ⟨_, rfl⟩
      obtain ⟨L1, hL1⟩ : ∃ K, t.line = K := ⟨_, rfl⟩
      obtain ⟨C1, hC1⟩ : ∃ K, t.col = K := ⟨_, rfl⟩
      obtain ⟨X, hX⟩ : ∃ K, tB t = K := ⟨_, rfl⟩
      rw [hK] at a0 hnx
      rw [hN1] at a1 hnx
      rw [hX] at a2 hnx
      rw [hL1] at a3
      rw [hC1] at a4
      clear hK hN1 hL1 hC1 hX ht hF hF0
      go_wp2_with (with_reducible refine wpList_alloc (o := ⟨some 5, .alloc 37, _, _, _, _⟩) (by with_unfolding_all rfl) 37 (by with_unfolding_all rfl) (.agg #[.int .i64 0, .int .i64 0, .string ByteArray.empty, .int .i64 0, .int .i64 0]) [Value.int .i64 0, .int .i64 0, .string ByteArray.empty, .int .i64 0, .int .i64 0] (by exact Tryd.zeroTok) (by with_unfolding_all rfl) ?_)
      intro g5 w11 hg5 hs11 hb11 B5
      have onOv_5 : ∀ q, Value.ownBlock u3 = some q → q ≠ g5 := fun q hq e => by have := (own_base Ov q hq).2; have := hg5.out; omega
      have hl5 : w.heap.size ≤ g5 := Nat.le_trans hbe.size (Nat.le_of_eq hg5.out.symm)
      have hb11 := hb11.mono (Nat.le_of_eq hg5.out.symm)
      have Ov := own_next Ov hb11
      have hbe := below_join hbe hb11
      clear hb11 hg5 hs11
      go_wp2_with (with_reducible refine wpList_put (o := ⟨none, .store 37 (.tmp 5) (.tmp 15), _, _, _, _⟩) (by with_unfolding_all rfl) 37 (.tmp 5) (.tmp 15) (by with_unfolding_all rfl) g5 0 (by with_unfolding_all rfl) (.agg #[.int .i64 (K : Int), .int .i64 (N1 : Int), .string X, .int .i64 (L1 : Int), .int .i64 (C1 : Int)]) (by with_unfolding_all rfl) B5 [Value.int .i64 (K : Int), .int .i64 (N1 : Int), .string X, .int .i64 (L1 : Int), .int .i64 (C1 : Int)] (by with_unfolding_all rfl) (by with_unfolding_all (exact Tryd.szTok)) (by with_unfolding_all (exact Nat.le_refl 5)) (by with_unfolding_all (exact tok_one _ _ _ _ _)) ?_)
      intro w12 hu12 C5
      rw [splice_all _ _ (by rfl)] at C5
      have Ov := own_keep Ov (fun q hq => hu12.block q (onOv_5 q hq))
      have hbe := hbe.trans (hu12.below (B := w.heap.size) hl5)
      clear B5 hu12
      have B5 := C5
      clear C5
      clear a0 a1 a2 a3 a4
      go_wp2_with (with_reducible refine wpList_put (o := ⟨none, .store 3 (.tmp 16) (.const (.int .i64 0)), _, _, _, _⟩) (by with_unfolding_all rfl) 3 (.tmp 16) (.const (.int .i64 0)) (by with_unfolding_all rfl) g5 3 (by with_unfolding_all rfl) (.int .i64 0) (by with_unfolding_all rfl) B5 [Value.int .i64 0] (by with_unfolding_all rfl) (by with_unfolding_all (exact Tryd.szInt)) (by with_unfolding_all (exact Nat.le_of_ble_eq_true rfl)) (by with_unfolding_all (exact one_cell1 rfl)) ?_)
      intro w13 hu13 C5
      have C5 : Blk w13 g5 37 [Value.int .i64 (K : Int), .int .i64 (N1 : Int), .string X, .int .i64 0, .int .i64 (C1 : Int)] := C5
      have Ov := own_keep Ov (fun q hq => hu13.block q (onOv_5 q hq))
      have hbe := hbe.trans (hu13.below (B := w.heap.size) hl5)
      clear B5 hu13
      have B5 := C5
      clear C5
      go_wp2_with (with_reducible refine wpList_put (o := ⟨none, .store 3 (.tmp 17) (.const (.int .i64 0)), _, _, _, _⟩) (by with_unfolding_all rfl) 3 (.tmp 17) (.const (.int .i64 0)) (by with_unfolding_all rfl) g5 4 (by with_unfolding_all rfl) (.int .i64 0) (by with_unfolding_all rfl) B5 [Value.int .i64 0] (by with_unfolding_all rfl) (by with_unfolding_all (exact Tryd.szInt)) (by with_unfolding_all (exact Nat.le_of_ble_eq_true rfl)) (by with_unfolding_all (exact one_cell1 rfl)) ?_)
      intro w14 hu14 C5
      have C5 : Blk w14 g5 37 [Value.int .i64 (K : Int), .int .i64 (N1 : Int), .string X, .int .i64 0, .int .i64 0] := C5
      have Ov := own_keep Ov (fun q hq => hu14.block q (onOv_5 q hq))
      have hbe := hbe.trans (hu14.below (B := w.heap.size) hl5)
      clear B5 hu14
      have B5 := C5
      clear C5
      have z5_0 := B5.cell (k := 0) rfl
      have z5_1 := B5.cell (k := 1) rfl
      have z5_2 := B5.cell (k := 2) rfl
      have z5_3 := B5.cell (k := 3) rfl
      have z5_4 := B5.cell (k := 4) rfl
      go_wp2_with (with_reducible refine wpList_rowT (o := ⟨some 20, .buildSlice 23 1 #[(0, .tmp 19)], _, _, _, _⟩) (by with_unfolding_all rfl) (.tmp 19) (by with_unfolding_all rfl) (K : Int) (N1 : Int) X 0 0 (by with_unfolding_all rfl) ?_)
      intro gr w15 hgr hb15 Br
      clear z5_0 z5_1 z5_2 z5_3 z5_4
      have Ov := own_next Ov hb15
      have B5 := B5.next hb15 B5.lt
      have hbe := below_join hbe hb15
      clear hgr
      have hT0 : w.heap.size ≤ w15.heap.size := hbe.size
      have HON := Lib.hid (own_base Ov)
      go_wp2_with (with_reducible refine wpList_appT (o := ⟨some 21, .call ⟨.builtin .append, #[.tmp 18, .tmp 20], #[23, 23]⟩, _, _, _, _⟩) (by with_unfolding_all rfl) (.tmp 18) (.tmp 20) (by with_unfolding_all rfl) w.heap.size u3 k F0 (by with_unfolding_all rfl) Ov gr 0 1 1 [Value.int .i64 (K : Int), .int .i64 (N1 : Int), .string X, .int .i64 0, .int .i64 0] (by with_unfolding_all rfl) (by exact fun j y hy => by rw [Nat.zero_add]; exact Br.cell hy) (by with_unfolding_all rfl) (by exact tok_one _ _ _ _ _) (by omega) hT0 ?_)
      intro v16 w16 Ow hgw
      have hbx := below_grown hgw (fun q hq => (HON.out q hq).1) hT0
      have hbe := hbe.trans hbx
      clear hbx hgw Br Ov HON hT0 B5
      go_wp2
      go_roundw
      case rel => exact ⟨k + 1, by rw [hn.out]; omega, by go_num, by rw [HF.out, hnx.out]; exact Ow, hbe⟩
      case measure => simp [intOf]; omega
    · have hkn : k = n := by omega
      subst hkn
      have htk : l.take k = l := by rw [← hn.out]; exact List.take_length
      rw [htk] at Ov
      obtain ⟨A3, c3, hv, _⟩ := own_shape Ov
      subst hv
      have HO := Lib.hid Ov
      clear Ov htk
      go_wp2
      go_ret
      exact ⟨⟨A3, c3, rfl, HO.out⟩, hbe⟩
end Go.Proofs.YtlpocfojgibhjaaDoor

/-
  The law TokenIsLocal: two sources with a newline between them. Conditions: the tables lie there.
-/
namespace Go.Proofs.YtlpocfojgibhjaaDoor
set_option linter.unusedVariables false
set_option linter.unusedSimpArgs false
open Go.RowKit Go.Shelf

theorem flat_mid {w : World} {g : Nat} {t : TypeId} {l : List Tok} {R : List Value} (h : Blk w g t (flatT l ++ R)) : ∀ j u, (flatT l)[j]? = some u → w.cell? ⟨g, j, none⟩ = some u := fun j u hu => h.cell (by
  rw [List.getElem?_append_left (List.getElem?_eq_some_iff.1 hu).1]; exact hu)
theorem tks_blk {w : World} {g : Nat} {t : TypeId} {l : List Tok} {R : List Value} (h : Blk w g t (flatT l ++ R)) : TksAt w (some ⟨g, 0, none⟩) l := fun k t ht => ⟨g, 0, rfl, fun j u hu => by rw [Nat.zero_add]; exact flat_mid h _ _ (flatT_get ht j u hu)⟩
theorem own_blk {w : World} {T n c : Nat} {A : Option Addr} {l : List Tok} (h : w.ownsRow T 37 5 (.slice A n c) n (flatT l)) (hn : 0 < n) : ∃ g R, A = some ⟨g, 0, none⟩ ∧ T ≤ g ∧ n ≤ c ∧ Blk w g 37 (flatT l ++ R) := by
  rcases h.2 with ⟨_, h0⟩ | ⟨g, cap, cur, hv, hb, h3, hnc, _, hsz, htk⟩
  · omega
  · injection hv with hA _ hc
    subst hc
    refine ⟨g, cur.toList.drop (n * 5), hA, hb, hnc, ?_⟩
    have e : flatT l ++ cur.toList.drop (n * 5) = cur.toList := by rw [← htk, List.take_append_drop]
    rw [e]
    exact h3
theorem tokens2_any (s : ByteArray) (hs : s.size ≤ 60000) (w : World) (hT : TT w) (l : List Tok) (hl : toks s.data.toList false 0 1 1 = l) (n : Nat) (hn : l.length = n) (h0 : 0 < n) :
    Calls Tryd.prog 8 #[.string s] w fun e w' => (∃ g c R, e = .returned (.tuple #[.slice (some ⟨g, 0, none⟩) n c, .int .i64 0]) ∧ w.heap.size ≤ g ∧ n ≤ c ∧ Blk w' g 37 (flatT l ++ R)) ∧ Below w.heap.size w w' := by
  have h := tokens_any s hs w hT
  refine Calls.mono h ?_
  rintro e w' ⟨⟨A, c, rfl, Ow⟩, hb⟩
  rw [hl] at Ow ⊢
  rw [hn] at Ow ⊢
  obtain ⟨g, R, rfl, h1, h2, h3⟩ := own_blk Ow h0
  exact ⟨⟨g, c, R, rfl, h1, h2, h3⟩, hb⟩
theorem count_any (s : ByteArray) (w : World) : Calls Tryd.prog 23 #[.string s, .string { data := #[10] }] w fun e w' => e = .returned (.int .i64 ((s.data.toList.count 10 : Nat) : Int)) ∧ Below w.heap.size w w' := by
  refine Calls.mono (count_lib s 10 w) ?_
  rintro e w' ⟨rfl, rfl⟩
  exact ⟨rfl, Below.refl _ _⟩
/-- A token with its line counted on. -/
def shT (d : Nat) (t : Tok) : Tok := { t with line := t.line + d }
theorem flatT_set : ∀ (l : List Tok) (k : Nat) (t : Tok) (R : List Value) (x : Nat), l[k]? = some t → splice (flatT l ++ R) (k * 5 + 3) [Value.int .i64 (x : Int)] = flatT (l.set k { t with line := x }) ++ R
  | [], _, _, _, _, h => by cases h
  | y :: l, 0, t, R, x, h => by
    injection h with h
    subst h
    have e : flatT (y :: l) = tCells y ++ flatT l := by unfold flatT; rw [List.flatMap_cons]
    have e2 : flatT ((y :: l).set 0 { y with line := x }) = tCells { y with line := x } ++ flatT l := by
      rw [List.set_cons_zero]; unfold flatT; rw [List.flatMap_cons]
    rw [e, e2]
    simp [splice, tCells, tB]
  | y :: l, k + 1, t, R, x, h => by
    have ih := flatT_set l k t R x h
    have e : flatT (y :: l) ++ R = tCells y ++ (flatT l ++ R) := by unfold flatT; rw [List.flatMap_cons, List.append_assoc]
    have e2 : flatT ((y :: l).set (k + 1) { t with line := x }) ++ R = tCells y ++ (flatT (l.set k { t with line := x }) ++ R) := by
      rw [List.set_cons_succ]; unfold flatT; rw [List.flatMap_cons, List.append_assoc]
    rw [e, e2, ← ih, show (k + 1) * 5 + 3 = (tCells y).length + (k * 5 + 3) by simp only [tCells, List.length_cons, List.length_nil]; omega]
    unfold splice
    rw [List.take_append, List.drop_append]
    simp only [List.append_assoc, List.length_cons, List.length_nil]
    rw [List.take_of_length_le (Nat.le_add_right _ _), List.drop_eq_nil_of_le (by omega)]
    simp only [List.nil_append, Nat.add_sub_cancel_left]
    congr 4
    omega
def parT (d : Nat) (l : List Tok) (k : Nat) : List Tok := (l.take k).map (shT d) ++ l.drop k
theorem parT_zero (d : Nat) (l : List Tok) : parT d l 0 = l := rfl
theorem parT_all (d : Nat) (l : List Tok) : parT d l l.length = l.map (shT d) := by unfold parT; simp
theorem parT_get {d : Nat} {l : List Tok} {k : Nat} {t : Tok} (h : l[k]? = some t) : (parT d l k)[k]? = some t := by
  have hl := (List.getElem?_eq_some_iff.1 h).1
  unfold parT
  rw [List.getElem?_append_right (by rw [List.length_map, List.length_take]; omega), List.length_map, List.length_take, Nat.min_eq_left (Nat.le_of_lt hl), Nat.sub_self, List.getElem?_drop, Nat.add_zero]
  exact h
theorem parT_set {d : Nat} {l : List Tok} {k : Nat} {t : Tok} (h : l[k]? = some t) : (parT d l k).set k { t with line := t.line + d } = parT d l (k + 1) := by
  obtain ⟨hl, e⟩ := List.getElem?_eq_some_iff.1 h
  unfold parT
  rw [List.set_append_right _ _ (by rw [List.length_map, List.length_take]; omega), List.length_map, List.length_take, Nat.min_eq_left (Nat.le_of_lt hl), Nat.sub_self, List.drop_eq_getElem_cons hl, List.set_cons_zero, ← List.take_append_getElem hl, List.map_append, List.append_assoc, e]
  rfl
/-- append onto a slice without room. -/
theorem wpList_appG {ops : Array Oper} {rest : List Oper} {o : Oper} {a : Act} {w : World} {Q : Exit → Act → World → Prop} (hw : Region.wanted o (yielded ops a.tmps) = true) (s x : Operand)
    (ho : o.op = .call { callee := .builtin .append, args := #[s, x], argTypes := #[23, 23] }) (ga gb n m c : Nat) (xs ys : List Tok) (hs : a.eval s = .slice (some ⟨ga, 0, none⟩) n n) (hx : a.eval x = .slice (some ⟨gb, 0, none⟩) m c)
    (hn : xs.length = n) (hm : ys.length = m) (hA : ∀ j u, (flatT xs)[j]? = some u → w.cell? ⟨ga, j, none⟩ = some u) (hB : ∀ j u, (flatT ys)[j]? = some u → w.cell? ⟨gb, j, none⟩ = some u) (h0 : 0 < m) (hle : n + m ≤ 1000000)
    (h : ∀ g c w', w.heap.size ≤ g → TksAt w' (some ⟨g, 0, none⟩) (xs ++ ys) → Below w.heap.size w w' → wpList Tryd.prog ops Q rest (a.put o.dst (.slice (some ⟨g, 0, none⟩) (n + m) c)) w') : wpList Tryd.prog ops Q (o :: rest) a w := by
  refine BigFrame.wpList_want hw fun K hK => ?_
  obtain ⟨i, i1, i2, i3, i4⟩ := infoTok
  have hr := run_append_grow (P := Tryd.prog) w 23 o.type 37 i _ Tryd.underlying23 i1 i2 ⟨ga, 0, none⟩ n n (flatT xs) (by rw [flatT_length, i3, hn]) (fun j u hu => by rw [addr_mid, Nat.zero_add]; exact hA j u hu) ⟨gb, 0, none⟩ m c (flatT ys) (by rw [flatT_length, i3, hm]) (fun j u hu => by rw [addr_mid, Nat.zero_add]; exact hB j u hu) (by omega) (by omega) (by rw [i4]; exact growslice_fits (by omega) (by omega))
  unfold Oper.wp
  simp [execOp, ho, resolve, invoke, builtin, hs, hx, hr, Result.andThen]
  refine hK _ _ (h _ _ _ (Nat.le_refl _) (fun k t ht => ⟨w.heap.size, 0, rfl, fun j u hu => ?_⟩) ((Below.refl _ _).drew.alloc (Nat.le_refl _) _))
  have hg := flatT_get ht j u hu
  have hj := (List.getElem?_eq_some_iff.1 hg).1
  rw [Nat.zero_add, cell_of_row _ w.heap.size _ _ _ _ (heap_alloc_new w.drew _), Array.getElem?_append_left (by
    simp only [Array.size_append, List.size_toArray]
    unfold flatT at hj ⊢
    rw [List.flatMap_append] at hj
    exact hj)]
  rw [← hg]
  unfold flatT
  rw [List.flatMap_append]
  simp
theorem toks_line : ∀ (l : List UInt8) (ins : Bool) (k ln cl : Nat), ∀ t ∈ toks l ins k ln cl, t.line ≤ ln + l.length
  | [], ins, k, ln, cl => by rw [toks_end]; intro t ht; simp at ht; rw [ht]; exact Nat.le_refl _
  | b :: r, ins, k + 1, ln, cl => fun t ht => by
    rw [toks_skip] at ht
    have := toks_line r ins k ln (cl + 1) t ht
    simp only [List.length_cons]; omega
  | b :: r, ins, 0, ln, cl => fun t ht => by
    rw [toks_cons] at ht
    simp only [List.length_cons]
    split at ht
    · have := toks_line r false 0 (ln + 1) 1 t ht; omega
    · split at ht
      · have := toks_line r true 0 ln (cl + 1) t ht; omega
      · split at ht
        · have := toks_line r false 0 ln (cl + 1) t ht; omega
        · rcases List.mem_cons.1 ht with rfl | ht
          · show ln ≤ _; omega
          · have := toks_line r false _ ln (cl + 1) t ht; omega
def LcRel (Tb : List Tok) (d g7 : Nat) (R7 : List Value) (w : World) (g5 : Nat) (L5 : List Value) (g9 : Nat) (L9 : List Value) (i : Value) (wr : World) : Prop :=
  ∃ k : Nat, k ≤ Tb.length ∧ i = .int .i64 (k : Int) ∧ Blk wr g7 37 (flatT (parT d Tb k) ++ R7) ∧ Blk wr g5 37 L5 ∧ Blk wr g9 37 L9 ∧ Below w.heap.size w wr
theorem wrap_small {x : Nat} (h : x ≤ 1000000000) : IntKind.i64.wrap (x : Int) = (x : Int) := by
  exact IntWalk.i64_in _ ⟨by omega, by omega⟩
theorem app_list (a b : ByteArray) : (a ++ { data := #[10] } ++ b).data.toList = a.data.toList ++ 10 :: b.data.toList := by
  simp
theorem app_size (a b : ByteArray) : (a ++ b).size = a.size + b.size := by simp
set_option maxRecDepth 100000 in
set_option maxHeartbeats 6400000 in
theorem localLaw_any (a b : ByteArray) (w : World) (hq : QW w) :
    Calls Tryd.prog 5 #[.string a, .string b] w fun e w' => e = .returned (.bool true) ∧ Below w.heap.size w w' := by
  have HQ := Lib.hid hq
  have HS := fun w hq => sanity_any w hq
  by_cases hbig : 1000 < a.size ∨ 1000 < b.size
  · clear hq
    by_cases h1 : 1000 < a.size
    · have h1i : (1000 : Int) < (a.size : Int) := by omega
      go_enter Tryd.func5, Tryd.ntmps5
      go_wp2_with fail
      (with_reducible refine (HS _ HQ.out).mono ?_)
      rintro e w1 ⟨rfl, hb1⟩
      go_wp2
      go_ret
      exact ⟨rfl, hb1⟩
    · have h1i : ¬ (1000 : Int) < (a.size : Int) := by omega
      have h2i : (1000 : Int) < (b.size : Int) := by omega
      go_enter Tryd.func5, Tryd.ntmps5
      go_wp2_with fail
      (with_reducible refine (HS _ HQ.out).mono ?_)
      rintro e w1 ⟨rfl, hb1⟩
      go_wp2
      go_ret
      exact ⟨rfl, hb1⟩
  · have h1 : a.size ≤ 1000 := by omega
    have h2 : b.size ≤ 1000 := by omega
    have h1i : ¬ (1000 : Int) < (a.size : Int) := by omega
    have h2i : ¬ (1000 : Int) < (b.size : Int) := by omega
    have ha0 := (toks_kinds a.data.toList false 0 1 1).1
    have hb0 := (toks_kinds b.data.toList false 0 1 1).1
    have hlnb := toks_line b.data.toList false 0 1 1
    rw [bytes_size] at hlnb
    have hla := toks_len a.data.toList false 0 1 1
    have hlb := toks_len b.data.toList false 0 1 1
    rw [bytes_size] at hla hlb
    have hloc := toks_local b.data.toList a.data.toList.length a.data.toList (Nat.le_refl _) false 1 1
    have hsh := toks_shift b.data.toList false 0 1 1 (1 + a.data.toList.count 10)
    have hcl := app_list a b
    have hcs : (a ++ { data := #[10] } ++ b).size = a.size + 1 + b.size := by rw [app_size, app_size]; first | done | rfl
    have hcn := count_le a.data.toList
    rw [bytes_size] at hcn
    have HC := fun w => count_any a w
    obtain ⟨cn, hc⟩ : ∃ cn, a.data.toList.count 10 = cn := ⟨_, rfl⟩
    rw [hc] at hloc hsh HC hcn
    rw [show 1 + cn + 1 = 1 + (1 + cn) by omega, hsh] at hloc
    have hA := fun n hn h0 w hT => tokens2_any a (by omega) w hT _ rfl n hn h0
    have hB := fun n hn h0 w hT => tokens2_any b (by omega) w hT _ rfl n hn h0
    have hAB := fun n hn h0 w hT => tokens2_any (a ++ { data := #[10] } ++ b) (by omega) w hT ((toks a.data.toList false 0 1 1).dropLast ++ (toks b.data.toList false 0 1 1).map (shT (1 + cn))) (by rw [hcl]; exact hloc) n hn h0
    obtain ⟨Ta, hTa⟩ : ∃ T, toks a.data.toList false 0 1 1 = T := ⟨_, rfl⟩
    obtain ⟨Tb, hTb⟩ : ∃ T, toks b.data.toList false 0 1 1 = T := ⟨_, rfl⟩
    simp only [hTa, hTb] at ha0 hb0 hla hlb hA hB hAB hlnb
    obtain ⟨n, hn⟩ : ∃ n, Hid (Ta.length = n + 1) := ⟨Ta.length - 1, by
      have : Ta.length ≠ 0 := fun e => ha0 (List.eq_nil_of_length_eq_zero e)
      show Ta.length = Ta.length - 1 + 1
      omega⟩
    obtain ⟨m, hm⟩ : ∃ m, Hid (Tb.length = m + 1) := ⟨Tb.length - 1, by
      have : Tb.length ≠ 0 := fun e => hb0 (List.eq_nil_of_length_eq_zero e)
      show Tb.length = Tb.length - 1 + 1
      omega⟩
    have hdl : Hid (Ta.dropLast = Ta.take n) := by
      have : Ta.dropLast = Ta.take n := by rw [List.dropLast_eq_take, hn.out, Nat.add_sub_cancel]
      exact this
    have hAB2 : Hid ((Ta.take n ++ Tb.map (shT (1 + cn))).length = n + (m + 1)) := by
      have : (Ta.take n ++ Tb.map (shT (1 + cn))).length = n + (m + 1) := by rw [List.length_append, List.length_take, List.length_map, hn.out, hm.out]; omega
      exact this
    rw [hdl.out] at hAB
    have HA := hA (n + 1) hn.out (by omega)
    have HB := hB (m + 1) hm.out (by omega)
    have HAB := hAB (n + (m + 1)) hAB2.out (by omega)
    have hnb : n ≤ 1001 := by have := hn.out; omega
    have hmb : m ≤ 1001 := by have := hm.out; omega
    have hcat1 : ¬ 9223372036854775807 < a.size + 1 := by omega
    have hcat2 : ¬ 9223372036854775807 < (a ++ { data := #[10] }).size + b.size := by rw [app_size]; show ¬ 9223372036854775807 < a.size + 1 + b.size; omega
    have hcat3 : ¬ 9223372036854775807 < a.size + 1 + b.size := by omega
    obtain ⟨d, hd⟩ : ∃ d, 1 + cn = d := ⟨_, rfl⟩
    obtain ⟨Tc, hTc⟩ : ∃ T, Hid (Ta.take n ++ Tb.map (shT (1 + cn)) = T) := ⟨_, rfl⟩
    rw [hTc.out] at HAB
    rw [hd] at hTc
    have hdi : (1 : Int) + (cn : Int) = (d : Int) := by omega
    have hdb : d ≤ 1001 := by omega
    have hcni : (cn : Int) ≤ 1000 := by omega
    have hcn0 : (0 : Int) ≤ (cn : Int) := by omega
    have HLA : Hid (∀ g w R, Blk w g 37 (flatT Ta ++ R) → ∀ j u, (flatT (Ta.take n))[j]? = some u → w.cell? ⟨g, j, none⟩ = some u) := by
      have : ∀ g w R, Blk w g 37 (flatT Ta ++ R) → ∀ j u, (flatT (Ta.take n))[j]? = some u → w.cell? ⟨g, j, none⟩ = some u := fun g w R h j u hu => by
        refine flat_mid h j u ?_
        have e : flatT Ta = flatT (Ta.take n) ++ flatT (Ta.drop n) := by unfold flatT; rw [← List.flatMap_append, List.take_append_drop]
        rw [e, List.getElem?_append_left (List.getElem?_eq_some_iff.1 hu).1]; exact hu
      exact this
    have HTL : Hid ((Ta.take n).length = n) := by
      have : (Ta.take n).length = n := by rw [List.length_take, hn.out]; omega
      exact this
    have HML : Hid ((Tb.map (shT d)).length = m + 1) := by
      have : (Tb.map (shT d)).length = m + 1 := by rw [List.length_map, hm.out]
      exact this
    have HTC : Hid (Tc.length = n + (m + 1)) := by
      have : Tc.length = n + (m + 1) := by rw [← hTc.out, List.length_append, HTL.out, HML.out]
      exact this
    have HLB : Hid (∀ (k : Nat) (t : Tok), Tb[k]? = some t → t.line ≤ 1001) := by
      have : ∀ (k : Nat) (t : Tok), Tb[k]? = some t → t.line ≤ 1001 := fun k t ht => by
        have := hlnb t (List.mem_of_getElem? ht)
        omega
      exact this
    clear hlnb
    clear hbig ha0 hb0 hla hlb hloc hsh hcl hcs hcn hA hB hAB hAB2 hdl hq hd hc hTa hTb h1 h2
    go_enter Tryd.func5, Tryd.ntmps5
    go_wp2_with fail
    (with_reducible refine (HA _ HQ.out.tt).mono ?_)
    rintro e w1 ⟨⟨g5, c5, R5, rfl, hl5, hc5, B5⟩, hbe⟩
    go_wp2_with fail
    (with_reducible refine (HB _ (HQ.out.next hbe).tt).mono ?_)
    rintro e w2 ⟨⟨g7, c7, R7, rfl, hl7, hc7, B7⟩, hb2⟩
    have ne5_7 : g5 ≠ g7 := by have := B5.lt; omega
    have hl7 : w.heap.size ≤ g7 := Nat.le_trans hbe.size hl7
    have B5 := B5.next hb2 B5.lt
    have hbe := below_join hbe hb2
    clear hb2
    go_wp2_with fail
    (with_reducible refine (HAB _ (HQ.out.next hbe).tt).mono ?_)
    rintro e w3 ⟨⟨g9, c9, R9, rfl, hl9, hc9, B9⟩, hb3⟩
    have ne9_7 : g9 ≠ g7 := by have := B7.lt; omega
    have B5 := B5.next hb3 B5.lt
    have B7 := B7.next hb3 B7.lt
    have hbe := below_join hbe hb3
    clear hb3
    have hn1 : (((n + 1 : Nat) : Int) == 0) = false := beq_eq_false_iff_ne.2 (by omega)
    have hn2 : (((n + (m + 1) : Nat) : Int)) = (((n + 1 : Nat) : Int)) + (((m + 1 : Nat) : Int)) - 1 := by omega
    have H0 : Hid (LcRel Tb d g7 R7 w g5 (flatT Ta ++ R5) g9 (flatT Tc ++ R9) (.int .i64 0) w3) := (⟨0, Nat.zero_le _, rfl, B7, B5, B9, hbe⟩ : LcRel Tb d g7 R7 w g5 (flatT Ta ++ R5) g9 (flatT Tc ++ R9) (.int .i64 0) w3)
    clear B5 B7 B9 hbe
    go_wp2
    go_loopw [67] (LcRel Tb d g7 R7 w g5 (flatT Ta ++ R5) g9 (flatT Tc ++ R9)) (fun i _ => m + 1 - (intOf i).toNat)
    case atStart => exact H0.out
    case round =>
      clear H0
      obtain ⟨k, hk, rfl, B7, B5, B9, hbe⟩ := hrel
      rw [hm.out] at hk
      by_cases hlt : k < m + 1
      · have hki : (k : Int) < (m : Int) + 1 := by omega
        have hk0 : (0 : Int) ≤ (k : Int) := by omega
        obtain ⟨t, ht⟩ : ∃ t, Tb[k]? = some t := ⟨_, List.getElem?_eq_getElem (by rw [hm.out]; exact hlt)⟩
        have hlb := HLB.out k t ht
        have hg1 := parT_get (d := d) ht
        have hg2 := flatT_get hg1 3 _ rfl
        have hsp := flatT_set (parT d Tb k) k t R7 (t.line + d) hg1
        rw [parT_set ht] at hsp
        have hget : (flatT (parT d Tb k) ++ R7)[k * 5 + 3]? = some (.int .i64 (t.line : Int)) := by
          rw [List.getElem?_append_left (List.getElem?_eq_some_iff.1 hg2).1]; exact hg2
        have hle := (List.getElem?_eq_some_iff.1 hget).1
        obtain ⟨F7, hF7⟩ : ∃ F, flatT (parT d Tb k) ++ R7 = F := ⟨_, rfl⟩
        rw [hF7] at B7 hsp hget hle
        obtain ⟨LN, hLN⟩ : ∃ x, t.line = x := ⟨_, rfl⟩
        rw [hLN] at hsp hget hlb
        obtain ⟨LN2, hL2⟩ : ∃ x, LN + d = x := ⟨_, rfl⟩
        rw [hL2] at hsp
        have hadd : (LN : Int) + (d : Int) = (LN2 : Int) := by omega
        have hlni : (LN : Int) ≤ 2000 := by omega
        have hwd := wrap_small (x := d) (by omega)
        have hwl := wrap_small (x := LN2) (by omega)
        have hdi2 : (d : Int) ≤ 1001 := by omega
        have hln0 : (0 : Int) ≤ (LN : Int) := by omega
        have hd00 : (0 : Int) ≤ (d : Int) := by omega
        have HSP := Lib.hid hsp
        have HG := Lib.hid hget
        have HLE := Lib.hid hle
        clear hsp hget hle hF7 hLN hL2 hg1 hg2 ht
        go_wp2
        have hdd := below_drew wr
        have B7 := B7.next hdd B7.lt
        have B5 := B5.next hdd B5.lt
        have B9 := B9.next hdd B9.lt
        have hbe := below_join hbe hdd
        refine wp_region_held_drew (S := fun _ => True) (by kernel_rfl) trivial (fun hHeld => ?_)
        clear hdd
        generalize wr.drew = w21 at B7 B5 B9 hbe hHeld  ⊢
        refine wpAnyH_take (i := 0) (v := ?vqaa0) rfl (by kernel_rfl) (by kernel_rfl) (by kernel_rfl) (fun _ _ _ h => h) (Or.inl ⟨by rfl, ?yqaa0⟩) (by assumption) ?rqaa0
        case yqaa0 => intro w hSw; (try dsimp only at hSw); go_simp <;> (try with_reducible rfl)
        (try simp only [List.getElem_toArray, List.getElem_cons_zero, Act.put, List.setIfInBounds_toArray, List.set_cons_zero, List.set_cons_succ])
        refine wpAnyH_take (i := 1) (v := ?vqaa1) rfl (by kernel_rfl) (by kernel_rfl) (by kernel_rfl) (fun _ _ _ h => h) (Or.inl ⟨by rfl, ?yqaa1⟩) (by assumption) ?rqaa1
        case yqaa1 => intro w hSw; (try dsimp only at hSw); go_simp <;> (try with_reducible rfl)
        (try simp only [List.getElem_toArray, List.getElem_cons_succ, List.getElem_cons_zero, Act.put, List.setIfInBounds_toArray, List.set_cons_zero, List.set_cons_succ])
        refine wpAnyH_take (i := 2) (v := ?vqaa2) rfl (by kernel_rfl) (by kernel_rfl) (by kernel_rfl) (fun _ _ _ h => h) (Or.inl ⟨by rfl, ?yqaa2⟩) (by assumption) ?rqaa2
        case yqaa2 => intro w hSw; (try dsimp only at hSw); go_simp <;> (try with_reducible rfl)
        (try simp only [List.getElem_toArray, List.getElem_cons_succ, List.getElem_cons_zero, Act.put, List.setIfInBounds_toArray, List.set_cons_zero, List.set_cons_succ])
        refine wpAnyH_take (i := 3) (v := ?vqaa3) rfl (by kernel_rfl) (by kernel_rfl) (by kernel_rfl) (fun _ _ _ h => h) (Or.inl ⟨by rfl, ?yqaa3⟩) (by assumption) ?rqaa3
        case yqaa3 => intro w hSw; (try dsimp only at hSw); go_simp <;> (try with_reducible rfl)
        (try simp only [List.getElem_toArray, List.getElem_cons_succ, List.getElem_cons_zero, Act.put, List.setIfInBounds_toArray, List.set_cons_zero, List.set_cons_succ])
        refine wpAnyH_take (i := 5) (v := ?vqaa5) rfl (by kernel_rfl) (by kernel_rfl) (by kernel_rfl) (fun _ _ _ h => h) (Or.inl ⟨by rfl, ?yqaa5⟩) (by assumption) ?rqaa5
        case yqaa5 => intro w hSw; (try dsimp only at hSw); go_simp <;> (try with_reducible rfl)
        (try simp only [List.getElem_toArray, List.getElem_cons_succ, List.getElem_cons_zero, Act.put, List.setIfInBounds_toArray, List.set_cons_zero, List.set_cons_succ])
        refine wpAnyH_ready (rs := [4, 6]) (by kernel_rfl) (by simp) ?_
        refine AllReadyH.cons rfl (fun K hK => ?_) (AllReadyH.cons rfl (fun K hK => ?_) AllReadyH.nil)
        · skip
          have hcq := B7.cell (k := k * 5 + 3) HG.out
          go_simp
          refine hK.out _ _ trivial (fun hHeld => ?_)
          clear hK K hcq
          refine wpAnyH_ready (rs := [6]) (by kernel_rfl) (by simp) ?_
          refine AllReadyH.cons rfl (fun K hK => ?_) AllReadyH.nil
          go_simp
          go_wp2_with fail
          (with_reducible refine (HC _).mono ?_)
          rintro e w22 ⟨rfl, hb22⟩
          have B7 := B7.next hb22 B7.lt
          have B5 := B5.next hb22 B5.lt
          have B9 := B9.next hb22 B9.lt
          have hbe := below_join hbe hb22
          refine hK.out _ _ trivial (fun hHeld => ?_)
          clear hK K hb22
          refine wpAnyH_take (i := 7) (v := ?vqab7) rfl (by kernel_rfl) (by kernel_rfl) (by kernel_rfl) (fun _ _ _ h => h) (Or.inl ⟨by rfl, ?yqab7⟩) (by assumption) ?rqab7
          case yqab7 => intro w hSw; (try dsimp only at hSw); go_simp <;> (try with_reducible rfl)
          (try simp only [List.getElem_toArray, List.getElem_cons_succ, List.getElem_cons_zero, Act.put, List.setIfInBounds_toArray, List.set_cons_zero, List.set_cons_succ])
          refine wpAnyH_take (i := 8) (v := ?vqab8) rfl (by kernel_rfl) (by kernel_rfl) (by kernel_rfl) (fun _ _ _ h => h) (Or.inl ⟨by rfl, ?yqab8⟩) (by assumption) ?rqab8
          case yqab8 => intro w hSw; (try dsimp only at hSw); go_simp <;> (try with_reducible rfl)
          (try simp only [List.getElem_toArray, List.getElem_cons_succ, List.getElem_cons_zero, Act.put, List.setIfInBounds_toArray, List.set_cons_zero, List.set_cons_succ])
          refine wpAnyH_take (i := 9) (v := ?vqab9) rfl (by kernel_rfl) (by kernel_rfl) (by kernel_rfl) (fun _ _ _ h => h) (Or.inl ⟨by rfl, ?yqab9⟩) (by assumption) ?rqab9
          case yqab9 => intro w hSw; (try dsimp only at hSw); go_simp <;> (try with_reducible rfl)
          (try simp only [List.getElem_toArray, List.getElem_cons_succ, List.getElem_cons_zero, Act.put, List.setIfInBounds_toArray, List.set_cons_zero, List.set_cons_succ])
          refine wpAnyH_take (i := 10) (v := ?vqab10) rfl (by kernel_rfl) (by kernel_rfl) (by kernel_rfl) (fun _ _ _ h => h) (Or.inl ⟨by rfl, ?yqab10⟩) (by assumption) ?rqab10
          case yqab10 => intro w hSw; (try dsimp only at hSw); go_simp <;> (try with_reducible rfl)
          (try simp only [List.getElem_toArray, List.getElem_cons_succ, List.getElem_cons_zero, Act.put, List.setIfInBounds_toArray, List.set_cons_zero, List.set_cons_succ])
          refine wpAnyH_ready (rs := [11]) (by kernel_rfl) (by simp) ?_
          refine AllReadyH.cons rfl (fun K hK => ?_) AllReadyH.nil
          rw [if_pos (by rfl)]
          refine wp_put 3 (.tmp 80) (.tmp 78) rfl g7 (k * 5 + 3) rfl (.int .i64 (LN2 : Int)) rfl B7 [Value.int .i64 (LN2 : Int)] rfl (by exact Tryd.szInt) (by exact HLE.out) (one_cell1 rfl) ?_
          intro w23 hu23 C7
          rw [HSP.out] at C7
          have B5 := B5.upd hu23 ne5_7
          have B9 := B9.upd hu23 ne9_7
          have hbe := hbe.trans (hu23.below (B := w.heap.size) hl7)
          clear B7 hu23
          have B7 := C7
          clear C7
          refine hK.out _ _ trivial (fun hHeld => ?_)
          clear hK K
          refine wpAnyH_done (by kernel_rfl) ?_ _
          clear hHeld 
          go_wp2
          go_roundw
          case rel =>
            refine ⟨_, _, _, _, _, _, _, _, _, _, _, _, _, _, _, _, ?R1, rfl⟩
            exact ⟨k + 1, by rw [hm.out]; exact hlt, by go_num, B7, B5, B9, hbe⟩
          case measure => simp [intOf]; omega
        · skip
          go_simp
          go_wp2_with fail
          (with_reducible refine (HC _).mono ?_)
          rintro e w22 ⟨rfl, hb22⟩
          have B7 := B7.next hb22 B7.lt
          have B5 := B5.next hb22 B5.lt
          have B9 := B9.next hb22 B9.lt
          have hbe := below_join hbe hb22
          refine hK.out _ _ trivial (fun hHeld => ?_)
          clear hK K hb22
          refine wpAnyH_take (i := 7) (v := ?vqac7) rfl (by kernel_rfl) (by kernel_rfl) (by kernel_rfl) (fun _ _ _ h => h) (Or.inl ⟨by rfl, ?yqac7⟩) (by assumption) ?rqac7
          case yqac7 => intro w hSw; (try dsimp only at hSw); go_simp <;> (try with_reducible rfl)
          (try simp only [List.getElem_toArray, List.getElem_cons_succ, List.getElem_cons_zero, Act.put, List.setIfInBounds_toArray, List.set_cons_zero, List.set_cons_succ])
          refine wpAnyH_ready (rs := [4]) (by kernel_rfl) (by simp) ?_
          refine AllReadyH.cons rfl (fun K hK => ?_) AllReadyH.nil
          have hcq := B7.cell (k := k * 5 + 3) HG.out
          go_simp
          refine hK.out _ _ trivial (fun hHeld => ?_)
          clear hK K hcq
          refine wpAnyH_take (i := 8) (v := ?vqac8) rfl (by kernel_rfl) (by kernel_rfl) (by kernel_rfl) (fun _ _ _ h => h) (Or.inl ⟨by rfl, ?yqac8⟩) (by assumption) ?rqac8
          case yqac8 => intro w hSw; (try dsimp only at hSw); go_simp <;> (try with_reducible rfl)
          (try simp only [List.getElem_toArray, List.getElem_cons_succ, List.getElem_cons_zero, Act.put, List.setIfInBounds_toArray, List.set_cons_zero, List.set_cons_succ])
          refine wpAnyH_take (i := 9) (v := ?vqac9) rfl (by kernel_rfl) (by kernel_rfl) (by kernel_rfl) (fun _ _ _ h => h) (Or.inl ⟨by rfl, ?yqac9⟩) (by assumption) ?rqac9
          case yqac9 => intro w hSw; (try dsimp only at hSw); go_simp <;> (try with_reducible rfl)
          (try simp only [List.getElem_toArray, List.getElem_cons_succ, List.getElem_cons_zero, Act.put, List.setIfInBounds_toArray, List.set_cons_zero, List.set_cons_succ])
          refine wpAnyH_take (i := 10) (v := ?vqac10) rfl (by kernel_rfl) (by kernel_rfl) (by kernel_rfl) (fun _ _ _ h => h) (Or.inl ⟨by rfl, ?yqac10⟩) (by assumption) ?rqac10
          case yqac10 => intro w hSw; (try dsimp only at hSw); go_simp <;> (try with_reducible rfl)
          (try simp only [List.getElem_toArray, List.getElem_cons_succ, List.getElem_cons_zero, Act.put, List.setIfInBounds_toArray, List.set_cons_zero, List.set_cons_succ])
          refine wpAnyH_ready (rs := [11]) (by kernel_rfl) (by simp) ?_
          refine AllReadyH.cons rfl (fun K hK => ?_) AllReadyH.nil
          rw [if_pos (by rfl)]
          refine wp_put 3 (.tmp 80) (.tmp 78) rfl g7 (k * 5 + 3) rfl (.int .i64 (LN2 : Int)) rfl B7 [Value.int .i64 (LN2 : Int)] rfl (by exact Tryd.szInt) (by exact HLE.out) (one_cell1 rfl) ?_
          intro w23 hu23 C7
          rw [HSP.out] at C7
          have B5 := B5.upd hu23 ne5_7
          have B9 := B9.upd hu23 ne9_7
          have hbe := hbe.trans (hu23.below (B := w.heap.size) hl7)
          clear B7 hu23
          have B7 := C7
          clear C7
          refine hK.out _ _ trivial (fun hHeld => ?_)
          clear hK K
          refine wpAnyH_done (by kernel_rfl) ?_ _
          clear hHeld 
          go_wp2
          go_roundw
          case rel =>
            refine ⟨_, _, _, _, _, _, _, _, _, _, _, _, _, _, _, _, ?R2, rfl⟩
            exact ⟨k + 1, by rw [hm.out]; exact hlt, by go_num, B7, B5, B9, hbe⟩
          case measure => simp [intOf]; omega
      · have hkn : k = m + 1 := by omega
        subst hkn
        have hpa : parT d Tb (m + 1) = Tb.map (shT d) := by rw [← hm.out]; exact parT_all d Tb
        rw [hpa] at B7
        clear hpa
        have hki : ¬ (((m + 1 : Nat) : Int)) < (m : Int) + 1 := by omega
        have hnc : (n : Int) ≤ (c5 : Int) := by omega
        go_wp2_with fail
        (with_reducible refine (HS _ (HQ.out.next hbe)).mono ?_)
        rintro e w31 ⟨rfl, hb31⟩
        have B5 := B5.next hb31 B5.lt
        have B7 := B7.next hb31 B7.lt
        have B9 := B9.next hb31 B9.lt
        have hbe := below_join hbe hb31
        clear hb31
        have FA := Lib.hid (HLA.out g5 _ _ B5)
        have FB := Lib.hid (flat_mid B7)
        go_wp2_with (with_reducible refine wpList_appG (o := ⟨some 94, .call ⟨.builtin .append, #[.tmp 92, .tmp 93], #[23, 23]⟩, _, _, _, _⟩) (by with_unfolding_all rfl) (.tmp 92) (.tmp 93) (by with_unfolding_all rfl) g5 g7 n (m + 1) c7 (Ta.take n) (Tb.map (shT d)) (by with_unfolding_all rfl) (by with_unfolding_all rfl) HTL.out HML.out FA.out FB.out (by omega) (by omega) ?_)
        intro g32 c32 w32 hg32 hT32 hb32
        have B9 := B9.next hb32 B9.lt
        have hbe := below_join hbe hb32
        rw [hTc.out] at hT32
        have hT9 := tks_blk B9
        have HSM := same_any (some ⟨g9, 0, none⟩) (some ⟨g32, 0, none⟩) c9 c32 Tc _ (by rw [HTC.out]; omega) hT9 hT32
        rw [HTC.out] at HSM
        clear hb32 hT32 hT9 B5 B7 B9 FA FB
        go_wp2_with fail
        (with_reducible refine HSM.mono ?_)
        rintro e w33 ⟨rfl, hb33⟩
        have hbe := below_join hbe hb33
        go_wp2
        go_ret
        exact ⟨rfl, hbe⟩
end Go.Proofs.YtlpocfojgibhjaaDoor
