/-
  Contract of the walk over first. Conditions: the program's tables lie there; the text is empty or begins with no separator.
-/
import Derived.Test.YtcefaipjncohmaaGreatDoorQk
namespace Go.Proofs.YtcefaipjncohmaaGreatDoor
set_option linter.unusedVariables false
set_option linter.unusedSimpArgs false
open Go.RowKit Go.Shelf

def TokE (a b : Int) (c : ByteArray) : Ending := .returned (.agg #[.int .i64 a, .int .i64 b, .string c, .int .i64 0, .int .i64 0])
def FsRel (p0 p1 p2 p3 p4 : Bool) (g4 : Nat) (w : World) (i : Value) (wr : World) : Prop :=
  ∃ k : Nat, (k = 0 ∧ True ∨ k = 1 ∧ p0 = false ∨ k = 2 ∧ p0 = false ∧ p1 = false ∨ k = 3 ∧ p0 = false ∧ p1 = false ∧ p2 = false ∨ k = 4 ∧ p0 = false ∧ p1 = false ∧ p2 = false ∧ p3 = false ∨ k = 5 ∧ p0 = false ∧ p1 = false ∧ p2 = false ∧ p3 = false ∧ p4 = false) ∧ i = .int .i64 (k : Int) ∧ Blk wr g4 30 [Value.int .i64 0, .int .i64 0, .string ByteArray.empty, .int .i64 0, .int .i64 0] ∧ Below w.heap.size w wr
theorem tokE_eq {a b a2 b2 : Int} {c c2 : ByteArray} (h1 : a2 = a) (h2 : b2 = b) (h3 : c2 = c) : Ending.returned (.agg #[.int .i64 a, .int .i64 b, .string c, .int .i64 0, .int .i64 0]) = TokE a2 b2 c2 := by subst h1 h2 h3; rfl
set_option maxRecDepth 100000 in
set_option maxHeartbeats 6400000 in
theorem first_any (s : ByteArray) (gw gk : Nat) (hs : s.size ≤ 140737488355328) (hg : s.data.toList = [] ∨ nog s.data.toList = true) (w : World) (hR : RDs gw gk w) (hT : TT w) :
    Calls Tryz.prog 21 #[.string s, .slice (some ⟨gk, 0, none⟩) 6 6] w fun e w' => e = TokE ((tokM s.data.toList).kind : Nat) ((tokM s.data.toList).n : Nat) (s.extract 0 (tokM s.data.toList).len) ∧ Below w.heap.size w w' := by
  have t0 := tm0 s.data.toList
  have t1 := tm1 s.data.toList
  have t2 := tm2 s.data.toList
  have t3 := tm3 s.data.toList
  have t4 := tm4 s.data.toList
  have t5 := tm5 s.data.toList hg
  have r0 := fun w cw hT => rd0_any s hs gw w cw hT
  have r1 := fun w cw => rd1_any s hs gw w cw
  have r2 := fun w cw => rd2_any s hs gw w cw
  have r3 := fun w hT => rd3_any s hs w hT
  have r4 := fun w hT => rd4_any s hs w hT
  have r5 := fun w => rd5_any s hs w
  have hemp : s.data.toList = [] → s.size = 0 ∧ tokM s.data.toList = ⟨6, 0, 0⟩ := fun e => ⟨by rw [← bytes_size, e]; rfl, by rw [e]; rfl⟩
  rw [show (decide (0 < runL s.data.toList) && lo (s.data.toList.headD 0)) = o0 s.data.toList from rfl] at r0
  rw [show (numM (s.data.toList.take (runL s.data.toList))).isSome = o1 s.data.toList from rfl] at r1
  rw [show (decide (0 < runL s.data.toList) && dg (s.data.toList.headD 0)) = o2 s.data.toList from rfl] at r2
  rw [show decide (0 < signL s.data.toList) = o3 s.data.toList from rfl] at r3
  rw [show decide (0 < oddL s.data.toList) = o4 s.data.toList from rfl] at r4
  obtain ⟨M, hM⟩ : ∃ M, tokM s.data.toList = M := ⟨_, rfl⟩
  rw [hM] at t0 t1 t2 t3 t4 hemp ⊢
  obtain ⟨K, hK⟩ : ∃ K, kindM (s.data.toList.take (runL s.data.toList)) = K := ⟨_, rfl⟩
  rw [hK] at t0 r0
  obtain ⟨V, hV⟩ : ∃ V, (numM (s.data.toList.take (runL s.data.toList))).getD 0 = V := ⟨_, rfl⟩
  rw [hV] at t1 r1
  obtain ⟨nr, hnr⟩ : ∃ nr, runL s.data.toList = nr := ⟨_, rfl⟩
  rw [hnr] at t0 t1 t2 r0 r1 r2
  obtain ⟨ns, hns⟩ : ∃ ns, signL s.data.toList = ns := ⟨_, rfl⟩
  rw [hns] at t3 r3
  obtain ⟨no, hno⟩ : ∃ no, oddL s.data.toList = no := ⟨_, rfl⟩
  rw [hno] at t4 r4
  obtain ⟨p0, hp0⟩ : ∃ p, o0 s.data.toList = p := ⟨_, rfl⟩
  rw [hp0] at r0 t0 t1 t2 t3 t4 t5
  obtain ⟨p1, hp1⟩ : ∃ p, o1 s.data.toList = p := ⟨_, rfl⟩
  rw [hp1] at r1 t1 t2
  obtain ⟨p2, hp2⟩ : ∃ p, o2 s.data.toList = p := ⟨_, rfl⟩
  rw [hp2] at r2 t2 t3 t4 t5
  obtain ⟨p3, hp3⟩ : ∃ p, o3 s.data.toList = p := ⟨_, rfl⟩
  rw [hp3] at r3 t3 t4 t5
  obtain ⟨p4, hp4⟩ : ∃ p, o4 s.data.toList = p := ⟨_, rfl⟩
  rw [hp4] at r4 t4 t5
  have hend : p0 = false → p2 = false → p3 = false → p4 = false → s.size = 0 ∧ M = ⟨6, 0, 0⟩ := fun a b c d => hemp (t5 a b c d)
  obtain ⟨Rr, hRr⟩ : ∃ R, s.extract 0 nr = R := ⟨_, rfl⟩
  obtain ⟨Rs, hRs⟩ : ∃ R, s.extract 0 ns = R := ⟨_, rfl⟩
  obtain ⟨Ro, hRo⟩ : ∃ R, s.extract 0 no = R := ⟨_, rfl⟩
  rw [hRr] at r0 r1 r2
  rw [hRs] at r3
  rw [hRo] at r4
  have f0 : Hid (p0 = true → Ending.returned (.agg #[.int .i64 (K : Int), .int .i64 0, .string Rr, .int .i64 0, .int .i64 0]) = TokE (M.kind : Nat) (M.n : Nat) (s.extract 0 M.len)) := by
    have : p0 = true → Ending.returned (.agg #[.int .i64 (K : Int), .int .i64 0, .string Rr, .int .i64 0, .int .i64 0]) = TokE (M.kind : Nat) (M.n : Nat) (s.extract 0 M.len) := fun h0 => by
      rw [t0 h0]
      exact tokE_eq rfl rfl hRr
    exact this
  have f1 : Hid (p0 = false → p1 = true → Ending.returned (.agg #[.int .i64 3, .int .i64 (V : Int), .string Rr, .int .i64 0, .int .i64 0]) = TokE (M.kind : Nat) (M.n : Nat) (s.extract 0 M.len)) := by
    have : p0 = false → p1 = true → Ending.returned (.agg #[.int .i64 3, .int .i64 (V : Int), .string Rr, .int .i64 0, .int .i64 0]) = TokE (M.kind : Nat) (M.n : Nat) (s.extract 0 M.len) := fun h0 h1 => by
      rw [t1 h0 h1]
      exact tokE_eq rfl rfl hRr
    exact this
  have f2 : Hid (p0 = false → p1 = false → p2 = true → Ending.returned (.agg #[.int .i64 5, .int .i64 0, .string Rr, .int .i64 0, .int .i64 0]) = TokE (M.kind : Nat) (M.n : Nat) (s.extract 0 M.len)) := by
    have : p0 = false → p1 = false → p2 = true → Ending.returned (.agg #[.int .i64 5, .int .i64 0, .string Rr, .int .i64 0, .int .i64 0]) = TokE (M.kind : Nat) (M.n : Nat) (s.extract 0 M.len) := fun h0 h1 h2 => by
      rw [t2 h0 h1 h2]
      exact tokE_eq rfl rfl hRr
    exact this
  have f3 : Hid (p0 = false → p2 = false → p3 = true → Ending.returned (.agg #[.int .i64 4, .int .i64 0, .string Rs, .int .i64 0, .int .i64 0]) = TokE (M.kind : Nat) (M.n : Nat) (s.extract 0 M.len)) := by
    have : p0 = false → p2 = false → p3 = true → Ending.returned (.agg #[.int .i64 4, .int .i64 0, .string Rs, .int .i64 0, .int .i64 0]) = TokE (M.kind : Nat) (M.n : Nat) (s.extract 0 M.len) := fun h0 h1 h2 => by
      rw [t3 h0 h1 h2]
      exact tokE_eq rfl rfl hRs
    exact this
  have f4 : Hid (p0 = false → p2 = false → p3 = false → p4 = true → Ending.returned (.agg #[.int .i64 5, .int .i64 0, .string Ro, .int .i64 0, .int .i64 0]) = TokE (M.kind : Nat) (M.n : Nat) (s.extract 0 M.len)) := by
    have : p0 = false → p2 = false → p3 = false → p4 = true → Ending.returned (.agg #[.int .i64 5, .int .i64 0, .string Ro, .int .i64 0, .int .i64 0]) = TokE (M.kind : Nat) (M.n : Nat) (s.extract 0 M.len) := fun h0 h1 h2 h3 => by
      rw [t4 h0 h1 h2 h3]
      exact tokE_eq rfl rfl hRo
    exact this
  have f5 : Hid (p0 = false → p2 = false → p3 = false → p4 = false → Ending.returned (.agg #[.int .i64 6, .int .i64 0, .string ByteArray.empty, .int .i64 0, .int .i64 0]) = TokE (M.kind : Nat) (M.n : Nat) (s.extract 0 M.len)) := by
    have : p0 = false → p2 = false → p3 = false → p4 = false → Ending.returned (.agg #[.int .i64 6, .int .i64 0, .string ByteArray.empty, .int .i64 0, .int .i64 0]) = TokE (M.kind : Nat) (M.n : Nat) (s.extract 0 M.len) := fun a b c d => by
      have e := hend a b c d
      rw [e.2]
      refine tokE_eq rfl rfl (data_inj ?_)
      rw [cut_ls]
      rfl
    exact this
  have HE : Hid (p0 = false → p2 = false → p3 = false → p4 = false → s.size = 0) := (fun a b c d => (hend a b c d).1 : p0 = false → p2 = false → p3 = false → p4 = false → s.size = 0)
  obtain ⟨Z, hZ⟩ : ∃ Z, TokE (M.kind : Nat) (M.n : Nat) (s.extract 0 M.len) = Z := ⟨_, rfl⟩
  rw [hZ] at f0 f1 f2 f3 f4 f5 ⊢
  have HT := Lib.hid hT
  have HR := Lib.hid hR
  clear t0 t1 t2 t3 t4 t5 hemp hM hK hV hnr hns hno hp0 hp1 hp2 hp3 hp4 hend hRr hRs hRo hT hR hZ hg
  go_enter Tryz.func21, Tryz.ntmps21
  go_wp2_with (with_reducible refine wpList_alloc (o := ⟨some 4, .alloc 30, _, _, _, _⟩) (by with_unfolding_all rfl) 30 (by with_unfolding_all rfl) (.agg #[.int .i64 0, .int .i64 0, .string ByteArray.empty, .int .i64 0, .int .i64 0]) [Value.int .i64 0, .int .i64 0, .string ByteArray.empty, .int .i64 0, .int .i64 0] (by exact Tryz.zeroTok) (by with_unfolding_all rfl) ?_)
  intro g4 w1 hg4 hs1 hb1 B4
  have hl4 : w.heap.size ≤ g4 := Nat.le_of_eq hg4.out.symm
  have hb1 := hb1.mono (Nat.le_of_eq hg4.out.symm)
  have hbe : Below w.heap.size w w1 := hb1
  clear hb1 hg4 hs1
  go_wp2
  go_loopw [11] (FsRel p0 p1 p2 p3 p4 g4 w) (fun i _ => 6 - (intOf i).toNat)
  case atStart => exact ⟨0, Or.inl ⟨rfl, trivial⟩, rfl, B4, hbe⟩
  case round =>
    clear B4 hbe
    obtain ⟨k, hk, rfl, B4, hbe⟩ := hrel
    have el := (HR.out.next hbe).el
    have cw := (HR.out.next hbe).cw
    have hT := HT.out.next hbe
    rcases hk with hk | hk | hk | hk | hk | hk
    · obtain rfl := hk.1
      have ce : wr.cell? ⟨gk, 0, none⟩ = some (.func (.func 49) #[] #[.pointer (some ⟨gw, 0, none⟩)]) := el 0 _ rfl
      have HC := r0 _ cw hT
      clear el cw hT
      cases p0
      · skip
        unfold rdE at HC
        go_wp2_with fail
        (with_reducible refine (HC).mono ?_)
        rintro e w11 ⟨rfl, hb11⟩
        have B4 := B4.next hb11 B4.lt
        have hbe := below_join hbe hb11
        clear hb11
        clear ce
        go_wp2_with (with_reducible refine wpList_alloc (o := ⟨some 7, .alloc 30, _, _, _, _⟩) (by with_unfolding_all rfl) 30 (by with_unfolding_all rfl) (.agg #[.int .i64 0, .int .i64 0, .string ByteArray.empty, .int .i64 0, .int .i64 0]) [Value.int .i64 0, .int .i64 0, .string ByteArray.empty, .int .i64 0, .int .i64 0] (by exact Tryz.zeroTok) (by with_unfolding_all rfl) ?_)
        intro g7 w12 hg7 hs12 hb12 B7
        have hl7 : w.heap.size ≤ g7 := Nat.le_trans hbe.size (Nat.le_of_eq hg7.out.symm)
        have ne4_7 : g4 ≠ g7 := by have := B4.lt; have := hg7.out; omega
        have ne7_4 := ne4_7.symm
        have hb12 := hb12.mono (Nat.le_of_eq hg7.out.symm)
        have B4 := B4.next hb12 B4.lt
        have hbe := below_join hbe hb12
        clear hb12 hg7 hs12
        go_wp2_with (with_reducible refine wpList_put (o := ⟨none, .store 30 (.tmp 7) (.tmp 19), _, _, _, _⟩) (by with_unfolding_all rfl) 30 (.tmp 7) (.tmp 19) (by with_unfolding_all rfl) g7 0 (by with_unfolding_all rfl) (.agg #[.int .i64 (K : Int), .int .i64 0, .string Rr, .int .i64 0, .int .i64 0]) (by with_unfolding_all rfl) B7 [Value.int .i64 (K : Int), .int .i64 0, .string Rr, .int .i64 0, .int .i64 0] (by with_unfolding_all rfl) (by with_unfolding_all (exact Tryz.szTok)) (by with_unfolding_all (exact Nat.le_refl 5)) (by with_unfolding_all (exact tok_one _ _ _ _ _)) ?_)
        intro w13 hu13 C7
        rw [splice_all _ _ (by rfl)] at C7
        have B4 := B4.upd hu13 ne4_7
        have hbe := hbe.trans (hu13.below (B := w.heap.size) hl7)
        clear B7 hu13
        have B7 := C7
        clear C7
        go_wp2
        go_roundw
        case rel => exact ⟨1, Or.inr (Or.inl ⟨rfl, rfl⟩), by go_num, B4, hbe⟩
        case measure => simp [intOf]
      · skip
        unfold rdE at HC
        go_wp2_with fail
        (with_reducible refine (HC).mono ?_)
        rintro e w11 ⟨rfl, hb11⟩
        have B4 := B4.next hb11 B4.lt
        have hbe := below_join hbe hb11
        clear hb11
        clear ce
        go_wp2_with (with_reducible refine wpList_alloc (o := ⟨some 7, .alloc 30, _, _, _, _⟩) (by with_unfolding_all rfl) 30 (by with_unfolding_all rfl) (.agg #[.int .i64 0, .int .i64 0, .string ByteArray.empty, .int .i64 0, .int .i64 0]) [Value.int .i64 0, .int .i64 0, .string ByteArray.empty, .int .i64 0, .int .i64 0] (by exact Tryz.zeroTok) (by with_unfolding_all rfl) ?_)
        intro g7 w12 hg7 hs12 hb12 B7
        have hl7 : w.heap.size ≤ g7 := Nat.le_trans hbe.size (Nat.le_of_eq hg7.out.symm)
        have ne4_7 : g4 ≠ g7 := by have := B4.lt; have := hg7.out; omega
        have ne7_4 := ne4_7.symm
        have hb12 := hb12.mono (Nat.le_of_eq hg7.out.symm)
        have B4 := B4.next hb12 B4.lt
        have hbe := below_join hbe hb12
        clear hb12 hg7 hs12
        go_wp2_with (with_reducible refine wpList_put (o := ⟨none, .store 30 (.tmp 7) (.tmp 19), _, _, _, _⟩) (by with_unfolding_all rfl) 30 (.tmp 7) (.tmp 19) (by with_unfolding_all rfl) g7 0 (by with_unfolding_all rfl) (.agg #[.int .i64 (K : Int), .int .i64 0, .string Rr, .int .i64 0, .int .i64 0]) (by with_unfolding_all rfl) B7 [Value.int .i64 (K : Int), .int .i64 0, .string Rr, .int .i64 0, .int .i64 0] (by with_unfolding_all rfl) (by with_unfolding_all (exact Tryz.szTok)) (by with_unfolding_all (exact Nat.le_refl 5)) (by with_unfolding_all (exact tok_one _ _ _ _ _)) ?_)
        intro w13 hu13 C7
        rw [splice_all _ _ (by rfl)] at C7
        have B4 := B4.upd hu13 ne4_7
        have hbe := hbe.trans (hu13.below (B := w.heap.size) hl7)
        clear B7 hu13
        have B7 := C7
        clear C7
        have z7_0 := B7.cell (k := 0) rfl
        have z7_1 := B7.cell (k := 1) rfl
        have z7_2 := B7.cell (k := 2) rfl
        have z7_3 := B7.cell (k := 3) rfl
        have z7_4 := B7.cell (k := 4) rfl
        go_wp2_with (with_reducible refine wpList_put (o := ⟨none, .store 30 (.tmp 4) (.tmp 22), _, _, _, _⟩) (by with_unfolding_all rfl) 30 (.tmp 4) (.tmp 22) (by with_unfolding_all rfl) g4 0 (by with_unfolding_all rfl) (.agg #[.int .i64 (K : Int), .int .i64 0, .string Rr, .int .i64 0, .int .i64 0]) (by with_unfolding_all rfl) B4 [Value.int .i64 (K : Int), .int .i64 0, .string Rr, .int .i64 0, .int .i64 0] (by with_unfolding_all rfl) (by with_unfolding_all (exact Tryz.szTok)) (by with_unfolding_all (exact Nat.le_refl 5)) (by with_unfolding_all (exact tok_one _ _ _ _ _)) ?_)
        intro w14 hu14 C4
        rw [splice_all _ _ (by rfl)] at C4
        have B7 := B7.upd hu14 ne7_4
        have hbe := hbe.trans (hu14.below (B := w.heap.size) hl4)
        clear B4 hu14
        have B4 := C4
        clear C4
        clear z7_0 z7_1 z7_2 z7_3 z7_4
        go_wp2
        exact bodyPost_ret (results_cell_row rfl _ _ g4 _ _ _ _ rfl B4 Tryz.underlying30 rfl Tryz.szTok) rfl ⟨f0.out trivial, hbe⟩
    · obtain rfl := hk.1
      have ce : wr.cell? ⟨gk, 1, none⟩ = some (.func (.func 50) #[] #[.pointer (some ⟨gw, 0, none⟩)]) := el 1 _ rfl
      have HC := r1 _ cw
      clear el cw hT
      cases p1
      · skip
        unfold rdE at HC
        go_wp2_with fail
        (with_reducible refine (HC).mono ?_)
        rintro e w11 ⟨rfl, hb11⟩
        have B4 := B4.next hb11 B4.lt
        have hbe := below_join hbe hb11
        clear hb11
        clear ce
        go_wp2_with (with_reducible refine wpList_alloc (o := ⟨some 7, .alloc 30, _, _, _, _⟩) (by with_unfolding_all rfl) 30 (by with_unfolding_all rfl) (.agg #[.int .i64 0, .int .i64 0, .string ByteArray.empty, .int .i64 0, .int .i64 0]) [Value.int .i64 0, .int .i64 0, .string ByteArray.empty, .int .i64 0, .int .i64 0] (by exact Tryz.zeroTok) (by with_unfolding_all rfl) ?_)
        intro g7 w12 hg7 hs12 hb12 B7
        have hl7 : w.heap.size ≤ g7 := Nat.le_trans hbe.size (Nat.le_of_eq hg7.out.symm)
        have ne4_7 : g4 ≠ g7 := by have := B4.lt; have := hg7.out; omega
        have ne7_4 := ne4_7.symm
        have hb12 := hb12.mono (Nat.le_of_eq hg7.out.symm)
        have B4 := B4.next hb12 B4.lt
        have hbe := below_join hbe hb12
        clear hb12 hg7 hs12
        go_wp2_with (with_reducible refine wpList_put (o := ⟨none, .store 30 (.tmp 7) (.tmp 19), _, _, _, _⟩) (by with_unfolding_all rfl) 30 (.tmp 7) (.tmp 19) (by with_unfolding_all rfl) g7 0 (by with_unfolding_all rfl) (.agg #[.int .i64 3, .int .i64 (V : Int), .string Rr, .int .i64 0, .int .i64 0]) (by with_unfolding_all rfl) B7 [Value.int .i64 3, .int .i64 (V : Int), .string Rr, .int .i64 0, .int .i64 0] (by with_unfolding_all rfl) (by with_unfolding_all (exact Tryz.szTok)) (by with_unfolding_all (exact Nat.le_refl 5)) (by with_unfolding_all (exact tok_one _ _ _ _ _)) ?_)
        intro w13 hu13 C7
        rw [splice_all _ _ (by rfl)] at C7
        have B4 := B4.upd hu13 ne4_7
        have hbe := hbe.trans (hu13.below (B := w.heap.size) hl7)
        clear B7 hu13
        have B7 := C7
        clear C7
        go_wp2
        go_roundw
        case rel => exact ⟨2, Or.inr (Or.inr (Or.inl ⟨rfl, hk.2, rfl⟩)), by go_num, B4, hbe⟩
        case measure => simp [intOf]
      · skip
        unfold rdE at HC
        go_wp2_with fail
        (with_reducible refine (HC).mono ?_)
        rintro e w11 ⟨rfl, hb11⟩
        have B4 := B4.next hb11 B4.lt
        have hbe := below_join hbe hb11
        clear hb11
        clear ce
        go_wp2_with (with_reducible refine wpList_alloc (o := ⟨some 7, .alloc 30, _, _, _, _⟩) (by with_unfolding_all rfl) 30 (by with_unfolding_all rfl) (.agg #[.int .i64 0, .int .i64 0, .string ByteArray.empty, .int .i64 0, .int .i64 0]) [Value.int .i64 0, .int .i64 0, .string ByteArray.empty, .int .i64 0, .int .i64 0] (by exact Tryz.zeroTok) (by with_unfolding_all rfl) ?_)
        intro g7 w12 hg7 hs12 hb12 B7
        have hl7 : w.heap.size ≤ g7 := Nat.le_trans hbe.size (Nat.le_of_eq hg7.out.symm)
        have ne4_7 : g4 ≠ g7 := by have := B4.lt; have := hg7.out; omega
        have ne7_4 := ne4_7.symm
        have hb12 := hb12.mono (Nat.le_of_eq hg7.out.symm)
        have B4 := B4.next hb12 B4.lt
        have hbe := below_join hbe hb12
        clear hb12 hg7 hs12
        go_wp2_with (with_reducible refine wpList_put (o := ⟨none, .store 30 (.tmp 7) (.tmp 19), _, _, _, _⟩) (by with_unfolding_all rfl) 30 (.tmp 7) (.tmp 19) (by with_unfolding_all rfl) g7 0 (by with_unfolding_all rfl) (.agg #[.int .i64 3, .int .i64 (V : Int), .string Rr, .int .i64 0, .int .i64 0]) (by with_unfolding_all rfl) B7 [Value.int .i64 3, .int .i64 (V : Int), .string Rr, .int .i64 0, .int .i64 0] (by with_unfolding_all rfl) (by with_unfolding_all (exact Tryz.szTok)) (by with_unfolding_all (exact Nat.le_refl 5)) (by with_unfolding_all (exact tok_one _ _ _ _ _)) ?_)
        intro w13 hu13 C7
        rw [splice_all _ _ (by rfl)] at C7
        have B4 := B4.upd hu13 ne4_7
        have hbe := hbe.trans (hu13.below (B := w.heap.size) hl7)
        clear B7 hu13
        have B7 := C7
        clear C7
        have z7_0 := B7.cell (k := 0) rfl
        have z7_1 := B7.cell (k := 1) rfl
        have z7_2 := B7.cell (k := 2) rfl
        have z7_3 := B7.cell (k := 3) rfl
        have z7_4 := B7.cell (k := 4) rfl
        go_wp2_with (with_reducible refine wpList_put (o := ⟨none, .store 30 (.tmp 4) (.tmp 22), _, _, _, _⟩) (by with_unfolding_all rfl) 30 (.tmp 4) (.tmp 22) (by with_unfolding_all rfl) g4 0 (by with_unfolding_all rfl) (.agg #[.int .i64 3, .int .i64 (V : Int), .string Rr, .int .i64 0, .int .i64 0]) (by with_unfolding_all rfl) B4 [Value.int .i64 3, .int .i64 (V : Int), .string Rr, .int .i64 0, .int .i64 0] (by with_unfolding_all rfl) (by with_unfolding_all (exact Tryz.szTok)) (by with_unfolding_all (exact Nat.le_refl 5)) (by with_unfolding_all (exact tok_one _ _ _ _ _)) ?_)
        intro w14 hu14 C4
        rw [splice_all _ _ (by rfl)] at C4
        have B7 := B7.upd hu14 ne7_4
        have hbe := hbe.trans (hu14.below (B := w.heap.size) hl4)
        clear B4 hu14
        have B4 := C4
        clear C4
        clear z7_0 z7_1 z7_2 z7_3 z7_4
        go_wp2
        exact bodyPost_ret (results_cell_row rfl _ _ g4 _ _ _ _ rfl B4 Tryz.underlying30 rfl Tryz.szTok) rfl ⟨f1.out hk.2 trivial, hbe⟩
    · obtain rfl := hk.1
      have ce : wr.cell? ⟨gk, 2, none⟩ = some (.func (.func 51) #[] #[.pointer (some ⟨gw, 0, none⟩)]) := el 2 _ rfl
      have HC := r2 _ cw
      clear el cw hT
      cases p2
      · skip
        unfold rdE at HC
        go_wp2_with fail
        (with_reducible refine (HC).mono ?_)
        rintro e w11 ⟨rfl, hb11⟩
        have B4 := B4.next hb11 B4.lt
        have hbe := below_join hbe hb11
        clear hb11
        clear ce
        go_wp2_with (with_reducible refine wpList_alloc (o := ⟨some 7, .alloc 30, _, _, _, _⟩) (by with_unfolding_all rfl) 30 (by with_unfolding_all rfl) (.agg #[.int .i64 0, .int .i64 0, .string ByteArray.empty, .int .i64 0, .int .i64 0]) [Value.int .i64 0, .int .i64 0, .string ByteArray.empty, .int .i64 0, .int .i64 0] (by exact Tryz.zeroTok) (by with_unfolding_all rfl) ?_)
        intro g7 w12 hg7 hs12 hb12 B7
        have hl7 : w.heap.size ≤ g7 := Nat.le_trans hbe.size (Nat.le_of_eq hg7.out.symm)
        have ne4_7 : g4 ≠ g7 := by have := B4.lt; have := hg7.out; omega
        have ne7_4 := ne4_7.symm
        have hb12 := hb12.mono (Nat.le_of_eq hg7.out.symm)
        have B4 := B4.next hb12 B4.lt
        have hbe := below_join hbe hb12
        clear hb12 hg7 hs12
        go_wp2_with (with_reducible refine wpList_put (o := ⟨none, .store 30 (.tmp 7) (.tmp 19), _, _, _, _⟩) (by with_unfolding_all rfl) 30 (.tmp 7) (.tmp 19) (by with_unfolding_all rfl) g7 0 (by with_unfolding_all rfl) (.agg #[.int .i64 5, .int .i64 0, .string Rr, .int .i64 0, .int .i64 0]) (by with_unfolding_all rfl) B7 [Value.int .i64 5, .int .i64 0, .string Rr, .int .i64 0, .int .i64 0] (by with_unfolding_all rfl) (by with_unfolding_all (exact Tryz.szTok)) (by with_unfolding_all (exact Nat.le_refl 5)) (by with_unfolding_all (exact tok_one _ _ _ _ _)) ?_)
        intro w13 hu13 C7
        rw [splice_all _ _ (by rfl)] at C7
        have B4 := B4.upd hu13 ne4_7
        have hbe := hbe.trans (hu13.below (B := w.heap.size) hl7)
        clear B7 hu13
        have B7 := C7
        clear C7
        go_wp2
        go_roundw
        case rel => exact ⟨3, Or.inr (Or.inr (Or.inr (Or.inl ⟨rfl, hk.2.1, hk.2.2, rfl⟩))), by go_num, B4, hbe⟩
        case measure => simp [intOf]
      · skip
        unfold rdE at HC
        go_wp2_with fail
        (with_reducible refine (HC).mono ?_)
        rintro e w11 ⟨rfl, hb11⟩
        have B4 := B4.next hb11 B4.lt
        have hbe := below_join hbe hb11
        clear hb11
        clear ce
        go_wp2_with (with_reducible refine wpList_alloc (o := ⟨some 7, .alloc 30, _, _, _, _⟩) (by with_unfolding_all rfl) 30 (by with_unfolding_all rfl) (.agg #[.int .i64 0, .int .i64 0, .string ByteArray.empty, .int .i64 0, .int .i64 0]) [Value.int .i64 0, .int .i64 0, .string ByteArray.empty, .int .i64 0, .int .i64 0] (by exact Tryz.zeroTok) (by with_unfolding_all rfl) ?_)
        intro g7 w12 hg7 hs12 hb12 B7
        have hl7 : w.heap.size ≤ g7 := Nat.le_trans hbe.size (Nat.le_of_eq hg7.out.symm)
        have ne4_7 : g4 ≠ g7 := by have := B4.lt; have := hg7.out; omega
        have ne7_4 := ne4_7.symm
        have hb12 := hb12.mono (Nat.le_of_eq hg7.out.symm)
        have B4 := B4.next hb12 B4.lt
        have hbe := below_join hbe hb12
        clear hb12 hg7 hs12
        go_wp2_with (with_reducible refine wpList_put (o := ⟨none, .store 30 (.tmp 7) (.tmp 19), _, _, _, _⟩) (by with_unfolding_all rfl) 30 (.tmp 7) (.tmp 19) (by with_unfolding_all rfl) g7 0 (by with_unfolding_all rfl) (.agg #[.int .i64 5, .int .i64 0, .string Rr, .int .i64 0, .int .i64 0]) (by with_unfolding_all rfl) B7 [Value.int .i64 5, .int .i64 0, .string Rr, .int .i64 0, .int .i64 0] (by with_unfolding_all rfl) (by with_unfolding_all (exact Tryz.szTok)) (by with_unfolding_all (exact Nat.le_refl 5)) (by with_unfolding_all (exact tok_one _ _ _ _ _)) ?_)
        intro w13 hu13 C7
        rw [splice_all _ _ (by rfl)] at C7
        have B4 := B4.upd hu13 ne4_7
        have hbe := hbe.trans (hu13.below (B := w.heap.size) hl7)
        clear B7 hu13
        have B7 := C7
        clear C7
        have z7_0 := B7.cell (k := 0) rfl
        have z7_1 := B7.cell (k := 1) rfl
        have z7_2 := B7.cell (k := 2) rfl
        have z7_3 := B7.cell (k := 3) rfl
        have z7_4 := B7.cell (k := 4) rfl
        go_wp2_with (with_reducible refine wpList_put (o := ⟨none, .store 30 (.tmp 4) (.tmp 22), _, _, _, _⟩) (by with_unfolding_all rfl) 30 (.tmp 4) (.tmp 22) (by with_unfolding_all rfl) g4 0 (by with_unfolding_all rfl) (.agg #[.int .i64 5, .int .i64 0, .string Rr, .int .i64 0, .int .i64 0]) (by with_unfolding_all rfl) B4 [Value.int .i64 5, .int .i64 0, .string Rr, .int .i64 0, .int .i64 0] (by with_unfolding_all rfl) (by with_unfolding_all (exact Tryz.szTok)) (by with_unfolding_all (exact Nat.le_refl 5)) (by with_unfolding_all (exact tok_one _ _ _ _ _)) ?_)
        intro w14 hu14 C4
        rw [splice_all _ _ (by rfl)] at C4
        have B7 := B7.upd hu14 ne7_4
        have hbe := hbe.trans (hu14.below (B := w.heap.size) hl4)
        clear B4 hu14
        have B4 := C4
        clear C4
        clear z7_0 z7_1 z7_2 z7_3 z7_4
        go_wp2
        exact bodyPost_ret (results_cell_row rfl _ _ g4 _ _ _ _ rfl B4 Tryz.underlying30 rfl Tryz.szTok) rfl ⟨f2.out hk.2.1 hk.2.2 trivial, hbe⟩
    · obtain rfl := hk.1
      have ce : wr.cell? ⟨gk, 3, none⟩ = some (.func (.func 53) #[] #[]) := el 3 _ rfl
      have HC := r3 _ hT
      clear el cw hT
      cases p3
      · skip
        unfold rdE at HC
        go_wp2_with fail
        (with_reducible refine (HC).mono ?_)
        rintro e w11 ⟨rfl, hb11⟩
        have B4 := B4.next hb11 B4.lt
        have hbe := below_join hbe hb11
        clear hb11
        clear ce
        go_wp2_with (with_reducible refine wpList_alloc (o := ⟨some 7, .alloc 30, _, _, _, _⟩) (by with_unfolding_all rfl) 30 (by with_unfolding_all rfl) (.agg #[.int .i64 0, .int .i64 0, .string ByteArray.empty, .int .i64 0, .int .i64 0]) [Value.int .i64 0, .int .i64 0, .string ByteArray.empty, .int .i64 0, .int .i64 0] (by exact Tryz.zeroTok) (by with_unfolding_all rfl) ?_)
        intro g7 w12 hg7 hs12 hb12 B7
        have hl7 : w.heap.size ≤ g7 := Nat.le_trans hbe.size (Nat.le_of_eq hg7.out.symm)
        have ne4_7 : g4 ≠ g7 := by have := B4.lt; have := hg7.out; omega
        have ne7_4 := ne4_7.symm
        have hb12 := hb12.mono (Nat.le_of_eq hg7.out.symm)
        have B4 := B4.next hb12 B4.lt
        have hbe := below_join hbe hb12
        clear hb12 hg7 hs12
        go_wp2_with (with_reducible refine wpList_put (o := ⟨none, .store 30 (.tmp 7) (.tmp 19), _, _, _, _⟩) (by with_unfolding_all rfl) 30 (.tmp 7) (.tmp 19) (by with_unfolding_all rfl) g7 0 (by with_unfolding_all rfl) (.agg #[.int .i64 4, .int .i64 0, .string Rs, .int .i64 0, .int .i64 0]) (by with_unfolding_all rfl) B7 [Value.int .i64 4, .int .i64 0, .string Rs, .int .i64 0, .int .i64 0] (by with_unfolding_all rfl) (by with_unfolding_all (exact Tryz.szTok)) (by with_unfolding_all (exact Nat.le_refl 5)) (by with_unfolding_all (exact tok_one _ _ _ _ _)) ?_)
        intro w13 hu13 C7
        rw [splice_all _ _ (by rfl)] at C7
        have B4 := B4.upd hu13 ne4_7
        have hbe := hbe.trans (hu13.below (B := w.heap.size) hl7)
        clear B7 hu13
        have B7 := C7
        clear C7
        go_wp2
        go_roundw
        case rel => exact ⟨4, Or.inr (Or.inr (Or.inr (Or.inr (Or.inl ⟨rfl, hk.2.1, hk.2.2.1, hk.2.2.2, rfl⟩)))), by go_num, B4, hbe⟩
        case measure => simp [intOf]
      · skip
        unfold rdE at HC
        go_wp2_with fail
        (with_reducible refine (HC).mono ?_)
        rintro e w11 ⟨rfl, hb11⟩
        have B4 := B4.next hb11 B4.lt
        have hbe := below_join hbe hb11
        clear hb11
        clear ce
        go_wp2_with (with_reducible refine wpList_alloc (o := ⟨some 7, .alloc 30, _, _, _, _⟩) (by with_unfolding_all rfl) 30 (by with_unfolding_all rfl) (.agg #[.int .i64 0, .int .i64 0, .string ByteArray.empty, .int .i64 0, .int .i64 0]) [Value.int .i64 0, .int .i64 0, .string ByteArray.empty, .int .i64 0, .int .i64 0] (by exact Tryz.zeroTok) (by with_unfolding_all rfl) ?_)
        intro g7 w12 hg7 hs12 hb12 B7
        have hl7 : w.heap.size ≤ g7 := Nat.le_trans hbe.size (Nat.le_of_eq hg7.out.symm)
        have ne4_7 : g4 ≠ g7 := by have := B4.lt; have := hg7.out; omega
        have ne7_4 := ne4_7.symm
        have hb12 := hb12.mono (Nat.le_of_eq hg7.out.symm)
        have B4 := B4.next hb12 B4.lt
        have hbe := below_join hbe hb12
        clear hb12 hg7 hs12
        go_wp2_with (with_reducible refine wpList_put (o := ⟨none, .store 30 (.tmp 7) (.tmp 19), _, _, _, _⟩) (by with_unfolding_all rfl) 30 (.tmp 7) (.tmp 19) (by with_unfolding_all rfl) g7 0 (by with_unfolding_all rfl) (.agg #[.int .i64 4, .int .i64 0, .string Rs, .int .i64 0, .int .i64 0]) (by with_unfolding_all rfl) B7 [Value.int .i64 4, .int .i64 0, .string Rs, .int .i64 0, .int .i64 0] (by with_unfolding_all rfl) (by with_unfolding_all (exact Tryz.szTok)) (by with_unfolding_all (exact Nat.le_refl 5)) (by with_unfolding_all (exact tok_one _ _ _ _ _)) ?_)
        intro w13 hu13 C7
        rw [splice_all _ _ (by rfl)] at C7
        have B4 := B4.upd hu13 ne4_7
        have hbe := hbe.trans (hu13.below (B := w.heap.size) hl7)
        clear B7 hu13
        have B7 := C7
        clear C7
        have z7_0 := B7.cell (k := 0) rfl
        have z7_1 := B7.cell (k := 1) rfl
        have z7_2 := B7.cell (k := 2) rfl
        have z7_3 := B7.cell (k := 3) rfl
        have z7_4 := B7.cell (k := 4) rfl
        go_wp2_with (with_reducible refine wpList_put (o := ⟨none, .store 30 (.tmp 4) (.tmp 22), _, _, _, _⟩) (by with_unfolding_all rfl) 30 (.tmp 4) (.tmp 22) (by with_unfolding_all rfl) g4 0 (by with_unfolding_all rfl) (.agg #[.int .i64 4, .int .i64 0, .string Rs, .int .i64 0, .int .i64 0]) (by with_unfolding_all rfl) B4 [Value.int .i64 4, .int .i64 0, .string Rs, .int .i64 0, .int .i64 0] (by with_unfolding_all rfl) (by with_unfolding_all (exact Tryz.szTok)) (by with_unfolding_all (exact Nat.le_refl 5)) (by with_unfolding_all (exact tok_one _ _ _ _ _)) ?_)
        intro w14 hu14 C4
        rw [splice_all _ _ (by rfl)] at C4
        have B7 := B7.upd hu14 ne7_4
        have hbe := hbe.trans (hu14.below (B := w.heap.size) hl4)
        clear B4 hu14
        have B4 := C4
        clear C4
        clear z7_0 z7_1 z7_2 z7_3 z7_4
        go_wp2
        exact bodyPost_ret (results_cell_row rfl _ _ g4 _ _ _ _ rfl B4 Tryz.underlying30 rfl Tryz.szTok) rfl ⟨f3.out hk.2.1 hk.2.2.2 trivial, hbe⟩
    · obtain rfl := hk.1
      have ce : wr.cell? ⟨gk, 4, none⟩ = some (.func (.func 55) #[] #[]) := el 4 _ rfl
      have HC := r4 _ hT
      clear el cw hT
      cases p4
      · skip
        unfold rdE at HC
        go_wp2_with fail
        (with_reducible refine (HC).mono ?_)
        rintro e w11 ⟨rfl, hb11⟩
        have B4 := B4.next hb11 B4.lt
        have hbe := below_join hbe hb11
        clear hb11
        clear ce
        go_wp2_with (with_reducible refine wpList_alloc (o := ⟨some 7, .alloc 30, _, _, _, _⟩) (by with_unfolding_all rfl) 30 (by with_unfolding_all rfl) (.agg #[.int .i64 0, .int .i64 0, .string ByteArray.empty, .int .i64 0, .int .i64 0]) [Value.int .i64 0, .int .i64 0, .string ByteArray.empty, .int .i64 0, .int .i64 0] (by exact Tryz.zeroTok) (by with_unfolding_all rfl) ?_)
        intro g7 w12 hg7 hs12 hb12 B7
        have hl7 : w.heap.size ≤ g7 := Nat.le_trans hbe.size (Nat.le_of_eq hg7.out.symm)
        have ne4_7 : g4 ≠ g7 := by have := B4.lt; have := hg7.out; omega
        have ne7_4 := ne4_7.symm
        have hb12 := hb12.mono (Nat.le_of_eq hg7.out.symm)
        have B4 := B4.next hb12 B4.lt
        have hbe := below_join hbe hb12
        clear hb12 hg7 hs12
        go_wp2_with (with_reducible refine wpList_put (o := ⟨none, .store 30 (.tmp 7) (.tmp 19), _, _, _, _⟩) (by with_unfolding_all rfl) 30 (.tmp 7) (.tmp 19) (by with_unfolding_all rfl) g7 0 (by with_unfolding_all rfl) (.agg #[.int .i64 5, .int .i64 0, .string Ro, .int .i64 0, .int .i64 0]) (by with_unfolding_all rfl) B7 [Value.int .i64 5, .int .i64 0, .string Ro, .int .i64 0, .int .i64 0] (by with_unfolding_all rfl) (by with_unfolding_all (exact Tryz.szTok)) (by with_unfolding_all (exact Nat.le_refl 5)) (by with_unfolding_all (exact tok_one _ _ _ _ _)) ?_)
        intro w13 hu13 C7
        rw [splice_all _ _ (by rfl)] at C7
        have B4 := B4.upd hu13 ne4_7
        have hbe := hbe.trans (hu13.below (B := w.heap.size) hl7)
        clear B7 hu13
        have B7 := C7
        clear C7
        go_wp2
        go_roundw
        case rel => exact ⟨5, Or.inr (Or.inr (Or.inr (Or.inr (Or.inr (⟨rfl, hk.2.1, hk.2.2.1, hk.2.2.2.1, hk.2.2.2.2, rfl⟩))))), by go_num, B4, hbe⟩
        case measure => simp [intOf]
      · skip
        unfold rdE at HC
        go_wp2_with fail
        (with_reducible refine (HC).mono ?_)
        rintro e w11 ⟨rfl, hb11⟩
        have B4 := B4.next hb11 B4.lt
        have hbe := below_join hbe hb11
        clear hb11
        clear ce
        go_wp2_with (with_reducible refine wpList_alloc (o := ⟨some 7, .alloc 30, _, _, _, _⟩) (by with_unfolding_all rfl) 30 (by with_unfolding_all rfl) (.agg #[.int .i64 0, .int .i64 0, .string ByteArray.empty, .int .i64 0, .int .i64 0]) [Value.int .i64 0, .int .i64 0, .string ByteArray.empty, .int .i64 0, .int .i64 0] (by exact Tryz.zeroTok) (by with_unfolding_all rfl) ?_)
        intro g7 w12 hg7 hs12 hb12 B7
        have hl7 : w.heap.size ≤ g7 := Nat.le_trans hbe.size (Nat.le_of_eq hg7.out.symm)
        have ne4_7 : g4 ≠ g7 := by have := B4.lt; have := hg7.out; omega
        have ne7_4 := ne4_7.symm
        have hb12 := hb12.mono (Nat.le_of_eq hg7.out.symm)
        have B4 := B4.next hb12 B4.lt
        have hbe := below_join hbe hb12
        clear hb12 hg7 hs12
        go_wp2_with (with_reducible refine wpList_put (o := ⟨none, .store 30 (.tmp 7) (.tmp 19), _, _, _, _⟩) (by with_unfolding_all rfl) 30 (.tmp 7) (.tmp 19) (by with_unfolding_all rfl) g7 0 (by with_unfolding_all rfl) (.agg #[.int .i64 5, .int .i64 0, .string Ro, .int .i64 0, .int .i64 0]) (by with_unfolding_all rfl) B7 [Value.int .i64 5, .int .i64 0, .string Ro, .int .i64 0, .int .i64 0] (by with_unfolding_all rfl) (by with_unfolding_all (exact Tryz.szTok)) (by with_unfolding_all (exact Nat.le_refl 5)) (by with_unfolding_all (exact tok_one _ _ _ _ _)) ?_)
        intro w13 hu13 C7
        rw [splice_all _ _ (by rfl)] at C7
        have B4 := B4.upd hu13 ne4_7
        have hbe := hbe.trans (hu13.below (B := w.heap.size) hl7)
        clear B7 hu13
        have B7 := C7
        clear C7
        have z7_0 := B7.cell (k := 0) rfl
        have z7_1 := B7.cell (k := 1) rfl
        have z7_2 := B7.cell (k := 2) rfl
        have z7_3 := B7.cell (k := 3) rfl
        have z7_4 := B7.cell (k := 4) rfl
        go_wp2_with (with_reducible refine wpList_put (o := ⟨none, .store 30 (.tmp 4) (.tmp 22), _, _, _, _⟩) (by with_unfolding_all rfl) 30 (.tmp 4) (.tmp 22) (by with_unfolding_all rfl) g4 0 (by with_unfolding_all rfl) (.agg #[.int .i64 5, .int .i64 0, .string Ro, .int .i64 0, .int .i64 0]) (by with_unfolding_all rfl) B4 [Value.int .i64 5, .int .i64 0, .string Ro, .int .i64 0, .int .i64 0] (by with_unfolding_all rfl) (by with_unfolding_all (exact Tryz.szTok)) (by with_unfolding_all (exact Nat.le_refl 5)) (by with_unfolding_all (exact tok_one _ _ _ _ _)) ?_)
        intro w14 hu14 C4
        rw [splice_all _ _ (by rfl)] at C4
        have B7 := B7.upd hu14 ne7_4
        have hbe := hbe.trans (hu14.below (B := w.heap.size) hl4)
        clear B4 hu14
        have B4 := C4
        clear C4
        clear z7_0 z7_1 z7_2 z7_3 z7_4
        go_wp2
        exact bodyPost_ret (results_cell_row rfl _ _ g4 _ _ _ _ rfl B4 Tryz.underlying30 rfl Tryz.szTok) rfl ⟨f4.out hk.2.1 hk.2.2.2.1 hk.2.2.2.2 trivial, hbe⟩
    · obtain rfl := hk.1
      have ce : wr.cell? ⟨gk, 5, none⟩ = some (.func (.func 58) #[] #[]) := el 5 _ rfl
      have HC := r5 wr
      rw [decide_eq_true (HE.out hk.2.1 hk.2.2.2.1 hk.2.2.2.2.1 hk.2.2.2.2.2)] at HC
      clear el cw hT
      unfold rdE at HC
      go_wp2_with fail
      (with_reducible refine (HC).mono ?_)
      rintro e w11 ⟨rfl, hb11⟩
      have B4 := B4.next hb11 B4.lt
      have hbe := below_join hbe hb11
      clear hb11
      clear ce
      go_wp2_with (with_reducible refine wpList_alloc (o := ⟨some 7, .alloc 30, _, _, _, _⟩) (by with_unfolding_all rfl) 30 (by with_unfolding_all rfl) (.agg #[.int .i64 0, .int .i64 0, .string ByteArray.empty, .int .i64 0, .int .i64 0]) [Value.int .i64 0, .int .i64 0, .string ByteArray.empty, .int .i64 0, .int .i64 0] (by exact Tryz.zeroTok) (by with_unfolding_all rfl) ?_)
      intro g7 w12 hg7 hs12 hb12 B7
      have hl7 : w.heap.size ≤ g7 := Nat.le_trans hbe.size (Nat.le_of_eq hg7.out.symm)
      have ne4_7 : g4 ≠ g7 := by have := B4.lt; have := hg7.out; omega
      have ne7_4 := ne4_7.symm
      have hb12 := hb12.mono (Nat.le_of_eq hg7.out.symm)
      have B4 := B4.next hb12 B4.lt
      have hbe := below_join hbe hb12
      clear hb12 hg7 hs12
      go_wp2_with (with_reducible refine wpList_put (o := ⟨none, .store 30 (.tmp 7) (.tmp 19), _, _, _, _⟩) (by with_unfolding_all rfl) 30 (.tmp 7) (.tmp 19) (by with_unfolding_all rfl) g7 0 (by with_unfolding_all rfl) (.agg #[.int .i64 6, .int .i64 0, .string ByteArray.empty, .int .i64 0, .int .i64 0]) (by with_unfolding_all rfl) B7 [Value.int .i64 6, .int .i64 0, .string ByteArray.empty, .int .i64 0, .int .i64 0] (by with_unfolding_all rfl) (by with_unfolding_all (exact Tryz.szTok)) (by with_unfolding_all (exact Nat.le_refl 5)) (by with_unfolding_all (exact tok_one _ _ _ _ _)) ?_)
      intro w13 hu13 C7
      rw [splice_all _ _ (by rfl)] at C7
      have B4 := B4.upd hu13 ne4_7
      have hbe := hbe.trans (hu13.below (B := w.heap.size) hl7)
      clear B7 hu13
      have B7 := C7
      clear C7
      have z7_0 := B7.cell (k := 0) rfl
      have z7_1 := B7.cell (k := 1) rfl
      have z7_2 := B7.cell (k := 2) rfl
      have z7_3 := B7.cell (k := 3) rfl
      have z7_4 := B7.cell (k := 4) rfl
      go_wp2_with (with_reducible refine wpList_put (o := ⟨none, .store 30 (.tmp 4) (.tmp 22), _, _, _, _⟩) (by with_unfolding_all rfl) 30 (.tmp 4) (.tmp 22) (by with_unfolding_all rfl) g4 0 (by with_unfolding_all rfl) (.agg #[.int .i64 6, .int .i64 0, .string ByteArray.empty, .int .i64 0, .int .i64 0]) (by with_unfolding_all rfl) B4 [Value.int .i64 6, .int .i64 0, .string ByteArray.empty, .int .i64 0, .int .i64 0] (by with_unfolding_all rfl) (by with_unfolding_all (exact Tryz.szTok)) (by with_unfolding_all (exact Nat.le_refl 5)) (by with_unfolding_all (exact tok_one _ _ _ _ _)) ?_)
      intro w14 hu14 C4
      rw [splice_all _ _ (by rfl)] at C4
      have B7 := B7.upd hu14 ne7_4
      have hbe := hbe.trans (hu14.below (B := w.heap.size) hl4)
      clear B4 hu14
      have B4 := C4
      clear C4
      clear z7_0 z7_1 z7_2 z7_3 z7_4
      go_wp2
      exact bodyPost_ret (results_cell_row rfl _ _ g4 _ _ _ _ rfl B4 Tryz.underlying30 rfl Tryz.szTok) rfl ⟨f5.out hk.2.1 hk.2.2.2.1 hk.2.2.2.2.1 hk.2.2.2.2.2, hbe⟩
end Go.Proofs.YtcefaipjncohmaaGreatDoor
