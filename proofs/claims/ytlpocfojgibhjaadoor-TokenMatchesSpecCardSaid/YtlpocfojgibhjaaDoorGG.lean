/-
  Contracts of the functions that the statement calls, part 7 of 13 (merged texts: Qj, Qk, Ql). Conditions: as the head of each part says.
-/
import Derived.Test.YtlpocfojgibhjaaDoorGF

/-
  Contracts of the walks over gap and the closures that read tokens. Conditions: the program's tables lie there; texts that fit into memory.
-/
namespace Go.Proofs.YtlpocfojgibhjaaDoor
set_option linter.unusedVariables false
set_option linter.unusedSimpArgs false
open Go.RowKit Go.Shelf

def GapRel (n g1 g2 : Nat) (s : ByteArray) (w : World) (i : Value) (wr : World) : Prop := ∃ k : Nat, k ≤ n ∧ i = .int .i64 (k : Int) ∧ Blk wr g1 9 [.string s] ∧ Blk wr g2 4 [.bool (insL false (s.data.toList.take k))] ∧ Below g2 w wr
theorem take_next {l : List UInt8} {k : Nat} (h : k < l.length) : l.take (k + 1) = l.take k ++ [l[k]] := by
  rw [List.take_append_getElem h]
set_option maxRecDepth 100000 in
set_option maxHeartbeats 1600000 in
theorem lead_gap (s : ByteArray) (g1 g2 : Nat) (hs : s.size ≤ 140737488355328) (w : World) (B1 : Blk w g1 9 [.string s]) (h12 : g1 < g2) (B2 : Blk w g2 4 [.bool false]) :
    Calls Tryd.prog 43 #[.string s, .func (.func 69) #[] #[.pointer (some ⟨g1, 0, none⟩), .pointer (some ⟨g2, 0, none⟩)]] w fun e w' => e = .returned (.string (s.extract 0 (gapL false s.data.toList))) ∧ Below g2 w w' := by
  have hle := gapL_le false s.data.toList
  have hlen := lenS s
  have hAt : ∀ k (h : k < s.size), k < gapL false s.data.toList → gapB (insL false (s.data.toList.take k)) (s[k]'h) = true := fun k h hk => by
    have := gap_get s.data.toList false k (by omega) hk
    rw [← byte_at s h]; exact this
  have hEnd : ∀ (h : gapL false s.data.toList < s.size), gapB (insL false (s.data.toList.take (gapL false s.data.toList))) (s[gapL false s.data.toList]'h) = false := fun h => by
    have := gap_stop s.data.toList false (by omega)
    rw [← byte_at s h]; exact this
  have hNx : ∀ k (h : k < s.size), insL false (s.data.toList.take (k + 1)) = insB (insL false (s.data.toList.take k)) (s[k]'h) := fun k h => by
    rw [take_next (by omega), insL_snoc, byte_at s h]
  obtain ⟨F, hF⟩ : ∃ F : Nat → Bool, (fun k => insL false (s.data.toList.take k)) = F := ⟨_, rfl⟩
  have hF1 := fun k => congrFun hF k
  simp only [hF1] at hAt hEnd hNx
  obtain ⟨n, hn⟩ : ∃ n, gapL false s.data.toList = n := ⟨_, rfl⟩
  rw [hn] at hle hAt ⊢
  have hEnd2 : ∀ h : n < s.size, gapB (F n) (s[n]'h) = false := by
    intro h
    have := hEnd (by rw [hn]; exact h)
    simpa [hn] using this
  have HA := Lib.hid hAt
  have HE := Lib.hid hEnd2
  have HX := Lib.hid hNx
  have HF := Lib.hid hF1
  rw [hlen] at hle
  clear hn hF hEnd hAt hEnd2 hNx hlen hF1
  have hni : (n : Int) ≤ (s.size : Int) := by omega
  have hn0 : (0 : Int) ≤ (n : Int) := by omega
  go_enter Tryd.func43, Tryd.ntmps43
  go_wp2
  go_loopw [5] (GapRel n g1 g2 s w) (fun i _ => n - (intOf i).toNat)
  case atStart => exact ⟨0, Nat.zero_le _, rfl, B1, B2, Below.refl _ _⟩
  case round =>
    clear B1 B2
    obtain ⟨k, hk, rfl, B1, B2, hbe⟩ := hrel
    rw [HF.out] at B2
    by_cases hlt : k < n
    · have hks : k < s.size := by omega
      have hki : (k : Int) < (s.size : Int) := by omega
      have HW := gap1_any s g1 g2 k (F k) hks hs wr B1 h12 B2
      rw [HA.out k hks hlt, ← HX.out k hks] at HW
      go_wp2_with fail
      (with_reducible refine HW.mono ?_)
      rintro e w2 ⟨rfl, C2, hb2⟩
      have hbe := hbe.trans hb2
      have B1 := B1.next hb2 h12
      rw [← HF.out] at C2
      clear hb2 HW B2
      go_wp2
      go_roundw
      case rel => exact ⟨k + 1, hlt, by go_num, B1, C2, hbe⟩
      case measure => simp [intOf]; omega
    · have hkn : k = n := by omega
      subst hkn
      by_cases hks : k < s.size
      · have hki : (k : Int) < (s.size : Int) := by omega
        have HW := gap1_any s g1 g2 k (F k) hks hs wr B1 h12 B2
        rw [HE.out hks] at HW
        go_wp2_with fail
        (with_reducible refine HW.mono ?_)
        rintro e w2 ⟨rfl, C2, hb2⟩
        have hbe := hbe.trans hb2
        clear hb2 HW B2
        go_wp2
        go_ret
        exact ⟨rfl, hbe⟩
      · have hki : ¬ (k : Int) < (s.size : Int) := by omega
        go_wp2
        go_ret
        exact ⟨rfl, hbe⟩
set_option maxRecDepth 100000 in
set_option maxHeartbeats 1600000 in
theorem gap_any (s : ByteArray) (hs : s.size ≤ 140737488355328) (w : World) :
    Calls Tryd.prog 29 #[.string s] w fun e w' => e = .returned (.string (s.extract 0 (gapL false s.data.toList))) ∧ Below w.heap.size w w' := by
  have HL := fun g1 g2 w B1 h B2 => lead_gap s g1 g2 hs w B1 h B2
  obtain ⟨R, hR⟩ : ∃ R, s.extract 0 (gapL false s.data.toList) = R := ⟨_, rfl⟩
  rw [hR] at HL ⊢
  clear hR
  go_enter Tryd.func29, Tryd.ntmps29
  go_wp2_with (with_reducible refine wpList_box (o := ⟨some 1, .box 9 (.tmp 0), _, _, _, _⟩) ?g1ga 9 (.tmp 0) ?o1ga (.string s) [.string s] ?x1ga ?c1ga ?_)
  try (case g1ga => rfl)
  try (case o1ga => rfl)
  try (case x1ga => rfl)
  try (case c1ga => rfl)
  intro g1 w1 hg1 hs1 hb1 B1
  have hb1 := hb1.mono (Nat.le_of_eq hg1.out.symm)
  have hl1 : w.heap.size ≤ g1 := Nat.le_of_eq hg1.out.symm
  go_wp2_with (with_reducible refine wpList_alloc (o := ⟨some 3, .alloc 4, _, _, _, _⟩) (by with_unfolding_all rfl) 4 (by with_unfolding_all rfl) (.bool false) [Value.bool false] (by exact Tryd.zeroBool) (by with_unfolding_all rfl) ?_)
  intro g3 w2 hg3 hs2 hb2 B3
  have h13 : g1 < g3 := by have := B1.lt; have := hg3.out; omega
  have hl3 : w.heap.size ≤ g3 := by have := hg3.out; have := hb1.size; omega
  have hb2 := hb2.mono (Nat.le_of_eq hg3.out.symm)
  have B1 := B1.next hb2 B1.lt
  have hbe := below_join hb1 hb2
  clear hb1 hb2 hg1 hg3 hs1 hs2
  go_wp2_with (with_reducible refine wpList_put (o := ⟨none, .store 4 (.tmp 3) (.const (.bool false)), _, _, _, _⟩) (by with_unfolding_all rfl) 4 (.tmp 3) (.const (.bool false)) (by with_unfolding_all rfl) g3 0 (by with_unfolding_all rfl) (.bool false) (by with_unfolding_all rfl) B3 [(.bool false)] (by with_unfolding_all rfl) (by with_unfolding_all exact Tryd.szBool) (by with_unfolding_all simp) (by with_unfolding_all exact one_cell1 rfl) ?_)
  intro w3 hu3 C3
  have C3 : Blk w3 g3 4 [.bool false] := C3
  have B1 := B1.upd hu3 (by omega)
  have hbe := hbe.trans (hu3.below (B := w.heap.size) hl3)
  clear B3 hu3
  have c1 := B1.cell (k := 0) rfl
  go_wp2_with fail
  (with_reducible refine (HL g1 g3 _ B1 h13 C3).mono ?_)
  rintro e w4 ⟨rfl, hb4⟩
  have hbe := hbe.trans (hb4.mono hl3)
  go_wp2
  go_ret
  exact ⟨rfl, hbe⟩
set_option maxRecDepth 100000 in
set_option maxHeartbeats 1600000 in
theorem wbytes_any (s : ByteArray) (hs : s.size ≤ 140737488355328) (w : World) :
    Calls Tryd.prog 57 #[.string s] w fun e w' => e = .returned (.string (s.extract 0 (runL s.data.toList))) ∧ Below w.heap.size w w' := by
  have HL := fun g w h => lead_rb1 s g hs w h
  obtain ⟨R, hR⟩ : ∃ R, s.extract 0 (runL s.data.toList) = R := ⟨_, rfl⟩
  rw [hR] at HL ⊢
  clear hR
  go_enter Tryd.func57, Tryd.ntmps57
  go_wp2_with (with_reducible refine wpList_box (o := ⟨some 1, .box 9 (.tmp 0), _, _, _, _⟩) ?g1wa 9 (.tmp 0) ?o1wa (.string s) [.string s] ?x1wa ?c1wa ?_)
  try (case g1wa => rfl)
  try (case o1wa => rfl)
  try (case x1wa => rfl)
  try (case c1wa => rfl)
  intro g1 w1 hg1 hs1 hb1 B1
  have hb1 := hb1.mono (Nat.le_of_eq hg1.out.symm)
  have c1 := B1.cell (k := 0) rfl
  go_wp2_with fail
  (with_reducible refine (HL g1 _ c1).mono ?_)
  rintro e w2 ⟨rfl, hb2⟩
  have hbe := below_join hb1 hb2
  go_wp2
  go_ret
  exact ⟨rfl, hbe⟩
theorem run_b02 (w : World) (a : Int) (s : ByteArray) : (Instr.build 37 #[(0, .int .i64 a), (2, .string s)]).run Tryd.prog w = .ok (.agg #[.int .i64 a, .int .i64 0, .string s, .int .i64 0, .int .i64 0]) w := by kernel_rfl
theorem run_b012 (w : World) (a b : Int) (s : ByteArray) : (Instr.build 37 #[(0, .int .i64 a), (1, .int .i64 b), (2, .string s)]).run Tryd.prog w = .ok (.agg #[.int .i64 a, .int .i64 b, .string s, .int .i64 0, .int .i64 0]) w := by kernel_rfl
theorem run_b0 (w : World) (a : Int) : (Instr.build 37 #[(0, .int .i64 a)]).run Tryd.prog w = .ok (.agg #[.int .i64 a, .int .i64 0, .string ByteArray.empty, .int .i64 0, .int .i64 0]) w := by kernel_rfl
theorem run_bz (w : World) : (Instr.build 37 #[]).run Tryd.prog w = .ok (.agg #[.int .i64 0, .int .i64 0, .string ByteArray.empty, .int .i64 0, .int .i64 0]) w := by kernel_rfl
def rdE (a b : Int) (c : ByteArray) (ok : Bool) : Ending := .returned (.tuple #[.agg #[.int .i64 a, .int .i64 b, .string c, .int .i64 0, .int .i64 0], .bool ok])
theorem rdE_ok {a b : Int} {c : ByteArray} {p q : Bool} (h : p = q) : rdE a b c p = rdE a b c q := by rw [h]
theorem run_sz (s : ByteArray) : (s.extract 0 (runL s.data.toList)).size = runL s.data.toList := by
  rw [← bytes_size, cut_list]
  simp
  have := run_size s
  exact Nat.min_eq_left this
theorem odd_sz (s : ByteArray) : (s.extract 0 (oddL s.data.toList)).size = oddL s.data.toList := by
  rw [← bytes_size, cut_list]
  simp
  have := oddL_le s.data.toList
  rw [bytes_size] at this
  exact Nat.min_eq_left this
theorem cut_ls (s : ByteArray) (n : Nat) : (s.extract 0 n).data.toList = s.data.toList.take n := by rw [cut_list]; rfl
theorem run_head (s R : ByteArray) (hR : s.extract 0 (runL s.data.toList) = R) (h2 : 0 < R.size) : R[0]'h2 = s.data.toList.headD 0 := by
  subst hR
  have h : 0 < s.size := by have := run_sz s; have := run_size s; omega
  obtain ⟨l, hl⟩ := head_of s h
  rw [← byte_at _ h2]
  simp only [cut_ls]
  rw [List.getElem_take]
  simp [hl]
set_option maxRecDepth 100000 in
set_option maxHeartbeats 3200000 in
theorem rd0_any (s : ByteArray) (hs : s.size ≤ 140737488355328) (gw : Nat) (w : World) (cw : w.cell? ⟨gw, 0, none⟩ = some (.func (.func 57) #[] #[])) (hT : TT w) :
    Calls Tryd.prog 59 #[.string s, .pointer (some ⟨gw, 0, none⟩)] w fun e w' => e = rdE (kindM (s.data.toList.take (runL s.data.toList)) : Nat) 0 (s.extract 0 (runL s.data.toList)) (decide (0 < runL s.data.toList) && lo (s.data.toList.headD 0)) ∧ Below w.heap.size w w' := by
  have HWB := fun w => wbytes_any s hs w
  have hsz := run_sz s
  have hle := run_size s
  have hcl := cut_ls s (runL s.data.toList)
  obtain ⟨R, hR⟩ : ∃ R, s.extract 0 (runL s.data.toList) = R := ⟨_, rfl⟩
  have hh := run_head s R hR
  have HK := fun w hT => kind_any R w hT
  rw [← hR, hcl, hR] at HK
  obtain ⟨K, hK⟩ : ∃ K, kindM (s.data.toList.take (runL s.data.toList)) = K := ⟨_, rfl⟩
  rw [hK] at HK ⊢
  clear hK
  rw [hR] at HWB hsz ⊢
  obtain ⟨n, hn⟩ : ∃ n, runL s.data.toList = n := ⟨_, rfl⟩
  rw [hn] at hsz hle ⊢
  obtain ⟨b, hb⟩ : ∃ b, s.data.toList.headD 0 = b := ⟨_, rfl⟩
  rw [hb] at hh ⊢
  clear hb hn hR hcl
  have HL := fun w => letter_any b w
  obtain ⟨p, hp⟩ : ∃ p, lo b = p := ⟨_, rfl⟩
  rw [hp] at HL ⊢
  clear hp
  by_cases h0 : 0 < n
  · skip
    have hR0 : 0 < R.size := by omega
    have hR0i : (0 : Int) < (R.size : Int) := by omega
    have k1 := toList_ne hR0
    have k2 := isEmpty_ne hR0
    have k3 := hh hR0
    rw [decide_eq_true h0]
    clear hh
    have HT := Lib.hid hT
    have HC := Lib.hid cw
    clear hT cw
    go_enter Tryd.func59, Tryd.ntmps59
    go_wp2_with (with_reducible refine wpList_alloc (o := ⟨some 3, .alloc 37, _, _, _, _⟩) (by with_unfolding_all rfl) 37 (by with_unfolding_all rfl) (.agg #[.int .i64 0, .int .i64 0, .string ByteArray.empty, .int .i64 0, .int .i64 0]) [Value.int .i64 0, .int .i64 0, .string ByteArray.empty, .int .i64 0, .int .i64 0] (by exact Tryd.zeroTok) (by with_unfolding_all rfl) ?_)
    intro g3 w1 hg3 hs1 hb1 B3
    have hl3 : w.heap.size ≤ g3 := Nat.le_of_eq hg3.out.symm
    have hb1 := hb1.mono (Nat.le_of_eq hg3.out.symm)
    have hbe : Below w.heap.size w w1 := hb1
    clear hb1 hg3 hs1
    have cw := cellf_below hbe HC.out
    go_wp2_with fail
    (with_reducible refine (HWB _).mono ?_)
    rintro e w2 ⟨rfl, hb2⟩
    have B3 := B3.next hb2 B3.lt
    have hbe := below_join hbe hb2
    clear hb2
    clear cw
    go_wp2_with fail
    (with_reducible refine (HK _ (HT.out.next hbe)).mono ?_)
    rintro e w3 ⟨rfl, hb3⟩
    have B3 := B3.next hb3 B3.lt
    have hbe := below_join hbe hb3
    clear hb3
    go_wp2_with (first | (with_reducible refine wpList_build (o := ⟨some 12, .build 37 #[(0, .tmp 10), (2, .tmp 11)], _, _, _, _⟩) (by with_unfolding_all rfl) 37 #[(0, .tmp 10), (2, .tmp 11)] (by with_unfolding_all rfl) #[(0, .int .i64 (K : Int)), (2, .string R)] (by with_unfolding_all rfl) (.agg #[.int .i64 (K : Int), .int .i64 0, .string R, .int .i64 0, .int .i64 0]) (by with_unfolding_all exact fun w => (fun w => run_b02 w (K : Int) R) w) ?_))
    (with_reducible refine (HL _).mono ?_)
    rintro e w4 ⟨rfl, hb4⟩
    have B3 := B3.next hb4 B3.lt
    have hbe := below_join hbe hb4
    clear hb4
    go_wp2_with (with_reducible refine wpList_put (o := ⟨none, .store 37 (.tmp 3) (.tmp 12), _, _, _, _⟩) (by with_unfolding_all rfl) 37 (.tmp 3) (.tmp 12) (by with_unfolding_all rfl) g3 0 (by with_unfolding_all rfl) (.agg #[.int .i64 (K : Int), .int .i64 0, .string R, .int .i64 0, .int .i64 0]) (by with_unfolding_all rfl) B3 [Value.int .i64 (K : Int), .int .i64 0, .string R, .int .i64 0, .int .i64 0] (by with_unfolding_all rfl) (by with_unfolding_all (exact Tryd.szTok)) (by with_unfolding_all (exact Nat.le_refl 5)) (by with_unfolding_all (exact tok_one _ _ _ _ _)) ?_)
    intro w5 hu5 C3
    rw [splice_all _ _ (by rfl)] at C3
    have hbe := hbe.trans (hu5.below (B := w.heap.size) hl3)
    clear B3 hu5
    have B3 := C3
    clear C3
    go_wp2
    exact bodyPost_ret (results_cell_two rfl _ _ g3 _ _ _ _ _ rfl rfl B3 Tryd.underlying37 rfl Tryd.szTok) rfl ⟨rfl, hbe⟩
  · skip
    have k1 := toList_nil (s := R) (by omega)
    have k2 := isEmpty_nil (s := R) (by omega)
    rw [decide_eq_false h0]
    clear hh
    have HT := Lib.hid hT
    have HC := Lib.hid cw
    clear hT cw
    go_enter Tryd.func59, Tryd.ntmps59
    go_wp2_with (with_reducible refine wpList_alloc (o := ⟨some 3, .alloc 37, _, _, _, _⟩) (by with_unfolding_all rfl) 37 (by with_unfolding_all rfl) (.agg #[.int .i64 0, .int .i64 0, .string ByteArray.empty, .int .i64 0, .int .i64 0]) [Value.int .i64 0, .int .i64 0, .string ByteArray.empty, .int .i64 0, .int .i64 0] (by exact Tryd.zeroTok) (by with_unfolding_all rfl) ?_)
    intro g3 w1 hg3 hs1 hb1 B3
    have hl3 : w.heap.size ≤ g3 := Nat.le_of_eq hg3.out.symm
    have hb1 := hb1.mono (Nat.le_of_eq hg3.out.symm)
    have hbe : Below w.heap.size w w1 := hb1
    clear hb1 hg3 hs1
    have cw := cellf_below hbe HC.out
    go_wp2_with fail
    (with_reducible refine (HWB _).mono ?_)
    rintro e w2 ⟨rfl, hb2⟩
    have B3 := B3.next hb2 B3.lt
    have hbe := below_join hbe hb2
    clear hb2
    clear cw
    go_wp2_with fail
    (with_reducible refine (HK _ (HT.out.next hbe)).mono ?_)
    rintro e w3 ⟨rfl, hb3⟩
    have B3 := B3.next hb3 B3.lt
    have hbe := below_join hbe hb3
    clear hb3
    go_wp2_with (first | (with_reducible refine wpList_build (o := ⟨some 12, .build 37 #[(0, .tmp 10), (2, .tmp 11)], _, _, _, _⟩) (by with_unfolding_all rfl) 37 #[(0, .tmp 10), (2, .tmp 11)] (by with_unfolding_all rfl) #[(0, .int .i64 (K : Int)), (2, .string R)] (by with_unfolding_all rfl) (.agg #[.int .i64 (K : Int), .int .i64 0, .string R, .int .i64 0, .int .i64 0]) (by with_unfolding_all exact fun w => (fun w => run_b02 w (K : Int) R) w) ?_) | (with_reducible refine wpList_put (o := ⟨none, .store 37 (.tmp 3) (.tmp 12), _, _, _, _⟩) (by with_unfolding_all rfl) 37 (.tmp 3) (.tmp 12) (by with_unfolding_all rfl) g3 0 (by with_unfolding_all rfl) (.agg #[.int .i64 (K : Int), .int .i64 0, .string R, .int .i64 0, .int .i64 0]) (by with_unfolding_all rfl) B3 [Value.int .i64 (K : Int), .int .i64 0, .string R, .int .i64 0, .int .i64 0] (by with_unfolding_all rfl) (by with_unfolding_all (exact Tryd.szTok)) (by with_unfolding_all (exact Nat.le_refl 5)) (by with_unfolding_all (exact tok_one _ _ _ _ _)) ?_))
    intro w4 hu4 C3
    rw [splice_all _ _ (by rfl)] at C3
    have hbe := hbe.trans (hu4.below (B := w.heap.size) hl3)
    clear B3 hu4
    have B3 := C3
    clear C3
    go_wp2
    exact bodyPost_ret (results_cell_two rfl _ _ g3 _ _ _ _ _ rfl rfl B3 Tryd.underlying37 rfl Tryd.szTok) rfl ⟨rfl, hbe⟩
set_option maxRecDepth 100000 in
set_option maxHeartbeats 3200000 in
theorem rd2_any (s : ByteArray) (hs : s.size ≤ 140737488355328) (gw : Nat) (w : World) (cw : w.cell? ⟨gw, 0, none⟩ = some (.func (.func 57) #[] #[])) :
    Calls Tryd.prog 61 #[.string s, .pointer (some ⟨gw, 0, none⟩)] w fun e w' => e = rdE 5 0 (s.extract 0 (runL s.data.toList)) (decide (0 < runL s.data.toList) && dg (s.data.toList.headD 0)) ∧ Below w.heap.size w w' := by
  have HWB := fun w => wbytes_any s hs w
  have hsz := run_sz s
  have hle := run_size s
  have hcl := cut_ls s (runL s.data.toList)
  obtain ⟨R, hR⟩ : ∃ R, s.extract 0 (runL s.data.toList) = R := ⟨_, rfl⟩
  have hh := run_head s R hR
  rw [hR] at HWB hsz ⊢
  obtain ⟨n, hn⟩ : ∃ n, runL s.data.toList = n := ⟨_, rfl⟩
  rw [hn] at hsz hle ⊢
  obtain ⟨b, hb⟩ : ∃ b, s.data.toList.headD 0 = b := ⟨_, rfl⟩
  rw [hb] at hh ⊢
  clear hb hn hR hcl
  have HL := fun w => digit_any b w
  obtain ⟨p, hp⟩ : ∃ p, dg b = p := ⟨_, rfl⟩
  rw [hp] at HL ⊢
  clear hp
  by_cases h0 : 0 < n
  · skip
    have hR0 : 0 < R.size := by omega
    have hR0i : (0 : Int) < (R.size : Int) := by omega
    have k1 := toList_ne hR0
    have k2 := isEmpty_ne hR0
    have k3 := hh hR0
    rw [decide_eq_true h0]
    clear hh
    have HC := Lib.hid cw
    clear cw
    go_enter Tryd.func61, Tryd.ntmps61
    go_wp2_with (with_reducible refine wpList_alloc (o := ⟨some 3, .alloc 37, _, _, _, _⟩) (by with_unfolding_all rfl) 37 (by with_unfolding_all rfl) (.agg #[.int .i64 0, .int .i64 0, .string ByteArray.empty, .int .i64 0, .int .i64 0]) [Value.int .i64 0, .int .i64 0, .string ByteArray.empty, .int .i64 0, .int .i64 0] (by exact Tryd.zeroTok) (by with_unfolding_all rfl) ?_)
    intro g3 w1 hg3 hs1 hb1 B3
    have hl3 : w.heap.size ≤ g3 := Nat.le_of_eq hg3.out.symm
    have hb1 := hb1.mono (Nat.le_of_eq hg3.out.symm)
    have hbe : Below w.heap.size w w1 := hb1
    clear hb1 hg3 hs1
    have cw := cellf_below hbe HC.out
    go_wp2_with fail
    (with_reducible refine (HWB _).mono ?_)
    rintro e w2 ⟨rfl, hb2⟩
    have B3 := B3.next hb2 B3.lt
    have hbe := below_join hbe hb2
    clear hb2
    clear cw
    go_wp2_with (first | (with_reducible refine wpList_build (o := ⟨some 10, .build 37 #[(0, .const (.int .i64 5)), (2, .tmp 9)], _, _, _, _⟩) (by with_unfolding_all rfl) 37 #[(0, .const (.int .i64 5)), (2, .tmp 9)] (by with_unfolding_all rfl) #[(0, .int .i64 5), (2, .string R)] (by with_unfolding_all rfl) (.agg #[.int .i64 5, .int .i64 0, .string R, .int .i64 0, .int .i64 0]) (by with_unfolding_all exact fun w => (fun w => run_b02 w 5 R) w) ?_))
    (with_reducible refine (HL _).mono ?_)
    rintro e w3 ⟨rfl, hb3⟩
    have B3 := B3.next hb3 B3.lt
    have hbe := below_join hbe hb3
    clear hb3
    go_wp2_with (with_reducible refine wpList_put (o := ⟨none, .store 37 (.tmp 3) (.tmp 10), _, _, _, _⟩) (by with_unfolding_all rfl) 37 (.tmp 3) (.tmp 10) (by with_unfolding_all rfl) g3 0 (by with_unfolding_all rfl) (.agg #[.int .i64 5, .int .i64 0, .string R, .int .i64 0, .int .i64 0]) (by with_unfolding_all rfl) B3 [Value.int .i64 5, .int .i64 0, .string R, .int .i64 0, .int .i64 0] (by with_unfolding_all rfl) (by with_unfolding_all (exact Tryd.szTok)) (by with_unfolding_all (exact Nat.le_refl 5)) (by with_unfolding_all (exact tok_one _ _ _ _ _)) ?_)
    intro w4 hu4 C3
    rw [splice_all _ _ (by rfl)] at C3
    have hbe := hbe.trans (hu4.below (B := w.heap.size) hl3)
    clear B3 hu4
    have B3 := C3
    clear C3
    go_wp2
    exact bodyPost_ret (results_cell_two rfl _ _ g3 _ _ _ _ _ rfl rfl B3 Tryd.underlying37 rfl Tryd.szTok) rfl ⟨rfl, hbe⟩
  · skip
    have k1 := toList_nil (s := R) (by omega)
    have k2 := isEmpty_nil (s := R) (by omega)
    rw [decide_eq_false h0]
    clear hh
    have HC := Lib.hid cw
    clear cw
    go_enter Tryd.func61, Tryd.ntmps61
    go_wp2_with (with_reducible refine wpList_alloc (o := ⟨some 3, .alloc 37, _, _, _, _⟩) (by with_unfolding_all rfl) 37 (by with_unfolding_all rfl) (.agg #[.int .i64 0, .int .i64 0, .string ByteArray.empty, .int .i64 0, .int .i64 0]) [Value.int .i64 0, .int .i64 0, .string ByteArray.empty, .int .i64 0, .int .i64 0] (by exact Tryd.zeroTok) (by with_unfolding_all rfl) ?_)
    intro g3 w1 hg3 hs1 hb1 B3
    have hl3 : w.heap.size ≤ g3 := Nat.le_of_eq hg3.out.symm
    have hb1 := hb1.mono (Nat.le_of_eq hg3.out.symm)
    have hbe : Below w.heap.size w w1 := hb1
    clear hb1 hg3 hs1
    have cw := cellf_below hbe HC.out
    go_wp2_with fail
    (with_reducible refine (HWB _).mono ?_)
    rintro e w2 ⟨rfl, hb2⟩
    have B3 := B3.next hb2 B3.lt
    have hbe := below_join hbe hb2
    clear hb2
    clear cw
    go_wp2_with (first | (with_reducible refine wpList_build (o := ⟨some 10, .build 37 #[(0, .const (.int .i64 5)), (2, .tmp 9)], _, _, _, _⟩) (by with_unfolding_all rfl) 37 #[(0, .const (.int .i64 5)), (2, .tmp 9)] (by with_unfolding_all rfl) #[(0, .int .i64 5), (2, .string R)] (by with_unfolding_all rfl) (.agg #[.int .i64 5, .int .i64 0, .string R, .int .i64 0, .int .i64 0]) (by with_unfolding_all exact fun w => (fun w => run_b02 w 5 R) w) ?_) | (with_reducible refine wpList_put (o := ⟨none, .store 37 (.tmp 3) (.tmp 10), _, _, _, _⟩) (by with_unfolding_all rfl) 37 (.tmp 3) (.tmp 10) (by with_unfolding_all rfl) g3 0 (by with_unfolding_all rfl) (.agg #[.int .i64 5, .int .i64 0, .string R, .int .i64 0, .int .i64 0]) (by with_unfolding_all rfl) B3 [Value.int .i64 5, .int .i64 0, .string R, .int .i64 0, .int .i64 0] (by with_unfolding_all rfl) (by with_unfolding_all (exact Tryd.szTok)) (by with_unfolding_all (exact Nat.le_refl 5)) (by with_unfolding_all (exact tok_one _ _ _ _ _)) ?_))
    intro w3 hu3 C3
    rw [splice_all _ _ (by rfl)] at C3
    have hbe := hbe.trans (hu3.below (B := w.heap.size) hl3)
    clear B3 hu3
    have B3 := C3
    clear C3
    go_wp2
    exact bodyPost_ret (results_cell_two rfl _ _ g3 _ _ _ _ _ rfl rfl B3 Tryd.underlying37 rfl Tryd.szTok) rfl ⟨rfl, hbe⟩
set_option maxRecDepth 100000 in
set_option maxHeartbeats 3200000 in
theorem rd1_any (s : ByteArray) (hs : s.size ≤ 140737488355328) (gw : Nat) (w : World) (cw : w.cell? ⟨gw, 0, none⟩ = some (.func (.func 57) #[] #[])) :
    Calls Tryd.prog 60 #[.string s, .pointer (some ⟨gw, 0, none⟩)] w fun e w' => e = rdE 3 (((numM (s.data.toList.take (runL s.data.toList))).getD 0 : Nat) : Int) (s.extract 0 (runL s.data.toList)) (numM (s.data.toList.take (runL s.data.toList))).isSome ∧ Below w.heap.size w w' := by
  have HWB := fun w => wbytes_any s hs w
  have hsz := run_sz s
  have hle := run_size s
  have HN := fun w => number_any (s.extract 0 (runL s.data.toList)) w (by omega)
  rw [cut_ls s (runL s.data.toList)] at HN
  obtain ⟨R, hR⟩ : ∃ R, s.extract 0 (runL s.data.toList) = R := ⟨_, rfl⟩
  rw [hR] at HWB HN ⊢
  obtain ⟨V, hV⟩ : ∃ V, numM (s.data.toList.take (runL s.data.toList)) = V := ⟨_, rfl⟩
  rw [hV] at HN ⊢
  clear hV hR hsz hle
  have HC := Lib.hid cw
  clear cw
  cases V with
  | none =>
    simp only [numE_none, numE_some] at HN
    go_enter Tryd.func60, Tryd.ntmps60
    go_wp2_with (with_reducible refine wpList_alloc (o := ⟨some 3, .alloc 37, _, _, _, _⟩) (by with_unfolding_all rfl) 37 (by with_unfolding_all rfl) (.agg #[.int .i64 0, .int .i64 0, .string ByteArray.empty, .int .i64 0, .int .i64 0]) [Value.int .i64 0, .int .i64 0, .string ByteArray.empty, .int .i64 0, .int .i64 0] (by exact Tryd.zeroTok) (by with_unfolding_all rfl) ?_)
    intro g3 w1 hg3 hs1 hb1 B3
    have hl3 : w.heap.size ≤ g3 := Nat.le_of_eq hg3.out.symm
    have hb1 := hb1.mono (Nat.le_of_eq hg3.out.symm)
    have hbe : Below w.heap.size w w1 := hb1
    clear hb1 hg3 hs1
    have cw := cellf_below hbe HC.out
    go_wp2_with fail
    (with_reducible refine (HWB _).mono ?_)
    rintro e w2 ⟨rfl, hb2⟩
    have B3 := B3.next hb2 B3.lt
    have hbe := below_join hbe hb2
    clear hb2
    clear cw
    go_wp2_with fail
    (with_reducible refine (HN _).mono ?_)
    rintro e w3 ⟨rfl, hb3⟩
    have B3 := B3.next hb3 B3.lt
    have hbe := below_join hbe hb3
    clear hb3
    have cw := cellf_below hbe HC.out
    go_wp2_with fail
    (with_reducible refine (HWB _).mono ?_)
    rintro e w4 ⟨rfl, hb4⟩
    have B3 := B3.next hb4 B3.lt
    have hbe := below_join hbe hb4
    clear hb4
    clear cw
    go_wp2_with (first | (with_reducible refine wpList_build (o := ⟨some 18, .build 37 #[(0, .const (.int .i64 3)), (1, .tmp 14), (2, .tmp 17)], _, _, _, _⟩) (by with_unfolding_all rfl) 37 #[(0, .const (.int .i64 3)), (1, .tmp 14), (2, .tmp 17)] (by with_unfolding_all rfl) #[(0, .int .i64 3), (1, .int .i64 0), (2, .string R)] (by with_unfolding_all rfl) (.agg #[.int .i64 3, .int .i64 0, .string R, .int .i64 0, .int .i64 0]) (by with_unfolding_all exact fun w => (fun w => run_b012 w 3 0 R) w) ?_) | (with_reducible refine wpList_put (o := ⟨none, .store 37 (.tmp 3) (.tmp 18), _, _, _, _⟩) (by with_unfolding_all rfl) 37 (.tmp 3) (.tmp 18) (by with_unfolding_all rfl) g3 0 (by with_unfolding_all rfl) (.agg #[.int .i64 3, .int .i64 0, .string R, .int .i64 0, .int .i64 0]) (by with_unfolding_all rfl) B3 [Value.int .i64 3, .int .i64 0, .string R, .int .i64 0, .int .i64 0] (by with_unfolding_all rfl) (by with_unfolding_all (exact Tryd.szTok)) (by with_unfolding_all (exact Nat.le_refl 5)) (by with_unfolding_all (exact tok_one _ _ _ _ _)) ?_))
    intro w5 hu5 C3
    rw [splice_all _ _ (by rfl)] at C3
    have hbe := hbe.trans (hu5.below (B := w.heap.size) hl3)
    clear B3 hu5
    have B3 := C3
    clear C3
    go_wp2
    exact bodyPost_ret (results_cell_two rfl _ _ g3 _ _ _ _ _ rfl rfl B3 Tryd.underlying37 rfl Tryd.szTok) rfl ⟨rfl, hbe⟩
  | some n =>
    simp only [numE_none, numE_some] at HN
    go_enter Tryd.func60, Tryd.ntmps60
    go_wp2_with (with_reducible refine wpList_alloc (o := ⟨some 3, .alloc 37, _, _, _, _⟩) (by with_unfolding_all rfl) 37 (by with_unfolding_all rfl) (.agg #[.int .i64 0, .int .i64 0, .string ByteArray.empty, .int .i64 0, .int .i64 0]) [Value.int .i64 0, .int .i64 0, .string ByteArray.empty, .int .i64 0, .int .i64 0] (by exact Tryd.zeroTok) (by with_unfolding_all rfl) ?_)
    intro g3 w1 hg3 hs1 hb1 B3
    have hl3 : w.heap.size ≤ g3 := Nat.le_of_eq hg3.out.symm
    have hb1 := hb1.mono (Nat.le_of_eq hg3.out.symm)
    have hbe : Below w.heap.size w w1 := hb1
    clear hb1 hg3 hs1
    have cw := cellf_below hbe HC.out
    go_wp2_with fail
    (with_reducible refine (HWB _).mono ?_)
    rintro e w2 ⟨rfl, hb2⟩
    have B3 := B3.next hb2 B3.lt
    have hbe := below_join hbe hb2
    clear hb2
    clear cw
    go_wp2_with fail
    (with_reducible refine (HN _).mono ?_)
    rintro e w3 ⟨rfl, hb3⟩
    have B3 := B3.next hb3 B3.lt
    have hbe := below_join hbe hb3
    clear hb3
    have cw := cellf_below hbe HC.out
    go_wp2_with fail
    (with_reducible refine (HWB _).mono ?_)
    rintro e w4 ⟨rfl, hb4⟩
    have B3 := B3.next hb4 B3.lt
    have hbe := below_join hbe hb4
    clear hb4
    clear cw
    go_wp2_with (first | (with_reducible refine wpList_build (o := ⟨some 18, .build 37 #[(0, .const (.int .i64 3)), (1, .tmp 14), (2, .tmp 17)], _, _, _, _⟩) (by with_unfolding_all rfl) 37 #[(0, .const (.int .i64 3)), (1, .tmp 14), (2, .tmp 17)] (by with_unfolding_all rfl) #[(0, .int .i64 3), (1, .int .i64 (n : Int)), (2, .string R)] (by with_unfolding_all rfl) (.agg #[.int .i64 3, .int .i64 (n : Int), .string R, .int .i64 0, .int .i64 0]) (by with_unfolding_all exact fun w => (fun w => run_b012 w 3 (n : Int) R) w) ?_) | (with_reducible refine wpList_put (o := ⟨none, .store 37 (.tmp 3) (.tmp 18), _, _, _, _⟩) (by with_unfolding_all rfl) 37 (.tmp 3) (.tmp 18) (by with_unfolding_all rfl) g3 0 (by with_unfolding_all rfl) (.agg #[.int .i64 3, .int .i64 (n : Int), .string R, .int .i64 0, .int .i64 0]) (by with_unfolding_all rfl) B3 [Value.int .i64 3, .int .i64 (n : Int), .string R, .int .i64 0, .int .i64 0] (by with_unfolding_all rfl) (by with_unfolding_all (exact Tryd.szTok)) (by with_unfolding_all (exact Nat.le_refl 5)) (by with_unfolding_all (exact tok_one _ _ _ _ _)) ?_))
    intro w5 hu5 C3
    rw [splice_all _ _ (by rfl)] at C3
    have hbe := hbe.trans (hu5.below (B := w.heap.size) hl3)
    clear B3 hu5
    have B3 := C3
    clear C3
    go_wp2
    exact bodyPost_ret (results_cell_two rfl _ _ g3 _ _ _ _ _ rfl rfl B3 Tryd.underlying37 rfl Tryd.szTok) rfl ⟨rfl, hbe⟩
set_option maxRecDepth 100000 in
set_option maxHeartbeats 3200000 in
theorem rd3_any (s : ByteArray) (hs : s.size ≤ 140737488355328) (w : World) (hT : TT w) :
    Calls Tryd.prog 63 #[.string s] w fun e w' => e = rdE 4 0 (s.extract 0 (signL s.data.toList)) (decide (0 < signL s.data.toList)) ∧ Below w.heap.size w w' := by
  have HS := fun w hT => sign_any s w hT
  have hsz := sign_size s
  obtain ⟨R, hR⟩ : ∃ R, s.extract 0 (signL s.data.toList) = R := ⟨_, rfl⟩
  rw [hR] at HS hsz ⊢
  obtain ⟨n, hn⟩ : ∃ n, signL s.data.toList = n := ⟨_, rfl⟩
  rw [hn] at hsz ⊢
  clear hn hR
  have HT := Lib.hid hT
  clear hT
  by_cases h0 : 0 < n
  · skip
    have hR0 : 0 < R.size := by omega
    have k1 := toList_ne hR0
    have k2 := isEmpty_ne hR0
    rw [decide_eq_true h0]
    go_enter Tryd.func63, Tryd.ntmps63
    go_wp2_with (with_reducible refine wpList_alloc (o := ⟨some 2, .alloc 37, _, _, _, _⟩) (by with_unfolding_all rfl) 37 (by with_unfolding_all rfl) (.agg #[.int .i64 0, .int .i64 0, .string ByteArray.empty, .int .i64 0, .int .i64 0]) [Value.int .i64 0, .int .i64 0, .string ByteArray.empty, .int .i64 0, .int .i64 0] (by exact Tryd.zeroTok) (by with_unfolding_all rfl) ?_)
    intro g2 w1 hg2 hs1 hb1 B2
    have hl2 : w.heap.size ≤ g2 := Nat.le_of_eq hg2.out.symm
    have hb1 := hb1.mono (Nat.le_of_eq hg2.out.symm)
    have hbe : Below w.heap.size w w1 := hb1
    clear hb1 hg2 hs1
    go_wp2_with fail
    (with_reducible refine (HS _ (HT.out.next hbe)).mono ?_)
    rintro e w2 ⟨rfl, hb2⟩
    have B2 := B2.next hb2 B2.lt
    have hbe := below_join hbe hb2
    clear hb2
    go_wp2_with (first | (with_reducible refine wpList_build (o := ⟨some 8, .build 37 #[(0, .const (.int .i64 4)), (2, .tmp 7)], _, _, _, _⟩) (by with_unfolding_all rfl) 37 #[(0, .const (.int .i64 4)), (2, .tmp 7)] (by with_unfolding_all rfl) #[(0, .int .i64 4), (2, .string R)] (by with_unfolding_all rfl) (.agg #[.int .i64 4, .int .i64 0, .string R, .int .i64 0, .int .i64 0]) (by with_unfolding_all exact fun w => (fun w => run_b02 w 4 R) w) ?_) | (with_reducible refine wpList_put (o := ⟨none, .store 37 (.tmp 2) (.tmp 8), _, _, _, _⟩) (by with_unfolding_all rfl) 37 (.tmp 2) (.tmp 8) (by with_unfolding_all rfl) g2 0 (by with_unfolding_all rfl) (.agg #[.int .i64 4, .int .i64 0, .string R, .int .i64 0, .int .i64 0]) (by with_unfolding_all rfl) B2 [Value.int .i64 4, .int .i64 0, .string R, .int .i64 0, .int .i64 0] (by with_unfolding_all rfl) (by with_unfolding_all (exact Tryd.szTok)) (by with_unfolding_all (exact Nat.le_refl 5)) (by with_unfolding_all (exact tok_one _ _ _ _ _)) ?_))
    intro w3 hu3 C2
    rw [splice_all _ _ (by rfl)] at C2
    have hbe := hbe.trans (hu3.below (B := w.heap.size) hl2)
    clear B2 hu3
    have B2 := C2
    clear C2
    go_wp2
    exact bodyPost_ret (results_cell_two rfl _ _ g2 _ _ _ _ _ rfl rfl B2 Tryd.underlying37 rfl Tryd.szTok) rfl ⟨rfl, hbe⟩
  · skip
    have k1 := toList_nil (s := R) (by omega)
    have k2 := isEmpty_nil (s := R) (by omega)
    rw [decide_eq_false h0]
    go_enter Tryd.func63, Tryd.ntmps63
    go_wp2_with (with_reducible refine wpList_alloc (o := ⟨some 2, .alloc 37, _, _, _, _⟩) (by with_unfolding_all rfl) 37 (by with_unfolding_all rfl) (.agg #[.int .i64 0, .int .i64 0, .string ByteArray.empty, .int .i64 0, .int .i64 0]) [Value.int .i64 0, .int .i64 0, .string ByteArray.empty, .int .i64 0, .int .i64 0] (by exact Tryd.zeroTok) (by with_unfolding_all rfl) ?_)
    intro g2 w1 hg2 hs1 hb1 B2
    have hl2 : w.heap.size ≤ g2 := Nat.le_of_eq hg2.out.symm
    have hb1 := hb1.mono (Nat.le_of_eq hg2.out.symm)
    have hbe : Below w.heap.size w w1 := hb1
    clear hb1 hg2 hs1
    go_wp2_with fail
    (with_reducible refine (HS _ (HT.out.next hbe)).mono ?_)
    rintro e w2 ⟨rfl, hb2⟩
    have B2 := B2.next hb2 B2.lt
    have hbe := below_join hbe hb2
    clear hb2
    go_wp2_with (first | (with_reducible refine wpList_build (o := ⟨some 8, .build 37 #[(0, .const (.int .i64 4)), (2, .tmp 7)], _, _, _, _⟩) (by with_unfolding_all rfl) 37 #[(0, .const (.int .i64 4)), (2, .tmp 7)] (by with_unfolding_all rfl) #[(0, .int .i64 4), (2, .string R)] (by with_unfolding_all rfl) (.agg #[.int .i64 4, .int .i64 0, .string R, .int .i64 0, .int .i64 0]) (by with_unfolding_all exact fun w => (fun w => run_b02 w 4 R) w) ?_) | (with_reducible refine wpList_put (o := ⟨none, .store 37 (.tmp 2) (.tmp 8), _, _, _, _⟩) (by with_unfolding_all rfl) 37 (.tmp 2) (.tmp 8) (by with_unfolding_all rfl) g2 0 (by with_unfolding_all rfl) (.agg #[.int .i64 4, .int .i64 0, .string R, .int .i64 0, .int .i64 0]) (by with_unfolding_all rfl) B2 [Value.int .i64 4, .int .i64 0, .string R, .int .i64 0, .int .i64 0] (by with_unfolding_all rfl) (by with_unfolding_all (exact Tryd.szTok)) (by with_unfolding_all (exact Nat.le_refl 5)) (by with_unfolding_all (exact tok_one _ _ _ _ _)) ?_))
    intro w3 hu3 C2
    rw [splice_all _ _ (by rfl)] at C2
    have hbe := hbe.trans (hu3.below (B := w.heap.size) hl2)
    clear B2 hu3
    have B2 := C2
    clear C2
    go_wp2
    exact bodyPost_ret (results_cell_two rfl _ _ g2 _ _ _ _ _ rfl rfl B2 Tryd.underlying37 rfl Tryd.szTok) rfl ⟨rfl, hbe⟩
set_option maxRecDepth 100000 in
set_option maxHeartbeats 3200000 in
theorem rd4_any (s : ByteArray) (hs : s.size ≤ 140737488355328) (w : World) (hT : TT w) :
    Calls Tryd.prog 65 #[.string s] w fun e w' => e = rdE 5 0 (s.extract 0 (oddL s.data.toList)) (decide (0 < oddL s.data.toList)) ∧ Below w.heap.size w w' := by
  have HS := fun g w hg hT => lead_st1 s g hs w hg hT
  have hsz := odd_sz s
  obtain ⟨R, hR⟩ : ∃ R, s.extract 0 (oddL s.data.toList) = R := ⟨_, rfl⟩
  rw [hR] at HS hsz ⊢
  obtain ⟨n, hn⟩ : ∃ n, oddL s.data.toList = n := ⟨_, rfl⟩
  rw [hn] at hsz ⊢
  clear hn hR
  have HT := Lib.hid hT
  clear hT
  by_cases h0 : 0 < n
  · skip
    have hR0 : 0 < R.size := by omega
    have k1 := toList_ne hR0
    have k2 := isEmpty_ne hR0
    rw [decide_eq_true h0]
    go_enter Tryd.func65, Tryd.ntmps65
    go_wp2_with (with_reducible refine wpList_box (o := ⟨some 1, .box 9 (.tmp 0), _, _, _, _⟩) ?g1xa 9 (.tmp 0) ?o1xa (.string s) [.string s] ?x1xa ?c1xa ?_)
    try (case g1xa => rfl)
    try (case o1xa => rfl)
    try (case x1xa => rfl)
    try (case c1xa => rfl)
    intro g1 w1 hg1 hs1 hb1 B1
    have hl1 : w.heap.size ≤ g1 := Nat.le_of_eq hg1.out.symm
    have hb1 := hb1.mono (Nat.le_of_eq hg1.out.symm)
    have hbe : Below w.heap.size w w1 := hb1
    clear hb1 hg1 hs1
    go_wp2_with (with_reducible refine wpList_alloc (o := ⟨some 2, .alloc 37, _, _, _, _⟩) (by with_unfolding_all rfl) 37 (by with_unfolding_all rfl) (.agg #[.int .i64 0, .int .i64 0, .string ByteArray.empty, .int .i64 0, .int .i64 0]) [Value.int .i64 0, .int .i64 0, .string ByteArray.empty, .int .i64 0, .int .i64 0] (by exact Tryd.zeroTok) (by with_unfolding_all rfl) ?_)
    intro g2 w2 hg2 hs2 hb2 B2
    have hl2 : w.heap.size ≤ g2 := Nat.le_trans hbe.size (Nat.le_of_eq hg2.out.symm)
    have ne1_2 : g1 ≠ g2 := by have := B1.lt; have := hg2.out; omega
    have ne2_1 := ne1_2.symm
    have hb2 := hb2.mono (Nat.le_of_eq hg2.out.symm)
    have B1 := B1.next hb2 B1.lt
    have hbe := below_join hbe hb2
    clear hb2 hg2 hs2
    have z1_0 := B1.cell (k := 0) rfl
    go_wp2_with fail
    (with_reducible refine (HS g1 _ z1_0 (HT.out.next hbe)).mono ?_)
    rintro e w3 ⟨rfl, hb3⟩
    clear z1_0
    have B1 := B1.next hb3 B1.lt
    have B2 := B2.next hb3 B2.lt
    have hbe := below_join hbe hb3
    clear hb3
    go_wp2_with (first | (with_reducible refine wpList_build (o := ⟨some 9, .build 37 #[(0, .const (.int .i64 5)), (2, .tmp 8)], _, _, _, _⟩) (by with_unfolding_all rfl) 37 #[(0, .const (.int .i64 5)), (2, .tmp 8)] (by with_unfolding_all rfl) #[(0, .int .i64 5), (2, .string R)] (by with_unfolding_all rfl) (.agg #[.int .i64 5, .int .i64 0, .string R, .int .i64 0, .int .i64 0]) (by with_unfolding_all exact fun w => (fun w => run_b02 w 5 R) w) ?_) | (with_reducible refine wpList_put (o := ⟨none, .store 37 (.tmp 2) (.tmp 9), _, _, _, _⟩) (by with_unfolding_all rfl) 37 (.tmp 2) (.tmp 9) (by with_unfolding_all rfl) g2 0 (by with_unfolding_all rfl) (.agg #[.int .i64 5, .int .i64 0, .string R, .int .i64 0, .int .i64 0]) (by with_unfolding_all rfl) B2 [Value.int .i64 5, .int .i64 0, .string R, .int .i64 0, .int .i64 0] (by with_unfolding_all rfl) (by with_unfolding_all (exact Tryd.szTok)) (by with_unfolding_all (exact Nat.le_refl 5)) (by with_unfolding_all (exact tok_one _ _ _ _ _)) ?_))
    intro w4 hu4 C2
    rw [splice_all _ _ (by rfl)] at C2
    have B1 := B1.upd hu4 ne1_2
    have hbe := hbe.trans (hu4.below (B := w.heap.size) hl2)
    clear B2 hu4
    have B2 := C2
    clear C2
    go_wp2
    exact bodyPost_ret (results_cell_two rfl _ _ g2 _ _ _ _ _ rfl rfl B2 Tryd.underlying37 rfl Tryd.szTok) rfl ⟨rfl, hbe⟩
  · skip
    have k1 := toList_nil (s := R) (by omega)
    have k2 := isEmpty_nil (s := R) (by omega)
    rw [decide_eq_false h0]
    go_enter Tryd.func65, Tryd.ntmps65
    go_wp2_with (with_reducible refine wpList_box (o := ⟨some 1, .box 9 (.tmp 0), _, _, _, _⟩) ?g1xa 9 (.tmp 0) ?o1xa (.string s) [.string s] ?x1xa ?c1xa ?_)
    try (case g1xa => rfl)
    try (case o1xa => rfl)
    try (case x1xa => rfl)
    try (case c1xa => rfl)
    intro g1 w1 hg1 hs1 hb1 B1
    have hl1 : w.heap.size ≤ g1 := Nat.le_of_eq hg1.out.symm
    have hb1 := hb1.mono (Nat.le_of_eq hg1.out.symm)
    have hbe : Below w.heap.size w w1 := hb1
    clear hb1 hg1 hs1
    go_wp2_with (with_reducible refine wpList_alloc (o := ⟨some 2, .alloc 37, _, _, _, _⟩) (by with_unfolding_all rfl) 37 (by with_unfolding_all rfl) (.agg #[.int .i64 0, .int .i64 0, .string ByteArray.empty, .int .i64 0, .int .i64 0]) [Value.int .i64 0, .int .i64 0, .string ByteArray.empty, .int .i64 0, .int .i64 0] (by exact Tryd.zeroTok) (by with_unfolding_all rfl) ?_)
    intro g2 w2 hg2 hs2 hb2 B2
    have hl2 : w.heap.size ≤ g2 := Nat.le_trans hbe.size (Nat.le_of_eq hg2.out.symm)
    have ne1_2 : g1 ≠ g2 := by have := B1.lt; have := hg2.out; omega
    have ne2_1 := ne1_2.symm
    have hb2 := hb2.mono (Nat.le_of_eq hg2.out.symm)
    have B1 := B1.next hb2 B1.lt
    have hbe := below_join hbe hb2
    clear hb2 hg2 hs2
    have z1_0 := B1.cell (k := 0) rfl
    go_wp2_with fail
    (with_reducible refine (HS g1 _ z1_0 (HT.out.next hbe)).mono ?_)
    rintro e w3 ⟨rfl, hb3⟩
    clear z1_0
    have B1 := B1.next hb3 B1.lt
    have B2 := B2.next hb3 B2.lt
    have hbe := below_join hbe hb3
    clear hb3
    go_wp2_with (first | (with_reducible refine wpList_build (o := ⟨some 9, .build 37 #[(0, .const (.int .i64 5)), (2, .tmp 8)], _, _, _, _⟩) (by with_unfolding_all rfl) 37 #[(0, .const (.int .i64 5)), (2, .tmp 8)] (by with_unfolding_all rfl) #[(0, .int .i64 5), (2, .string R)] (by with_unfolding_all rfl) (.agg #[.int .i64 5, .int .i64 0, .string R, .int .i64 0, .int .i64 0]) (by with_unfolding_all exact fun w => (fun w => run_b02 w 5 R) w) ?_) | (with_reducible refine wpList_put (o := ⟨none, .store 37 (.tmp 2) (.tmp 9), _, _, _, _⟩) (by with_unfolding_all rfl) 37 (.tmp 2) (.tmp 9) (by with_unfolding_all rfl) g2 0 (by with_unfolding_all rfl) (.agg #[.int .i64 5, .int .i64 0, .string R, .int .i64 0, .int .i64 0]) (by with_unfolding_all rfl) B2 [Value.int .i64 5, .int .i64 0, .string R, .int .i64 0, .int .i64 0] (by with_unfolding_all rfl) (by with_unfolding_all (exact Tryd.szTok)) (by with_unfolding_all (exact Nat.le_refl 5)) (by with_unfolding_all (exact tok_one _ _ _ _ _)) ?_))
    intro w4 hu4 C2
    rw [splice_all _ _ (by rfl)] at C2
    have B1 := B1.upd hu4 ne1_2
    have hbe := hbe.trans (hu4.below (B := w.heap.size) hl2)
    clear B2 hu4
    have B2 := C2
    clear C2
    go_wp2
    exact bodyPost_ret (results_cell_two rfl _ _ g2 _ _ _ _ _ rfl rfl B2 Tryd.underlying37 rfl Tryd.szTok) rfl ⟨rfl, hbe⟩
set_option maxRecDepth 100000 in
set_option maxHeartbeats 3200000 in
theorem rd5_any (s : ByteArray) (hs : s.size ≤ 140737488355328) (w : World) :
    Calls Tryd.prog 68 #[.string s] w fun e w' => e = rdE 6 0 ByteArray.empty (decide (s.size = 0)) ∧ Below w.heap.size w w' := by
  by_cases h0 : s.size = 0
  · skip
    have k1 := toList_nil h0
    have k2 := isEmpty_nil h0
    rw [decide_eq_true h0]
    go_enter Tryd.func68, Tryd.ntmps68
    go_wp2_with (with_reducible refine wpList_alloc (o := ⟨some 2, .alloc 37, _, _, _, _⟩) (by with_unfolding_all rfl) 37 (by with_unfolding_all rfl) (.agg #[.int .i64 0, .int .i64 0, .string ByteArray.empty, .int .i64 0, .int .i64 0]) [Value.int .i64 0, .int .i64 0, .string ByteArray.empty, .int .i64 0, .int .i64 0] (by exact Tryd.zeroTok) (by with_unfolding_all rfl) ?_)
    intro g2 w1 hg2 hs1 hb1 B2
    have hl2 : w.heap.size ≤ g2 := Nat.le_of_eq hg2.out.symm
    have hb1 := hb1.mono (Nat.le_of_eq hg2.out.symm)
    have hbe : Below w.heap.size w w1 := hb1
    clear hb1 hg2 hs1
    go_wp2_with (first | (with_reducible refine wpList_build (o := ⟨some 4, .build 37 #[(0, .const (.int .i64 6))], _, _, _, _⟩) (by with_unfolding_all rfl) 37 #[(0, .const (.int .i64 6))] (by with_unfolding_all rfl) #[(0, .int .i64 6)] (by with_unfolding_all rfl) (.agg #[.int .i64 6, .int .i64 0, .string ByteArray.empty, .int .i64 0, .int .i64 0]) (by with_unfolding_all exact fun w => (fun w => run_b0 w 6) w) ?_) | (with_reducible refine wpList_put (o := ⟨none, .store 37 (.tmp 2) (.tmp 4), _, _, _, _⟩) (by with_unfolding_all rfl) 37 (.tmp 2) (.tmp 4) (by with_unfolding_all rfl) g2 0 (by with_unfolding_all rfl) (.agg #[.int .i64 6, .int .i64 0, .string ByteArray.empty, .int .i64 0, .int .i64 0]) (by with_unfolding_all rfl) B2 [Value.int .i64 6, .int .i64 0, .string ByteArray.empty, .int .i64 0, .int .i64 0] (by with_unfolding_all rfl) (by with_unfolding_all (exact Tryd.szTok)) (by with_unfolding_all (exact Nat.le_refl 5)) (by with_unfolding_all (exact tok_one _ _ _ _ _)) ?_))
    intro w2 hu2 C2
    rw [splice_all _ _ (by rfl)] at C2
    have hbe := hbe.trans (hu2.below (B := w.heap.size) hl2)
    clear B2 hu2
    have B2 := C2
    clear C2
    go_wp2
    exact bodyPost_ret (results_cell_two rfl _ _ g2 _ _ _ _ _ rfl rfl B2 Tryd.underlying37 rfl Tryd.szTok) rfl ⟨rfl, hbe⟩
  · skip
    have k1 := toList_ne (s := s) (by omega)
    have k2 := isEmpty_ne (s := s) (by omega)
    rw [decide_eq_false h0]
    go_enter Tryd.func68, Tryd.ntmps68
    go_wp2_with (with_reducible refine wpList_alloc (o := ⟨some 2, .alloc 37, _, _, _, _⟩) (by with_unfolding_all rfl) 37 (by with_unfolding_all rfl) (.agg #[.int .i64 0, .int .i64 0, .string ByteArray.empty, .int .i64 0, .int .i64 0]) [Value.int .i64 0, .int .i64 0, .string ByteArray.empty, .int .i64 0, .int .i64 0] (by exact Tryd.zeroTok) (by with_unfolding_all rfl) ?_)
    intro g2 w1 hg2 hs1 hb1 B2
    have hl2 : w.heap.size ≤ g2 := Nat.le_of_eq hg2.out.symm
    have hb1 := hb1.mono (Nat.le_of_eq hg2.out.symm)
    have hbe : Below w.heap.size w w1 := hb1
    clear hb1 hg2 hs1
    go_wp2_with (first | (with_reducible refine wpList_build (o := ⟨some 4, .build 37 #[(0, .const (.int .i64 6))], _, _, _, _⟩) (by with_unfolding_all rfl) 37 #[(0, .const (.int .i64 6))] (by with_unfolding_all rfl) #[(0, .int .i64 6)] (by with_unfolding_all rfl) (.agg #[.int .i64 6, .int .i64 0, .string ByteArray.empty, .int .i64 0, .int .i64 0]) (by with_unfolding_all exact fun w => (fun w => run_b0 w 6) w) ?_) | (with_reducible refine wpList_put (o := ⟨none, .store 37 (.tmp 2) (.tmp 4), _, _, _, _⟩) (by with_unfolding_all rfl) 37 (.tmp 2) (.tmp 4) (by with_unfolding_all rfl) g2 0 (by with_unfolding_all rfl) (.agg #[.int .i64 6, .int .i64 0, .string ByteArray.empty, .int .i64 0, .int .i64 0]) (by with_unfolding_all rfl) B2 [Value.int .i64 6, .int .i64 0, .string ByteArray.empty, .int .i64 0, .int .i64 0] (by with_unfolding_all rfl) (by with_unfolding_all (exact Tryd.szTok)) (by with_unfolding_all (exact Nat.le_refl 5)) (by with_unfolding_all (exact tok_one _ _ _ _ _)) ?_))
    intro w2 hu2 C2
    rw [splice_all _ _ (by rfl)] at C2
    have hbe := hbe.trans (hu2.below (B := w.heap.size) hl2)
    clear B2 hu2
    have B2 := C2
    clear C2
    go_wp2
    exact bodyPost_ret (results_cell_two rfl _ _ g2 _ _ _ _ _ rfl rfl B2 Tryd.underlying37 rfl Tryd.szTok) rfl ⟨rfl, hbe⟩
end Go.Proofs.YtlpocfojgibhjaaDoor

/-
  Contracts of the walks over readers and first. Conditions: the program's tables lie there; the text is empty or begins with no separator.
-/
namespace Go.Proofs.YtlpocfojgibhjaaDoor
set_option linter.unusedVariables false
set_option linter.unusedSimpArgs false
open Go.RowKit Go.Shelf

def rdVs (gw : Nat) : List Value := [(.func (.func 59) #[] #[.pointer (some ⟨gw, 0, none⟩)]), (.func (.func 60) #[] #[.pointer (some ⟨gw, 0, none⟩)]), (.func (.func 61) #[] #[.pointer (some ⟨gw, 0, none⟩)]), (.func (.func 63) #[] #[]), (.func (.func 65) #[] #[]), (.func (.func 68) #[] #[])]
/-- The closures that read tokens lie there. -/
structure RDs (gw gk : Nat) (w : World) : Prop where
  cw : w.cell? ⟨gw, 0, none⟩ = some (.func (.func 57) #[] #[])
  el : w.rangeAt gk 0 (rdVs gw)
theorem RDs.next {gw gk : Nat} {w w' : World} (h : RDs gw gk w) (hb : Below w.heap.size w w') : RDs gw gk w' := ⟨cellf_below hb h.cw, rangeAt_below h.el hb⟩
theorem run_rds (gw : Nat) (w : World) : (Instr.buildSlice 45 6 #[(0, (.func (.func 59) #[] #[.pointer (some ⟨gw, 0, none⟩)])), (1, (.func (.func 60) #[] #[.pointer (some ⟨gw, 0, none⟩)])), (2, (.func (.func 61) #[] #[.pointer (some ⟨gw, 0, none⟩)])), (3, (.func (.func 63) #[] #[])), (4, (.func (.func 65) #[] #[])), (5, (.func (.func 68) #[] #[]))]).run Tryd.prog w = .ok (.slice (some ⟨w.heap.size, 0, none⟩) 6 6) (w.alloc (.cells (rdVs gw).toArray 76)) := by kernel_rfl
theorem wpList_rds {ops : Array Oper} {rest : List Oper} {o : Oper} {a : Act} {w : World} {Q : Exit → Act → World → Prop} (hw : Region.wanted o (yielded ops a.tmps) = true) (n : Nat) (ps : Array (Nat × Operand)) (ho : o.op = .buildSlice 45 n ps)
    (vs : Array (Nat × Value)) (hx : (ps.map fun p => (p.1, a.eval p.2)) = vs) (l : List Value) (hr : ∀ w : World, (Instr.buildSlice 45 n vs).run Tryd.prog w = .ok (.slice (some ⟨w.heap.size, 0, none⟩) n n) (w.alloc (.cells l.toArray 76)))
    (h : ∀ g w', Hid (g = w.heap.size) → Below w.heap.size w w' → Blk w' g 76 l → wpList Tryd.prog ops Q rest (a.put o.dst (.slice (some ⟨g, 0, none⟩) n n)) w') : wpList Tryd.prog ops Q (o :: rest) a w := by
  refine BigFrame.wpList_want hw fun K hK => ?_
  unfold Oper.wp execOp
  simp only [ho]
  rw [show (ps.map fun x => (x.1, a.eval x.2)) = vs from hx]
  simp [hr]
  exact hK _ _ (h _ _ rfl (below_new w _) (blk_new w _ _))
theorem Tryd.szFn : (Tryd.prog.info? 44).map (·.size) = some 1 := by kernel_rfl
theorem Tryd.zeroFn : (Tryd.prog.info? 44).map (·.zero) = some (some .nilFunc) := by kernel_rfl
set_option maxRecDepth 100000 in
set_option maxHeartbeats 1600000 in
theorem readers_any (w : World) : Calls Tryd.prog 28 #[] w fun e w' => (∃ gw gk, e = .returned (.slice (some ⟨gk, 0, none⟩) 6 6) ∧ RDs gw gk w') ∧ Below w.heap.size w w' := by
  go_enter Tryd.func28, Tryd.ntmps28
  go_wp2_with (with_reducible refine wpList_alloc (o := ⟨some 1, .alloc 44, _, _, _, _⟩) (by with_unfolding_all rfl) 44 (by with_unfolding_all rfl) .nilFunc [.nilFunc] (by exact Tryd.zeroFn) (by with_unfolding_all rfl) ?_)
  intro g1 w1 hg1 hs1 hb1 B1
  have hb1 := hb1.mono (Nat.le_of_eq hg1.out.symm)
  have hl1 : w.heap.size ≤ g1 := Nat.le_of_eq hg1.out.symm
  go_wp2_with (with_reducible refine wpList_put (o := ⟨none, .store 44 (.tmp 1) (.func 57), _, _, _, _⟩) (by with_unfolding_all rfl) 44 (.tmp 1) (.func 57) (by with_unfolding_all rfl) g1 0 (by with_unfolding_all rfl) (.func (.func 57) #[] #[]) (by with_unfolding_all rfl) B1 [(.func (.func 57) #[] #[])] (by with_unfolding_all rfl) (by with_unfolding_all exact Tryd.szFn) (by with_unfolding_all simp) (by with_unfolding_all exact one_cell1 rfl) ?_)
  intro w2 hu2 C1
  have C1 : Blk w2 g1 44 [.func (.func 57) #[] #[]] := C1
  have hbe := hb1.trans (hu2.below (B := w.heap.size) hl1)
  clear B1 hu2 hb1 hs1 hg1
  go_wp2_with (with_reducible refine wpList_rds (o := ⟨some 17, .buildSlice 45 6 #[(0, .tmp 11), (1, .tmp 12), (2, .tmp 13), (3, .tmp 14), (4, .tmp 15), (5, .tmp 16)], _, _, _, _⟩) (by with_unfolding_all rfl) 6 #[(0, .tmp 11), (1, .tmp 12), (2, .tmp 13), (3, .tmp 14), (4, .tmp 15), (5, .tmp 16)] (by with_unfolding_all rfl) #[(0, (.func (.func 59) #[] #[.pointer (some ⟨g1, 0, none⟩)])), (1, (.func (.func 60) #[] #[.pointer (some ⟨g1, 0, none⟩)])), (2, (.func (.func 61) #[] #[.pointer (some ⟨g1, 0, none⟩)])), (3, (.func (.func 63) #[] #[])), (4, (.func (.func 65) #[] #[])), (5, (.func (.func 68) #[] #[]))] (by with_unfolding_all rfl) (rdVs g1) (fun w => run_rds g1 w) ?_)
  intro g2 w3 hg2 hb3 B2
  have C1 := C1.next hb3 C1.lt
  have hbe := below_join hbe hb3
  go_wp2
  go_ret
  exact ⟨⟨g1, g2, rfl, C1.cell (k := 0) rfl, fun j v hv => by rw [Nat.zero_add]; exact B2.cell hv⟩, hbe⟩
theorem num_nil : numM [] = none := rfl
theorem digV_dg {b : UInt8} (h : ¬ 10 ≤ digV b) : dg b = true := by
  have : ∀ k : Fin 256, ¬ 10 ≤ digV (UInt8.ofNat k.1) → dg (UInt8.ofNat k.1) = true := by decide +kernel
  have h2 := this ⟨b.toNat, b.toNat_lt⟩
  simp only [UInt8.ofNat_toNat] at h2
  exact h2 h
theorem num_head {l : List UInt8} {n : Nat} (h : numM l = some n) : ∃ b r, l = b :: r ∧ dg b = true := by
  cases l with
  | nil => cases h
  | cons b r =>
    refine ⟨b, r, rfl, ?_⟩
    unfold numM at h
    split at h
    · rename_i hx
      obtain ⟨t, ht⟩ := hx
      simp at ht
      rw [← ht.1]; rfl
    · split at h
      · cases h
      · split at h
        · cases h
        · show dg b = true
          have e : valL 10 0 (b :: r) = if 10 ≤ digV b ∨ 1073741824 < 0 * 10 + digV b then none else valL 10 (0 * 10 + digV b) r := rfl
          rw [e] at h
          split at h
          · cases h
          · rename_i hn
            exact digV_dg fun e => hn (Or.inl e)
theorem run_nil {l : List UInt8} (h : runL l = 0) : l.take (runL l) = [] := by rw [h]; rfl
theorem wb_run {b : UInt8} {r : List UInt8} (h : wb b = true) : 0 < runL (b :: r) := runL_pos h
section
variable (l : List UInt8)
def o0 : Bool := decide (0 < runL l) && lo (l.headD 0)
def o1 : Bool := (numM (l.take (runL l))).isSome
def o2 : Bool := decide (0 < runL l) && dg (l.headD 0)
def o3 : Bool := decide (0 < signL l)
def o4 : Bool := decide (0 < oddL l)
theorem tm0 (h : o0 l = true) : tokM l = ⟨kindM (l.take (runL l)), 0, runL l⟩ := by
  cases l with
  | nil => simp [o0, runL] at h
  | cons b r =>
    simp only [o0, Bool.and_eq_true, List.headD_cons] at h
    rw [tokM_cons, if_pos h.2]
theorem no_lo {b : UInt8} {r : List UInt8} (h : o0 (b :: r) = false) : ¬ lo b = true := fun e => by
  have := wb_run (r := r) (lo_wb e)
  simp only [o0, List.headD_cons, e, Bool.and_true, decide_eq_false_iff_not] at h
  exact h this
theorem tm1 (h0 : o0 l = false) (h : o1 l = true) : tokM l = ⟨3, (numM (l.take (runL l))).getD 0, runL l⟩ := by
  obtain ⟨n, hn⟩ := Option.isSome_iff_exists.1 h
  obtain ⟨b, r, e, hd⟩ := num_head hn
  cases l with
  | nil => simp at e
  | cons c t =>
    have hcb : c = b := by
      cases hr : runL (c :: t) with
      | zero => rw [hr] at e; simp at e
      | succ k => rw [hr] at e; simp at e; exact e.1
    subst hcb
    rw [tokM_cons, if_neg (no_lo h0), if_pos hd, hn]
    rfl
theorem tm2 (h0 : o0 l = false) (h1 : o1 l = false) (h : o2 l = true) : tokM l = ⟨5, 0, runL l⟩ := by
  cases l with
  | nil => simp [o2, runL] at h
  | cons b r =>
    simp only [o2, Bool.and_eq_true, List.headD_cons] at h
    have hn : numM ((b :: r).take (runL (b :: r))) = none := by
      cases hv : numM ((b :: r).take (runL (b :: r))) with
      | none => rfl
      | some n => simp [o1, hv] at h1
    rw [tokM_cons, if_neg (no_lo h0), if_pos h.2, hn]
theorem no_dg {b : UInt8} {r : List UInt8} (h : o2 (b :: r) = false) : ¬ dg b = true := fun e => by
  have := wb_run (r := r) (dg_wb e)
  simp only [o2, List.headD_cons, e, Bool.and_true, decide_eq_false_iff_not] at h
  exact h this
theorem tm3 (h0 : o0 l = false) (h2 : o2 l = false) (h : o3 l = true) : tokM l = ⟨4, 0, signL l⟩ := by
  cases l with
  | nil => simp [o3, signL] at h
  | cons b r =>
    simp only [o3, decide_eq_true_eq] at h
    rw [tokM_cons, if_neg (no_lo h0), if_neg (no_dg h2), if_pos h]
theorem tm4 (h0 : o0 l = false) (h2 : o2 l = false) (h3 : o3 l = false) (h : o4 l = true) : tokM l = ⟨5, 0, oddL l⟩ := by
  cases l with
  | nil => simp [o4, oddL] at h
  | cons b r =>
    simp only [o3, decide_eq_false_iff_not] at h3
    rw [tokM_cons, if_neg (no_lo h0), if_neg (no_dg h2), if_neg h3]
theorem tm5 (hg : l = [] ∨ nog l = true) (h0 : o0 l = false) (h2 : o2 l = false) (h3 : o3 l = false) (h4 : o4 l = false) : l = [] := by
  rcases hg with hg | hg
  · exact hg
  · exfalso
    have hp := tokM_pos hg
    cases l with
    | nil => cases hg
    | cons b r =>
      simp only [o3, decide_eq_false_iff_not] at h3
      simp only [o4, decide_eq_false_iff_not] at h4
      rw [tokM_cons, if_neg (no_lo h0), if_neg (no_dg h2), if_neg h3] at hp
      exact h4 hp
end
end Go.Proofs.YtlpocfojgibhjaaDoor

/-
  Contract of the walk over first. Conditions: the program's tables lie there; the text is empty or begins with no separator.
-/
namespace Go.Proofs.YtlpocfojgibhjaaDoor
set_option linter.unusedVariables false
set_option linter.unusedSimpArgs false
open Go.RowKit Go.Shelf

def TokE (a b : Int) (c : ByteArray) : Ending := .returned (.agg #[.int .i64 a, .int .i64 b, .string c, .int .i64 0, .int .i64 0])
def FsRel (p0 p1 p2 p3 p4 : Bool) (g4 : Nat) (w : World) (i : Value) (wr : World) : Prop :=
  ∃ k : Nat, (k = 0 ∧ True ∨ k = 1 ∧ p0 = false ∨ k = 2 ∧ p0 = false ∧ p1 = false ∨ k = 3 ∧ p0 = false ∧ p1 = false ∧ p2 = false ∨ k = 4 ∧ p0 = false ∧ p1 = false ∧ p2 = false ∧ p3 = false ∨ k = 5 ∧ p0 = false ∧ p1 = false ∧ p2 = false ∧ p3 = false ∧ p4 = false) ∧ i = .int .i64 (k : Int) ∧ Blk wr g4 37 [Value.int .i64 0, .int .i64 0, .string ByteArray.empty, .int .i64 0, .int .i64 0] ∧ Below w.heap.size w wr
theorem tokE_eq {a b a2 b2 : Int} {c c2 : ByteArray} (h1 : a2 = a) (h2 : b2 = b) (h3 : c2 = c) : Ending.returned (.agg #[.int .i64 a, .int .i64 b, .string c, .int .i64 0, .int .i64 0]) = TokE a2 b2 c2 := by subst h1 h2 h3; rfl
set_option maxRecDepth 100000 in
set_option maxHeartbeats 6400000 in
theorem first_any (s : ByteArray) (gw gk : Nat) (hs : s.size ≤ 140737488355328) (hg : s.data.toList = [] ∨ nog s.data.toList = true) (w : World) (hR : RDs gw gk w) (hT : TT w) :
    Calls Tryd.prog 31 #[.string s, .slice (some ⟨gk, 0, none⟩) 6 6] w fun e w' => e = TokE ((tokM s.data.toList).kind : Nat) ((tokM s.data.toList).n : Nat) (s.extract 0 (tokM s.data.toList).len) ∧ Below w.heap.size w w' := by
  have t0 := tm0 s.data.toList
  have t1 := tm1 s.data.toList
  have t2 := tm2 s.data.toList
  have t3 := tm3 s.data.toList
  have t4 := tm4 s.data.toList
  have t5 := tm5 s.data.toList hg
  have r0 := fun w cw hT => rd0_any s hs gw w cw hT
  have r1 := fun w cw => rd1_any s hs gw w cw
  have r2 := fun w cw => rd2_any s hs gw w cw
  have r3 := fun w hT => rd3_any s hs w hT
  have r4 := fun w hT => rd4_any s hs w hT
  have r5 := fun w => rd5_any s hs w
  have hemp : s.data.toList = [] → s.size = 0 ∧ tokM s.data.toList = ⟨6, 0, 0⟩ := fun e => ⟨by rw [← bytes_size, e]; rfl, by rw [e]; rfl⟩
  rw [show (decide (0 < runL s.data.toList) && lo (s.data.toList.headD 0)) = o0 s.data.toList from rfl] at r0
  rw [show (numM (s.data.toList.take (runL s.data.toList))).isSome = o1 s.data.toList from rfl] at r1
  rw [show (decide (0 < runL s.data.toList) && dg (s.data.toList.headD 0)) = o2 s.data.toList from rfl] at r2
  rw [show decide (0 < signL s.data.toList) = o3 s.data.toList from rfl] at r3
  rw [show decide (0 < oddL s.data.toList) = o4 s.data.toList from rfl] at r4
  obtain ⟨M, hM⟩ : ∃ M, tokM s.data.toList = M := ⟨_, rfl⟩
  rw [hM] at t0 t1 t2 t3 t4 hemp ⊢
  obtain ⟨K, hK⟩ : ∃ K, kindM (s.data.toList.take (runL s.data.toList)) = K := ⟨_, rfl⟩
  rw [hK] at t0 r0
  obtain ⟨V, hV⟩ : ∃ V, (numM (s.data.toList.take (runL s.data.toList))).getD 0 = V := ⟨_, rfl⟩
  rw [hV] at t1 r1
  obtain ⟨nr, hnr⟩ : ∃ nr, runL s.data.toList = nr := ⟨_, rfl⟩
  rw [hnr] at t0 t1 t2 r0 r1 r2
  obtain ⟨ns, hns⟩ : ∃ ns, signL s.data.toList = ns := ⟨_, rfl⟩
  rw [hns] at t3 r3
  obtain ⟨no, hno⟩ : ∃ no, oddL s.data.toList = no := ⟨_, rfl⟩
  rw [hno] at t4 r4
  obtain ⟨p0, hp0⟩ : ∃ p, o0 s.data.toList = p := ⟨_, rfl⟩
  rw [hp0] at r0 t0 t1 t2 t3 t4 t5
  obtain ⟨p1, hp1⟩ : ∃ p, o1 s.data.toList = p := ⟨_, rfl⟩
  rw [hp1] at r1 t1 t2
  obtain ⟨p2, hp2⟩ : ∃ p, o2 s.data.toList = p := ⟨_, rfl⟩
  rw [hp2] at r2 t2 t3 t4 t5
  obtain ⟨p3, hp3⟩ : ∃ p, o3 s.data.toList = p := ⟨_, rfl⟩
  rw [hp3] at r3 t3 t4 t5
  obtain ⟨p4, hp4⟩ : ∃ p, o4 s.data.toList = p := ⟨_, rfl⟩
  rw [hp4] at r4 t4 t5
  have hend : p0 = false → p2 = false → p3 = false → p4 = false → s.size = 0 ∧ M = ⟨6, 0, 0⟩ := fun a b c d => hemp (t5 a b c d)
  obtain ⟨Rr, hRr⟩ : ∃ R, s.extract 0 nr = R := ⟨_, rfl⟩
  obtain ⟨Rs, hRs⟩ : ∃ R, s.extract 0 ns = R := ⟨_, rfl⟩
  obtain ⟨Ro, hRo⟩ : ∃ R, s.extract 0 no = R := ⟨_, rfl⟩
  rw [hRr] at r0 r1 r2
  rw [hRs] at r3
  rw [hRo] at r4
  have f0 : Hid (p0 = true → Ending.returned (.agg #[.int .i64 (K : Int), .int .i64 0, .string Rr, .int .i64 0, .int .i64 0]) = TokE (M.kind : Nat) (M.n : Nat) (s.extract 0 M.len)) := by
    have : p0 = true → Ending.returned (.agg #[.int .i64 (K : Int), .int .i64 0, .string Rr, .int .i64 0, .int .i64 0]) = TokE (M.kind : Nat) (M.n : Nat) (s.extract 0 M.len) := fun h0 => by
      rw [t0 h0]
      exact tokE_eq rfl rfl hRr
    exact this
  have f1 : Hid (p0 = false → p1 = true → Ending.returned (.agg #[.int .i64 3, .int .i64 (V : Int), .string Rr, .int .i64 0, .int .i64 0]) = TokE (M.kind : Nat) (M.n : Nat) (s.extract 0 M.len)) := by
    have : p0 = false → p1 = true → Ending.returned (.agg #[.int .i64 3, .int .i64 (V : Int), .string Rr, .int .i64 0, .int .i64 0]) = TokE (M.kind : Nat) (M.n : Nat) (s.extract 0 M.len) := fun h0 h1 => by
      rw [t1 h0 h1]
      exact tokE_eq rfl rfl hRr
    exact this
  have f2 : Hid (p0 = false → p1 = false → p2 = true → Ending.returned (.agg #[.int .i64 5, .int .i64 0, .string Rr, .int .i64 0, .int .i64 0]) = TokE (M.kind : Nat) (M.n : Nat) (s.extract 0 M.len)) := by
    have : p0 = false → p1 = false → p2 = true → Ending.returned (.agg #[.int .i64 5, .int .i64 0, .string Rr, .int .i64 0, .int .i64 0]) = TokE (M.kind : Nat) (M.n : Nat) (s.extract 0 M.len) := fun h0 h1 h2 => by
      rw [t2 h0 h1 h2]
      exact tokE_eq rfl rfl hRr
    exact this
  have f3 : Hid (p0 = false → p2 = false → p3 = true → Ending.returned (.agg #[.int .i64 4, .int .i64 0, .string Rs, .int .i64 0, .int .i64 0]) = TokE (M.kind : Nat) (M.n : Nat) (s.extract 0 M.len)) := by
    have : p0 = false → p2 = false → p3 = true → Ending.returned (.agg #[.int .i64 4, .int .i64 0, .string Rs, .int .i64 0, .int .i64 0]) = TokE (M.kind : Nat) (M.n : Nat) (s.extract 0 M.len) := fun h0 h1 h2 => by
      rw [t3 h0 h1 h2]
      exact tokE_eq rfl rfl hRs
    exact this
  have f4 : Hid (p0 = false → p2 = false → p3 = false → p4 = true → Ending.returned (.agg #[.int .i64 5, .int .i64 0, .string Ro, .int .i64 0, .int .i64 0]) = TokE (M.kind : Nat) (M.n : Nat) (s.extract 0 M.len)) := by
    have : p0 = false → p2 = false → p3 = false → p4 = true → Ending.returned (.agg #[.int .i64 5, .int .i64 0, .string Ro, .int .i64 0, .int .i64 0]) = TokE (M.kind : Nat) (M.n : Nat) (s.extract 0 M.len) := fun h0 h1 h2 h3 => by
      rw [t4 h0 h1 h2 h3]
      exact tokE_eq rfl rfl hRo
    exact this
  have f5 : Hid (p0 = false → p2 = false → p3 = false → p4 = false → Ending.returned (.agg #[.int .i64 6, .int .i64 0, .string ByteArray.empty, .int .i64 0, .int .i64 0]) = TokE (M.kind : Nat) (M.n : Nat) (s.extract 0 M.len)) := by
    have : p0 = false → p2 = false → p3 = false → p4 = false → Ending.returned (.agg #[.int .i64 6, .int .i64 0, .string ByteArray.empty, .int .i64 0, .int .i64 0]) = TokE (M.kind : Nat) (M.n : Nat) (s.extract 0 M.len) := fun a b c d => by
      have e := hend a b c d
      rw [e.2]
      refine tokE_eq rfl rfl (data_inj ?_)
      rw [cut_ls]
      rfl
    exact this
  have HE : Hid (p0 = false → p2 = false → p3 = false → p4 = false → s.size = 0) := (fun a b c d => (hend a b c d).1 : p0 = false → p2 = false → p3 = false → p4 = false → s.size = 0)
  obtain ⟨Z, hZ⟩ : ∃ Z, TokE (M.kind : Nat) (M.n : Nat) (s.extract 0 M.len) = Z := ⟨_, rfl⟩
  rw [hZ] at f0 f1 f2 f3 f4 f5 ⊢
  have HT := Lib.hid hT
  have HR := Lib.hid hR
  clear t0 t1 t2 t3 t4 t5 hemp hM hK hV hnr hns hno hp0 hp1 hp2 hp3 hp4 hend hRr hRs hRo hT hR hZ hg
  go_enter Tryd.func31, Tryd.ntmps31
  go_wp2_with (with_reducible refine wpList_alloc (o := ⟨some 4, .alloc 37, _, _, _, _⟩) (by with_unfolding_all rfl) 37 (by with_unfolding_all rfl) (.agg #[.int .i64 0, .int .i64 0, .string ByteArray.empty, .int .i64 0, .int .i64 0]) [Value.int .i64 0, .int .i64 0, .string ByteArray.empty, .int .i64 0, .int .i64 0] (by exact Tryd.zeroTok) (by with_unfolding_all rfl) ?_)
  intro g4 w1 hg4 hs1 hb1 B4
  have hl4 : w.heap.size ≤ g4 := Nat.le_of_eq hg4.out.symm
  have hb1 := hb1.mono (Nat.le_of_eq hg4.out.symm)
  have hbe : Below w.heap.size w w1 := hb1
  clear hb1 hg4 hs1
  go_wp2
  go_loopw [11] (FsRel p0 p1 p2 p3 p4 g4 w) (fun i _ => 6 - (intOf i).toNat)
  case atStart => exact ⟨0, Or.inl ⟨rfl, trivial⟩, rfl, B4, hbe⟩
  case round =>
    clear B4 hbe
    obtain ⟨k, hk, rfl, B4, hbe⟩ := hrel
    have el := (HR.out.next hbe).el
    have cw := (HR.out.next hbe).cw
    have hT := HT.out.next hbe
    rcases hk with hk | hk | hk | hk | hk | hk
    · obtain rfl := hk.1
      have ce : wr.cell? ⟨gk, 0, none⟩ = some (.func (.func 59) #[] #[.pointer (some ⟨gw, 0, none⟩)]) := el 0 _ rfl
      have HC := r0 _ cw hT
      clear el cw hT
      cases p0
      · skip
        unfold rdE at HC
        go_wp2_with fail
        (with_reducible refine (HC).mono ?_)
        rintro e w11 ⟨rfl, hb11⟩
        have B4 := B4.next hb11 B4.lt
        have hbe := below_join hbe hb11
        clear hb11
        clear ce
        go_wp2_with (with_reducible refine wpList_alloc (o := ⟨some 7, .alloc 37, _, _, _, _⟩) (by with_unfolding_all rfl) 37 (by with_unfolding_all rfl) (.agg #[.int .i64 0, .int .i64 0, .string ByteArray.empty, .int .i64 0, .int .i64 0]) [Value.int .i64 0, .int .i64 0, .string ByteArray.empty, .int .i64 0, .int .i64 0] (by exact Tryd.zeroTok) (by with_unfolding_all rfl) ?_)
        intro g7 w12 hg7 hs12 hb12 B7
        have hl7 : w.heap.size ≤ g7 := Nat.le_trans hbe.size (Nat.le_of_eq hg7.out.symm)
        have ne4_7 : g4 ≠ g7 := by have := B4.lt; have := hg7.out; omega
        have ne7_4 := ne4_7.symm
        have hb12 := hb12.mono (Nat.le_of_eq hg7.out.symm)
        have B4 := B4.next hb12 B4.lt
        have hbe := below_join hbe hb12
        clear hb12 hg7 hs12
        go_wp2_with (with_reducible refine wpList_put (o := ⟨none, .store 37 (.tmp 7) (.tmp 19), _, _, _, _⟩) (by with_unfolding_all rfl) 37 (.tmp 7) (.tmp 19) (by with_unfolding_all rfl) g7 0 (by with_unfolding_all rfl) (.agg #[.int .i64 (K : Int), .int .i64 0, .string Rr, .int .i64 0, .int .i64 0]) (by with_unfolding_all rfl) B7 [Value.int .i64 (K : Int), .int .i64 0, .string Rr, .int .i64 0, .int .i64 0] (by with_unfolding_all rfl) (by with_unfolding_all (exact Tryd.szTok)) (by with_unfolding_all (exact Nat.le_refl 5)) (by with_unfolding_all (exact tok_one _ _ _ _ _)) ?_)
        intro w13 hu13 C7
        rw [splice_all _ _ (by rfl)] at C7
        have B4 := B4.upd hu13 ne4_7
        have hbe := hbe.trans (hu13.below (B := w.heap.size) hl7)
        clear B7 hu13
        have B7 := C7
        clear C7
        go_wp2
        go_roundw
        case rel => exact ⟨1, Or.inr (Or.inl ⟨rfl, rfl⟩), by go_num, B4, hbe⟩
        case measure => simp [intOf]
      · skip
        unfold rdE at HC
        go_wp2_with fail
        (with_reducible refine (HC).mono ?_)
        rintro e w11 ⟨rfl, hb11⟩
        have B4 := B4.next hb11 B4.lt
        have hbe := below_join hbe hb11
        clear hb11
        clear ce
        go_wp2_with (with_reducible refine wpList_alloc (o := ⟨some 7, .alloc 37, _, _, _, _⟩) (by with_unfolding_all rfl) 37 (by with_unfolding_all rfl) (.agg #[.int .i64 0, .int .i64 0, .string ByteArray.empty, .int .i64 0, .int .i64 0]) [Value.int .i64 0, .int .i64 0, .string ByteArray.empty, .int .i64 0, .int .i64 0] (by exact Tryd.zeroTok) (by with_unfolding_all rfl) ?_)
        intro g7 w12 hg7 hs12 hb12 B7
        have hl7 : w.heap.size ≤ g7 := Nat.le_trans hbe.size (Nat.le_of_eq hg7.out.symm)
        have ne4_7 : g4 ≠ g7 := by have := B4.lt; have := hg7.out; omega
        have ne7_4 := ne4_7.symm
        have hb12 := hb12.mono (Nat.le_of_eq hg7.out.symm)
        have B4 := B4.next hb12 B4.lt
        have hbe := below_join hbe hb12
        clear hb12 hg7 hs12
        go_wp2_with (with_reducible refine wpList_put (o := ⟨none, .store 37 (.tmp 7) (.tmp 19), _, _, _, _⟩) (by with_unfolding_all rfl) 37 (.tmp 7) (.tmp 19) (by with_unfolding_all rfl) g7 0 (by with_unfolding_all rfl) (.agg #[.int .i64 (K : Int), .int .i64 0, .string Rr, .int .i64 0, .int .i64 0]) (by with_unfolding_all rfl) B7 [Value.int .i64 (K : Int), .int .i64 0, .string Rr, .int .i64 0, .int .i64 0] (by with_unfolding_all rfl) (by with_unfolding_all (exact Tryd.szTok)) (by with_unfolding_all (exact Nat.le_refl 5)) (by with_unfolding_all (exact tok_one _ _ _ _ _)) ?_)
        intro w13 hu13 C7
        rw [splice_all _ _ (by rfl)] at C7
        have B4 := B4.upd hu13 ne4_7
        have hbe := hbe.trans (hu13.below (B := w.heap.size) hl7)
        clear B7 hu13
        have B7 := C7
        clear C7
        have z7_0 := B7.cell (k := 0) rfl
        have z7_1 := B7.cell (k := 1) rfl
        have z7_2 := B7.cell (k := 2) rfl
        have z7_3 := B7.cell (k := 3) rfl
        have z7_4 := B7.cell (k := 4) rfl
        go_wp2_with (with_reducible refine wpList_put (o := ⟨none, .store 37 (.tmp 4) (.tmp 22), _, _, _, _⟩) (by with_unfolding_all rfl) 37 (.tmp 4) (.tmp 22) (by with_unfolding_all rfl) g4 0 (by with_unfolding_all rfl) (.agg #[.int .i64 (K : Int), .int .i64 0, .string Rr, .int .i64 0, .int .i64 0]) (by with_unfolding_all rfl) B4 [Value.int .i64 (K : Int), .int .i64 0, .string Rr, .int .i64 0, .int .i64 0] (by with_unfolding_all rfl) (by with_unfolding_all (exact Tryd.szTok)) (by with_unfolding_all (exact Nat.le_refl 5)) (by with_unfolding_all (exact tok_one _ _ _ _ _)) ?_)
        intro w14 hu14 C4
        rw [splice_all _ _ (by rfl)] at C4
        have B7 := B7.upd hu14 ne7_4
        have hbe := hbe.trans (hu14.below (B := w.heap.size) hl4)
        clear B4 hu14
        have B4 := C4
        clear C4
        clear z7_0 z7_1 z7_2 z7_3 z7_4
        go_wp2
        exact bodyPost_ret (results_cell_row rfl _ _ g4 _ _ _ _ rfl B4 Tryd.underlying37 rfl Tryd.szTok) rfl ⟨f0.out trivial, hbe⟩
    · obtain rfl := hk.1
      have ce : wr.cell? ⟨gk, 1, none⟩ = some (.func (.func 60) #[] #[.pointer (some ⟨gw, 0, none⟩)]) := el 1 _ rfl
      have HC := r1 _ cw
      clear el cw hT
      cases p1
      · skip
        unfold rdE at HC
        go_wp2_with fail
        (with_reducible refine (HC).mono ?_)
        rintro e w11 ⟨rfl, hb11⟩
        have B4 := B4.next hb11 B4.lt
        have hbe := below_join hbe hb11
        clear hb11
        clear ce
        go_wp2_with (with_reducible refine wpList_alloc (o := ⟨some 7, .alloc 37, _, _, _, _⟩) (by with_unfolding_all rfl) 37 (by with_unfolding_all rfl) (.agg #[.int .i64 0, .int .i64 0, .string ByteArray.empty, .int .i64 0, .int .i64 0]) [Value.int .i64 0, .int .i64 0, .string ByteArray.empty, .int .i64 0, .int .i64 0] (by exact Tryd.zeroTok) (by with_unfolding_all rfl) ?_)
        intro g7 w12 hg7 hs12 hb12 B7
        have hl7 : w.heap.size ≤ g7 := Nat.le_trans hbe.size (Nat.le_of_eq hg7.out.symm)
        have ne4_7 : g4 ≠ g7 := by have := B4.lt; have := hg7.out; omega
        have ne7_4 := ne4_7.symm
        have hb12 := hb12.mono (Nat.le_of_eq hg7.out.symm)
        have B4 := B4.next hb12 B4.lt
        have hbe := below_join hbe hb12
        clear hb12 hg7 hs12
        go_wp2_with (with_reducible refine wpList_put (o := ⟨none, .store 37 (.tmp 7) (.tmp 19), _, _, _, _⟩) (by with_unfolding_all rfl) 37 (.tmp 7) (.tmp 19) (by with_unfolding_all rfl) g7 0 (by with_unfolding_all rfl) (.agg #[.int .i64 3, .int .i64 (V : Int), .string Rr, .int .i64 0, .int .i64 0]) (by with_unfolding_all rfl) B7 [Value.int .i64 3, .int .i64 (V : Int), .string Rr, .int .i64 0, .int .i64 0] (by with_unfolding_all rfl) (by with_unfolding_all (exact Tryd.szTok)) (by with_unfolding_all (exact Nat.le_refl 5)) (by with_unfolding_all (exact tok_one _ _ _ _ _)) ?_)
        intro w13 hu13 C7
        rw [splice_all _ _ (by rfl)] at C7
        have B4 := B4.upd hu13 ne4_7
        have hbe := hbe.trans (hu13.below (B := w.heap.size) hl7)
        clear B7 hu13
        have B7 := C7
        clear C7
        go_wp2
        go_roundw
        case rel => exact ⟨2, Or.inr (Or.inr (Or.inl ⟨rfl, hk.2, rfl⟩)), by go_num, B4, hbe⟩
        case measure => simp [intOf]
      · skip
        unfold rdE at HC
        go_wp2_with fail
        (with_reducible refine (HC).mono ?_)
        rintro e w11 ⟨rfl, hb11⟩
        have B4 := B4.next hb11 B4.lt
        have hbe := below_join hbe hb11
        clear hb11
        clear ce
        go_wp2_with (with_reducible refine wpList_alloc (o := ⟨some 7, .alloc 37, _, _, _, _⟩) (by with_unfolding_all rfl) 37 (by with_unfolding_all rfl) (.agg #[.int .i64 0, .int .i64 0, .string ByteArray.empty, .int .i64 0, .int .i64 0]) [Value.int .i64 0, .int .i64 0, .string ByteArray.empty, .int .i64 0, .int .i64 0] (by exact Tryd.zeroTok) (by with_unfolding_all rfl) ?_)
        intro g7 w12 hg7 hs12 hb12 B7
        have hl7 : w.heap.size ≤ g7 := Nat.le_trans hbe.size (Nat.le_of_eq hg7.out.symm)
        have ne4_7 : g4 ≠ g7 := by have := B4.lt; have := hg7.out; omega
        have ne7_4 := ne4_7.symm
        have hb12 := hb12.mono (Nat.le_of_eq hg7.out.symm)
        have B4 := B4.next hb12 B4.lt
        have hbe := below_join hbe hb12
        clear hb12 hg7 hs12
        go_wp2_with (with_reducible refine wpList_put (o := ⟨none, .store 37 (.tmp 7) (.tmp 19), _, _, _, _⟩) (by with_unfolding_all rfl) 37 (.tmp 7) (.tmp 19) (by with_unfolding_all rfl) g7 0 (by with_unfolding_all rfl) (.agg #[.int .i64 3, .int .i64 (V : Int), .string Rr, .int .i64 0, .int .i64 0]) (by with_unfolding_all rfl) B7 [Value.int .i64 3, .int .i64 (V : Int), .string Rr, .int .i64 0, .int .i64 0] (by with_unfolding_all rfl) (by with_unfolding_all (exact Tryd.szTok)) (by with_unfolding_all (exact Nat.le_refl 5)) (by with_unfolding_all (exact tok_one _ _ _ _ _)) ?_)
        intro w13 hu13 C7
        rw [splice_all _ _ (by rfl)] at C7
        have B4 := B4.upd hu13 ne4_7
        have hbe := hbe.trans (hu13.below (B := w.heap.size) hl7)
        clear B7 hu13
        have B7 := C7
        clear C7
        have z7_0 := B7.cell (k := 0) rfl
        have z7_1 := B7.cell (k := 1) rfl
        have z7_2 := B7.cell (k := 2) rfl
        have z7_3 := B7.cell (k := 3) rfl
        have z7_4 := B7.cell (k := 4) rfl
        go_wp2_with (with_reducible refine wpList_put (o := ⟨none, .store 37 (.tmp 4) (.tmp 22), _, _, _, _⟩) (by with_unfolding_all rfl) 37 (.tmp 4) (.tmp 22) (by with_unfolding_all rfl) g4 0 (by with_unfolding_all rfl) (.agg #[.int .i64 3, .int .i64 (V : Int), .string Rr, .int .i64 0, .int .i64 0]) (by with_unfolding_all rfl) B4 [Value.int .i64 3, .int .i64 (V : Int), .string Rr, .int .i64 0, .int .i64 0] (by with_unfolding_all rfl) (by with_unfolding_all (exact Tryd.szTok)) (by with_unfolding_all (exact Nat.le_refl 5)) (by with_unfolding_all (exact tok_one _ _ _ _ _)) ?_)
        intro w14 hu14 C4
        rw [splice_all _ _ (by rfl)] at C4
        have B7 := B7.upd hu14 ne7_4
        have hbe := hbe.trans (hu14.below (B := w.heap.size) hl4)
        clear B4 hu14
        have B4 := C4
        clear C4
        clear z7_0 z7_1 z7_2 z7_3 z7_4
        go_wp2
        exact bodyPost_ret (results_cell_row rfl _ _ g4 _ _ _ _ rfl B4 Tryd.underlying37 rfl Tryd.szTok) rfl ⟨f1.out hk.2 trivial, hbe⟩
    · obtain rfl := hk.1
      have ce : wr.cell? ⟨gk, 2, none⟩ = some (.func (.func 61) #[] #[.pointer (some ⟨gw, 0, none⟩)]) := el 2 _ rfl
      have HC := r2 _ cw
      clear el cw hT
      cases p2
      · skip
        unfold rdE at HC
        go_wp2_with fail
        (with_reducible refine (HC).mono ?_)
        rintro e w11 ⟨rfl, hb11⟩
        have B4 := B4.next hb11 B4.lt
        have hbe := below_join hbe hb11
        clear hb11
        clear ce
        go_wp2_with (with_reducible refine wpList_alloc (o := ⟨some 7, .alloc 37, _, _, _, _⟩) (by with_unfolding_all rfl) 37 (by with_unfolding_all rfl) (.agg #[.int .i64 0, .int .i64 0, .string ByteArray.empty, .int .i64 0, .int .i64 0]) [Value.int .i64 0, .int .i64 0, .string ByteArray.empty, .int .i64 0, .int .i64 0] (by exact Tryd.zeroTok) (by with_unfolding_all rfl) ?_)
        intro g7 w12 hg7 hs12 hb12 B7
        have hl7 : w.heap.size ≤ g7 := Nat.le_trans hbe.size (Nat.le_of_eq hg7.out.symm)
        have ne4_7 : g4 ≠ g7 := by have := B4.lt; have := hg7.out; omega
        have ne7_4 := ne4_7.symm
        have hb12 := hb12.mono (Nat.le_of_eq hg7.out.symm)
        have B4 := B4.next hb12 B4.lt
        have hbe := below_join hbe hb12
        clear hb12 hg7 hs12
        go_wp2_with (with_reducible refine wpList_put (o := ⟨none, .store 37 (.tmp 7) (.tmp 19), _, _, _, _⟩) (by with_unfolding_all rfl) 37 (.tmp 7) (.tmp 19) (by with_unfolding_all rfl) g7 0 (by with_unfolding_all rfl) (.agg #[.int .i64 5, .int .i64 0, .string Rr, .int .i64 0, .int .i64 0]) (by with_unfolding_all rfl) B7 [Value.int .i64 5, .int .i64 0, .string Rr, .int .i64 0, .int .i64 0] (by with_unfolding_all rfl) (by with_unfolding_all (exact Tryd.szTok)) (by with_unfolding_all (exact Nat.le_refl 5)) (by with_unfolding_all (exact tok_one _ _ _ _ _)) ?_)
        intro w13 hu13 C7
        rw [splice_all _ _ (by rfl)] at C7
        have B4 := B4.upd hu13 ne4_7
        have hbe := hbe.trans (hu13.below (B := w.heap.size) hl7)
        clear B7 hu13
        have B7 := C7
        clear C7
        go_wp2
        go_roundw
        case rel => exact ⟨3, Or.inr (Or.inr (Or.inr (Or.inl ⟨rfl, hk.2.1, hk.2.2, rfl⟩))), by go_num, B4, hbe⟩
        case measure => simp [intOf]
      · skip
        unfold rdE at HC
        go_wp2_with fail
        (with_reducible refine (HC).mono ?_)
        rintro e w11 ⟨rfl, hb11⟩
        have B4 := B4.next hb11 B4.lt
        have hbe := below_join hbe hb11
        clear hb11
        clear ce
        go_wp2_with (with_reducible refine wpList_alloc (o := ⟨some 7, .alloc 37, _, _, _, _⟩) (by with_unfolding_all rfl) 37 (by with_unfolding_all rfl) (.agg #[.int .i64 0, .int .i64 0, .string ByteArray.empty, .int .i64 0, .int .i64 0]) [Value.int .i64 0, .int .i64 0, .string ByteArray.empty, .int .i64 0, .int .i64 0] (by exact Tryd.zeroTok) (by with_unfolding_all rfl) ?_)
        intro g7 w12 hg7 hs12 hb12 B7
        have hl7 : w.heap.size ≤ g7 := Nat.le_trans hbe.size (Nat.le_of_eq hg7.out.symm)
        have ne4_7 : g4 ≠ g7 := by have := B4.lt; have := hg7.out; omega
        have ne7_4 := ne4_7.symm
        have hb12 := hb12.mono (Nat.le_of_eq hg7.out.symm)
        have B4 := B4.next hb12 B4.lt
        have hbe := below_join hbe hb12
        clear hb12 hg7 hs12
        go_wp2_with (with_reducible refine wpList_put (o := ⟨none, .store 37 (.tmp 7) (.tmp 19), _, _, _, _⟩) (by with_unfolding_all rfl) 37 (.tmp 7) (.tmp 19) (by with_unfolding_all rfl) g7 0 (by with_unfolding_all rfl) (.agg #[.int .i64 5, .int .i64 0, .string Rr, .int .i64 0, .int .i64 0]) (by with_unfolding_all rfl) B7 [Value.int .i64 5, .int .i64 0, .string Rr, .int .i64 0, .int .i64 0] (by with_unfolding_all rfl) (by with_unfolding_all (exact Tryd.szTok)) (by with_unfolding_all (exact Nat.le_refl 5)) (by with_unfolding_all (exact tok_one _ _ _ _ _)) ?_)
        intro w13 hu13 C7
        rw [splice_all _ _ (by rfl)] at C7
        have B4 := B4.upd hu13 ne4_7
        have hbe := hbe.trans (hu13.below (B := w.heap.size) hl7)
        clear B7 hu13
        have B7 := C7
        clear C7
        have z7_0 := B7.cell (k := 0) rfl
        have z7_1 := B7.cell (k := 1) rfl
        have z7_2 := B7.cell (k := 2) rfl
        have z7_3 := B7.cell (k := 3) rfl
        have z7_4 := B7.cell (k := 4) rfl
        go_wp2_with (with_reducible refine wpList_put (o := ⟨none, .store 37 (.tmp 4) (.tmp 22), _, _, _, _⟩) (by with_unfolding_all rfl) 37 (.tmp 4) (.tmp 22) (by with_unfolding_all rfl) g4 0 (by with_unfolding_all rfl) (.agg #[.int .i64 5, .int .i64 0, .string Rr, .int .i64 0, .int .i64 0]) (by with_unfolding_all rfl) B4 [Value.int .i64 5, .int .i64 0, .string Rr, .int .i64 0, .int .i64 0] (by with_unfolding_all rfl) (by with_unfolding_all (exact Tryd.szTok)) (by with_unfolding_all (exact Nat.le_refl 5)) (by with_unfolding_all (exact tok_one _ _ _ _ _)) ?_)
        intro w14 hu14 C4
        rw [splice_all _ _ (by rfl)] at C4
        have B7 := B7.upd hu14 ne7_4
        have hbe := hbe.trans (hu14.below (B := w.heap.size) hl4)
        clear B4 hu14
        have B4 := C4
        clear C4
        clear z7_0 z7_1 z7_2 z7_3 z7_4
        go_wp2
        exact bodyPost_ret (results_cell_row rfl _ _ g4 _ _ _ _ rfl B4 Tryd.underlying37 rfl Tryd.szTok) rfl ⟨f2.out hk.2.1 hk.2.2 trivial, hbe⟩
    · obtain rfl := hk.1
      have ce : wr.cell? ⟨gk, 3, none⟩ = some (.func (.func 63) #[] #[]) := el 3 _ rfl
      have HC := r3 _ hT
      clear el cw hT
      cases p3
      · skip
        unfold rdE at HC
        go_wp2_with fail
        (with_reducible refine (HC).mono ?_)
        rintro e w11 ⟨rfl, hb11⟩
        have B4 := B4.next hb11 B4.lt
        have hbe := below_join hbe hb11
        clear hb11
        clear ce
        go_wp2_with (with_reducible refine wpList_alloc (o := ⟨some 7, .alloc 37, _, _, _, _⟩) (by with_unfolding_all rfl) 37 (by with_unfolding_all rfl) (.agg #[.int .i64 0, .int .i64 0, .string ByteArray.empty, .int .i64 0, .int .i64 0]) [Value.int .i64 0, .int .i64 0, .string ByteArray.empty, .int .i64 0, .int .i64 0] (by exact Tryd.zeroTok) (by with_unfolding_all rfl) ?_)
        intro g7 w12 hg7 hs12 hb12 B7
        have hl7 : w.heap.size ≤ g7 := Nat.le_trans hbe.size (Nat.le_of_eq hg7.out.symm)
        have ne4_7 : g4 ≠ g7 := by have := B4.lt; have := hg7.out; omega
        have ne7_4 := ne4_7.symm
        have hb12 := hb12.mono (Nat.le_of_eq hg7.out.symm)
        have B4 := B4.next hb12 B4.lt
        have hbe := below_join hbe hb12
        clear hb12 hg7 hs12
        go_wp2_with (with_reducible refine wpList_put (o := ⟨none, .store 37 (.tmp 7) (.tmp 19), _, _, _, _⟩) (by with_unfolding_all rfl) 37 (.tmp 7) (.tmp 19) (by with_unfolding_all rfl) g7 0 (by with_unfolding_all rfl) (.agg #[.int .i64 4, .int .i64 0, .string Rs, .int .i64 0, .int .i64 0]) (by with_unfolding_all rfl) B7 [Value.int .i64 4, .int .i64 0, .string Rs, .int .i64 0, .int .i64 0] (by with_unfolding_all rfl) (by with_unfolding_all (exact Tryd.szTok)) (by with_unfolding_all (exact Nat.le_refl 5)) (by with_unfolding_all (exact tok_one _ _ _ _ _)) ?_)
        intro w13 hu13 C7
        rw [splice_all _ _ (by rfl)] at C7
        have B4 := B4.upd hu13 ne4_7
        have hbe := hbe.trans (hu13.below (B := w.heap.size) hl7)
        clear B7 hu13
        have B7 := C7
        clear C7
        go_wp2
        go_roundw
        case rel => exact ⟨4, Or.inr (Or.inr (Or.inr (Or.inr (Or.inl ⟨rfl, hk.2.1, hk.2.2.1, hk.2.2.2, rfl⟩)))), by go_num, B4, hbe⟩
        case measure => simp [intOf]
      · skip
        unfold rdE at HC
        go_wp2_with fail
        (with_reducible refine (HC).mono ?_)
        rintro e w11 ⟨rfl, hb11⟩
        have B4 := B4.next hb11 B4.lt
        have hbe := below_join hbe hb11
        clear hb11
        clear ce
        go_wp2_with (with_reducible refine wpList_alloc (o := ⟨some 7, .alloc 37, _, _, _, _⟩) (by with_unfolding_all rfl) 37 (by with_unfolding_all rfl) (.agg #[.int .i64 0, .int .i64 0, .string ByteArray.empty, .int .i64 0, .int .i64 0]) [Value.int .i64 0, .int .i64 0, .string ByteArray.empty, .int .i64 0, .int .i64 0] (by exact Tryd.zeroTok) (by with_unfolding_all rfl) ?_)
        intro g7 w12 hg7 hs12 hb12 B7
        have hl7 : w.heap.size ≤ g7 := Nat.le_trans hbe.size (Nat.le_of_eq hg7.out.symm)
        have ne4_7 : g4 ≠ g7 := by have := B4.lt; have := hg7.out; omega
        have ne7_4 := ne4_7.symm
        have hb12 := hb12.mono (Nat.le_of_eq hg7.out.symm)
        have B4 := B4.next hb12 B4.lt
        have hbe := below_join hbe hb12
        clear hb12 hg7 hs12
        go_wp2_with (with_reducible refine wpList_put (o := ⟨none, .store 37 (.tmp 7) (.tmp 19), _, _, _, _⟩) (by with_unfolding_all rfl) 37 (.tmp 7) (.tmp 19) (by with_unfolding_all rfl) g7 0 (by with_unfolding_all rfl) (.agg #[.int .i64 4, .int .i64 0, .string Rs, .int .i64 0, .int .i64 0]) (by with_unfolding_all rfl) B7 [Value.int .i64 4, .int .i64 0, .string Rs, .int .i64 0, .int .i64 0] (by with_unfolding_all rfl) (by with_unfolding_all (exact Tryd.szTok)) (by with_unfolding_all (exact Nat.le_refl 5)) (by with_unfolding_all (exact tok_one _ _ _ _ _)) ?_)
        intro w13 hu13 C7
        rw [splice_all _ _ (by rfl)] at C7
        have B4 := B4.upd hu13 ne4_7
        have hbe := hbe.trans (hu13.below (B := w.heap.size) hl7)
        clear B7 hu13
        have B7 := C7
        clear C7
        have z7_0 := B7.cell (k := 0) rfl
        have z7_1 := B7.cell (k := 1) rfl
        have z7_2 := B7.cell (k := 2) rfl
        have z7_3 := B7.cell (k := 3) rfl
        have z7_4 := B7.cell (k := 4) rfl
        go_wp2_with (with_reducible refine wpList_put (o := ⟨none, .store 37 (.tmp 4) (.tmp 22), _, _, _, _⟩) (by with_unfolding_all rfl) 37 (.tmp 4) (.tmp 22) (by with_unfolding_all rfl) g4 0 (by with_unfolding_all rfl) (.agg #[.int .i64 4, .int .i64 0, .string Rs, .int .i64 0, .int .i64 0]) (by with_unfolding_all rfl) B4 [Value.int .i64 4, .int .i64 0, .string Rs, .int .i64 0, .int .i64 0] (by with_unfolding_all rfl) (by with_unfolding_all (exact Tryd.szTok)) (by with_unfolding_all (exact Nat.le_refl 5)) (by with_unfolding_all (exact tok_one _ _ _ _ _)) ?_)
        intro w14 hu14 C4
        rw [splice_all _ _ (by rfl)] at C4
        have B7 := B7.upd hu14 ne7_4
        have hbe := hbe.trans (hu14.below (B := w.heap.size) hl4)
        clear B4 hu14
        have B4 := C4
        clear C4
        clear z7_0 z7_1 z7_2 z7_3 z7_4
        go_wp2
        exact bodyPost_ret (results_cell_row rfl _ _ g4 _ _ _ _ rfl B4 Tryd.underlying37 rfl Tryd.szTok) rfl ⟨f3.out hk.2.1 hk.2.2.2 trivial, hbe⟩
    · obtain rfl := hk.1
      have ce : wr.cell? ⟨gk, 4, none⟩ = some (.func (.func 65) #[] #[]) := el 4 _ rfl
      have HC := r4 _ hT
      clear el cw hT
      cases p4
      · skip
        unfold rdE at HC
        go_wp2_with fail
        (with_reducible refine (HC).mono ?_)
        rintro e w11 ⟨rfl, hb11⟩
        have B4 := B4.next hb11 B4.lt
        have hbe := below_join hbe hb11
        clear hb11
        clear ce
        go_wp2_with (with_reducible refine wpList_alloc (o := ⟨some 7, .alloc 37, _, _, _, _⟩) (by with_unfolding_all rfl) 37 (by with_unfolding_all rfl) (.agg #[.int .i64 0, .int .i64 0, .string ByteArray.empty, .int .i64 0, .int .i64 0]) [Value.int .i64 0, .int .i64 0, .string ByteArray.empty, .int .i64 0, .int .i64 0] (by exact Tryd.zeroTok) (by with_unfolding_all rfl) ?_)
        intro g7 w12 hg7 hs12 hb12 B7
        have hl7 : w.heap.size ≤ g7 := Nat.le_trans hbe.size (Nat.le_of_eq hg7.out.symm)
        have ne4_7 : g4 ≠ g7 := by have := B4.lt; have := hg7.out; omega
        have ne7_4 := ne4_7.symm
        have hb12 := hb12.mono (Nat.le_of_eq hg7.out.symm)
        have B4 := B4.next hb12 B4.lt
        have hbe := below_join hbe hb12
        clear hb12 hg7 hs12
        go_wp2_with (with_reducible refine wpList_put (o := ⟨none, .store 37 (.tmp 7) (.tmp 19), _, _, _, _⟩) (by with_unfolding_all rfl) 37 (.tmp 7) (.tmp 19) (by with_unfolding_all rfl) g7 0 (by with_unfolding_all rfl) (.agg #[.int .i64 5, .int .i64 0, .string Ro, .int .i64 0, .int .i64 0]) (by with_unfolding_all rfl) B7 [Value.int .i64 5, .int .i64 0, .string Ro, .int .i64 0, .int .i64 0] (by with_unfolding_all rfl) (by with_unfolding_all (exact Tryd.szTok)) (by with_unfolding_all (exact Nat.le_refl 5)) (by with_unfolding_all (exact tok_one _ _ _ _ _)) ?_)
        intro w13 hu13 C7
        rw [splice_all _ _ (by rfl)] at C7
        have B4 := B4.upd hu13 ne4_7
        have hbe := hbe.trans (hu13.below (B := w.heap.size) hl7)
        clear B7 hu13
        have B7 := C7
        clear C7
        go_wp2
        go_roundw
        case rel => exact ⟨5, Or.inr (Or.inr (Or.inr (Or.inr (Or.inr (⟨rfl, hk.2.1, hk.2.2.1, hk.2.2.2.1, hk.2.2.2.2, rfl⟩))))), by go_num, B4, hbe⟩
        case measure => simp [intOf]
      · skip
        unfold rdE at HC
        go_wp2_with fail
        (with_reducible refine (HC).mono ?_)
        rintro e w11 ⟨rfl, hb11⟩
        have B4 := B4.next hb11 B4.lt
        have hbe := below_join hbe hb11
        clear hb11
        clear ce
        go_wp2_with (with_reducible refine wpList_alloc (o := ⟨some 7, .alloc 37, _, _, _, _⟩) (by with_unfolding_all rfl) 37 (by with_unfolding_all rfl) (.agg #[.int .i64 0, .int .i64 0, .string ByteArray.empty, .int .i64 0, .int .i64 0]) [Value.int .i64 0, .int .i64 0, .string ByteArray.empty, .int .i64 0, .int .i64 0] (by exact Tryd.zeroTok) (by with_unfolding_all rfl) ?_)
        intro g7 w12 hg7 hs12 hb12 B7
        have hl7 : w.heap.size ≤ g7 := Nat.le_trans hbe.size (Nat.le_of_eq hg7.out.symm)
        have ne4_7 : g4 ≠ g7 := by have := B4.lt; have := hg7.out; omega
        have ne7_4 := ne4_7.symm
        have hb12 := hb12.mono (Nat.le_of_eq hg7.out.symm)
        have B4 := B4.next hb12 B4.lt
        have hbe := below_join hbe hb12
        clear hb12 hg7 hs12
        go_wp2_with (with_reducible refine wpList_put (o := ⟨none, .store 37 (.tmp 7) (.tmp 19), _, _, _, _⟩) (by with_unfolding_all rfl) 37 (.tmp 7) (.tmp 19) (by with_unfolding_all rfl) g7 0 (by with_unfolding_all rfl) (.agg #[.int .i64 5, .int .i64 0, .string Ro, .int .i64 0, .int .i64 0]) (by with_unfolding_all rfl) B7 [Value.int .i64 5, .int .i64 0, .string Ro, .int .i64 0, .int .i64 0] (by with_unfolding_all rfl) (by with_unfolding_all (exact Tryd.szTok)) (by with_unfolding_all (exact Nat.le_refl 5)) (by with_unfolding_all (exact tok_one _ _ _ _ _)) ?_)
        intro w13 hu13 C7
        rw [splice_all _ _ (by rfl)] at C7
        have B4 := B4.upd hu13 ne4_7
        have hbe := hbe.trans (hu13.below (B := w.heap.size) hl7)
        clear B7 hu13
        have B7 := C7
        clear C7
        have z7_0 := B7.cell (k := 0) rfl
        have z7_1 := B7.cell (k := 1) rfl
        have z7_2 := B7.cell (k := 2) rfl
        have z7_3 := B7.cell (k := 3) rfl
        have z7_4 := B7.cell (k := 4) rfl
        go_wp2_with (with_reducible refine wpList_put (o := ⟨none, .store 37 (.tmp 4) (.tmp 22), _, _, _, _⟩) (by with_unfolding_all rfl) 37 (.tmp 4) (.tmp 22) (by with_unfolding_all rfl) g4 0 (by with_unfolding_all rfl) (.agg #[.int .i64 5, .int .i64 0, .string Ro, .int .i64 0, .int .i64 0]) (by with_unfolding_all rfl) B4 [Value.int .i64 5, .int .i64 0, .string Ro, .int .i64 0, .int .i64 0] (by with_unfolding_all rfl) (by with_unfolding_all (exact Tryd.szTok)) (by with_unfolding_all (exact Nat.le_refl 5)) (by with_unfolding_all (exact tok_one _ _ _ _ _)) ?_)
        intro w14 hu14 C4
        rw [splice_all _ _ (by rfl)] at C4
        have B7 := B7.upd hu14 ne7_4
        have hbe := hbe.trans (hu14.below (B := w.heap.size) hl4)
        clear B4 hu14
        have B4 := C4
        clear C4
        clear z7_0 z7_1 z7_2 z7_3 z7_4
        go_wp2
        exact bodyPost_ret (results_cell_row rfl _ _ g4 _ _ _ _ rfl B4 Tryd.underlying37 rfl Tryd.szTok) rfl ⟨f4.out hk.2.1 hk.2.2.2.1 hk.2.2.2.2 trivial, hbe⟩
    · obtain rfl := hk.1
      have ce : wr.cell? ⟨gk, 5, none⟩ = some (.func (.func 68) #[] #[]) := el 5 _ rfl
      have HC := r5 wr
      rw [decide_eq_true (HE.out hk.2.1 hk.2.2.2.1 hk.2.2.2.2.1 hk.2.2.2.2.2)] at HC
      clear el cw hT
      unfold rdE at HC
      go_wp2_with fail
      (with_reducible refine (HC).mono ?_)
      rintro e w11 ⟨rfl, hb11⟩
      have B4 := B4.next hb11 B4.lt
      have hbe := below_join hbe hb11
      clear hb11
      clear ce
      go_wp2_with (with_reducible refine wpList_alloc (o := ⟨some 7, .alloc 37, _, _, _, _⟩) (by with_unfolding_all rfl) 37 (by with_unfolding_all rfl) (.agg #[.int .i64 0, .int .i64 0, .string ByteArray.empty, .int .i64 0, .int .i64 0]) [Value.int .i64 0, .int .i64 0, .string ByteArray.empty, .int .i64 0, .int .i64 0] (by exact Tryd.zeroTok) (by with_unfolding_all rfl) ?_)
      intro g7 w12 hg7 hs12 hb12 B7
      have hl7 : w.heap.size ≤ g7 := Nat.le_trans hbe.size (Nat.le_of_eq hg7.out.symm)
      have ne4_7 : g4 ≠ g7 := by have := B4.lt; have := hg7.out; omega
      have ne7_4 := ne4_7.symm
      have hb12 := hb12.mono (Nat.le_of_eq hg7.out.symm)
      have B4 := B4.next hb12 B4.lt
      have hbe := below_join hbe hb12
      clear hb12 hg7 hs12
      go_wp2_with (with_reducible refine wpList_put (o := ⟨none, .store 37 (.tmp 7) (.tmp 19), _, _, _, _⟩) (by with_unfolding_all rfl) 37 (.tmp 7) (.tmp 19) (by with_unfolding_all rfl) g7 0 (by with_unfolding_all rfl) (.agg #[.int .i64 6, .int .i64 0, .string ByteArray.empty, .int .i64 0, .int .i64 0]) (by with_unfolding_all rfl) B7 [Value.int .i64 6, .int .i64 0, .string ByteArray.empty, .int .i64 0, .int .i64 0] (by with_unfolding_all rfl) (by with_unfolding_all (exact Tryd.szTok)) (by with_unfolding_all (exact Nat.le_refl 5)) (by with_unfolding_all (exact tok_one _ _ _ _ _)) ?_)
      intro w13 hu13 C7
      rw [splice_all _ _ (by rfl)] at C7
      have B4 := B4.upd hu13 ne4_7
      have hbe := hbe.trans (hu13.below (B := w.heap.size) hl7)
      clear B7 hu13
      have B7 := C7
      clear C7
      have z7_0 := B7.cell (k := 0) rfl
      have z7_1 := B7.cell (k := 1) rfl
      have z7_2 := B7.cell (k := 2) rfl
      have z7_3 := B7.cell (k := 3) rfl
      have z7_4 := B7.cell (k := 4) rfl
      go_wp2_with (with_reducible refine wpList_put (o := ⟨none, .store 37 (.tmp 4) (.tmp 22), _, _, _, _⟩) (by with_unfolding_all rfl) 37 (.tmp 4) (.tmp 22) (by with_unfolding_all rfl) g4 0 (by with_unfolding_all rfl) (.agg #[.int .i64 6, .int .i64 0, .string ByteArray.empty, .int .i64 0, .int .i64 0]) (by with_unfolding_all rfl) B4 [Value.int .i64 6, .int .i64 0, .string ByteArray.empty, .int .i64 0, .int .i64 0] (by with_unfolding_all rfl) (by with_unfolding_all (exact Tryd.szTok)) (by with_unfolding_all (exact Nat.le_refl 5)) (by with_unfolding_all (exact tok_one _ _ _ _ _)) ?_)
      intro w14 hu14 C4
      rw [splice_all _ _ (by rfl)] at C4
      have B7 := B7.upd hu14 ne7_4
      have hbe := hbe.trans (hu14.below (B := w.heap.size) hl4)
      clear B4 hu14
      have B4 := C4
      clear C4
      clear z7_0 z7_1 z7_2 z7_3 z7_4
      go_wp2
      exact bodyPost_ret (results_cell_row rfl _ _ g4 _ _ _ _ rfl B4 Tryd.underlying37 rfl Tryd.szTok) rfl ⟨f5.out hk.2.1 hk.2.2.2.1 hk.2.2.2.2.1 hk.2.2.2.2.2, hbe⟩
end Go.Proofs.YtlpocfojgibhjaaDoor
