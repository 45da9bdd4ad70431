/-
  Contracts of the walks over gap and the closures that read tokens. Conditions: the program's tables lie there; texts that fit into memory.
-/
import Derived.Test.YtcefaipjncohmaaGreatDoorQi
namespace Go.Proofs.YtcefaipjncohmaaGreatDoor
set_option linter.unusedVariables false
set_option linter.unusedSimpArgs false
open Go.RowKit Go.Shelf

def GapRel (n g1 g2 : Nat) (s : ByteArray) (w : World) (i : Value) (wr : World) : Prop := ∃ k : Nat, k ≤ n ∧ i = .int .i64 (k : Int) ∧ Blk wr g1 9 [.string s] ∧ Blk wr g2 4 [.bool (insL false (s.data.toList.take k))] ∧ Below g2 w wr
theorem take_next {l : List UInt8} {k : Nat} (h : k < l.length) : l.take (k + 1) = l.take k ++ [l[k]] := by
  rw [List.take_append_getElem h]
set_option maxRecDepth 100000 in
set_option maxHeartbeats 1600000 in
theorem lead_gap (s : ByteArray) (g1 g2 : Nat) (hs : s.size ≤ 140737488355328) (w : World) (B1 : Blk w g1 9 [.string s]) (h12 : g1 < g2) (B2 : Blk w g2 4 [.bool false]) :
    Calls Tryz.prog 44 #[.string s, .func (.func 59) #[] #[.pointer (some ⟨g1, 0, none⟩), .pointer (some ⟨g2, 0, none⟩)]] w fun e w' => e = .returned (.string (s.extract 0 (gapL false s.data.toList))) ∧ Below g2 w w' := by
  have hle := gapL_le false s.data.toList
  have hlen := lenS s
  have hAt : ∀ k (h : k < s.size), k < gapL false s.data.toList → gapB (insL false (s.data.toList.take k)) (s[k]'h) = true := fun k h hk => by
    have := gap_get s.data.toList false k (by omega) hk
    rw [← byte_at s h]; exact this
  have hEnd : ∀ (h : gapL false s.data.toList < s.size), gapB (insL false (s.data.toList.take (gapL false s.data.toList))) (s[gapL false s.data.toList]'h) = false := fun h => by
    have := gap_stop s.data.toList false (by omega)
    rw [← byte_at s h]; exact this
  have hNx : ∀ k (h : k < s.size), insL false (s.data.toList.take (k + 1)) = insB (insL false (s.data.toList.take k)) (s[k]'h) := fun k h => by
    rw [take_next (by omega), insL_snoc, byte_at s h]
  obtain ⟨F, hF⟩ : ∃ F : Nat → Bool, (fun k => insL false (s.data.toList.take k)) = F := ⟨_, rfl⟩
  have hF1 := fun k => congrFun hF k
  simp only [hF1] at hAt hEnd hNx
  obtain ⟨n, hn⟩ : ∃ n, gapL false s.data.toList = n := ⟨_, rfl⟩
  rw [hn] at hle hAt ⊢
  have hEnd2 : ∀ h : n < s.size, gapB (F n) (s[n]'h) = false := by
    intro h
    have := hEnd (by rw [hn]; exact h)
    simpa [hn] using this
  have HA := Lib.hid hAt
  have HE := Lib.hid hEnd2
  have HX := Lib.hid hNx
  have HF := Lib.hid hF1
  rw [hlen] at hle
  clear hn hF hEnd hAt hEnd2 hNx hlen hF1
  have hni : (n : Int) ≤ (s.size : Int) := by omega
  have hn0 : (0 : Int) ≤ (n : Int) := by omega
  go_enter Tryz.func44, Tryz.ntmps44
  go_wp2
  go_loopw [5] (GapRel n g1 g2 s w) (fun i _ => n - (intOf i).toNat)
  case atStart => exact ⟨0, Nat.zero_le _, rfl, B1, B2, Below.refl _ _⟩
  case round =>
    clear B1 B2
    obtain ⟨k, hk, rfl, B1, B2, hbe⟩ := hrel
    rw [HF.out] at B2
    by_cases hlt : k < n
    · have hks : k < s.size := by omega
      have hki : (k : Int) < (s.size : Int) := by omega
      have HW := gap1_any s g1 g2 k (F k) hks hs wr B1 h12 B2
      rw [HA.out k hks hlt, ← HX.out k hks] at HW
      go_wp2_with fail
      (with_reducible refine HW.mono ?_)
      rintro e w2 ⟨rfl, C2, hb2⟩
      have hbe := hbe.trans hb2
      have B1 := B1.next hb2 h12
      rw [← HF.out] at C2
      clear hb2 HW B2
      go_wp2
      go_roundw
      case rel => exact ⟨k + 1, hlt, by go_num, B1, C2, hbe⟩
      case measure => simp [intOf]; omega
    · have hkn : k = n := by omega
      subst hkn
      by_cases hks : k < s.size
      · have hki : (k : Int) < (s.size : Int) := by omega
        have HW := gap1_any s g1 g2 k (F k) hks hs wr B1 h12 B2
        rw [HE.out hks] at HW
        go_wp2_with fail
        (with_reducible refine HW.mono ?_)
        rintro e w2 ⟨rfl, C2, hb2⟩
        have hbe := hbe.trans hb2
        clear hb2 HW B2
        go_wp2
        go_ret
        exact ⟨rfl, hbe⟩
      · have hki : ¬ (k : Int) < (s.size : Int) := by omega
        go_wp2
        go_ret
        exact ⟨rfl, hbe⟩
set_option maxRecDepth 100000 in
set_option maxHeartbeats 1600000 in
theorem gap_any (s : ByteArray) (hs : s.size ≤ 140737488355328) (w : World) :
    Calls Tryz.prog 18 #[.string s] w fun e w' => e = .returned (.string (s.extract 0 (gapL false s.data.toList))) ∧ Below w.heap.size w w' := by
  have HL := fun g1 g2 w B1 h B2 => lead_gap s g1 g2 hs w B1 h B2
  obtain ⟨R, hR⟩ : ∃ R, s.extract 0 (gapL false s.data.toList) = R := ⟨_, rfl⟩
  rw [hR] at HL ⊢
  clear hR
  go_enter Tryz.func18, Tryz.ntmps18
  go_wp2_with (with_reducible refine wpList_box (o := ⟨some 1, .box 9 (.tmp 0), _, _, _, _⟩) ?g1ga 9 (.tmp 0) ?o1ga (.string s) [.string s] ?x1ga ?c1ga ?_)
  try (case g1ga => rfl)
  try (case o1ga => rfl)
  try (case x1ga => rfl)
  try (case c1ga => rfl)
  intro g1 w1 hg1 hs1 hb1 B1
  have hb1 := hb1.mono (Nat.le_of_eq hg1.out.symm)
  have hl1 : w.heap.size ≤ g1 := Nat.le_of_eq hg1.out.symm
  go_wp2_with (with_reducible refine wpList_alloc (o := ⟨some 3, .alloc 4, _, _, _, _⟩) (by with_unfolding_all rfl) 4 (by with_unfolding_all rfl) (.bool false) [Value.bool false] (by exact Tryz.zeroBool) (by with_unfolding_all rfl) ?_)
  intro g3 w2 hg3 hs2 hb2 B3
  have h13 : g1 < g3 := by have := B1.lt; have := hg3.out; omega
  have hl3 : w.heap.size ≤ g3 := by have := hg3.out; have := hb1.size; omega
  have hb2 := hb2.mono (Nat.le_of_eq hg3.out.symm)
  have B1 := B1.next hb2 B1.lt
  have hbe := below_join hb1 hb2
  clear hb1 hb2 hg1 hg3 hs1 hs2
  go_wp2_with (with_reducible refine wpList_put (o := ⟨none, .store 4 (.tmp 3) (.const (.bool false)), _, _, _, _⟩) (by with_unfolding_all rfl) 4 (.tmp 3) (.const (.bool false)) (by with_unfolding_all rfl) g3 0 (by with_unfolding_all rfl) (.bool false) (by with_unfolding_all rfl) B3 [(.bool false)] (by with_unfolding_all rfl) (by with_unfolding_all exact Tryz.szBool) (by with_unfolding_all simp) (by with_unfolding_all exact one_cell1 rfl) ?_)
  intro w3 hu3 C3
  have C3 : Blk w3 g3 4 [.bool false] := C3
  have B1 := B1.upd hu3 (by omega)
  have hbe := hbe.trans (hu3.below (B := w.heap.size) hl3)
  clear B3 hu3
  have c1 := B1.cell (k := 0) rfl
  go_wp2_with fail
  (with_reducible refine (HL g1 g3 _ B1 h13 C3).mono ?_)
  rintro e w4 ⟨rfl, hb4⟩
  have hbe := hbe.trans (hb4.mono hl3)
  go_wp2
  go_ret
  exact ⟨rfl, hbe⟩
set_option maxRecDepth 100000 in
set_option maxHeartbeats 1600000 in
theorem wbytes_any (s : ByteArray) (hs : s.size ≤ 140737488355328) (w : World) :
    Calls Tryz.prog 47 #[.string s] w fun e w' => e = .returned (.string (s.extract 0 (runL s.data.toList))) ∧ Below w.heap.size w w' := by
  have HL := fun g w h => lead_rb1 s g hs w h
  obtain ⟨R, hR⟩ : ∃ R, s.extract 0 (runL s.data.toList) = R := ⟨_, rfl⟩
  rw [hR] at HL ⊢
  clear hR
  go_enter Tryz.func47, Tryz.ntmps47
  go_wp2_with (with_reducible refine wpList_box (o := ⟨some 1, .box 9 (.tmp 0), _, _, _, _⟩) ?g1wa 9 (.tmp 0) ?o1wa (.string s) [.string s] ?x1wa ?c1wa ?_)
  try (case g1wa => rfl)
  try (case o1wa => rfl)
  try (case x1wa => rfl)
  try (case c1wa => rfl)
  intro g1 w1 hg1 hs1 hb1 B1
  have hb1 := hb1.mono (Nat.le_of_eq hg1.out.symm)
  have c1 := B1.cell (k := 0) rfl
  go_wp2_with fail
  (with_reducible refine (HL g1 _ c1).mono ?_)
  rintro e w2 ⟨rfl, hb2⟩
  have hbe := below_join hb1 hb2
  go_wp2
  go_ret
  exact ⟨rfl, hbe⟩
theorem run_b02 (w : World) (a : Int) (s : ByteArray) : (Instr.build 30 #[(0, .int .i64 a), (2, .string s)]).run Tryz.prog w = .ok (.agg #[.int .i64 a, .int .i64 0, .string s, .int .i64 0, .int .i64 0]) w := by kernel_rfl
theorem run_b012 (w : World) (a b : Int) (s : ByteArray) : (Instr.build 30 #[(0, .int .i64 a), (1, .int .i64 b), (2, .string s)]).run Tryz.prog w = .ok (.agg #[.int .i64 a, .int .i64 b, .string s, .int .i64 0, .int .i64 0]) w := by kernel_rfl
theorem run_b0 (w : World) (a : Int) : (Instr.build 30 #[(0, .int .i64 a)]).run Tryz.prog w = .ok (.agg #[.int .i64 a, .int .i64 0, .string ByteArray.empty, .int .i64 0, .int .i64 0]) w := by kernel_rfl
theorem run_bz (w : World) : (Instr.build 30 #[]).run Tryz.prog w = .ok (.agg #[.int .i64 0, .int .i64 0, .string ByteArray.empty, .int .i64 0, .int .i64 0]) w := by kernel_rfl
def rdE (a b : Int) (c : ByteArray) (ok : Bool) : Ending := .returned (.tuple #[.agg #[.int .i64 a, .int .i64 b, .string c, .int .i64 0, .int .i64 0], .bool ok])
theorem rdE_ok {a b : Int} {c : ByteArray} {p q : Bool} (h : p = q) : rdE a b c p = rdE a b c q := by rw [h]
theorem run_sz (s : ByteArray) : (s.extract 0 (runL s.data.toList)).size = runL s.data.toList := by
  rw [← bytes_size, cut_list]
  simp
  have := run_size s
  exact Nat.min_eq_left this
theorem odd_sz (s : ByteArray) : (s.extract 0 (oddL s.data.toList)).size = oddL s.data.toList := by
  rw [← bytes_size, cut_list]
  simp
  have := oddL_le s.data.toList
  rw [bytes_size] at this
  exact Nat.min_eq_left this
theorem cut_ls (s : ByteArray) (n : Nat) : (s.extract 0 n).data.toList = s.data.toList.take n := by rw [cut_list]; rfl
theorem run_head (s R : ByteArray) (hR : s.extract 0 (runL s.data.toList) = R) (h2 : 0 < R.size) : R[0]'h2 = s.data.toList.headD 0 := by
  subst hR
  have h : 0 < s.size := by have := run_sz s; have := run_size s; omega
  obtain ⟨l, hl⟩ := head_of s h
  rw [← byte_at _ h2]
  simp only [cut_ls]
  rw [List.getElem_take]
  simp [hl]
set_option maxRecDepth 100000 in
set_option maxHeartbeats 3200000 in
theorem rd0_any (s : ByteArray) (hs : s.size ≤ 140737488355328) (gw : Nat) (w : World) (cw : w.cell? ⟨gw, 0, none⟩ = some (.func (.func 47) #[] #[])) (hT : TT w) :
    Calls Tryz.prog 49 #[.string s, .pointer (some ⟨gw, 0, none⟩)] w fun e w' => e = rdE (kindM (s.data.toList.take (runL s.data.toList)) : Nat) 0 (s.extract 0 (runL s.data.toList)) (decide (0 < runL s.data.toList) && lo (s.data.toList.headD 0)) ∧ Below w.heap.size w w' := by
  have HWB := fun w => wbytes_any s hs w
  have hsz := run_sz s
  have hle := run_size s
  have hcl := cut_ls s (runL s.data.toList)
  obtain ⟨R, hR⟩ : ∃ R, s.extract 0 (runL s.data.toList) = R := ⟨_, rfl⟩
  have hh := run_head s R hR
  have HK := fun w hT => kind_any R w hT
  rw [← hR, hcl, hR] at HK
  obtain ⟨K, hK⟩ : ∃ K, kindM (s.data.toList.take (runL s.data.toList)) = K := ⟨_, rfl⟩
  rw [hK] at HK ⊢
  clear hK
  rw [hR] at HWB hsz ⊢
  obtain ⟨n, hn⟩ : ∃ n, runL s.data.toList = n := ⟨_, rfl⟩
  rw [hn] at hsz hle ⊢
  obtain ⟨b, hb⟩ : ∃ b, s.data.toList.headD 0 = b := ⟨_, rfl⟩
  rw [hb] at hh ⊢
  clear hb hn hR hcl
  have HL := fun w => letter_any b w
  obtain ⟨p, hp⟩ : ∃ p, lo b = p := ⟨_, rfl⟩
  rw [hp] at HL ⊢
  clear hp
  by_cases h0 : 0 < n
  · skip
    have hR0 : 0 < R.size := by omega
    have hR0i : (0 : Int) < (R.size : Int) := by omega
    have k1 := toList_ne hR0
    have k2 := isEmpty_ne hR0
    have k3 := hh hR0
    rw [decide_eq_true h0]
    clear hh
    have HT := Lib.hid hT
    have HC := Lib.hid cw
    clear hT cw
    go_enter Tryz.func49, Tryz.ntmps49
    go_wp2_with (with_reducible refine wpList_alloc (o := ⟨some 3, .alloc 30, _, _, _, _⟩) (by with_unfolding_all rfl) 30 (by with_unfolding_all rfl) (.agg #[.int .i64 0, .int .i64 0, .string ByteArray.empty, .int .i64 0, .int .i64 0]) [Value.int .i64 0, .int .i64 0, .string ByteArray.empty, .int .i64 0, .int .i64 0] (by exact Tryz.zeroTok) (by with_unfolding_all rfl) ?_)
    intro g3 w1 hg3 hs1 hb1 B3
    have hl3 : w.heap.size ≤ g3 := Nat.le_of_eq hg3.out.symm
    have hb1 := hb1.mono (Nat.le_of_eq hg3.out.symm)
    have hbe : Below w.heap.size w w1 := hb1
    clear hb1 hg3 hs1
    have cw := cellf_below hbe HC.out
    go_wp2_with fail
    (with_reducible refine (HWB _).mono ?_)
    rintro e w2 ⟨rfl, hb2⟩
    have B3 := B3.next hb2 B3.lt
    have hbe := below_join hbe hb2
    clear hb2
    clear cw
    go_wp2_with fail
    (with_reducible refine (HK _ (HT.out.next hbe)).mono ?_)
    rintro e w3 ⟨rfl, hb3⟩
    have B3 := B3.next hb3 B3.lt
    have hbe := below_join hbe hb3
    clear hb3
    go_wp2_with (first | (with_reducible refine wpList_build (o := ⟨some 12, .build 30 #[(0, .tmp 10), (2, .tmp 11)], _, _, _, _⟩) (by with_unfolding_all rfl) 30 #[(0, .tmp 10), (2, .tmp 11)] (by with_unfolding_all rfl) #[(0, .int .i64 (K : Int)), (2, .string R)] (by with_unfolding_all rfl) (.agg #[.int .i64 (K : Int), .int .i64 0, .string R, .int .i64 0, .int .i64 0]) (by with_unfolding_all exact fun w => (fun w => run_b02 w (K : Int) R) w) ?_))
    (with_reducible refine (HL _).mono ?_)
    rintro e w4 ⟨rfl, hb4⟩
    have B3 := B3.next hb4 B3.lt
    have hbe := below_join hbe hb4
    clear hb4
    go_wp2_with (with_reducible refine wpList_put (o := ⟨none, .store 30 (.tmp 3) (.tmp 12), _, _, _, _⟩) (by with_unfolding_all rfl) 30 (.tmp 3) (.tmp 12) (by with_unfolding_all rfl) g3 0 (by with_unfolding_all rfl) (.agg #[.int .i64 (K : Int), .int .i64 0, .string R, .int .i64 0, .int .i64 0]) (by with_unfolding_all rfl) B3 [Value.int .i64 (K : Int), .int .i64 0, .string R, .int .i64 0, .int .i64 0] (by with_unfolding_all rfl) (by with_unfolding_all (exact Tryz.szTok)) (by with_unfolding_all (exact Nat.le_refl 5)) (by with_unfolding_all (exact tok_one _ _ _ _ _)) ?_)
    intro w5 hu5 C3
    rw [splice_all _ _ (by rfl)] at C3
    have hbe := hbe.trans (hu5.below (B := w.heap.size) hl3)
    clear B3 hu5
    have B3 := C3
    clear C3
    go_wp2
    exact bodyPost_ret (results_cell_two rfl _ _ g3 _ _ _ _ _ rfl rfl B3 Tryz.underlying30 rfl Tryz.szTok) rfl ⟨rfl, hbe⟩
  · skip
    have k1 := toList_nil (s := R) (by omega)
    have k2 := isEmpty_nil (s := R) (by omega)
    rw [decide_eq_false h0]
    clear hh
    have HT := Lib.hid hT
    have HC := Lib.hid cw
    clear hT cw
    go_enter Tryz.func49, Tryz.ntmps49
    go_wp2_with (with_reducible refine wpList_alloc (o := ⟨some 3, .alloc 30, _, _, _, _⟩) (by with_unfolding_all rfl) 30 (by with_unfolding_all rfl) (.agg #[.int .i64 0, .int .i64 0, .string ByteArray.empty, .int .i64 0, .int .i64 0]) [Value.int .i64 0, .int .i64 0, .string ByteArray.empty, .int .i64 0, .int .i64 0] (by exact Tryz.zeroTok) (by with_unfolding_all rfl) ?_)
    intro g3 w1 hg3 hs1 hb1 B3
    have hl3 : w.heap.size ≤ g3 := Nat.le_of_eq hg3.out.symm
    have hb1 := hb1.mono (Nat.le_of_eq hg3.out.symm)
    have hbe : Below w.heap.size w w1 := hb1
    clear hb1 hg3 hs1
    have cw := cellf_below hbe HC.out
    go_wp2_with fail
    (with_reducible refine (HWB _).mono ?_)
    rintro e w2 ⟨rfl, hb2⟩
    have B3 := B3.next hb2 B3.lt
    have hbe := below_join hbe hb2
    clear hb2
    clear cw
    go_wp2_with fail
    (with_reducible refine (HK _ (HT.out.next hbe)).mono ?_)
    rintro e w3 ⟨rfl, hb3⟩
    have B3 := B3.next hb3 B3.lt
    have hbe := below_join hbe hb3
    clear hb3
    go_wp2_with (first | (with_reducible refine wpList_build (o := ⟨some 12, .build 30 #[(0, .tmp 10), (2, .tmp 11)], _, _, _, _⟩) (by with_unfolding_all rfl) 30 #[(0, .tmp 10), (2, .tmp 11)] (by with_unfolding_all rfl) #[(0, .int .i64 (K : Int)), (2, .string R)] (by with_unfolding_all rfl) (.agg #[.int .i64 (K : Int), .int .i64 0, .string R, .int .i64 0, .int .i64 0]) (by with_unfolding_all exact fun w => (fun w => run_b02 w (K : Int) R) w) ?_) | (with_reducible refine wpList_put (o := ⟨none, .store 30 (.tmp 3) (.tmp 12), _, _, _, _⟩) (by with_unfolding_all rfl) 30 (.tmp 3) (.tmp 12) (by with_unfolding_all rfl) g3 0 (by with_unfolding_all rfl) (.agg #[.int .i64 (K : Int), .int .i64 0, .string R, .int .i64 0, .int .i64 0]) (by with_unfolding_all rfl) B3 [Value.int .i64 (K : Int), .int .i64 0, .string R, .int .i64 0, .int .i64 0] (by with_unfolding_all rfl) (by with_unfolding_all (exact Tryz.szTok)) (by with_unfolding_all (exact Nat.le_refl 5)) (by with_unfolding_all (exact tok_one _ _ _ _ _)) ?_))
    intro w4 hu4 C3
    rw [splice_all _ _ (by rfl)] at C3
    have hbe := hbe.trans (hu4.below (B := w.heap.size) hl3)
    clear B3 hu4
    have B3 := C3
    clear C3
    go_wp2
    exact bodyPost_ret (results_cell_two rfl _ _ g3 _ _ _ _ _ rfl rfl B3 Tryz.underlying30 rfl Tryz.szTok) rfl ⟨rfl, hbe⟩
set_option maxRecDepth 100000 in
set_option maxHeartbeats 3200000 in
theorem rd2_any (s : ByteArray) (hs : s.size ≤ 140737488355328) (gw : Nat) (w : World) (cw : w.cell? ⟨gw, 0, none⟩ = some (.func (.func 47) #[] #[])) :
    Calls Tryz.prog 51 #[.string s, .pointer (some ⟨gw, 0, none⟩)] w fun e w' => e = rdE 5 0 (s.extract 0 (runL s.data.toList)) (decide (0 < runL s.data.toList) && dg (s.data.toList.headD 0)) ∧ Below w.heap.size w w' := by
  have HWB := fun w => wbytes_any s hs w
  have hsz := run_sz s
  have hle := run_size s
  have hcl := cut_ls s (runL s.data.toList)
  obtain ⟨R, hR⟩ : ∃ R, s.extract 0 (runL s.data.toList) = R := ⟨_, rfl⟩
  have hh := run_head s R hR
  rw [hR] at HWB hsz ⊢
  obtain ⟨n, hn⟩ : ∃ n, runL s.data.toList = n := ⟨_, rfl⟩
  rw [hn] at hsz hle ⊢
  obtain ⟨b, hb⟩ : ∃ b, s.data.toList.headD 0 = b := ⟨_, rfl⟩
  rw [hb] at hh ⊢
  clear hb hn hR hcl
  have HL := fun w => digit_any b w
  obtain ⟨p, hp⟩ : ∃ p, dg b = p := ⟨_, rfl⟩
  rw [hp] at HL ⊢
  clear hp
  by_cases h0 : 0 < n
  · skip
    have hR0 : 0 < R.size := by omega
    have hR0i : (0 : Int) < (R.size : Int) := by omega
    have k1 := toList_ne hR0
    have k2 := isEmpty_ne hR0
    have k3 := hh hR0
    rw [decide_eq_true h0]
    clear hh
    have HC := Lib.hid cw
    clear cw
    go_enter Tryz.func51, Tryz.ntmps51
    go_wp2_with (with_reducible refine wpList_alloc (o := ⟨some 3, .alloc 30, _, _, _, _⟩) (by with_unfolding_all rfl) 30 (by with_unfolding_all rfl) (.agg #[.int .i64 0, .int .i64 0, .string ByteArray.empty, .int .i64 0, .int .i64 0]) [Value.int .i64 0, .int .i64 0, .string ByteArray.empty, .int .i64 0, .int .i64 0] (by exact Tryz.zeroTok) (by with_unfolding_all rfl) ?_)
    intro g3 w1 hg3 hs1 hb1 B3
    have hl3 : w.heap.size ≤ g3 := Nat.le_of_eq hg3.out.symm
    have hb1 := hb1.mono (Nat.le_of_eq hg3.out.symm)
    have hbe : Below w.heap.size w w1 := hb1
    clear hb1 hg3 hs1
    have cw := cellf_below hbe HC.out
    go_wp2_with fail
    (with_reducible refine (HWB _).mono ?_)
    rintro e w2 ⟨rfl, hb2⟩
    have B3 := B3.next hb2 B3.lt
    have hbe := below_join hbe hb2
    clear hb2
    clear cw
    go_wp2_with (first | (with_reducible refine wpList_build (o := ⟨some 10, .build 30 #[(0, .const (.int .i64 5)), (2, .tmp 9)], _, _, _, _⟩) (by with_unfolding_all rfl) 30 #[(0, .const (.int .i64 5)), (2, .tmp 9)] (by with_unfolding_all rfl) #[(0, .int .i64 5), (2, .string R)] (by with_unfolding_all rfl) (.agg #[.int .i64 5, .int .i64 0, .string R, .int .i64 0, .int .i64 0]) (by with_unfolding_all exact fun w => (fun w => run_b02 w 5 R) w) ?_))
    (with_reducible refine (HL _).mono ?_)
    rintro e w3 ⟨rfl, hb3⟩
    have B3 := B3.next hb3 B3.lt
    have hbe := below_join hbe hb3
    clear hb3
    go_wp2_with (with_reducible refine wpList_put (o := ⟨none, .store 30 (.tmp 3) (.tmp 10), _, _, _, _⟩) (by with_unfolding_all rfl) 30 (.tmp 3) (.tmp 10) (by with_unfolding_all rfl) g3 0 (by with_unfolding_all rfl) (.agg #[.int .i64 5, .int .i64 0, .string R, .int .i64 0, .int .i64 0]) (by with_unfolding_all rfl) B3 [Value.int .i64 5, .int .i64 0, .string R, .int .i64 0, .int .i64 0] (by with_unfolding_all rfl) (by with_unfolding_all (exact Tryz.szTok)) (by with_unfolding_all (exact Nat.le_refl 5)) (by with_unfolding_all (exact tok_one _ _ _ _ _)) ?_)
    intro w4 hu4 C3
    rw [splice_all _ _ (by rfl)] at C3
    have hbe := hbe.trans (hu4.below (B := w.heap.size) hl3)
    clear B3 hu4
    have B3 := C3
    clear C3
    go_wp2
    exact bodyPost_ret (results_cell_two rfl _ _ g3 _ _ _ _ _ rfl rfl B3 Tryz.underlying30 rfl Tryz.szTok) rfl ⟨rfl, hbe⟩
  · skip
    have k1 := toList_nil (s := R) (by omega)
    have k2 := isEmpty_nil (s := R) (by omega)
    rw [decide_eq_false h0]
    clear hh
    have HC := Lib.hid cw
    clear cw
    go_enter Tryz.func51, Tryz.ntmps51
    go_wp2_with (with_reducible refine wpList_alloc (o := ⟨some 3, .alloc 30, _, _, _, _⟩) (by with_unfolding_all rfl) 30 (by with_unfolding_all rfl) (.agg #[.int .i64 0, .int .i64 0, .string ByteArray.empty, .int .i64 0, .int .i64 0]) [Value.int .i64 0, .int .i64 0, .string ByteArray.empty, .int .i64 0, .int .i64 0] (by exact Tryz.zeroTok) (by with_unfolding_all rfl) ?_)
    intro g3 w1 hg3 hs1 hb1 B3
    have hl3 : w.heap.size ≤ g3 := Nat.le_of_eq hg3.out.symm
    have hb1 := hb1.mono (Nat.le_of_eq hg3.out.symm)
    have hbe : Below w.heap.size w w1 := hb1
    clear hb1 hg3 hs1
    have cw := cellf_below hbe HC.out
    go_wp2_with fail
    (with_reducible refine (HWB _).mono ?_)
    rintro e w2 ⟨rfl, hb2⟩
    have B3 := B3.next hb2 B3.lt
    have hbe := below_join hbe hb2
    clear hb2
    clear cw
    go_wp2_with (first | (with_reducible refine wpList_build (o := ⟨some 10, .build 30 #[(0, .const (.int .i64 5)), (2, .tmp 9)], _, _, _, _⟩) (by with_unfolding_all rfl) 30 #[(0, .const (.int .i64 5)), (2, .tmp 9)] (by with_unfolding_all rfl) #[(0, .int .i64 5), (2, .string R)] (by with_unfolding_all rfl) (.agg #[.int .i64 5, .int .i64 0, .string R, .int .i64 0, .int .i64 0]) (by with_unfolding_all exact fun w => (fun w => run_b02 w 5 R) w) ?_) | (with_reducible refine wpList_put (o := ⟨none, .store 30 (.tmp 3) (.tmp 10), _, _, _, _⟩) (by with_unfolding_all rfl) 30 (.tmp 3) (.tmp 10) (by with_unfolding_all rfl) g3 0 (by with_unfolding_all rfl) (.agg #[.int .i64 5, .int .i64 0, .string R, .int .i64 0, .int .i64 0]) (by with_unfolding_all rfl) B3 [Value.int .i64 5, .int .i64 0, .string R, .int .i64 0, .int .i64 0] (by with_unfolding_all rfl) (by with_unfolding_all (exact Tryz.szTok)) (by with_unfolding_all (exact Nat.le_refl 5)) (by with_unfolding_all (exact tok_one _ _ _ _ _)) ?_))
    intro w3 hu3 C3
    rw [splice_all _ _ (by rfl)] at C3
    have hbe := hbe.trans (hu3.below (B := w.heap.size) hl3)
    clear B3 hu3
    have B3 := C3
    clear C3
    go_wp2
    exact bodyPost_ret (results_cell_two rfl _ _ g3 _ _ _ _ _ rfl rfl B3 Tryz.underlying30 rfl Tryz.szTok) rfl ⟨rfl, hbe⟩
set_option maxRecDepth 100000 in
set_option maxHeartbeats 3200000 in
theorem rd1_any (s : ByteArray) (hs : s.size ≤ 140737488355328) (gw : Nat) (w : World) (cw : w.cell? ⟨gw, 0, none⟩ = some (.func (.func 47) #[] #[])) :
    Calls Tryz.prog 50 #[.string s, .pointer (some ⟨gw, 0, none⟩)] w fun e w' => e = rdE 3 (((numM (s.data.toList.take (runL s.data.toList))).getD 0 : Nat) : Int) (s.extract 0 (runL s.data.toList)) (numM (s.data.toList.take (runL s.data.toList))).isSome ∧ Below w.heap.size w w' := by
  have HWB := fun w => wbytes_any s hs w
  have hsz := run_sz s
  have hle := run_size s
  have HN := fun w => number_any (s.extract 0 (runL s.data.toList)) w (by omega)
  rw [cut_ls s (runL s.data.toList)] at HN
  obtain ⟨R, hR⟩ : ∃ R, s.extract 0 (runL s.data.toList) = R := ⟨_, rfl⟩
  rw [hR] at HWB HN ⊢
  obtain ⟨V, hV⟩ : ∃ V, numM (s.data.toList.take (runL s.data.toList)) = V := ⟨_, rfl⟩
  rw [hV] at HN ⊢
  clear hV hR hsz hle
  have HC := Lib.hid cw
  clear cw
  cases V with
  | none =>
    simp only [numE_none, numE_some] at HN
    go_enter Tryz.func50, Tryz.ntmps50
    go_wp2_with (with_reducible refine wpList_alloc (o := ⟨some 3, .alloc 30, _, _, _, _⟩) (by with_unfolding_all rfl) 30 (by with_unfolding_all rfl) (.agg #[.int .i64 0, .int .i64 0, .string ByteArray.empty, .int .i64 0, .int .i64 0]) [Value.int .i64 0, .int .i64 0, .string ByteArray.empty, .int .i64 0, .int .i64 0] (by exact Tryz.zeroTok) (by with_unfolding_all rfl) ?_)
    intro g3 w1 hg3 hs1 hb1 B3
    have hl3 : w.heap.size ≤ g3 := Nat.le_of_eq hg3.out.symm
    have hb1 := hb1.mono (Nat.le_of_eq hg3.out.symm)
    have hbe : Below w.heap.size w w1 := hb1
    clear hb1 hg3 hs1
    have cw := cellf_below hbe HC.out
    go_wp2_with fail
    (with_reducible refine (HWB _).mono ?_)
    rintro e w2 ⟨rfl, hb2⟩
    have B3 := B3.next hb2 B3.lt
    have hbe := below_join hbe hb2
    clear hb2
    clear cw
    go_wp2_with fail
    (with_reducible refine (HN _).mono ?_)
    rintro e w3 ⟨rfl, hb3⟩
    have B3 := B3.next hb3 B3.lt
    have hbe := below_join hbe hb3
    clear hb3
    have cw := cellf_below hbe HC.out
    go_wp2_with fail
    (with_reducible refine (HWB _).mono ?_)
    rintro e w4 ⟨rfl, hb4⟩
    have B3 := B3.next hb4 B3.lt
    have hbe := below_join hbe hb4
    clear hb4
    clear cw
    go_wp2_with (first | (with_reducible refine wpList_build (o := ⟨some 18, .build 30 #[(0, .const (.int .i64 3)), (1, .tmp 14), (2, .tmp 17)], _, _, _, _⟩) (by with_unfolding_all rfl) 30 #[(0, .const (.int .i64 3)), (1, .tmp 14), (2, .tmp 17)] (by with_unfolding_all rfl) #[(0, .int .i64 3), (1, .int .i64 0), (2, .string R)] (by with_unfolding_all rfl) (.agg #[.int .i64 3, .int .i64 0, .string R, .int .i64 0, .int .i64 0]) (by with_unfolding_all exact fun w => (fun w => run_b012 w 3 0 R) w) ?_) | (with_reducible refine wpList_put (o := ⟨none, .store 30 (.tmp 3) (.tmp 18), _, _, _, _⟩) (by with_unfolding_all rfl) 30 (.tmp 3) (.tmp 18) (by with_unfolding_all rfl) g3 0 (by with_unfolding_all rfl) (.agg #[.int .i64 3, .int .i64 0, .string R, .int .i64 0, .int .i64 0]) (by with_unfolding_all rfl) B3 [Value.int .i64 3, .int .i64 0, .string R, .int .i64 0, .int .i64 0] (by with_unfolding_all rfl) (by with_unfolding_all (exact Tryz.szTok)) (by with_unfolding_all (exact Nat.le_refl 5)) (by with_unfolding_all (exact tok_one _ _ _ _ _)) ?_))
    intro w5 hu5 C3
    rw [splice_all _ _ (by rfl)] at C3
    have hbe := hbe.trans (hu5.below (B := w.heap.size) hl3)
    clear B3 hu5
    have B3 := C3
    clear C3
    go_wp2
    exact bodyPost_ret (results_cell_two rfl _ _ g3 _ _ _ _ _ rfl rfl B3 Tryz.underlying30 rfl Tryz.szTok) rfl ⟨rfl, hbe⟩
  | some n =>
    simp only [numE_none, numE_some] at HN
    go_enter Tryz.func50, Tryz.ntmps50
    go_wp2_with (with_reducible refine wpList_alloc (o := ⟨some 3, .alloc 30, _, _, _, _⟩) (by with_unfolding_all rfl) 30 (by with_unfolding_all rfl) (.agg #[.int .i64 0, .int .i64 0, .string ByteArray.empty, .int .i64 0, .int .i64 0]) [Value.int .i64 0, .int .i64 0, .string ByteArray.empty, .int .i64 0, .int .i64 0] (by exact Tryz.zeroTok) (by with_unfolding_all rfl) ?_)
    intro g3 w1 hg3 hs1 hb1 B3
    have hl3 : w.heap.size ≤ g3 := Nat.le_of_eq hg3.out.symm
    have hb1 := hb1.mono (Nat.le_of_eq hg3.out.symm)
    have hbe : Below w.heap.size w w1 := hb1
    clear hb1 hg3 hs1
    have cw := cellf_below hbe HC.out
    go_wp2_with fail
    (with_reducible refine (HWB _).mono ?_)
    rintro e w2 ⟨rfl, hb2⟩
    have B3 := B3.next hb2 B3.lt
    have hbe := below_join hbe hb2
    clear hb2
    clear cw
    go_wp2_with fail
    (with_reducible refine (HN _).mono ?_)
    rintro e w3 ⟨rfl, hb3⟩
    have B3 := B3.next hb3 B3.lt
    have hbe := below_join hbe hb3
    clear hb3
    have cw := cellf_below hbe HC.out
    go_wp2_with fail
    (with_reducible refine (HWB _).mono ?_)
    rintro e w4 ⟨rfl, hb4⟩
    have B3 := B3.next hb4 B3.lt
    have hbe := below_join hbe hb4
    clear hb4
    clear cw
    go_wp2_with (first | (with_reducible refine wpList_build (o := ⟨some 18, .build 30 #[(0, .const (.int .i64 3)), (1, .tmp 14), (2, .tmp 17)], _, _, _, _⟩) (by with_unfolding_all rfl) 30 #[(0, .const (.int .i64 3)), (1, .tmp 14), (2, .tmp 17)] (by with_unfolding_all rfl) #[(0, .int .i64 3), (1, .int .i64 (n : Int)), (2, .string R)] (by with_unfolding_all rfl) (.agg #[.int .i64 3, .int .i64 (n : Int), .string R, .int .i64 0, .int .i64 0]) (by with_unfolding_all exact fun w => (fun w => run_b012 w 3 (n : Int) R) w) ?_) | (with_reducible refine wpList_put (o := ⟨none, .store 30 (.tmp 3) (.tmp 18), _, _, _, _⟩) (by with_unfolding_all rfl) 30 (.tmp 3) (.tmp 18) (by with_unfolding_all rfl) g3 0 (by with_unfolding_all rfl) (.agg #[.int .i64 3, .int .i64 (n : Int), .string R, .int .i64 0, .int .i64 0]) (by with_unfolding_all rfl) B3 [Value.int .i64 3, .int .i64 (n : Int), .string R, .int .i64 0, .int .i64 0] (by with_unfolding_all rfl) (by with_unfolding_all (exact Tryz.szTok)) (by with_unfolding_all (exact Nat.le_refl 5)) (by with_unfolding_all (exact tok_one _ _ _ _ _)) ?_))
    intro w5 hu5 C3
    rw [splice_all _ _ (by rfl)] at C3
    have hbe := hbe.trans (hu5.below (B := w.heap.size) hl3)
    clear B3 hu5
    have B3 := C3
    clear C3
    go_wp2
    exact bodyPost_ret (results_cell_two rfl _ _ g3 _ _ _ _ _ rfl rfl B3 Tryz.underlying30 rfl Tryz.szTok) rfl ⟨rfl, hbe⟩
set_option maxRecDepth 100000 in
set_option maxHeartbeats 3200000 in
theorem rd3_any (s : ByteArray) (hs : s.size ≤ 140737488355328) (w : World) (hT : TT w) :
    Calls Tryz.prog 53 #[.string s] w fun e w' => e = rdE 4 0 (s.extract 0 (signL s.data.toList)) (decide (0 < signL s.data.toList)) ∧ Below w.heap.size w w' := by
  have HS := fun w hT => sign_any s w hT
  have hsz := sign_size s
  obtain ⟨R, hR⟩ : ∃ R, s.extract 0 (signL s.data.toList) = R := ⟨_, rfl⟩
  rw [hR] at HS hsz ⊢
  obtain ⟨n, hn⟩ : ∃ n, signL s.data.toList = n := ⟨_, rfl⟩
  rw [hn] at hsz ⊢
  clear hn hR
  have HT := Lib.hid hT
  clear hT
  by_cases h0 : 0 < n
  · skip
    have hR0 : 0 < R.size := by omega
    have k1 := toList_ne hR0
    have k2 := isEmpty_ne hR0
    rw [decide_eq_true h0]
    go_enter Tryz.func53, Tryz.ntmps53
    go_wp2_with (with_reducible refine wpList_alloc (o := ⟨some 2, .alloc 30, _, _, _, _⟩) (by with_unfolding_all rfl) 30 (by with_unfolding_all rfl) (.agg #[.int .i64 0, .int .i64 0, .string ByteArray.empty, .int .i64 0, .int .i64 0]) [Value.int .i64 0, .int .i64 0, .string ByteArray.empty, .int .i64 0, .int .i64 0] (by exact Tryz.zeroTok) (by with_unfolding_all rfl) ?_)
    intro g2 w1 hg2 hs1 hb1 B2
    have hl2 : w.heap.size ≤ g2 := Nat.le_of_eq hg2.out.symm
    have hb1 := hb1.mono (Nat.le_of_eq hg2.out.symm)
    have hbe : Below w.heap.size w w1 := hb1
    clear hb1 hg2 hs1
    go_wp2_with fail
    (with_reducible refine (HS _ (HT.out.next hbe)).mono ?_)
    rintro e w2 ⟨rfl, hb2⟩
    have B2 := B2.next hb2 B2.lt
    have hbe := below_join hbe hb2
    clear hb2
    go_wp2_with (first | (with_reducible refine wpList_build (o := ⟨some 8, .build 30 #[(0, .const (.int .i64 4)), (2, .tmp 7)], _, _, _, _⟩) (by with_unfolding_all rfl) 30 #[(0, .const (.int .i64 4)), (2, .tmp 7)] (by with_unfolding_all rfl) #[(0, .int .i64 4), (2, .string R)] (by with_unfolding_all rfl) (.agg #[.int .i64 4, .int .i64 0, .string R, .int .i64 0, .int .i64 0]) (by with_unfolding_all exact fun w => (fun w => run_b02 w 4 R) w) ?_) | (with_reducible refine wpList_put (o := ⟨none, .store 30 (.tmp 2) (.tmp 8), _, _, _, _⟩) (by with_unfolding_all rfl) 30 (.tmp 2) (.tmp 8) (by with_unfolding_all rfl) g2 0 (by with_unfolding_all rfl) (.agg #[.int .i64 4, .int .i64 0, .string R, .int .i64 0, .int .i64 0]) (by with_unfolding_all rfl) B2 [Value.int .i64 4, .int .i64 0, .string R, .int .i64 0, .int .i64 0] (by with_unfolding_all rfl) (by with_unfolding_all (exact Tryz.szTok)) (by with_unfolding_all (exact Nat.le_refl 5)) (by with_unfolding_all (exact tok_one _ _ _ _ _)) ?_))
    intro w3 hu3 C2
    rw [splice_all _ _ (by rfl)] at C2
    have hbe := hbe.trans (hu3.below (B := w.heap.size) hl2)
    clear B2 hu3
    have B2 := C2
    clear C2
    go_wp2
    exact bodyPost_ret (results_cell_two rfl _ _ g2 _ _ _ _ _ rfl rfl B2 Tryz.underlying30 rfl Tryz.szTok) rfl ⟨rfl, hbe⟩
  · skip
    have k1 := toList_nil (s := R) (by omega)
    have k2 := isEmpty_nil (s := R) (by omega)
    rw [decide_eq_false h0]
    go_enter Tryz.func53, Tryz.ntmps53
    go_wp2_with (with_reducible refine wpList_alloc (o := ⟨some 2, .alloc 30, _, _, _, _⟩) (by with_unfolding_all rfl) 30 (by with_unfolding_all rfl) (.agg #[.int .i64 0, .int .i64 0, .string ByteArray.empty, .int .i64 0, .int .i64 0]) [Value.int .i64 0, .int .i64 0, .string ByteArray.empty, .int .i64 0, .int .i64 0] (by exact Tryz.zeroTok) (by with_unfolding_all rfl) ?_)
    intro g2 w1 hg2 hs1 hb1 B2
    have hl2 : w.heap.size ≤ g2 := Nat.le_of_eq hg2.out.symm
    have hb1 := hb1.mono (Nat.le_of_eq hg2.out.symm)
    have hbe : Below w.heap.size w w1 := hb1
    clear hb1 hg2 hs1
    go_wp2_with fail
    (with_reducible refine (HS _ (HT.out.next hbe)).mono ?_)
    rintro e w2 ⟨rfl, hb2⟩
    have B2 := B2.next hb2 B2.lt
    have hbe := below_join hbe hb2
    clear hb2
    go_wp2_with (first | (with_reducible refine wpList_build (o := ⟨some 8, .build 30 #[(0, .const (.int .i64 4)), (2, .tmp 7)], _, _, _, _⟩) (by with_unfolding_all rfl) 30 #[(0, .const (.int .i64 4)), (2, .tmp 7)] (by with_unfolding_all rfl) #[(0, .int .i64 4), (2, .string R)] (by with_unfolding_all rfl) (.agg #[.int .i64 4, .int .i64 0, .string R, .int .i64 0, .int .i64 0]) (by with_unfolding_all exact fun w => (fun w => run_b02 w 4 R) w) ?_) | (with_reducible refine wpList_put (o := ⟨none, .store 30 (.tmp 2) (.tmp 8), _, _, _, _⟩) (by with_unfolding_all rfl) 30 (.tmp 2) (.tmp 8) (by with_unfolding_all rfl) g2 0 (by with_unfolding_all rfl) (.agg #[.int .i64 4, .int .i64 0, .string R, .int .i64 0, .int .i64 0]) (by with_unfolding_all rfl) B2 [Value.int .i64 4, .int .i64 0, .string R, .int .i64 0, .int .i64 0] (by with_unfolding_all rfl) (by with_unfolding_all (exact Tryz.szTok)) (by with_unfolding_all (exact Nat.le_refl 5)) (by with_unfolding_all (exact tok_one _ _ _ _ _)) ?_))
    intro w3 hu3 C2
    rw [splice_all _ _ (by rfl)] at C2
    have hbe := hbe.trans (hu3.below (B := w.heap.size) hl2)
    clear B2 hu3
    have B2 := C2
    clear C2
    go_wp2
    exact bodyPost_ret (results_cell_two rfl _ _ g2 _ _ _ _ _ rfl rfl B2 Tryz.underlying30 rfl Tryz.szTok) rfl ⟨rfl, hbe⟩
set_option maxRecDepth 100000 in
set_option maxHeartbeats 3200000 in
theorem rd4_any (s : ByteArray) (hs : s.size ≤ 140737488355328) (w : World) (hT : TT w) :
    Calls Tryz.prog 55 #[.string s] w fun e w' => e = rdE 5 0 (s.extract 0 (oddL s.data.toList)) (decide (0 < oddL s.data.toList)) ∧ Below w.heap.size w w' := by
  have HS := fun g w hg hT => lead_st1 s g hs w hg hT
  have hsz := odd_sz s
  obtain ⟨R, hR⟩ : ∃ R, s.extract 0 (oddL s.data.toList) = R := ⟨_, rfl⟩
  rw [hR] at HS hsz ⊢
  obtain ⟨n, hn⟩ : ∃ n, oddL s.data.toList = n := ⟨_, rfl⟩
  rw [hn] at hsz ⊢
  clear hn hR
  have HT := Lib.hid hT
  clear hT
  by_cases h0 : 0 < n
  · skip
    have hR0 : 0 < R.size := by omega
    have k1 := toList_ne hR0
    have k2 := isEmpty_ne hR0
    rw [decide_eq_true h0]
    go_enter Tryz.func55, Tryz.ntmps55
    go_wp2_with (with_reducible refine wpList_box (o := ⟨some 1, .box 9 (.tmp 0), _, _, _, _⟩) ?g1xa 9 (.tmp 0) ?o1xa (.string s) [.string s] ?x1xa ?c1xa ?_)
    try (case g1xa => rfl)
    try (case o1xa => rfl)
    try (case x1xa => rfl)
    try (case c1xa => rfl)
    intro g1 w1 hg1 hs1 hb1 B1
    have hl1 : w.heap.size ≤ g1 := Nat.le_of_eq hg1.out.symm
    have hb1 := hb1.mono (Nat.le_of_eq hg1.out.symm)
    have hbe : Below w.heap.size w w1 := hb1
    clear hb1 hg1 hs1
    go_wp2_with (with_reducible refine wpList_alloc (o := ⟨some 2, .alloc 30, _, _, _, _⟩) (by with_unfolding_all rfl) 30 (by with_unfolding_all rfl) (.agg #[.int .i64 0, .int .i64 0, .string ByteArray.empty, .int .i64 0, .int .i64 0]) [Value.int .i64 0, .int .i64 0, .string ByteArray.empty, .int .i64 0, .int .i64 0] (by exact Tryz.zeroTok) (by with_unfolding_all rfl) ?_)
    intro g2 w2 hg2 hs2 hb2 B2
    have hl2 : w.heap.size ≤ g2 := Nat.le_trans hbe.size (Nat.le_of_eq hg2.out.symm)
    have ne1_2 : g1 ≠ g2 := by have := B1.lt; have := hg2.out; omega
    have ne2_1 := ne1_2.symm
    have hb2 := hb2.mono (Nat.le_of_eq hg2.out.symm)
    have B1 := B1.next hb2 B1.lt
    have hbe := below_join hbe hb2
    clear hb2 hg2 hs2
    have z1_0 := B1.cell (k := 0) rfl
    go_wp2_with fail
    (with_reducible refine (HS g1 _ z1_0 (HT.out.next hbe)).mono ?_)
    rintro e w3 ⟨rfl, hb3⟩
    clear z1_0
    have B1 := B1.next hb3 B1.lt
    have B2 := B2.next hb3 B2.lt
    have hbe := below_join hbe hb3
    clear hb3
    go_wp2_with (first | (with_reducible refine wpList_build (o := ⟨some 9, .build 30 #[(0, .const (.int .i64 5)), (2, .tmp 8)], _, _, _, _⟩) (by with_unfolding_all rfl) 30 #[(0, .const (.int .i64 5)), (2, .tmp 8)] (by with_unfolding_all rfl) #[(0, .int .i64 5), (2, .string R)] (by with_unfolding_all rfl) (.agg #[.int .i64 5, .int .i64 0, .string R, .int .i64 0, .int .i64 0]) (by with_unfolding_all exact fun w => (fun w => run_b02 w 5 R) w) ?_) | (with_reducible refine wpList_put (o := ⟨none, .store 30 (.tmp 2) (.tmp 9), _, _, _, _⟩) (by with_unfolding_all rfl) 30 (.tmp 2) (.tmp 9) (by with_unfolding_all rfl) g2 0 (by with_unfolding_all rfl) (.agg #[.int .i64 5, .int .i64 0, .string R, .int .i64 0, .int .i64 0]) (by with_unfolding_all rfl) B2 [Value.int .i64 5, .int .i64 0, .string R, .int .i64 0, .int .i64 0] (by with_unfolding_all rfl) (by with_unfolding_all (exact Tryz.szTok)) (by with_unfolding_all (exact Nat.le_refl 5)) (by with_unfolding_all (exact tok_one _ _ _ _ _)) ?_))
    intro w4 hu4 C2
    rw [splice_all _ _ (by rfl)] at C2
    have B1 := B1.upd hu4 ne1_2
    have hbe := hbe.trans (hu4.below (B := w.heap.size) hl2)
    clear B2 hu4
    have B2 := C2
    clear C2
    go_wp2
    exact bodyPost_ret (results_cell_two rfl _ _ g2 _ _ _ _ _ rfl rfl B2 Tryz.underlying30 rfl Tryz.szTok) rfl ⟨rfl, hbe⟩
  · skip
    have k1 := toList_nil (s := R) (by omega)
    have k2 := isEmpty_nil (s := R) (by omega)
    rw [decide_eq_false h0]
    go_enter Tryz.func55, Tryz.ntmps55
    go_wp2_with (with_reducible refine wpList_box (o := ⟨some 1, .box 9 (.tmp 0), _, _, _, _⟩) ?g1xa 9 (.tmp 0) ?o1xa (.string s) [.string s] ?x1xa ?c1xa ?_)
    try (case g1xa => rfl)
    try (case o1xa => rfl)
    try (case x1xa => rfl)
    try (case c1xa => rfl)
    intro g1 w1 hg1 hs1 hb1 B1
    have hl1 : w.heap.size ≤ g1 := Nat.le_of_eq hg1.out.symm
    have hb1 := hb1.mono (Nat.le_of_eq hg1.out.symm)
    have hbe : Below w.heap.size w w1 := hb1
    clear hb1 hg1 hs1
    go_wp2_with (with_reducible refine wpList_alloc (o := ⟨some 2, .alloc 30, _, _, _, _⟩) (by with_unfolding_all rfl) 30 (by with_unfolding_all rfl) (.agg #[.int .i64 0, .int .i64 0, .string ByteArray.empty, .int .i64 0, .int .i64 0]) [Value.int .i64 0, .int .i64 0, .string ByteArray.empty, .int .i64 0, .int .i64 0] (by exact Tryz.zeroTok) (by with_unfolding_all rfl) ?_)
    intro g2 w2 hg2 hs2 hb2 B2
    have hl2 : w.heap.size ≤ g2 := Nat.le_trans hbe.size (Nat.le_of_eq hg2.out.symm)
    have ne1_2 : g1 ≠ g2 := by have := B1.lt; have := hg2.out; omega
    have ne2_1 := ne1_2.symm
    have hb2 := hb2.mono (Nat.le_of_eq hg2.out.symm)
    have B1 := B1.next hb2 B1.lt
    have hbe := below_join hbe hb2
    clear hb2 hg2 hs2
    have z1_0 := B1.cell (k := 0) rfl
    go_wp2_with fail
    (with_reducible refine (HS g1 _ z1_0 (HT.out.next hbe)).mono ?_)
    rintro e w3 ⟨rfl, hb3⟩
    clear z1_0
    have B1 := B1.next hb3 B1.lt
    have B2 := B2.next hb3 B2.lt
    have hbe := below_join hbe hb3
    clear hb3
    go_wp2_with (first | (with_reducible refine wpList_build (o := ⟨some 9, .build 30 #[(0, .const (.int .i64 5)), (2, .tmp 8)], _, _, _, _⟩) (by with_unfolding_all rfl) 30 #[(0, .const (.int .i64 5)), (2, .tmp 8)] (by with_unfolding_all rfl) #[(0, .int .i64 5), (2, .string R)] (by with_unfolding_all rfl) (.agg #[.int .i64 5, .int .i64 0, .string R, .int .i64 0, .int .i64 0]) (by with_unfolding_all exact fun w => (fun w => run_b02 w 5 R) w) ?_) | (with_reducible refine wpList_put (o := ⟨none, .store 30 (.tmp 2) (.tmp 9), _, _, _, _⟩) (by with_unfolding_all rfl) 30 (.tmp 2) (.tmp 9) (by with_unfolding_all rfl) g2 0 (by with_unfolding_all rfl) (.agg #[.int .i64 5, .int .i64 0, .string R, .int .i64 0, .int .i64 0]) (by with_unfolding_all rfl) B2 [Value.int .i64 5, .int .i64 0, .string R, .int .i64 0, .int .i64 0] (by with_unfolding_all rfl) (by with_unfolding_all (exact Tryz.szTok)) (by with_unfolding_all (exact Nat.le_refl 5)) (by with_unfolding_all (exact tok_one _ _ _ _ _)) ?_))
    intro w4 hu4 C2
    rw [splice_all _ _ (by rfl)] at C2
    have B1 := B1.upd hu4 ne1_2
    have hbe := hbe.trans (hu4.below (B := w.heap.size) hl2)
    clear B2 hu4
    have B2 := C2
    clear C2
    go_wp2
    exact bodyPost_ret (results_cell_two rfl _ _ g2 _ _ _ _ _ rfl rfl B2 Tryz.underlying30 rfl Tryz.szTok) rfl ⟨rfl, hbe⟩
set_option maxRecDepth 100000 in
set_option maxHeartbeats 3200000 in
theorem rd5_any (s : ByteArray) (hs : s.size ≤ 140737488355328) (w : World) :
    Calls Tryz.prog 58 #[.string s] w fun e w' => e = rdE 6 0 ByteArray.empty (decide (s.size = 0)) ∧ Below w.heap.size w w' := by
  by_cases h0 : s.size = 0
  · skip
    have k1 := toList_nil h0
    have k2 := isEmpty_nil h0
    rw [decide_eq_true h0]
    go_enter Tryz.func58, Tryz.ntmps58
    go_wp2_with (with_reducible refine wpList_alloc (o := ⟨some 2, .alloc 30, _, _, _, _⟩) (by with_unfolding_all rfl) 30 (by with_unfolding_all rfl) (.agg #[.int .i64 0, .int .i64 0, .string ByteArray.empty, .int .i64 0, .int .i64 0]) [Value.int .i64 0, .int .i64 0, .string ByteArray.empty, .int .i64 0, .int .i64 0] (by exact Tryz.zeroTok) (by with_unfolding_all rfl) ?_)
    intro g2 w1 hg2 hs1 hb1 B2
    have hl2 : w.heap.size ≤ g2 := Nat.le_of_eq hg2.out.symm
    have hb1 := hb1.mono (Nat.le_of_eq hg2.out.symm)
    have hbe : Below w.heap.size w w1 := hb1
    clear hb1 hg2 hs1
    go_wp2_with (first | (with_reducible refine wpList_build (o := ⟨some 4, .build 30 #[(0, .const (.int .i64 6))], _, _, _, _⟩) (by with_unfolding_all rfl) 30 #[(0, .const (.int .i64 6))] (by with_unfolding_all rfl) #[(0, .int .i64 6)] (by with_unfolding_all rfl) (.agg #[.int .i64 6, .int .i64 0, .string ByteArray.empty, .int .i64 0, .int .i64 0]) (by with_unfolding_all exact fun w => (fun w => run_b0 w 6) w) ?_) | (with_reducible refine wpList_put (o := ⟨none, .store 30 (.tmp 2) (.tmp 4), _, _, _, _⟩) (by with_unfolding_all rfl) 30 (.tmp 2) (.tmp 4) (by with_unfolding_all rfl) g2 0 (by with_unfolding_all rfl) (.agg #[.int .i64 6, .int .i64 0, .string ByteArray.empty, .int .i64 0, .int .i64 0]) (by with_unfolding_all rfl) B2 [Value.int .i64 6, .int .i64 0, .string ByteArray.empty, .int .i64 0, .int .i64 0] (by with_unfolding_all rfl) (by with_unfolding_all (exact Tryz.szTok)) (by with_unfolding_all (exact Nat.le_refl 5)) (by with_unfolding_all (exact tok_one _ _ _ _ _)) ?_))
    intro w2 hu2 C2
    rw [splice_all _ _ (by rfl)] at C2
    have hbe := hbe.trans (hu2.below (B := w.heap.size) hl2)
    clear B2 hu2
    have B2 := C2
    clear C2
    go_wp2
    exact bodyPost_ret (results_cell_two rfl _ _ g2 _ _ _ _ _ rfl rfl B2 Tryz.underlying30 rfl Tryz.szTok) rfl ⟨rfl, hbe⟩
  · skip
    have k1 := toList_ne (s := s) (by omega)
    have k2 := isEmpty_ne (s := s) (by omega)
    rw [decide_eq_false h0]
    go_enter Tryz.func58, Tryz.ntmps58
    go_wp2_with (with_reducible refine wpList_alloc (o := ⟨some 2, .alloc 30, _, _, _, _⟩) (by with_unfolding_all rfl) 30 (by with_unfolding_all rfl) (.agg #[.int .i64 0, .int .i64 0, .string ByteArray.empty, .int .i64 0, .int .i64 0]) [Value.int .i64 0, .int .i64 0, .string ByteArray.empty, .int .i64 0, .int .i64 0] (by exact Tryz.zeroTok) (by with_unfolding_all rfl) ?_)
    intro g2 w1 hg2 hs1 hb1 B2
    have hl2 : w.heap.size ≤ g2 := Nat.le_of_eq hg2.out.symm
    have hb1 := hb1.mono (Nat.le_of_eq hg2.out.symm)
    have hbe : Below w.heap.size w w1 := hb1
    clear hb1 hg2 hs1
    go_wp2_with (first | (with_reducible refine wpList_build (o := ⟨some 4, .build 30 #[(0, .const (.int .i64 6))], _, _, _, _⟩) (by with_unfolding_all rfl) 30 #[(0, .const (.int .i64 6))] (by with_unfolding_all rfl) #[(0, .int .i64 6)] (by with_unfolding_all rfl) (.agg #[.int .i64 6, .int .i64 0, .string ByteArray.empty, .int .i64 0, .int .i64 0]) (by with_unfolding_all exact fun w => (fun w => run_b0 w 6) w) ?_) | (with_reducible refine wpList_put (o := ⟨none, .store 30 (.tmp 2) (.tmp 4), _, _, _, _⟩) (by with_unfolding_all rfl) 30 (.tmp 2) (.tmp 4) (by with_unfolding_all rfl) g2 0 (by with_unfolding_all rfl) (.agg #[.int .i64 6, .int .i64 0, .string ByteArray.empty, .int .i64 0, .int .i64 0]) (by with_unfolding_all rfl) B2 [Value.int .i64 6, .int .i64 0, .string ByteArray.empty, .int .i64 0, .int .i64 0] (by with_unfolding_all rfl) (by with_unfolding_all (exact Tryz.szTok)) (by with_unfolding_all (exact Nat.le_refl 5)) (by with_unfolding_all (exact tok_one _ _ _ _ _)) ?_))
    intro w2 hu2 C2
    rw [splice_all _ _ (by rfl)] at C2
    have hbe := hbe.trans (hu2.below (B := w.heap.size) hl2)
    clear B2 hu2
    have B2 := C2
    clear C2
    go_wp2
    exact bodyPost_ret (results_cell_two rfl _ _ g2 _ _ _ _ _ rfl rfl B2 Tryz.underlying30 rfl Tryz.szTok) rfl ⟨rfl, hbe⟩
end Go.Proofs.YtcefaipjncohmaaGreatDoor
