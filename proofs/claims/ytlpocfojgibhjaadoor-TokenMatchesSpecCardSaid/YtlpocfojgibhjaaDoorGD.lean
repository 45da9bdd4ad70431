/-
  Contracts of the functions that the statement calls, part 4 of 13 (merged texts: Qb, Qd, Qe). Conditions: as the head of each part says.
-/
import Derived.BigQuiet
import Derived.Deep.MidRow
import Derived.Deep.QuietTactic
import Derived.Deep.RegionHeld
import Derived.Laws.BytesArg
import Derived.Laws.CopyOwn
import Derived.Laws.CopyRow
import Derived.Laws.Rows
import Derived.Laws.StructEq
import Derived.Laws.World
import Derived.Lib.BufferWrite
import Derived.Lib.Hide
import Derived.Outline
import Derived.StillTailTactics
import Derived.WalkKit
import Derived.WalkMore
import Derived.Laws.RangeAny
import Derived.Laws.Strings
import Derived.Test.YtlpocfojgibhjaaDoorRows
import Derived.Test.YtlpocfojgibhjaaDoorGA
import Derived.Test.YtlpocfojgibhjaaDoorGB
import Derived.Test.YtlpocfojgibhjaaDoorGC

/-
  Small laws that all walks over tokens use. No condition.
-/
namespace Go.Proofs.YtlpocfojgibhjaaDoor
set_option linter.unusedVariables false
set_option linter.unusedSimpArgs false
open Go.RowKit

theorem below_join {a b c : World} (h : Below a.heap.size a b) (k : Below b.heap.size b c) : Below a.heap.size a c := h.trans (k.mono h.size)
theorem below_drew (w : World) : Below w.heap.size w w.drew := (Below.refl _ _).drew
theorem below_drewN (w : World) (n : Nat) : Below w.heap.size w (w.drewN n) := ⟨rfl, rfl, rfl, Nat.le_refl _, fun _ _ => rfl⟩
theorem cellf_below {w w' : World} {p : Addr} {v : Value} (hb : Below w.heap.size w w') (h : w.cell? p = some v) : w'.cell? p = some v := by
  rw [hb.cell (World.block_lt_of_cell? w _ h)]; exact h
theorem bytes_inj {s t : ByteArray} (h : s.toList = t.toList) : s = t := by
  rw [ByteArray.toList_eq, ByteArray.toList_eq] at h
  cases s; cases t
  congr 1
  exact Array.toList_inj.1 h
theorem data_inj {s t : ByteArray} (h : s.data.toList = t.data.toList) : s = t := by
  cases s; cases t
  congr 1
  exact Array.toList_inj.1 h
theorem beq_bytes {s t : ByteArray} (h : s ≠ t) : (s.toList == t.toList) = false := beq_eq_false_iff_ne.2 fun e => h (bytes_inj e)
theorem beq_same {s t : ByteArray} (h : s = t) : (s.toList == t.toList) = true := by rw [h]; exact beq_self_eq_true _
theorem bytes_size (s : ByteArray) : s.data.toList.length = s.size := by cases s; simp [ByteArray.size]
theorem cut_list (s : ByteArray) (a b : Nat) : (s.extract a b).data.toList = (s.data.toList.take b).drop a := by
  rw [ByteArray.data_extract, Array.toList_extract, List.extract_eq_take_drop, List.drop_take]
theorem toList_nil {s : ByteArray} (h : s.size = 0) : s.toList = [] := by
  rw [ByteArray.toList_eq]
  exact List.eq_nil_of_length_eq_zero (by rw [bytes_size]; exact h)
theorem toList_ne {s : ByteArray} (h : 0 < s.size) : ¬ s.toList = [] := fun e => by
  have := bytes_size s
  rw [ByteArray.toList_eq] at e
  rw [e] at this
  simp at this
  omega
theorem isEmpty_nil {s : ByteArray} (h : s.size = 0) : s.toList.isEmpty = true := by rw [toList_nil h]; rfl
theorem isEmpty_ne {s : ByteArray} (h : 0 < s.size) : s.toList.isEmpty = false := by
  cases hc : s.toList.isEmpty with
  | false => rfl
  | true => exact absurd (List.isEmpty_iff.1 hc) (toList_ne h)
theorem results_cell_two {P : Program} {fn : Func} {p q : Tmp} {ty : TypeId} (h : fn.results = #[.cell p ty, .tmp q]) (tmps : Array Value) (w : World) (g : Nat) (t : TypeId) (cs : Array Value) (fr : Nat × Nat) (d : TypeDesc) (v : Value)
    (hp : tmps.getD p undef = .pointer (some ⟨g, 0, none⟩)) (hq : tmps.getD q undef = v) (hg : w.heap[g]? = some (.cells cs t fr))
    (hu : P.underlying ty = some d) (hd : (match d with | .struct _ | .array _ _ => true | _ => false) = true) (hi : (P.info? ty).map (·.size) = some cs.size) :
    (results fn tmps).run P w = .ok (.tuple #[.agg cs, v]) w := by
  have hp' : tmps[p]?.getD undef = .pointer (some ⟨g, 0, none⟩) := by simpa using hp
  have hq' : tmps[q]?.getD undef = v := by simpa using hq
  simp [results, h, hp', hq', asAddr, run_loadVar_row w g t ty cs fr d hg hu hd hi]
theorem tok_one (a b : Int) (c : ByteArray) (d e : Int) : ∀ u ∈ [Value.int .i64 a, .int .i64 b, .string c, .int .i64 d, .int .i64 e], u.oneCell' = true := by
  intro u hu
  simp at hu
  rcases hu with rfl | rfl | rfl | rfl | rfl <;> rfl
theorem one_cell1 {v : Value} (h : v.oneCell' = true) : ∀ u ∈ [v], u.oneCell' = true := by
  intro u hu; simp at hu; subst hu; exact h
theorem cs_all (l : List Value) : (l.drop 0).take l.length = l := by simp
theorem Tryd.szInt : (Tryd.prog.info? 3).map (·.size) = some 1 := by kernel_rfl
theorem Tryd.szBool : (Tryd.prog.info? 4).map (·.size) = some 1 := by kernel_rfl
theorem Tryd.szStr : (Tryd.prog.info? 9).map (·.size) = some 1 := by kernel_rfl
theorem Tryd.szTok : (Tryd.prog.info? 37).map (·.size) = some 5 := by kernel_rfl
theorem Tryd.zeroTok : (Tryd.prog.info? 37).map (·.zero) = some (some (.agg #[.int .i64 0, .int .i64 0, .string ByteArray.empty, .int .i64 0, .int .i64 0])) := by kernel_rfl
theorem Tryd.zeroBool : (Tryd.prog.info? 4).map (·.zero) = some (some (.bool false)) := by kernel_rfl
end Go.Proofs.YtlpocfojgibhjaaDoor

/-
  Contracts of the walks over the small functions on bytes. No condition.
-/
namespace Go.Proofs.YtlpocfojgibhjaaDoor
set_option linter.unusedVariables false
set_option linter.unusedSimpArgs false
open Go.RowKit

theorem letter_any (b : UInt8) (w : World) : Calls Tryd.prog 41 #[.int .u8 (b.toNat : Int)] w fun e w' => e = .returned (.bool (lo b)) ∧ Below w.heap.size w w' := by
  obtain ⟨n, hn⟩ : ∃ n : Nat, b.toNat = n := ⟨_, rfl⟩
  have hr : lo b = (decide (97 ≤ n) && decide (n ≤ 122)) := by unfold lo; rw [hn]
  rw [hr, hn]
  clear hr hn
  have h1 : decide ((97 : Int) ≤ (n : Int)) = decide (97 ≤ n) := by by_cases h : 97 ≤ n <;> simp [h] <;> omega
  have h2 : decide ((n : Int) ≤ 122) = decide (n ≤ 122) := by by_cases h : n ≤ 122 <;> simp [h] <;> omega
  obtain ⟨p, hp⟩ : ∃ p, decide (97 ≤ n) = p := ⟨_, rfl⟩
  obtain ⟨q, hq⟩ : ∃ q, decide (n ≤ 122) = q := ⟨_, rfl⟩
  rw [hp] at h1 ⊢
  rw [hq] at h2 ⊢
  clear hp hq
  cases p
  all_goals
    go_enter Tryd.func41, Tryd.ntmps41
    go_wp2
    go_ret
    exact ⟨rfl, Below.refl _ _⟩
theorem digit_any (b : UInt8) (w : World) : Calls Tryd.prog 62 #[.int .u8 (b.toNat : Int)] w fun e w' => e = .returned (.bool (dg b)) ∧ Below w.heap.size w w' := by
  obtain ⟨n, hn⟩ : ∃ n : Nat, b.toNat = n := ⟨_, rfl⟩
  have hr : dg b = (decide (48 ≤ n) && decide (n ≤ 57)) := by unfold dg; rw [hn]
  rw [hr, hn]
  clear hr hn
  have h1 : decide ((48 : Int) ≤ (n : Int)) = decide (48 ≤ n) := by by_cases h : 48 ≤ n <;> simp [h] <;> omega
  have h2 : decide ((n : Int) ≤ 57) = decide (n ≤ 57) := by by_cases h : n ≤ 57 <;> simp [h] <;> omega
  obtain ⟨p, hp⟩ : ∃ p, decide (48 ≤ n) = p := ⟨_, rfl⟩
  obtain ⟨q, hq⟩ : ∃ q, decide (n ≤ 57) = q := ⟨_, rfl⟩
  rw [hp] at h1 ⊢
  rw [hq] at h2 ⊢
  clear hp hq
  cases p
  all_goals
    go_enter Tryd.func62, Tryd.ntmps62
    go_wp2
    go_ret
    exact ⟨rfl, Below.refl _ _⟩
theorem wordByte_any (b : UInt8) (w : World) : Calls Tryd.prog 45 #[.int .u8 (b.toNat : Int)] w fun e w' => e = .returned (.bool (wb b)) ∧ Below w.heap.size w w' := by
  have HL := fun w => letter_any b w
  have HD := fun w => digit_any b w
  obtain ⟨p, hp⟩ : ∃ p, lo b = p := ⟨_, rfl⟩
  obtain ⟨q, hq⟩ : ∃ q, dg b = q := ⟨_, rfl⟩
  obtain ⟨n, hn⟩ : ∃ n : Nat, b.toNat = n := ⟨_, rfl⟩
  have hr : wb b = (p || q || decide (n = 95)) := by unfold wb; rw [hp, hq, hn]
  rw [hr, hn]
  rw [hn] at HL HD
  rw [hp] at HL
  rw [hq] at HD
  clear hr hn hp hq
  have h1 : ((n : Int) == 95) = decide (n = 95) := by by_cases h : n = 95 <;> simp [h] <;> omega
  cases p
  · cases q
    · go_enter Tryd.func45, Tryd.ntmps45
      go_wp2_with fail
      (with_reducible refine (HL _).mono ?_)
      rintro e w1 ⟨rfl, hb1⟩
      go_wp2_with fail
      (with_reducible refine (HD _).mono ?_)
      rintro e w2 ⟨rfl, hb2⟩
      go_wp2
      go_ret
      exact ⟨by simp [h1], below_join hb1 hb2⟩
    · go_enter Tryd.func45, Tryd.ntmps45
      go_wp2_with fail
      (with_reducible refine (HL _).mono ?_)
      rintro e w1 ⟨rfl, hb1⟩
      go_wp2_with fail
      (with_reducible refine (HD _).mono ?_)
      rintro e w2 ⟨rfl, hb2⟩
      go_wp2
      go_ret
      exact ⟨rfl, below_join hb1 hb2⟩
  · go_enter Tryd.func45, Tryd.ntmps45
    go_wp2_with fail
    (with_reducible refine (HL _).mono ?_)
    rintro e w1 ⟨rfl, hb1⟩
    go_wp2
    go_ret
    exact ⟨rfl, hb1⟩
end Go.Proofs.YtlpocfojgibhjaaDoor

/-
  Contracts of the walks over the closures that ask for word bytes, and over leading with them. Conditions: the captured text lies there.
-/
namespace Go.Proofs.YtlpocfojgibhjaaDoor
set_option linter.unusedVariables false
set_option linter.unusedSimpArgs false
open Go.RowKit

theorem runL_get : ∀ (l : List UInt8) (j : Nat) (h : j < l.length), j < runL l → wb l[j] = true
  | b :: l, 0, _, hr => by
    rw [runL_cons] at hr
    split at hr
    · assumption
    · omega
  | b :: l, j + 1, h, hr => by
    rw [runL_cons] at hr
    split at hr
    · exact runL_get l j (by simpa using h) (by omega)
    · omega
theorem runL_stop2 : ∀ (l : List UInt8) (h : runL l < l.length), wb l[runL l] = false
  | [], h => by simp at h
  | b :: l, h => by
    by_cases hw : wb b = true
    · have e : runL (b :: l) = runL l + 1 := by rw [runL_cons, if_pos hw]
      have h' : runL l < l.length := by rw [e] at h; simpa using h
      have := runL_stop2 l h'
      simpa [e] using this
    · have e : runL (b :: l) = 0 := by rw [runL_cons, if_neg hw]
      simpa [e] using hw
theorem byte_at (s : ByteArray) {k : Nat} (h : k < s.size) : s.data.toList[k]'(by rw [bytes_size]; exact h) = s[k] := by
  cases s; rfl
theorem run_at (s : ByteArray) {k : Nat} (h : k < s.size) (hk : k < runL s.data.toList) : wb (s[k]) = true := by
  rw [← byte_at s h]; exact runL_get _ _ _ hk
theorem run_end (s : ByteArray) {k : Nat} (h : k < s.size) (hk : k = runL s.data.toList) : wb (s[k]) = false := by
  rw [← byte_at s h]
  subst hk
  exact runL_stop2 _ _
theorem run_size (s : ByteArray) : runL s.data.toList ≤ s.size := by rw [← bytes_size]; exact runL_le _
def LeadRel (n : Nat) (w : World) (i : Value) (wr : World) : Prop := ∃ k : Nat, k ≤ n ∧ i = .int .i64 (k : Int) ∧ Below w.heap.size w wr
set_option maxRecDepth 100000 in
set_option maxHeartbeats 1600000 in
theorem rb1_any (s : ByteArray) (g k : Nat) (hk : k < s.size) (hs : s.size ≤ 140737488355328) (w : World) (hg : w.cell? ⟨g, 0, none⟩ = some (.string s)) :
    Calls Tryd.prog 58 #[.int .i64 (k : Int), .pointer (some ⟨g, 0, none⟩)] w fun e w' => e = .returned (.bool (wb (s[k]'hk))) ∧ Below w.heap.size w w' := by
  obtain ⟨b, hb⟩ : ∃ b, s[k]'hk = b := ⟨_, rfl⟩
  have HW := fun w => wordByte_any b w
  obtain ⟨p, hp⟩ : ∃ p, wb b = p := ⟨_, rfl⟩
  rw [hb, hp]
  rw [hp] at HW
  clear hp
  have h1 : (k : Int) < (s.size : Int) := by omega
  have h2 : (0 : Int) ≤ (k : Int) := by omega
  go_enter Tryd.func58, Tryd.ntmps58
  go_wp2_with fail
  (with_reducible refine (HW _).mono ?_)
  rintro e w1 ⟨rfl, hb1⟩
  go_wp2
  go_ret
  exact ⟨rfl, hb1⟩
set_option maxRecDepth 100000 in
set_option maxHeartbeats 1600000 in
theorem lead_rb1 (s : ByteArray) (g : Nat) (hs : s.size ≤ 140737488355328) (w : World) (hg : w.cell? ⟨g, 0, none⟩ = some (.string s)) :
    Calls Tryd.prog 43 #[.string s, .func (.func 58) #[] #[.pointer (some ⟨g, 0, none⟩)]] w fun e w' => e = .returned (.string (s.extract 0 (runL s.data.toList))) ∧ Below w.heap.size w w' := by
  have hle := run_size s
  have hAt := fun k (h : k < s.size) (hk : k < runL s.data.toList) => run_at s h hk
  have hEnd := fun k (h : k < s.size) (hk : k = runL s.data.toList) => run_end s h hk
  obtain ⟨n, hn⟩ : ∃ n, runL s.data.toList = n := ⟨_, rfl⟩
  rw [hn] at hle hAt hEnd ⊢
  clear hn
  have HA := Lib.hid hAt
  have HE := Lib.hid hEnd
  have HG := Lib.hid hg
  clear hAt hEnd hg
  have hni : (n : Int) ≤ (s.size : Int) := by omega
  have hn0 : (0 : Int) ≤ (n : Int) := by omega
  go_enter Tryd.func43, Tryd.ntmps43
  go_wp2
  go_loopw [5] (LeadRel n w) (fun i _ => n - (intOf i).toNat)
  case atStart => exact ⟨0, Nat.zero_le _, rfl, Below.refl _ _⟩
  case round =>
    obtain ⟨k, hk, rfl, hbe⟩ := hrel
    by_cases hlt : k < n
    · have hks : k < s.size := by omega
      have hki : (k : Int) < (s.size : Int) := by omega
      have HW := rb1_any s g k hks hs wr (cellf_below hbe HG.out)
      rw [HA.out k hks hlt] at HW
      go_wp2_with fail
      (with_reducible refine HW.mono ?_)
      rintro e w2 ⟨rfl, hb2⟩
      have hbe := below_join hbe hb2
      clear hb2 HW
      go_wp2
      go_roundw
      case rel => exact ⟨k + 1, hlt, by go_num, hbe⟩
      case measure => simp [intOf]; omega
    · have hkn : k = n := by omega
      subst hkn
      by_cases hks : k < s.size
      · have hki : (k : Int) < (s.size : Int) := by omega
        have HW := rb1_any s g k hks hs wr (cellf_below hbe HG.out)
        rw [HE.out k hks rfl] at HW
        go_wp2_with fail
        (with_reducible refine HW.mono ?_)
        rintro e w2 ⟨rfl, hb2⟩
        have hbe := below_join hbe hb2
        clear hb2 HW
        go_wp2
        go_ret
        exact ⟨rfl, hbe⟩
      · have hki : ¬ (k : Int) < (s.size : Int) := by omega
        go_wp2
        go_ret
        exact ⟨rfl, hbe⟩
set_option maxRecDepth 100000 in
set_option maxHeartbeats 1600000 in
theorem nb1_any (s : ByteArray) (g k : Nat) (hk : k < s.size) (hs : s.size ≤ 140737488355328) (w : World) (hg : w.cell? ⟨g, 0, none⟩ = some (.string s)) :
    Calls Tryd.prog 44 #[.int .i64 (k : Int), .pointer (some ⟨g, 0, none⟩)] w fun e w' => e = .returned (.bool (wb (s[k]'hk))) ∧ Below w.heap.size w w' := by
  obtain ⟨b, hb⟩ : ∃ b, s[k]'hk = b := ⟨_, rfl⟩
  have HW := fun w => wordByte_any b w
  obtain ⟨p, hp⟩ : ∃ p, wb b = p := ⟨_, rfl⟩
  rw [hb, hp]
  rw [hp] at HW
  clear hp
  have h1 : (k : Int) < (s.size : Int) := by omega
  have h2 : (0 : Int) ≤ (k : Int) := by omega
  go_enter Tryd.func44, Tryd.ntmps44
  go_wp2_with fail
  (with_reducible refine (HW _).mono ?_)
  rintro e w1 ⟨rfl, hb1⟩
  go_wp2
  go_ret
  exact ⟨rfl, hb1⟩
set_option maxRecDepth 100000 in
set_option maxHeartbeats 1600000 in
theorem lead_nb1 (s : ByteArray) (g : Nat) (hs : s.size ≤ 140737488355328) (w : World) (hg : w.cell? ⟨g, 0, none⟩ = some (.string s)) :
    Calls Tryd.prog 43 #[.string s, .func (.func 44) #[] #[.pointer (some ⟨g, 0, none⟩)]] w fun e w' => e = .returned (.string (s.extract 0 (runL s.data.toList))) ∧ Below w.heap.size w w' := by
  have hle := run_size s
  have hAt := fun k (h : k < s.size) (hk : k < runL s.data.toList) => run_at s h hk
  have hEnd := fun k (h : k < s.size) (hk : k = runL s.data.toList) => run_end s h hk
  obtain ⟨n, hn⟩ : ∃ n, runL s.data.toList = n := ⟨_, rfl⟩
  rw [hn] at hle hAt hEnd ⊢
  clear hn
  have HA := Lib.hid hAt
  have HE := Lib.hid hEnd
  have HG := Lib.hid hg
  clear hAt hEnd hg
  have hni : (n : Int) ≤ (s.size : Int) := by omega
  have hn0 : (0 : Int) ≤ (n : Int) := by omega
  go_enter Tryd.func43, Tryd.ntmps43
  go_wp2
  go_loopw [5] (LeadRel n w) (fun i _ => n - (intOf i).toNat)
  case atStart => exact ⟨0, Nat.zero_le _, rfl, Below.refl _ _⟩
  case round =>
    obtain ⟨k, hk, rfl, hbe⟩ := hrel
    by_cases hlt : k < n
    · have hks : k < s.size := by omega
      have hki : (k : Int) < (s.size : Int) := by omega
      have HW := nb1_any s g k hks hs wr (cellf_below hbe HG.out)
      rw [HA.out k hks hlt] at HW
      go_wp2_with fail
      (with_reducible refine HW.mono ?_)
      rintro e w2 ⟨rfl, hb2⟩
      have hbe := below_join hbe hb2
      clear hb2 HW
      go_wp2
      go_roundw
      case rel => exact ⟨k + 1, hlt, by go_num, hbe⟩
      case measure => simp [intOf]; omega
    · have hkn : k = n := by omega
      subst hkn
      by_cases hks : k < s.size
      · have hki : (k : Int) < (s.size : Int) := by omega
        have HW := nb1_any s g k hks hs wr (cellf_below hbe HG.out)
        rw [HE.out k hks rfl] at HW
        go_wp2_with fail
        (with_reducible refine HW.mono ?_)
        rintro e w2 ⟨rfl, hb2⟩
        have hbe := below_join hbe hb2
        clear hb2 HW
        go_wp2
        go_ret
        exact ⟨rfl, hbe⟩
      · have hki : ¬ (k : Int) < (s.size : Int) := by omega
        go_wp2
        go_ret
        exact ⟨rfl, hbe⟩
end Go.Proofs.YtlpocfojgibhjaaDoor
