/-
  Contracts of the walks over the closures that ask for word bytes, and over leading with them. Conditions: the captured text lies there.
-/
import Derived.Test.YtcefaipjncohmaaGreatDoorQd
namespace Go.Proofs.YtcefaipjncohmaaGreatDoor
set_option linter.unusedVariables false
set_option linter.unusedSimpArgs false
open Go.RowKit

theorem runL_get : ∀ (l : List UInt8) (j : Nat) (h : j < l.length), j < runL l → wb l[j] = true
  | b :: l, 0, _, hr => by
    rw [runL_cons] at hr
    split at hr
    · assumption
    · omega
  | b :: l, j + 1, h, hr => by
    rw [runL_cons] at hr
    split at hr
    · exact runL_get l j (by simpa using h) (by omega)
    · omega
theorem runL_stop2 : ∀ (l : List UInt8) (h : runL l < l.length), wb l[runL l] = false
  | [], h => by simp at h
  | b :: l, h => by
    by_cases hw : wb b = true
    · have e : runL (b :: l) = runL l + 1 := by rw [runL_cons, if_pos hw]
      have h' : runL l < l.length := by rw [e] at h; simpa using h
      have := runL_stop2 l h'
      simpa [e] using this
    · have e : runL (b :: l) = 0 := by rw [runL_cons, if_neg hw]
      simpa [e] using hw
theorem byte_at (s : ByteArray) {k : Nat} (h : k < s.size) : s.data.toList[k]'(by rw [bytes_size]; exact h) = s[k] := by
  cases s; rfl
theorem run_at (s : ByteArray) {k : Nat} (h : k < s.size) (hk : k < runL s.data.toList) : wb (s[k]) = true := by
  rw [← byte_at s h]; exact runL_get _ _ _ hk
theorem run_end (s : ByteArray) {k : Nat} (h : k < s.size) (hk : k = runL s.data.toList) : wb (s[k]) = false := by
  rw [← byte_at s h]
  subst hk
  exact runL_stop2 _ _
theorem run_size (s : ByteArray) : runL s.data.toList ≤ s.size := by rw [← bytes_size]; exact runL_le _
def LeadRel (n : Nat) (w : World) (i : Value) (wr : World) : Prop := ∃ k : Nat, k ≤ n ∧ i = .int .i64 (k : Int) ∧ Below w.heap.size w wr
set_option maxRecDepth 100000 in
set_option maxHeartbeats 1600000 in
theorem rb1_any (s : ByteArray) (g k : Nat) (hk : k < s.size) (hs : s.size ≤ 140737488355328) (w : World) (hg : w.cell? ⟨g, 0, none⟩ = some (.string s)) :
    Calls Tryz.prog 48 #[.int .i64 (k : Int), .pointer (some ⟨g, 0, none⟩)] w fun e w' => e = .returned (.bool (wb (s[k]'hk))) ∧ Below w.heap.size w w' := by
  obtain ⟨b, hb⟩ : ∃ b, s[k]'hk = b := ⟨_, rfl⟩
  have HW := fun w => wordByte_any b w
  obtain ⟨p, hp⟩ : ∃ p, wb b = p := ⟨_, rfl⟩
  rw [hb, hp]
  rw [hp] at HW
  clear hp
  have h1 : (k : Int) < (s.size : Int) := by omega
  have h2 : (0 : Int) ≤ (k : Int) := by omega
  go_enter Tryz.func48, Tryz.ntmps48
  go_wp2_with fail
  (with_reducible refine (HW _).mono ?_)
  rintro e w1 ⟨rfl, hb1⟩
  go_wp2
  go_ret
  exact ⟨rfl, hb1⟩
set_option maxRecDepth 100000 in
set_option maxHeartbeats 1600000 in
theorem lead_rb1 (s : ByteArray) (g : Nat) (hs : s.size ≤ 140737488355328) (w : World) (hg : w.cell? ⟨g, 0, none⟩ = some (.string s)) :
    Calls Tryz.prog 44 #[.string s, .func (.func 48) #[] #[.pointer (some ⟨g, 0, none⟩)]] w fun e w' => e = .returned (.string (s.extract 0 (runL s.data.toList))) ∧ Below w.heap.size w w' := by
  have hle := run_size s
  have hAt := fun k (h : k < s.size) (hk : k < runL s.data.toList) => run_at s h hk
  have hEnd := fun k (h : k < s.size) (hk : k = runL s.data.toList) => run_end s h hk
  obtain ⟨n, hn⟩ : ∃ n, runL s.data.toList = n := ⟨_, rfl⟩
  rw [hn] at hle hAt hEnd ⊢
  clear hn
  have HA := Lib.hid hAt
  have HE := Lib.hid hEnd
  have HG := Lib.hid hg
  clear hAt hEnd hg
  have hni : (n : Int) ≤ (s.size : Int) := by omega
  have hn0 : (0 : Int) ≤ (n : Int) := by omega
  go_enter Tryz.func44, Tryz.ntmps44
  go_wp2
  go_loopw [5] (LeadRel n w) (fun i _ => n - (intOf i).toNat)
  case atStart => exact ⟨0, Nat.zero_le _, rfl, Below.refl _ _⟩
  case round =>
    obtain ⟨k, hk, rfl, hbe⟩ := hrel
    by_cases hlt : k < n
    · have hks : k < s.size := by omega
      have hki : (k : Int) < (s.size : Int) := by omega
      have HW := rb1_any s g k hks hs wr (cellf_below hbe HG.out)
      rw [HA.out k hks hlt] at HW
      go_wp2_with fail
      (with_reducible refine HW.mono ?_)
      rintro e w2 ⟨rfl, hb2⟩
      have hbe := below_join hbe hb2
      clear hb2 HW
      go_wp2
      go_roundw
      case rel => exact ⟨k + 1, hlt, by go_num, hbe⟩
      case measure => simp [intOf]; omega
    · have hkn : k = n := by omega
      subst hkn
      by_cases hks : k < s.size
      · have hki : (k : Int) < (s.size : Int) := by omega
        have HW := rb1_any s g k hks hs wr (cellf_below hbe HG.out)
        rw [HE.out k hks rfl] at HW
        go_wp2_with fail
        (with_reducible refine HW.mono ?_)
        rintro e w2 ⟨rfl, hb2⟩
        have hbe := below_join hbe hb2
        clear hb2 HW
        go_wp2
        go_ret
        exact ⟨rfl, hbe⟩
      · have hki : ¬ (k : Int) < (s.size : Int) := by omega
        go_wp2
        go_ret
        exact ⟨rfl, hbe⟩
set_option maxRecDepth 100000 in
set_option maxHeartbeats 1600000 in
theorem nb1_any (s : ByteArray) (g k : Nat) (hk : k < s.size) (hs : s.size ≤ 140737488355328) (w : World) (hg : w.cell? ⟨g, 0, none⟩ = some (.string s)) :
    Calls Tryz.prog 45 #[.int .i64 (k : Int), .pointer (some ⟨g, 0, none⟩)] w fun e w' => e = .returned (.bool (wb (s[k]'hk))) ∧ Below w.heap.size w w' := by
  obtain ⟨b, hb⟩ : ∃ b, s[k]'hk = b := ⟨_, rfl⟩
  have HW := fun w => wordByte_any b w
  obtain ⟨p, hp⟩ : ∃ p, wb b = p := ⟨_, rfl⟩
  rw [hb, hp]
  rw [hp] at HW
  clear hp
  have h1 : (k : Int) < (s.size : Int) := by omega
  have h2 : (0 : Int) ≤ (k : Int) := by omega
  go_enter Tryz.func45, Tryz.ntmps45
  go_wp2_with fail
  (with_reducible refine (HW _).mono ?_)
  rintro e w1 ⟨rfl, hb1⟩
  go_wp2
  go_ret
  exact ⟨rfl, hb1⟩
set_option maxRecDepth 100000 in
set_option maxHeartbeats 1600000 in
theorem lead_nb1 (s : ByteArray) (g : Nat) (hs : s.size ≤ 140737488355328) (w : World) (hg : w.cell? ⟨g, 0, none⟩ = some (.string s)) :
    Calls Tryz.prog 44 #[.string s, .func (.func 45) #[] #[.pointer (some ⟨g, 0, none⟩)]] w fun e w' => e = .returned (.string (s.extract 0 (runL s.data.toList))) ∧ Below w.heap.size w w' := by
  have hle := run_size s
  have hAt := fun k (h : k < s.size) (hk : k < runL s.data.toList) => run_at s h hk
  have hEnd := fun k (h : k < s.size) (hk : k = runL s.data.toList) => run_end s h hk
  obtain ⟨n, hn⟩ : ∃ n, runL s.data.toList = n := ⟨_, rfl⟩
  rw [hn] at hle hAt hEnd ⊢
  clear hn
  have HA := Lib.hid hAt
  have HE := Lib.hid hEnd
  have HG := Lib.hid hg
  clear hAt hEnd hg
  have hni : (n : Int) ≤ (s.size : Int) := by omega
  have hn0 : (0 : Int) ≤ (n : Int) := by omega
  go_enter Tryz.func44, Tryz.ntmps44
  go_wp2
  go_loopw [5] (LeadRel n w) (fun i _ => n - (intOf i).toNat)
  case atStart => exact ⟨0, Nat.zero_le _, rfl, Below.refl _ _⟩
  case round =>
    obtain ⟨k, hk, rfl, hbe⟩ := hrel
    by_cases hlt : k < n
    · have hks : k < s.size := by omega
      have hki : (k : Int) < (s.size : Int) := by omega
      have HW := nb1_any s g k hks hs wr (cellf_below hbe HG.out)
      rw [HA.out k hks hlt] at HW
      go_wp2_with fail
      (with_reducible refine HW.mono ?_)
      rintro e w2 ⟨rfl, hb2⟩
      have hbe := below_join hbe hb2
      clear hb2 HW
      go_wp2
      go_roundw
      case rel => exact ⟨k + 1, hlt, by go_num, hbe⟩
      case measure => simp [intOf]; omega
    · have hkn : k = n := by omega
      subst hkn
      by_cases hks : k < s.size
      · have hki : (k : Int) < (s.size : Int) := by omega
        have HW := nb1_any s g k hks hs wr (cellf_below hbe HG.out)
        rw [HE.out k hks rfl] at HW
        go_wp2_with fail
        (with_reducible refine HW.mono ?_)
        rintro e w2 ⟨rfl, hb2⟩
        have hbe := below_join hbe hb2
        clear hb2 HW
        go_wp2
        go_ret
        exact ⟨rfl, hbe⟩
      · have hki : ¬ (k : Int) < (s.size : Int) := by omega
        go_wp2
        go_ret
        exact ⟨rfl, hbe⟩
end Go.Proofs.YtcefaipjncohmaaGreatDoor
