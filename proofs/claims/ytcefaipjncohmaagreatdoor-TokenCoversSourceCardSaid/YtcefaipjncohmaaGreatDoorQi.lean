/-
  Contracts of the walks over begins, gap, and leading with their closures. Conditions: the program's tables lie there; texts that fit into memory.
-/
import Derived.Test.YtcefaipjncohmaaGreatDoorQh
namespace Go.Proofs.YtcefaipjncohmaaGreatDoor
set_option linter.unusedVariables false
set_option linter.unusedSimpArgs false
open Go.RowKit Go.Shelf

theorem sign_size (s : ByteArray) : (s.extract 0 (signL s.data.toList)).size = signL s.data.toList := by
  rw [← bytes_size, cut_list]
  simp
  have := signL_le s.data.toList
  rw [bytes_size] at this
  exact Nat.min_eq_left this
theorem head_of (s : ByteArray) (h : 0 < s.size) : ∃ l, s.data.toList = s[0] :: l := by
  cases hs : s.data.toList with
  | nil => have := bytes_size s; rw [hs] at this; simp at this; omega
  | cons x l =>
    refine ⟨l, ?_⟩
    have := byte_at s h
    simp only [hs] at this
    rw [← this]
    rfl
set_option maxRecDepth 100000 in
set_option maxHeartbeats 3200000 in
theorem begins_any (s : ByteArray) (h0 : 0 < s.size) (hs : s.size ≤ 140737488355328) (w : World) (hT : TT w) :
    Calls Tryz.prog 57 #[.string s] w fun e w' => e = .returned (.bool (begB s.data.toList)) ∧ Below w.heap.size w w' := by
  have HS := fun w h => sign_any s w h
  have hsz := sign_size s
  obtain ⟨l, hl⟩ := head_of s h0
  have hB : begB s.data.toList = (lo s[0] || dg s[0] || sepB s[0] || decide (s[0] = 35) || decide (0 < signL s.data.toList)) := by rw [hl]; rfl
  rw [hB]
  clear hB hl
  obtain ⟨R, hR⟩ : ∃ R, s.extract 0 (signL s.data.toList) = R := ⟨_, rfl⟩
  rw [hR] at HS hsz
  obtain ⟨z, hz⟩ : ∃ z, signL s.data.toList = z := ⟨_, rfl⟩
  rw [hz] at hsz ⊢
  obtain ⟨b, hb⟩ : ∃ b, s[0]'h0 = b := ⟨_, rfl⟩
  rw [hb]
  have HL := fun w => letter_any b w
  have HD := fun w => digit_any b w
  have HP := fun w => separates_any b w
  obtain ⟨p, hp⟩ : ∃ p, lo b = p := ⟨_, rfl⟩
  obtain ⟨q, hq⟩ : ∃ q, dg b = q := ⟨_, rfl⟩
  obtain ⟨r, hr⟩ : ∃ r, sepB b = r := ⟨_, rfl⟩
  rw [hp] at HL ⊢
  rw [hq] at HD ⊢
  rw [hr] at HP ⊢
  clear hp hq hr hR hz
  have h0i : (0 : Int) < (s.size : Int) := by omega
  cases p
  · cases q
    · cases r
      · by_cases h35 : b = 35
        · have h35i : ((b.toNat : Int) == 35) = true := by rw [h35]; rfl
          rw [decide_eq_true h35]
          clear h35
          go_enter Tryz.func57, Tryz.ntmps57
          go_wp2_with fail
          (with_reducible refine (HL _).mono ?_)
          rintro e w1 ⟨rfl, hb1⟩
          go_wp2_with fail
          (with_reducible refine (HD _).mono ?_)
          rintro e w2 ⟨rfl, hb2⟩
          have hb1 := below_join hb1 hb2
          go_wp2_with fail
          (with_reducible refine (HP _).mono ?_)
          rintro e w3 ⟨rfl, hb3⟩
          have hb1 := below_join hb1 hb3
          go_wp2
          go_ret
          exact ⟨rfl, hb1⟩
        · have h35i : ((b.toNat : Int) == 35) = false := beq_eq_false_iff_ne.2 fun e => h35 (UInt8.toNat_inj.1 (by simpa using (by omega : b.toNat = 35)))
          rw [decide_eq_false h35]
          clear h35
          by_cases hz : 0 < z
          · have k1 := toList_ne (s := R) (by omega)
            have k2 := isEmpty_ne (s := R) (by omega)
            rw [decide_eq_true hz]
            go_enter Tryz.func57, Tryz.ntmps57
            go_wp2_with fail
            (with_reducible refine (HL _).mono ?_)
            rintro e w1 ⟨rfl, hb1⟩
            go_wp2_with fail
            (with_reducible refine (HD _).mono ?_)
            rintro e w2 ⟨rfl, hb2⟩
            have hb1 := below_join hb1 hb2
            go_wp2_with fail
            (with_reducible refine (HP _).mono ?_)
            rintro e w3 ⟨rfl, hb3⟩
            have hb1 := below_join hb1 hb3
            go_wp2_with fail
            (with_reducible refine (HS _ (hT.next hb1)).mono ?_)
            rintro e w4 ⟨rfl, hb4⟩
            have hb1 := below_join hb1 hb4
            go_wp2
            go_ret
            exact ⟨rfl, hb1⟩
          · have k1 := toList_nil (s := R) (by omega)
            have k2 := isEmpty_nil (s := R) (by omega)
            rw [decide_eq_false hz]
            go_enter Tryz.func57, Tryz.ntmps57
            go_wp2_with fail
            (with_reducible refine (HL _).mono ?_)
            rintro e w1 ⟨rfl, hb1⟩
            go_wp2_with fail
            (with_reducible refine (HD _).mono ?_)
            rintro e w2 ⟨rfl, hb2⟩
            have hb1 := below_join hb1 hb2
            go_wp2_with fail
            (with_reducible refine (HP _).mono ?_)
            rintro e w3 ⟨rfl, hb3⟩
            have hb1 := below_join hb1 hb3
            go_wp2_with fail
            (with_reducible refine (HS _ (hT.next hb1)).mono ?_)
            rintro e w4 ⟨rfl, hb4⟩
            have hb1 := below_join hb1 hb4
            go_wp2
            go_ret
            exact ⟨rfl, hb1⟩
      · go_enter Tryz.func57, Tryz.ntmps57
        go_wp2_with fail
        (with_reducible refine (HL _).mono ?_)
        rintro e w1 ⟨rfl, hb1⟩
        go_wp2_with fail
        (with_reducible refine (HD _).mono ?_)
        rintro e w2 ⟨rfl, hb2⟩
        have hb1 := below_join hb1 hb2
        go_wp2_with fail
        (with_reducible refine (HP _).mono ?_)
        rintro e w3 ⟨rfl, hb3⟩
        have hb1 := below_join hb1 hb3
        go_wp2
        go_ret
        exact ⟨rfl, hb1⟩
    · go_enter Tryz.func57, Tryz.ntmps57
      go_wp2_with fail
      (with_reducible refine (HL _).mono ?_)
      rintro e w1 ⟨rfl, hb1⟩
      go_wp2_with fail
      (with_reducible refine (HD _).mono ?_)
      rintro e w2 ⟨rfl, hb2⟩
      have hb1 := below_join hb1 hb2
      go_wp2
      go_ret
      exact ⟨rfl, hb1⟩
  · go_enter Tryz.func57, Tryz.ntmps57
    go_wp2_with fail
    (with_reducible refine (HL _).mono ?_)
    rintro e w1 ⟨rfl, hb1⟩
    go_wp2
    go_ret
    exact ⟨rfl, hb1⟩
theorem odd_get : ∀ (l : List UInt8) (j : Nat), j < oddL l → begB (l.drop j) = false
  | [], j, h => by simp [oddL] at h
  | b :: l, 0, h => by
    rw [oddL_cons] at h
    split at h
    · omega
    · rename_i hn; simpa using hn
  | b :: l, j + 1, h => by
    rw [oddL_cons] at h
    split at h
    · omega
    · exact odd_get l j (by omega)
theorem odd_stop : ∀ (l : List UInt8), oddL l < l.length → begB (l.drop (oddL l)) = true
  | [], h => by simp at h
  | b :: l, h => by
    by_cases hw : begB (b :: l) = true
    · have e : oddL (b :: l) = 0 := by rw [oddL_cons, if_pos hw]
      rw [e]; exact hw
    · have e : oddL (b :: l) = oddL l + 1 := by rw [oddL_cons, if_neg hw]
      rw [e]
      exact odd_stop l (by rw [e] at h; simpa using h)
theorem tail_list (s : ByteArray) (k : Nat) : (s.extract k s.size).data.toList = s.data.toList.drop k := by
  rw [cut_list]
  rw [List.take_of_length_le (by rw [bytes_size]; exact Nat.le_refl _)]
theorem tail_size (s : ByteArray) (k : Nat) : (s.extract k s.size).size = s.size - k := by
  rw [← bytes_size, tail_list, List.length_drop, bytes_size]
set_option maxRecDepth 100000 in
set_option maxHeartbeats 1600000 in
theorem st1_any (s : ByteArray) (g k : Nat) (hk : k < s.size) (hs : s.size ≤ 140737488355328) (w : World) (hg : w.cell? ⟨g, 0, none⟩ = some (.string s)) (hT : TT w) :
    Calls Tryz.prog 56 #[.int .i64 (k : Int), .pointer (some ⟨g, 0, none⟩)] w fun e w' => e = .returned (.bool (!begB (s.data.toList.drop k))) ∧ Below w.heap.size w w' := by
  have HW := fun w h => begins_any (s.extract k s.size) (by rw [tail_size]; omega) (by rw [tail_size]; omega) w h
  rw [tail_list] at HW
  obtain ⟨p, hp⟩ : ∃ p, begB (s.data.toList.drop k) = p := ⟨_, rfl⟩
  rw [hp] at HW ⊢
  clear hp
  obtain ⟨S, hS⟩ : ∃ S, s.extract k s.size = S := ⟨_, rfl⟩
  rw [hS] at HW
  have h1 : (k : Int) ≤ (s.size : Int) := by omega
  have h2 : (0 : Int) ≤ (k : Int) := by omega
  go_enter Tryz.func56, Tryz.ntmps56
  go_wp2_with fail
  (with_reducible refine (HW _ hT).mono ?_)
  rintro e w1 ⟨rfl, hb1⟩
  go_wp2
  go_ret
  exact ⟨rfl, hb1⟩
set_option maxRecDepth 100000 in
set_option maxHeartbeats 1600000 in
theorem lead_st1 (s : ByteArray) (g : Nat) (hs : s.size ≤ 140737488355328) (w : World) (hg : w.cell? ⟨g, 0, none⟩ = some (.string s)) (hT : TT w) :
    Calls Tryz.prog 44 #[.string s, .func (.func 56) #[] #[.pointer (some ⟨g, 0, none⟩)]] w fun e w' => e = .returned (.string (s.extract 0 (oddL s.data.toList))) ∧ Below w.heap.size w w' := by
  have hle := oddL_le s.data.toList
  have hlen := lenS s
  have hAt := fun k (hk : k < oddL s.data.toList) => odd_get _ k hk
  have hEnd := fun (hk : oddL s.data.toList < s.data.toList.length) => odd_stop _ hk
  have HST := fun k hk w hg hT => st1_any s g k hk hs w hg hT
  obtain ⟨l, hl⟩ : ∃ l, s.data.toList = l := ⟨_, rfl⟩
  rw [hl] at hle hlen hAt hEnd HST ⊢
  obtain ⟨n, hn⟩ : ∃ n, oddL l = n := ⟨_, rfl⟩
  rw [hn] at hle hAt hEnd ⊢
  rw [hlen] at hle hEnd
  clear hn hl hlen
  have HA := Lib.hid hAt
  have HE := Lib.hid hEnd
  have HG := Lib.hid hg
  have HT := Lib.hid hT
  clear hAt hEnd hg hT
  have hni : (n : Int) ≤ (s.size : Int) := by omega
  have hn0 : (0 : Int) ≤ (n : Int) := by omega
  go_enter Tryz.func44, Tryz.ntmps44
  go_wp2
  go_loopw [5] (LeadRel n w) (fun i _ => n - (intOf i).toNat)
  case atStart => exact ⟨0, Nat.zero_le _, rfl, Below.refl _ _⟩
  case round =>
    obtain ⟨k, hk, rfl, hbe⟩ := hrel
    by_cases hlt : k < n
    · have hks : k < s.size := by omega
      have hki : (k : Int) < (s.size : Int) := by omega
      have HW := HST k hks wr (cellf_below hbe HG.out) (HT.out.next hbe)
      rw [HA.out k hlt] at HW
      go_wp2_with fail
      (with_reducible refine HW.mono ?_)
      rintro e w2 ⟨rfl, hb2⟩
      have hbe := below_join hbe hb2
      clear hb2 HW
      go_wp2
      go_roundw
      case rel => exact ⟨k + 1, hlt, by go_num, hbe⟩
      case measure => simp [intOf]; omega
    · have hkn : k = n := by omega
      subst hkn
      by_cases hks : k < s.size
      · have hki : (k : Int) < (s.size : Int) := by omega
        have HW := HST k hks wr (cellf_below hbe HG.out) (HT.out.next hbe)
        rw [HE.out hks] at HW
        go_wp2_with fail
        (with_reducible refine HW.mono ?_)
        rintro e w2 ⟨rfl, hb2⟩
        have hbe := below_join hbe hb2
        clear hb2 HW
        go_wp2
        go_ret
        exact ⟨rfl, hbe⟩
      · have hki : ¬ (k : Int) < (s.size : Int) := by omega
        go_wp2
        go_ret
        exact ⟨rfl, hbe⟩
/-- Whether a byte is in a comment, behind the byte. -/
def insB (ins : Bool) (b : UInt8) : Bool := decide (b = 35) || ins && decide (b ≠ 10)
def insL : Bool → List UInt8 → Bool
  | ins, [] => ins
  | ins, b :: l => insL (insB ins b) l
theorem insL_snoc : ∀ (l : List UInt8) (ins : Bool) (b : UInt8), insL ins (l ++ [b]) = insB (insL ins l) b
  | [], _, _ => rfl
  | a :: l, ins, b => insL_snoc l (insB ins a) b
def gapB (ins : Bool) (b : UInt8) : Bool := insB ins b || sepB b
theorem gapL_step (ins : Bool) (b : UInt8) (l : List UInt8) : gapL ins (b :: l) = if gapB ins b then gapL (insB ins b) l + 1 else 0 := by
  unfold gapB
  show (if insB ins b then gapL true l + 1 else if sepB b then gapL false l + 1 else 0) = _
  cases insB ins b <;> cases sepB b <;> rfl
theorem gap_get : ∀ (l : List UInt8) (ins : Bool) (j : Nat) (h : j < l.length), j < gapL ins l → gapB (insL ins (l.take j)) l[j] = true
  | b :: l, ins, 0, _, hr => by
    rw [gapL_step] at hr
    split at hr
    · assumption
    · omega
  | b :: l, ins, j + 1, h, hr => by
    rw [gapL_step] at hr
    split at hr
    · exact gap_get l _ j (by simpa using h) (by omega)
    · omega
theorem gap_stop : ∀ (l : List UInt8) (ins : Bool) (h : gapL ins l < l.length), gapB (insL ins (l.take (gapL ins l))) l[gapL ins l] = false
  | [], ins, h => by simp at h
  | b :: l, ins, h => by
    by_cases hw : gapB ins b = true
    · have e : gapL ins (b :: l) = gapL (insB ins b) l + 1 := by rw [gapL_step, if_pos hw]
      have h' : gapL (insB ins b) l < l.length := by rw [e] at h; simpa using h
      have := gap_stop l (insB ins b) h'
      simpa [e, insL] using this
    · have e : gapL ins (b :: l) = 0 := by rw [gapL_step, if_neg hw]
      simpa [e, insL] using hw
set_option maxRecDepth 100000 in
set_option maxHeartbeats 3200000 in
theorem gap1_any (s : ByteArray) (g1 g2 k : Nat) (ins : Bool) (hk : k < s.size) (hs : s.size ≤ 140737488355328) (w : World) (B1 : Blk w g1 9 [.string s]) (h12 : g1 < g2) (B2 : Blk w g2 4 [.bool ins]) :
    Calls Tryz.prog 59 #[.int .i64 (k : Int), .pointer (some ⟨g1, 0, none⟩), .pointer (some ⟨g2, 0, none⟩)] w fun e w' => e = .returned (.bool (gapB ins (s[k]'hk))) ∧ Blk w' g2 4 [.bool (insB ins (s[k]'hk))] ∧ Below g2 w w' := by
  obtain ⟨b, hb⟩ : ∃ b, s[k]'hk = b := ⟨_, rfl⟩
  rw [hb]
  have HP := fun w => separates_any b w
  obtain ⟨r, hr⟩ : ∃ r, sepB b = r := ⟨_, rfl⟩
  rw [hr] at HP
  have h1 : (k : Int) < (s.size : Int) := by omega
  have h2 : (0 : Int) ≤ (k : Int) := by omega
  have hne : g1 ≠ g2 := by omega
  have hn10 : ∀ h, (({ data := #[10] } : ByteArray)[0]'h).toNat = 10 := fun _ => rfl
  by_cases h35 : b = 35
  · have h35i : ((b.toNat : Int) == 35) = true := by rw [h35]; rfl
    have hI : insB ins b = true := by unfold insB; rw [decide_eq_true h35]; rfl
    have hG : gapB ins b = true := by unfold gapB; rw [hI]; rfl
    rw [hI, hG]
    clear h35 hI hG hr
    go_enter Tryz.func59, Tryz.ntmps59
    go_wp2
    have hdd := below_drew w
    have B1 := B1.next hdd B1.lt
    have hbe : Below g2 w w.drew := hdd.mono (Nat.le_of_lt B2.lt)
    have B2 := B2.next hdd B2.lt
    refine wp_region_held_drew (S := fun w' => w'.cell? ⟨g1, 0, none⟩ = some (.string s)) (by kernel_rfl) (B1.cell (k := 0) rfl) (fun hHeld => ?_)
    clear hdd
    generalize w.drew = w1 at B1 B2 hbe hHeld ⊢
    refine wpAnyH_take (i := 0) (v := ?vqa0) rfl (by kernel_rfl) (by kernel_rfl) (by kernel_rfl) (fun _ _ _ h => h) (Or.inl ⟨by rfl, ?yqa0⟩) (by assumption) ?rqa0
    case yqa0 => intro w hSw; have hSc := hSw; go_simp <;> (try with_reducible rfl)
    (try simp only [List.getElem_toArray, List.getElem_cons_zero, Act.put, List.setIfInBounds_toArray, List.set_cons_zero, List.set_cons_succ])
    refine wpAnyH_take (i := 1) (v := ?vqa1) rfl (by kernel_rfl) (by kernel_rfl) (by kernel_rfl) (fun _ _ _ h => h) (Or.inl ⟨by rfl, ?yqa1⟩) (by assumption) ?rqa1
    case yqa1 => intro w hSw; (try dsimp only at hSw); go_simp <;> (try with_reducible rfl)
    (try simp only [List.getElem_toArray, List.getElem_cons_succ, List.getElem_cons_zero, Act.put, List.setIfInBounds_toArray, List.set_cons_zero, List.set_cons_succ])
    refine wpAnyH_take (i := 2) (v := ?vqa2) rfl (by kernel_rfl) (by kernel_rfl) (by kernel_rfl) (fun _ _ _ h => h) (Or.inl ⟨by rfl, ?yqa2⟩) (by assumption) ?rqa2
    case yqa2 => intro w hSw; (try dsimp only at hSw); go_simp <;> (try with_reducible rfl)
    (try simp only [List.getElem_toArray, List.getElem_cons_succ, List.getElem_cons_zero, Act.put, List.setIfInBounds_toArray, List.set_cons_zero, List.set_cons_succ])
    refine wpAnyH_take (i := 3) (v := ?vqa3) rfl (by kernel_rfl) (by kernel_rfl) (by kernel_rfl) (fun _ _ _ h => h) (Or.inl ⟨by rfl, ?yqa3⟩) (by assumption) ?rqa3
    case yqa3 => intro w hSw; (try dsimp only at hSw); go_simp <;> (try with_reducible rfl)
    (try simp only [List.getElem_toArray, List.getElem_cons_succ, List.getElem_cons_zero, Act.put, List.setIfInBounds_toArray, List.set_cons_zero, List.set_cons_succ])
    refine wpAnyH_take (i := 4) (v := ?vqa4) rfl (by kernel_rfl) (by kernel_rfl) (by kernel_rfl) (fun _ _ _ h => h) (Or.inl ⟨by rfl, ?yqa4⟩) (by assumption) ?rqa4
    case yqa4 => intro w hSw; (try dsimp only at hSw); go_simp <;> (try with_reducible rfl)
    (try simp only [List.getElem_toArray, List.getElem_cons_succ, List.getElem_cons_zero, Act.put, List.setIfInBounds_toArray, List.set_cons_zero, List.set_cons_succ])
    refine wpAnyH_take (i := 5) (v := undef) rfl (by kernel_rfl) (by kernel_rfl) (by kernel_rfl) (fun _ _ _ h => h) (Or.inr ⟨by rfl, rfl⟩) (by assumption) ?rqa5
    (try simp only [List.getElem_toArray, List.getElem_cons_succ, List.getElem_cons_zero, Act.put, List.setIfInBounds_toArray, List.set_cons_zero, List.set_cons_succ])
    refine wpAnyH_take (i := 6) (v := undef) rfl (by kernel_rfl) (by kernel_rfl) (by kernel_rfl) (fun _ _ _ h => h) (Or.inr ⟨by rfl, rfl⟩) (by assumption) ?rqa6
    (try simp only [List.getElem_toArray, List.getElem_cons_succ, List.getElem_cons_zero, Act.put, List.setIfInBounds_toArray, List.set_cons_zero, List.set_cons_succ])
    refine wpAnyH_take (i := 7) (v := undef) rfl (by kernel_rfl) (by kernel_rfl) (by kernel_rfl) (fun _ _ _ h => h) (Or.inr ⟨by rfl, rfl⟩) (by assumption) ?rqa7
    (try simp only [List.getElem_toArray, List.getElem_cons_succ, List.getElem_cons_zero, Act.put, List.setIfInBounds_toArray, List.set_cons_zero, List.set_cons_succ])
    refine wpAnyH_take (i := 8) (v := undef) rfl (by kernel_rfl) (by kernel_rfl) (by kernel_rfl) (fun _ _ _ h => h) (Or.inr ⟨by rfl, rfl⟩) (by assumption) ?rqa8
    (try simp only [List.getElem_toArray, List.getElem_cons_succ, List.getElem_cons_zero, Act.put, List.setIfInBounds_toArray, List.set_cons_zero, List.set_cons_succ])
    refine wpAnyH_take (i := 9) (v := undef) rfl (by kernel_rfl) (by kernel_rfl) (by kernel_rfl) (fun _ _ _ h => h) (Or.inr ⟨by rfl, rfl⟩) (by assumption) ?rqa9
    (try simp only [List.getElem_toArray, List.getElem_cons_succ, List.getElem_cons_zero, Act.put, List.setIfInBounds_toArray, List.set_cons_zero, List.set_cons_succ])
    refine wpAnyH_take (i := 10) (v := undef) rfl (by kernel_rfl) (by kernel_rfl) (by kernel_rfl) (fun _ _ _ h => h) (Or.inr ⟨by rfl, rfl⟩) (by assumption) ?rqa10
    (try simp only [List.getElem_toArray, List.getElem_cons_succ, List.getElem_cons_zero, Act.put, List.setIfInBounds_toArray, List.set_cons_zero, List.set_cons_succ])
    refine wpAnyH_take (i := 11) (v := undef) rfl (by kernel_rfl) (by kernel_rfl) (by kernel_rfl) (fun _ _ _ h => h) (Or.inr ⟨by rfl, rfl⟩) (by assumption) ?rqa11
    (try simp only [List.getElem_toArray, List.getElem_cons_succ, List.getElem_cons_zero, Act.put, List.setIfInBounds_toArray, List.set_cons_zero, List.set_cons_succ])
    refine wpAnyH_take (i := 12) (v := undef) rfl (by kernel_rfl) (by kernel_rfl) (by kernel_rfl) (fun _ _ _ h => h) (Or.inr ⟨by rfl, rfl⟩) (by assumption) ?rqa12
    (try simp only [List.getElem_toArray, List.getElem_cons_succ, List.getElem_cons_zero, Act.put, List.setIfInBounds_toArray, List.set_cons_zero, List.set_cons_succ])
    refine wpAnyH_take (i := 13) (v := ?vqa13) rfl (by kernel_rfl) (by kernel_rfl) (by kernel_rfl) (fun _ _ _ h => h) (Or.inl ⟨by rfl, ?yqa13⟩) (by assumption) ?rqa13
    case yqa13 => intro w hSw; (try dsimp only at hSw); go_simp <;> (try with_reducible rfl)
    (try simp only [List.getElem_toArray, List.getElem_cons_succ, List.getElem_cons_zero, Act.put, List.setIfInBounds_toArray, List.set_cons_zero, List.set_cons_succ])
    refine wpAnyH_ready (rs := [14]) (by kernel_rfl) (by simp) ?_
    refine AllReadyH.cons rfl (fun K hK => ?_) AllReadyH.nil
    rw [if_pos (by rfl)]
    refine wp_put 4 (.tmp 2) (.tmp 18) rfl g2 0 rfl (.bool true) rfl B2 [.bool true] rfl (by exact Tryz.szBool) (by exact Nat.le_refl 1) (one_cell1 rfl) ?_
    intro w2 hu2 C2
    rw [splice_all _ _ (by rfl)] at C2
    have B1 := B1.upd hu2 hne
    have hbe := hbe.trans (hu2.below (B := g2) (Nat.le_refl _))
    clear B2 hu2
    refine hK.out _ _ (B1.cell (k := 0) rfl) (fun hHeld => ?_)
    clear hK K
    refine wpAnyH_done (by kernel_rfl) ?_ _
    clear hHeld
    have c1 := B1.cell (k := 0) rfl
    have c2 := C2.cell (k := 0) rfl
    go_wp2
    go_ret
    exact ⟨rfl, C2, hbe⟩
  · have h35i : ((b.toNat : Int) == 35) = false := beq_eq_false_iff_ne.2 fun e => h35 (UInt8.toNat_inj.1 (by simpa using (by omega : b.toNat = 35)))
    cases ins
    · have hI : insB false b = false := by unfold insB; rw [decide_eq_false h35]; rfl
      have hG : gapB false b = r := by unfold gapB; rw [hI, hr]; rfl
      rw [hI, hG]
      clear h35 hI hG hr
      go_enter Tryz.func59, Tryz.ntmps59
      go_wp2
      have hdd := below_drew w
      have B1 := B1.next hdd B1.lt
      have hbe : Below g2 w w.drew := hdd.mono (Nat.le_of_lt B2.lt)
      have B2 := B2.next hdd B2.lt
      refine wp_region_held_drew (S := fun w' => w'.cell? ⟨g1, 0, none⟩ = some (.string s)) (by kernel_rfl) (B1.cell (k := 0) rfl) (fun hHeld => ?_)
      clear hdd
      generalize w.drew = w1 at B1 B2 hbe hHeld ⊢
      refine wpAnyH_take (i := 0) (v := ?vqb0) rfl (by kernel_rfl) (by kernel_rfl) (by kernel_rfl) (fun _ _ _ h => h) (Or.inl ⟨by rfl, ?yqb0⟩) (by assumption) ?rqb0
      case yqb0 => intro w hSw; have hSc := hSw; go_simp <;> (try with_reducible rfl)
      (try simp only [List.getElem_toArray, List.getElem_cons_zero, Act.put, List.setIfInBounds_toArray, List.set_cons_zero, List.set_cons_succ])
      refine wpAnyH_take (i := 1) (v := ?vqb1) rfl (by kernel_rfl) (by kernel_rfl) (by kernel_rfl) (fun _ _ _ h => h) (Or.inl ⟨by rfl, ?yqb1⟩) (by assumption) ?rqb1
      case yqb1 => intro w hSw; (try dsimp only at hSw); go_simp <;> (try with_reducible rfl)
      (try simp only [List.getElem_toArray, List.getElem_cons_succ, List.getElem_cons_zero, Act.put, List.setIfInBounds_toArray, List.set_cons_zero, List.set_cons_succ])
      refine wpAnyH_take (i := 2) (v := ?vqb2) rfl (by kernel_rfl) (by kernel_rfl) (by kernel_rfl) (fun _ _ _ h => h) (Or.inl ⟨by rfl, ?yqb2⟩) (by assumption) ?rqb2
      case yqb2 => intro w hSw; (try dsimp only at hSw); go_simp <;> (try with_reducible rfl)
      (try simp only [List.getElem_toArray, List.getElem_cons_succ, List.getElem_cons_zero, Act.put, List.setIfInBounds_toArray, List.set_cons_zero, List.set_cons_succ])
      refine wpAnyH_take (i := 3) (v := ?vqb3) rfl (by kernel_rfl) (by kernel_rfl) (by kernel_rfl) (fun _ _ _ h => h) (Or.inl ⟨by rfl, ?yqb3⟩) (by assumption) ?rqb3
      case yqb3 => intro w hSw; (try dsimp only at hSw); go_simp <;> (try with_reducible rfl)
      (try simp only [List.getElem_toArray, List.getElem_cons_succ, List.getElem_cons_zero, Act.put, List.setIfInBounds_toArray, List.set_cons_zero, List.set_cons_succ])
      refine wpAnyH_take (i := 4) (v := ?vqb4) rfl (by kernel_rfl) (by kernel_rfl) (by kernel_rfl) (fun _ _ _ h => h) (Or.inl ⟨by rfl, ?yqb4⟩) (by assumption) ?rqb4
      case yqb4 => intro w hSw; (try dsimp only at hSw); go_simp <;> (try with_reducible rfl)
      (try simp only [List.getElem_toArray, List.getElem_cons_succ, List.getElem_cons_zero, Act.put, List.setIfInBounds_toArray, List.set_cons_zero, List.set_cons_succ])
      refine wpAnyH_ready (rs := [5]) (by kernel_rfl) (by simp) ?_
      refine AllReadyH.cons rfl (fun K hK => ?_) AllReadyH.nil
      have hcq := B2.cell (k := 0) rfl
      go_simp
      refine hK.out _ _ (B1.cell (k := 0) rfl) (fun hHeld => ?_)
      clear hK K hcq
      refine wpAnyH_take (i := 6) (v := ?vqbb6) rfl (by kernel_rfl) (by kernel_rfl) (by kernel_rfl) (fun _ _ _ h => h) (Or.inl ⟨by rfl, ?yqbb6⟩) (by assumption) ?rqbb6
      case yqbb6 => intro w hSw; (try dsimp only at hSw); go_simp <;> (try with_reducible rfl)
      (try simp only [List.getElem_toArray, List.getElem_cons_succ, List.getElem_cons_zero, Act.put, List.setIfInBounds_toArray, List.set_cons_zero, List.set_cons_succ])
      refine wpAnyH_take (i := 7) (v := undef) rfl (by kernel_rfl) (by kernel_rfl) (by kernel_rfl) (fun _ _ _ h => h) (Or.inr ⟨by rfl, rfl⟩) (by assumption) ?rqbb7
      (try simp only [List.getElem_toArray, List.getElem_cons_succ, List.getElem_cons_zero, Act.put, List.setIfInBounds_toArray, List.set_cons_zero, List.set_cons_succ])
      refine wpAnyH_take (i := 8) (v := undef) rfl (by kernel_rfl) (by kernel_rfl) (by kernel_rfl) (fun _ _ _ h => h) (Or.inr ⟨by rfl, rfl⟩) (by assumption) ?rqbb8
      (try simp only [List.getElem_toArray, List.getElem_cons_succ, List.getElem_cons_zero, Act.put, List.setIfInBounds_toArray, List.set_cons_zero, List.set_cons_succ])
      refine wpAnyH_take (i := 9) (v := undef) rfl (by kernel_rfl) (by kernel_rfl) (by kernel_rfl) (fun _ _ _ h => h) (Or.inr ⟨by rfl, rfl⟩) (by assumption) ?rqbb9
      (try simp only [List.getElem_toArray, List.getElem_cons_succ, List.getElem_cons_zero, Act.put, List.setIfInBounds_toArray, List.set_cons_zero, List.set_cons_succ])
      refine wpAnyH_take (i := 10) (v := undef) rfl (by kernel_rfl) (by kernel_rfl) (by kernel_rfl) (fun _ _ _ h => h) (Or.inr ⟨by rfl, rfl⟩) (by assumption) ?rqbb10
      (try simp only [List.getElem_toArray, List.getElem_cons_succ, List.getElem_cons_zero, Act.put, List.setIfInBounds_toArray, List.set_cons_zero, List.set_cons_succ])
      refine wpAnyH_take (i := 11) (v := undef) rfl (by kernel_rfl) (by kernel_rfl) (by kernel_rfl) (fun _ _ _ h => h) (Or.inr ⟨by rfl, rfl⟩) (by assumption) ?rqbb11
      (try simp only [List.getElem_toArray, List.getElem_cons_succ, List.getElem_cons_zero, Act.put, List.setIfInBounds_toArray, List.set_cons_zero, List.set_cons_succ])
      refine wpAnyH_take (i := 12) (v := ?vqbb12) rfl (by kernel_rfl) (by kernel_rfl) (by kernel_rfl) (fun _ _ _ h => h) (Or.inl ⟨by rfl, ?yqbb12⟩) (by assumption) ?rqbb12
      case yqbb12 => intro w hSw; (try dsimp only at hSw); go_simp <;> (try with_reducible rfl)
      (try simp only [List.getElem_toArray, List.getElem_cons_succ, List.getElem_cons_zero, Act.put, List.setIfInBounds_toArray, List.set_cons_zero, List.set_cons_succ])
      refine wpAnyH_take (i := 13) (v := ?vqbb13) rfl (by kernel_rfl) (by kernel_rfl) (by kernel_rfl) (fun _ _ _ h => h) (Or.inl ⟨by rfl, ?yqbb13⟩) (by assumption) ?rqbb13
      case yqbb13 => intro w hSw; (try dsimp only at hSw); go_simp <;> (try with_reducible rfl)
      (try simp only [List.getElem_toArray, List.getElem_cons_succ, List.getElem_cons_zero, Act.put, List.setIfInBounds_toArray, List.set_cons_zero, List.set_cons_succ])
      refine wpAnyH_ready (rs := [14]) (by kernel_rfl) (by simp) ?_
      refine AllReadyH.cons rfl (fun K hK => ?_) AllReadyH.nil
      rw [if_pos (by rfl)]
      refine wp_put 4 (.tmp 2) (.tmp 18) rfl g2 0 rfl (.bool false) rfl B2 [.bool false] rfl (by exact Tryz.szBool) (by exact Nat.le_refl 1) (one_cell1 rfl) ?_
      intro w2 hu2 C2
      rw [splice_all _ _ (by rfl)] at C2
      have B1 := B1.upd hu2 hne
      have hbe := hbe.trans (hu2.below (B := g2) (Nat.le_refl _))
      clear B2 hu2
      refine hK.out _ _ (B1.cell (k := 0) rfl) (fun hHeld => ?_)
      clear hK K
      refine wpAnyH_done (by kernel_rfl) ?_ _
      clear hHeld
      have c1 := B1.cell (k := 0) rfl
      have c2 := C2.cell (k := 0) rfl
      go_wp2_with fail
      (with_reducible refine (HP _).mono ?_)
      rintro e w3 ⟨rfl, hb3⟩
      have hc2l := Nat.le_of_lt C2.lt
      have C2 := C2.next hb3 C2.lt
      have hbe := hbe.trans (hb3.mono hc2l)
      go_wp2
      go_ret
      exact ⟨rfl, C2, hbe⟩
    · by_cases h10 : b = 10
      · have h10i : ((b.toNat : Int) != 10) = false := by rw [h10]; rfl
        have hI : insB true b = false := by unfold insB; rw [decide_eq_false h35, h10]; rfl
        have hG : gapB true b = r := by unfold gapB; rw [hI, hr]; rfl
        rw [hI, hG]
        clear h35 hI hG hr h10
        go_enter Tryz.func59, Tryz.ntmps59
        go_wp2
        have hdd := below_drew w
        have B1 := B1.next hdd B1.lt
        have hbe : Below g2 w w.drew := hdd.mono (Nat.le_of_lt B2.lt)
        have B2 := B2.next hdd B2.lt
        refine wp_region_held_drew (S := fun w' => w'.cell? ⟨g1, 0, none⟩ = some (.string s)) (by kernel_rfl) (B1.cell (k := 0) rfl) (fun hHeld => ?_)
        clear hdd
        generalize w.drew = w1 at B1 B2 hbe hHeld ⊢
        refine wpAnyH_take (i := 0) (v := ?vqc0) rfl (by kernel_rfl) (by kernel_rfl) (by kernel_rfl) (fun _ _ _ h => h) (Or.inl ⟨by rfl, ?yqc0⟩) (by assumption) ?rqc0
        case yqc0 => intro w hSw; have hSc := hSw; go_simp <;> (try with_reducible rfl)
        (try simp only [List.getElem_toArray, List.getElem_cons_zero, Act.put, List.setIfInBounds_toArray, List.set_cons_zero, List.set_cons_succ])
        refine wpAnyH_take (i := 1) (v := ?vqc1) rfl (by kernel_rfl) (by kernel_rfl) (by kernel_rfl) (fun _ _ _ h => h) (Or.inl ⟨by rfl, ?yqc1⟩) (by assumption) ?rqc1
        case yqc1 => intro w hSw; (try dsimp only at hSw); go_simp <;> (try with_reducible rfl)
        (try simp only [List.getElem_toArray, List.getElem_cons_succ, List.getElem_cons_zero, Act.put, List.setIfInBounds_toArray, List.set_cons_zero, List.set_cons_succ])
        refine wpAnyH_take (i := 2) (v := ?vqc2) rfl (by kernel_rfl) (by kernel_rfl) (by kernel_rfl) (fun _ _ _ h => h) (Or.inl ⟨by rfl, ?yqc2⟩) (by assumption) ?rqc2
        case yqc2 => intro w hSw; (try dsimp only at hSw); go_simp <;> (try with_reducible rfl)
        (try simp only [List.getElem_toArray, List.getElem_cons_succ, List.getElem_cons_zero, Act.put, List.setIfInBounds_toArray, List.set_cons_zero, List.set_cons_succ])
        refine wpAnyH_take (i := 3) (v := ?vqc3) rfl (by kernel_rfl) (by kernel_rfl) (by kernel_rfl) (fun _ _ _ h => h) (Or.inl ⟨by rfl, ?yqc3⟩) (by assumption) ?rqc3
        case yqc3 => intro w hSw; (try dsimp only at hSw); go_simp <;> (try with_reducible rfl)
        (try simp only [List.getElem_toArray, List.getElem_cons_succ, List.getElem_cons_zero, Act.put, List.setIfInBounds_toArray, List.set_cons_zero, List.set_cons_succ])
        refine wpAnyH_take (i := 4) (v := ?vqc4) rfl (by kernel_rfl) (by kernel_rfl) (by kernel_rfl) (fun _ _ _ h => h) (Or.inl ⟨by rfl, ?yqc4⟩) (by assumption) ?rqc4
        case yqc4 => intro w hSw; (try dsimp only at hSw); go_simp <;> (try with_reducible rfl)
        (try simp only [List.getElem_toArray, List.getElem_cons_succ, List.getElem_cons_zero, Act.put, List.setIfInBounds_toArray, List.set_cons_zero, List.set_cons_succ])
        refine wpAnyH_ready (rs := [5]) (by kernel_rfl) (by simp) ?_
        refine AllReadyH.cons rfl (fun K hK => ?_) AllReadyH.nil
        have hcq := B2.cell (k := 0) rfl
        go_simp
        refine hK.out _ _ (B1.cell (k := 0) rfl) (fun hHeld => ?_)
        clear hK K hcq
        refine wpAnyH_take (i := 6) (v := ?vqcb6) rfl (by kernel_rfl) (by kernel_rfl) (by kernel_rfl) (fun _ _ _ h => h) (Or.inl ⟨by rfl, ?yqcb6⟩) (by assumption) ?rqcb6
        case yqcb6 => intro w hSw; (try dsimp only at hSw); go_simp <;> (try with_reducible rfl)
        (try simp only [List.getElem_toArray, List.getElem_cons_succ, List.getElem_cons_zero, Act.put, List.setIfInBounds_toArray, List.set_cons_zero, List.set_cons_succ])
        refine wpAnyH_take (i := 7) (v := ?vqcb7) rfl (by kernel_rfl) (by kernel_rfl) (by kernel_rfl) (fun _ _ _ h => h) (Or.inl ⟨by rfl, ?yqcb7⟩) (by assumption) ?rqcb7
        case yqcb7 => intro w hSw; have hSc := hSw; go_simp <;> (try with_reducible rfl)
        (try simp only [List.getElem_toArray, List.getElem_cons_succ, List.getElem_cons_zero, Act.put, List.setIfInBounds_toArray, List.set_cons_zero, List.set_cons_succ])
        refine wpAnyH_take (i := 8) (v := ?vqcb8) rfl (by kernel_rfl) (by kernel_rfl) (by kernel_rfl) (fun _ _ _ h => h) (Or.inl ⟨by rfl, ?yqcb8⟩) (by assumption) ?rqcb8
        case yqcb8 => intro w hSw; (try dsimp only at hSw); go_simp <;> (try with_reducible rfl)
        (try simp only [List.getElem_toArray, List.getElem_cons_succ, List.getElem_cons_zero, Act.put, List.setIfInBounds_toArray, List.set_cons_zero, List.set_cons_succ])
        refine wpAnyH_take (i := 9) (v := ?vqcb9) rfl (by kernel_rfl) (by kernel_rfl) (by kernel_rfl) (fun _ _ _ h => h) (Or.inl ⟨by rfl, ?yqcb9⟩) (by assumption) ?rqcb9
        case yqcb9 => intro w hSw; (try dsimp only at hSw); go_simp <;> (try with_reducible rfl)
        (try simp only [List.getElem_toArray, List.getElem_cons_succ, List.getElem_cons_zero, Act.put, List.setIfInBounds_toArray, List.set_cons_zero, List.set_cons_succ])
        refine wpAnyH_take (i := 10) (v := ?vqcb10) rfl (by kernel_rfl) (by kernel_rfl) (by kernel_rfl) (fun _ _ _ h => h) (Or.inl ⟨by rfl, ?yqcb10⟩) (by assumption) ?rqcb10
        case yqcb10 => intro w hSw; (try dsimp only at hSw); go_simp <;> (try with_reducible rfl)
        (try simp only [List.getElem_toArray, List.getElem_cons_succ, List.getElem_cons_zero, Act.put, List.setIfInBounds_toArray, List.set_cons_zero, List.set_cons_succ])
        refine wpAnyH_take (i := 11) (v := ?vqcb11) rfl (by kernel_rfl) (by kernel_rfl) (by kernel_rfl) (fun _ _ _ h => h) (Or.inl ⟨by rfl, ?yqcb11⟩) (by assumption) ?rqcb11
        case yqcb11 => intro w hSw; (try dsimp only at hSw); go_simp <;> (try with_reducible rfl)
        (try simp only [List.getElem_toArray, List.getElem_cons_succ, List.getElem_cons_zero, Act.put, List.setIfInBounds_toArray, List.set_cons_zero, List.set_cons_succ])
        refine wpAnyH_take (i := 12) (v := ?vqcb12) rfl (by kernel_rfl) (by kernel_rfl) (by kernel_rfl) (fun _ _ _ h => h) (Or.inl ⟨by rfl, ?yqcb12⟩) (by assumption) ?rqcb12
        case yqcb12 => intro w hSw; (try dsimp only at hSw); go_simp <;> (try with_reducible rfl)
        (try simp only [List.getElem_toArray, List.getElem_cons_succ, List.getElem_cons_zero, Act.put, List.setIfInBounds_toArray, List.set_cons_zero, List.set_cons_succ])
        refine wpAnyH_take (i := 13) (v := ?vqcb13) rfl (by kernel_rfl) (by kernel_rfl) (by kernel_rfl) (fun _ _ _ h => h) (Or.inl ⟨by rfl, ?yqcb13⟩) (by assumption) ?rqcb13
        case yqcb13 => intro w hSw; (try dsimp only at hSw); go_simp <;> (try with_reducible rfl)
        (try simp only [List.getElem_toArray, List.getElem_cons_succ, List.getElem_cons_zero, Act.put, List.setIfInBounds_toArray, List.set_cons_zero, List.set_cons_succ])
        refine wpAnyH_ready (rs := [14]) (by kernel_rfl) (by simp) ?_
        refine AllReadyH.cons rfl (fun K hK => ?_) AllReadyH.nil
        rw [if_pos (by rfl)]
        refine wp_put 4 (.tmp 2) (.tmp 18) rfl g2 0 rfl (.bool false) rfl B2 [.bool false] rfl (by exact Tryz.szBool) (by exact Nat.le_refl 1) (one_cell1 rfl) ?_
        intro w2 hu2 C2
        rw [splice_all _ _ (by rfl)] at C2
        have B1 := B1.upd hu2 hne
        have hbe := hbe.trans (hu2.below (B := g2) (Nat.le_refl _))
        clear B2 hu2
        refine hK.out _ _ (B1.cell (k := 0) rfl) (fun hHeld => ?_)
        clear hK K
        refine wpAnyH_done (by kernel_rfl) ?_ _
        clear hHeld
        have c1 := B1.cell (k := 0) rfl
        have c2 := C2.cell (k := 0) rfl
        go_wp2_with fail
        (with_reducible refine (HP _).mono ?_)
        rintro e w3 ⟨rfl, hb3⟩
        have hc2l := Nat.le_of_lt C2.lt
        have C2 := C2.next hb3 C2.lt
        have hbe := hbe.trans (hb3.mono hc2l)
        go_wp2
        go_ret
        exact ⟨rfl, C2, hbe⟩
      · have h10i : ((b.toNat : Int) != 10) = true := bne_iff_ne.2 fun e => h10 (UInt8.toNat_inj.1 (by simpa using (by omega : b.toNat = 10)))
        have hI : insB true b = true := by unfold insB; rw [decide_eq_false h35, decide_eq_true h10]; rfl
        have hG : gapB true b = true := by unfold gapB; rw [hI]; rfl
        rw [hI, hG]
        clear h35 hI hG hr h10
        go_enter Tryz.func59, Tryz.ntmps59
        go_wp2
        have hdd := below_drew w
        have B1 := B1.next hdd B1.lt
        have hbe : Below g2 w w.drew := hdd.mono (Nat.le_of_lt B2.lt)
        have B2 := B2.next hdd B2.lt
        refine wp_region_held_drew (S := fun w' => w'.cell? ⟨g1, 0, none⟩ = some (.string s)) (by kernel_rfl) (B1.cell (k := 0) rfl) (fun hHeld => ?_)
        clear hdd
        generalize w.drew = w1 at B1 B2 hbe hHeld ⊢
        refine wpAnyH_take (i := 0) (v := ?vqd0) rfl (by kernel_rfl) (by kernel_rfl) (by kernel_rfl) (fun _ _ _ h => h) (Or.inl ⟨by rfl, ?yqd0⟩) (by assumption) ?rqd0
        case yqd0 => intro w hSw; have hSc := hSw; go_simp <;> (try with_reducible rfl)
        (try simp only [List.getElem_toArray, List.getElem_cons_zero, Act.put, List.setIfInBounds_toArray, List.set_cons_zero, List.set_cons_succ])
        refine wpAnyH_take (i := 1) (v := ?vqd1) rfl (by kernel_rfl) (by kernel_rfl) (by kernel_rfl) (fun _ _ _ h => h) (Or.inl ⟨by rfl, ?yqd1⟩) (by assumption) ?rqd1
        case yqd1 => intro w hSw; (try dsimp only at hSw); go_simp <;> (try with_reducible rfl)
        (try simp only [List.getElem_toArray, List.getElem_cons_succ, List.getElem_cons_zero, Act.put, List.setIfInBounds_toArray, List.set_cons_zero, List.set_cons_succ])
        refine wpAnyH_take (i := 2) (v := ?vqd2) rfl (by kernel_rfl) (by kernel_rfl) (by kernel_rfl) (fun _ _ _ h => h) (Or.inl ⟨by rfl, ?yqd2⟩) (by assumption) ?rqd2
        case yqd2 => intro w hSw; (try dsimp only at hSw); go_simp <;> (try with_reducible rfl)
        (try simp only [List.getElem_toArray, List.getElem_cons_succ, List.getElem_cons_zero, Act.put, List.setIfInBounds_toArray, List.set_cons_zero, List.set_cons_succ])
        refine wpAnyH_take (i := 3) (v := ?vqd3) rfl (by kernel_rfl) (by kernel_rfl) (by kernel_rfl) (fun _ _ _ h => h) (Or.inl ⟨by rfl, ?yqd3⟩) (by assumption) ?rqd3
        case yqd3 => intro w hSw; (try dsimp only at hSw); go_simp <;> (try with_reducible rfl)
        (try simp only [List.getElem_toArray, List.getElem_cons_succ, List.getElem_cons_zero, Act.put, List.setIfInBounds_toArray, List.set_cons_zero, List.set_cons_succ])
        refine wpAnyH_take (i := 4) (v := ?vqd4) rfl (by kernel_rfl) (by kernel_rfl) (by kernel_rfl) (fun _ _ _ h => h) (Or.inl ⟨by rfl, ?yqd4⟩) (by assumption) ?rqd4
        case yqd4 => intro w hSw; (try dsimp only at hSw); go_simp <;> (try with_reducible rfl)
        (try simp only [List.getElem_toArray, List.getElem_cons_succ, List.getElem_cons_zero, Act.put, List.setIfInBounds_toArray, List.set_cons_zero, List.set_cons_succ])
        refine wpAnyH_ready (rs := [5]) (by kernel_rfl) (by simp) ?_
        refine AllReadyH.cons rfl (fun K hK => ?_) AllReadyH.nil
        have hcq := B2.cell (k := 0) rfl
        go_simp
        refine hK.out _ _ (B1.cell (k := 0) rfl) (fun hHeld => ?_)
        clear hK K hcq
        refine wpAnyH_take (i := 6) (v := ?vqdb6) rfl (by kernel_rfl) (by kernel_rfl) (by kernel_rfl) (fun _ _ _ h => h) (Or.inl ⟨by rfl, ?yqdb6⟩) (by assumption) ?rqdb6
        case yqdb6 => intro w hSw; (try dsimp only at hSw); go_simp <;> (try with_reducible rfl)
        (try simp only [List.getElem_toArray, List.getElem_cons_succ, List.getElem_cons_zero, Act.put, List.setIfInBounds_toArray, List.set_cons_zero, List.set_cons_succ])
        refine wpAnyH_take (i := 7) (v := ?vqdb7) rfl (by kernel_rfl) (by kernel_rfl) (by kernel_rfl) (fun _ _ _ h => h) (Or.inl ⟨by rfl, ?yqdb7⟩) (by assumption) ?rqdb7
        case yqdb7 => intro w hSw; have hSc := hSw; go_simp <;> (try with_reducible rfl)
        (try simp only [List.getElem_toArray, List.getElem_cons_succ, List.getElem_cons_zero, Act.put, List.setIfInBounds_toArray, List.set_cons_zero, List.set_cons_succ])
        refine wpAnyH_take (i := 8) (v := ?vqdb8) rfl (by kernel_rfl) (by kernel_rfl) (by kernel_rfl) (fun _ _ _ h => h) (Or.inl ⟨by rfl, ?yqdb8⟩) (by assumption) ?rqdb8
        case yqdb8 => intro w hSw; (try dsimp only at hSw); go_simp <;> (try with_reducible rfl)
        (try simp only [List.getElem_toArray, List.getElem_cons_succ, List.getElem_cons_zero, Act.put, List.setIfInBounds_toArray, List.set_cons_zero, List.set_cons_succ])
        refine wpAnyH_take (i := 9) (v := ?vqdb9) rfl (by kernel_rfl) (by kernel_rfl) (by kernel_rfl) (fun _ _ _ h => h) (Or.inl ⟨by rfl, ?yqdb9⟩) (by assumption) ?rqdb9
        case yqdb9 => intro w hSw; (try dsimp only at hSw); go_simp <;> (try with_reducible rfl)
        (try simp only [List.getElem_toArray, List.getElem_cons_succ, List.getElem_cons_zero, Act.put, List.setIfInBounds_toArray, List.set_cons_zero, List.set_cons_succ])
        refine wpAnyH_take (i := 10) (v := ?vqdb10) rfl (by kernel_rfl) (by kernel_rfl) (by kernel_rfl) (fun _ _ _ h => h) (Or.inl ⟨by rfl, ?yqdb10⟩) (by assumption) ?rqdb10
        case yqdb10 => intro w hSw; (try dsimp only at hSw); go_simp <;> (try with_reducible rfl)
        (try simp only [List.getElem_toArray, List.getElem_cons_succ, List.getElem_cons_zero, Act.put, List.setIfInBounds_toArray, List.set_cons_zero, List.set_cons_succ])
        refine wpAnyH_take (i := 11) (v := ?vqdb11) rfl (by kernel_rfl) (by kernel_rfl) (by kernel_rfl) (fun _ _ _ h => h) (Or.inl ⟨by rfl, ?yqdb11⟩) (by assumption) ?rqdb11
        case yqdb11 => intro w hSw; (try dsimp only at hSw); go_simp <;> (try with_reducible rfl)
        (try simp only [List.getElem_toArray, List.getElem_cons_succ, List.getElem_cons_zero, Act.put, List.setIfInBounds_toArray, List.set_cons_zero, List.set_cons_succ])
        refine wpAnyH_take (i := 12) (v := ?vqdb12) rfl (by kernel_rfl) (by kernel_rfl) (by kernel_rfl) (fun _ _ _ h => h) (Or.inl ⟨by rfl, ?yqdb12⟩) (by assumption) ?rqdb12
        case yqdb12 => intro w hSw; (try dsimp only at hSw); go_simp <;> (try with_reducible rfl)
        (try simp only [List.getElem_toArray, List.getElem_cons_succ, List.getElem_cons_zero, Act.put, List.setIfInBounds_toArray, List.set_cons_zero, List.set_cons_succ])
        refine wpAnyH_take (i := 13) (v := ?vqdb13) rfl (by kernel_rfl) (by kernel_rfl) (by kernel_rfl) (fun _ _ _ h => h) (Or.inl ⟨by rfl, ?yqdb13⟩) (by assumption) ?rqdb13
        case yqdb13 => intro w hSw; (try dsimp only at hSw); go_simp <;> (try with_reducible rfl)
        (try simp only [List.getElem_toArray, List.getElem_cons_succ, List.getElem_cons_zero, Act.put, List.setIfInBounds_toArray, List.set_cons_zero, List.set_cons_succ])
        refine wpAnyH_ready (rs := [14]) (by kernel_rfl) (by simp) ?_
        refine AllReadyH.cons rfl (fun K hK => ?_) AllReadyH.nil
        rw [if_pos (by rfl)]
        refine wp_put 4 (.tmp 2) (.tmp 18) rfl g2 0 rfl (.bool true) rfl B2 [.bool true] rfl (by exact Tryz.szBool) (by exact Nat.le_refl 1) (one_cell1 rfl) ?_
        intro w2 hu2 C2
        rw [splice_all _ _ (by rfl)] at C2
        have B1 := B1.upd hu2 hne
        have hbe := hbe.trans (hu2.below (B := g2) (Nat.le_refl _))
        clear B2 hu2
        refine hK.out _ _ (B1.cell (k := 0) rfl) (fun hHeld => ?_)
        clear hK K
        refine wpAnyH_done (by kernel_rfl) ?_ _
        clear hHeld
        have c1 := B1.cell (k := 0) rfl
        have c2 := C2.cell (k := 0) rfl
        go_wp2
        go_ret
        exact ⟨rfl, C2, hbe⟩
end Go.Proofs.YtcefaipjncohmaaGreatDoor
