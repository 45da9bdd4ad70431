/-
  Contracts of the functions that the statement calls, part 22 of 25 (merged texts: Fi). Conditions: as the head of each part says.
-/
import Derived.Test.YtbgndopgllnmaaaDoorGU

/-
  Contracts of the walks over the specification's Check and Right. Conditions: a list of fields that is not too long, with names that are not too long.
-/
namespace Go.Proofs.YtbgndopgllnmaaaDoor
set_option linter.unusedVariables false
set_option linter.unusedSimpArgs false
open Go.RowKit Go.Shelf

/-- Behind k fields, all of which are right. -/
def RChk (l : List Fd) (w : World) (i : Value) (wr : World) : Prop :=
  ∃ k : Nat, k ≤ l.length ∧ i = .int .i64 (k : Int) ∧ checkL (l.take k) (l.drop k) = checkL [] l ∧ (∀ g ∈ l.take k, placeB g.at_ g.wd = true) ∧ Below w.heap.size w wr
theorem range_three {w : World} {g o : Nat} {a b c : Value} (h1 : w.cell? ⟨g, o, none⟩ = some a) (h2 : w.cell? ⟨g, o + 1, none⟩ = some b) (h3 : w.cell? ⟨g, o + 2, none⟩ = some c) : w.rangeAt g o [a, b, c] := fun q u hu => by
  match q with
  | 0 => injection hu with hu; subst hu; exact h1
  | 1 => injection hu with hu; subst hu; exact h2
  | 2 => injection hu with hu; subst hu; exact h3
  | q + 3 => cases hu
def RIn (P : Fd → Bool) (l : List Fd) (k : Nat) (w : World) (i : Value) (wr : World) : Prop :=
  ∃ j : Nat, j ≤ k ∧ i = .int .i64 (j : Int) ∧ (∀ q g, q < j → l[q]? = some g → P g = false) ∧ Below w.heap.size w wr
theorem in_any {P : Fd → Bool} {l : List Fd} {k j : Nat} {g : Fd} (hj : j < k) (hg : l[j]? = some g) (h : P g = true) : (l.take k).any P = true := by
  rw [List.any_eq_true]
  exact ⟨g, List.mem_of_getElem? (i := j) (by rw [List.getElem?_take, if_pos hj]; exact hg), h⟩
theorem in_none {P : Fd → Bool} {l : List Fd} {k : Nat} (h : ∀ q g, q < k → l[q]? = some g → P g = false) : (l.take k).any P = false := by
  rw [List.any_eq_false]
  intro g hg
  obtain ⟨q, hq⟩ := List.getElem?_of_mem hg
  rw [List.getElem?_take] at hq
  split at hq
  · rename_i hqk
    rw [h q g hqk hq]; decide
  · cases hq
theorem err_seen {done : List Fd} {f : Fd} (h : (done.any fun g => decide (g.nm = f.nm)) = true) : errF done f = 4 := by
  unfold errF
  by_cases hc : nameB f.nm = false ∨ f.nm = portB
  · rw [if_pos hc]
  · rw [if_neg hc, if_pos h]
theorem err_isport {done : List Fd} {f : Fd} (h : f.nm = portB) : errF done f = 4 := by
  unfold errF
  rw [if_pos (.inr h)]
theorem err_place2 {done : List Fd} {f : Fd} (hn : nameB f.nm = true) (hp : f.nm ≠ portB) (h : (done.any fun g => decide (g.nm = f.nm)) = false) (hq : placeB f.at_ f.wd = false) : errF done f = 1 := by
  unfold errF
  rw [if_neg (by rintro (k | k); · rw [hn] at k; cases k
                 · exact hp k), if_neg (by rw [h]; decide), if_pos hq]
theorem err_common2 {done : List Fd} {f : Fd} (hn : nameB f.nm = true) (hp : f.nm ≠ portB) (h : (done.any fun g => decide (g.nm = f.nm)) = false) (hq : placeB f.at_ f.wd = true) : errF done f = if (done.any fun g => commonB g f) = true then 1 else 0 := by
  unfold errF
  rw [if_neg (by rintro (k | k); · rw [hn] at k; cases k
                 · exact hp k), if_neg (by rw [h]; decide), if_neg (by rw [hq]; decide)]
theorem rcommonF_any (g f : Fd) (hg : placeB g.at_ g.wd = true) (hf : placeB f.at_ f.wd = true) (w : World) :
    Calls Tryd.prog 46 #[.agg #[.string g.nm, .int .i64 g.at_, .int .i64 g.wd], .agg #[.string f.nm, .int .i64 f.at_, .int .i64 f.wd]] w fun e w' => e = .returned (.bool (commonB g f)) ∧ Below w.heap.size w w' := by
  obtain ⟨a, n, ha, hn, hl, _, _⟩ := place_nat hg
  obtain ⟨b, m, hb, hm, hk, _, _⟩ := place_nat hf
  rw [ha, hn, hb, hm]
  refine (rcommon_any g.nm f.nm a n b m w hl hk).mono ?_
  rintro e w' ⟨he, hbe⟩
  refine ⟨he.trans ?_, hbe⟩
  unfold commonB
  rw [ha, hn, hb, hm]
  congr 3
  · exact decide_eq_decide.2 (by omega)
  · exact decide_eq_decide.2 (by omega)
set_option maxRecDepth 100000 in
set_option maxHeartbeats 3200000 in
theorem rcheck_any (A : Option Addr) (c : Nat) (l : List Fd) (w : World) (hl : l.length ≤ 140737488355328) (hz : ∀ f ∈ l, f.nm.size ≤ 9223372036854775807) (hS : FsAt w A l) :
    Calls Tryd.prog 10 #[.slice A l.length c] w fun e w' => e = .returned (.int .i64 (checkM l)) ∧ Below w.heap.size w w' := by
  obtain ⟨n, hn⟩ : ∃ n, Hid (l.length = n) := ⟨_, rfl⟩
  rw [hn.out] at hl ⊢
  have hni : (n : Int) ≤ 140737488355328 := by omega
  have HS := Lib.hid hS
  have HZ := Lib.hid hz
  clear hS hz
  by_cases hbig : n > 16
  · have hm : checkM l = 2 := if_pos (by rw [hn.out]; exact hbig)
    have hbi : (16 : Int) < (n : Int) := by omega
    rw [hm]
    go_enter Tryd.func10, Tryd.ntmps10
    go_wp2
    go_ret
    exact ⟨rfl, Below.refl _ _⟩
  · have hm : checkM l = checkL [] l := if_neg (by rw [hn.out]; exact hbig)
    have hbi : ¬ ((16 : Int) < (n : Int)) := by omega
    have hbd : decide ((16 : Int) < (n : Int)) = false := decide_eq_false hbi
    have hbd2 : decide (16 < n) = false := decide_eq_false (by omega)
    obtain ⟨CH, hCH⟩ : ∃ CH, Hid (checkL [] l = CH) := ⟨_, rfl⟩
    rw [hm, hCH.out]
    clear hm
    go_enter Tryd.func10, Tryd.ntmps10
    have H0 : Hid (RChk l w (.int .i64 0) w) := (⟨0, Nat.zero_le _, rfl, rfl, (fun g hg => by cases hg), Below.refl _ _⟩ : RChk l w (.int .i64 0) w)
    go_wp2
    go_loopw [3] (RChk l w) (fun i _ => n - (intOf i).toNat)
    case atStart => exact H0.out
    case round =>
      clear H0
      obtain ⟨k, hk, rfl, hv, hpl, hbe⟩ := hrel
      rw [hn.out] at hk
      have HV := Lib.hid hv
      have HPL := Lib.hid hpl
      clear hv hpl
      by_cases hlt : k < n
      · have hki : (k : Int) < (n : Int) := by omega
        have hk0 : (0 : Int) ≤ (k : Int) := by omega
        obtain ⟨f, hf⟩ : ∃ f, l[k]? = some f := ⟨_, List.getElem?_eq_getElem (by rw [hn.out]; exact hlt)⟩
        obtain ⟨ga, oa, hA, c0, c1, c2⟩ := (HS.out.next hbe) k f hf
        subst hA
        have hst := checkL_get hf
        rw [HV.out, hCH.out] at hst
        have HST := Lib.hid hst
        have HF := Lib.hid hf
        have HNM := Lib.hid (fun w' => rname_any f.nm w' (HZ.out f (List.mem_of_getElem? hf)))
        clear hst hf
        cases hnb : nameB f.nm with
        | false =>
          have hce : Hid (CH = 4) := by
            have : CH = 4 := by rw [HST.out, err_name hnb]; rfl
            exact this
          rw [hnb] at HNM
          clear hnb
          go_wp2_with fail
          (with_reducible refine (HNM.out _).mono ?_)
          rintro e w1 ⟨rfl, rfl⟩
          go_wp2
          go_ret
          exact ⟨by rw [hce.out]; rfl, hbe⟩
        | true =>
          rw [hnb] at HNM
          have HNB := Lib.hid hnb
          clear hnb
          by_cases hport : f.nm = portB
          · have hce : Hid (CH = 4) := by
              have : CH = 4 := by rw [HST.out, err_isport hport]; rfl
              exact this
            rw [hport] at c0 HNM
            unfold portB at c0 HNM
            clear hport HNB
            go_wp2_with fail
            (with_reducible refine (HNM.out _).mono ?_)
            rintro e w1 ⟨rfl, rfl⟩
            go_wp2
            go_ret
            exact ⟨by rw [hce.out]; rfl, hbe⟩
          · have hbp := beq_port hport
            have HPO := Lib.hid hport
            obtain ⟨fm, fa, fw⟩ := f
            have HI0 : Hid (RIn (fun g => decide (g.nm = fm)) l k wr (.int .i64 0) wr) := (⟨0, Nat.zero_le _, rfl, fun q g hq _ => absurd hq (Nat.not_lt_zero _), Below.refl _ _⟩ : RIn (fun g => decide (g.nm = fm)) l k wr (.int .i64 0) wr)
            clear hport
            go_wp2_with fail
            (with_reducible refine (HNM.out _).mono ?_)
            rintro e w1 ⟨rfl, rfl⟩
            obtain ⟨W1, hW1⟩ : ∃ W, W = wr := ⟨wr, rfl⟩
            subst hW1
            go_wp2
            go_loopw [5] (RIn (fun g => decide (g.nm = fm)) l k W1) (fun i _ => k - (intOf i).toNat)
            case atStart => exact HI0.out
            case round =>
              clear HI0
              obtain ⟨j, hj, rfl, hno, hb1⟩ := hrel
              have HNO := Lib.hid hno
              clear hno
              by_cases hjk : j < k
              · have hji : (j : Int) < (k : Int) := by omega
                have hjn : (j : Int) < (n : Int) := by omega
                have hj0 : (0 : Int) ≤ (j : Int) := by omega
                obtain ⟨g, hg⟩ : ∃ g, l[j]? = some g := ⟨_, List.getElem?_eq_getElem (by rw [hn.out]; omega)⟩
                obtain ⟨gb, ob, hB, d0, d1, d2⟩ := (HS.out.next (hbe.trans (hb1.mono hbe.size))) j g hg
                injection hB with hB
                injection hB with hB1 hB2 _
                subst hB1 hB2
                have e0 := cellf_below hb1 c0
                obtain ⟨gm, gat, gw⟩ := g
                by_cases hq : gm = fm
                · have hce : Hid (CH = 4) := by
                    have : CH = 4 := by rw [HST.out, err_seen (in_any hjk hg (by simpa using hq))]; rfl
                    exact this
                  have hbq : (gm.toList == fm.toList) = true := by rw [hq]; exact beq_self_eq_true _
                  clear hg hq
                  go_wp2
                  go_quiet (fail)
                  have hdd := hbe.trans ((hb1.trans ((below_drewN wr nq).mono hb1.size)).mono hbe.size)
                  go_wp2
                  go_ret
                  exact ⟨by rw [hce.out]; rfl, hdd⟩
                · have hbq := beq_bytes hq
                  have hnx : Hid (∀ q g, q < j + 1 → l[q]? = some g → (fun g : Fd => decide (g.nm = fm)) g = false) := by
                    have : ∀ q g, q < j + 1 → l[q]? = some g → (fun g : Fd => decide (g.nm = fm)) g = false := fun q g hqj hgq => by
                      rcases (by omega : q < j ∨ q = j) with h1 | rfl
                      · exact HNO.out q g h1 hgq
                      · rw [hg] at hgq
                        injection hgq with hgq
                        subst hgq
                        exact decide_eq_false hq
                    exact this
                  clear hg hq HNO
                  go_wp2
                  go_quiet (fail)
                  have hdd := hb1.trans ((below_drewN wr nq).mono hb1.size)
                  go_wp2
                  go_roundw
                  case rel => exact ⟨j + 1, by omega, by go_num, hnx.out, hdd⟩
                  case measure => simp [intOf]; omega
              · obtain rfl : j = k := by omega
                have hseen : Hid (((l.take j).any fun g => decide (g.nm = fm)) = false) := by
                  have : ((l.take j).any fun g => decide (g.nm = fm)) = false := in_none HNO.out
                  exact this
                have hbe2 := hbe.trans (hb1.mono hbe.size)
                have e0 := cellf_below hb1 c0
                have e1 := cellf_below hb1 c1
                have e2 := cellf_below hb1 c2
                have HPC := Lib.hid (fun w' => rplace_any fm fa fw w')
                clear HNO c0 c1 c2 hb1
                cases hpb : placeB fa fw with
                | false =>
                  have hce : Hid (CH = 1) := by
                    have : CH = 1 := by rw [HST.out, err_place2 (f := ⟨fm, fa, fw⟩) HNB.out HPO.out hseen.out hpb]; rfl
                    exact this
                  rw [hpb] at HPC
                  clear hpb
                  go_wp2_with fail
                  (with_reducible refine (HPC.out _).mono ?_)
                  rintro e w2 ⟨rfl, hb2⟩
                  have hbe3 := below_join hbe2 hb2
                  go_wp2
                  go_ret
                  exact ⟨by rw [hce.out]; rfl, hbe3⟩
                | true =>
                  rw [hpb] at HPC
                  have HPB := Lib.hid hpb
                  have herr := err_common2 (f := ⟨fm, fa, fw⟩) HNB.out HPO.out hseen.out hpb
                  have HERR := Lib.hid herr
                  clear hpb herr
                  go_wp2_with fail
                  (with_reducible refine (HPC.out _).mono ?_)
                  rintro e w2 ⟨rfl, hb2⟩
                  have hbe3 := below_join hbe2 hb2
                  have e0 := cellf_below hb2 e0
                  have e1 := cellf_below hb2 e1
                  have e2 := cellf_below hb2 e2
                  have HI1 : Hid (RIn (fun g => commonB g ⟨fm, fa, fw⟩) l j w2 (.int .i64 0) w2) := (⟨0, Nat.zero_le _, rfl, fun q g hq _ => absurd hq (Nat.not_lt_zero _), Below.refl _ _⟩ : RIn (fun g => commonB g ⟨fm, fa, fw⟩) l j w2 (.int .i64 0) w2)
                  clear hb2 hbe2 hbe HPC
                  go_wp2
                  go_loopw [7] (RIn (fun g => commonB g ⟨fm, fa, fw⟩) l j w2) (fun i _ => j - (intOf i).toNat)
                  case atStart => exact HI1.out
                  case round =>
                    clear HI1
                    obtain ⟨i, hi, rfl, hno, hb1⟩ := hrel
                    have HNO := Lib.hid hno
                    clear hno
                    by_cases hij : i < j
                    · have hii : (i : Int) < (j : Int) := by omega
                      have hin : (i : Int) < (n : Int) := by omega
                      have hi0 : (0 : Int) ≤ (i : Int) := by omega
                      obtain ⟨g, hg⟩ : ∃ g, l[i]? = some g := ⟨_, List.getElem?_eq_getElem (by rw [hn.out]; omega)⟩
                      have hbx := hbe3.trans (hb1.mono hbe3.size)
                      obtain ⟨gb, ob, hB, d0, d1, d2⟩ := (HS.out.next hbx) i g hg
                      injection hB with hB
                      injection hB with hB1 hB2 _
                      subst hB1 hB2
                      have x0 := cellf_below hb1 e0
                      have x1 := cellf_below hb1 e1
                      have x2 := cellf_below hb1 e2
                      have hgp : placeB g.at_ g.wd = true := HPL.out g (List.mem_of_getElem? (i := i) (by rw [List.getElem?_take, if_pos hij]; exact hg))
                      have HCM := Lib.hid (fun w' => rcommonF_any g ⟨fm, fa, fw⟩ hgp HPB.out w')
                      obtain ⟨gm, gat, gw⟩ := g
                      have hS1 : ∀ w', Below wr.heap.size wr w' → w'.rangeAt ga (oa + i * 3) [Value.string gm, .int .i64 gat, .int .i64 gw] ∧ w'.rangeAt ga (oa + j * 3) [Value.string fm, .int .i64 fa, .int .i64 fw] := fun w' h => ⟨range_three (cellf_below h d0) (cellf_below h d1) (cellf_below h d2), range_three (cellf_below h x0) (cellf_below h x1) (cellf_below h x2)⟩
                      have HS1 := Lib.hid hS1
                      have zz : ∀ (s : ByteArray) (a b : Int), (Tryd.prog.info? 33).map (·.size) = some [Value.string s, .int .i64 a, .int .i64 b].length := fun _ _ _ => Tryd.szF
                      cases hcb : commonB ⟨gm, gat, gw⟩ ⟨fm, fa, fw⟩ with
                      | true =>
                        have hce : Hid (CH = 1) := by
                          have : CH = 1 := by
                            have he1 := HERR.out
                            rw [if_pos (in_any hij hg hcb)] at he1
                            rw [HST.out, he1]; rfl
                          exact this
                        rw [hcb] at HCM
                        clear hg hcb hS1 d0 d1 d2 x0 x1 x2
                        go_wp2
                        have hdd := below_drew wr
                        have hb1 := hb1.trans (hdd.mono hb1.size)
                        have hbx := hbe3.trans (hb1.mono hbe3.size)
                        refine wp_region_held_drew (S := fun w' => w'.rangeAt ga (oa + i * 3) [Value.string gm, .int .i64 gat, .int .i64 gw] ∧ w'.rangeAt ga (oa + j * 3) [Value.string fm, .int .i64 fa, .int .i64 fw]) (by kernel_rfl) (HS1.out _ hdd) (fun hHeld => ?_)
                        generalize wr.drew = wd at hdd hb1 hbx hHeld ⊢
                        refine wpAnyH_take (i := 0) (v := ?vav0) rfl (by kernel_rfl) (by kernel_rfl) (by kernel_rfl) (fun _ _ _ h => h) (Or.inl ⟨by rfl, ?yav0⟩) (by assumption) ?rav0
                        case yav0 => intro w hSw; (try dsimp only at hSw); go_simp <;> (try with_reducible rfl)
                        (try simp only [List.getElem_toArray, List.getElem_cons_zero, Act.put, List.setIfInBounds_toArray, List.set_cons_zero, List.set_cons_succ])
                        refine wpAnyH_take (i := 1) (v := ?vav1) rfl (by kernel_rfl) (by kernel_rfl) (by kernel_rfl) (fun _ _ _ h => h) (Or.inl ⟨by rfl, ?yav1⟩) (by assumption) ?rav1
                        case yav1 => intro w hSw; (try dsimp only at hSw); go_simp <;> (try with_reducible rfl)
                        (try simp only [List.getElem_toArray, List.getElem_cons_succ, List.getElem_cons_zero, Act.put, List.setIfInBounds_toArray, List.set_cons_zero, List.set_cons_succ])
                        refine wpAnyH_take (i := 2) (v := ?vav2) rfl (by kernel_rfl) (by kernel_rfl) (by kernel_rfl) (fun _ _ _ h => h) (Or.inl ⟨by rfl, ?yav2⟩) (by assumption) ?rav2
                        case yav2 => intro w hSw; (try dsimp only at hSw); go_simp <;> (try with_reducible rfl)
                        (try simp only [List.getElem_toArray, List.getElem_cons_succ, List.getElem_cons_zero, Act.put, List.setIfInBounds_toArray, List.set_cons_zero, List.set_cons_succ])
                        refine' wpAnyH_take (i := 3) (v := _) rfl (by kernel_rfl) (by kernel_rfl) (by kernel_rfl) (fun _ _ _ h => h) (yieldsIf_load_mid (by rfl) _ _ (by rfl) _ _ (by rfl) _ _ ?Sav3 ?uav3 ?dav3 ?iav3) (by assumption) ?rav3
                        case Sav3 => exact (by intro w h; exact h.1)
                        case uav3 => exact Tryd.underlying33
                        case dav3 => rfl
                        case iav3 => exact (zz _ _ _)
                        (try simp only [List.getElem_toArray, List.getElem_cons_succ, List.getElem_cons_zero, Act.put, List.setIfInBounds_toArray, List.set_cons_zero, List.set_cons_succ])
                        refine wpAnyH_take (i := 4) (v := ?vav4) rfl (by kernel_rfl) (by kernel_rfl) (by kernel_rfl) (fun _ _ _ h => h) (Or.inl ⟨by rfl, ?yav4⟩) (by assumption) ?rav4
                        case yav4 => intro w hSw; (try dsimp only at hSw); go_simp <;> (try with_reducible rfl)
                        (try simp only [List.getElem_toArray, List.getElem_cons_succ, List.getElem_cons_zero, Act.put, List.setIfInBounds_toArray, List.set_cons_zero, List.set_cons_succ])
                        refine wpAnyH_take (i := 5) (v := ?vav5) rfl (by kernel_rfl) (by kernel_rfl) (by kernel_rfl) (fun _ _ _ h => h) (Or.inl ⟨by rfl, ?yav5⟩) (by assumption) ?rav5
                        case yav5 => intro w hSw; (try dsimp only at hSw); go_simp <;> (try with_reducible rfl)
                        (try simp only [List.getElem_toArray, List.getElem_cons_succ, List.getElem_cons_zero, Act.put, List.setIfInBounds_toArray, List.set_cons_zero, List.set_cons_succ])
                        refine wpAnyH_take (i := 6) (v := ?vav6) rfl (by kernel_rfl) (by kernel_rfl) (by kernel_rfl) (fun _ _ _ h => h) (Or.inl ⟨by rfl, ?yav6⟩) (by assumption) ?rav6
                        case yav6 => intro w hSw; (try dsimp only at hSw); go_simp <;> (try with_reducible rfl)
                        (try simp only [List.getElem_toArray, List.getElem_cons_succ, List.getElem_cons_zero, Act.put, List.setIfInBounds_toArray, List.set_cons_zero, List.set_cons_succ])
                        refine' wpAnyH_take (i := 7) (v := _) rfl (by kernel_rfl) (by kernel_rfl) (by kernel_rfl) (fun _ _ _ h => h) (yieldsIf_load_mid (by rfl) _ _ (by rfl) _ _ (by rfl) _ _ ?Sav7 ?uav7 ?dav7 ?iav7) (by assumption) ?rav7
                        case Sav7 => exact (by intro w h; exact h.2)
                        case uav7 => exact Tryd.underlying33
                        case dav7 => rfl
                        case iav7 => exact (zz _ _ _)
                        (try simp only [List.getElem_toArray, List.getElem_cons_succ, List.getElem_cons_zero, Act.put, List.setIfInBounds_toArray, List.set_cons_zero, List.set_cons_succ])
                        refine wpAnyH_ready (rs := [8]) (by kernel_rfl) (by simp) ?_
                        refine AllReadyH.cons rfl (fun K hK => ?_) AllReadyH.nil
                        go_simp
                        go_wp2_with fail
                        (with_reducible refine (HCM.out _).mono ?_)
                        rintro e w4 ⟨rfl, hb4⟩
                        have hb1 := hb1.trans (hb4.mono hb1.size)
                        have hbx := hbe3.trans (hb1.mono hbe3.size)
                        have hd4 := below_join hdd hb4
                        refine hK.out _ _ (HS1.out _ hd4) (fun hHeld => ?_)
                        clear hK K hb4 hd4 hdd
                        refine wpAnyH_take (i := 9) (v := ?vau9) rfl (by kernel_rfl) (by kernel_rfl) (by kernel_rfl) (fun _ _ _ h => h) (Or.inl ⟨by rfl, ?yau9⟩) (by assumption) ?rau9
                        case yau9 => intro w hSw; (try dsimp only at hSw); go_simp <;> (try with_reducible rfl)
                        (try simp only [List.getElem_toArray, List.getElem_cons_succ, List.getElem_cons_zero, Act.put, List.setIfInBounds_toArray, List.set_cons_zero, List.set_cons_succ])
                        refine wpAnyH_done (by kernel_rfl) ?_ _
                        clear hHeld
                        go_wp2
                        go_ret
                        exact ⟨by rw [hce.out]; rfl, hbx⟩
                      | false =>
                        have hnx : Hid (∀ q g, q < i + 1 → l[q]? = some g → (fun g : Fd => commonB g ⟨fm, fa, fw⟩) g = false) := by
                          have : ∀ q g, q < i + 1 → l[q]? = some g → (fun g : Fd => commonB g ⟨fm, fa, fw⟩) g = false := fun q g hqj hgq => by
                            rcases (by omega : q < i ∨ q = i) with h1 | rfl
                            · exact HNO.out q g h1 hgq
                            · rw [hg] at hgq
                              injection hgq with hgq
                              subst hgq
                              exact hcb
                          exact this
                        rw [hcb] at HCM
                        clear hg hcb hS1 d0 d1 d2 x0 x1 x2 HNO
                        go_wp2
                        have hdd := below_drew wr
                        have hb1 := hb1.trans (hdd.mono hb1.size)
                        have hbx := hbe3.trans (hb1.mono hbe3.size)
                        refine wp_region_held_drew (S := fun w' => w'.rangeAt ga (oa + i * 3) [Value.string gm, .int .i64 gat, .int .i64 gw] ∧ w'.rangeAt ga (oa + j * 3) [Value.string fm, .int .i64 fa, .int .i64 fw]) (by kernel_rfl) (HS1.out _ hdd) (fun hHeld => ?_)
                        generalize wr.drew = wd at hdd hb1 hbx hHeld ⊢
                        refine wpAnyH_take (i := 0) (v := ?vbv0) rfl (by kernel_rfl) (by kernel_rfl) (by kernel_rfl) (fun _ _ _ h => h) (Or.inl ⟨by rfl, ?ybv0⟩) (by assumption) ?rbv0
                        case ybv0 => intro w hSw; (try dsimp only at hSw); go_simp <;> (try with_reducible rfl)
                        (try simp only [List.getElem_toArray, List.getElem_cons_zero, Act.put, List.setIfInBounds_toArray, List.set_cons_zero, List.set_cons_succ])
                        refine wpAnyH_take (i := 1) (v := ?vbv1) rfl (by kernel_rfl) (by kernel_rfl) (by kernel_rfl) (fun _ _ _ h => h) (Or.inl ⟨by rfl, ?ybv1⟩) (by assumption) ?rbv1
                        case ybv1 => intro w hSw; (try dsimp only at hSw); go_simp <;> (try with_reducible rfl)
                        (try simp only [List.getElem_toArray, List.getElem_cons_succ, List.getElem_cons_zero, Act.put, List.setIfInBounds_toArray, List.set_cons_zero, List.set_cons_succ])
                        refine wpAnyH_take (i := 2) (v := ?vbv2) rfl (by kernel_rfl) (by kernel_rfl) (by kernel_rfl) (fun _ _ _ h => h) (Or.inl ⟨by rfl, ?ybv2⟩) (by assumption) ?rbv2
                        case ybv2 => intro w hSw; (try dsimp only at hSw); go_simp <;> (try with_reducible rfl)
                        (try simp only [List.getElem_toArray, List.getElem_cons_succ, List.getElem_cons_zero, Act.put, List.setIfInBounds_toArray, List.set_cons_zero, List.set_cons_succ])
                        refine' wpAnyH_take (i := 3) (v := _) rfl (by kernel_rfl) (by kernel_rfl) (by kernel_rfl) (fun _ _ _ h => h) (yieldsIf_load_mid (by rfl) _ _ (by rfl) _ _ (by rfl) _ _ ?Sbv3 ?ubv3 ?dbv3 ?ibv3) (by assumption) ?rbv3
                        case Sbv3 => exact (by intro w h; exact h.1)
                        case ubv3 => exact Tryd.underlying33
                        case dbv3 => rfl
                        case ibv3 => exact (zz _ _ _)
                        (try simp only [List.getElem_toArray, List.getElem_cons_succ, List.getElem_cons_zero, Act.put, List.setIfInBounds_toArray, List.set_cons_zero, List.set_cons_succ])
                        refine wpAnyH_take (i := 4) (v := ?vbv4) rfl (by kernel_rfl) (by kernel_rfl) (by kernel_rfl) (fun _ _ _ h => h) (Or.inl ⟨by rfl, ?ybv4⟩) (by assumption) ?rbv4
                        case ybv4 => intro w hSw; (try dsimp only at hSw); go_simp <;> (try with_reducible rfl)
                        (try simp only [List.getElem_toArray, List.getElem_cons_succ, List.getElem_cons_zero, Act.put, List.setIfInBounds_toArray, List.set_cons_zero, List.set_cons_succ])
                        refine wpAnyH_take (i := 5) (v := ?vbv5) rfl (by kernel_rfl) (by kernel_rfl) (by kernel_rfl) (fun _ _ _ h => h) (Or.inl ⟨by rfl, ?ybv5⟩) (by assumption) ?rbv5
                        case ybv5 => intro w hSw; (try dsimp only at hSw); go_simp <;> (try with_reducible rfl)
                        (try simp only [List.getElem_toArray, List.getElem_cons_succ, List.getElem_cons_zero, Act.put, List.setIfInBounds_toArray, List.set_cons_zero, List.set_cons_succ])
                        refine wpAnyH_take (i := 6) (v := ?vbv6) rfl (by kernel_rfl) (by kernel_rfl) (by kernel_rfl) (fun _ _ _ h => h) (Or.inl ⟨by rfl, ?ybv6⟩) (by assumption) ?rbv6
                        case ybv6 => intro w hSw; (try dsimp only at hSw); go_simp <;> (try with_reducible rfl)
                        (try simp only [List.getElem_toArray, List.getElem_cons_succ, List.getElem_cons_zero, Act.put, List.setIfInBounds_toArray, List.set_cons_zero, List.set_cons_succ])
                        refine' wpAnyH_take (i := 7) (v := _) rfl (by kernel_rfl) (by kernel_rfl) (by kernel_rfl) (fun _ _ _ h => h) (yieldsIf_load_mid (by rfl) _ _ (by rfl) _ _ (by rfl) _ _ ?Sbv7 ?ubv7 ?dbv7 ?ibv7) (by assumption) ?rbv7
                        case Sbv7 => exact (by intro w h; exact h.2)
                        case ubv7 => exact Tryd.underlying33
                        case dbv7 => rfl
                        case ibv7 => exact (zz _ _ _)
                        (try simp only [List.getElem_toArray, List.getElem_cons_succ, List.getElem_cons_zero, Act.put, List.setIfInBounds_toArray, List.set_cons_zero, List.set_cons_succ])
                        refine wpAnyH_ready (rs := [8]) (by kernel_rfl) (by simp) ?_
                        refine AllReadyH.cons rfl (fun K hK => ?_) AllReadyH.nil
                        go_simp
                        go_wp2_with fail
                        (with_reducible refine (HCM.out _).mono ?_)
                        rintro e w4 ⟨rfl, hb4⟩
                        have hb1 := hb1.trans (hb4.mono hb1.size)
                        have hbx := hbe3.trans (hb1.mono hbe3.size)
                        have hd4 := below_join hdd hb4
                        refine hK.out _ _ (HS1.out _ hd4) (fun hHeld => ?_)
                        clear hK K hb4 hd4 hdd
                        refine wpAnyH_take (i := 9) (v := ?vbu9) rfl (by kernel_rfl) (by kernel_rfl) (by kernel_rfl) (fun _ _ _ h => h) (Or.inl ⟨by rfl, ?ybu9⟩) (by assumption) ?rbu9
                        case ybu9 => intro w hSw; (try dsimp only at hSw); go_simp <;> (try with_reducible rfl)
                        (try simp only [List.getElem_toArray, List.getElem_cons_succ, List.getElem_cons_zero, Act.put, List.setIfInBounds_toArray, List.set_cons_zero, List.set_cons_succ])
                        refine wpAnyH_done (by kernel_rfl) ?_ _
                        clear hHeld
                        go_wp2
                        go_roundw
                        case rel => exact ⟨i + 1, by omega, by go_num, hnx.out, hb1⟩
                        case measure => simp [intOf]; omega
                    · obtain rfl : i = j := by omega
                      have hnc : (l.take i).any (fun g => commonB g ⟨fm, fa, fw⟩) = false := in_none HNO.out
                      have hno0 : errF (l.take i) ⟨fm, fa, fw⟩ = 0 := by
                        rw [HERR.out, if_neg (by rw [hnc]; decide)]
                      have HNX : Hid (checkL (l.take (i + 1)) (l.drop (i + 1)) = CH ∧ ∀ g ∈ l.take (i + 1), placeB g.at_ g.wd = true) := by
                        have : checkL (l.take (i + 1)) (l.drop (i + 1)) = CH ∧ ∀ g ∈ l.take (i + 1), placeB g.at_ g.wd = true := by
                          refine ⟨?_, fun g hg => ?_⟩
                          · rw [HST.out, if_pos hno0]
                          · rw [take_snoc HF.out] at hg
                            rcases List.mem_append.1 hg with hg | hg
                            · exact HPL.out g hg
                            · rw [List.mem_singleton.1 hg]; exact HPB.out
                        exact this
                      have hbx := hbe3.trans (hb1.mono hbe3.size)
                      clear hnc hno0 e0 e1 e2 HNO
                      go_wp2
                      go_roundw
                      case rel => exact ⟨i + 1, by rw [hn.out]; omega, by go_num, by rw [hCH.out]; exact HNX.out.1, HNX.out.2, hbx⟩
                      case measure => simp [intOf]; omega
      · obtain rfl : k = n := by omega
        have hce : Hid (CH = 0) := by
          have : CH = 0 := by rw [← hCH.out, ← HV.out, List.drop_eq_nil_of_le (by rw [hn.out]; exact Nat.le_refl _)]; rfl
          exact this
        go_wp2
        go_ret
        exact ⟨by rw [hce.out]; rfl, hbe⟩
end Go.Proofs.YtbgndopgllnmaaaDoor
