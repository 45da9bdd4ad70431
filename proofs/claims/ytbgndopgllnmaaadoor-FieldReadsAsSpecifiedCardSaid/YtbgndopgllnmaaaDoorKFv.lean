/-
  Contract of the walk over the reference's Show. Conditions: at most a hundred fields that lie in a word, with names of at most a thousand bytes; the library's table lies there.
-/
import Derived.Test.YtbgndopgllnmaaaDoorGX
namespace Go.Proofs.YtbgndopgllnmaaaDoor
set_option linter.unusedVariables false
set_option linter.unusedSimpArgs false
open Go.RowKit Go.Shelf

def RShRel (l : List Fd) (h : Nat → Bool) (g3 n : Nat) (w : World) (o i : Value) (wr : World) : Prop :=
  ∃ (k : Nat) (S : ByteArray), k ≤ n ∧ i = .int .i64 (k : Int) ∧ o = .string S ∧ S.data.toList = showTo l h k ∧ Blk wr g3 30 (H h) ∧ Below w.heap.size w wr
set_option maxRecDepth 100000 in
set_option maxHeartbeats 3200000 in
theorem rshow_any (A : Option Addr) (c : Nat) (l : List Fd) (h : Nat → Bool) (w : World) (hl : l.length ≤ 100) (hr : ∀ f ∈ l, ∃ a n : Nat, f.at_ = (a : Int) ∧ f.wd = (n : Int) ∧ Lies a n) (hz : ∀ f ∈ l, f.nm.size ≤ 1000) (hS : FsAt w A l) (hQ : QF w) :
    Calls Tryd.prog 24 #[.slice A l.length c, .agg (H h).toArray] w fun e w' => e = .returned (.string ⟨(showT l h).toArray⟩) ∧ Below w.heap.size w w' := by
  obtain ⟨n, hn⟩ : ∃ n, Hid (l.length = n) := ⟨_, rfl⟩
  have hlen := showTo_length h hr hz
  rw [hn.out] at hl hlen ⊢
  have hni : (n : Int) ≤ 100 := by omega
  have HS := Lib.hid hS
  have HQ := Lib.hid hQ
  have HR := Lib.hid hr
  have HZ := Lib.hid hz
  have HLEN := Lib.hid hlen
  obtain ⟨RES, hRES⟩ : ∃ R, Hid (showT l h = R) := ⟨_, rfl⟩
  rw [hRES.out]
  clear hS hQ hr hz hlen
  go_enter Tryd.func24, Tryd.ntmps24
  go_wp2_with (with_reducible refine wpList_box (o := ⟨some 3, .box 30 (.tmp 1), _, _, _, _⟩) ?g3qaa 30 (.tmp 1) ?o3qaa (.agg (H h).toArray) (H h) ?x3qaa ?c3qaa ?_)
  try (case g3qaa => rfl)
  try (case o3qaa => rfl)
  try (case x3qaa => rfl)
  try (case c3qaa => rfl)
  intro g3 w1 hg3 hs1 hb1 B3
  have hl3 : w.heap.size ≤ g3 := Nat.le_of_eq hg3.out.symm
  have hb1 := hb1.mono (Nat.le_of_eq hg3.out.symm)
  have hbe : Below w.heap.size w w1 := hb1
  clear hb1 hg3 hs1
  have HH := Lib.hid (fun v (hv : v < 10) => H_get h hv)
  obtain ⟨x, hx⟩ : ∃ x, word h 0 = x := ⟨_, rfl⟩
  have hx6 := word_lt h 0
  have c0 := B3.cell (HH.out 0 (by decide))
  rw [hx] at c0 hx6
  have HX := Lib.hid hx
  have hx0 : (0 : Int) ≤ (x : Int) := by omega
  have hx9 : (x : Int) ≤ 65536 := by omega
  have hi21 := itoa_21 x (by omega)
  obtain ⟨IX, hIX⟩ : ∃ X, (⟨(Lib.itoa (x : Int)).toArray⟩ : ByteArray) = X := ⟨_, rfl⟩
  have HIX := Lib.hid hIX
  have HIT := Lib.hid (fun w q => itoaF_any (x : Int) w hx0 hx9 q)
  rw [hIX] at HIT
  have hIs : IX.size ≤ 21 := by rw [← hIX, arr_len]; exact hi21
  have hIz : (IX.size : Int) ≤ 8388608 := by omega
  obtain ⟨S0, hS0⟩ : ∃ T, ({ data := #[112, 111, 114, 116, 61] } : ByteArray) ++ IX = T := ⟨_, rfl⟩
  have q0 : ¬ (9223372036854775807 < 5 + IX.size) := by omega
  have q0' : ¬ (9223372036854775807 < ({ data := #[112, 111, 114, 116, 61] } : ByteArray).size + IX.size) := q0
  have HS0 : Hid (S0.data.toList = showTo l h 0) := by
    have : S0.data.toList = showTo l h 0 := by
      rw [← hS0, ByteArray.data_append, Array.toList_append, ← hIX]
      unfold showTo
      rw [hx]
      simp
    exact this
  clear hx hIX
  go_wp2_with fail
  (with_reducible refine (HIT.out _ (HQ.out.next hbe)).mono ?_)
  rintro e w2 ⟨rfl, hb2⟩
  clear c0
  have B3 := B3.next hb2 B3.lt
  have hbe := below_join hbe hb2
  clear hb2
  have H0 : Hid (RShRel l h g3 n w (.string S0) (.int .i64 0) w2) := (⟨0, S0, Nat.zero_le _, rfl, rfl, HS0.out, B3, hbe⟩ : RShRel l h g3 n w (.string S0) (.int .i64 0) w2)
  clear B3 hbe HX HIT HIX HS0
  go_wp2
  go_loopw [5, 6] (RShRel l h g3 n w) (fun _ i _ => n - (intOf i).toNat)
  case atStart => exact H0.out
  case round =>
    clear H0
    obtain ⟨k, S, hk, rfl, rfl, hSk, B3, hbe⟩ := hrel
    have HSK := Lib.hid hSk
    have hlk := HLEN.out k hk
    have hSs : S.size ≤ 200000 := by
      have h := congrArg List.length hSk
      rw [bytes_size] at h
      omega
    clear hSk hlk
    have hSz : (S.size : Int) ≤ 8388608 := by omega
    by_cases hlt : k < n
    · have hk0 : (0 : Int) ≤ (k : Int) := by omega
      have hki : (k : Int) < (n : Int) := by omega
      obtain ⟨f, hf⟩ : ∃ f, l[k]? = some f := ⟨_, List.getElem?_eq_getElem (by rw [hn.out]; exact hlt)⟩
      obtain ⟨ga, oa, hA, d0, d1, d2⟩ := (HS.out.next hbe) k f hf
      subst hA
      have hfit := HR.out f (List.mem_of_getElem? hf)
      have hnl := HZ.out f (List.mem_of_getElem? hf)
      have hsn := showTo_next (h := h) hf
      have hv9 := keyV_le h f hfit
      obtain ⟨a, b, hfa, hfb, hLb⟩ := hfit
      obtain ⟨fm, fa, fb⟩ := f
      have hfa : fa = (a : Int) := hfa
      have hfb : fb = (b : Int) := hfb
      subst hfa hfb
      have hnl : fm.size ≤ 1000 := hnl
      obtain ⟨V, hV⟩ : ∃ V, fieldN h a b = V := ⟨_, rfl⟩
      have HGE := Lib.hid (fun w' => rget_any fm a b h w' hLb)
      have hkv : keyV h ⟨fm, (a : Int), (b : Int)⟩ = (V : Int) := by rw [← hV]; rfl
      have hv9 : V ≤ 65536 := by rw [← hV]; exact hv9
      rw [hV] at HGE
      have hV0 : (0 : Int) ≤ (V : Int) := by omega
      have hV9 : (V : Int) ≤ 65536 := by omega
      have hi21 := itoa_21 V hv9
      obtain ⟨IV, hIV⟩ : ∃ X, (⟨(Lib.itoa (V : Int)).toArray⟩ : ByteArray) = X := ⟨_, rfl⟩
      have HIV := Lib.hid (fun w q => itoaF_any (V : Int) w hV0 hV9 q)
      rw [hIV] at HIV
      have hIs : IV.size ≤ 21 := by rw [← hIV, arr_len]; exact hi21
      obtain ⟨S1, hS1⟩ : ∃ T, S ++ ({ data := #[32] } : ByteArray) = T := ⟨_, rfl⟩
      obtain ⟨S2, hS2⟩ : ∃ T, S1 ++ fm = T := ⟨_, rfl⟩
      obtain ⟨S3, hS3⟩ : ∃ T, S2 ++ ({ data := #[61] } : ByteArray) = T := ⟨_, rfl⟩
      obtain ⟨S4, hS4⟩ : ∃ T, S3 ++ IV = T := ⟨_, rfl⟩
      have hs1 : S1.size = S.size + 1 := by rw [← hS1, ByteArray.size_append]; rfl
      have hs2 : S2.size = S1.size + fm.size := by rw [← hS2, ByteArray.size_append]
      have hs3 : S3.size = S2.size + 1 := by rw [← hS3, ByteArray.size_append]; rfl
      have hT : Hid (S4.data.toList = showTo l h (k + 1)) := by
        have : S4.data.toList = showTo l h (k + 1) := by
          rw [← hS4, ByteArray.data_append, Array.toList_append, ← hS3, ByteArray.data_append, Array.toList_append, ← hS2, ByteArray.data_append, Array.toList_append, ← hS1, ByteArray.data_append, Array.toList_append, HSK.out, hsn, ← hIV]
          unfold showF
          rw [hkv]
          simp
        exact this
      have r1 : ¬ (9223372036854775807 < S.size + 1) := by omega
      have r2 : ¬ (9223372036854775807 < S1.size + fm.size) := by omega
      have r3 : ¬ (9223372036854775807 < S2.size + 1) := by omega
      have r4 : ¬ (9223372036854775807 < S3.size + IV.size) := by omega
      have hsz2 : (S1.size : Int) ≤ 8388608 := by omega
      have hsz3 : (S2.size : Int) ≤ 8388608 := by omega
      have hsz4 : (S3.size : Int) ≤ 8388608 := by omega
      have hunF := Tryd.underlying33
      have hunH := Tryd.underlying30
      have hz1 : (Tryd.prog.info? 33).map (·.size) = some [Value.string fm, .int .i64 (a : Int), .int .i64 (b : Int)].length := Tryd.szF
      have hz2 : (Tryd.prog.info? 30).map (·.size) = some (H h).length := by rw [H_length]; exact Tryd.szH
      have hcell : ∀ w', Below wr.heap.size wr w' → w'.cell? ⟨ga, oa + k * 3, none⟩ = some (.string fm) ∧ w'.rangeAt ga (oa + k * 3) [Value.string fm, .int .i64 (a : Int), .int .i64 (b : Int)] ∧ w'.rangeAt g3 0 (H h) := fun w' hw => ⟨cellf_below hw d0, (fun q u hu => by
        rcases q with _ | _ | _ | q
        · injection hu with hu; subst hu; exact cellf_below hw d0
        · injection hu with hu; subst hu; exact cellf_below hw d1
        · injection hu with hu; subst hu; exact cellf_below hw d2
        · cases hu), blk_range (B3.next hw B3.lt)⟩
      have HCL := Lib.hid hcell
      clear hcell d0 d1 d2 hV hkv hf hsn hIV hs1 hs2 hs3 hnl hIs hSs
      have hdd := below_drew wr
      go_wp2
      refine wp_region_held_drew (S := fun w' => w'.cell? ⟨ga, oa + k * 3, none⟩ = some (.string fm) ∧ w'.rangeAt ga (oa + k * 3) [Value.string fm, .int .i64 (a : Int), .int .i64 (b : Int)] ∧ w'.rangeAt g3 0 (H h)) (by kernel_rfl) (HCL.out _ hdd) (fun hHeld => ?_)
      generalize wr.drew = wd at hdd hHeld ⊢
      refine wpAnyH_take (i := 0) (v := ?vv0) rfl (by kernel_rfl) (by kernel_rfl) (by kernel_rfl) (fun _ _ _ h => h) (Or.inl ⟨by rfl, ?yv0⟩) (by assumption) ?rv0
      case yv0 => intro w hSw; (try dsimp only at hSw); go_simp <;> (try with_reducible rfl)
      (try simp only [List.getElem_toArray, List.getElem_cons_zero, Act.put, List.setIfInBounds_toArray, List.set_cons_zero, List.set_cons_succ])
      refine wpAnyH_take (i := 1) (v := ?vv1) rfl (by kernel_rfl) (by kernel_rfl) (by kernel_rfl) (fun _ _ _ h => h) (Or.inl ⟨by rfl, ?yv1⟩) (by assumption) ?rv1
      case yv1 => intro w hSw; (try dsimp only at hSw); go_simp <;> (try with_reducible rfl)
      (try simp only [List.getElem_toArray, List.getElem_cons_succ, List.getElem_cons_zero, Act.put, List.setIfInBounds_toArray, List.set_cons_zero, List.set_cons_succ])
      refine wpAnyH_take (i := 2) (v := ?vv2) rfl (by kernel_rfl) (by kernel_rfl) (by kernel_rfl) (fun _ _ _ h => h) (Or.inl ⟨by rfl, ?yv2⟩) (by assumption) ?rv2
      case yv2 => intro w hSw; (try dsimp only at hSw); go_simp <;> (try with_reducible rfl)
      (try simp only [List.getElem_toArray, List.getElem_cons_succ, List.getElem_cons_zero, Act.put, List.setIfInBounds_toArray, List.set_cons_zero, List.set_cons_succ])
      refine wpAnyH_take (i := 3) (v := ?vv3) rfl (by kernel_rfl) (by kernel_rfl) (by kernel_rfl) (fun _ _ _ h => h) (Or.inl ⟨by rfl, ?yv3⟩) (by assumption) ?rv3
      case yv3 => intro w hSw; (try dsimp only at hSw); go_simp <;> (try with_reducible rfl)
      (try simp only [List.getElem_toArray, List.getElem_cons_succ, List.getElem_cons_zero, Act.put, List.setIfInBounds_toArray, List.set_cons_zero, List.set_cons_succ])
      refine wpAnyH_take (i := 4) (v := ?vv4) rfl (by kernel_rfl) (by kernel_rfl) (by kernel_rfl) (fun _ _ _ h => h) (Or.inl ⟨by rfl, ?yv4⟩) (by assumption) ?rv4
      case yv4 => intro w hSw; (try dsimp only at hSw); go_simp <;> (try with_reducible rfl)
      (try simp only [List.getElem_toArray, List.getElem_cons_succ, List.getElem_cons_zero, Act.put, List.setIfInBounds_toArray, List.set_cons_zero, List.set_cons_succ])
      refine wpAnyH_take (i := 5) (v := ?vv5) rfl (by kernel_rfl) (by kernel_rfl) (by kernel_rfl) (fun _ _ _ h => h) (Or.inl ⟨by rfl, ?yv5⟩) (by assumption) ?rv5
      case yv5 => intro w hSw; (try dsimp only at hSw); go_simp <;> (try with_reducible rfl)
      (try simp only [List.getElem_toArray, List.getElem_cons_succ, List.getElem_cons_zero, Act.put, List.setIfInBounds_toArray, List.set_cons_zero, List.set_cons_succ])
      refine wpAnyH_take (i := 6) (v := ?v6) rfl (by kernel_rfl) (by kernel_rfl) (by kernel_rfl) (fun _ _ _ h => h) (Or.inl ⟨by rfl, ?y6⟩) (by assumption) ?r6
      case y6 => intro w hSw; have hSc := hSw.1; go_simp <;> (try with_reducible rfl)
      (try simp only [List.getElem_toArray, List.getElem_cons_succ, List.getElem_cons_zero, Act.put, List.setIfInBounds_toArray, List.set_cons_zero, List.set_cons_succ])
      refine wpAnyH_take (i := 7) (v := ?vv7) rfl (by kernel_rfl) (by kernel_rfl) (by kernel_rfl) (fun _ _ _ h => h) (Or.inl ⟨by rfl, ?yv7⟩) (by assumption) ?rv7
      case yv7 => intro w hSw; (try dsimp only at hSw); go_simp <;> (try with_reducible rfl)
      (try simp only [List.getElem_toArray, List.getElem_cons_succ, List.getElem_cons_zero, Act.put, List.setIfInBounds_toArray, List.set_cons_zero, List.set_cons_succ])
      refine wpAnyH_take (i := 8) (v := ?vv8) rfl (by kernel_rfl) (by kernel_rfl) (by kernel_rfl) (fun _ _ _ h => h) (Or.inl ⟨by rfl, ?yv8⟩) (by assumption) ?rv8
      case yv8 => intro w hSw; (try dsimp only at hSw); go_simp <;> (try with_reducible rfl)
      (try simp only [List.getElem_toArray, List.getElem_cons_succ, List.getElem_cons_zero, Act.put, List.setIfInBounds_toArray, List.set_cons_zero, List.set_cons_succ])
      refine wpAnyH_take (i := 9) (v := ?vv9) rfl (by kernel_rfl) (by kernel_rfl) (by kernel_rfl) (fun _ _ _ h => h) (Or.inl ⟨by rfl, ?yv9⟩) (by assumption) ?rv9
      case yv9 => intro w hSw; (try dsimp only at hSw); go_simp <;> (try with_reducible rfl)
      (try simp only [List.getElem_toArray, List.getElem_cons_succ, List.getElem_cons_zero, Act.put, List.setIfInBounds_toArray, List.set_cons_zero, List.set_cons_succ])
      refine wpAnyH_take (i := 10) (v := ?vv10) rfl (by kernel_rfl) (by kernel_rfl) (by kernel_rfl) (fun _ _ _ h => h) (Or.inl ⟨by rfl, ?yv10⟩) (by assumption) ?rv10
      case yv10 => intro w hSw; (try dsimp only at hSw); go_simp <;> (try with_reducible rfl)
      (try simp only [List.getElem_toArray, List.getElem_cons_succ, List.getElem_cons_zero, Act.put, List.setIfInBounds_toArray, List.set_cons_zero, List.set_cons_succ])
      refine wpAnyH_take (i := 11) (v := ?vv11) rfl (by kernel_rfl) (by kernel_rfl) (by kernel_rfl) (fun _ _ _ h => h) (Or.inl ⟨by rfl, ?yv11⟩) (by assumption) ?rv11
      case yv11 => intro w hSw; (try dsimp only at hSw); go_simp <;> (try with_reducible rfl)
      (try simp only [List.getElem_toArray, List.getElem_cons_succ, List.getElem_cons_zero, Act.put, List.setIfInBounds_toArray, List.set_cons_zero, List.set_cons_succ])
      refine' wpAnyH_take (i := 12) (v := _) rfl (by kernel_rfl) (by kernel_rfl) (by kernel_rfl) (fun _ _ _ h => h) (yieldsIf_load_mid (by rfl) _ _ (by rfl) _ _ (by rfl) _ _ ?Sv12 ?uv12 ?dv12 ?iv12) (by assumption) ?rv12
      case Sv12 => exact (by intro w h; exact h.2.1)
      case uv12 => exact hunF
      case dv12 => rfl
      case iv12 => exact hz1
      (try simp only [List.getElem_toArray, List.getElem_cons_succ, List.getElem_cons_zero, Act.put, List.setIfInBounds_toArray, List.set_cons_zero, List.set_cons_succ])
      refine' wpAnyH_take (i := 13) (v := _) rfl (by kernel_rfl) (by kernel_rfl) (by kernel_rfl) (fun _ _ _ h => h) (yieldsIf_load_mid (by rfl) _ _ (by rfl) _ _ (by rfl) _ _ ?Sv13 ?uv13 ?dv13 ?iv13) (by assumption) ?rv13
      case Sv13 => exact (by intro w h; exact h.2.2)
      case uv13 => exact hunH
      case dv13 => rfl
      case iv13 => exact hz2
      (try simp only [List.getElem_toArray, List.getElem_cons_succ, List.getElem_cons_zero, Act.put, List.setIfInBounds_toArray, List.set_cons_zero, List.set_cons_succ])
      refine wpAnyH_ready (rs := [14]) (by kernel_rfl) (by simp) ?_
      refine AllReadyH.cons rfl (fun K hK => ?_) AllReadyH.nil
      go_simp
      go_wp2_with fail
      (with_reducible refine (HGE.out _).mono ?_)
      rintro e w5 ⟨rfl, hb5⟩
      have hdd5 := below_join hdd hb5
      refine hK.out _ _ (HCL.out _ hdd5) (fun hHeld => ?_)
      clear hK K hb5
      have hbq := hbe.trans (hdd5.mono hbe.size)
      refine wpAnyH_ready (rs := [15]) (by kernel_rfl) (by simp) ?_
      refine AllReadyH.cons rfl (fun K hK => ?_) AllReadyH.nil
      go_simp
      go_wp2_with fail
      (with_reducible refine (HIV.out _ (HQ.out.next hbq)).mono ?_)
      rintro e w6 ⟨rfl, hb6⟩
      have hdd6 := below_join hdd5 hb6
      refine hK.out _ _ (HCL.out _ hdd6) (fun hHeld => ?_)
      clear hK K hb6 hbq
      refine wpAnyH_take (i := 16) (v := ?vv16) rfl (by kernel_rfl) (by kernel_rfl) (by kernel_rfl) (fun _ _ _ h => h) (Or.inl ⟨by rfl, ?yv16⟩) (by assumption) ?rv16
      case yv16 => intro w hSw; (try dsimp only at hSw); go_simp <;> (try with_reducible rfl)
      (try simp only [List.getElem_toArray, List.getElem_cons_succ, List.getElem_cons_zero, Act.put, List.setIfInBounds_toArray, List.set_cons_zero, List.set_cons_succ])
      refine wpAnyH_take (i := 17) (v := ?vv17) rfl (by kernel_rfl) (by kernel_rfl) (by kernel_rfl) (fun _ _ _ h => h) (Or.inl ⟨by rfl, ?yv17⟩) (by assumption) ?rv17
      case yv17 => intro w hSw; (try dsimp only at hSw); go_simp <;> (try with_reducible rfl)
      (try simp only [List.getElem_toArray, List.getElem_cons_succ, List.getElem_cons_zero, Act.put, List.setIfInBounds_toArray, List.set_cons_zero, List.set_cons_succ])
      refine wpAnyH_done (by kernel_rfl) ?_ _
      have B5 := B3.next hdd6 B3.lt
      have hbe5 := hbe.trans (hdd6.mono hbe.size)
      clear hHeld hdd6 hdd5 hdd B3 hbe
      go_wp2
      go_roundw
      case rel => exact ⟨k + 1, S4, by omega, by go_num, rfl, hT.out, B5, hbe5⟩
      case measure => simp [intOf]; omega
    · obtain rfl : n = k := by omega
      have hnk : decide ((n : Int) < (n : Int)) = false := decide_eq_false (by omega)
      obtain ⟨y, hy⟩ : ∃ y, word h 9 = y := ⟨_, rfl⟩
      have hy6 := word_lt h 9
      have c9 := B3.cell (HH.out 9 (by decide))
      rw [hy] at c9 hy6
      by_cases hy0 : y = 0
      · subst hy0
        have hres : Hid (S = ⟨RES.toArray⟩) := by
          have : S = ⟨RES.toArray⟩ := by
            apply ByteArray.ext
            apply Array.ext'
            rw [HSK.out, ← hRES.out]
            unfold showT showG
            rw [if_pos hy, hn.out, List.append_nil]
          exact this
        clear hy
        go_wp2
        go_ret
        exact ⟨by rw [← hres.out]; rfl, hbe⟩
      · have hyi : ((y : Int) != 0) = true := bne_iff_ne.2 (by omega)
        have hyj : (y != 0) = true := bne_iff_ne.2 hy0
        have hy1 : (0 : Int) ≤ (y : Int) := by omega
        have hy9 : (y : Int) ≤ 65536 := by omega
        have hi21 := itoa_21 y (by omega)
        obtain ⟨IY, hIY⟩ : ∃ X, (⟨(Lib.itoa (y : Int)).toArray⟩ : ByteArray) = X := ⟨_, rfl⟩
        have HIY := Lib.hid (fun w q => itoaF_any (y : Int) w hy1 hy9 q)
        rw [hIY] at HIY
        have hIs : IY.size ≤ 21 := by rw [← hIY, arr_len]; exact hi21
        have hIz : (IY.size : Int) ≤ 8388608 := by omega
        obtain ⟨T1, hT1⟩ : ∃ T, S ++ ({ data := #[32, 116, 97, 103, 61] } : ByteArray) = T := ⟨_, rfl⟩
        obtain ⟨T2, hT2⟩ : ∃ T, T1 ++ IY = T := ⟨_, rfl⟩
        have ht1 : T1.size = S.size + 5 := by rw [← hT1, ByteArray.size_append]; rfl
        have r1 : ¬ (9223372036854775807 < S.size + 5) := by omega
        have r2 : ¬ (9223372036854775807 < T1.size + IY.size) := by omega
        have htz : (T1.size : Int) ≤ 8388608 := by omega
        have hres : Hid (T2 = ⟨RES.toArray⟩) := by
          have : T2 = ⟨RES.toArray⟩ := by
            apply ByteArray.ext
            apply Array.ext'
            rw [← hT2, ByteArray.data_append, Array.toList_append, ← hT1, ByteArray.data_append, Array.toList_append, HSK.out, ← hRES.out, ← hIY]
            unfold showT showG
            rw [hy, if_neg hy0, hn.out]
            simp
          exact this
        clear hy hIY ht1 hIs hSs
        go_wp2_with fail
        (with_reducible refine (HIY.out _ (HQ.out.next hbe)).mono ?_)
        rintro e w61 ⟨rfl, hb61⟩
        clear c9
        have B3 := B3.next hb61 B3.lt
        have hbe := below_join hbe hb61
        clear hb61
        go_wp2
        go_ret
        exact ⟨by rw [← hres.out]; rfl, hbe⟩
end Go.Proofs.YtbgndopgllnmaaaDoor
