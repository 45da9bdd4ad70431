/-
  Contract of the walk over the reference's Tokens. No condition.
-/
import Derived.Test.YtlpocfojgibhjaaDoorKUe
namespace Go.Proofs.YtlpocfojgibhjaaDoor
set_option linter.unusedVariables false
set_option linter.unusedSimpArgs false
open Go.RowKit Go.Shelf

theorem run_bE (w : World) (a d e : Int) : (Instr.build 37 #[(0, .int .i64 a), (3, .int .i64 d), (4, .int .i64 e)]).run Tryd.prog w = .ok (.agg #[.int .i64 a, .int .i64 0, .string ByteArray.empty, .int .i64 d, .int .i64 e]) w := by kernel_rfl
def InT (n p ln bg : Nat) (l : List UInt8) (ts R : List Tok) (w2 : World) (a : Value) (wr : World) : Prop :=
  ∃ k : Nat, p ≤ k ∧ k ≤ n ∧ a = .int .i64 (k : Int) ∧ ts ++ toks (l.drop k) true 0 ln (k - bg + 1) = R ∧ wr = w2
theorem toks_35 {b : UInt8} {r : List UInt8} (h : b = 35) (ln cl : Nat) : toks (b :: r) false 0 ln cl = toks (b :: r) true 0 ln cl := by
  rw [toks_cons, toks_cons]
  subst h
  rfl
theorem toks_10 {r : List UInt8} (i : Bool) (ln cl : Nat) : toks (10 :: r) i 0 ln cl = toks r false 0 (ln + 1) 1 := by rw [toks_cons, if_pos rfl]
theorem toks_in {b : UInt8} {r : List UInt8} (h : b ≠ 10) (ln cl : Nat) : toks (b :: r) true 0 ln cl = toks r true 0 ln (cl + 1) := by
  rw [toks_cons, if_neg h, if_pos (Or.inl rfl)]
theorem toks_sep {b : UInt8} {r : List UInt8} (h : b ≠ 10) (h2 : b ≠ 35) (hs : sepB b = true) (ln cl : Nat) : toks (b :: r) false 0 ln cl = toks r false 0 ln (cl + 1) := by
  rw [toks_cons, if_neg h, if_neg (fun e => by rcases e with e | e; cases e; exact h2 e), if_pos hs]
set_option maxRecDepth 100000 in
theorem rtokens_big (s : ByteArray) (hs : 60000 < s.size) (w : World) :
    Calls Tryd.prog 9 #[.string s] w fun e w' => e = .returned (.tuple #[.slice none 0 0, .int .i64 2]) ∧ w' = w := by
  have hi : (60000 : Int) < (s.size : Int) := by omega
  go_enter Tryd.func9, Tryd.ntmps9
  go_wp2
  go_ret2
  exact ⟨rfl, rfl⟩
set_option maxRecDepth 100000 in
set_option maxHeartbeats 6400000 in
theorem rtokens_any (s : ByteArray) (hs : s.size ≤ 60000) (w : World) :
    Calls Tryd.prog 9 #[.string s] w fun e w' => TokRes s.data.toList w e w' ∧ Below w.heap.size w w' := by
  have hi : ¬ (60000 : Int) < (s.size : Int) := by omega
  have hsi : (s.size : Int) ≤ 60000 := by omega
  obtain ⟨l, hl⟩ : ∃ l, s.data.toList = l := ⟨_, rfl⟩
  have hlen := lenS s
  rw [hl] at hlen ⊢
  have HBY : Hid (∀ p (h : p < s.size), ∃ b r, l.drop p = b :: r ∧ s[p]'h = b ∧ l.drop (p + 1) = r) := by
    have : ∀ p (h : p < s.size), ∃ b r, l.drop p = b :: r ∧ s[p]'h = b ∧ l.drop (p + 1) = r := fun p h => by
      have h2 : p < l.length := by omega
      refine ⟨l[p], l.drop (p + 1), List.drop_eq_getElem_cons h2, ?_, rfl⟩
      subst hl
      rw [byte_at s h]
    exact this
  have HTK : Hid (∀ p w, p < s.size → nog (l.drop p) = true → Calls Tryd.prog 33 #[.string (s.extract p s.size)] w fun e w' => e = TokE ((tokM (l.drop p)).kind : Nat) ((tokM (l.drop p)).n : Nat) ((s.extract p s.size).extract 0 (tokM (l.drop p)).len) ∧ Below w.heap.size w w') := by
    have : ∀ p w, p < s.size → nog (l.drop p) = true → Calls Tryd.prog 33 #[.string (s.extract p s.size)] w fun e w' => e = TokE ((tokM (l.drop p)).kind : Nat) ((tokM (l.drop p)).n : Nat) ((s.extract p s.size).extract 0 (tokM (l.drop p)).len) ∧ Below w.heap.size w w' := fun p w h hn => by
      have e : (s.extract p s.size).data.toList = l.drop p := by rw [tail_list, hl]
      have := rtoken_any (s.extract p s.size) (by rw [tail_size]; omega) (by rw [e]; exact hn) w
      rw [e] at this
      exact this
    exact this
  have HTX : Hid (∀ p k, ((s.extract p s.size).extract 0 k).data.toList = (l.drop p).take k) := by
    have : ∀ p k, ((s.extract p s.size).extract 0 k).data.toList = (l.drop p).take k := fun p k => by rw [cut_ls, tail_list, hl]
    exact this
  clear hl
  obtain ⟨R, hR⟩ : ∃ R, Hid (toks l false 0 1 1 = R) := ⟨_, rfl⟩
  unfold TokRes
  rw [hR.out]
  have HLEN := Lib.hid hlen
  clear hlen
  go_enter Tryd.func9, Tryd.ntmps9
  go_wp2
  go_loopw [4, 5, 6, 7] (fun v b c a wr => TkRel l R w v a b c wr) (fun _ _ _ a _ => s.size + 1 - (intOf a).toNat)
  case atStart => exact ⟨0, 1, 0, [], rfl, rfl, rfl, Nat.zero_le _, Nat.le_refl _, Nat.le_refl _, Nat.le_refl _, World.ownsRow_nil _ _ _ _, by rw [← hR.out]; rfl, Below.refl _ _⟩
  case round =>
    obtain ⟨p, ln, bg, ts, rfl, rfl, rfl, hp, hbp, hln, hts, Ov, hq, hbe⟩ := hrel
    rw [HLEN.out] at hp
    have hp0 : (0 : Int) ≤ (p : Int) := by omega
    have hpb : (p : Int) ≤ 60000 := by omega
    have hlb : (ln : Int) ≤ 60001 := by omega
    have hl0 : (0 : Int) ≤ (ln : Int) := by omega
    have hbb : (bg : Int) ≤ (p : Int) := by omega
    have hb0 : (0 : Int) ≤ (bg : Int) := by omega
    by_cases hlt : p < s.size
    · have hpi : (p : Int) < (s.size : Int) := by omega
      have hpi2 : (p : Int) ≤ (s.size : Int) := by omega
      obtain ⟨b, r, hd, hsb, hr⟩ := HBY.out p hlt
      have HP := fun w => rblank_any b w
      by_cases h10 : b = 10
      · have hnew : ts ++ toks (l.drop (p + 1)) false 0 (ln + 1) (p + 1 - (p + 1) + 1) = R := by
          rw [← hq, hd, h10, toks_10, hr, Nat.sub_self]
        have HN := Lib.hid hnew
        have k10 : ((b.toNat : Int) == 10) = true := by rw [h10]; rfl
        clear hq hd hr h10 hnew
        go_wp2_with fail
        (with_reducible refine (HP _).mono ?_)
        rintro e w2 ⟨rfl, hb2⟩
        have Ov := own_next Ov hb2
        have hbe := below_join hbe hb2
        clear hb2
        go_wp2
        go_roundw
        case rel => exact ⟨p + 1, ln + 1, p + 1, ts, by go_num, by go_num, by go_num, by rw [HLEN.out]; omega, Nat.le_refl _, by omega, by omega, Ov, HN.out, hbe⟩
        case measure => simp [intOf]; omega
      · have k10 : ((b.toNat : Int) == 10) = false := beq_eq_false_iff_ne.2 fun e => h10 (UInt8.toNat_inj.1 (by simpa using (by omega : b.toNat = 10)))
        by_cases h35 : b = 35
        · have hq35 : ts ++ toks (l.drop p) true 0 ln (p - bg + 1) = R := by rw [← hq, hd, toks_35 h35]
          have HQ35 := Lib.hid hq35
          have k35 : ((b.toNat : Int) == 35) = true := by rw [h35]; rfl
          have hsf : sepB b = false := by rw [h35]; rfl
          rw [hsf] at HP
          have HNE : Hid (s[p]'hlt ≠ 10) := by
            have : s[p]'hlt ≠ 10 := by rw [hsb]; exact h10
            exact this
          clear hq hd hr h10 h35 hq35 hsf
          go_wp2_with fail
          (with_reducible refine (HP _).mono ?_)
          rintro e w2 ⟨rfl, hb2⟩
          have Ov := own_next Ov hb2
          have hbe := below_join hbe hb2
          have HOV := Lib.hid Ov
          have HBE := Lib.hid hbe
          clear hb2 Ov hbe
          go_wp2
          go_loopw [7] (InT s.size p ln bg l ts R w2) (fun a _ => s.size + 1 - (intOf a).toNat)
          case atStart => exact ⟨p, Nat.le_refl _, hp, rfl, HQ35.out, rfl⟩
          case round =>
            obtain ⟨k, hpk, hk, rfl, hq2, rfl⟩ := hrel
            have hkb : (k : Int) ≤ 60000 := by omega
            have hk0 : (0 : Int) ≤ (k : Int) := by omega
            clear hsb k10 k35 hpi hpi2
            by_cases hlt2 : k < s.size
            · have hki : (k : Int) < (s.size : Int) := by omega
              obtain ⟨c, r2, hd2, hsc, hr2⟩ := HBY.out k hlt2
              by_cases hc : c = 10
              · have hq3 : ts ++ toks (l.drop k) false 0 ln (k - bg + 1) = R := by rw [← hq2, hd2, hc, toks_10, toks_10]
                have hpk2 : p < k := by
                  rcases Nat.lt_or_ge p k with h | h
                  · exact h
                  · have e : k = p := by omega
                    subst e
                    exact absurd (hsc.trans hc) HNE.out
                have HQ3 := Lib.hid hq3
                have kc : ((c.toNat : Int) == 10) = true := by rw [hc]; rfl
                clear hq2 hd2 hr2 hc hq3
                go_wp2
                go_roundw
                case rel => exact ⟨k, ln, bg, ts, rfl, rfl, rfl, by rw [HLEN.out]; omega, by omega, by omega, by omega, HOV.out, HQ3.out, HBE.out⟩
                case measure => simp [intOf]; omega
              · have hq3 : ts ++ toks (l.drop (k + 1)) true 0 ln (k + 1 - bg + 1) = R := by
                  rw [← hq2, hd2, toks_in hc, hr2]
                  congr 2
                  omega
                have HQ3 := Lib.hid hq3
                have kc : ((c.toNat : Int) == 10) = false := beq_eq_false_iff_ne.2 fun e => hc (UInt8.toNat_inj.1 (by simpa using (by omega : c.toNat = 10)))
                clear hq2 hd2 hr2 hc hq3
                go_wp2
                go_roundw
                case rel => exact ⟨k + 1, by omega, hlt2, by go_num, HQ3.out, rfl⟩
                case measure => simp [intOf]; omega
            · have hki : ¬ (k : Int) < (s.size : Int) := by omega
              have hend : l.drop k = [] := List.drop_eq_nil_of_le (by rw [HLEN.out]; omega)
              have hq3 : ts ++ toks (l.drop k) false 0 ln (k - bg + 1) = R := by rw [← hq2, hend, toks_end, toks_end]
              have HQ3 := Lib.hid hq3
              have hpk2 : p < k := by omega
              clear hq2 hend hq3
              go_wp2
              go_roundw
              case rel => exact ⟨k, ln, bg, ts, rfl, rfl, rfl, by rw [HLEN.out]; omega, by omega, by omega, by omega, HOV.out, HQ3.out, HBE.out⟩
              case measure => simp [intOf]; omega
        · have k35 : ((b.toNat : Int) == 35) = false := beq_eq_false_iff_ne.2 fun e => h35 (UInt8.toNat_inj.1 (by simpa using (by omega : b.toNat = 35)))
          by_cases hs2 : sepB b = true
          · have hnew : ts ++ toks (l.drop (p + 1)) false 0 ln (p + 1 - bg + 1) = R := by
              rw [← hq, hd, toks_sep h10 h35 hs2, hr]
              congr 2
              omega
            have HN := Lib.hid hnew
            rw [hs2] at HP
            clear hq hd hr h10 h35 hnew hs2
            go_wp2_with fail
            (with_reducible refine (HP _).mono ?_)
            rintro e w2 ⟨rfl, hb2⟩
            have Ov := own_next Ov hb2
            have hbe := below_join hbe hb2
            clear hb2
            go_wp2
            go_roundw
            case rel => exact ⟨p + 1, ln, bg, ts, by go_num, rfl, rfl, by rw [HLEN.out]; omega, by omega, by omega, by omega, Ov, HN.out, hbe⟩
            case measure => simp [intOf]; omega
          · have hsf : sepB b = false := by simpa using hs2
            have hnog : nog (l.drop p) = true := by
              rw [hd]
              simp [nog, hsf, h35]
            rw [hsf] at HP
            have HF := fun w => HTK.out p w hlt hnog
            have htl := tokM_le (l.drop p)
            rw [List.length_drop, HLEN.out] at htl
            have hTL := HTX.out p (tokM (l.drop p)).len
            have hTS : ((s.extract p s.size).extract 0 (tokM (l.drop p)).len).size = (tokM (l.drop p)).len := by
              rw [← bytes_size, hTL, List.length_take, List.length_drop, HLEN.out]; omega
            obtain ⟨X, hX⟩ : ∃ X, (s.extract p s.size).extract 0 (tokM (l.drop p)).len = X := ⟨_, rfl⟩
            rw [hX] at HF hTS hTL
            have hTB : (⟨((l.drop p).take (tokM (l.drop p)).len).toArray⟩ : ByteArray) = X := data_inj (by rw [hTL])
            obtain ⟨col, hcol⟩ : ∃ col, p - bg + 1 = col := ⟨_, rfl⟩
            rw [hcol] at hq
            have hmore : (ts ++ [tokAt (l.drop p) ln col]) ++ toks (l.drop (p + (tokM (l.drop p)).len)) false 0 ln (col + (tokM (l.drop p)).len) = R ∧ 0 < (tokM (l.drop p)).len := by
              refine ⟨?_, tokM_pos hnog⟩
              rw [← hq, toks_tok hnog, List.append_assoc, List.drop_drop]
              rfl
            have hcells : tCells (tokAt (l.drop p) ln col) = [.int .i64 ((tokM (l.drop p)).kind : Int), .int .i64 ((tokM (l.drop p)).n : Int), .string X, .int .i64 (ln : Int), .int .i64 (col : Int)] := by
              rw [← hTB]; rfl
            obtain ⟨TK, hTK⟩ : ∃ t, tokAt (l.drop p) ln col = t := ⟨_, rfl⟩
            rw [hTK] at hmore hcells
            obtain ⟨M, hM⟩ : ∃ M, tokM (l.drop p) = M := ⟨_, rfl⟩
            rw [hM] at HF hTS htl hmore hcells
            obtain ⟨kd, nn, m⟩ := M
            simp only at HF hTS htl hmore hcells
            unfold TokE at HF
            have HM := Lib.hid hmore
            have HCE := Lib.hid hcells
            have HTS2 := Lib.hid hTS
            have hm0 : 0 < m := hmore.2
            have hcoli : (p : Int) - (bg : Int) + 1 = (col : Int) := by omega
            have hXi : (X.size : Int) = (m : Int) := by omega
            have hpm : (p : Int) + (m : Int) ≤ 60000 := by omega
            have hm00 : (0 : Int) ≤ (m : Int) := by omega
            have HCOL := Lib.hid hcol
            clear hmore hcells hTS hTL hTB hTK hM hX hq hd hr h10 h35 hs2 hsf hnog hcol
            go_wp2_with fail
            (with_reducible refine (HP _).mono ?_)
            rintro e w11 ⟨rfl, hb11⟩
            have Ov := own_next Ov hb11
            have hbe := below_join hbe hb11
            clear hb11
            go_wp2_with fail
            (with_reducible refine (HF _).mono ?_)
            rintro e w12 ⟨rfl, hb12⟩
            have Ov := own_next Ov hb12
            have hbe := below_join hbe hb12
            clear hb12
            go_wp2_with (with_reducible refine wpList_alloc (o := ⟨some 9, .alloc 37, _, _, _, _⟩) (by with_unfolding_all rfl) 37 (by with_unfolding_all rfl) (.agg #[.int .i64 0, .int .i64 0, .string ByteArray.empty, .int .i64 0, .int .i64 0]) [Value.int .i64 0, .int .i64 0, .string ByteArray.empty, .int .i64 0, .int .i64 0] (by exact Tryd.zeroTok) (by with_unfolding_all rfl) ?_)
            intro g9 w13 hg9 hs13 hb13 B9
            have onOv_9 : ∀ q, Value.ownBlock u4 = some q → q ≠ g9 := fun q hq e => by have := (own_base Ov q hq).2; have := hg9.out; omega
            have hl9 : w.heap.size ≤ g9 := Nat.le_trans hbe.size (Nat.le_of_eq hg9.out.symm)
            have hb13 := hb13.mono (Nat.le_of_eq hg9.out.symm)
            have Ov := own_next Ov hb13
            have hbe := below_join hbe hb13
            clear hb13 hg9 hs13
            go_wp2_with (with_reducible refine wpList_put (o := ⟨none, .store 37 (.tmp 9) (.tmp 24), _, _, _, _⟩) (by with_unfolding_all rfl) 37 (.tmp 9) (.tmp 24) (by with_unfolding_all rfl) g9 0 (by with_unfolding_all rfl) (.agg #[.int .i64 (kd : Int), .int .i64 (nn : Int), .string X, .int .i64 0, .int .i64 0]) (by with_unfolding_all rfl) B9 [Value.int .i64 (kd : Int), .int .i64 (nn : Int), .string X, .int .i64 0, .int .i64 0] (by with_unfolding_all rfl) (by with_unfolding_all (exact Tryd.szTok)) (by with_unfolding_all (exact Nat.le_refl 5)) (by with_unfolding_all (exact tok_one _ _ _ _ _)) ?_)
            intro w14 hu14 C9
            rw [splice_all _ _ (by rfl)] at C9
            have Ov := own_keep Ov (fun q hq => hu14.block q (onOv_9 q hq))
            have hbe := hbe.trans (hu14.below (B := w.heap.size) hl9)
            clear B9 hu14
            have B9 := C9
            clear C9
            go_wp2_with (with_reducible refine wpList_put (o := ⟨none, .store 3 (.tmp 26) (.tmp 25), _, _, _, _⟩) (by with_unfolding_all rfl) 3 (.tmp 26) (.tmp 25) (by with_unfolding_all rfl) g9 3 (by with_unfolding_all rfl) (.int .i64 (ln : Int)) (by with_unfolding_all rfl) B9 [(.int .i64 (ln : Int))] (by with_unfolding_all rfl) (by with_unfolding_all (exact Tryd.szInt)) (by with_unfolding_all (exact Nat.le_of_ble_eq_true rfl)) (by with_unfolding_all (exact one_cell1 rfl)) ?_)
            intro w15 hu15 C9
            have C9 : Blk w15 g9 37 [Value.int .i64 (kd : Int), .int .i64 (nn : Int), .string X, .int .i64 (ln : Int), .int .i64 0] := C9
            have Ov := own_keep Ov (fun q hq => hu15.block q (onOv_9 q hq))
            have hbe := hbe.trans (hu15.below (B := w.heap.size) hl9)
            clear B9 hu15
            have B9 := C9
            clear C9
            go_wp2_with (with_reducible refine wpList_put (o := ⟨none, .store 3 (.tmp 31) (.tmp 30), _, _, _, _⟩) (by with_unfolding_all rfl) 3 (.tmp 31) (.tmp 30) (by with_unfolding_all rfl) g9 4 (by with_unfolding_all rfl) (.int .i64 (col : Int)) (by with_unfolding_all rfl) B9 [(.int .i64 (col : Int))] (by with_unfolding_all rfl) (by with_unfolding_all (exact Tryd.szInt)) (by with_unfolding_all (exact Nat.le_of_ble_eq_true rfl)) (by with_unfolding_all (exact one_cell1 rfl)) ?_)
            intro w16 hu16 C9
            have C9 : Blk w16 g9 37 [Value.int .i64 (kd : Int), .int .i64 (nn : Int), .string X, .int .i64 (ln : Int), .int .i64 (col : Int)] := C9
            have Ov := own_keep Ov (fun q hq => hu16.block q (onOv_9 q hq))
            have hbe := hbe.trans (hu16.below (B := w.heap.size) hl9)
            clear B9 hu16
            have B9 := C9
            clear C9
            have z9_0 := B9.cell (k := 0) rfl
            have z9_1 := B9.cell (k := 1) rfl
            have z9_2 := B9.cell (k := 2) rfl
            have z9_3 := B9.cell (k := 3) rfl
            have z9_4 := B9.cell (k := 4) rfl
            go_wp2_with (with_reducible refine wpList_rowT (o := ⟨some 34, .buildSlice 23 1 #[(0, .tmp 33)], _, _, _, _⟩) (by with_unfolding_all rfl) (.tmp 33) (by with_unfolding_all rfl) (kd : Int) (nn : Int) X (ln : Int) (col : Int) (by with_unfolding_all rfl) ?_)
            intro gr w17 hgr hb17 Br
            clear z9_0 z9_1 z9_2 z9_3 z9_4
            have Ov := own_next Ov hb17
            have B9 := B9.next hb17 B9.lt
            have hbe := below_join hbe hb17
            clear hgr
            have hT0 : w.heap.size ≤ w17.heap.size := hbe.size
            have HON := Lib.hid (own_base Ov)
            have e9 := fun q hq => (onOv_9 q hq).symm
            go_wp2_with (with_reducible refine wpList_appT (o := ⟨some 35, .call ⟨.builtin .append, #[.tmp 32, .tmp 34], #[23, 23]⟩, _, _, _, _⟩) (by with_unfolding_all rfl) (.tmp 32) (.tmp 34) (by with_unfolding_all rfl) w.heap.size u4 ts.length (flatT ts) (by with_unfolding_all rfl) Ov gr 0 1 1 [Value.int .i64 (kd : Int), .int .i64 (nn : Int), .string X, .int .i64 (ln : Int), .int .i64 (col : Int)] (by with_unfolding_all rfl) (by exact fun j y hy => by rw [Nat.zero_add]; exact Br.cell hy) (by with_unfolding_all rfl) (by exact tok_one _ _ _ _ _) (by omega) hT0 ?_)
            intro v18 w18 Ow hgw
            have hbx := below_grown hgw (fun q hq => (HON.out q hq).1) hT0
            have hbe := hbe.trans hbx
            have B9 : Blk w18 g9 37 [Value.int .i64 (kd : Int), .int .i64 (nn : Int), .string X, .int .i64 (ln : Int), .int .i64 (col : Int)] := (hgw.block g9 B9.lt (fun e => onOv_9 g9 e.symm rfl)).trans B9
            clear hbx hgw Br Ov HON e9 hT0
            have z9_0 := B9.cell (k := 0) rfl
            have z9_2 := B9.cell (k := 2) rfl
            go_wp2
            go_roundw
            case rel => exact ⟨p + m, ln, bg, ts ++ [TK], by go_num, rfl, rfl, by rw [HLEN.out]; omega, by omega, by omega, by rw [List.length_append]; simp only [List.length_cons, List.length_nil]; omega, by rw [List.length_append, flatT_snoc, HCE.out]; exact Ow, by rw [← HM.out.1]; congr 2; have := HCOL.out; omega, hbe⟩
            case measure => simp [intOf]; omega
    · have hpi : ¬ (p : Int) < (s.size : Int) := by omega
      have hend : l.drop p = [] := List.drop_eq_nil_of_le (by rw [HLEN.out]; omega)
      obtain ⟨col, hcol⟩ : ∃ col, p - bg + 1 = col := ⟨_, rfl⟩
      have hcoli : (p : Int) - (bg : Int) + 1 = (col : Int) := by omega
      rw [hend, toks_end, hcol] at hq
      have HF1 : Hid (R.length = ts.length + 1) := by
        have : R.length = ts.length + 1 := by rw [← hq, List.length_append]; rfl
        exact this
      have HF2 : Hid (flatT ts ++ [Value.int .i64 6, .int .i64 0, .string ByteArray.empty, .int .i64 (ln : Int), .int .i64 (col : Int)] = flatT R) := by
        have : flatT ts ++ [Value.int .i64 6, .int .i64 0, .string ByteArray.empty, .int .i64 (ln : Int), .int .i64 (col : Int)] = flatT R := by
          rw [← hq, flatT_snoc]; rfl
        exact this
      clear hq hend hcol
      go_wp2_with (first | (with_reducible refine wpList_build (o := ⟨some 78, .build 37 #[(0, .const (.int .i64 6)), (3, .tmp 73), (4, .tmp 77)], _, _, _, _⟩) (by with_unfolding_all rfl) 37 #[(0, .const (.int .i64 6)), (3, .tmp 73), (4, .tmp 77)] (by with_unfolding_all rfl) #[(0, .int .i64 6), (3, .int .i64 (ln : Int)), (4, .int .i64 (col : Int))] (by with_unfolding_all rfl) (.agg #[.int .i64 6, .int .i64 0, .string ByteArray.empty, .int .i64 (ln : Int), .int .i64 (col : Int)]) (by with_unfolding_all exact fun w => (fun w => run_bE w 6 (ln : Int) (col : Int)) w) ?_) | (with_reducible refine wpList_rowT (o := ⟨some 79, .buildSlice 23 1 #[(0, .tmp 78)], _, _, _, _⟩) (by with_unfolding_all rfl) (.tmp 78) (by with_unfolding_all rfl) 6 0 ByteArray.empty (ln : Int) (col : Int) (by with_unfolding_all rfl) ?_))
      intro gr w31 hgr hb31 Br
      have Ov := own_next Ov hb31
      have hbe := below_join hbe hb31
      clear hgr
      have hT0 : w.heap.size ≤ w31.heap.size := hbe.size
      have HON := Lib.hid (own_base Ov)
      go_wp2_with (with_reducible refine wpList_appT (o := ⟨some 80, .call ⟨.builtin .append, #[.tmp 72, .tmp 79], #[23, 23]⟩, _, _, _, _⟩) (by with_unfolding_all rfl) (.tmp 72) (.tmp 79) (by with_unfolding_all rfl) w.heap.size u4 ts.length (flatT ts) (by with_unfolding_all rfl) Ov gr 0 1 1 [Value.int .i64 6, .int .i64 0, .string ByteArray.empty, .int .i64 (ln : Int), .int .i64 (col : Int)] (by with_unfolding_all rfl) (by exact fun j y hy => by rw [Nat.zero_add]; exact Br.cell hy) (by with_unfolding_all rfl) (by exact tok_one _ _ _ _ _) (by omega) hT0 ?_)
      intro v32 w32 Ow hgw
      have hbx := below_grown hgw (fun q hq => (HON.out q hq).1) hT0
      have hbe := hbe.trans hbx
      clear hbx hgw Br Ov HON hT0
      obtain ⟨AA, cc, hv, _⟩ := own_shape Ow
      subst hv
      go_wp2
      go_ret2
      rw [HF2.out, ← HF1.out] at Ow
      exact ⟨⟨AA, cc, by rw [HF1.out]; rfl, Ow⟩, hbe⟩
end Go.Proofs.YtlpocfojgibhjaaDoor
