/-
  Contract of the walk over Tokens. Conditions: the program's tables lie there.
-/
import Derived.Test.YtcefaipjncohmaaGreatDoorQm
namespace Go.Proofs.YtcefaipjncohmaaGreatDoor
set_option linter.unusedVariables false
set_option linter.unusedSimpArgs false
open Go.RowKit Go.Shelf

theorem toks_len : ∀ (l : List UInt8) (ins : Bool) (k ln cl : Nat), (toks l ins k ln cl).length ≤ l.length + 1
  | [], ins, k, ln, cl => by rw [toks_end]; simp
  | b :: r, ins, k + 1, ln, cl => by
    rw [toks_skip]
    have := toks_len r ins k ln (cl + 1)
    simp only [List.length_cons]; omega
  | b :: r, ins, 0, ln, cl => by
    rw [toks_cons]
    simp only [List.length_cons]
    split
    · have := toks_len r false 0 (ln + 1) 1; omega
    · split
      · have := toks_len r true 0 ln (cl + 1); omega
      · split
        · have := toks_len r false 0 ln (cl + 1); omega
        · have := toks_len r false ((tokM (b :: r)).len - 1) ln (cl + 1)
          simp only [List.length_cons]; omega
theorem kindM_ne (l : List UInt8) : kindM l ≠ 6 ∧ kindM l ≤ 5 := by
  unfold kindM
  split
  · decide
  · split <;> decide
theorem tokM_kind {l : List UInt8} (h : nog l = true) : (tokM l).kind ≠ 6 ∧ (tokM l).kind ≤ 5 := by
  cases l with
  | nil => cases h
  | cons b r =>
    rw [tokM_cons]
    split
    · exact kindM_ne _
    · split
      · split <;> (constructor <;> simp)
      · split <;> (constructor <;> simp)
theorem count_le (l : List UInt8) : l.count 10 ≤ l.length := List.count_le_length
def TkRel (l : List UInt8) (R : List Tok) (w : World) (v a b c : Value) (wr : World) : Prop :=
  ∃ (p ln bg : Nat) (ts : List Tok), a = .int .i64 (p : Int) ∧ b = .int .i64 (ln : Int) ∧ c = .int .i64 (bg : Int) ∧ p ≤ l.length ∧ bg ≤ p ∧ ln ≤ p + 1 ∧ ts.length ≤ p ∧ wr.ownsRow w.heap.size 30 5 v ts.length (flatT ts) ∧ ts ++ toks (l.drop p) false 0 ln (p - bg + 1) = R ∧ Below w.heap.size w wr
/-- What Tokens returns. -/
def TokRes (l : List UInt8) (w : World) (e : Ending) (w' : World) : Prop := ∃ A c, e = .returned (.tuple #[.slice A (toks l false 0 1 1).length c, .int .i64 0]) ∧ w'.ownsRow w.heap.size 30 5 (.slice A (toks l false 0 1 1).length c) (toks l false 0 1 1).length (flatT (toks l false 0 1 1))
set_option maxRecDepth 100000 in
theorem tokens_big (s : ByteArray) (hs : 60000 < s.size) (w : World) :
    Calls Tryz.prog 5 #[.string s] w fun e w' => e = .returned (.tuple #[.slice none 0 0, .int .i64 2]) ∧ w' = w := by
  have hi : (60000 : Int) < (s.size : Int) := by omega
  go_enter Tryz.func5, Tryz.ntmps5
  go_wp2
  go_ret2
  exact ⟨rfl, rfl⟩
set_option maxRecDepth 100000 in
set_option maxHeartbeats 6400000 in
theorem tokens_any (s : ByteArray) (hs : s.size ≤ 60000) (wE : World) (hT : TT wE) :
    Calls Tryz.prog 5 #[.string s] wE fun e w' => TokRes s.data.toList wE e w' ∧ Below wE.heap.size wE w' := by
  have hi : ¬ (60000 : Int) < (s.size : Int) := by omega
  obtain ⟨l, hl⟩ : ∃ l, s.data.toList = l := ⟨_, rfl⟩
  have hlen := lenS s
  rw [hl] at hlen ⊢
  have HTL : Hid (∀ k, (s.extract k s.size).data.toList = l.drop k) := by
    have : ∀ k, (s.extract k s.size).data.toList = l.drop k := fun k => by rw [tail_list, hl]
    exact this
  have HTS : Hid (∀ k, (s.extract k s.size).size = s.size - k) := by
    have : ∀ k, (s.extract k s.size).size = s.size - k := fun k => tail_size s k
    exact this
  clear hl
  obtain ⟨R, hR⟩ : ∃ R, Hid (toks l false 0 1 1 = R) := ⟨_, rfl⟩
  unfold TokRes
  rw [hR.out]
  have HLEN := Lib.hid hlen
  have HTE := Lib.hid hT
  clear hlen hT
  go_enter Tryz.func5, Tryz.ntmps5
  go_wp2_with fail
  (with_reducible refine (readers_any _).mono ?_)
  rintro e w ⟨⟨gw, gk, rfl, hRD⟩, hbE⟩
  have HRD := Lib.hid hRD
  have HT := Lib.hid (HTE.out.next hbE)
  have HbE := Lib.hid hbE
  clear hRD hbE HTE
  go_wp2
  go_loopw [4, 6, 7, 8] (TkRel l R w) (fun _ a _ _ _ => s.size + 1 - (intOf a).toNat)
  case atStart => exact ⟨0, 1, 0, [], rfl, rfl, rfl, Nat.zero_le _, Nat.le_refl _, Nat.le_refl _, Nat.le_refl _, World.ownsRow_nil _ _ _ _, by rw [← hR.out]; rfl, Below.refl _ _⟩
  case round =>
    obtain ⟨p, ln, bg, ts, rfl, rfl, rfl, hp, hbp, hln, hts, Ov, hq, hbe⟩ := hrel
    rw [HLEN.out] at hp
    have hpi : (p : Int) ≤ (s.size : Int) := by omega
    have hp0 : (0 : Int) ≤ (p : Int) := by omega
    have hg := gapL_le false (l.drop p)
    have hgn := gapL_nog false (l.drop p)
    have htg := toks_gap (l.drop p) false ln (p - bg + 1)
    have hGap := fun w => gap_any (s.extract p s.size) (by rw [HTS.out]; omega) w
    rw [HTL.out] at hGap
    rw [List.length_drop, HLEN.out] at hg
    obtain ⟨g, hgg⟩ : ∃ g, gapL false (l.drop p) = g := ⟨_, rfl⟩
    rw [hgg] at hg hgn htg hGap
    have hGs : ((s.extract p s.size).extract 0 g).size = g := by
      rw [← bytes_size, cut_ls, HTL.out, List.length_take, List.length_drop, HLEN.out]; omega
    have hGL : ((s.extract p s.size).extract 0 g).data.toList = (l.drop p).take g := by rw [cut_ls, HTL.out]
    obtain ⟨G, hG⟩ : ∃ G, (s.extract p s.size).extract 0 g = G := ⟨_, rfl⟩
    rw [hG] at hGap hGs hGL
    rw [← hGL, List.drop_drop] at htg
    rw [List.drop_drop] at hgn
    have hC := fun w => count_lib G 10 w
    have hcn := count_le G.data.toList
    rw [bytes_size, hGs] at hcn
    rw [show Lib.countByte G.data.toList 10 = G.data.toList.count 10 from rfl] at hC
    obtain ⟨cn, hcc⟩ : ∃ cn, G.data.toList.count 10 = cn := ⟨_, rfl⟩
    rw [hcc] at hC hcn htg
    have hL := fun w => last_lib G (by omega) w
    have hcol := col_last G (p - bg + 1)
    obtain ⟨col, hcl⟩ : ∃ col, colL (p - bg + 1) G.data.toList = col := ⟨_, rfl⟩
    rw [hcl] at htg hcol
    obtain ⟨p2, hp2⟩ : ∃ p2, p + g = p2 := ⟨_, rfl⟩
    rw [hp2] at htg hgn
    rw [htg] at hq
    obtain ⟨ln2, hl2⟩ : ∃ ln2, ln + cn = ln2 := ⟨_, rfl⟩
    rw [hl2] at hq
    have hF := fun w hR hT => first_any (s.extract p2 s.size) gw gk (by rw [HTS.out]; omega) (by rw [HTL.out]; exact hgn) w hR hT
    rw [HTL.out] at hF
    have htl := tokM_le (l.drop p2)
    rw [List.length_drop, HLEN.out] at htl
    have hTS : ((s.extract p2 s.size).extract 0 (tokM (l.drop p2)).len).size = (tokM (l.drop p2)).len := by
      rw [← bytes_size, cut_ls, HTL.out, List.length_take, List.length_drop, HLEN.out]; omega
    have hTL : ((s.extract p2 s.size).extract 0 (tokM (l.drop p2)).len).data.toList = (l.drop p2).take (tokM (l.drop p2)).len := by rw [cut_ls, HTL.out]
    obtain ⟨X, hX⟩ : ∃ X, (s.extract p2 s.size).extract 0 (tokM (l.drop p2)).len = X := ⟨_, rfl⟩
    rw [hX] at hF hTS hTL
    have hTB : (⟨((l.drop p2).take (tokM (l.drop p2)).len).toArray⟩ : ByteArray) = X := data_inj (by rw [hTL])
    have hend : l.drop p2 = [] → ts ++ [⟨6, 0, [], ln2, col⟩] = R ∧ (tokM (l.drop p2)).kind = 6 ∧ (tokM (l.drop p2)).n = 0 ∧ X = tB ⟨6, 0, [], ln2, col⟩ := fun e => by
      refine ⟨by rw [← hq, e, toks_end], by rw [e]; rfl, by rw [e]; rfl, ?_⟩
      rw [← hTB, e]; rfl
    have hmore : nog (l.drop p2) = true → (ts ++ [tokAt (l.drop p2) ln2 col]) ++ toks (l.drop (p2 + (tokM (l.drop p2)).len)) false 0 ln2 (col + (tokM (l.drop p2)).len) = R ∧ 0 < (tokM (l.drop p2)).len ∧ (tokM (l.drop p2)).kind ≠ 6 ∧ (tokM (l.drop p2)).kind ≤ 5 := fun e => by
      refine ⟨?_, tokM_pos e, (tokM_kind e).1, (tokM_kind e).2⟩
      rw [← hq, toks_tok e, List.append_assoc, List.drop_drop]
      rfl
    have hcells : tCells (tokAt (l.drop p2) ln2 col) = [.int .i64 ((tokM (l.drop p2)).kind : Int), .int .i64 ((tokM (l.drop p2)).n : Int), .string X, .int .i64 (ln2 : Int), .int .i64 (col : Int)] := by
      rw [← hTB]; rfl
    obtain ⟨TK, hTK⟩ : ∃ t, tokAt (l.drop p2) ln2 col = t := ⟨_, rfl⟩
    rw [hTK] at hmore hcells
    obtain ⟨M, hM⟩ : ∃ M, tokM (l.drop p2) = M := ⟨_, rfl⟩
    rw [hM] at hF hTS htl hend hmore hcells
    obtain ⟨kd, nn, m⟩ := M
    simp only at hF hTS htl hend hmore hcells
    unfold TokE at hF
    have hgo : l.drop p2 = [] ∨ nog (l.drop p2) = true := hgn
    have HE := Lib.hid hend
    have HM := Lib.hid hmore
    have HCE := Lib.hid hcells
    have HGO := Lib.hid hgo
    have HTS2 := Lib.hid hTS
    have HGS := Lib.hid hGs
    clear hend hmore hcells hgo hTS hTL hTB hTK hM hX hG hGL hgg hcc hcl htg hgn hq
    have hadd1 : (ln : Int) + (cn : Int) = (ln2 : Int) := by omega
    have hgi : (G.size : Int) = (g : Int) := by have := HGS.out; omega
    have hadd2 : (p : Int) + (g : Int) = (p2 : Int) := by omega
    have hp2s : p2 ≤ s.size := by omega
    have hp2i : (p2 : Int) ≤ (s.size : Int) := by omega
    have hp20 : (0 : Int) ≤ (p2 : Int) := by omega
    have hXi : (X.size : Int) = (m : Int) := by have := HTS2.out; omega
    have hadd3 : (p2 : Int) + (m : Int) = ((p2 + m : Nat) : Int) := by omega
    have hmb : (m : Int) ≤ 60000 := by omega
    have hmb0 : (0 : Int) ≤ (m : Int) := by omega
    have hp2b : (p2 : Int) ≤ 60000 := by omega
    have hpm : (p2 : Int) + (m : Int) ≤ 60000 := by omega
    clear hadd3
    rcases hcol with ⟨hneg, hcol⟩ | ⟨i, hig, hpos, hcol⟩
    · skip
      have hneg2 : ¬ (0 : Int) ≤ -1 := by omega
      rw [hneg] at hL
      have hcoli : (p2 : Int) - (bg : Int) + 1 = (col : Int) := by omega
      clear hcol
      rcases HGO.out with hz | hz
      · have HE1 := Lib.hid (HE.out hz)
        clear hz HE HM
        have hk6 : ((kd : Int) == 6) = true := by rw [HE1.out.2.1]; rfl
        have HF1 : Hid (R.length = ts.length + 1) := by
          have : R.length = ts.length + 1 := by rw [← HE1.out.1, List.length_append]; rfl
          exact this
        have HF2 : Hid (flatT ts ++ [Value.int .i64 (kd : Int), .int .i64 (nn : Int), .string X, .int .i64 (ln2 : Int), .int .i64 (col : Int)] = flatT R) := by
          have : flatT ts ++ [Value.int .i64 (kd : Int), .int .i64 (nn : Int), .string X, .int .i64 (ln2 : Int), .int .i64 (col : Int)] = flatT R := by
            rw [← HE1.out.1, flatT_snoc, HE1.out.2.1, HE1.out.2.2.1, HE1.out.2.2.2]; rfl
          exact this
        clear HE1
        go_wp2_with fail
        (with_reducible refine (hGap _).mono ?_)
        rintro e w11 ⟨rfl, hb11⟩
        have Ov := own_next Ov hb11
        have hbe := below_join hbe hb11
        clear hb11
        go_wp2_with fail
        (with_reducible refine (hC _).mono ?_)
        rintro e w12 ⟨rfl, rfl⟩
        go_wp2_with fail
        (with_reducible refine (hL _).mono ?_)
        rintro e w12 ⟨rfl, rfl⟩
        go_wp2_with fail
        (with_reducible refine (hF _ (HRD.out.next hbe) (HT.out.next hbe)).mono ?_)
        rintro e w13 ⟨rfl, hb13⟩
        have Ov := own_next Ov hb13
        have hbe := below_join hbe hb13
        clear hb13
        go_wp2_with (with_reducible refine wpList_alloc (o := ⟨some 11, .alloc 30, _, _, _, _⟩) (by with_unfolding_all rfl) 30 (by with_unfolding_all rfl) (.agg #[.int .i64 0, .int .i64 0, .string ByteArray.empty, .int .i64 0, .int .i64 0]) [Value.int .i64 0, .int .i64 0, .string ByteArray.empty, .int .i64 0, .int .i64 0] (by exact Tryz.zeroTok) (by with_unfolding_all rfl) ?_)
        intro g11 w14 hg11 hs14 hb14 B11
        have onOv_11 : ∀ q, Value.ownBlock u4 = some q → q ≠ g11 := fun q hq e => by have := (own_base Ov q hq).2; have := hg11.out; omega
        have hl11 : w.heap.size ≤ g11 := Nat.le_trans hbe.size (Nat.le_of_eq hg11.out.symm)
        have hb14 := hb14.mono (Nat.le_of_eq hg11.out.symm)
        have Ov := own_next Ov hb14
        have hbe := below_join hbe hb14
        clear hb14 hg11 hs14
        go_wp2_with (with_reducible refine wpList_put (o := ⟨none, .store 30 (.tmp 11) (.tmp 40), _, _, _, _⟩) (by with_unfolding_all rfl) 30 (.tmp 11) (.tmp 40) (by with_unfolding_all rfl) g11 0 (by with_unfolding_all rfl) (.agg #[.int .i64 (kd : Int), .int .i64 (nn : Int), .string X, .int .i64 0, .int .i64 0]) (by with_unfolding_all rfl) B11 [Value.int .i64 (kd : Int), .int .i64 (nn : Int), .string X, .int .i64 0, .int .i64 0] (by with_unfolding_all rfl) (by with_unfolding_all (exact Tryz.szTok)) (by with_unfolding_all (exact Nat.le_refl 5)) (by with_unfolding_all (exact tok_one _ _ _ _ _)) ?_)
        intro w15 hu15 C11
        rw [splice_all _ _ (by rfl)] at C11
        have Ov := own_keep Ov (fun q hq => hu15.block q (onOv_11 q hq))
        have hbe := hbe.trans (hu15.below (B := w.heap.size) hl11)
        clear B11 hu15
        have B11 := C11
        clear C11
        go_wp2_with (with_reducible refine wpList_put (o := ⟨none, .store 3 (.tmp 46) (.tmp 41), _, _, _, _⟩) (by with_unfolding_all rfl) 3 (.tmp 46) (.tmp 41) (by with_unfolding_all rfl) g11 3 (by with_unfolding_all rfl) (.int .i64 (ln2 : Int)) (by with_unfolding_all rfl) B11 [(.int .i64 (ln2 : Int))] (by with_unfolding_all rfl) (by with_unfolding_all (exact Tryz.szInt)) (by with_unfolding_all (exact Nat.le_of_ble_eq_true rfl)) (by with_unfolding_all (exact one_cell1 rfl)) ?_)
        intro w16 hu16 C11
        have C11 : Blk w16 g11 30 [Value.int .i64 (kd : Int), .int .i64 (nn : Int), .string X, .int .i64 (ln2 : Int), .int .i64 0] := C11
        have Ov := own_keep Ov (fun q hq => hu16.block q (onOv_11 q hq))
        have hbe := hbe.trans (hu16.below (B := w.heap.size) hl11)
        clear B11 hu16
        have B11 := C11
        clear C11
        go_wp2_with (with_reducible refine wpList_put (o := ⟨none, .store 3 (.tmp 47) (.tmp 45), _, _, _, _⟩) (by with_unfolding_all rfl) 3 (.tmp 47) (.tmp 45) (by with_unfolding_all rfl) g11 4 (by with_unfolding_all rfl) (.int .i64 (col : Int)) (by with_unfolding_all rfl) B11 [(.int .i64 (col : Int))] (by with_unfolding_all rfl) (by with_unfolding_all (exact Tryz.szInt)) (by with_unfolding_all (exact Nat.le_of_ble_eq_true rfl)) (by with_unfolding_all (exact one_cell1 rfl)) ?_)
        intro w17 hu17 C11
        have C11 : Blk w17 g11 30 [Value.int .i64 (kd : Int), .int .i64 (nn : Int), .string X, .int .i64 (ln2 : Int), .int .i64 (col : Int)] := C11
        have Ov := own_keep Ov (fun q hq => hu17.block q (onOv_11 q hq))
        have hbe := hbe.trans (hu17.below (B := w.heap.size) hl11)
        clear B11 hu17
        have B11 := C11
        clear C11
        have z11_0 := B11.cell (k := 0) rfl
        have z11_1 := B11.cell (k := 1) rfl
        have z11_2 := B11.cell (k := 2) rfl
        have z11_3 := B11.cell (k := 3) rfl
        have z11_4 := B11.cell (k := 4) rfl
        go_wp2_with (with_reducible refine wpList_rowT (o := ⟨some 50, .buildSlice 23 1 #[(0, .tmp 49)], _, _, _, _⟩) (by with_unfolding_all rfl) (.tmp 49) (by with_unfolding_all rfl) (kd : Int) (nn : Int) X (ln2 : Int) (col : Int) (by with_unfolding_all rfl) ?_)
        intro gr w18 hgr hb18 Br
        clear z11_0 z11_1 z11_2 z11_3 z11_4
        have Ov := own_next Ov hb18
        have B11 := B11.next hb18 B11.lt
        have hbe := below_join hbe hb18
        clear hgr
        have hT0 : w.heap.size ≤ w18.heap.size := hbe.size
        have HON := Lib.hid (own_base Ov)
        have e11 := fun q hq => (onOv_11 q hq).symm
        go_wp2_with (with_reducible refine wpList_appT (o := ⟨some 51, .call ⟨.builtin .append, #[.tmp 48, .tmp 50], #[23, 23]⟩, _, _, _, _⟩) (by with_unfolding_all rfl) (.tmp 48) (.tmp 50) (by with_unfolding_all rfl) w.heap.size u4 ts.length (flatT ts) (by with_unfolding_all rfl) Ov gr 0 1 1 [Value.int .i64 (kd : Int), .int .i64 (nn : Int), .string X, .int .i64 (ln2 : Int), .int .i64 (col : Int)] (by with_unfolding_all rfl) (by exact fun j y hy => by rw [Nat.zero_add]; exact Br.cell hy) (by with_unfolding_all rfl) (by exact tok_one _ _ _ _ _) (by omega) hT0 ?_)
        intro v19 w19 Ow hgw
        have hbx := below_grown hgw (fun q hq => (HON.out q hq).1) hT0
        have hbe := hbe.trans hbx
        have B11 : Blk w19 g11 30 [Value.int .i64 (kd : Int), .int .i64 (nn : Int), .string X, .int .i64 (ln2 : Int), .int .i64 (col : Int)] := (hgw.block g11 B11.lt (fun e => onOv_11 g11 e.symm rfl)).trans B11
        clear hbx hgw Br Ov HON e11 hT0
        have z11_0 := B11.cell (k := 0) rfl
        have z11_2 := B11.cell (k := 2) rfl
        obtain ⟨AA, cc, hv, _⟩ := own_shape Ow
        subst hv
        have Ow2 := own_mono Ow HbE.out.size
        clear Ow
        have hbF := below_join HbE.out hbe
        go_wp2
        go_ret2
        rw [HF2.out, ← HF1.out] at Ow2
        exact ⟨⟨AA, cc, by rw [HF1.out]; rfl, Ow2⟩, hbF⟩
      · have HM := Lib.hid (HM.out hz)
        have hm0 : 0 < m := HM.out.2.1
        have hk6 : ((kd : Int) == 6) = false := beq_eq_false_iff_ne.2 (by have := HM.out.2.2.1; omega)
        clear hz HE
        go_wp2_with fail
        (with_reducible refine (hGap _).mono ?_)
        rintro e w11 ⟨rfl, hb11⟩
        have Ov := own_next Ov hb11
        have hbe := below_join hbe hb11
        clear hb11
        go_wp2_with fail
        (with_reducible refine (hC _).mono ?_)
        rintro e w12 ⟨rfl, rfl⟩
        go_wp2_with fail
        (with_reducible refine (hL _).mono ?_)
        rintro e w12 ⟨rfl, rfl⟩
        go_wp2_with fail
        (with_reducible refine (hF _ (HRD.out.next hbe) (HT.out.next hbe)).mono ?_)
        rintro e w13 ⟨rfl, hb13⟩
        have Ov := own_next Ov hb13
        have hbe := below_join hbe hb13
        clear hb13
        go_wp2_with (with_reducible refine wpList_alloc (o := ⟨some 11, .alloc 30, _, _, _, _⟩) (by with_unfolding_all rfl) 30 (by with_unfolding_all rfl) (.agg #[.int .i64 0, .int .i64 0, .string ByteArray.empty, .int .i64 0, .int .i64 0]) [Value.int .i64 0, .int .i64 0, .string ByteArray.empty, .int .i64 0, .int .i64 0] (by exact Tryz.zeroTok) (by with_unfolding_all rfl) ?_)
        intro g11 w14 hg11 hs14 hb14 B11
        have onOv_11 : ∀ q, Value.ownBlock u4 = some q → q ≠ g11 := fun q hq e => by have := (own_base Ov q hq).2; have := hg11.out; omega
        have hl11 : w.heap.size ≤ g11 := Nat.le_trans hbe.size (Nat.le_of_eq hg11.out.symm)
        have hb14 := hb14.mono (Nat.le_of_eq hg11.out.symm)
        have Ov := own_next Ov hb14
        have hbe := below_join hbe hb14
        clear hb14 hg11 hs14
        go_wp2_with (with_reducible refine wpList_put (o := ⟨none, .store 30 (.tmp 11) (.tmp 40), _, _, _, _⟩) (by with_unfolding_all rfl) 30 (.tmp 11) (.tmp 40) (by with_unfolding_all rfl) g11 0 (by with_unfolding_all rfl) (.agg #[.int .i64 (kd : Int), .int .i64 (nn : Int), .string X, .int .i64 0, .int .i64 0]) (by with_unfolding_all rfl) B11 [Value.int .i64 (kd : Int), .int .i64 (nn : Int), .string X, .int .i64 0, .int .i64 0] (by with_unfolding_all rfl) (by with_unfolding_all (exact Tryz.szTok)) (by with_unfolding_all (exact Nat.le_refl 5)) (by with_unfolding_all (exact tok_one _ _ _ _ _)) ?_)
        intro w15 hu15 C11
        rw [splice_all _ _ (by rfl)] at C11
        have Ov := own_keep Ov (fun q hq => hu15.block q (onOv_11 q hq))
        have hbe := hbe.trans (hu15.below (B := w.heap.size) hl11)
        clear B11 hu15
        have B11 := C11
        clear C11
        go_wp2_with (with_reducible refine wpList_put (o := ⟨none, .store 3 (.tmp 46) (.tmp 41), _, _, _, _⟩) (by with_unfolding_all rfl) 3 (.tmp 46) (.tmp 41) (by with_unfolding_all rfl) g11 3 (by with_unfolding_all rfl) (.int .i64 (ln2 : Int)) (by with_unfolding_all rfl) B11 [(.int .i64 (ln2 : Int))] (by with_unfolding_all rfl) (by with_unfolding_all (exact Tryz.szInt)) (by with_unfolding_all (exact Nat.le_of_ble_eq_true rfl)) (by with_unfolding_all (exact one_cell1 rfl)) ?_)
        intro w16 hu16 C11
        have C11 : Blk w16 g11 30 [Value.int .i64 (kd : Int), .int .i64 (nn : Int), .string X, .int .i64 (ln2 : Int), .int .i64 0] := C11
        have Ov := own_keep Ov (fun q hq => hu16.block q (onOv_11 q hq))
        have hbe := hbe.trans (hu16.below (B := w.heap.size) hl11)
        clear B11 hu16
        have B11 := C11
        clear C11
        go_wp2_with (with_reducible refine wpList_put (o := ⟨none, .store 3 (.tmp 47) (.tmp 45), _, _, _, _⟩) (by with_unfolding_all rfl) 3 (.tmp 47) (.tmp 45) (by with_unfolding_all rfl) g11 4 (by with_unfolding_all rfl) (.int .i64 (col : Int)) (by with_unfolding_all rfl) B11 [(.int .i64 (col : Int))] (by with_unfolding_all rfl) (by with_unfolding_all (exact Tryz.szInt)) (by with_unfolding_all (exact Nat.le_of_ble_eq_true rfl)) (by with_unfolding_all (exact one_cell1 rfl)) ?_)
        intro w17 hu17 C11
        have C11 : Blk w17 g11 30 [Value.int .i64 (kd : Int), .int .i64 (nn : Int), .string X, .int .i64 (ln2 : Int), .int .i64 (col : Int)] := C11
        have Ov := own_keep Ov (fun q hq => hu17.block q (onOv_11 q hq))
        have hbe := hbe.trans (hu17.below (B := w.heap.size) hl11)
        clear B11 hu17
        have B11 := C11
        clear C11
        have z11_0 := B11.cell (k := 0) rfl
        have z11_1 := B11.cell (k := 1) rfl
        have z11_2 := B11.cell (k := 2) rfl
        have z11_3 := B11.cell (k := 3) rfl
        have z11_4 := B11.cell (k := 4) rfl
        go_wp2_with (with_reducible refine wpList_rowT (o := ⟨some 50, .buildSlice 23 1 #[(0, .tmp 49)], _, _, _, _⟩) (by with_unfolding_all rfl) (.tmp 49) (by with_unfolding_all rfl) (kd : Int) (nn : Int) X (ln2 : Int) (col : Int) (by with_unfolding_all rfl) ?_)
        intro gr w18 hgr hb18 Br
        clear z11_0 z11_1 z11_2 z11_3 z11_4
        have Ov := own_next Ov hb18
        have B11 := B11.next hb18 B11.lt
        have hbe := below_join hbe hb18
        clear hgr
        have hT0 : w.heap.size ≤ w18.heap.size := hbe.size
        have HON := Lib.hid (own_base Ov)
        have e11 := fun q hq => (onOv_11 q hq).symm
        go_wp2_with (with_reducible refine wpList_appT (o := ⟨some 51, .call ⟨.builtin .append, #[.tmp 48, .tmp 50], #[23, 23]⟩, _, _, _, _⟩) (by with_unfolding_all rfl) (.tmp 48) (.tmp 50) (by with_unfolding_all rfl) w.heap.size u4 ts.length (flatT ts) (by with_unfolding_all rfl) Ov gr 0 1 1 [Value.int .i64 (kd : Int), .int .i64 (nn : Int), .string X, .int .i64 (ln2 : Int), .int .i64 (col : Int)] (by with_unfolding_all rfl) (by exact fun j y hy => by rw [Nat.zero_add]; exact Br.cell hy) (by with_unfolding_all rfl) (by exact tok_one _ _ _ _ _) (by omega) hT0 ?_)
        intro v19 w19 Ow hgw
        have hbx := below_grown hgw (fun q hq => (HON.out q hq).1) hT0
        have hbe := hbe.trans hbx
        have B11 : Blk w19 g11 30 [Value.int .i64 (kd : Int), .int .i64 (nn : Int), .string X, .int .i64 (ln2 : Int), .int .i64 (col : Int)] := (hgw.block g11 B11.lt (fun e => onOv_11 g11 e.symm rfl)).trans B11
        clear hbx hgw Br Ov HON e11 hT0
        have z11_0 := B11.cell (k := 0) rfl
        have z11_2 := B11.cell (k := 2) rfl
        go_wp2
        go_roundw
        case rel => exact ⟨p2 + m, ln2, bg, ts ++ [TK], by go_num, rfl, by first | rfl | go_num, by rw [HLEN.out]; omega, by omega, by omega, by rw [List.length_append]; simp only [List.length_cons, List.length_nil]; omega, by rw [List.length_append, flatT_snoc, HCE.out]; exact Ow, by rw [← HM.out.1]; congr 2; omega, hbe⟩
        case measure => simp [intOf]; omega
    · skip
      have hposi : ¬ (i : Int) < 0 := by omega
      have hib : (i : Int) < 60001 := by have := HGS.out; omega
      have hpib : (p : Int) < 60001 := by omega
      have hge : (0 : Int) ≤ (i : Int) := by omega
      rw [hpos] at hL
      obtain ⟨b2, hb2⟩ : ∃ b2, p + i + 1 = b2 := ⟨_, rfl⟩
      have hcoli : (p2 : Int) - (b2 : Int) + 1 = (col : Int) := by omega
      have hbgi : (p : Int) + (i : Int) + 1 = (b2 : Int) := by omega
      have hpi2 : (p : Int) + (i : Int) ≤ 60000 := by have := HGS.out; omega
      have hpi3 : (0 : Int) ≤ (p : Int) + (i : Int) := by omega
      have hb2p : b2 ≤ p2 := by have := HGS.out; omega
      clear hcol hb2
      rcases HGO.out with hz | hz
      · have HE1 := Lib.hid (HE.out hz)
        clear hz HE HM
        have hk6 : ((kd : Int) == 6) = true := by rw [HE1.out.2.1]; rfl
        have HF1 : Hid (R.length = ts.length + 1) := by
          have : R.length = ts.length + 1 := by rw [← HE1.out.1, List.length_append]; rfl
          exact this
        have HF2 : Hid (flatT ts ++ [Value.int .i64 (kd : Int), .int .i64 (nn : Int), .string X, .int .i64 (ln2 : Int), .int .i64 (col : Int)] = flatT R) := by
          have : flatT ts ++ [Value.int .i64 (kd : Int), .int .i64 (nn : Int), .string X, .int .i64 (ln2 : Int), .int .i64 (col : Int)] = flatT R := by
            rw [← HE1.out.1, flatT_snoc, HE1.out.2.1, HE1.out.2.2.1, HE1.out.2.2.2]; rfl
          exact this
        clear HE1
        go_wp2_with fail
        (with_reducible refine (hGap _).mono ?_)
        rintro e w11 ⟨rfl, hb11⟩
        have Ov := own_next Ov hb11
        have hbe := below_join hbe hb11
        clear hb11
        go_wp2_with fail
        (with_reducible refine (hC _).mono ?_)
        rintro e w12 ⟨rfl, rfl⟩
        go_wp2_with fail
        (with_reducible refine (hL _).mono ?_)
        rintro e w12 ⟨rfl, rfl⟩
        go_wp2_with fail
        (with_reducible refine (hF _ (HRD.out.next hbe) (HT.out.next hbe)).mono ?_)
        rintro e w13 ⟨rfl, hb13⟩
        have Ov := own_next Ov hb13
        have hbe := below_join hbe hb13
        clear hb13
        go_wp2_with (with_reducible refine wpList_alloc (o := ⟨some 11, .alloc 30, _, _, _, _⟩) (by with_unfolding_all rfl) 30 (by with_unfolding_all rfl) (.agg #[.int .i64 0, .int .i64 0, .string ByteArray.empty, .int .i64 0, .int .i64 0]) [Value.int .i64 0, .int .i64 0, .string ByteArray.empty, .int .i64 0, .int .i64 0] (by exact Tryz.zeroTok) (by with_unfolding_all rfl) ?_)
        intro g11 w14 hg11 hs14 hb14 B11
        have onOv_11 : ∀ q, Value.ownBlock u4 = some q → q ≠ g11 := fun q hq e => by have := (own_base Ov q hq).2; have := hg11.out; omega
        have hl11 : w.heap.size ≤ g11 := Nat.le_trans hbe.size (Nat.le_of_eq hg11.out.symm)
        have hb14 := hb14.mono (Nat.le_of_eq hg11.out.symm)
        have Ov := own_next Ov hb14
        have hbe := below_join hbe hb14
        clear hb14 hg11 hs14
        go_wp2_with (with_reducible refine wpList_put (o := ⟨none, .store 30 (.tmp 11) (.tmp 40), _, _, _, _⟩) (by with_unfolding_all rfl) 30 (.tmp 11) (.tmp 40) (by with_unfolding_all rfl) g11 0 (by with_unfolding_all rfl) (.agg #[.int .i64 (kd : Int), .int .i64 (nn : Int), .string X, .int .i64 0, .int .i64 0]) (by with_unfolding_all rfl) B11 [Value.int .i64 (kd : Int), .int .i64 (nn : Int), .string X, .int .i64 0, .int .i64 0] (by with_unfolding_all rfl) (by with_unfolding_all (exact Tryz.szTok)) (by with_unfolding_all (exact Nat.le_refl 5)) (by with_unfolding_all (exact tok_one _ _ _ _ _)) ?_)
        intro w15 hu15 C11
        rw [splice_all _ _ (by rfl)] at C11
        have Ov := own_keep Ov (fun q hq => hu15.block q (onOv_11 q hq))
        have hbe := hbe.trans (hu15.below (B := w.heap.size) hl11)
        clear B11 hu15
        have B11 := C11
        clear C11
        go_wp2_with (with_reducible refine wpList_put (o := ⟨none, .store 3 (.tmp 46) (.tmp 41), _, _, _, _⟩) (by with_unfolding_all rfl) 3 (.tmp 46) (.tmp 41) (by with_unfolding_all rfl) g11 3 (by with_unfolding_all rfl) (.int .i64 (ln2 : Int)) (by with_unfolding_all rfl) B11 [(.int .i64 (ln2 : Int))] (by with_unfolding_all rfl) (by with_unfolding_all (exact Tryz.szInt)) (by with_unfolding_all (exact Nat.le_of_ble_eq_true rfl)) (by with_unfolding_all (exact one_cell1 rfl)) ?_)
        intro w16 hu16 C11
        have C11 : Blk w16 g11 30 [Value.int .i64 (kd : Int), .int .i64 (nn : Int), .string X, .int .i64 (ln2 : Int), .int .i64 0] := C11
        have Ov := own_keep Ov (fun q hq => hu16.block q (onOv_11 q hq))
        have hbe := hbe.trans (hu16.below (B := w.heap.size) hl11)
        clear B11 hu16
        have B11 := C11
        clear C11
        go_wp2_with (with_reducible refine wpList_put (o := ⟨none, .store 3 (.tmp 47) (.tmp 45), _, _, _, _⟩) (by with_unfolding_all rfl) 3 (.tmp 47) (.tmp 45) (by with_unfolding_all rfl) g11 4 (by with_unfolding_all rfl) (.int .i64 (col : Int)) (by with_unfolding_all rfl) B11 [(.int .i64 (col : Int))] (by with_unfolding_all rfl) (by with_unfolding_all (exact Tryz.szInt)) (by with_unfolding_all (exact Nat.le_of_ble_eq_true rfl)) (by with_unfolding_all (exact one_cell1 rfl)) ?_)
        intro w17 hu17 C11
        have C11 : Blk w17 g11 30 [Value.int .i64 (kd : Int), .int .i64 (nn : Int), .string X, .int .i64 (ln2 : Int), .int .i64 (col : Int)] := C11
        have Ov := own_keep Ov (fun q hq => hu17.block q (onOv_11 q hq))
        have hbe := hbe.trans (hu17.below (B := w.heap.size) hl11)
        clear B11 hu17
        have B11 := C11
        clear C11
        have z11_0 := B11.cell (k := 0) rfl
        have z11_1 := B11.cell (k := 1) rfl
        have z11_2 := B11.cell (k := 2) rfl
        have z11_3 := B11.cell (k := 3) rfl
        have z11_4 := B11.cell (k := 4) rfl
        go_wp2_with (with_reducible refine wpList_rowT (o := ⟨some 50, .buildSlice 23 1 #[(0, .tmp 49)], _, _, _, _⟩) (by with_unfolding_all rfl) (.tmp 49) (by with_unfolding_all rfl) (kd : Int) (nn : Int) X (ln2 : Int) (col : Int) (by with_unfolding_all rfl) ?_)
        intro gr w18 hgr hb18 Br
        clear z11_0 z11_1 z11_2 z11_3 z11_4
        have Ov := own_next Ov hb18
        have B11 := B11.next hb18 B11.lt
        have hbe := below_join hbe hb18
        clear hgr
        have hT0 : w.heap.size ≤ w18.heap.size := hbe.size
        have HON := Lib.hid (own_base Ov)
        have e11 := fun q hq => (onOv_11 q hq).symm
        go_wp2_with (with_reducible refine wpList_appT (o := ⟨some 51, .call ⟨.builtin .append, #[.tmp 48, .tmp 50], #[23, 23]⟩, _, _, _, _⟩) (by with_unfolding_all rfl) (.tmp 48) (.tmp 50) (by with_unfolding_all rfl) w.heap.size u4 ts.length (flatT ts) (by with_unfolding_all rfl) Ov gr 0 1 1 [Value.int .i64 (kd : Int), .int .i64 (nn : Int), .string X, .int .i64 (ln2 : Int), .int .i64 (col : Int)] (by with_unfolding_all rfl) (by exact fun j y hy => by rw [Nat.zero_add]; exact Br.cell hy) (by with_unfolding_all rfl) (by exact tok_one _ _ _ _ _) (by omega) hT0 ?_)
        intro v19 w19 Ow hgw
        have hbx := below_grown hgw (fun q hq => (HON.out q hq).1) hT0
        have hbe := hbe.trans hbx
        have B11 : Blk w19 g11 30 [Value.int .i64 (kd : Int), .int .i64 (nn : Int), .string X, .int .i64 (ln2 : Int), .int .i64 (col : Int)] := (hgw.block g11 B11.lt (fun e => onOv_11 g11 e.symm rfl)).trans B11
        clear hbx hgw Br Ov HON e11 hT0
        have z11_0 := B11.cell (k := 0) rfl
        have z11_2 := B11.cell (k := 2) rfl
        obtain ⟨AA, cc, hv, _⟩ := own_shape Ow
        subst hv
        have Ow2 := own_mono Ow HbE.out.size
        clear Ow
        have hbF := below_join HbE.out hbe
        go_wp2
        go_ret2
        rw [HF2.out, ← HF1.out] at Ow2
        exact ⟨⟨AA, cc, by rw [HF1.out]; rfl, Ow2⟩, hbF⟩
      · have HM := Lib.hid (HM.out hz)
        have hm0 : 0 < m := HM.out.2.1
        have hk6 : ((kd : Int) == 6) = false := beq_eq_false_iff_ne.2 (by have := HM.out.2.2.1; omega)
        clear hz HE
        go_wp2_with fail
        (with_reducible refine (hGap _).mono ?_)
        rintro e w11 ⟨rfl, hb11⟩
        have Ov := own_next Ov hb11
        have hbe := below_join hbe hb11
        clear hb11
        go_wp2_with fail
        (with_reducible refine (hC _).mono ?_)
        rintro e w12 ⟨rfl, rfl⟩
        go_wp2_with fail
        (with_reducible refine (hL _).mono ?_)
        rintro e w12 ⟨rfl, rfl⟩
        go_wp2_with fail
        (with_reducible refine (hF _ (HRD.out.next hbe) (HT.out.next hbe)).mono ?_)
        rintro e w13 ⟨rfl, hb13⟩
        have Ov := own_next Ov hb13
        have hbe := below_join hbe hb13
        clear hb13
        go_wp2_with (with_reducible refine wpList_alloc (o := ⟨some 11, .alloc 30, _, _, _, _⟩) (by with_unfolding_all rfl) 30 (by with_unfolding_all rfl) (.agg #[.int .i64 0, .int .i64 0, .string ByteArray.empty, .int .i64 0, .int .i64 0]) [Value.int .i64 0, .int .i64 0, .string ByteArray.empty, .int .i64 0, .int .i64 0] (by exact Tryz.zeroTok) (by with_unfolding_all rfl) ?_)
        intro g11 w14 hg11 hs14 hb14 B11
        have onOv_11 : ∀ q, Value.ownBlock u4 = some q → q ≠ g11 := fun q hq e => by have := (own_base Ov q hq).2; have := hg11.out; omega
        have hl11 : w.heap.size ≤ g11 := Nat.le_trans hbe.size (Nat.le_of_eq hg11.out.symm)
        have hb14 := hb14.mono (Nat.le_of_eq hg11.out.symm)
        have Ov := own_next Ov hb14
        have hbe := below_join hbe hb14
        clear hb14 hg11 hs14
        go_wp2_with (with_reducible refine wpList_put (o := ⟨none, .store 30 (.tmp 11) (.tmp 40), _, _, _, _⟩) (by with_unfolding_all rfl) 30 (.tmp 11) (.tmp 40) (by with_unfolding_all rfl) g11 0 (by with_unfolding_all rfl) (.agg #[.int .i64 (kd : Int), .int .i64 (nn : Int), .string X, .int .i64 0, .int .i64 0]) (by with_unfolding_all rfl) B11 [Value.int .i64 (kd : Int), .int .i64 (nn : Int), .string X, .int .i64 0, .int .i64 0] (by with_unfolding_all rfl) (by with_unfolding_all (exact Tryz.szTok)) (by with_unfolding_all (exact Nat.le_refl 5)) (by with_unfolding_all (exact tok_one _ _ _ _ _)) ?_)
        intro w15 hu15 C11
        rw [splice_all _ _ (by rfl)] at C11
        have Ov := own_keep Ov (fun q hq => hu15.block q (onOv_11 q hq))
        have hbe := hbe.trans (hu15.below (B := w.heap.size) hl11)
        clear B11 hu15
        have B11 := C11
        clear C11
        go_wp2_with (with_reducible refine wpList_put (o := ⟨none, .store 3 (.tmp 46) (.tmp 41), _, _, _, _⟩) (by with_unfolding_all rfl) 3 (.tmp 46) (.tmp 41) (by with_unfolding_all rfl) g11 3 (by with_unfolding_all rfl) (.int .i64 (ln2 : Int)) (by with_unfolding_all rfl) B11 [(.int .i64 (ln2 : Int))] (by with_unfolding_all rfl) (by with_unfolding_all (exact Tryz.szInt)) (by with_unfolding_all (exact Nat.le_of_ble_eq_true rfl)) (by with_unfolding_all (exact one_cell1 rfl)) ?_)
        intro w16 hu16 C11
        have C11 : Blk w16 g11 30 [Value.int .i64 (kd : Int), .int .i64 (nn : Int), .string X, .int .i64 (ln2 : Int), .int .i64 0] := C11
        have Ov := own_keep Ov (fun q hq => hu16.block q (onOv_11 q hq))
        have hbe := hbe.trans (hu16.below (B := w.heap.size) hl11)
        clear B11 hu16
        have B11 := C11
        clear C11
        go_wp2_with (with_reducible refine wpList_put (o := ⟨none, .store 3 (.tmp 47) (.tmp 45), _, _, _, _⟩) (by with_unfolding_all rfl) 3 (.tmp 47) (.tmp 45) (by with_unfolding_all rfl) g11 4 (by with_unfolding_all rfl) (.int .i64 (col : Int)) (by with_unfolding_all rfl) B11 [(.int .i64 (col : Int))] (by with_unfolding_all rfl) (by with_unfolding_all (exact Tryz.szInt)) (by with_unfolding_all (exact Nat.le_of_ble_eq_true rfl)) (by with_unfolding_all (exact one_cell1 rfl)) ?_)
        intro w17 hu17 C11
        have C11 : Blk w17 g11 30 [Value.int .i64 (kd : Int), .int .i64 (nn : Int), .string X, .int .i64 (ln2 : Int), .int .i64 (col : Int)] := C11
        have Ov := own_keep Ov (fun q hq => hu17.block q (onOv_11 q hq))
        have hbe := hbe.trans (hu17.below (B := w.heap.size) hl11)
        clear B11 hu17
        have B11 := C11
        clear C11
        have z11_0 := B11.cell (k := 0) rfl
        have z11_1 := B11.cell (k := 1) rfl
        have z11_2 := B11.cell (k := 2) rfl
        have z11_3 := B11.cell (k := 3) rfl
        have z11_4 := B11.cell (k := 4) rfl
        go_wp2_with (with_reducible refine wpList_rowT (o := ⟨some 50, .buildSlice 23 1 #[(0, .tmp 49)], _, _, _, _⟩) (by with_unfolding_all rfl) (.tmp 49) (by with_unfolding_all rfl) (kd : Int) (nn : Int) X (ln2 : Int) (col : Int) (by with_unfolding_all rfl) ?_)
        intro gr w18 hgr hb18 Br
        clear z11_0 z11_1 z11_2 z11_3 z11_4
        have Ov := own_next Ov hb18
        have B11 := B11.next hb18 B11.lt
        have hbe := below_join hbe hb18
        clear hgr
        have hT0 : w.heap.size ≤ w18.heap.size := hbe.size
        have HON := Lib.hid (own_base Ov)
        have e11 := fun q hq => (onOv_11 q hq).symm
        go_wp2_with (with_reducible refine wpList_appT (o := ⟨some 51, .call ⟨.builtin .append, #[.tmp 48, .tmp 50], #[23, 23]⟩, _, _, _, _⟩) (by with_unfolding_all rfl) (.tmp 48) (.tmp 50) (by with_unfolding_all rfl) w.heap.size u4 ts.length (flatT ts) (by with_unfolding_all rfl) Ov gr 0 1 1 [Value.int .i64 (kd : Int), .int .i64 (nn : Int), .string X, .int .i64 (ln2 : Int), .int .i64 (col : Int)] (by with_unfolding_all rfl) (by exact fun j y hy => by rw [Nat.zero_add]; exact Br.cell hy) (by with_unfolding_all rfl) (by exact tok_one _ _ _ _ _) (by omega) hT0 ?_)
        intro v19 w19 Ow hgw
        have hbx := below_grown hgw (fun q hq => (HON.out q hq).1) hT0
        have hbe := hbe.trans hbx
        have B11 : Blk w19 g11 30 [Value.int .i64 (kd : Int), .int .i64 (nn : Int), .string X, .int .i64 (ln2 : Int), .int .i64 (col : Int)] := (hgw.block g11 B11.lt (fun e => onOv_11 g11 e.symm rfl)).trans B11
        clear hbx hgw Br Ov HON e11 hT0
        have z11_0 := B11.cell (k := 0) rfl
        have z11_2 := B11.cell (k := 2) rfl
        go_wp2
        go_roundw
        case rel => exact ⟨p2 + m, ln2, b2, ts ++ [TK], by go_num, rfl, by first | rfl | go_num, by rw [HLEN.out]; omega, by omega, by omega, by rw [List.length_append]; simp only [List.length_cons, List.length_nil]; omega, by rw [List.length_append, flatT_snoc, HCE.out]; exact Ow, by rw [← HM.out.1]; congr 2; omega, hbe⟩
        case measure => simp [intOf]; omega
end Go.Proofs.YtcefaipjncohmaaGreatDoor
