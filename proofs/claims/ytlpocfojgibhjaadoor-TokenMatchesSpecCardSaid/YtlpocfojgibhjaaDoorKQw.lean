/-
  The law TokenJoins: tokens put together again. Conditions: the tables lie there.
-/
import Derived.Test.YtlpocfojgibhjaaDoorKQv
import Derived.Test.YtlpocfojgibhjaaDoorGM
namespace Go.Proofs.YtlpocfojgibhjaaDoor
set_option linter.unusedVariables false
set_option linter.unusedSimpArgs false
open Go.RowKit Go.Shelf

theorem pl_len (l : List UInt8) (a b : Nat) : ((toks l false 0 a b).map noPl).length = (toks l false 0 a b).length := by rw [List.length_map]
def WdRel (T : List Tok) (cmt : List UInt8) (g5 : Nat) (L5 : List Value) (g9 : Nat) (L9 : List Value) (w : World) (i v : Value) (wr : World) : Prop :=
  ∃ k : Nat, k ≤ T.length ∧ i = .int .i64 (k : Int) ∧ v = .string ⟨(wideL cmt (T.take k)).toArray⟩ ∧ Blk wr g5 37 L5 ∧ Blk wr g9 37 L9 ∧ Below w.heap.size w wr
def BdRel (T : List Tok) (g5 : Nat) (L5 : List Value) (w : World) (i : Value) (wr : World) : Prop :=
  ∃ k : Nat, k ≤ T.length ∧ i = .int .i64 (k : Int) ∧ (∀ j t, j < k → T[j]? = some t → t.kind ≠ 5) ∧ Blk wr g5 37 L5 ∧ Below w.heap.size w wr
theorem totL_take (l : List Tok) (k : Nat) : totL (l.take k) ≤ totL l := by
  have e : totL l = totL (l.take k) + totL (l.drop k) := by
    conv => lhs; rw [← List.take_append_drop k l]
    unfold totL
    rw [List.map_append, List.sum_append]
  omega
theorem five_blk {w : World} {g : Nat} {t : TypeId} {l : List Tok} {R : List Value} (h : Blk w g t (flatT l ++ R)) {k : Nat} {x : Tok} (hx : l[k]? = some x) : w.cell? ⟨g, k * 5, none⟩ = some (.int .i64 (x.kind : Int)) ∧ w.cell? ⟨g, k * 5 + 1, none⟩ = some (.int .i64 (x.n : Int)) ∧ w.cell? ⟨g, k * 5 + 2, none⟩ = some (.string (tB x)) ∧ w.cell? ⟨g, k * 5 + 3, none⟩ = some (.int .i64 (x.line : Int)) ∧ w.cell? ⟨g, k * 5 + 4, none⟩ = some (.int .i64 (x.col : Int)) := by
  obtain ⟨g2, o2, e, a0, a1, a2, a3, a4⟩ := (tks_blk h).five hx
  injection e with e
  injection e with e1 e2
  subst e1 e2
  simp only [Nat.zero_add] at a0 a1 a2 a3 a4
  exact ⟨a0, a1, a2, a3, a4⟩
theorem tot_filter : ∀ l : List Tok, totL (joinTs l) ≤ totL l
  | [] => Nat.le_refl _
  | t :: l => by
    have ih := tot_filter l
    have e : totL (t :: l) = t.text.length + totL l := by simp [totL]
    unfold joinTs at ih ⊢
    rw [List.filter_cons, e]
    split
    · have e2 : totL (t :: l.filter fun t => decide (t.kind ≠ 6)) = t.text.length + totL (l.filter fun t => decide (t.kind ≠ 6)) := by simp [totL]
      omega
    · omega
theorem wide_next {cmt : List UInt8} {l : List Tok} {k : Nat} {t : Tok} (h : l[k]? = some t) : wideL cmt (l.take (k + 1)) = wideL cmt (l.take k) ++ (sepW cmt ++ t.text) := by
  obtain ⟨h1, h2⟩ := List.getElem?_eq_some_iff.1 h
  rw [← List.take_append_getElem h1, h2]
  simp [wideL]
theorem Tryd.rplX : Builder.Extra Tryd.prog Tryd.replA_ren where
  sizeBuilder := by kernel_rfl
  liesBuilder := by kernel_rfl
  t5 := by kernel_rfl
  a5 := run_isAgg_plain (by kernel_rfl : Tryd.prog.underlying (Tryd.replA_ren.t 5) = some (.int .u8)) rfl
  z5 := Tryd.replA.z5
  v5 := Tryd.replA.v5
  infoByte := by kernel_rfl
  cellsByte := by kernel_rfl
  sizeByte := by kernel_rfl
  neB5 := by decide
theorem repl_any (s : ByteArray) (hs : s.size ≤ 1000) (w : World) (hq : QW w) :
    Calls Tryd.prog 24 #[.string s, .string { data := #[10] }, .string { data := #[] }] w fun e w' => e = .returned (.string ⟨(Lib.replaceAll s.data.toList [10] []).toArray⟩) ∧ Below w.heap.size w w' := by
  obtain ⟨m, hm⟩ := hq.idx
  exact Any.strings_ReplaceAll { Tryd.replA with } Tryd.rplX s { data := #[10] } { data := #[] } m w (by omega) hm (Nat.le_refl _) (by show s.size + Lib.countB s { data := #[10] } * 0 ≤ _; omega)
set_option maxRecDepth 100000 in
set_option maxHeartbeats 6400000 in
theorem joinsLaw_any (s c : ByteArray) (w : World) (hq : QW w) :
    Calls Tryd.prog 6 #[.string s, .string c] w fun e w' => e = .returned (.bool true) ∧ Below w.heap.size w w' := by
  have HQ := Lib.hid hq
  have HS := fun w hq => sanity_any w hq
  by_cases hbig : 1000 < s.size ∨ 20 < c.size
  · clear hq
    by_cases h1 : 1000 < s.size
    · have h1i : (1000 : Int) < (s.size : Int) := by omega
      go_enter Tryd.func6, Tryd.ntmps6
      go_wp2_with fail
      (with_reducible refine (HS _ HQ.out).mono ?_)
      rintro e w1 ⟨rfl, hb1⟩
      go_wp2
      go_ret
      exact ⟨rfl, hb1⟩
    · have h1i : ¬ (1000 : Int) < (s.size : Int) := by omega
      have h2i : (20 : Int) < (c.size : Int) := by omega
      go_enter Tryd.func6, Tryd.ntmps6
      go_wp2_with fail
      (with_reducible refine (HS _ HQ.out).mono ?_)
      rintro e w1 ⟨rfl, hb1⟩
      go_wp2
      go_ret
      exact ⟨rfl, hb1⟩
  · have h1 : s.size ≤ 1000 := by omega
    have h2 : c.size ≤ 20 := by omega
    have h1i : ¬ (1000 : Int) < (s.size : Int) := by omega
    have h2i : ¬ (20 : Int) < (c.size : Int) := by omega
    obtain ⟨hr1, hr2⟩ := repl_all c.data.toList
    rw [bytes_size] at hr2
    have HR := fun w hq => repl_any c (by omega) w hq
    obtain ⟨cmt, hcm⟩ : ∃ x, Lib.replaceAll c.data.toList [10] [] = x := ⟨_, rfl⟩
    rw [hcm] at hr1 hr2 HR
    have hcsz := mk_size cmt
    obtain ⟨C, hC⟩ : ∃ x : ByteArray, (⟨cmt.toArray⟩ : ByteArray) = x := ⟨_, rfl⟩
    rw [hC] at HR hcsz
    have hne := (toks_kinds s.data.toList false 0 1 1).1
    have hlen := toks_len s.data.toList false 0 1 1
    have htot := toks_tot s.data.toList false 0 1 1 (Nat.zero_le _)
    rw [bytes_size] at hlen htot
    have hall := joins_all s.data.toList cmt hr1
    have hA := fun n hn h0 w hT => tokens2_any s (by omega) w hT _ rfl n hn h0
    have hT := fun (A : List UInt8) (hA : A.length ≤ 60000) n hn h0 w hT => tokens2_any ⟨A.toArray⟩ (by rw [mk_size]; exact hA) w hT (toks A false 0 1 1) rfl n hn h0
    obtain ⟨T, hTT⟩ : ∃ T, toks s.data.toList false 0 1 1 = T := ⟨_, rfl⟩
    have hpl : ptoks s.data.toList = T.map noPl := by unfold ptoks; rw [hTT]
    simp only [hTT] at hne hlen htot hall hA
    rw [hpl] at hall
    obtain ⟨n, hn⟩ : ∃ n, Hid (T.length = n) := ⟨_, rfl⟩
    have hn0 : 0 < n := by
      have h3 : T.length ≠ 0 := fun e => hne (List.eq_nil_of_length_eq_zero e)
      have := hn.out
      omega
    have hnb : n ≤ 1001 := by have := hn.out; omega
    have HA := hA n hn.out hn0
    have htb : totL T ≤ 1000 := by omega
    have hJl : (joinM T).length ≤ 2001 := by
      have h3 := join_len (joinTs T)
      have h4 : totL (joinTs T) ≤ totL T := tot_filter T
      have h5 : (joinTs T).length ≤ T.length := List.length_filter_le _ _
      show (Lib.join ((joinTs T).map (·.text)) [32]).length ≤ _
      omega
    have hWl : ∀ k, (wideL cmt (T.take k)).length ≤ 28000 := fun k => by
      rw [wideL_len]
      have h3 := totL_take T k
      have h4 : (T.take k).length ≤ 1001 := by rw [List.length_take]; omega
      have h5 : (T.take k).length * (cmt.length + 6) ≤ 1001 * 26 := Nat.mul_le_mul h4 (by omega)
      omega
    have hmap : ∀ A : List UInt8, ptoks A = T.map noPl → (toks A false 0 1 1).length = n := fun A h => by
      have e := congrArg List.length h
      unfold ptoks at e
      rw [List.length_map, List.length_map] at e
      rw [← hn.out]; exact e
    have hWT : T.take n = T := by rw [← hn.out]; exact List.take_length
    have HALL := Lib.hid hall
    have HMAP := Lib.hid hmap
    have HWL := Lib.hid hWl
    have HJL := Lib.hid hJl
    have HT := Lib.hid hT
    have HWT := Lib.hid hWT
    have HCm := Lib.hid hC
    have HPL := fun A c2 l w hN hA => placeless_any A c2 l w hN hA
    have hcb : C.size ≤ 20 := by omega
    clear hbig hq hr1 hr2 hcm hne hlen htot hall hA hT hpl hJl hWl hmap hWT hTT hcsz hC htb h1 h2
    have hni : (n : Int) ≤ 1001 := by omega
    go_enter Tryd.func6, Tryd.ntmps6
    go_wp2_with fail
    (with_reducible refine (HA _ HQ.out.tt).mono ?_)
    rintro e w1 ⟨⟨g5, c5, R5, rfl, hl5, hc5, B5⟩, hbe⟩
    have H0 : Hid (BdRel T g5 (flatT T ++ R5) w (.int .i64 0) w1) := (⟨0, Nat.zero_le _, rfl, fun j t hj => absurd hj (Nat.not_lt_zero _), B5, hbe⟩ : BdRel T g5 (flatT T ++ R5) w (.int .i64 0) w1)
    clear B5 hbe HA
    go_wp2
    go_loopw [34] (BdRel T g5 (flatT T ++ R5) w) (fun i _ => n - (intOf i).toNat)
    case atStart => exact H0.out
    case round =>
      clear H0
      obtain ⟨k, hk, rfl, hall5, B5, hbe⟩ := hrel
      rw [hn.out] at hk
      have HA5 := Lib.hid hall5
      clear hall5
      by_cases hlt : k < n
      · have hki : (k : Int) < (n : Int) := by omega
        have hk0 : (0 : Int) ≤ (k : Int) := by omega
        obtain ⟨t, ht⟩ : ∃ t, T[k]? = some t := ⟨_, List.getElem?_eq_getElem (by rw [hn.out]; exact hlt)⟩
        obtain ⟨a0, a1, a2, a3, a4⟩ := five_blk B5 ht
        have HTK := Lib.hid ht
        obtain ⟨K, hK⟩ : ∃ K, t.kind = K := ⟨_, rfl⟩
        obtain ⟨N1, hN1⟩ : ∃ K, t.n = K := ⟨_, rfl⟩
        obtain ⟨L1, hL1⟩ : ∃ K, t.line = K := ⟨_, rfl⟩
        obtain ⟨C1, hC1⟩ : ∃ K, t.col = K := ⟨_, rfl⟩
        obtain ⟨X, hX⟩ : ∃ K, tB t = K := ⟨_, rfl⟩
        rw [hK] at a0
        rw [hN1] at a1
        rw [hX] at a2
        rw [hL1] at a3
        rw [hC1] at a4
        have HKK := Lib.hid hK
        clear hK hN1 hL1 hC1 hX ht
        by_cases h5 : K = 5
        · skip
          have h5i : ((K : Int) == 5) = true := by rw [h5]; rfl
          clear h5
          go_wp2_with (with_reducible refine wpList_alloc (o := ⟨some 8, .alloc 37, _, _, _, _⟩) (by with_unfolding_all rfl) 37 (by with_unfolding_all rfl) (.agg #[.int .i64 0, .int .i64 0, .string ByteArray.empty, .int .i64 0, .int .i64 0]) [Value.int .i64 0, .int .i64 0, .string ByteArray.empty, .int .i64 0, .int .i64 0] (by exact Tryd.zeroTok) (by with_unfolding_all rfl) ?_)
          intro g8 w11 hg8 hs11 hb11 B8
          have hl8 : w.heap.size ≤ g8 := Nat.le_trans hbe.size (Nat.le_of_eq hg8.out.symm)
          have ne5_8 : g5 ≠ g8 := by have := B5.lt; have := hg8.out; omega
          have ne8_5 := ne5_8.symm
          have hb11 := hb11.mono (Nat.le_of_eq hg8.out.symm)
          have B5 := B5.next hb11 B5.lt
          have hbe := below_join hbe hb11
          clear hb11 hg8 hs11
          go_wp2_with (with_reducible refine wpList_put (o := ⟨none, .store 37 (.tmp 8) (.tmp 37), _, _, _, _⟩) (by with_unfolding_all rfl) 37 (.tmp 8) (.tmp 37) (by with_unfolding_all rfl) g8 0 (by with_unfolding_all rfl) (.agg #[.int .i64 (K : Int), .int .i64 (N1 : Int), .string X, .int .i64 (L1 : Int), .int .i64 (C1 : Int)]) (by with_unfolding_all rfl) B8 [Value.int .i64 (K : Int), .int .i64 (N1 : Int), .string X, .int .i64 (L1 : Int), .int .i64 (C1 : Int)] (by with_unfolding_all rfl) (by with_unfolding_all (exact Tryd.szTok)) (by with_unfolding_all (exact Nat.le_refl 5)) (by with_unfolding_all (exact tok_one _ _ _ _ _)) ?_)
          intro w12 hu12 C8
          rw [splice_all _ _ (by rfl)] at C8
          have B5 := B5.upd hu12 ne5_8
          have hbe := hbe.trans (hu12.below (B := w.heap.size) hl8)
          clear B8 hu12
          have B8 := C8
          clear C8
          clear a0 a1 a2 a3 a4
          have z8_0 := B8.cell (k := 0) rfl
          go_wp2_with fail
          (with_reducible refine (HS _ (HQ.out.next hbe)).mono ?_)
          rintro e w13 ⟨rfl, hb13⟩
          clear z8_0
          have B5 := B5.next hb13 B5.lt
          have B8 := B8.next hb13 B8.lt
          have hbe := below_join hbe hb13
          clear hb13
          go_wp2
          go_ret
          exact ⟨rfl, hbe⟩
        · skip
          have h5i : ((K : Int) == 5) = false := beq_eq_false_iff_ne.2 (by omega)
          go_wp2_with (with_reducible refine wpList_alloc (o := ⟨some 8, .alloc 37, _, _, _, _⟩) (by with_unfolding_all rfl) 37 (by with_unfolding_all rfl) (.agg #[.int .i64 0, .int .i64 0, .string ByteArray.empty, .int .i64 0, .int .i64 0]) [Value.int .i64 0, .int .i64 0, .string ByteArray.empty, .int .i64 0, .int .i64 0] (by exact Tryd.zeroTok) (by with_unfolding_all rfl) ?_)
          intro g8 w11 hg8 hs11 hb11 B8
          have hl8 : w.heap.size ≤ g8 := Nat.le_trans hbe.size (Nat.le_of_eq hg8.out.symm)
          have ne5_8 : g5 ≠ g8 := by have := B5.lt; have := hg8.out; omega
          have ne8_5 := ne5_8.symm
          have hb11 := hb11.mono (Nat.le_of_eq hg8.out.symm)
          have B5 := B5.next hb11 B5.lt
          have hbe := below_join hbe hb11
          clear hb11 hg8 hs11
          go_wp2_with (with_reducible refine wpList_put (o := ⟨none, .store 37 (.tmp 8) (.tmp 37), _, _, _, _⟩) (by with_unfolding_all rfl) 37 (.tmp 8) (.tmp 37) (by with_unfolding_all rfl) g8 0 (by with_unfolding_all rfl) (.agg #[.int .i64 (K : Int), .int .i64 (N1 : Int), .string X, .int .i64 (L1 : Int), .int .i64 (C1 : Int)]) (by with_unfolding_all rfl) B8 [Value.int .i64 (K : Int), .int .i64 (N1 : Int), .string X, .int .i64 (L1 : Int), .int .i64 (C1 : Int)] (by with_unfolding_all rfl) (by with_unfolding_all (exact Tryd.szTok)) (by with_unfolding_all (exact Nat.le_refl 5)) (by with_unfolding_all (exact tok_one _ _ _ _ _)) ?_)
          intro w12 hu12 C8
          rw [splice_all _ _ (by rfl)] at C8
          have B5 := B5.upd hu12 ne5_8
          have hbe := hbe.trans (hu12.below (B := w.heap.size) hl8)
          clear B8 hu12
          have B8 := C8
          clear C8
          clear a0 a1 a2 a3 a4
          have z8_0 := B8.cell (k := 0) rfl
          go_wp2
          go_roundw
          case rel => exact ⟨k + 1, by rw [hn.out]; exact hlt, by go_num, fun j t2 hj ht2 => by
              rcases Nat.lt_or_ge j k with h | h
              · exact HA5.out j t2 h ht2
              · have : j = k := by omega
                subst this
                rw [HTK.out] at ht2
                injection ht2 with ht2
                rw [← ht2, HKK.out]; exact h5, B5, hbe⟩
          case measure => simp [intOf]; omega
      · have hkn : k = n := by omega
        subst hkn
        have hok := HALL.out (fun t ht => by
          obtain ⟨j, hj, e⟩ := List.getElem_of_mem ht
          exact HA5.out j t (by have := hn.out; omega) (by rw [List.getElem?_eq_getElem hj, e]))
        have HOK := Lib.hid hok
        have HJ := fun w hA => join_any (some ⟨g5, 0, none⟩) c5 T w (by rw [hn.out]; omega) hA (by have := HJL.out; omega)
        rw [hn.out] at HJ
        have HTJ := HT.out (joinM T) (by have := HJL.out; omega) k (HMAP.out _ HOK.out.1) hn0
        obtain ⟨TJ, hTJ⟩ : ∃ x, toks (joinM T) false 0 1 1 = x := ⟨_, rfl⟩
        have hpj : TJ.map noPl = T.map noPl := by rw [← HOK.out.1, ← hTJ]; rfl
        have hlj : TJ.length = k := by rw [← hTJ]; exact HMAP.out _ HOK.out.1
        rw [hTJ] at HTJ
        have HTW := HT.out (wideL cmt T) (by have := HWL.out k; rw [HWT.out] at this; omega) k (HMAP.out _ HOK.out.2) hn0
        obtain ⟨TW, hTW⟩ : ∃ x, toks (wideL cmt T) false 0 1 1 = x := ⟨_, rfl⟩
        have hpw : TW.map noPl = T.map noPl := by rw [← HOK.out.2, ← hTW]; rfl
        have hlw : TW.length = k := by rw [← hTW]; exact HMAP.out _ HOK.out.2
        rw [hTW] at HTW
        obtain ⟨JB, hJB⟩ : ∃ x : ByteArray, (⟨(joinM T).toArray⟩ : ByteArray) = x := ⟨_, rfl⟩
        rw [hJB] at HTJ
        simp only [hJB] at HJ
        obtain ⟨WB, hWB⟩ : ∃ x : ByteArray, (⟨(wideL cmt T).toArray⟩ : ByteArray) = x := ⟨_, rfl⟩
        rw [hWB] at HTW
        have HPJ := Lib.hid hpj
        have HLJ := Lib.hid hlj
        have HPW := Lib.hid hpw
        have HLW := Lib.hid hlw
        have HWB := Lib.hid hWB
        have hki : ¬ (k : Int) < (k : Int) := by omega
        clear hok hpj hlj hpw hlw hTJ hTW hJB hWB HA5
        go_wp2_with fail
        (with_reducible refine (HJ _ (tks_blk B5)).mono ?_)
        rintro e w21 ⟨rfl, hb21⟩
        have B5 := B5.next hb21 B5.lt
        have hbe := below_join hbe hb21
        clear hb21
        go_wp2_with fail
        (with_reducible refine (HTJ _ (HQ.out.next hbe).tt).mono ?_)
        rintro e w22 ⟨⟨g9, c9, R9, rfl, hl9, hc9, B9⟩, hb22⟩
        have B5 := B5.next hb22 B5.lt
        have hbe := below_join hbe hb22
        clear hb22
        have H1 : Hid (WdRel T cmt g5 (flatT T ++ R5) g9 (flatT TJ ++ R9) w (.int .i64 0) (.string { data := #[] }) w22) := (⟨0, Nat.zero_le _, rfl, rfl, B5, B9, hbe⟩ : WdRel T cmt g5 (flatT T ++ R5) g9 (flatT TJ ++ R9) w (.int .i64 0) (.string { data := #[] }) w22)
        clear B5 B9 hbe HJ HTJ
        go_wp2
        go_loopw [51, 11] (WdRel T cmt g5 (flatT T ++ R5) g9 (flatT TJ ++ R9) w) (fun i _ _ => k - (intOf i).toNat)
        case atStart => exact H1.out
        case round =>
          clear H1
          obtain ⟨j, hj, rfl, rfl, B5, B9, hbe⟩ := hrel
          rw [hn.out] at hj
          by_cases hlt : j < k
          · have hji : (j : Int) < (k : Int) := by omega
            have hj0 : (0 : Int) ≤ (j : Int) := by omega
            obtain ⟨t, ht⟩ : ∃ t, T[j]? = some t := ⟨_, List.getElem?_eq_getElem (by rw [hn.out]; exact hlt)⟩
            obtain ⟨a0, a1, a2, a3, a4⟩ := five_blk B5 ht
            have hnx := wide_next (cmt := cmt) ht
            have hl1 := HWL.out j
            have hl2 := HWL.out (j + 1)
            have hnl := hnx
            replace hnl := congrArg List.length hnl
            obtain ⟨K, hK⟩ : ∃ K, t.kind = K := ⟨_, rfl⟩
            obtain ⟨N1, hN1⟩ : ∃ K, t.n = K := ⟨_, rfl⟩
            obtain ⟨L1, hL1⟩ : ∃ K, t.line = K := ⟨_, rfl⟩
            obtain ⟨C1, hC1⟩ : ∃ K, t.col = K := ⟨_, rfl⟩
            have hxs : (tB t).size = t.text.length := mk_size t.text
            obtain ⟨X, hX⟩ : ∃ K, tB t = K := ⟨_, rfl⟩
            rw [hK] at a0
            rw [hN1] at a1
            rw [hX] at a2 hxs
            rw [hL1] at a3
            rw [hC1] at a4
            have hos := mk_size (wideL cmt (T.take j))
            obtain ⟨O, hO⟩ : ∃ O : ByteArray, (⟨(wideL cmt (T.take j)).toArray⟩ : ByteArray) = O := ⟨_, rfl⟩
            rw [hO] at hos
            have hxb : X.size ≤ 28000 := by
              rw [hxs]
              rw [List.length_append, List.length_append] at hnl
              omega
            have hob : O.size ≤ 28000 := by omega
            have hnew : Hid ((⟨(wideL cmt (T.take (j + 1))).toArray⟩ : ByteArray) = O ++ ({ data := #[32, 35] } ++ C ++ { data := #[10, 9, 13, 10] } ++ X)) := by
              have : (⟨(wideL cmt (T.take (j + 1))).toArray⟩ : ByteArray) = O ++ ({ data := #[32, 35] } ++ C ++ { data := #[10, 9, 13, 10] } ++ X) := by
                apply data_inj
                rw [hnx, ← hO, ← HCm.out, ← hX]
                simp [sepW, tB]
              exact this
            have hcat1 : ¬ 9223372036854775807 < 2 + C.size := by omega
            have hcat2 : ¬ 9223372036854775807 < ({ data := #[32, 35] } ++ C : ByteArray).size + 4 := by rw [app_size]; show ¬ 9223372036854775807 < 2 + C.size + 4; omega
            have hcat3 : ¬ 9223372036854775807 < ({ data := #[32, 35] } ++ C ++ { data := #[10, 9, 13, 10] } : ByteArray).size + X.size := by rw [app_size, app_size]; show ¬ 9223372036854775807 < 2 + C.size + 4 + X.size; omega
            have hcat4 : ¬ 9223372036854775807 < O.size + ({ data := #[32, 35] } ++ C ++ { data := #[10, 9, 13, 10] } ++ X : ByteArray).size := by rw [app_size, app_size, app_size]; show ¬ 9223372036854775807 < O.size + (2 + C.size + 4 + X.size); omega
            have hcat2b : ¬ 9223372036854775807 < 2 + C.size + 4 := by omega
            have hcat3b : ¬ 9223372036854775807 < 2 + C.size + 4 + X.size := by omega
            have hcat4b : ¬ 9223372036854775807 < O.size + (2 + C.size + 4 + X.size) := by omega
            rw [hO]
            clear hK hN1 hL1 hC1 hX ht hnx hl1 hl2 hnl hxs hos hO
            go_wp2_with (with_reducible refine wpList_alloc (o := ⟨some 13, .alloc 37, _, _, _, _⟩) (by with_unfolding_all rfl) 37 (by with_unfolding_all rfl) (.agg #[.int .i64 0, .int .i64 0, .string ByteArray.empty, .int .i64 0, .int .i64 0]) [Value.int .i64 0, .int .i64 0, .string ByteArray.empty, .int .i64 0, .int .i64 0] (by exact Tryd.zeroTok) (by with_unfolding_all rfl) ?_)
            intro g13 w31 hg13 hs31 hb31 B13
            have hl13 : w.heap.size ≤ g13 := Nat.le_trans hbe.size (Nat.le_of_eq hg13.out.symm)
            have ne5_13 : g5 ≠ g13 := by have := B5.lt; have := hg13.out; omega
            have ne13_5 := ne5_13.symm
            have ne9_13 : g9 ≠ g13 := by have := B9.lt; have := hg13.out; omega
            have ne13_9 := ne9_13.symm
            have hb31 := hb31.mono (Nat.le_of_eq hg13.out.symm)
            have B5 := B5.next hb31 B5.lt
            have B9 := B9.next hb31 B9.lt
            have hbe := below_join hbe hb31
            clear hb31 hg13 hs31
            go_wp2_with (with_reducible refine wpList_put (o := ⟨none, .store 37 (.tmp 13) (.tmp 54), _, _, _, _⟩) (by with_unfolding_all rfl) 37 (.tmp 13) (.tmp 54) (by with_unfolding_all rfl) g13 0 (by with_unfolding_all rfl) (.agg #[.int .i64 (K : Int), .int .i64 (N1 : Int), .string X, .int .i64 (L1 : Int), .int .i64 (C1 : Int)]) (by with_unfolding_all rfl) B13 [Value.int .i64 (K : Int), .int .i64 (N1 : Int), .string X, .int .i64 (L1 : Int), .int .i64 (C1 : Int)] (by with_unfolding_all rfl) (by with_unfolding_all (exact Tryd.szTok)) (by with_unfolding_all (exact Nat.le_refl 5)) (by with_unfolding_all (exact tok_one _ _ _ _ _)) ?_)
            intro w32 hu32 C13
            rw [splice_all _ _ (by rfl)] at C13
            have B5 := B5.upd hu32 ne5_13
            have B9 := B9.upd hu32 ne9_13
            have hbe := hbe.trans (hu32.below (B := w.heap.size) hl13)
            clear B13 hu32
            have B13 := C13
            clear C13
            clear a0 a1 a2 a3 a4
            go_wp2
            have hdd := below_drew w32
            have B5 := B5.next hdd B5.lt
            have B9 := B9.next hdd B9.lt
            have B13 := B13.next hdd B13.lt
            have hbe := below_join hbe hdd
            refine wp_region_held_drew (S := fun w' => w'.cell? ⟨g13, 2, none⟩ = some (.string X)) (by kernel_rfl) (B13.cell (k := 2) rfl) (fun hHeld => ?_)
            clear hdd
            generalize w32.drew = w33 at B5 B9 B13 hbe hHeld  ⊢
            refine wpAnyH_take (i := 0) (v := ?vqaa0) rfl (by kernel_rfl) (by kernel_rfl) (by kernel_rfl) (fun _ _ _ h => h) (Or.inl ⟨by rfl, ?yqaa0⟩) (by assumption) ?rqaa0
            case yqaa0 => intro w hSw; (try dsimp only at hSw); go_simp <;> (try with_reducible rfl)
            (try simp only [List.getElem_toArray, List.getElem_cons_zero, Act.put, List.setIfInBounds_toArray, List.set_cons_zero, List.set_cons_succ])
            refine wpAnyH_take (i := 1) (v := ?vqaa1) rfl (by kernel_rfl) (by kernel_rfl) (by kernel_rfl) (fun _ _ _ h => h) (Or.inl ⟨by rfl, ?yqaa1⟩) (by assumption) ?rqaa1
            case yqaa1 => intro w hSw; (try dsimp only at hSw); go_simp <;> (try with_reducible rfl)
            (try simp only [List.getElem_toArray, List.getElem_cons_succ, List.getElem_cons_zero, Act.put, List.setIfInBounds_toArray, List.set_cons_zero, List.set_cons_succ])
            refine wpAnyH_take (i := 5) (v := ?vqaa5) rfl (by kernel_rfl) (by kernel_rfl) (by kernel_rfl) (fun _ _ _ h => h) (Or.inl ⟨by rfl, ?yqaa5⟩) (by assumption) ?rqaa5
            case yqaa5 => intro w hSw; (try dsimp only at hSw); go_simp <;> (try with_reducible rfl)
            (try simp only [List.getElem_toArray, List.getElem_cons_succ, List.getElem_cons_zero, Act.put, List.setIfInBounds_toArray, List.set_cons_zero, List.set_cons_succ])
            refine wpAnyH_take (i := 6) (v := ?vqaa6) rfl (by kernel_rfl) (by kernel_rfl) (by kernel_rfl) (fun _ _ _ h => h) (Or.inl ⟨by rfl, ?yqaa6⟩) (by assumption) ?rqaa6
            case yqaa6 => intro w hSw; have hSc := hSw; go_simp <;> (try with_reducible rfl)
            (try simp only [List.getElem_toArray, List.getElem_cons_succ, List.getElem_cons_zero, Act.put, List.setIfInBounds_toArray, List.set_cons_zero, List.set_cons_succ])
            refine wpAnyH_ready (rs := [2]) (by kernel_rfl) (by simp) ?_
            refine AllReadyH.cons rfl (fun K hK => ?_) AllReadyH.nil
            go_simp
            go_wp2_with fail
            (with_reducible refine (HR _ (HQ.out.next hbe)).mono ?_)
            rintro e w34 ⟨rfl, hb34⟩
            have B5 := B5.next hb34 B5.lt
            have B9 := B9.next hb34 B9.lt
            have B13 := B13.next hb34 B13.lt
            have hbe := below_join hbe hb34
            refine hK.out _ _ (B13.cell (k := 2) rfl) (fun hHeld => ?_)
            clear hK K hb34
            refine wpAnyH_take (i := 3) (v := ?vqaa3) rfl (by kernel_rfl) (by kernel_rfl) (by kernel_rfl) (fun _ _ _ h => h) (Or.inl ⟨by rfl, ?yqaa3⟩) (by assumption) ?rqaa3
            case yqaa3 => intro w hSw; (try dsimp only at hSw); go_simp <;> (try with_reducible rfl)
            (try simp only [List.getElem_toArray, List.getElem_cons_succ, List.getElem_cons_zero, Act.put, List.setIfInBounds_toArray, List.set_cons_zero, List.set_cons_succ])
            refine wpAnyH_take (i := 4) (v := ?vqaa4) rfl (by kernel_rfl) (by kernel_rfl) (by kernel_rfl) (fun _ _ _ h => h) (Or.inl ⟨by rfl, ?yqaa4⟩) (by assumption) ?rqaa4
            case yqaa4 => intro w hSw; (try dsimp only at hSw); go_simp <;> (try with_reducible rfl)
            (try simp only [List.getElem_toArray, List.getElem_cons_succ, List.getElem_cons_zero, Act.put, List.setIfInBounds_toArray, List.set_cons_zero, List.set_cons_succ])
            refine wpAnyH_take (i := 7) (v := ?vqaa7) rfl (by kernel_rfl) (by kernel_rfl) (by kernel_rfl) (fun _ _ _ h => h) (Or.inl ⟨by rfl, ?yqaa7⟩) (by assumption) ?rqaa7
            case yqaa7 => intro w hSw; (try dsimp only at hSw); go_simp <;> (try with_reducible rfl)
            (try simp only [List.getElem_toArray, List.getElem_cons_succ, List.getElem_cons_zero, Act.put, List.setIfInBounds_toArray, List.set_cons_zero, List.set_cons_succ])
            refine wpAnyH_take (i := 8) (v := ?vqaa8) rfl (by kernel_rfl) (by kernel_rfl) (by kernel_rfl) (fun _ _ _ h => h) (Or.inl ⟨by rfl, ?yqaa8⟩) (by assumption) ?rqaa8
            case yqaa8 => intro w hSw; (try dsimp only at hSw); go_simp <;> (try with_reducible rfl)
            (try simp only [List.getElem_toArray, List.getElem_cons_succ, List.getElem_cons_zero, Act.put, List.setIfInBounds_toArray, List.set_cons_zero, List.set_cons_succ])
            refine wpAnyH_take (i := 9) (v := ?vqaa9) rfl (by kernel_rfl) (by kernel_rfl) (by kernel_rfl) (fun _ _ _ h => h) (Or.inl ⟨by rfl, ?yqaa9⟩) (by assumption) ?rqaa9
            case yqaa9 => intro w hSw; (try dsimp only at hSw); go_simp <;> (try with_reducible rfl)
            (try simp only [List.getElem_toArray, List.getElem_cons_succ, List.getElem_cons_zero, Act.put, List.setIfInBounds_toArray, List.set_cons_zero, List.set_cons_succ])
            refine wpAnyH_done (by kernel_rfl) ?_ _
            clear hHeld 
            go_wp2
            go_roundw
            case rel => exact ⟨j + 1, by rw [hn.out]; exact hlt, by go_num, by rw [hnew.out], B5, B9, hbe⟩
            case measure => simp [intOf]; omega
          · have hjk : j = k := by omega
            subst hjk
            have hji : ¬ (j : Int) < (j : Int) := by omega
            rw [HWT.out, HWB.out]
            go_wp2_with fail
            (with_reducible refine (HTW _ (HQ.out.next hbe).tt).mono ?_)
            rintro e w41 ⟨⟨g14, c14, R14, rfl, hl14, hc14, B14⟩, hb41⟩
            have B5 := B5.next hb41 B5.lt
            have B9 := B9.next hb41 B9.lt
            have hbe := below_join hbe hb41
            clear hb41
            go_wp2_with fail
            (with_reducible refine (HS _ (HQ.out.next hbe)).mono ?_)
            rintro e w42 ⟨rfl, hb42⟩
            have B5 := B5.next hb42 B5.lt
            have B9 := B9.next hb42 B9.lt
            have B14 := B14.next hb42 B14.lt
            have hbe := below_join hbe hb42
            clear hb42
            have HPa := HPL (some ⟨g5, 0, none⟩) c5 T _ (by rw [hn.out]; omega) (tks_blk B5)
            rw [hn.out] at HPa
            go_wp2_with fail
            (with_reducible refine HPa.mono ?_)
            rintro e w43 ⟨⟨Aa, da, rfl, Oa⟩, hb43⟩
            have B5 := B5.next hb43 B5.lt
            have B9 := B9.next hb43 B9.lt
            have B14 := B14.next hb43 B14.lt
            have hbe := below_join hbe hb43
            have Ta := tks_own (l := T.map noPl) Oa
            clear hb43 HPa Oa
            have HPb := HPL (some ⟨g9, 0, none⟩) c9 TJ _ (by rw [HLJ.out]; omega) (tks_blk B9)
            rw [HLJ.out] at HPb
            go_wp2_with fail
            (with_reducible refine HPb.mono ?_)
            rintro e w44 ⟨⟨Ab, db, rfl, Ob⟩, hb44⟩
            have B5 := B5.next hb44 B5.lt
            have B9 := B9.next hb44 B9.lt
            have B14 := B14.next hb44 B14.lt
            have Ta := Ta.next hb44
            have hbe := below_join hbe hb44
            have Tb := tks_own (l := TJ.map noPl) Ob
            clear hb44 HPb Ob
            rw [HPJ.out] at Tb
            have HMa := same_any Aa Ab da db (T.map noPl) _ (by rw [List.length_map, hn.out]; omega) Ta Tb
            rw [List.length_map, hn.out] at HMa
            go_wp2_with fail
            (with_reducible refine (HMa).mono ?_)
            rintro e w45 ⟨rfl, hb45⟩
            have B5 := B5.next hb45 B5.lt
            have B9 := B9.next hb45 B9.lt
            have B14 := B14.next hb45 B14.lt
            have hbe := below_join hbe hb45
            clear hb45
            clear HMa Ta Tb
            have HPc := HPL (some ⟨g5, 0, none⟩) c5 T _ (by rw [hn.out]; omega) (tks_blk B5)
            rw [hn.out] at HPc
            go_wp2_with fail
            (with_reducible refine HPc.mono ?_)
            rintro e w46 ⟨⟨Ac, dc, rfl, Oc⟩, hb46⟩
            have B5 := B5.next hb46 B5.lt
            have B9 := B9.next hb46 B9.lt
            have B14 := B14.next hb46 B14.lt
            have hbe := below_join hbe hb46
            have Tc := tks_own (l := T.map noPl) Oc
            clear hb46 HPc Oc
            have HPd := HPL (some ⟨g14, 0, none⟩) c14 TW _ (by rw [HLW.out]; omega) (tks_blk B14)
            rw [HLW.out] at HPd
            go_wp2_with fail
            (with_reducible refine HPd.mono ?_)
            rintro e w47 ⟨⟨Ad, dd, rfl, Od⟩, hb47⟩
            have B5 := B5.next hb47 B5.lt
            have B9 := B9.next hb47 B9.lt
            have B14 := B14.next hb47 B14.lt
            have Tc := Tc.next hb47
            have hbe := below_join hbe hb47
            have Td := tks_own (l := TW.map noPl) Od
            clear hb47 HPd Od
            rw [HPW.out] at Td
            have HMc := same_any Ac Ad dc dd (T.map noPl) _ (by rw [List.length_map, hn.out]; omega) Tc Td
            rw [List.length_map, hn.out] at HMc
            go_wp2_with fail
            (with_reducible refine (HMc).mono ?_)
            rintro e w48 ⟨rfl, hb48⟩
            have B5 := B5.next hb48 B5.lt
            have B9 := B9.next hb48 B9.lt
            have B14 := B14.next hb48 B14.lt
            have hbe := below_join hbe hb48
            clear hb48
            clear HMc Tc Td
            go_wp2
            go_ret
            exact ⟨rfl, hbe⟩
end Go.Proofs.YtlpocfojgibhjaaDoor
