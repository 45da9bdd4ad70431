/-
  The reference's Append, Replace and Do once more: a new row's block is one of the world after. Conditions: the rows lie there; few bytes.
-/
import Derived.Test.YtlmfdlkmbhmcgaaGU
namespace Go.Proofs.Ytlmfdlkmbhmcgaa
open Go.RowKit

theorem own_low2 {w : World} {base n c : Nat} {A : Option Addr} {xs : List Value} (h : w.ownsRow base 9 1 (.slice A n c) n xs) : ∀ g, A = some ⟨g, 0, none⟩ → g < w.heap.size := fun g hg => by
  subst hg
  exact (h.lt g rfl).2
set_option maxRecDepth 100000 in
set_option maxHeartbeats 1600000 in
theorem rappend_any2 (gr : Nat) (A : Option Addr) (c sz : Nat) (l : List ByteArray) (r : ByteArray) (w : World) (hr : r.size ≤ 8200) (hu : JM.useR l ≤ 100000) (hsz : sz ≤ 100000) (h : JRef w gr A c sz l) :
    Calls Try.prog 76 #[.pointer (some ⟨gr, 0, none⟩), .string r] w fun e w' => e = .returned (.tuple #[.int .i64 (JM.appN sz l r : Nat), .int .i64 (JM.appE sz l r)]) ∧ ∃ A' c', JRef w' gr A' c' sz (JM.appL sz l r) ∧ Only [gr] w w' ∧ (∀ g, A' = some ⟨g, 0, none⟩ → A' = A ∨ w.heap.size ≤ g ∧ g < w'.heap.size) := by
  obtain ⟨i0, hi, hz0, hz1, hz2⟩ := info_parts Try.infoS
  obtain ⟨n, hn⟩ : ∃ n, Hid (l.length = n) := ⟨_, rfl⟩
  obtain ⟨U, hU⟩ : ∃ U, Hid (JM.useR l = U) := ⟨_, rfl⟩
  have hn6 : n ≤ 100000 := by have := JM.useR_count l; rw [hn.out] at this; omega
  have hB := h.d
  rw [hn.out] at hB
  have hR := h.r
  have c0 := hB.cell (k := 0) rfl
  have c1 := hB.cell (k := 1) rfl
  have hgl := hB.lt
  by_cases hlong : 8000 < r.size
  · obtain ⟨e1, e2, e3⟩ := JM.app_long (sz := sz) (l := l) hlong
    rw [e1, e2, e3]
    have hli : (8000 : Int) < (r.size : Int) := by omega
    have HH := Lib.hid h
    clear h hR hB e1 e2 e3 hlong
    go_enter Try.func76, Try.ntmps76
    go_wp2
    go_ret2
    exact ⟨rfl, A, c, HH.out, Only.refl _ _, fun g hg => Or.inl rfl⟩
  · have hli : (r.size : Int) ≤ 8000 := by omega
    rw [hU.out] at hu
    by_cases hfull : sz < U + 2 + r.size
    · obtain ⟨e1, e2, e3⟩ := JM.app_full (sz := sz) (l := l) (r := r) hlong (by rw [hU.out]; exact hfull)
      rw [e1, e2, e3]
      have hfi : (sz : Int) < (U : Int) + 2 + (r.size : Int) := by omega
      have HH := Lib.hid h
      clear h hB e1 e2 e3 hlong hfull
      go_enter Try.func76, Try.ntmps76
      go_wp2
      go_quiet ((go_at_call 45; exact Calls.quiet_of_same (rused_q A c n l _ hn.out U hU.out (by omega) (hR.drewN _))))
      have hdn : Below w.heap.size w (w.drewN nq) := below_drewN (Below.refl _ _) nq
      have hJ := HH.out.next hdn
      have ho := Only.of_below (L := [gr]) hdn
      generalize w.drewN nq = wq at hJ ho ⊢
      go_wp2
      go_ret2
      exact ⟨rfl, A, c, hJ, ho, fun g hg => Or.inl rfl⟩
    · obtain ⟨e1, e2, e3⟩ := JM.app_good (sz := sz) (l := l) (r := r) hlong (by rw [hU.out]; exact hfull)
      rw [e1, e2, e3, hn.out]
      have hfi : (U : Int) + 2 + (r.size : Int) ≤ (sz : Int) := by omega
      have HH := Lib.hid h
      clear h hB e1 e2 e3 hlong hfull
      go_enter Try.func76, Try.ntmps76
      go_wp2
      go_quiet ((go_at_call 45; exact Calls.quiet_of_same (rused_q A c n l _ hn.out U hU.out (by omega) (hR.drewN _))))
      have hdn : Below w.heap.size w (w.drewN nq) := below_drewN (Below.refl _ _) nq
      have hJ := HH.out.next hdn
      have ho := Only.of_below (L := [gr]) hdn
      have hB := hJ.d
      rw [hn.out] at hB
      have c0 := hB.cell (k := 0) rfl
      have c1 := hB.cell (k := 1) rfl
      have hRq := hJ.r
      have hszq : w.heap.size ≤ (w.drewN nq).heap.size := hdn.size
      generalize w.drewN nq = wq at hJ ho hB c0 c1 hRq hszq ⊢
      clear hJ hR hdn
      go_wp2_with (with_reducible refine wpList_appS (o := ⟨some 29, .call ⟨.builtin .append, #[.tmp 24, .tmp 28], #[43, 43]⟩, _, _, _, _⟩) (by with_unfolding_all rfl) (.tmp 24) (.tmp 28) (by with_unfolding_all rfl) (by with_unfolding_all rfl) A n c (l.map Value.string) (by with_unfolding_all rfl) hRq (by with_unfolding_all (rw [List.length_map]; exact hn.out)) (strs_one l) (by with_unfolding_all omega) ?_)
      intro v1 w1 hown1 hb1
      obtain ⟨A1, c1', rfl⟩ := own_shape hown1
      have hB1 := hB.next hb1 hB.lt
      have ho1 := ho.trans (Only.of_below hb1)
      have hlt1 := hown1.lt
      have hs1 := hb1.size
      obtain ⟨b0, hb0⟩ : ∃ b0, Hid (wq.heap.size = b0) := ⟨_, rfl⟩
      have hgb : gr < b0 := by have := hb0.out; omega
      have hwb : w.heap.size ≤ b0 := by rw [← hb0.out]; exact hszq
      rw [hb0.out] at hown1 hlt1 hs1
      have hnx : Hid (l.map Value.string ++ [Value.string r] = (l ++ [r]).map Value.string) := by
        have : l.map Value.string ++ [Value.string r] = (l ++ [r]).map Value.string := by simp
        exact this
      obtain ⟨XS, hXS⟩ : ∃ XS, Hid (l.map Value.string = XS) := ⟨_, rfl⟩
      rw [hXS.out] at hown1 hnx
      have hHR := Lib.hid (HH.out.r)
      clear hB hRq hb1 ho c0 c1 hgl
      go_wp2_with (first | (at_builtin; refine wpList_append_own _ rfl _ _ 43 rfl b0 9 i0 _ 1 16 Try.underlying43 hi hz0 hz1 hz2 rfl (by decide) _ _ _ rfl (hown1.alloc _) ⟨w1.heap.size, 0, none⟩ 1 1 [.string r] rfl (by with_unfolding_all rfl) (fun j u hu => one_cellV hu) (one_cell1 rfl) (by unfold maxLen; omega) (by omega) (by with_unfolding_all (simp; omega)) ?_))
      intro v3 w3 hown3 hgrow3 _
      have hbz : Below b0 w1 w3 := ((Below.refl b0 w1).alloc hs1 (.cells #[.string r] 9)).grown hgrow3 (by simp; omega) (fun j hj => (hlt1 j hj).1)
      have hB3 : Blk w3 gr 79 [.int .i64 (sz : Int), .slice A n c] := hB1.next hbz hgb
      have ho3 := only_below ho1 hbz hwb
      rw [hnx.out] at hown3
      obtain ⟨A3, c3, rfl⟩ := own_shape hown3
      have hl3 := own_new hown3
      have hm3 := own_low2 hown3
      clear hown1 hlt1 hgrow3 hB1 ho1 hbz hown3
      go_wp2_with (with_reducible refine wpList_put (o := ⟨none, .store 43 (.tmp 36) (.tmp 34), _, _, _, _⟩) (by with_unfolding_all rfl) 43 (.tmp 36) (.tmp 34) (by with_unfolding_all rfl) gr 1 (by with_unfolding_all rfl) (.slice A3 (n + 1) c3) (by with_unfolding_all rfl) hB3 [(.slice A3 (n + 1) c3)] (by with_unfolding_all rfl) (by with_unfolding_all exact Try.szSs) (by with_unfolding_all simp) (by with_unfolding_all exact one_cell1 rfl) ?_)
      intro w4 hu4 hB4
      have hB4' : Blk w4 gr 79 [.int .i64 (sz : Int), .slice A3 (n + 1) c3] := hB4
      have ho4 := ho3.trans (Only.of_upd (L := [gr]) hu4 (by simp))
      have hne : ∀ g, A3 = some ⟨g, 0, none⟩ → g ≠ gr := fun g hg => by have := hl3.2 g hg; omega
      have hR4 := hl3.1.only (Only.of_upd (L := [gr]) hu4 (by simp)) (fun g hg => by simpa using hne g hg)
      have hm4 : w3.heap.size ≤ w4.heap.size := (Only.of_upd (L := [gr]) hu4 (by simp)).size
      have hJ4 : JRef w4 gr A3 c3 sz (l ++ [r]) := ⟨by rw [List.length_append, hn.out]; exact hB4', hR4, hne⟩
      have c1 := hB4'.cell (k := 1) rfl
      clear hB3 hB4 hu4 ho3 hR4 hB4'
      go_wp2
      go_ret2
      exact ⟨rfl, A3, c3, hJ4, ho4, fun g hg => Or.inr ⟨Nat.le_trans hwb (hl3.2 g hg), Nat.lt_of_lt_of_le (hm3 g hg) hm4⟩⟩
set_option maxRecDepth 100000 in
set_option maxHeartbeats 1600000 in
theorem rreplace_any2 (gr : Nat) (A B : Option Addr) (c cB sz : Nat) (o l : List ByteArray) (w : World) (hu : JM.useR l ≤ 200000) (_hsz : sz ≤ 100000) (h : JRef w gr A c sz o) (hB : RowAt w B (l.map Value.string)) (hBn : ∀ g, B = some ⟨g, 0, none⟩ → g ≠ gr) :
    Calls Try.prog 77 #[.pointer (some ⟨gr, 0, none⟩), .slice B l.length cB] w fun e w' => e = .returned (.int .i64 (JM.repE sz l)) ∧ ∃ A' c', JRef w' gr A' c' sz (JM.repL sz o l) ∧ Only [gr] w w' ∧ (∀ g, A' = some ⟨g, 0, none⟩ → A' = A ∨ w.heap.size ≤ g ∧ g < w'.heap.size) := by
  obtain ⟨n, hn⟩ : ∃ n, Hid (l.length = n) := ⟨_, rfl⟩
  obtain ⟨U, hU⟩ : ∃ U, Hid (JM.useR l = U) := ⟨_, rfl⟩
  have hn6 : n ≤ 200000 := by have := JM.useR_count l; rw [hn.out] at this; omega
  have HH := Lib.hid h
  have HB := Lib.hid hB.map
  have HBR := Lib.hid hB
  have hBlk := h.d
  have c0 := hBlk.cell (k := 0) rfl
  have hgl := hBlk.lt
  rw [hU.out] at hu
  rw [hn.out]
  clear h hB hBlk
  go_enter Try.func77, Try.ntmps77
  go_wp2
  go_loopw [5] (fun i wr => ∃ j : Nat, j ≤ n ∧ i = .int .i64 j ∧ longAt l j ∧ w = wr) (fun i _ => n - natOf i)
  case atStart => exact ⟨0, Nat.zero_le _, rfl, fun m r hm => absurd hm (Nat.not_lt_zero _), rfl⟩
  case round =>
    obtain ⟨j, hj, rfl, hla, rfl⟩ := hrel
    by_cases hjn : j < n
    · have hji : (j : Int) < (n : Int) := by omega
      obtain ⟨r, hr⟩ : ∃ r, l[j]? = some r := ⟨_, List.getElem?_eq_getElem (by rw [hn.out]; exact hjn)⟩
      obtain ⟨g, rfl, hc⟩ := HB.out j r hr
      have HLA := Lib.hid hla
      have HR := Lib.hid hr
      clear hr hla hj
      by_cases hlong : 8000 < r.size
      · have hli : (8000 : Int) < (r.size : Int) := by omega
        obtain ⟨e1, e2⟩ := JM.rep_long (sz := sz) (o := o) (any_true HR.out hlong)
        have E1 := Lib.hid e1
        have E2 := Lib.hid e2
        clear e1 e2
        go_wp2
        go_ret
        exact ⟨by rw [E1.out]; rfl, A, c, by rw [E2.out]; exact HH.out, Only.refl _ _, fun g hg => Or.inl rfl⟩
      · have hli : (r.size : Int) ≤ 8000 := by omega
        go_wp2
        go_roundw
        case rel => exact ⟨j + 1, by omega, by go_num, longAt_next HLA.out HR.out (by omega), by first | exact rfl | exact trivial⟩
        case measure => simp [natOf]; omega
    · obtain rfl : j = n := by omega
      have hany : l.any (fun r => decide (8000 < r.size)) = false := any_false (by rw [hn.out]; exact hla)
      have HANY := Lib.hid hany
      clear hla hany hj hjn
      by_cases hfull : sz < U
      · obtain ⟨e1, e2⟩ := JM.rep_full (sz := sz) (o := o) HANY.out (by rw [hU.out]; exact hfull)
        have E1 := Lib.hid e1
        have E2 := Lib.hid e2
        have hfi : (sz : Int) < (U : Int) := by omega
        clear e1 e2 hfull
        go_wp2
        go_quiet ((go_at_call 45; exact Calls.quiet_of_same (rused_q B cB j l _ hn.out U hU.out (by omega) (HBR.out.drewN _))))
        have hdn : Below w.heap.size w (w.drewN nq) := below_drewN (Below.refl _ _) nq
        have hJ := HH.out.next hdn
        have ho := Only.of_below (L := [gr]) hdn
        generalize w.drewN nq = wq at hJ ho ⊢
        go_wp2
        go_ret
        exact ⟨by rw [E1.out]; rfl, A, c, by rw [E2.out]; exact hJ, ho, fun g hg => Or.inl rfl⟩
      · obtain ⟨e1, e2⟩ := JM.rep_good (sz := sz) (o := o) HANY.out (by rw [hU.out]; exact hfull)
        have E1 := Lib.hid e1
        have E2 := Lib.hid e2
        have hfi : (U : Int) ≤ (sz : Int) := by omega
        clear e1 e2 hfull
        go_wp2
        go_quiet ((go_at_call 45; exact Calls.quiet_of_same (rused_q B cB j l _ hn.out U hU.out (by omega) (HBR.out.drewN _))))
        have hdn : Below w.heap.size w (w.drewN nq) := below_drewN (Below.refl _ _) nq
        have hJ := HH.out.next hdn
        have ho := Only.of_below (L := [gr]) hdn
        have hBq := hJ.d
        have hRq : RowAt (w.drewN nq) B (l.map Value.string) := HBR.out
        have hszq : w.heap.size ≤ (w.drewN nq).heap.size := hdn.size
        generalize w.drewN nq = wq at hJ ho hBq hRq hszq ⊢
        clear hJ hdn c0
        go_wp2_with (with_reducible refine wpList_appS (o := ⟨some 29, .call ⟨.builtin .append, #[.tmp 27, .tmp 28], #[43, 43]⟩, _, _, _, _⟩) (by with_unfolding_all rfl) (.tmp 27) (.tmp 28) (by with_unfolding_all rfl) (by with_unfolding_all rfl) B j cB (l.map Value.string) (by with_unfolding_all rfl) hRq (by with_unfolding_all (rw [List.length_map]; exact hn.out)) (strs_one l) (by with_unfolding_all omega) ?_)
        intro v1 w1 hown1 hb1
        obtain ⟨A1, c1', rfl⟩ := own_shape hown1
        have hl1 := own_new hown1
        have hm1 := own_low2 hown1
        have hB1 := hBq.next hb1 hBq.lt
        have ho1 := ho.trans (Only.of_below hb1)
        clear hown1 hBq ho hRq
        go_wp2_with (with_reducible refine wpList_put (o := ⟨none, .store 43 (.tmp 31) (.tmp 29), _, _, _, _⟩) (by with_unfolding_all rfl) 43 (.tmp 31) (.tmp 29) (by with_unfolding_all rfl) gr 1 (by with_unfolding_all rfl) (.slice A1 j c1') (by with_unfolding_all rfl) hB1 [(.slice A1 j c1')] (by with_unfolding_all rfl) (by with_unfolding_all exact Try.szSs) (by with_unfolding_all simp) (by with_unfolding_all exact one_cell1 rfl) ?_)
        intro w4 hu4 hB4
        have hB4' : Blk w4 gr 79 [.int .i64 (sz : Int), .slice A1 j c1'] := hB4
        have ho4 := ho1.trans (Only.of_upd (L := [gr]) hu4 (by simp))
        have hne : ∀ g, A1 = some ⟨g, 0, none⟩ → g ≠ gr := fun g hg => by have := hl1.2 g hg; omega
        have hR4 := hl1.1.only (Only.of_upd (L := [gr]) hu4 (by simp)) (fun g hg => by simpa using hne g hg)
        have hm4 : w1.heap.size ≤ w4.heap.size := (Only.of_upd (L := [gr]) hu4 (by simp)).size
        have hJ4 : JRef w4 gr A1 c1' sz l := ⟨by rw [hn.out]; exact hB4', hR4, hne⟩
        clear hB1 hB4 hu4 ho1 hR4 hB4'
        go_wp2
        go_ret
        exact ⟨by rw [E1.out]; rfl, A1, c1', by rw [E2.out]; exact hJ4, ho4, fun g hg => Or.inr ⟨Nat.le_trans hszq (hl1.2 g hg), Nat.lt_of_lt_of_le (hm1 g hg) hm4⟩⟩
set_option maxRecDepth 100000 in
set_option maxHeartbeats 1600000 in
theorem jdo_any2 (gr : Nat) (A : Option Addr) (c sz : Nat) (l : List ByteArray) (kind n k : Int) (fill : UInt8) (w : World) (hn : n ≤ 8200) (hk : k ≤ 20) (hu : JM.useR l ≤ 100000) (hsz : sz ≤ 100000) (h : JRef w gr A c sz l) :
    Calls Try.prog 40 #[.pointer (some ⟨gr, 0, none⟩), .agg #[.int .i64 kind, .int .i64 n, .int .i64 k, .int .u8 (fill.toNat : Int)]] w fun e w' => e = .returned (.tuple #[.int .i64 (JM.doN sz l ⟨kind, n, k, fill⟩ : Nat), .int .i64 (JM.doE sz l ⟨kind, n, k, fill⟩)]) ∧ ∃ A' c', JRef w' gr A' c' sz (JM.doL sz l ⟨kind, n, k, fill⟩) ∧ Only [gr] w w' ∧ (∀ g, A' = some ⟨g, 0, none⟩ → A' = A ∨ w.heap.size ≤ g ∧ g < w'.heap.size) := by
  have HH := Lib.hid h
  have hgl := h.d.lt
  have hun := Try.underlying75
  clear h
  by_cases hk1 : kind = 1
  · have e1 : JM.doN sz l ⟨kind, n, k, fill⟩ = JM.appN sz l (⟨kind, n, k, fill⟩ : OpJ).text := by unfold JM.doN; rw [if_pos hk1]
    have e2 : JM.doE sz l ⟨kind, n, k, fill⟩ = JM.appE sz l (⟨kind, n, k, fill⟩ : OpJ).text := by unfold JM.doE; rw [if_pos hk1]
    have e3 : JM.doL sz l ⟨kind, n, k, fill⟩ = JM.appL sz l (⟨kind, n, k, fill⟩ : OpJ).text := by unfold JM.doL; rw [if_pos hk1]
    have hts := text_size ⟨kind, n, k, fill⟩
    obtain ⟨sT, hsT⟩ : ∃ sT, Hid ((⟨kind, n, k, fill⟩ : OpJ).text = sT) := ⟨_, rfl⟩
    rw [e1, e2, e3, hsT.out]
    rw [hsT.out] at hts
    have hst8 : sT.size ≤ 8200 := by have h2 : sT.size = n.toNat := hts; omega
    clear e1 e2 e3 hts
    subst hk1
    go_enter Try.func40, Try.ntmps40
    go_wp2_with (with_reducible refine wpList_box (o := ⟨some 3, .box 75 (.tmp 1), _, _, _, _⟩) ?g2 75 (.tmp 1) ?o2 (.agg #[.int .i64 1, .int .i64 n, .int .i64 k, .int .u8 (fill.toNat : Int)]) [.int .i64 1, .int .i64 n, .int .i64 k, .int .u8 (fill.toNat : Int)] ?x2 ?c2 ?_)
    try (case g2 => rfl)
    try (case o2 => rfl)
    try (case x2 => rfl)
    try (case c2 => rfl)
    intro gb w1 hgb hs1 hb1 hB1
    have hbel : Below w.heap.size w w1 := hb1.mono (Nat.le_of_eq hgb.out.symm)
    have hB1' : Blk w1 gb 75 [.int .i64 1, .int .i64 n, .int .i64 k, .int .u8 (fill.toNat : Int)] := hB1
    have k0 := hB1'.cell (k := 0) rfl
    have hJ1 := HH.out.next hbel
    clear hb1 hB1 hgb hs1
    go_wp2_with (first | (with_reducible refine wpList_get (o := ⟨some 11, .load 75 (.tmp 3), _, _, _, _⟩) (by with_unfolding_all rfl) 75 (.tmp 3) (by with_unfolding_all rfl) gb 0 (by with_unfolding_all rfl) hB1' [.int .i64 1, .int .i64 n, .int .i64 k, .int .u8 (fill.toNat : Int)] (cs_all _) _ (by with_unfolding_all exact hun) (by with_unfolding_all rfl) (by with_unfolding_all exact Try.sizeJ) ?_) | fail)
    (with_reducible refine (text_any 1 n k fill sT _ hn hsT.out).mono ?_)
    rintro e w2 ⟨rfl, hb2⟩
    have hJ2 := hJ1.next hb2
    have hbel2 := below_join hbel hb2
    clear hJ1 hb2 k0 hB1'
    go_wp2_with fail
    (with_reducible refine (rappend_any2 gr A c sz l sT _ hst8 hu hsz hJ2).mono ?_)
    rintro e w3 ⟨rfl, A', c', hJ3, ho3, hn3⟩
    have ho := (Only.of_below (L := [gr]) hbel2).trans ho3
    have hsz2 := hbel2.size
    clear hJ2 ho3
    go_wp2
    go_ret2
    exact ⟨rfl, A', c', hJ3, ho, fun g hg => (hn3 g hg).imp id (fun h => ⟨Nat.le_trans hsz2 h.1, h.2⟩)⟩
  · by_cases hk2 : kind = 2
    · have e1 : JM.doN sz l ⟨kind, n, k, fill⟩ = 0 := by unfold JM.doN; rw [if_neg hk1]
      have e2 : JM.doE sz l ⟨kind, n, k, fill⟩ = JM.repE sz (⟨kind, n, k, fill⟩ : OpJ).texts := by unfold JM.doE; rw [if_neg hk1, if_pos hk2]
      have e3 : JM.doL sz l ⟨kind, n, k, fill⟩ = JM.repL sz l (⟨kind, n, k, fill⟩ : OpJ).texts := by unfold JM.doL; rw [if_neg hk1, if_pos hk2]
      have htu := texts_use (x := ⟨kind, n, k, fill⟩) hn hk
      rw [e1, e2, e3]
      clear e1 e2 e3 hk1
      subst hk2
      obtain ⟨T, hT⟩ : ∃ T, Hid ((⟨2, n, k, fill⟩ : OpJ).texts = T) := ⟨_, rfl⟩
      rw [hT.out] at htu ⊢
      go_enter Try.func40, Try.ntmps40
      go_wp2_with (with_reducible refine wpList_box (o := ⟨some 3, .box 75 (.tmp 1), _, _, _, _⟩) ?g2 75 (.tmp 1) ?o2 (.agg #[.int .i64 2, .int .i64 n, .int .i64 k, .int .u8 (fill.toNat : Int)]) [.int .i64 2, .int .i64 n, .int .i64 k, .int .u8 (fill.toNat : Int)] ?x2 ?c2 ?_)
      try (case g2 => rfl)
      try (case o2 => rfl)
      try (case x2 => rfl)
      try (case c2 => rfl)
      intro gb w1 hgb hs1 hb1 hB1
      have hbel : Below w.heap.size w w1 := hb1.mono (Nat.le_of_eq hgb.out.symm)
      have hB1' : Blk w1 gb 75 [.int .i64 2, .int .i64 n, .int .i64 k, .int .u8 (fill.toNat : Int)] := hB1
      have k0 := hB1'.cell (k := 0) rfl
      have hJ1 := HH.out.next hbel
      clear hb1 hB1 hgb hs1
      go_wp2_with (first | (with_reducible refine wpList_get (o := ⟨some 19, .load 75 (.tmp 3), _, _, _, _⟩) (by with_unfolding_all rfl) 75 (.tmp 3) (by with_unfolding_all rfl) gb 0 (by with_unfolding_all rfl) hB1' [.int .i64 2, .int .i64 n, .int .i64 k, .int .u8 (fill.toNat : Int)] (cs_all _) _ (by with_unfolding_all exact hun) (by with_unfolding_all rfl) (by with_unfolding_all exact Try.sizeJ) ?_) | fail)
      (with_reducible refine (texts_any 2 n k fill _ hn hk).mono ?_)
      rintro e w2 ⟨v, rfl, hown2, hb2⟩
      rw [hT.out] at hown2
      obtain ⟨A2, c2, rfl⟩ := own_shape hown2
      have hl2 := own_new hown2
      have hJ2 := hJ1.next hb2
      have hbel2 := below_join hbel hb2
      have hgl1 := hJ1.d.lt
      have hne2 : ∀ g, A2 = some ⟨g, 0, none⟩ → g ≠ gr := fun g hg => by have := hl2.2 g hg; omega
      clear hJ1 hb2 k0 hB1' hown2
      go_wp2_with fail
      (with_reducible refine (rreplace_any2 gr A A2 c c2 sz l T _ htu hsz hJ2 hl2.1 hne2).mono ?_)
      rintro e w3 ⟨rfl, A', c', hJ3, ho3, hn3⟩
      have ho := (Only.of_below (L := [gr]) hbel2).trans ho3
      have hsz2 := hbel2.size
      clear hJ2 ho3
      go_wp2
      go_ret2
      exact ⟨rfl, A', c', hJ3, ho, fun g hg => (hn3 g hg).imp id (fun h => ⟨Nat.le_trans hsz2 h.1, h.2⟩)⟩
    · have e1 : JM.doN sz l ⟨kind, n, k, fill⟩ = 0 := by unfold JM.doN; rw [if_neg hk1]
      have e2 : JM.doE sz l ⟨kind, n, k, fill⟩ = 0 := by unfold JM.doE; rw [if_neg hk1, if_neg hk2]
      have e3 : JM.doL sz l ⟨kind, n, k, fill⟩ = l := by unfold JM.doL; rw [if_neg hk1, if_neg hk2]
      have hn1 : (kind == 1) = false := beq_eq_false_iff_ne.2 hk1
      have hn2 : (kind == 2) = false := beq_eq_false_iff_ne.2 hk2
      rw [e1, e2, e3]
      clear e1 e2 e3 hk1 hk2
      go_enter Try.func40, Try.ntmps40
      go_wp2_with (with_reducible refine wpList_box (o := ⟨some 3, .box 75 (.tmp 1), _, _, _, _⟩) ?g2 75 (.tmp 1) ?o2 (.agg #[.int .i64 kind, .int .i64 n, .int .i64 k, .int .u8 (fill.toNat : Int)]) [.int .i64 kind, .int .i64 n, .int .i64 k, .int .u8 (fill.toNat : Int)] ?x2 ?c2 ?_)
      try (case g2 => rfl)
      try (case o2 => rfl)
      try (case x2 => rfl)
      try (case c2 => rfl)
      intro gb w1 hgb hs1 hb1 hB1
      have hbel : Below w.heap.size w w1 := hb1.mono (Nat.le_of_eq hgb.out.symm)
      have k0 := hB1.cell (k := 0) rfl
      have hJ1 := HH.out.next hbel
      clear hb1 hB1 hgb hs1
      go_wp2
      go_ret2
      exact ⟨rfl, A, c, hJ1, Only.of_below hbel, fun g hg => Or.inl rfl⟩
end Go.Proofs.Ytlmfdlkmbhmcgaa
