/-
  Contract of the walk over the reference's Rot. Conditions: the record holds the disk.
-/
import Derived.Test.YtbmoedgokimhmaaRs1
namespace Go.Proofs.Ytbmoedgokimhmaa
open Go.RowKit

set_option maxRecDepth 100000 in
set_option maxHeartbeats 3200000 in
theorem rrot_any (gr ga cap : Nat) (X : List Value) (M : DM) (i b : Int) (w : World) (hM : M.ok) (h : RRep w gr ga cap X M) :
    Calls Try.prog 62 #[.pointer (some ⟨gr, 0, none⟩), .int .i64 i, .int .i64 b] w fun x w' => x = .returned (.int .i64 (M.rotE i b)) ∧ RRep w' gr ga cap X (M.rot i b) ∧ Only [gr, ga] w w' := by
  obtain ⟨b0, hp⟩ : ∃ b0, M.okP i = b0 := ⟨_, rfl⟩
  have HP := Lib.hid hp
  have HH := Lib.hid h
  by_cases hf : (M.okP i && decide (0 ≤ b ∧ b < 1024)) = true
  · obtain ⟨e1, e2⟩ := rot_good hf
    have hft : b0 = true ∧ 0 ≤ b ∧ b < 1024 := by
      rw [hp, Bool.and_eq_true] at hf
      exact ⟨hf.1, of_decide_eq_true hf.2⟩
    obtain ⟨rfl, hb0, hb1⟩ := hft
    obtain ⟨j, rfl, hj⟩ := DM.okP_nat hp
    obtain ⟨n, rfl⟩ : ∃ n : Nat, b = (n : Int) := ⟨b.toNat, by omega⟩
    rw [Int.toNat_natCast, Int.toNat_natCast] at e2
    obtain ⟨q, hq⟩ : ∃ q, n / 8 = q := ⟨_, rfl⟩
    obtain ⟨r, hr⟩ : ∃ r, n % 8 = r := ⟨_, rfl⟩
    have hq128 : q < 128 := by omega
    have hr8 : r < 8 := by omega
    obtain ⟨l, hl⟩ : ∃ l, (M.page j).old = l := ⟨_, rfl⟩
    have hll : l.length = 128 := by rw [← hl]; exact (DM.page_ok hM hj).1
    obtain ⟨x, hx⟩ : ∃ x, l[q]? = some x := ⟨_, List.getElem?_eq_getElem (by omega)⟩
    obtain ⟨y, hy⟩ : ∃ y, x ^^^ UInt8.ofNat (2 ^ r) = y := ⟨_, rfl⟩
    have hflip : DM.flip l n = l.set q y := by unfold DM.flip; rw [hq, hr, List.getD_eq_getElem?_getD, hx, ← hy]; rfl
    rw [hl, hflip] at e2
    have hxor : bits .xor .u8 (x.toNat : Int) (2 ^ r) = (y.toNat : Int) := by
      have := u8_xor x (UInt8.ofNat (2 ^ r))
      rw [pow_byte r hr8, hy] at this
      rw [← this, Int.natCast_pow]; rfl
    have hwp := wrap_pow r hr8
    have hwq : IntKind.i64.wrap (q : Int) = (q : Int) := by simp only [IntKind.wrap_i64]; omega
    have hwr : IntKind.i64.wrap (r : Int) = (r : Int) := by simp only [IntKind.wrap_i64]; omega
    have hq0 : (0 : Int) ≤ (q : Int) := by omega
    have hr0 : (0 : Int) ≤ (r : Int) := by omega
    have hr8i : (r : Int) < 8 := by omega
    have hqi : (q : Int) < 128 := by omega
    have hqd : (n : Int).tdiv 8 = (q : Int) := by rw [Int.tdiv_eq_ediv_of_nonneg (by omega)]; omega
    have hrd : (n : Int).tmod 8 = (r : Int) := by rw [Int.tmod_eq_emod_of_nonneg (by omega)]; omega
    obtain ⟨so, hso⟩ : ∃ so : ByteArray, (⟨l.toArray⟩ : ByteArray) = so := ⟨_, rfl⟩
    have hzo : so.size = 128 := by rw [← hso]; exact hll
    have hlo : Hid (so.data.toList = l) := by
      have : so.data.toList = l := by rw [← hso]
      exact this
    have hsp : Hid (splice (pgRow M.ps ++ X) (j * 3 + 0) [.string ⟨(l.set q y).toArray⟩] = pgRow (M.ps.set j ⟨l.set q y, (M.page j).new⟩) ++ X) := by
      have : splice (pgRow M.ps ++ X) (j * 3 + 0) [.string ⟨(l.set q y).toArray⟩] = pgRow (M.ps.set j ⟨l.set q y, (M.page j).new⟩) ++ X := pgRow_splice (DM.page_at hj) X 0 _ _ rfl (by simp)
      exact this
    obtain ⟨N, hN⟩ : ∃ N, Hid (M.ps.length = N) := ⟨_, rfl⟩
    have hjN : (j : Int) < (N : Int) := by have := hN.out; omega
    have hjn : j < N := by have := hN.out; omega
    have hlen : Hid ((pgRow M.ps ++ X).length = N * 3 + X.length) := by
      have : (pgRow M.ps ++ X).length = N * 3 + X.length := by rw [List.length_append, pgRow_length, hN.out]
      exact this
    have c0 := h.d.cell (k := 0) rfl
    rw [hN.out] at c0
    have q0 : w.cell? ⟨ga, j * 3, none⟩ = some (.string so) := by
      have := h.q0 hj
      rw [hl] at this
      rw [← hso]; exact this
    have HX := Lib.hid hx
    have HLL := Lib.hid hll
    rw [e1, e2]
    obtain ⟨PG, hPG⟩ : ∃ PG : Pg, Hid ((⟨l.set q y, (M.page j).new⟩ : Pg) = PG) := ⟨_, rfl⟩
    rw [hPG.out] at hsp ⊢
    clear e1 e2 hf hp hq hr hl hll hx hy hflip hso hM hj h
    go_enter Try.func62, Try.ntmps62
    go_wp2_with fail
    (with_reducible refine (ris_any gr ga cap X M _ _ _ HP.out HH.out).mono ?_)
    rintro e w' ⟨rfl, rfl⟩
    go_wp2_with (with_reducible refine wpList_bytesH (o := ⟨some 30, .convert 9 110 (.tmp 29), _, _, _, _⟩) (by with_unfolding_all rfl) (.tmp 29) (by with_unfolding_all rfl) so (by with_unfolding_all rfl) ?_)
    intro g cap2 w2 hg hb2 hH2
    rw [hlo.out] at hH2
    have hd2 := below_drew w2
    have hH3 := hH2.next hd2
    have hb3 := below_join hb2 hd2
    have hc3 := hH3.cell q x HX.out
    have hgw : w.heap.size ≤ g := Nat.le_of_eq hg.out
    clear c0 q0 hb2 hH2 hd2 hg
    go_wp2
    refine wp_region_held_drew (S := fun _ => True) (by kernel_rfl) trivial (fun hHeld => ?_)
    generalize w2.drew = wd at hb3 hH3 hc3 ⊢
    refine wpAnyH_take (i := 0) (v := ?vv0) rfl (by kernel_rfl) (by kernel_rfl) (by kernel_rfl) (fun _ _ _ h => h) (Or.inl ⟨by rfl, ?yv0⟩) (by assumption) ?rv0
    case yv0 => intro w hSw; (try dsimp only at hSw); go_simp <;> (try with_reducible rfl)
    (try simp only [List.getElem_toArray, List.getElem_cons_zero, Act.put, List.setIfInBounds_toArray, List.set_cons_zero, List.set_cons_succ])
    refine wpAnyH_take (i := 1) (v := ?vv1) rfl (by kernel_rfl) (by kernel_rfl) (by kernel_rfl) (fun _ _ _ h => h) (Or.inl ⟨by rfl, ?yv1⟩) (by assumption) ?rv1
    case yv1 => intro w hSw; (try dsimp only at hSw); go_simp <;> (try with_reducible rfl)
    (try simp only [List.getElem_toArray, List.getElem_cons_succ, List.getElem_cons_zero, Act.put, List.setIfInBounds_toArray, List.set_cons_zero, List.set_cons_succ])
    refine wpAnyH_take (i := 2) (v := ?vv2) rfl (by kernel_rfl) (by kernel_rfl) (by kernel_rfl) (fun _ _ _ h => h) (Or.inl ⟨by rfl, ?yv2⟩) (by assumption) ?rv2
    case yv2 => intro w hSw; (try dsimp only at hSw); go_simp <;> (try with_reducible rfl)
    (try simp only [List.getElem_toArray, List.getElem_cons_succ, List.getElem_cons_zero, Act.put, List.setIfInBounds_toArray, List.set_cons_zero, List.set_cons_succ])
    refine wpAnyH_take (i := 3) (v := ?vv3) rfl (by kernel_rfl) (by kernel_rfl) (by kernel_rfl) (fun _ _ _ h => h) (Or.inl ⟨by rfl, ?yv3⟩) (by assumption) ?rv3
    case yv3 => intro w hSw; (try dsimp only at hSw); go_simp <;> (try with_reducible rfl)
    (try simp only [List.getElem_toArray, List.getElem_cons_succ, List.getElem_cons_zero, Act.put, List.setIfInBounds_toArray, List.set_cons_zero, List.set_cons_succ])
    refine wpAnyH_take (i := 4) (v := ?vv4) rfl (by kernel_rfl) (by kernel_rfl) (by kernel_rfl) (fun _ _ _ h => h) (Or.inl ⟨by rfl, ?yv4⟩) (by assumption) ?rv4
    case yv4 => intro w hSw; (try dsimp only at hSw); go_simp <;> (try with_reducible rfl)
    (try simp only [List.getElem_toArray, List.getElem_cons_succ, List.getElem_cons_zero, Act.put, List.setIfInBounds_toArray, List.set_cons_zero, List.set_cons_succ])
    refine wpAnyH_take (i := 5) (v := ?vv5) rfl (by kernel_rfl) (by kernel_rfl) (by kernel_rfl) (fun _ _ _ h => h) (Or.inl ⟨by rfl, ?yv5⟩) (by assumption) ?rv5
    case yv5 => intro w hSw; (try dsimp only at hSw); go_simp <;> (try with_reducible rfl)
    (try simp only [List.getElem_toArray, List.getElem_cons_succ, List.getElem_cons_zero, Act.put, List.setIfInBounds_toArray, List.set_cons_zero, List.set_cons_succ])
    refine wpAnyH_take (i := 6) (v := ?vv6) rfl (by kernel_rfl) (by kernel_rfl) (by kernel_rfl) (fun _ _ _ h => h) (Or.inl ⟨by rfl, ?yv6⟩) (by assumption) ?rv6
    case yv6 => intro w hSw; (try dsimp only at hSw); go_simp <;> (try with_reducible rfl)
    (try simp only [List.getElem_toArray, List.getElem_cons_succ, List.getElem_cons_zero, Act.put, List.setIfInBounds_toArray, List.set_cons_zero, List.set_cons_succ])
    refine wpAnyH_take (i := 8) (v := ?vv8) rfl (by kernel_rfl) (by kernel_rfl) (by kernel_rfl) (fun _ _ _ h => h) (Or.inl ⟨by rfl, ?yv8⟩) (by assumption) ?rv8
    case yv8 => intro w hSw; (try dsimp only at hSw); go_simp <;> (try with_reducible rfl)
    (try simp only [List.getElem_toArray, List.getElem_cons_succ, List.getElem_cons_zero, Act.put, List.setIfInBounds_toArray, List.set_cons_zero, List.set_cons_succ])
    refine wpAnyH_take (i := 9) (v := ?vv9) rfl (by kernel_rfl) (by kernel_rfl) (by kernel_rfl) (fun _ _ _ h => h) (Or.inl ⟨by rfl, ?yv9⟩) (by assumption) ?rv9
    case yv9 => intro w hSw; (try dsimp only at hSw); go_simp <;> (try with_reducible rfl)
    (try simp only [List.getElem_toArray, List.getElem_cons_succ, List.getElem_cons_zero, Act.put, List.setIfInBounds_toArray, List.set_cons_zero, List.set_cons_succ])
    refine wpAnyH_take (i := 10) (v := ?vv10) rfl (by kernel_rfl) (by kernel_rfl) (by kernel_rfl) (fun _ _ _ h => h) (Or.inl ⟨by rfl, ?yv10⟩) (by assumption) ?rv10
    case yv10 => intro w hSw; (try dsimp only at hSw); go_simp <;> (try with_reducible rfl)
    (try simp only [List.getElem_toArray, List.getElem_cons_succ, List.getElem_cons_zero, Act.put, List.setIfInBounds_toArray, List.set_cons_zero, List.set_cons_succ])
    refine wpAnyH_ready (rs := [7]) (by kernel_rfl) (by simp) ?_
    refine AllReadyH.cons rfl (fun K hK => ?_) AllReadyH.nil
    go_simp
    refine hK.out _ _ trivial (fun hHeld => ?_)
    clear hK K
    refine wpAnyH_take (i := 11) (v := ?vv11) rfl (by kernel_rfl) (by kernel_rfl) (by kernel_rfl) (fun _ _ _ h => h) (Or.inl ⟨by rfl, ?yv11⟩) (by assumption) ?rv11
    case yv11 => intro w hSw; (try dsimp only at hSw); go_simp <;> (try with_reducible rfl)
    (try simp only [List.getElem_toArray, List.getElem_cons_succ, List.getElem_cons_zero, Act.put, List.setIfInBounds_toArray, List.set_cons_zero, List.set_cons_succ])
    refine wpAnyH_take (i := 12) (v := ?vv12) rfl (by kernel_rfl) (by kernel_rfl) (by kernel_rfl) (fun _ _ _ h => h) (Or.inl ⟨by rfl, ?yv12⟩) (by assumption) ?rv12
    case yv12 => intro w hSw; (try dsimp only at hSw); go_simp <;> (try with_reducible rfl)
    (try simp only [List.getElem_toArray, List.getElem_cons_succ, List.getElem_cons_zero, Act.put, List.setIfInBounds_toArray, List.set_cons_zero, List.set_cons_succ])
    refine wpAnyH_ready (rs := [13]) (by kernel_rfl) (by simp) ?_
    refine AllReadyH.cons rfl (fun K hK => ?_) AllReadyH.nil
    rw [if_pos (by rfl)]
    refine wp_putByte 5 (.tmp 43) (.tmp 42) rfl g q y rfl rfl hH3 (by rw [HLL.out]; exact hq128) (by exact Try.sz5) ?_
    intro w4 hu4 hH4
    have hb4 := hb3.trans (hu4.below (B := w.heap.size) hgw)
    refine hK.out _ _ trivial (fun hHeld => ?_)
    clear hK K hHeld hb3 hH3 hc3 hu4
    refine wpAnyH_done (by kernel_rfl) ?_ _
    have hd4 := below_drew w4
    have hb5 := below_join hb4 hd4
    have hH5 := hH4.next hd4
    have hR5 := HH.out.next hb5
    have hS := hR5.d.cell (k := 0) rfl
    rw [hN.out] at hS
    have hcv := run_conv_at w4.drew (some ⟨g, 0, none⟩) cap2 128 (l.set q y) (by rw [List.length_set]; exact HLL.out.symm) hH5.holds
    obtain ⟨sn, hsn⟩ : ∃ sn : ByteArray, (⟨(l.set q y).toArray⟩ : ByteArray) = sn := ⟨_, rfl⟩
    rw [hsn] at hcv hsp
    clear hb4 hd4 hH4 hH5 hsn
    go_wp2
    refine wp_region_held_drew (S := fun w' => w'.cell? ⟨gr, 0, none⟩ = some (.slice (some ⟨ga, 0, none⟩) N cap)) (by kernel_rfl) hS (fun hHeld => ?_)
    generalize w4.drew = we at hb5 hR5 hS hcv hHeld ⊢
    refine wpAnyH_take (i := 0) (v := ?vu0) rfl (by kernel_rfl) (by kernel_rfl) (by kernel_rfl) (fun _ _ _ h => h) (Or.inl ⟨by rfl, ?yu0⟩) (by assumption) ?ru0
    case yu0 => intro w hSw; (try dsimp only at hSw); go_simp <;> (try with_reducible rfl)
    (try simp only [List.getElem_toArray, List.getElem_cons_zero, Act.put, List.setIfInBounds_toArray])
    refine wpAnyH_take (i := 1) (v := ?vu1) rfl (by kernel_rfl) (by kernel_rfl) (by kernel_rfl) (fun _ _ _ h => h) (Or.inl ⟨by rfl, ?yu1⟩) (by assumption) ?ru1
    case yu1 => intro w hSw; (try dsimp only at hSw); go_simp <;> (try with_reducible rfl)
    (try simp only [List.getElem_toArray, List.getElem_cons_succ, List.getElem_cons_zero, Act.put, List.setIfInBounds_toArray, List.set_cons_zero, List.set_cons_succ])
    refine wpAnyH_take (i := 2) (v := ?vu2) rfl (by kernel_rfl) (by kernel_rfl) (by kernel_rfl) (fun _ _ _ h => h) (Or.inl ⟨by rfl, ?yu2⟩) (by assumption) ?ru2
    case yu2 => intro w hSw; (try dsimp only at hSw); go_simp <;> (try with_reducible rfl)
    (try simp only [List.getElem_toArray, List.getElem_cons_succ, List.getElem_cons_zero, Act.put, List.setIfInBounds_toArray, List.set_cons_zero, List.set_cons_succ])
    refine wpAnyH_take (i := 3) (v := ?vu3) rfl (by kernel_rfl) (by kernel_rfl) (by kernel_rfl) (fun _ _ _ h => h) (Or.inl ⟨by rfl, ?yu3⟩) (by assumption) ?ru3
    case yu3 => intro w hSw; (try dsimp only at hSw); go_simp <;> (try with_reducible rfl)
    (try simp only [List.getElem_toArray, List.getElem_cons_succ, List.getElem_cons_zero, Act.put, List.setIfInBounds_toArray, List.set_cons_zero, List.set_cons_succ])
    refine wpAnyH_take (i := 4) (v := ?vu4) rfl (by kernel_rfl) (by kernel_rfl) (by kernel_rfl) (fun _ _ _ h => h) (Or.inl ⟨by rfl, ?yu4⟩) (by assumption) ?ru4
    case yu4 => intro w hSw; (try dsimp only at hSw); go_simp <;> (try with_reducible rfl)
    (try simp only [List.getElem_toArray, List.getElem_cons_succ, List.getElem_cons_zero, Act.put, List.setIfInBounds_toArray, List.set_cons_zero, List.set_cons_succ])
    refine wpAnyH_take (i := 5) (v := ?vu5) rfl (by kernel_rfl) (by kernel_rfl) (by kernel_rfl) (fun _ _ _ h => h) (Or.inl ⟨by rfl, ?yu5⟩) (by assumption) ?ru5
    case yu5 => intro w hSw; (try dsimp only at hSw); go_simp <;> (try with_reducible rfl)
    (try simp only [List.getElem_toArray, List.getElem_cons_succ, List.getElem_cons_zero, Act.put, List.setIfInBounds_toArray, List.set_cons_zero, List.set_cons_succ])
    refine wpAnyH_ready (rs := [6]) (by kernel_rfl) (by simp) ?_
    refine AllReadyH.cons rfl (fun K hK => ?_) AllReadyH.nil
    go_simp
    refine hK.out _ _ hHeld (fun hHeld => ?_)
    clear hK K
    refine wpAnyH_take (i := 7) (v := ?vu7) rfl (by kernel_rfl) (by kernel_rfl) (by kernel_rfl) (fun _ _ _ h => h) (Or.inl ⟨by rfl, ?yu7⟩) (by assumption) ?ru7
    case yu7 => intro w hSw; (try dsimp only at hSw); go_simp <;> (try with_reducible rfl)
    (try simp only [List.getElem_toArray, List.getElem_cons_succ, List.getElem_cons_zero, Act.put, List.setIfInBounds_toArray, List.set_cons_zero, List.set_cons_succ])
    refine wpAnyH_take (i := 8) (v := ?vu8) rfl (by kernel_rfl) (by kernel_rfl) (by kernel_rfl) (fun _ _ _ h => h) (Or.inl ⟨by rfl, ?yu8⟩) (by assumption) ?ru8
    case yu8 => intro w hSw; (try dsimp only at hSw); go_simp <;> (try with_reducible rfl)
    (try simp only [List.getElem_toArray, List.getElem_cons_succ, List.getElem_cons_zero, Act.put, List.setIfInBounds_toArray, List.set_cons_zero, List.set_cons_succ])
    refine wpAnyH_ready (rs := [9]) (by kernel_rfl) (by simp) ?_
    refine AllReadyH.cons rfl (fun K hK => ?_) AllReadyH.nil
    rw [if_pos (by rfl)]
    refine wp_put 9 (.tmp 52) (.tmp 50) rfl ga (j * 3) rfl (.string sn) rfl hR5.p [.string sn] rfl (by exact Try.szS) (by rw [hlen.out, List.length_singleton]; omega) (one_cell1 rfl) ?_
    intro w7 hu7 hB7
    rw [show j * 3 = j * 3 + 0 from rfl, hsp.out] at hB7
    have hD7 := hR5.d.upd hu7 hR5.n1
    have h7 : RRep w7 gr ga cap X (M.set j PG) := ⟨by rw [DM.set_len]; exact hD7, hB7, hR5.n1⟩
    have ho8 := (Only.of_below (L := [gr, ga]) hb5).trans (Only.of_upd (L := [gr, ga]) hu7 (by simp))
    have hS7 := hD7.cell (k := 0) rfl
    rw [hN.out] at hS7
    refine hK.out _ _ hS7 (fun hHeld => ?_)
    clear hK K hHeld hB7 hD7 hu7 hb5 hR5 hS hcv
    refine wpAnyH_done (by kernel_rfl) ?_ _
    go_wp2
    go_ret
    exact ⟨rfl, h7, ho8⟩
  · have hff : (M.okP i && decide (0 ≤ b ∧ b < 1024)) = false := by simpa using hf
    obtain ⟨e1, e2⟩ := rot_bad hff
    rw [e1, e2]
    have hcase : b0 = false ∨ (b0 = true ∧ b < 0) ∨ (b0 = true ∧ 0 ≤ b ∧ 1024 ≤ b) := by
      rw [hp] at hff
      cases b0 with
      | false => exact Or.inl rfl
      | true =>
        rw [Bool.true_and] at hff
        have := of_decide_eq_false hff
        by_cases h0 : b < 0
        · exact Or.inr (Or.inl ⟨rfl, h0⟩)
        · exact Or.inr (Or.inr ⟨rfl, by omega, by omega⟩)
    clear e1 e2 hp h hf hff hM
    rcases hcase with rfl | ⟨rfl, h0⟩ | ⟨rfl, h0, h1⟩
    · go_enter Try.func62, Try.ntmps62
      go_wp2_with fail
      (with_reducible refine (ris_any gr ga cap X M _ _ _ HP.out HH.out).mono ?_)
      rintro e w' ⟨rfl, rfl⟩
      go_wp2
      go_ret
      exact ⟨rfl, HH.out, Only.refl _ _⟩
    · go_enter Try.func62, Try.ntmps62
      go_wp2_with fail
      (with_reducible refine (ris_any gr ga cap X M _ _ _ HP.out HH.out).mono ?_)
      rintro e w' ⟨rfl, rfl⟩
      go_wp2
      go_ret
      exact ⟨rfl, HH.out, Only.refl _ _⟩
    · go_enter Try.func62, Try.ntmps62
      go_wp2_with fail
      (with_reducible refine (ris_any gr ga cap X M _ _ _ HP.out HH.out).mono ?_)
      rintro e w' ⟨rfl, rfl⟩
      go_wp2
      go_ret
      exact ⟨rfl, HH.out, Only.refl _ _⟩
end Go.Proofs.Ytbmoedgokimhmaa
