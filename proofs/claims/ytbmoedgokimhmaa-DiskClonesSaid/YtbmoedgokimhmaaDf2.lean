/-
  Contracts of the walks over disk.latest and Read. Conditions: the record holds the disk.
-/
import Derived.Test.YtbmoedgokimhmaaDf1
namespace Go.Proofs.Ytbmoedgokimhmaa
open Go.RowKit

theorem Try.zeroP : (Try.prog.info? 108).map (·.zero) = some (some (.agg (Z128.map B8).toArray)) := by kernel_rfl
theorem Try.sizeP : (Try.prog.info? 108).map (·.size) = some 128 := by kernel_rfl
theorem Try.sz5 : (Try.prog.info? 5).map (·.size) = some 1 := by kernel_rfl
theorem Z128_length : (Z128.map B8).length = 128 := by rfl
set_option maxRecDepth 100000 in
set_option maxHeartbeats 1600000 in
theorem latest_any (gd gp gm k cp : Nat) (Y : List Value) (M : DM) (i : Nat) (R : List UInt8) (w : World) (hi : i < M.ps.length) (hM : M.ok) (hR : (M.page i).now = R) (h : PRep w gd gp gm cp Y M k) :
    Calls Try.prog 68 #[.pointer (some ⟨gd, 0, none⟩), .int .i64 (i : Int)] w fun e w' => e = .returned (.agg (R.map B8).toArray) ∧ Below w.heap.size w w' := by
  have hRl : Hid (R.length = 128) := by rw [← hR]; exact Pg.now_length (DM.page_ok hM hi)
  have hi63 : i < 9223372036854775808 := by have := hM.2.2.2; omega
  obtain ⟨p, hp⟩ : ∃ p, M.page i = p := ⟨_, rfl⟩
  have hpa := DM.page_at hi
  rw [hp] at hpa hR
  obtain ⟨X, hX⟩ : ∃ X, p.new.getD Z128 = X := ⟨_, rfl⟩
  have hpk : p.ok := hp ▸ DM.page_ok hM hi
  have hXl : Hid ((X.map B8).length = 128) := by
    have : (X.map B8).length = 128 := by
      rw [List.length_map, ← hX]
      cases hn : p.new with
      | none => rfl
      | some l => exact hpk.2 l hn
    exact this
  obtain ⟨b, hb⟩ : ∃ b, p.pend = b := ⟨_, rfl⟩
  have hcase : (b = true ∧ R = X) ∨ (b = false ∧ R = p.old) := by
    rw [← hb, ← hX, ← hR]
    unfold Pg.pend Pg.now
    cases p.new with
    | none => exact Or.inr ⟨rfl, rfl⟩
    | some l => exact Or.inl ⟨rfl, rfl⟩
  have hol : Hid ((p.old.map B8).length = 128) := by
    have : (p.old.map B8).length = 128 := by rw [List.length_map]; exact hpk.1
    exact this
  have hRN : Hid ((R.map B8).length = 128) := by
    have : (R.map B8).length = 128 := by rw [List.length_map]; exact hRl.out
    exact this
  have HH := h
  have HM := hM
  have HI := Lib.hid hi
  have HPA := Lib.hid hpa
  have HX := Lib.hid hX
  have HBP := Lib.hid hb
  have HPP := Lib.hid hp
  obtain ⟨n, hn⟩ : ∃ n, Hid (M.ps.length = n) := ⟨_, rfl⟩
  have hin : (i : Int) < (n : Int) := by have := hn.out; omega
  clear hR hpa hX hb hp h hM hpk hi
  go_enter Try.func68, Try.ntmps68
  go_wp2_with (with_reducible refine wpList_alloc (o := ⟨some 4, .alloc 108, _, _, _, _⟩) (by with_unfolding_all rfl) 108 (by with_unfolding_all rfl) (.agg (Z128.map B8).toArray) (Z128.map B8) (by exact Try.zeroP) (by with_unfolding_all rfl) ?_)
  intro g4 w1 hg4 hs1 hb1 hB4
  have hle : w.heap.size ≤ g4 := Nat.le_of_eq hg4.out.symm
  have hbel1 : Below w.heap.size w w1 := hb1.mono hle
  have h1 := HH.next hbel1
  have c0 := h1.d.cell (k := 0) rfl
  have c1 := h1.d.cell (k := 1) rfl
  rw [hn.out] at c0
  have hl := run_look h1.m HPA.out hi63 true
  rw [HX.out, HBP.out] at hl
  simp only [if_true] at hl
  clear hg4 hs1 hb1
  go_wp2_with (with_reducible refine wpList_alloc (o := ⟨some 5, .alloc 108, _, _, _, _⟩) (by with_unfolding_all rfl) 108 (by with_unfolding_all rfl) (.agg (Z128.map B8).toArray) (Z128.map B8) (by exact Try.zeroP) (by with_unfolding_all rfl) ?_)
  intro g5 w2 hg5 hs2 hb2 hB5
  have hle5 : w1.heap.size ≤ g5 := Nat.le_of_eq hg5.out.symm
  clear hl c0 c1
  go_wp2_with (with_reducible refine wpList_put (o := ⟨none, .store 108 (.tmp 5) (.tmp 14), _, _, _, _⟩) (by with_unfolding_all rfl) 108 (.tmp 5) (.tmp 14) (by with_unfolding_all rfl) g5 0 (by with_unfolding_all rfl) (.agg (X.map B8).toArray) (by with_unfolding_all rfl) hB5 (X.map B8) (by with_unfolding_all rfl) (by rw [hXl.out]; exact Try.sizeP) (by with_unfolding_all (rw [hXl.out, Z128_length]; exact Nat.le_refl _)) (B8_one _) ?_)
  intro w3 hu3 hB53
  rw [splice_all _ _ (by rw [hXl.out, Z128_length])] at hB53
  have hb3 : Below w1.heap.size w1 w3 := (hb2.mono hle5).trans (hu3.below (B := w1.heap.size) hle5)
  have hB43 := hB4.next hb3 hB4.lt
  have h3 := h1.next hb3
  have hbel3 := below_join hbel1 hb3
  clear hB4 hb2 hB5 hu3 hb3 h1 hbel1 hg5 hs2
  rcases hcase with ⟨rfl, rfl⟩ | ⟨rfl, rfl⟩
  · go_wp2_with (first | (with_reducible refine wpList_get (o := ⟨some 17, .load 108 (.tmp 5), _, _, _, _⟩) (by with_unfolding_all rfl) 108 (.tmp 5) (by with_unfolding_all rfl) g5 0 (by with_unfolding_all rfl) hB53 (R.map B8) (cs_all _) (.array 128 5) (by exact Try.underlying108) (by with_unfolding_all rfl) (by rw [hXl.out]; exact Try.sizeP) ?_) | (with_reducible refine wpList_put (o := ⟨none, .store 108 (.tmp 4) (.tmp 17), _, _, _, _⟩) (by with_unfolding_all rfl) 108 (.tmp 4) (.tmp 17) (by with_unfolding_all rfl) g4 0 (by with_unfolding_all rfl) (.agg (R.map B8).toArray) (by with_unfolding_all rfl) hB43 (R.map B8) (by with_unfolding_all rfl) (by rw [hXl.out]; exact Try.sizeP) (by with_unfolding_all (rw [hXl.out, Z128_length]; exact Nat.le_refl _)) (B8_one _) ?_))
    intro w4 hu4 hB44
    rw [splice_all _ _ (by rw [hXl.out, Z128_length])] at hB44
    have hbel4 := hbel3.trans (hu4.below (B := w.heap.size) hle)
    go_wp2
    refine bodyPost_ret (results_cell_row rfl _ _ g4 _ _ _ _ rfl hB44 Try.underlying108 rfl (by rw [List.size_toArray, hXl.out]; exact Try.sizeP)) rfl ⟨rfl, hbel4⟩
  · have c0 := h3.d.cell (k := 0) rfl
    rw [hn.out] at c0
    have hrow := h3.row HM HI.out
    rw [HPP.out] at hrow
    have hun := Try.underlying108
    have hz : (Try.prog.info? 108).map (·.size) = some (p.old.map B8).length := by rw [hol.out]; exact Try.sizeP
    go_wp2_with (first | (with_reducible refine wpList_load_mid (op := ⟨some 24, .load 108 (.tmp 23), _, _, _, _⟩) (by with_unfolding_all rfl) 108 (.tmp 23) (by with_unfolding_all rfl) gp (i * 128) (by with_unfolding_all rfl) (p.old.map B8) (.array 128 5) hrow hun (by with_unfolding_all rfl) hz ?_) | (with_reducible refine wpList_put (o := ⟨none, .store 108 (.tmp 4) (.tmp 24), _, _, _, _⟩) (by with_unfolding_all rfl) 108 (.tmp 4) (.tmp 24) (by with_unfolding_all rfl) g4 0 (by with_unfolding_all rfl) (.agg (p.old.map B8).toArray) (by with_unfolding_all rfl) hB43 (p.old.map B8) (by with_unfolding_all rfl) (by rw [hol.out]; exact Try.sizeP) (by with_unfolding_all (rw [hol.out, Z128_length]; exact Nat.le_refl _)) (B8_one _) ?_))
    intro w4 hu4 hB44
    rw [splice_all _ _ (by rw [hol.out, Z128_length])] at hB44
    have hbel4 := hbel3.trans (hu4.below (B := w.heap.size) hle)
    go_wp2
    refine bodyPost_ret (results_cell_row rfl _ _ g4 _ _ _ _ rfl hB44 Try.underlying108 rfl (by rw [List.size_toArray, hol.out]; exact Try.sizeP)) rfl ⟨rfl, hbel4⟩
set_option maxRecDepth 100000 in
set_option maxHeartbeats 1600000 in
theorem read_any (gd gp gm k cp : Nat) (Y : List Value) (M : DM) (i : Int) (R : List UInt8) (e : Int) (w : World) (hM : M.ok) (hR : M.readS i = R) (he : M.readE i = e) (h : PRep w gd gp gm cp Y M k) :
    Calls Try.prog 23 #[.pointer (some ⟨gd, 0, none⟩), .int .i64 i] w fun x w' => x = .returned (.tuple #[.string ⟨R.toArray⟩, .int .i64 e]) ∧ Below w.heap.size w w' := by
  have c2 := h.d.cell (k := 2) rfl
  obtain ⟨u, hu⟩ : ∃ u, M.up = u := ⟨_, rfl⟩
  rw [hu] at c2
  unfold DM.readS at hR
  unfold DM.readE at he
  rw [hu] at hR he
  cases u with
  | false =>
    simp only [Bool.false_eq_true, if_false] at hR he
    subst hR he
    clear h hM hu
    go_enter Try.func23, Try.ntmps23
    go_wp2
    go_ret2
    exact ⟨rfl, Below.refl _ _⟩
  | true =>
    simp only [if_true] at hR he
    by_cases hp : M.okP i = true
    · rw [if_pos hp] at hR he
      obtain ⟨j, rfl, hj⟩ := DM.okP_nat hp
      rw [Int.toNat_natCast] at hR
      subst he
      have hRl : Hid (R.length = 128) := by rw [← hR]; exact Pg.now_length (DM.page_ok hM hj)
      have hRN : Hid ((R.map B8).length = 128) := by
        have : (R.map B8).length = 128 := by rw [List.length_map]; exact hRl.out
        exact this
      have HR := Lib.hid hR
      have HP := Lib.hid hp
      clear hR hp hu
      go_enter Try.func23, Try.ntmps23
      go_wp2_with fail
      (with_reducible refine (has_any gd gp gm k cp Y M _ true _ HP.out h).mono ?_)
      rintro e w' ⟨rfl, rfl⟩
      go_wp2_with fail
      (with_reducible refine (latest_any gd gp gm k cp Y M j R _ hj hM HR.out h).mono ?_)
      rintro e w1 ⟨rfl, hb1⟩
      clear c2
      go_wp2_with (with_reducible refine wpList_alloc (o := ⟨some 6, .alloc 108, _, _, _, _⟩) (by with_unfolding_all rfl) 108 (by with_unfolding_all rfl) (.agg (Z128.map B8).toArray) (Z128.map B8) (by exact Try.zeroP) (by with_unfolding_all rfl) ?_)
      intro g6 w2 hg6 hs2 hb2 hB6
      have hle : w1.heap.size ≤ g6 := Nat.le_of_eq hg6.out.symm
      go_wp2_with (with_reducible refine wpList_put (o := ⟨none, .store 108 (.tmp 6) (.tmp 20), _, _, _, _⟩) (by with_unfolding_all rfl) 108 (.tmp 6) (.tmp 20) (by with_unfolding_all rfl) g6 0 (by with_unfolding_all rfl) (.agg (R.map B8).toArray) (by with_unfolding_all rfl) hB6 (R.map B8) (by with_unfolding_all rfl) (by rw [hRN.out]; exact Try.sizeP) (by with_unfolding_all (rw [hRN.out, Z128_length]; exact Nat.le_refl _)) (B8_one _) ?_)
      intro w3 hu3 hB63
      rw [splice_all _ _ (by rw [hRN.out, Z128_length])] at hB63
      have hbel3 := below_join hb1 ((hb2.mono hle).trans (hu3.below (B := w1.heap.size) hle))
      have hcv := run_conv_at w3 (some ⟨g6, 0, none⟩) 128 128 R hRl.out.symm (fun j u hu => ⟨_, rfl, by rw [addr_mid, Nat.zero_add]; exact hB63.cell hu⟩)
      clear hb1 hb2 hB6 hu3 hg6 hs2
      go_wp2_with (with_reducible refine wpList_cutA (o := ⟨some 21, .slice 108 (.tmp 6) none none none, _, _, _, _⟩) (by with_unfolding_all rfl) 108 (.tmp 6) (by with_unfolding_all rfl) g6 0 (by with_unfolding_all rfl) 128 5 Try.underlying108 Try.sz5 (by decide) ?_)
      go_ret2
      exact ⟨rfl, hbel3⟩
    · have hpf : M.okP i = false := by simpa using hp
      rw [if_neg hp] at hR he
      subst hR he
      have HP := Lib.hid hpf
      clear hp hpf hu
      go_enter Try.func23, Try.ntmps23
      go_wp2_with fail
      (with_reducible refine (has_any gd gp gm k cp Y M _ false _ HP.out h).mono ?_)
      rintro e w' ⟨rfl, rfl⟩
      go_wp2
      go_ret2
      exact ⟨rfl, Below.refl _ _⟩
end Go.Proofs.Ytbmoedgokimhmaa
