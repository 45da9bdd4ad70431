/-
  Contracts of the functions that the statement calls, part 6 of 37 (merged texts: Df5, Df6, Df7, Rq0). Conditions: as the head of each part says.
-/
import Derived.Test.YthgmlopkcgkjlaaGE
import Derived.Laws.BitsAllLaws

/-
  Contract of the walk over disk.Rot. Conditions: the record holds the disk.
-/
namespace Go.Proofs.Ythgmlopkcgkjlaa
open Go.RowKit

theorem pgCells_splice1 (L : List (List UInt8)) (hL : ∀ l ∈ L, l.length = 128) (i q : Nat) (l : List UInt8) (y : UInt8) (h : L[i]? = some l) (hq : q < 128) : splice (pgCells L) (i * 128 + q) [B8 y] = pgCells (L.set i (l.set q y)) := by
  obtain ⟨A, B, h1, h2, h3⟩ := pgCells_split L hL i l h
  have hl := hL l (List.mem_of_getElem? h)
  have hlen : (l.map B8).length = 128 := by rw [List.length_map]; exact hl
  have hset : (l.set q y).map B8 = (l.map B8).take q ++ [B8 y] ++ (l.map B8).drop (q + 1) := by
    rw [List.map_set, List.set_eq_take_append_cons_drop, if_pos (by omega)]; simp
  rw [h3, h1, hset]
  unfold splice
  have e1 : (A ++ l.map B8 ++ B).take (i * 128 + q) = A ++ (l.map B8).take q := by
    rw [List.append_assoc, List.take_append, List.take_of_length_le (by omega), h2, show i * 128 + q - i * 128 = q by omega, List.take_append_of_le_length (by omega)]
  have e2 : (A ++ l.map B8 ++ B).drop (i * 128 + q + [B8 y].length) = (l.map B8).drop (q + 1) ++ B := by
    rw [List.append_assoc, List.drop_append, List.drop_eq_nil_of_le (by rw [List.length_singleton]; omega), List.nil_append, h2, List.length_singleton, show i * 128 + q + 1 - i * 128 = q + 1 by omega, List.drop_append, hlen, show q + 1 - 128 = 0 by omega, List.drop_zero]
  rw [e1, e2]
  simp only [List.append_assoc]
theorem MapOK.same {w : World} {gm k : Nat} {ps qs : List Pg} (h : MapOK w gm k ps) (e : qs.map Pg.new = ps.map Pg.new) : MapOK w gm k qs := by
  obtain ⟨D, h1, h2, h3, h4⟩ := h
  have hl : qs.length = ps.length := by have := congrArg List.length e; simpa using this
  refine ⟨D, h1, h2, fun i q hq => ?_, fun kl hk => by rw [hl]; exact h4 kl hk⟩
  have hi : i < ps.length := by rw [← hl]; exact (List.getElem?_eq_some_iff.1 hq).1
  obtain ⟨p, hp⟩ : ∃ p, ps[i]? = some p := ⟨_, List.getElem?_eq_getElem hi⟩
  have hn : q.new = p.new := by
    have := congrArg (fun l => l[i]?) e
    simp only [List.getElem?_map, hq, hp, Option.map_some, Option.some.injEq] at this
    exact this
  rw [hn]
  exact h3 i p hp
theorem DM.image_old (M : DM) (i : Nat) (l : List UInt8) (n : Option (List UInt8)) : (M.set i ⟨l, n⟩).image = M.image.set i l := by unfold DM.image DM.set; rw [List.map_set]
theorem DM.new_old (M : DM) (i : Nat) (hi : i < M.ps.length) (l : List UInt8) : (M.set i ⟨l, (M.page i).new⟩).ps.map Pg.new = M.ps.map Pg.new := by
  unfold DM.set
  rw [List.map_set]
  apply List.ext_getElem?
  intro j
  by_cases hj : i = j
  · subst hj
    rw [List.getElem?_set_self (by rw [List.length_map]; exact hi), List.getElem?_map, DM.page_at hi]; rfl
  · rw [List.getElem?_set_ne hj]
theorem rot_bad {M : DM} {i b : Int} (h : (M.okP i && decide (0 ≤ b ∧ b < 1024)) = false) : M.rotE i b = 1 ∧ M.rot i b = M := by unfold DM.rotE DM.rot; rw [h]; exact ⟨rfl, rfl⟩
theorem rot_good {M : DM} {i b : Int} (h : (M.okP i && decide (0 ≤ b ∧ b < 1024)) = true) : M.rotE i b = 0 ∧ M.rot i b = M.set i.toNat ⟨DM.flip (M.page i.toNat).old b.toNat, (M.page i.toNat).new⟩ := by unfold DM.rotE DM.rot; rw [h]; exact ⟨rfl, rfl⟩
theorem u8_xor (a b : UInt8) : bits .xor .u8 (a.toNat : Int) (b.toNat : Int) = ((a ^^^ b).toNat : Int) := by
  have ha := a.toNat_lt
  have hb := b.toNat_lt
  show IntKind.u8.wrap ((BitVec.ofInt 8 (a.toNat : Int) ^^^ BitVec.ofInt 8 (b.toNat : Int)).toNat : Int) = _
  rw [UInt8.toNat_xor, BitVec.toNat_xor, BitVec.ofInt_natCast, BitVec.ofInt_natCast, BitVec.toNat_ofNat, BitVec.toNat_ofNat, Nat.mod_eq_of_lt (by omega), Nat.mod_eq_of_lt (by omega), IntKind.wrap_u8]
  have : a.toNat ^^^ b.toNat < 2 ^ 8 := Nat.xor_lt_two_pow (by omega) (by omega)
  omega
theorem wrap_pow : ∀ r : Nat, r < 8 → IntKind.u8.wrap ((2 : Int) ^ r) = (2 : Int) ^ r := by decide
theorem pow_byte : ∀ r, r < 8 → (UInt8.ofNat (2 ^ r)).toNat = 2 ^ r := by decide
set_option maxRecDepth 100000 in
set_option maxHeartbeats 3200000 in
theorem rot_any (gd gp gm k cp : Nat) (Y : List Value) (M : DM) (i b : Int) (w : World) (hM : M.ok) (h : PRep w gd gp gm cp Y M k) :
    Calls Try.prog 31 #[.pointer (some ⟨gd, 0, none⟩), .int .i64 i, .int .i64 b] w fun x w' => x = .returned (.int .i64 (M.rotE i b)) ∧ PRep w' gd gp gm cp Y (M.rot i b) k ∧ Only [gp] w w' := by
  by_cases hp : M.okP i = true
  · by_cases hb0 : 0 ≤ b
    · by_cases hb1 : b < 1024
      · have hfit : (M.okP i && decide (0 ≤ b ∧ b < 1024)) = true := by rw [hp]; exact decide_eq_true ⟨hb0, hb1⟩
        obtain ⟨e1, e2⟩ := rot_good hfit
        obtain ⟨j, rfl, hj⟩ := DM.okP_nat hp
        obtain ⟨n, rfl⟩ : ∃ n : Nat, b = (n : Int) := ⟨b.toNat, by omega⟩
        rw [Int.toNat_natCast, Int.toNat_natCast] at e2
        obtain ⟨q, hq⟩ : ∃ q, n / 8 = q := ⟨_, rfl⟩
        obtain ⟨r, hr⟩ : ∃ r, n % 8 = r := ⟨_, rfl⟩
        have hq128 : q < 128 := by omega
        have hr8 : r < 8 := by omega
        obtain ⟨l, hl⟩ : ∃ l, (M.page j).old = l := ⟨_, rfl⟩
        have hll : l.length = 128 := by rw [← hl]; exact (DM.page_ok hM hj).1
        obtain ⟨x, hx⟩ : ∃ x, l[q]? = some x := ⟨_, List.getElem?_eq_getElem (by omega)⟩
        obtain ⟨y, hy⟩ : ∃ y, x ^^^ UInt8.ofNat (2 ^ r) = y := ⟨_, rfl⟩
        have hflip : DM.flip l n = l.set q y := by unfold DM.flip; rw [hq, hr, List.getD_eq_getElem?_getD, hx, ← hy]; rfl
        rw [hl, hflip] at e2
        have him := image_at hj
        rw [hl] at him
        have hspl0 := pgCells_splice1 M.image (image_128 hM) j q l y him hq128
        have hpl : (pgCells M.image).length = M.ps.length * 128 := by rw [pgCells_length _ (image_128 hM)]; unfold DM.image; rw [List.length_map]
        have hspl := splice_tail Y hspl0 (by rw [hpl, List.length_singleton]; omega)
        clear hspl0
        have hcx : ∀ w', Blk w' gp 108 (pgCells M.image ++ Y) → w'.cell? ⟨gp, j * 128 + q, none⟩ = some (.int .u8 (x.toNat : Int)) := fun w' hb => hb.cell (get_app (pgCells_get M.image (image_128 hM) j l him (by rw [List.getElem?_map, hx]; rfl)))
        have hxor : bits .xor .u8 (x.toNat : Int) (2 ^ r) = (y.toNat : Int) := by
          have := u8_xor x (UInt8.ofNat (2 ^ r))
          rw [pow_byte r hr8, hy] at this
          rw [← this, Int.natCast_pow]; rfl
        have hwp := wrap_pow r hr8
        have hwq : IntKind.i64.wrap (q : Int) = (q : Int) := by simp only [IntKind.wrap_i64]; omega
        have hwr : IntKind.i64.wrap (r : Int) = (r : Int) := by simp only [IntKind.wrap_i64]; omega
        have hq0 : (0 : Int) ≤ (q : Int) := by omega
        have hr0 : (0 : Int) ≤ (r : Int) := by omega
        have hr8i : (r : Int) < 8 := by omega
        have hqd : (n : Int).tdiv 8 = (q : Int) := by rw [Int.tdiv_eq_ediv_of_nonneg (by omega)]; omega
        have hrd : (n : Int).tmod 8 = (r : Int) := by rw [Int.tmod_eq_emod_of_nonneg (by omega)]; omega
        have hnw := DM.new_old M j hj (l.set q y)
        have hio := DM.image_old M j (l.set q y) (M.page j).new
        have hsl := DM.set_len M j ⟨l.set q y, (M.page j).new⟩
        obtain ⟨N, hN⟩ : ∃ N, Hid (M.ps.length = N) := ⟨_, rfl⟩
        have hjN : (j : Int) < (N : Int) := by have := hN.out; omega
        have hjn : j < N := by have := hN.out; omega
        have hqi : (q : Int) < 128 := by omega
        have HP := Lib.hid hp
        have HSPL := Lib.hid hspl
        have HPL := Lib.hid hpl
        have HNW := Lib.hid hnw
        have HIO := Lib.hid hio
        have HSL := Lib.hid hsl
        have HCX := Lib.hid hcx
        rw [e1, e2]
        clear e1 e2 hfit hp hq hr hl hll hx hy hflip him hspl hpl hnw hio hsl hcx hM hj
        go_enter Try.func31, Try.ntmps31
        go_wp2_with fail
        (with_reducible refine (has_any gd gp gm k cp Y M _ true _ HP.out h).mono ?_)
        rintro e w' ⟨rfl, rfl⟩
        have hdd := below_drew w
        have hd := h.next hdd
        have c0 := hd.d.cell (k := 0) rfl
        rw [hN.out] at c0
        have hSd := c0
        have hcd := HCX.out _ hd.p
        clear c0 h
        go_wp2
        refine wp_region_held_drew (S := fun w' => w'.cell? ⟨gd, 0, none⟩ = some (.slice (some ⟨gp, 0, none⟩) N cp)) (by kernel_rfl) hSd (fun hHeld => ?_)
        have ho := Only.of_below (L := [gp]) hdd
        generalize w.drew = wd at hdd hHeld hSd hcd hd ho ⊢
        refine wpAnyH_take (i := 0) (v := ?vv0) rfl (by kernel_rfl) (by kernel_rfl) (by kernel_rfl) (fun _ _ _ h => h) (Or.inl ⟨by rfl, ?yv0⟩) (by assumption) ?rv0
        case yv0 => intro w hSw; (try dsimp only at hSw); go_simp <;> (try with_reducible rfl)
        (try simp only [List.getElem_toArray, List.getElem_cons_zero, Act.put, List.setIfInBounds_toArray, List.set_cons_zero, List.set_cons_succ])
        refine wpAnyH_take (i := 1) (v := ?vv1) rfl (by kernel_rfl) (by kernel_rfl) (by kernel_rfl) (fun _ _ _ h => h) (Or.inl ⟨by rfl, ?yv1⟩) (by assumption) ?rv1
        case yv1 => intro w hSw; (try dsimp only at hSw); go_simp <;> (try with_reducible rfl)
        (try simp only [List.getElem_toArray, List.getElem_cons_succ, List.getElem_cons_zero, Act.put, List.setIfInBounds_toArray, List.set_cons_zero, List.set_cons_succ])
        refine wpAnyH_take (i := 2) (v := ?vv2) rfl (by kernel_rfl) (by kernel_rfl) (by kernel_rfl) (fun _ _ _ h => h) (Or.inl ⟨by rfl, ?yv2⟩) (by assumption) ?rv2
        case yv2 => intro w hSw; (try dsimp only at hSw); go_simp <;> (try with_reducible rfl)
        (try simp only [List.getElem_toArray, List.getElem_cons_succ, List.getElem_cons_zero, Act.put, List.setIfInBounds_toArray, List.set_cons_zero, List.set_cons_succ])
        refine wpAnyH_take (i := 3) (v := ?vv3) rfl (by kernel_rfl) (by kernel_rfl) (by kernel_rfl) (fun _ _ _ h => h) (Or.inl ⟨by rfl, ?yv3⟩) (by assumption) ?rv3
        case yv3 => intro w hSw; (try dsimp only at hSw); go_simp <;> (try with_reducible rfl)
        (try simp only [List.getElem_toArray, List.getElem_cons_succ, List.getElem_cons_zero, Act.put, List.setIfInBounds_toArray, List.set_cons_zero, List.set_cons_succ])
        refine wpAnyH_take (i := 4) (v := ?vv4) rfl (by kernel_rfl) (by kernel_rfl) (by kernel_rfl) (fun _ _ _ h => h) (Or.inl ⟨by rfl, ?yv4⟩) (by assumption) ?rv4
        case yv4 => intro w hSw; (try dsimp only at hSw); go_simp <;> (try with_reducible rfl)
        (try simp only [List.getElem_toArray, List.getElem_cons_succ, List.getElem_cons_zero, Act.put, List.setIfInBounds_toArray, List.set_cons_zero, List.set_cons_succ])
        refine wpAnyH_take (i := 5) (v := ?vv5) rfl (by kernel_rfl) (by kernel_rfl) (by kernel_rfl) (fun _ _ _ h => h) (Or.inl ⟨by rfl, ?yv5⟩) (by assumption) ?rv5
        case yv5 => intro w hSw; (try dsimp only at hSw); go_simp <;> (try with_reducible rfl)
        (try simp only [List.getElem_toArray, List.getElem_cons_succ, List.getElem_cons_zero, Act.put, List.setIfInBounds_toArray, List.set_cons_zero, List.set_cons_succ])
        refine wpAnyH_take (i := 6) (v := ?vv6) rfl (by kernel_rfl) (by kernel_rfl) (by kernel_rfl) (fun _ _ _ h => h) (Or.inl ⟨by rfl, ?yv6⟩) (by assumption) ?rv6
        case yv6 => intro w hSw; (try dsimp only at hSw); go_simp <;> (try with_reducible rfl)
        (try simp only [List.getElem_toArray, List.getElem_cons_succ, List.getElem_cons_zero, Act.put, List.setIfInBounds_toArray, List.set_cons_zero, List.set_cons_succ])
        refine wpAnyH_take (i := 7) (v := ?vv7) rfl (by kernel_rfl) (by kernel_rfl) (by kernel_rfl) (fun _ _ _ h => h) (Or.inl ⟨by rfl, ?yv7⟩) (by assumption) ?rv7
        case yv7 => intro w hSw; (try dsimp only at hSw); go_simp <;> (try with_reducible rfl)
        (try simp only [List.getElem_toArray, List.getElem_cons_succ, List.getElem_cons_zero, Act.put, List.setIfInBounds_toArray, List.set_cons_zero, List.set_cons_succ])
        refine wpAnyH_take (i := 8) (v := ?vv8) rfl (by kernel_rfl) (by kernel_rfl) (by kernel_rfl) (fun _ _ _ h => h) (Or.inl ⟨by rfl, ?yv8⟩) (by assumption) ?rv8
        case yv8 => intro w hSw; (try dsimp only at hSw); go_simp <;> (try with_reducible rfl)
        (try simp only [List.getElem_toArray, List.getElem_cons_succ, List.getElem_cons_zero, Act.put, List.setIfInBounds_toArray, List.set_cons_zero, List.set_cons_succ])
        refine wpAnyH_take (i := 10) (v := ?vv10) rfl (by kernel_rfl) (by kernel_rfl) (by kernel_rfl) (fun _ _ _ h => h) (Or.inl ⟨by rfl, ?yv10⟩) (by assumption) ?rv10
        case yv10 => intro w hSw; (try dsimp only at hSw); go_simp <;> (try with_reducible rfl)
        (try simp only [List.getElem_toArray, List.getElem_cons_succ, List.getElem_cons_zero, Act.put, List.setIfInBounds_toArray, List.set_cons_zero, List.set_cons_succ])
        refine wpAnyH_take (i := 11) (v := ?vv11) rfl (by kernel_rfl) (by kernel_rfl) (by kernel_rfl) (fun _ _ _ h => h) (Or.inl ⟨by rfl, ?yv11⟩) (by assumption) ?rv11
        case yv11 => intro w hSw; (try dsimp only at hSw); go_simp <;> (try with_reducible rfl)
        (try simp only [List.getElem_toArray, List.getElem_cons_succ, List.getElem_cons_zero, Act.put, List.setIfInBounds_toArray, List.set_cons_zero, List.set_cons_succ])
        refine wpAnyH_take (i := 12) (v := ?vv12) rfl (by kernel_rfl) (by kernel_rfl) (by kernel_rfl) (fun _ _ _ h => h) (Or.inl ⟨by rfl, ?yv12⟩) (by assumption) ?rv12
        case yv12 => intro w hSw; (try dsimp only at hSw); go_simp <;> (try with_reducible rfl)
        (try simp only [List.getElem_toArray, List.getElem_cons_succ, List.getElem_cons_zero, Act.put, List.setIfInBounds_toArray, List.set_cons_zero, List.set_cons_succ])
        refine wpAnyH_take (i := 14) (v := ?vv14) rfl (by kernel_rfl) (by kernel_rfl) (by kernel_rfl) (fun _ _ _ h => h) (Or.inl ⟨by rfl, ?yv14⟩) (by assumption) ?rv14
        case yv14 => intro w hSw; (try dsimp only at hSw); go_simp <;> (try with_reducible rfl)
        (try simp only [List.getElem_toArray, List.getElem_cons_succ, List.getElem_cons_zero, Act.put, List.setIfInBounds_toArray, List.set_cons_zero, List.set_cons_succ])
        refine wpAnyH_ready (rs := [9]) (by kernel_rfl) (by simp) ?_
        refine AllReadyH.cons rfl (fun K hK => ?_) AllReadyH.nil
        go_simp
        refine hK.out _ _ hSd (fun hHeld => ?_)
        clear hK K hcd
        refine wpAnyH_take (i := 13) (v := ?vv13) rfl (by kernel_rfl) (by kernel_rfl) (by kernel_rfl) (fun _ _ _ h => h) (Or.inl ⟨by rfl, ?yv13⟩) (by assumption) ?rv13
        case yv13 => intro w hSw; (try dsimp only at hSw); go_simp <;> (try with_reducible rfl)
        (try simp only [List.getElem_toArray, List.getElem_cons_succ, List.getElem_cons_zero, Act.put, List.setIfInBounds_toArray, List.set_cons_zero, List.set_cons_succ])
        refine wpAnyH_take (i := 15) (v := ?vv15) rfl (by kernel_rfl) (by kernel_rfl) (by kernel_rfl) (fun _ _ _ h => h) (Or.inl ⟨by rfl, ?yv15⟩) (by assumption) ?rv15
        case yv15 => intro w hSw; (try dsimp only at hSw); go_simp <;> (try with_reducible rfl)
        (try simp only [List.getElem_toArray, List.getElem_cons_succ, List.getElem_cons_zero, Act.put, List.setIfInBounds_toArray, List.set_cons_zero, List.set_cons_succ])
        refine wpAnyH_ready (rs := [16]) (by kernel_rfl) (by simp) ?_
        refine AllReadyH.cons rfl (fun K hK => ?_) AllReadyH.nil
        rw [if_pos (by rfl)]
        refine wp_put 5 (.tmp 34) (.tmp 32) rfl gp (j * 128 + q) rfl (.int .u8 (y.toNat : Int)) rfl hd.p [B8 y] rfl (by exact Try.sz5) (by rw [List.length_append, HPL.out, hN.out, List.length_singleton]; omega) (one_cell1 rfl) ?_
        intro w7 hu7 hB7
        rw [HSPL.out] at hB7
        have ho7 : Only [gp] wd w7 := Only.of_upd hu7 (by simp)
        have hn1 := hd.n1
        have hn3 := hd.n3
        have h7 : PRep w7 gd gp gm cp Y (M.set j ⟨l.set q y, (M.page j).new⟩) k := by
          refine ⟨?_, ?_, (hd.m.only ho7 (by simpa using hn3.symm)).same HNW.out, hd.n1, hd.n2, hd.n3⟩
          · rw [HSL.out]; exact hd.d.only ho7 (by simpa using hn1)
          · rw [HIO.out]; exact hB7
        have ho8 := ho.trans ho7
        refine hK.out _ _ (by have := h7.d.cell (k := 0) rfl; rw [HSL.out, hN.out] at this; exact this) (fun hHeld => ?_)
        clear hK K hHeld
        refine wpAnyH_done (by kernel_rfl) ?_ _
        go_wp2
        go_ret
        exact ⟨rfl, h7, ho8⟩
      · have hfit : (M.okP i && decide (0 ≤ b ∧ b < 1024)) = false := by rw [hp]; exact decide_eq_false (fun h => hb1 h.2)
        obtain ⟨e1, e2⟩ := rot_bad hfit
        rw [e1, e2]
        have hge : 1024 ≤ b := by omega
        have HP := Lib.hid hp
        have HH := h
        clear e1 e2 hfit hp hb1 hM
        go_enter Try.func31, Try.ntmps31
        go_wp2_with fail
        (with_reducible refine (has_any gd gp gm k cp Y M _ true _ HP.out h).mono ?_)
        rintro e w' ⟨rfl, rfl⟩
        go_wp2
        go_ret
        exact ⟨rfl, HH, Only.refl _ _⟩
    · have hfit : (M.okP i && decide (0 ≤ b ∧ b < 1024)) = false := by rw [hp]; exact decide_eq_false (fun h => hb0 h.1)
      obtain ⟨e1, e2⟩ := rot_bad hfit
      rw [e1, e2]
      have hlt : b < 0 := by omega
      have HP := Lib.hid hp
      have HH := h
      clear e1 e2 hfit hp hb0 hM
      go_enter Try.func31, Try.ntmps31
      go_wp2_with fail
      (with_reducible refine (has_any gd gp gm k cp Y M _ true _ HP.out h).mono ?_)
      rintro e w' ⟨rfl, rfl⟩
      go_wp2
      go_ret
      exact ⟨rfl, HH, Only.refl _ _⟩
  · have hpf : M.okP i = false := by simpa using hp
    have hfit : (M.okP i && decide (0 ≤ b ∧ b < 1024)) = false := by rw [hpf]; rfl
    obtain ⟨e1, e2⟩ := rot_bad hfit
    rw [e1, e2]
    have HP := Lib.hid hpf
    have HH := h
    clear e1 e2 hfit hp hpf hM
    go_enter Try.func31, Try.ntmps31
    go_wp2_with fail
    (with_reducible refine (has_any gd gp gm k cp Y M _ false _ HP.out h).mono ?_)
    rintro e w' ⟨rfl, rfl⟩
    go_wp2
    go_ret
    exact ⟨rfl, HH, Only.refl _ _⟩
end Go.Proofs.Ythgmlopkcgkjlaa

/-
  Contracts of the walks over disk.Image and Flush. Conditions: the record holds the disk.
-/
namespace Go.Proofs.Ythgmlopkcgkjlaa
open Go.RowKit
open Go.Maps (Keyed)

def S8 (l : List UInt8) : Value := .string ⟨l.toArray⟩
def imRow (L : List (List UInt8)) (n j : Nat) : List Value := (L.take j).map S8 ++ List.replicate (n - j) (.string ⟨#[]⟩)
theorem imRow_length (L : List (List UInt8)) (n j : Nat) (hL : L.length = n) (hj : j ≤ n) : (imRow L n j).length = n := by unfold imRow; simp; omega
theorem imRow_all (L : List (List UInt8)) (n : Nat) (hL : L.length = n) : imRow L n n = L.map S8 := by
  unfold imRow
  rw [Nat.sub_self, List.take_of_length_le (by omega)]; simp
theorem imRow_next (L : List (List UInt8)) (n j : Nat) (hL : L.length = n) (hj : j < n) (l : List UInt8) (hl : L[j]? = some l) : splice (imRow L n j) j [S8 l] = imRow L n (j + 1) := by
  unfold imRow splice
  have h1 : ((L.take j).map S8).length = j := by rw [List.length_map, List.length_take]; omega
  rw [List.take_append_of_le_length (by omega), List.take_of_length_le (by omega), List.drop_append, List.drop_eq_nil_of_le (by rw [h1, List.length_singleton]; omega), List.nil_append, h1, List.length_singleton, show j + 1 - j = 1 by omega, List.drop_replicate, List.take_add_one, hl, show n - j - 1 = n - (j + 1) by omega]
  simp
theorem Try.infoS : (Try.prog.info? 9).map (fun i => (i.zero, i.size, i.bytes)) = some (some (.string ⟨#[]⟩), 1, 16) := by kernel_rfl
theorem Try.szS : (Try.prog.info? 9).map (·.size) = some 1 := by kernel_rfl
def ImRel (L : List (List UInt8)) (n gi : Nat) (w1 : World) (i : Value) (wr : World) : Prop :=
  ∃ j : Nat, j ≤ n ∧ i = .int .i64 j ∧ Blk wr gi 9 (imRow L n j) ∧ Below w1.heap.size w1 wr
set_option maxRecDepth 100000 in
set_option maxHeartbeats 1600000 in
theorem image_any (gd gp gm k cp : Nat) (Y : List Value) (M : DM) (w : World) (hM : M.ok) (h : PRep w gd gp gm cp Y M k) :
    Calls Try.prog 29 #[.pointer (some ⟨gd, 0, none⟩)] w fun e w' => ∃ gi, e = .returned (.slice (some ⟨gi, 0, none⟩) M.ps.length M.ps.length) ∧ Blk w' gi 9 (M.image.map S8) ∧ Below w.heap.size w w' ∧ w.heap.size ≤ gi := by
  obtain ⟨i0, hi, hz0, hz1, hz2⟩ := info_parts Try.infoS
  have hn4 : M.ps.length ≤ 4096 := hM.2.2.2
  obtain ⟨n, hn⟩ : ∃ n, M.ps.length = n := ⟨_, rfl⟩
  obtain ⟨L, hL⟩ : ∃ L, M.image = L := ⟨_, rfl⟩
  have hLn : Hid (L.length = n) := by
    have : L.length = n := by rw [← hL, ← hn]; unfold DM.image; rw [List.length_map]
    exact this
  have hL8 : Hid (∀ l ∈ L, l.length = 128) := by rw [← hL]; exact image_128 hM
  have hb : Hid (∀ w', Below w.heap.size w w' → w'.cell? ⟨gd, 0, none⟩ = some (.slice (some ⟨gp, 0, none⟩) n cp) ∧ Blk w' gp 108 (pgCells L ++ Y)) := by
    have : ∀ w', Below w.heap.size w w' → w'.cell? ⟨gd, 0, none⟩ = some (.slice (some ⟨gp, 0, none⟩) n cp) ∧ Blk w' gp 108 (pgCells L ++ Y) := fun w' hw => by
      have h' := h.next hw
      have c0 := h'.d.cell (k := 0) rfl
      rw [hn] at c0
      exact ⟨c0, hL ▸ h'.p⟩
    exact this
  rw [hn, hL]
  rw [hn] at hn4
  have c0 := (hb.out w (Below.refl _ _)).1
  clear hn hL hM h
  go_enter Try.func29, Try.ntmps29
  go_wp2_with (at_make; refine wpList_make_full _ rfl _ _ 43 rfl w.heap.size 9 i0 _ 1 Try.underlying43 hi hz0 hz1 _ _ _ _ n rfl rfl rfl rfl ?b2 ?b3 ?b4 ?_)
  case b2 => rw [hz2]; omega
  case b3 => unfold maxLen; omega
  case b4 => omega
  intro w1 hown1 hg1
  have hB1 : Blk w1 w.heap.size 9 (imRow L n 0) := by
    have hown2 := hown1
    rw [show (madeCells #[Value.string ⟨#[]⟩] n).toList = List.replicate n (Value.string ⟨#[]⟩) from made_rep 1 n _ (by decide)] at hown2
    have e : imRow L n 0 = List.replicate n (Value.string ⟨#[]⟩) := by unfold imRow; simp
    rw [e]
    exact own_blk hown2
  have hbel1 := (Below.refl w.heap.size w).grown hg1 (Nat.le_refl _) (fun k hk => by cases hk)
  obtain ⟨gi, hge⟩ : ∃ gi, Hid (w.heap.size = gi) := ⟨_, rfl⟩
  have hgl : w.heap.size ≤ gi := Nat.le_of_eq hge.out
  rw [hge.out] at hB1 ⊢
  have c0 := (hb.out w1 hbel1).1
  clear hown1 hg1
  go_wp2
  go_loopw [17] (ImRel L n gi w) (fun i _ => n - (intOf i).toNat)
  case atStart => exact ⟨0, Nat.zero_le _, rfl, hB1, hbel1⟩
  case round =>
    clear hB1 hbel1
    obtain ⟨j, hj, rfl, hB, hbel⟩ := hrel
    by_cases hlt : j < n
    · obtain ⟨l, hl⟩ : ∃ l, L[j]? = some l := ⟨_, List.getElem?_eq_getElem (by rw [hLn.out]; exact hlt)⟩
      have hll : Hid (l.length = 128) := hL8.out l (List.mem_of_getElem? hl)
      have hlN : Hid ((l.map B8).length = 128) := by
        have : (l.map B8).length = 128 := by rw [List.length_map]; exact hll.out
        exact this
      have hbk := (hb.out wr hbel).2
      have hrow : wr.rangeAt gp (j * 128) (l.map B8) := fun q u hu => hbk.cell (get_app (pgCells_get L hL8.out j l hl hu))
      have hun := Try.underlying108
      have hz : (Try.prog.info? 108).map (·.size) = some (l.map B8).length := by rw [hlN.out]; exact Try.sizeP
      have hji : (j : Int) < (n : Int) := by omega
      have hnx := Lib.hid (imRow_next L n j hLn.out hlt l hl)
      have hiL := Lib.hid (imRow_length L n j hLn.out (by omega))
      clear hl hbk
      go_wp2_with (first | (with_reducible refine wpList_load_mid (op := ⟨some 21, .load 108 (.tmp 20), _, _, _, _⟩) (by with_unfolding_all rfl) 108 (.tmp 20) (by with_unfolding_all rfl) gp (j * 128) (by with_unfolding_all rfl) (l.map B8) (.array 128 5) hrow hun (by with_unfolding_all rfl) hz ?_) | (with_reducible refine wpList_alloc (o := ⟨some 5, .alloc 108, _, _, _, _⟩) (by with_unfolding_all rfl) 108 (by with_unfolding_all rfl) (.agg (Z128.map B8).toArray) (Z128.map B8) (by exact Try.zeroP) (by with_unfolding_all rfl) ?_))
      intro g5 w2 hg5 hs2 hb2 hB5
      have hle5 : wr.heap.size ≤ g5 := Nat.le_of_eq hg5.out.symm
      go_wp2_with (with_reducible refine wpList_put (o := ⟨none, .store 108 (.tmp 5) (.tmp 21), _, _, _, _⟩) (by with_unfolding_all rfl) 108 (.tmp 5) (.tmp 21) (by with_unfolding_all rfl) g5 0 (by with_unfolding_all rfl) (.agg (l.map B8).toArray) (by with_unfolding_all rfl) hB5 (l.map B8) (by with_unfolding_all rfl) (by rw [hlN.out]; exact Try.sizeP) (by with_unfolding_all (rw [hlN.out, Z128_length]; exact Nat.le_refl _)) (B8_one _) ?_)
      intro w3 hu3 hB53
      rw [splice_all _ _ (by rw [hlN.out, Z128_length])] at hB53
      have hb3 : Below wr.heap.size wr w3 := (hb2.mono hle5).trans (hu3.below (B := wr.heap.size) hle5)
      have hB3 := hB.next hb3 hB.lt
      have hbel3 := below_join hbel hb3
      have hcv := run_conv_at w3 (some ⟨g5, 0, none⟩) 128 128 l hll.out.symm (fun q u hu => ⟨_, rfl, by rw [addr_mid, Nat.zero_add]; exact hB53.cell hu⟩)
      clear hB hbel hb2 hB5 hu3 hb3 hg5 hs2 hrow
      go_wp2_with (first | (with_reducible refine wpList_cutA (o := ⟨some 24, .slice 108 (.tmp 5) none none none, _, _, _, _⟩) (by with_unfolding_all rfl) 108 (.tmp 5) (by with_unfolding_all rfl) g5 0 (by with_unfolding_all rfl) 128 5 Try.underlying108 Try.sz5 (by decide) ?_) | (with_reducible refine wpList_put (o := ⟨none, .store 9 (.tmp 26) (.tmp 25), _, _, _, _⟩) (by with_unfolding_all rfl) 9 (.tmp 26) (.tmp 25) (by with_unfolding_all rfl) gi j (by with_unfolding_all rfl) (S8 l) (by with_unfolding_all rfl) hB3 [S8 l] (by with_unfolding_all rfl) (by with_unfolding_all exact Try.szS) (by with_unfolding_all (rw [hiL.out, List.length_singleton]; omega)) (by with_unfolding_all exact one_cell1 rfl) ?_))
      intro w4 hu4 hB4
      rw [hnx.out] at hB4
      have hbel4 := hbel3.trans (hu4.below (B := w.heap.size) hgl)
      go_wp2
      go_roundw
      case rel => exact ⟨j + 1, by omega, by go_num, hB4, hbel4⟩
      case measure => simp [intOf]; omega
    · obtain rfl : j = n := by omega
      rw [imRow_all L j hLn.out] at hB
      clear hlt hj
      go_wp2
      go_ret
      exact ⟨gi, rfl, hB, hbel, hgl⟩
end Go.Proofs.Ythgmlopkcgkjlaa

/-
  Contract of the walk over disk.Flush, which ranges over the pending pages in whatever order. Conditions: the record holds the disk.
-/
namespace Go.Proofs.Ythgmlopkcgkjlaa
open Go.RowKit
open Go.Maps (Keyed)

theorem ranges_only {L : List Nat} {w w' : World} {R : Value → Option (DataW Unit × List MemPlace)} {b r n : Nat} {D : DataW Unit} {left : Lit → Bool} {cnt : Nat} (h : w.ranges Try.prog 3 R b r n D left cnt) (ho : Only L w w') (hb : b ∉ L) (hr : r ∉ L) : w'.ranges Try.prog 3 R b r n D left cnt := by
  have h1 := h.owns.lt
  have h2 := h.lt
  obtain ⟨es, clock, since, seen, c0, hb', F, hs, hD, hr', rest⟩ := h
  exact ⟨es, clock, since, seen, c0, (ho.block b h1 hb).trans hb', F, hs, hD, (ho.block r h2 hr).trans hr', rest⟩
theorem only_drop {a b c : World} {gd gp gm r : Nat} (hr : a.heap.size ≤ r) (h : Only [gd, gp, gm] a b) (k : Only [gp, r] b c) : Only [gd, gp, gm] a c :=
  ⟨k.os.trans h.os, k.tape.trans h.tape, k.output.trans h.output, Nat.le_trans h.size k.size, fun i hi hn => (k.block i (Nat.lt_of_lt_of_le hi h.size) (by
    simp at hn ⊢
    exact ⟨hn.2.1, by omega⟩)).trans (h.block i hi hn)⟩
theorem rangeLeft_only {L : List Nat} {w w' : World} {R : Value → Option (DataW Unit × List MemPlace)} {b r n : Nat} {D : DataW Unit} {left : Lit → Bool} {cnt : Nat} (h : w.ranges Try.prog 3 R b r n D left cnt) (ho : Only L w w') (hb : b ∉ L) (hr : r ∉ L) : w'.rangeLeft b r = cnt := (ranges_only h ho hb hr).left_eq
theorem kInt_same (i : Nat) : (kInt i).sameKey (kInt i) = true := by simp [kInt, Lit.sameKey]
theorem kInt_diff {i j : Nat} (h : i ≠ j) : (kInt i).sameKey (kInt j) = false := Maps.sameKey_ne (fun e => h (kInt_inj e))
/-- The contents while the pending pages become content: those that are still to come are left. -/
def flAt (M : DM) (left : Lit → Bool) (i : Nat) : List UInt8 := if (M.page i).pend && !left (kInt i) then (M.page i).now else (M.page i).old
def flOld (M : DM) (left : Lit → Bool) : List (List UInt8) := (List.range M.ps.length).map (flAt M left)
theorem flOld_at (M : DM) (left : Lit → Bool) {i : Nat} (h : i < M.ps.length) : (flOld M left)[i]? = some (flAt M left i) := by unfold flOld; rw [List.getElem?_map, List.getElem?_range h]; rfl
theorem flOld_length (M : DM) (left : Lit → Bool) : (flOld M left).length = M.ps.length := by unfold flOld; simp
theorem flOld_128 {M : DM} (hM : M.ok) (left : Lit → Bool) : ∀ l ∈ flOld M left, l.length = 128 := by
  intro l hl
  obtain ⟨i, hi, rfl⟩ := List.mem_map.1 hl
  have hk := DM.page_ok hM (List.mem_range.1 hi)
  unfold flAt
  split
  · exact Pg.now_length hk
  · exact hk.1
theorem flOld_start {M : DM} (left : Lit → Bool) (h : ∀ i, i < M.ps.length → (M.page i).pend = true → left (kInt i) = true) : flOld M left = M.image := by
  apply List.ext_getElem?
  intro i
  rcases Nat.lt_or_ge i M.ps.length with hi | hi
  · rw [flOld_at M left hi, image_at hi]
    unfold flAt
    cases hp : (M.page i).pend with
    | false => rfl
    | true => rw [h i hi hp]; rfl
  · rw [List.getElem?_eq_none (by rw [flOld_length]; exact hi), List.getElem?_eq_none (by unfold DM.image; rw [List.length_map]; exact hi)]
theorem flOld_next {M : DM} (left : Lit → Bool) {i : Nat} (hi : i < M.ps.length) (hp : (M.page i).pend = true) : flOld M (fun z => left z && !z.sameKey (kInt i)) = (flOld M left).set i (M.page i).now := by
  apply List.ext_getElem?
  intro j
  rcases Nat.lt_or_ge j M.ps.length with hj | hj
  · rw [flOld_at M _ hj]
    by_cases e : i = j
    · subst e
      rw [List.getElem?_set_self (by rw [flOld_length]; exact hi)]
      unfold flAt
      simp [hp, kInt_same]
    · rw [List.getElem?_set_ne e, flOld_at M left hj]
      have hd := kInt_diff (fun h : j = i => e h.symm)
      unfold flAt
      simp [hd]
  · rw [List.getElem?_eq_none (by rw [flOld_length]; exact hj), List.getElem?_eq_none (by rw [List.length_set, flOld_length]; exact hj)]
theorem settle_all {p : Pg} (hp : p.ok) : p.settle 128 = ⟨if p.pend then p.now else p.old, none⟩ := by
  unfold Pg.settle Pg.pend Pg.now
  cases hn : p.new with
  | none =>
    obtain ⟨o, n⟩ := p
    simp at hn
    subst hn; rfl
  | some l =>
    have h1 := hp.2 l hn
    have h2 := hp.1
    simp
    rw [List.take_of_length_le (by omega), List.drop_eq_nil_of_le (by omega), List.append_nil]
def DM.settled (M : DM) : DM := { M with ps := M.ps.map fun p => p.settle 128 }
theorem settled_image {M : DM} (hM : M.ok) (left : Lit → Bool) (h : ∀ kl, left kl = false) : M.settled.image = flOld M left := by
  apply List.ext_getElem?
  intro i
  rcases Nat.lt_or_ge i M.ps.length with hi | hi
  · rw [flOld_at M left hi]
    unfold DM.image DM.settled flAt
    rw [List.map_map, List.getElem?_map, DM.page_at hi, h]
    simp only [Option.map_some, Function.comp, Bool.not_false, Bool.and_true]
    rw [settle_all (DM.page_ok hM hi)]
  · rw [List.getElem?_eq_none (by unfold DM.image DM.settled; rw [List.length_map, List.length_map]; exact hi), List.getElem?_eq_none (by rw [flOld_length]; exact hi)]
theorem settled_none {M : DM} (hM : M.ok) : ∀ q ∈ M.settled.ps, q.new = none := by
  intro q hq
  obtain ⟨p, hp, rfl⟩ := List.mem_map.1 hq
  rw [settle_all (hM.1 p hp)]
theorem settled_len (M : DM) : M.settled.ps.length = M.ps.length := by unfold DM.settled; rw [List.length_map]
theorem flush_down {M : DM} (h : M.up = false) : M.flushE = 13 ∧ M.flush = M := by unfold DM.flushE DM.flush; rw [h]; exact ⟨rfl, rfl⟩
theorem flush_trip {M : DM} (h : M.up = true) (hs : M.step.up = false) : M.flushE = 13 ∧ M.flush = M.step := by unfold DM.flushE DM.flush; rw [h, hs]; exact ⟨rfl, rfl⟩
theorem flush_good {M : DM} (h : M.up = true) (hs : M.step.up = true) : M.flushE = 0 ∧ M.flush = M.step.settled := by
  unfold DM.flushE DM.flush
  rw [if_pos h, if_pos hs, if_pos h, if_pos hs]
  unfold DM.settled
  rw [DM.step_ps]
  exact ⟨rfl, rfl⟩
def FlRel (M : DM) (D : DataW Unit) (gd gp gm k r cp : Nat) (Y : List Value) (w : World) (wr : World) : Prop :=
  ∃ (left : Lit → Bool) (cnt : Nat), wr.ranges Try.prog 3 pageR gm r k D left cnt ∧ Blk wr gp 108 (pgCells (flOld M left) ++ Y) ∧ Blk wr gd 105 [.slice (some ⟨gp, 0, none⟩) M.ps.length cp, .map (some gm), .bool M.up, .int .i64 M.trip] ∧ Only [gp, r] w wr
set_option maxRecDepth 100000 in
set_option maxHeartbeats 3200000 in
theorem flush_any (gd gp gm k cp : Nat) (Y : List Value) (M : DM) (w : World) (hM : M.ok) (h : PRep w gd gp gm cp Y M k) :
    Calls Try.prog 24 #[.pointer (some ⟨gd, 0, none⟩)] w fun x w' => x = .returned (.int .i64 M.flushE) ∧ PRep w' gd gp gm cp Y M.flush k ∧ Only [gd, gp, gm] w w' := by
  have c2 := h.d.cell (k := 2) rfl
  obtain ⟨u, hu⟩ : ∃ u, M.up = u := ⟨_, rfl⟩
  rw [hu] at c2
  cases u with
  | false =>
    obtain ⟨e1, e2⟩ := flush_down hu
    rw [e1, e2]
    have HH := h
    clear e1 e2 hu h hM
    go_enter Try.func24, Try.ntmps24
    go_wp2
    go_ret
    exact ⟨rfl, HH, Only.refl _ _⟩
  | true =>
    have HUP := Lib.hid hu
    by_cases hst : M.step.up = true
    · obtain ⟨e1, e2⟩ := flush_good hu hst
      rw [e1, e2]
      have HST := Lib.hid hst
      have hMs := DM.step_ok hM
      obtain ⟨N, hN⟩ : ∃ N, M.step = N := ⟨_, rfl⟩
      have HN := Lib.hid hN
      rw [hN] at hMs ⊢
      clear e1 e2 hu hst hN
      go_enter Try.func24, Try.ntmps24
      go_wp2_with fail
      (with_reducible refine (step_any gd gp gm k cp Y M _ HUP.out hM h).mono ?_)
      rintro e w1 ⟨rfl, h1, ho1⟩
      rw [HST.out]
      rw [HN.out] at h1
      clear c2 h HUP HST hM HN
      obtain ⟨D, hown, hIs, hD1, hD2⟩ := h1.m
      have HD1 := Lib.hid hD1
      have HD2 := Lib.hid hD2
      have c1 := h1.d.cell (k := 1) rfl
      have hst0 : flOld N (Maps.has D) = N.image := flOld_start _ (fun i hi hp => by
        have := (hD1 i _ (DM.page_at hi)).1
        unfold Pg.pend at hp
        cases hn : (N.page i).new with
        | none => rw [hn] at hp; cases hp
        | some l => exact Maps.has_true_of_atKey (this l hn))
      have hn4 : N.ps.length ≤ 4096 := hMs.2.2.2
      clear hD1 hD2
      go_wp2_with (first | (at_range; refine wpList_range_own _ rfl _ 103 rfl 3 108 keyedI Try.underlying103 _ gm k _ rfl hown ?_; intro w2 hrg2 hg2 hs2))
      go_frame
      have hb2 : Below w1.heap.size w1 w2 := (Below.refl _ _).grown hg2 (Nat.le_refl _) (fun k hk => by cases hk)
      have h2 := h1.next hb2
      have hp2 := h2.p
      rw [← hst0] at hp2
      have ho2 := ho1.trans (Only.of_below hb2)
      obtain ⟨r, hr⟩ : ∃ r, Hid (w1.heap.size = r) := ⟨_, rfl⟩
      rw [hr.out] at hrg2 ⊢
      have hdr : gd < r := by have := h1.d.lt; have := hr.out; omega
      have hpr : gp < r := by have := h1.p.lt; have := hr.out; omega
      have hmr : gm < r := by have := h1.m.lt; have := hr.out; omega
      have hrel0 : FlRel N D gd gp gm k r cp Y w2 w2 := ⟨_, _, hrg2, hp2, h2.d, Only.refl _ _⟩
      have hrw : w.heap.size ≤ r := by have := ho1.size; have := hr.out; omega
      have hn1 := h1.n1
      have hn2 := h1.n2
      have hn3 := h1.n3
      have h2m := h2.m
      clear c1 hown hg2 hs2 hb2 h1 hrg2 hp2 hst0 ho1
      go_loopw [3] (fun _ wr => FlRel N D gd gp gm k r cp Y w2 wr) (fun _ wr => wr.rangeLeft gm r)
      case atStart => exact hrel0
      case round =>
        clear hrel0
        obtain ⟨left, cnt, hrg, hp, hd, ho⟩ := hrel
        have c1 := hd.cell (k := 1) rfl
        have hleft := Lib.hid hrg.left_eq
        go_wp2_with (first | (at_next; refine wpList_next_ranges _ rfl _ rfl 3 keyedI pageR (Value.int .i64) (fun l : List UInt8 => Value.agg (l.map B8).toArray) (fun key kl hk => (by obtain ⟨x, rfl, _⟩ := Maps.keyOf_int_inv Try.underlying3 hk; exact ⟨x, rfl⟩)) (fun v y hv => (by obtain ⟨l, rfl, _⟩ := pageR_inv hv; exact ⟨l, rfl⟩)) gm r k D left cnt rfl hrg ?_ ?_))
        · intro _ hl0
          rw [← settled_image hMs left hl0] at hp
          have hnone := Lib.hid (settled_none hMs)
          have hslen := Lib.hid (settled_len N)
          obtain ⟨w4, hclr, hm4, hg4⟩ := run_clear (h2m.only ho (by simp; omega)) 0
          have ho4 : Only [gm] wr w4 := Only.of_grown hg4 (by simp)
          have h4 : PRep w4 gd gp gm cp Y N.settled k := by
            refine ⟨?_, hp.only ho4 (by simpa using hn3), (hm4 _ hnone.out).mono (Nat.zero_le k), hn1, hn2, hn3⟩
            rw [hslen.out]; exact hd.only ho4 (by simpa using hn2)
          have hoZ : Only [gd, gp, gm] w w4 := (only_drop hrw (ho2.mono (by simp)) ho).trans (ho4.mono (by simp))
          clear hm4 hg4 hp hd hrg hleft ho
          go_wp2
          go_ret
          exact ⟨rfl, h4, hoZ⟩
        · intro x l kl y yp w3 cnt3 hkey hlk hRv hat hrg3 hlt3 hg3 hs3 hen
          have hkx : kl = .int .i64 x := by
            obtain ⟨x', ex, e2, _⟩ := Maps.keyOf_int_inv Try.underlying3 hkey
            cases ex; exact e2
          obtain ⟨j, hj, hkj⟩ := HD2.out kl (Maps.has_true_of_atKey hat)
          have hxj : x = (j : Int) := by rw [hkx] at hkj; unfold kInt at hkj; injection hkj
          subst hxj
          subst hkj
          obtain ⟨ha, hno⟩ := HD1.out j _ (DM.page_at hj)
          have hnow : (N.page j).pend = true ∧ (N.page j).now = l := by
            rw [pageR_mk] at hRv
            unfold Pg.pend Pg.now
            cases hn : (N.page j).new with
            | none =>
              have := hno hn
              rw [Maps.has_true_of_atKey hat] at this
              cases this
            | some l' =>
              have h1 := ha l' hn .nil
              rw [hat] at h1
              injection hRv with hRv
              injection hRv with hRv1 _
              rw [← hRv1] at h1
              exact ⟨rfl, (Lit.string.inj (DataW.lit.inj h1)).symm⟩
          have hnx := flOld_next left hj hnow.1
          rw [hnow.2] at hnx
          have hll : l.length = 128 := by rw [← hnow.2]; exact Pg.now_length (DM.page_ok hMs hj)
          have hspl0 := pgCells_splice (flOld N left) (flOld_128 hMs left) j _ l (flOld_at N left hj) hll
          rw [← hnx] at hspl0
          have hlen : (pgCells (flOld N left)).length = N.ps.length * 128 := by rw [pgCells_length _ (flOld_128 hMs left), flOld_length]
          have hspl := splice_tail Y hspl0 (by rw [hlen, List.length_map, hll]; omega)
          clear hspl0
          have hlN : Hid ((l.map B8).length = 128) := by
            have : (l.map B8).length = 128 := by rw [List.length_map]; exact hll
            exact this
          have HSPL := Lib.hid hspl
          have HLEN := Lib.hid hlen
          have ho3 : Only [r] wr w3 := Only.of_grown hg3 (by simp)
          have hp3 := hp.only ho3 (by simp; omega)
          have hd3 := hd.only ho3 (by simp; omega)
          have hr3 : r < w3.heap.size := hrg3.lt
          have ho23 : Only [gp, r] w2 w3 := ho.trans (ho3.mono (by simp))
          clear hkx ha hno hnow hnx hll hspl hlen hat hlk hRv hkey hrg hp hd c1 ho3 hg3 hs3
          obtain ⟨n, hn⟩ : ∃ n, Hid (N.ps.length = n) := ⟨_, rfl⟩
          have hjn : (j : Int) < (n : Int) := by have := hn.out; omega
          rw [hn.out] at hd3
          have c0 := hd3.cell (k := 0) rfl
          go_wp2_with (with_reducible refine wpList_alloc (o := ⟨some 4, .alloc 108, _, _, _, _⟩) (by with_unfolding_all rfl) 108 (by with_unfolding_all rfl) (.agg (Z128.map B8).toArray) (Z128.map B8) (by exact Try.zeroP) (by with_unfolding_all rfl) ?_)
          intro g4 w4 hg4 hs4 hb4 hB4
          have hle : w3.heap.size ≤ g4 := Nat.le_of_eq hg4.out.symm
          go_wp2_with (with_reducible refine wpList_put (o := ⟨none, .store 108 (.tmp 4) (.tmp 24), _, _, _, _⟩) (by with_unfolding_all rfl) 108 (.tmp 4) (.tmp 24) (by with_unfolding_all rfl) g4 0 (by with_unfolding_all rfl) (.agg (l.map B8).toArray) (by with_unfolding_all rfl) hB4 (l.map B8) (by with_unfolding_all rfl) (by rw [hlN.out]; exact Try.sizeP) (by with_unfolding_all (rw [hlN.out, Z128_length]; exact Nat.le_refl _)) (B8_one _) ?_)
          intro w5 hu5 hB5
          rw [splice_all _ _ (by rw [hlN.out, Z128_length])] at hB5
          have hb5 : Below w3.heap.size w3 w5 := (hb4.mono hle).trans (hu5.below (B := w3.heap.size) hle)
          have ho5 := Only.of_below (L := ([] : List Nat)) hb5
          have hp5 := hp3.only ho5 (by simp)
          have hd5 := hd3.only ho5 (by simp)
          have hrg5 := ranges_only hrg3 ho5 (by simp) (by simp)
          have hg4r : r < g4 := by have := hr3; omega
          have ho25 := ho23.trans (Only.of_below hb5)
          have hun := Try.underlying108
          have hz : (Try.prog.info? 108).map (·.size) = some (l.map B8).length := by rw [hlN.out]; exact Try.sizeP
          have hdd := below_drew w5
          have hod := Only.of_below (L := ([] : List Nat)) hdd
          have hp6 := hp5.only hod (by simp)
          have hd6 := hd5.only hod (by simp)
          have hrg6 := ranges_only hrg5 hod (by simp) (by simp)
          have ho26 := ho25.trans (Only.of_below hdd)
          have hB6 := hB5.next hdd hB5.lt
          have hSd : w5.drew.cell? ⟨gd, 0, none⟩ = some (.slice (some ⟨gp, 0, none⟩) n cp) ∧ w5.drew.rangeAt g4 0 (l.map B8) := ⟨hd6.cell (k := 0) rfl, blk_range hB6⟩
          clear c0 hen hp3 hd3 hrg3 ho23 hg4 hs4 hb4 hB4 hu5 hB5 hb5 ho5 hp5 hd5 hrg5 ho25 hod
          go_wp2
          refine wp_region_held_drew (S := fun w' => w'.cell? ⟨gd, 0, none⟩ = some (.slice (some ⟨gp, 0, none⟩) n cp) ∧ w'.rangeAt g4 0 (l.map B8)) (by kernel_rfl) hSd (fun hHeld => ?_)
          generalize w5.drew = wd at hdd hHeld hSd hp6 hd6 hrg6 ho26 hB6 ⊢
          refine wpAnyH_take (i := 0) (v := ?vv0) rfl (by kernel_rfl) (by kernel_rfl) (by kernel_rfl) (fun _ _ _ h => h) (Or.inl ⟨by rfl, ?yv0⟩) (by assumption) ?rv0
          case yv0 => intro w hSw; (try dsimp only at hSw); go_simp <;> (try with_reducible rfl)
          (try simp only [List.getElem_toArray, List.getElem_cons_zero, Act.put, List.setIfInBounds_toArray, List.set_cons_zero, List.set_cons_succ])
          refine wpAnyH_take (i := 1) (v := ?vv1) rfl (by kernel_rfl) (by kernel_rfl) (by kernel_rfl) (fun _ _ _ h => h) (Or.inl ⟨by rfl, ?yv1⟩) (by assumption) ?rv1
          case yv1 => intro w hSw; (try dsimp only at hSw); go_simp <;> (try with_reducible rfl)
          (try simp only [List.getElem_toArray, List.getElem_cons_succ, List.getElem_cons_zero, Act.put, List.setIfInBounds_toArray, List.set_cons_zero, List.set_cons_succ])
          refine wpAnyH_take (i := 2) (v := ?vv2) rfl (by kernel_rfl) (by kernel_rfl) (by kernel_rfl) (fun _ _ _ h => h) (Or.inl ⟨by rfl, ?yv2⟩) (by assumption) ?rv2
          case yv2 => intro w hSw; (try dsimp only at hSw); go_simp <;> (try with_reducible rfl)
          (try simp only [List.getElem_toArray, List.getElem_cons_succ, List.getElem_cons_zero, Act.put, List.setIfInBounds_toArray, List.set_cons_zero, List.set_cons_succ])
          refine wpAnyH_take (i := 3) (v := ?vv3) rfl (by kernel_rfl) (by kernel_rfl) (by kernel_rfl) (fun _ _ _ h => h) (Or.inl ⟨by rfl, ?yv3⟩) (by assumption) ?rv3
          case yv3 => intro w hSw; (try dsimp only at hSw); go_simp <;> (try with_reducible rfl)
          (try simp only [List.getElem_toArray, List.getElem_cons_succ, List.getElem_cons_zero, Act.put, List.setIfInBounds_toArray, List.set_cons_zero, List.set_cons_succ])
          refine wpAnyH_take (i := 4) (v := ?vv4) rfl (by kernel_rfl) (by kernel_rfl) (by kernel_rfl) (fun _ _ _ h => h) (Or.inl ⟨by rfl, ?yv4⟩) (by assumption) ?rv4
          case yv4 => intro w hSw; (try dsimp only at hSw); go_simp <;> (try with_reducible rfl)
          (try simp only [List.getElem_toArray, List.getElem_cons_succ, List.getElem_cons_zero, Act.put, List.setIfInBounds_toArray, List.set_cons_zero, List.set_cons_succ])
          refine' wpAnyH_take (i := 5) (v := _) rfl (by kernel_rfl) (by kernel_rfl) (by kernel_rfl) (fun _ _ _ h => h) (yieldsIf_load_mid (by rfl) _ _ (by rfl) _ _ (by rfl) _ _ ?Sv5 ?uv5 ?dv5 ?iv5) (by assumption) ?rv5
          case Sv5 => exact (by intro w h; exact h.2)
          case uv5 => exact hun
          case dv5 => rfl
          case iv5 => exact hz
          (try simp only [List.getElem_toArray, List.getElem_cons_succ, List.getElem_cons_zero, Act.put, List.setIfInBounds_toArray, List.set_cons_zero, List.set_cons_succ])
          refine wpAnyH_take (i := 6) (v := ?vv6) rfl (by kernel_rfl) (by kernel_rfl) (by kernel_rfl) (fun _ _ _ h => h) (Or.inl ⟨by rfl, ?yv6⟩) (by assumption) ?rv6
          case yv6 => intro w hSw; (try dsimp only at hSw); go_simp <;> (try with_reducible rfl)
          (try simp only [List.getElem_toArray, List.getElem_cons_succ, List.getElem_cons_zero, Act.put, List.setIfInBounds_toArray, List.set_cons_zero, List.set_cons_succ])
          refine wpAnyH_ready (rs := [7]) (by kernel_rfl) (by simp) ?_
          refine AllReadyH.cons rfl (fun K hK => ?_) AllReadyH.nil
          rw [if_pos (by rfl)]
          refine wp_put 108 (.tmp 31) (.tmp 30) rfl gp (j * 128) rfl (.agg (l.map B8).toArray) rfl hp6 (l.map B8) rfl (by rw [hlN.out]; exact Try.sizeP) (by rw [List.length_append, HLEN.out, hn.out, hlN.out]; omega) (B8_one _) ?_
          intro w7 hu7 hB7
          rw [HSPL.out] at hB7
          have ho7 : Only [gp] wd w7 := Only.of_upd hu7 (by simp)
          have hd7 := hd6.only ho7 (by simpa using hn1)
          have hrg7 := ranges_only hrg6 ho7 (by simpa using hn3.symm) (by simp; omega)
          have ho27 : Only [gp, r] w2 w7 := ho26.trans (ho7.mono (by simp))
          have hB47 := hB6.only ho7 (by simp; omega)
          refine hK.out _ _ ⟨hd7.cell (k := 0) rfl, blk_range hB47⟩ (fun hHeld => ?_)
          clear hK K hHeld
          refine wpAnyH_done (by kernel_rfl) ?_ _
          clear hp6 hd6 hrg6 ho26 hB6 hu7 ho7 hB47 hSd hdd
          go_wp2
          go_roundw
          case rel =>
            have hR : FlRel N D gd gp gm k r cp Y w2 w7 := ⟨_, cnt3, hrg7, hB7, by rw [hn.out]; exact hd7, ho27⟩
            first | exact hR | ((repeat apply Exists.intro); exact ⟨hR, rfl⟩)
          case measure => rw [hrg7.left_eq, hleft.out]; exact hlt3
    · have hsf : M.step.up = false := by simpa using hst
      obtain ⟨e1, e2⟩ := flush_trip hu hsf
      rw [e1, e2]
      have HSF := Lib.hid hsf
      clear e1 e2 hu hst hsf
      go_enter Try.func24, Try.ntmps24
      go_wp2_with fail
      (with_reducible refine (step_any gd gp gm k cp Y M _ HUP.out hM h).mono ?_)
      rintro e w1 ⟨rfl, h1, ho1⟩
      rw [HSF.out]
      clear c2 h
      go_wp2
      go_ret
      exact ⟨rfl, h1, ho1.mono (by simp)⟩
end Go.Proofs.Ythgmlopkcgkjlaa

/-
  How the reference holds a disk: its record and its list of pages, of which each has three cells. Conditions: none.
-/
namespace Go.Proofs.Ythgmlopkcgkjlaa
open Go.RowKit

def pg3 (p : Pg) : List Value := [S8 p.old, S8 (p.new.getD []), .bool p.pend]
def pgRow (ps : List Pg) : List Value := ps.flatMap pg3
theorem pgRow_length : ∀ (ps : List Pg), (pgRow ps).length = ps.length * 3
  | [] => rfl
  | p :: ps => by
    have e : pgRow (p :: ps) = pg3 p ++ pgRow ps := by unfold pgRow; rw [List.flatMap_cons]
    rw [e, List.length_append, pgRow_length ps, List.length_cons]
    show 3 + _ = _
    omega
theorem pgRow_split : ∀ (ps : List Pg) (i : Nat) (p : Pg), ps[i]? = some p → ∃ A B, pgRow ps = A ++ pg3 p ++ B ∧ A.length = i * 3 ∧ ∀ q : Pg, pgRow (ps.set i q) = A ++ pg3 q ++ B
  | [], _, _, h => by cases h
  | x :: ps, 0, p, h => by
    cases h
    exact ⟨[], pgRow ps, by simp [pgRow], rfl, fun q => by simp [pgRow]⟩
  | x :: ps, i + 1, p, h => by
    obtain ⟨A, B, h1, h2, h3⟩ := pgRow_split ps i p (by simpa using h)
    refine ⟨pg3 x ++ A, B, ?_, ?_, fun q => ?_⟩
    · show (x :: ps).flatMap _ = _
      rw [List.flatMap_cons]
      show pg3 x ++ pgRow ps = _
      rw [h1]; simp
    · rw [List.length_append, h2]
      show 3 + _ = _
      omega
    · show ((x :: ps).set (i + 1) q).flatMap _ = _
      rw [List.set_cons_succ, List.flatMap_cons]
      show pg3 x ++ pgRow (ps.set i q) = _
      rw [h3]; simp
theorem pgRow_get {ps : List Pg} {i : Nat} {p : Pg} (h : ps[i]? = some p) (X : List Value) {j : Nat} {u : Value} (hu : (pg3 p)[j]? = some u) : (pgRow ps ++ X)[i * 3 + j]? = some u := by
  obtain ⟨A, B, h1, h2, _⟩ := pgRow_split ps i p h
  have hj : j < (pg3 p).length := (List.getElem?_eq_some_iff.1 hu).1
  rw [h1, List.append_assoc, List.append_assoc, List.getElem?_append_right (by omega), h2, show i * 3 + j - i * 3 = j by omega, List.getElem?_append_left hj]
  exact hu
theorem splice_mid (A P C cs : List Value) (j : Nat) (hj : j + cs.length ≤ P.length) : splice (A ++ (P ++ C)) (A.length + j) cs = A ++ (splice P j cs ++ C) := by
  unfold splice
  have h1 : (A ++ (P ++ C)).take (A.length + j) = A ++ P.take j := by rw [List.take_length_add_append, List.take_append_of_le_length (by omega)]
  have h2 : (A ++ (P ++ C)).drop (A.length + j + cs.length) = P.drop (j + cs.length) ++ C := by rw [Nat.add_assoc, List.drop_length_add_append, List.drop_append_of_le_length (by omega)]
  rw [h1, h2]
  simp
theorem pgRow_splice {ps : List Pg} {i : Nat} {p : Pg} (h : ps[i]? = some p) (X : List Value) (j : Nat) (cs : List Value) (q : Pg) (hq : splice (pg3 p) j cs = pg3 q) (hj : j + cs.length ≤ 3) : splice (pgRow ps ++ X) (i * 3 + j) cs = pgRow (ps.set i q) ++ X := by
  obtain ⟨A, B, h1, h2, h3⟩ := pgRow_split ps i p h
  rw [h1, h3 q, ← hq, ← h2]
  have e := splice_mid A (pg3 p) (B ++ X) cs j hj
  simp only [List.append_assoc]
  exact e
/-- The record and the list; behind the pages lies X. -/
structure RRep (w : World) (gr ga cap : Nat) (X : List Value) (M : DM) : Prop where
  d : Blk w gr 56 [.slice (some ⟨ga, 0, none⟩) M.ps.length cap, .bool (!M.up), .int .i64 M.trip]
  p : Blk w ga 53 (pgRow M.ps ++ X)
  n1 : gr ≠ ga
theorem RRep.q0 {w : World} {gr ga cap : Nat} {X : List Value} {M : DM} (h : RRep w gr ga cap X M) {i : Nat} (hi : i < M.ps.length) : w.cell? ⟨ga, i * 3, none⟩ = some (S8 (M.page i).old) := h.p.cell (pgRow_get (DM.page_at hi) X (j := 0) rfl)
theorem RRep.q1 {w : World} {gr ga cap : Nat} {X : List Value} {M : DM} (h : RRep w gr ga cap X M) {i : Nat} (hi : i < M.ps.length) : w.cell? ⟨ga, i * 3 + 1, none⟩ = some (S8 ((M.page i).new.getD [])) := h.p.cell (pgRow_get (DM.page_at hi) X (j := 1) rfl)
theorem RRep.q2 {w : World} {gr ga cap : Nat} {X : List Value} {M : DM} (h : RRep w gr ga cap X M) {i : Nat} (hi : i < M.ps.length) : w.cell? ⟨ga, i * 3 + 2, none⟩ = some (.bool (M.page i).pend) := h.p.cell (pgRow_get (DM.page_at hi) X (j := 2) rfl)
theorem RRep.only {L : List Nat} {w w' : World} {gr ga cap : Nat} {X : List Value} {M : DM} (h : RRep w gr ga cap X M) (ho : Only L w w') (h1 : gr ∉ L) (h2 : ga ∉ L) : RRep w' gr ga cap X M := ⟨h.d.only ho h1, h.p.only ho h2, h.n1⟩
theorem RRep.next {w w' : World} {gr ga cap : Nat} {X : List Value} {M : DM} (h : RRep w gr ga cap X M) (hb : Below w.heap.size w w') : RRep w' gr ga cap X M := h.only (Only.of_below (L := []) hb) (by simp) (by simp)
theorem RRep.turn {w w' : World} {gr ga cap : Nat} {X : List Value} {M M' : DM} (h : RRep w gr ga cap X M) (hu : Upd gr w w') (hps : M'.ps = M.ps) (hd : Blk w' gr 56 [.slice (some ⟨ga, 0, none⟩) M.ps.length cap, .bool (!M'.up), .int .i64 M'.trip]) : RRep w' gr ga cap X M' := by
  have ho := Only.of_upd (L := [gr]) hu (by simp)
  exact ⟨by rw [hps]; exact hd, by rw [hps]; exact h.p.only ho (by simpa using h.n1.symm), h.n1⟩
theorem Try.szRP : (Try.prog.info? 53).map (·.size) = some 3 := by kernel_rfl
end Go.Proofs.Ythgmlopkcgkjlaa
