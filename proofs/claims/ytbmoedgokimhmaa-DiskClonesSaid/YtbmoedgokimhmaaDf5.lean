/-
  Contract of the walk over disk.Rot. Conditions: the record holds the disk.
-/
import Derived.Test.YtbmoedgokimhmaaDf4
import Derived.Laws.BitsAllLaws
namespace Go.Proofs.Ytbmoedgokimhmaa
open Go.RowKit

theorem pgCells_splice1 (L : List (List UInt8)) (hL : ∀ l ∈ L, l.length = 128) (i q : Nat) (l : List UInt8) (y : UInt8) (h : L[i]? = some l) (hq : q < 128) : splice (pgCells L) (i * 128 + q) [B8 y] = pgCells (L.set i (l.set q y)) := by
  obtain ⟨A, B, h1, h2, h3⟩ := pgCells_split L hL i l h
  have hl := hL l (List.mem_of_getElem? h)
  have hlen : (l.map B8).length = 128 := by rw [List.length_map]; exact hl
  have hset : (l.set q y).map B8 = (l.map B8).take q ++ [B8 y] ++ (l.map B8).drop (q + 1) := by
    rw [List.map_set, List.set_eq_take_append_cons_drop, if_pos (by omega)]; simp
  rw [h3, h1, hset]
  unfold splice
  have e1 : (A ++ l.map B8 ++ B).take (i * 128 + q) = A ++ (l.map B8).take q := by
    rw [List.append_assoc, List.take_append, List.take_of_length_le (by omega), h2, show i * 128 + q - i * 128 = q by omega, List.take_append_of_le_length (by omega)]
  have e2 : (A ++ l.map B8 ++ B).drop (i * 128 + q + [B8 y].length) = (l.map B8).drop (q + 1) ++ B := by
    rw [List.append_assoc, List.drop_append, List.drop_eq_nil_of_le (by rw [List.length_singleton]; omega), List.nil_append, h2, List.length_singleton, show i * 128 + q + 1 - i * 128 = q + 1 by omega, List.drop_append, hlen, show q + 1 - 128 = 0 by omega, List.drop_zero]
  rw [e1, e2]
  simp only [List.append_assoc]
theorem MapOK.same {w : World} {gm k : Nat} {ps qs : List Pg} (h : MapOK w gm k ps) (e : qs.map Pg.new = ps.map Pg.new) : MapOK w gm k qs := by
  obtain ⟨D, h1, h2, h3, h4⟩ := h
  have hl : qs.length = ps.length := by have := congrArg List.length e; simpa using this
  refine ⟨D, h1, h2, fun i q hq => ?_, fun kl hk => by rw [hl]; exact h4 kl hk⟩
  have hi : i < ps.length := by rw [← hl]; exact (List.getElem?_eq_some_iff.1 hq).1
  obtain ⟨p, hp⟩ : ∃ p, ps[i]? = some p := ⟨_, List.getElem?_eq_getElem hi⟩
  have hn : q.new = p.new := by
    have := congrArg (fun l => l[i]?) e
    simp only [List.getElem?_map, hq, hp, Option.map_some, Option.some.injEq] at this
    exact this
  rw [hn]
  exact h3 i p hp
theorem DM.image_old (M : DM) (i : Nat) (l : List UInt8) (n : Option (List UInt8)) : (M.set i ⟨l, n⟩).image = M.image.set i l := by unfold DM.image DM.set; rw [List.map_set]
theorem DM.new_old (M : DM) (i : Nat) (hi : i < M.ps.length) (l : List UInt8) : (M.set i ⟨l, (M.page i).new⟩).ps.map Pg.new = M.ps.map Pg.new := by
  unfold DM.set
  rw [List.map_set]
  apply List.ext_getElem?
  intro j
  by_cases hj : i = j
  · subst hj
    rw [List.getElem?_set_self (by rw [List.length_map]; exact hi), List.getElem?_map, DM.page_at hi]; rfl
  · rw [List.getElem?_set_ne hj]
theorem rot_bad {M : DM} {i b : Int} (h : (M.okP i && decide (0 ≤ b ∧ b < 1024)) = false) : M.rotE i b = 1 ∧ M.rot i b = M := by unfold DM.rotE DM.rot; rw [h]; exact ⟨rfl, rfl⟩
theorem rot_good {M : DM} {i b : Int} (h : (M.okP i && decide (0 ≤ b ∧ b < 1024)) = true) : M.rotE i b = 0 ∧ M.rot i b = M.set i.toNat ⟨DM.flip (M.page i.toNat).old b.toNat, (M.page i.toNat).new⟩ := by unfold DM.rotE DM.rot; rw [h]; exact ⟨rfl, rfl⟩
theorem u8_xor (a b : UInt8) : bits .xor .u8 (a.toNat : Int) (b.toNat : Int) = ((a ^^^ b).toNat : Int) := by
  have ha := a.toNat_lt
  have hb := b.toNat_lt
  show IntKind.u8.wrap ((BitVec.ofInt 8 (a.toNat : Int) ^^^ BitVec.ofInt 8 (b.toNat : Int)).toNat : Int) = _
  rw [UInt8.toNat_xor, BitVec.toNat_xor, BitVec.ofInt_natCast, BitVec.ofInt_natCast, BitVec.toNat_ofNat, BitVec.toNat_ofNat, Nat.mod_eq_of_lt (by omega), Nat.mod_eq_of_lt (by omega), IntKind.wrap_u8]
  have : a.toNat ^^^ b.toNat < 2 ^ 8 := Nat.xor_lt_two_pow (by omega) (by omega)
  omega
theorem wrap_pow : ∀ r : Nat, r < 8 → IntKind.u8.wrap ((2 : Int) ^ r) = (2 : Int) ^ r := by decide
theorem pow_byte : ∀ r, r < 8 → (UInt8.ofNat (2 ^ r)).toNat = 2 ^ r := by decide
set_option maxRecDepth 100000 in
set_option maxHeartbeats 3200000 in
theorem rot_any (gd gp gm k cp : Nat) (Y : List Value) (M : DM) (i b : Int) (w : World) (hM : M.ok) (h : PRep w gd gp gm cp Y M k) :
    Calls Try.prog 31 #[.pointer (some ⟨gd, 0, none⟩), .int .i64 i, .int .i64 b] w fun x w' => x = .returned (.int .i64 (M.rotE i b)) ∧ PRep w' gd gp gm cp Y (M.rot i b) k ∧ Only [gp] w w' := by
  by_cases hp : M.okP i = true
  · by_cases hb0 : 0 ≤ b
    · by_cases hb1 : b < 1024
      · have hfit : (M.okP i && decide (0 ≤ b ∧ b < 1024)) = true := by rw [hp]; exact decide_eq_true ⟨hb0, hb1⟩
        obtain ⟨e1, e2⟩ := rot_good hfit
        obtain ⟨j, rfl, hj⟩ := DM.okP_nat hp
        obtain ⟨n, rfl⟩ : ∃ n : Nat, b = (n : Int) := ⟨b.toNat, by omega⟩
        rw [Int.toNat_natCast, Int.toNat_natCast] at e2
        obtain ⟨q, hq⟩ : ∃ q, n / 8 = q := ⟨_, rfl⟩
        obtain ⟨r, hr⟩ : ∃ r, n % 8 = r := ⟨_, rfl⟩
        have hq128 : q < 128 := by omega
        have hr8 : r < 8 := by omega
        obtain ⟨l, hl⟩ : ∃ l, (M.page j).old = l := ⟨_, rfl⟩
        have hll : l.length = 128 := by rw [← hl]; exact (DM.page_ok hM hj).1
        obtain ⟨x, hx⟩ : ∃ x, l[q]? = some x := ⟨_, List.getElem?_eq_getElem (by omega)⟩
        obtain ⟨y, hy⟩ : ∃ y, x ^^^ UInt8.ofNat (2 ^ r) = y := ⟨_, rfl⟩
        have hflip : DM.flip l n = l.set q y := by unfold DM.flip; rw [hq, hr, List.getD_eq_getElem?_getD, hx, ← hy]; rfl
        rw [hl, hflip] at e2
        have him := image_at hj
        rw [hl] at him
        have hspl0 := pgCells_splice1 M.image (image_128 hM) j q l y him hq128
        have hpl : (pgCells M.image).length = M.ps.length * 128 := by rw [pgCells_length _ (image_128 hM)]; unfold DM.image; rw [List.length_map]
        have hspl := splice_tail Y hspl0 (by rw [hpl, List.length_singleton]; omega)
        clear hspl0
        have hcx : ∀ w', Blk w' gp 108 (pgCells M.image ++ Y) → w'.cell? ⟨gp, j * 128 + q, none⟩ = some (.int .u8 (x.toNat : Int)) := fun w' hb => hb.cell (get_app (pgCells_get M.image (image_128 hM) j l him (by rw [List.getElem?_map, hx]; rfl)))
        have hxor : bits .xor .u8 (x.toNat : Int) (2 ^ r) = (y.toNat : Int) := by
          have := u8_xor x (UInt8.ofNat (2 ^ r))
          rw [pow_byte r hr8, hy] at this
          rw [← this, Int.natCast_pow]; rfl
        have hwp := wrap_pow r hr8
        have hwq : IntKind.i64.wrap (q : Int) = (q : Int) := by simp only [IntKind.wrap_i64]; omega
        have hwr : IntKind.i64.wrap (r : Int) = (r : Int) := by simp only [IntKind.wrap_i64]; omega
        have hq0 : (0 : Int) ≤ (q : Int) := by omega
        have hr0 : (0 : Int) ≤ (r : Int) := by omega
        have hr8i : (r : Int) < 8 := by omega
        have hqd : (n : Int).tdiv 8 = (q : Int) := by rw [Int.tdiv_eq_ediv_of_nonneg (by omega)]; omega
        have hrd : (n : Int).tmod 8 = (r : Int) := by rw [Int.tmod_eq_emod_of_nonneg (by omega)]; omega
        have hnw := DM.new_old M j hj (l.set q y)
        have hio := DM.image_old M j (l.set q y) (M.page j).new
        have hsl := DM.set_len M j ⟨l.set q y, (M.page j).new⟩
        obtain ⟨N, hN⟩ : ∃ N, Hid (M.ps.length = N) := ⟨_, rfl⟩
        have hjN : (j : Int) < (N : Int) := by have := hN.out; omega
        have hjn : j < N := by have := hN.out; omega
        have hqi : (q : Int) < 128 := by omega
        have HP := Lib.hid hp
        have HSPL := Lib.hid hspl
        have HPL := Lib.hid hpl
        have HNW := Lib.hid hnw
        have HIO := Lib.hid hio
        have HSL := Lib.hid hsl
        have HCX := Lib.hid hcx
        rw [e1, e2]
        clear e1 e2 hfit hp hq hr hl hll hx hy hflip him hspl hpl hnw hio hsl hcx hM hj
        go_enter Try.func31, Try.ntmps31
        go_wp2_with fail
        (with_reducible refine (has_any gd gp gm k cp Y M _ true _ HP.out h).mono ?_)
        rintro e w' ⟨rfl, rfl⟩
        have hdd := below_drew w
        have hd := h.next hdd
        have c0 := hd.d.cell (k := 0) rfl
        rw [hN.out] at c0
        have hSd := c0
        have hcd := HCX.out _ hd.p
        clear c0 h
        go_wp2
        refine wp_region_held_drew (S := fun w' => w'.cell? ⟨gd, 0, none⟩ = some (.slice (some ⟨gp, 0, none⟩) N cp)) (by kernel_rfl) hSd (fun hHeld => ?_)
        have ho := Only.of_below (L := [gp]) hdd
        generalize w.drew = wd at hdd hHeld hSd hcd hd ho ⊢
        refine wpAnyH_take (i := 0) (v := ?vv0) rfl (by kernel_rfl) (by kernel_rfl) (by kernel_rfl) (fun _ _ _ h => h) (Or.inl ⟨by rfl, ?yv0⟩) (by assumption) ?rv0
        case yv0 => intro w hSw; (try dsimp only at hSw); go_simp <;> (try with_reducible rfl)
        (try simp only [List.getElem_toArray, List.getElem_cons_zero, Act.put, List.setIfInBounds_toArray, List.set_cons_zero, List.set_cons_succ])
        refine wpAnyH_take (i := 1) (v := ?vv1) rfl (by kernel_rfl) (by kernel_rfl) (by kernel_rfl) (fun _ _ _ h => h) (Or.inl ⟨by rfl, ?yv1⟩) (by assumption) ?rv1
        case yv1 => intro w hSw; (try dsimp only at hSw); go_simp <;> (try with_reducible rfl)
        (try simp only [List.getElem_toArray, List.getElem_cons_succ, List.getElem_cons_zero, Act.put, List.setIfInBounds_toArray, List.set_cons_zero, List.set_cons_succ])
        refine wpAnyH_take (i := 2) (v := ?vv2) rfl (by kernel_rfl) (by kernel_rfl) (by kernel_rfl) (fun _ _ _ h => h) (Or.inl ⟨by rfl, ?yv2⟩) (by assumption) ?rv2
        case yv2 => intro w hSw; (try dsimp only at hSw); go_simp <;> (try with_reducible rfl)
        (try simp only [List.getElem_toArray, List.getElem_cons_succ, List.getElem_cons_zero, Act.put, List.setIfInBounds_toArray, List.set_cons_zero, List.set_cons_succ])
        refine wpAnyH_take (i := 3) (v := ?vv3) rfl (by kernel_rfl) (by kernel_rfl) (by kernel_rfl) (fun _ _ _ h => h) (Or.inl ⟨by rfl, ?yv3⟩) (by assumption) ?rv3
        case yv3 => intro w hSw; (try dsimp only at hSw); go_simp <;> (try with_reducible rfl)
        (try simp only [List.getElem_toArray, List.getElem_cons_succ, List.getElem_cons_zero, Act.put, List.setIfInBounds_toArray, List.set_cons_zero, List.set_cons_succ])
        refine wpAnyH_take (i := 4) (v := ?vv4) rfl (by kernel_rfl) (by kernel_rfl) (by kernel_rfl) (fun _ _ _ h => h) (Or.inl ⟨by rfl, ?yv4⟩) (by assumption) ?rv4
        case yv4 => intro w hSw; (try dsimp only at hSw); go_simp <;> (try with_reducible rfl)
        (try simp only [List.getElem_toArray, List.getElem_cons_succ, List.getElem_cons_zero, Act.put, List.setIfInBounds_toArray, List.set_cons_zero, List.set_cons_succ])
        refine wpAnyH_take (i := 5) (v := ?vv5) rfl (by kernel_rfl) (by kernel_rfl) (by kernel_rfl) (fun _ _ _ h => h) (Or.inl ⟨by rfl, ?yv5⟩) (by assumption) ?rv5
        case yv5 => intro w hSw; (try dsimp only at hSw); go_simp <;> (try with_reducible rfl)
        (try simp only [List.getElem_toArray, List.getElem_cons_succ, List.getElem_cons_zero, Act.put, List.setIfInBounds_toArray, List.set_cons_zero, List.set_cons_succ])
        refine wpAnyH_take (i := 6) (v := ?vv6) rfl (by kernel_rfl) (by kernel_rfl) (by kernel_rfl) (fun _ _ _ h => h) (Or.inl ⟨by rfl, ?yv6⟩) (by assumption) ?rv6
        case yv6 => intro w hSw; (try dsimp only at hSw); go_simp <;> (try with_reducible rfl)
        (try simp only [List.getElem_toArray, List.getElem_cons_succ, List.getElem_cons_zero, Act.put, List.setIfInBounds_toArray, List.set_cons_zero, List.set_cons_succ])
        refine wpAnyH_take (i := 7) (v := ?vv7) rfl (by kernel_rfl) (by kernel_rfl) (by kernel_rfl) (fun _ _ _ h => h) (Or.inl ⟨by rfl, ?yv7⟩) (by assumption) ?rv7
        case yv7 => intro w hSw; (try dsimp only at hSw); go_simp <;> (try with_reducible rfl)
        (try simp only [List.getElem_toArray, List.getElem_cons_succ, List.getElem_cons_zero, Act.put, List.setIfInBounds_toArray, List.set_cons_zero, List.set_cons_succ])
        refine wpAnyH_take (i := 8) (v := ?vv8) rfl (by kernel_rfl) (by kernel_rfl) (by kernel_rfl) (fun _ _ _ h => h) (Or.inl ⟨by rfl, ?yv8⟩) (by assumption) ?rv8
        case yv8 => intro w hSw; (try dsimp only at hSw); go_simp <;> (try with_reducible rfl)
        (try simp only [List.getElem_toArray, List.getElem_cons_succ, List.getElem_cons_zero, Act.put, List.setIfInBounds_toArray, List.set_cons_zero, List.set_cons_succ])
        refine wpAnyH_take (i := 10) (v := ?vv10) rfl (by kernel_rfl) (by kernel_rfl) (by kernel_rfl) (fun _ _ _ h => h) (Or.inl ⟨by rfl, ?yv10⟩) (by assumption) ?rv10
        case yv10 => intro w hSw; (try dsimp only at hSw); go_simp <;> (try with_reducible rfl)
        (try simp only [List.getElem_toArray, List.getElem_cons_succ, List.getElem_cons_zero, Act.put, List.setIfInBounds_toArray, List.set_cons_zero, List.set_cons_succ])
        refine wpAnyH_take (i := 11) (v := ?vv11) rfl (by kernel_rfl) (by kernel_rfl) (by kernel_rfl) (fun _ _ _ h => h) (Or.inl ⟨by rfl, ?yv11⟩) (by assumption) ?rv11
        case yv11 => intro w hSw; (try dsimp only at hSw); go_simp <;> (try with_reducible rfl)
        (try simp only [List.getElem_toArray, List.getElem_cons_succ, List.getElem_cons_zero, Act.put, List.setIfInBounds_toArray, List.set_cons_zero, List.set_cons_succ])
        refine wpAnyH_take (i := 12) (v := ?vv12) rfl (by kernel_rfl) (by kernel_rfl) (by kernel_rfl) (fun _ _ _ h => h) (Or.inl ⟨by rfl, ?yv12⟩) (by assumption) ?rv12
        case yv12 => intro w hSw; (try dsimp only at hSw); go_simp <;> (try with_reducible rfl)
        (try simp only [List.getElem_toArray, List.getElem_cons_succ, List.getElem_cons_zero, Act.put, List.setIfInBounds_toArray, List.set_cons_zero, List.set_cons_succ])
        refine wpAnyH_take (i := 14) (v := ?vv14) rfl (by kernel_rfl) (by kernel_rfl) (by kernel_rfl) (fun _ _ _ h => h) (Or.inl ⟨by rfl, ?yv14⟩) (by assumption) ?rv14
        case yv14 => intro w hSw; (try dsimp only at hSw); go_simp <;> (try with_reducible rfl)
        (try simp only [List.getElem_toArray, List.getElem_cons_succ, List.getElem_cons_zero, Act.put, List.setIfInBounds_toArray, List.set_cons_zero, List.set_cons_succ])
        refine wpAnyH_ready (rs := [9]) (by kernel_rfl) (by simp) ?_
        refine AllReadyH.cons rfl (fun K hK => ?_) AllReadyH.nil
        go_simp
        refine hK.out _ _ hSd (fun hHeld => ?_)
        clear hK K hcd
        refine wpAnyH_take (i := 13) (v := ?vv13) rfl (by kernel_rfl) (by kernel_rfl) (by kernel_rfl) (fun _ _ _ h => h) (Or.inl ⟨by rfl, ?yv13⟩) (by assumption) ?rv13
        case yv13 => intro w hSw; (try dsimp only at hSw); go_simp <;> (try with_reducible rfl)
        (try simp only [List.getElem_toArray, List.getElem_cons_succ, List.getElem_cons_zero, Act.put, List.setIfInBounds_toArray, List.set_cons_zero, List.set_cons_succ])
        refine wpAnyH_take (i := 15) (v := ?vv15) rfl (by kernel_rfl) (by kernel_rfl) (by kernel_rfl) (fun _ _ _ h => h) (Or.inl ⟨by rfl, ?yv15⟩) (by assumption) ?rv15
        case yv15 => intro w hSw; (try dsimp only at hSw); go_simp <;> (try with_reducible rfl)
        (try simp only [List.getElem_toArray, List.getElem_cons_succ, List.getElem_cons_zero, Act.put, List.setIfInBounds_toArray, List.set_cons_zero, List.set_cons_succ])
        refine wpAnyH_ready (rs := [16]) (by kernel_rfl) (by simp) ?_
        refine AllReadyH.cons rfl (fun K hK => ?_) AllReadyH.nil
        rw [if_pos (by rfl)]
        refine wp_put 5 (.tmp 34) (.tmp 32) rfl gp (j * 128 + q) rfl (.int .u8 (y.toNat : Int)) rfl hd.p [B8 y] rfl (by exact Try.sz5) (by rw [List.length_append, HPL.out, hN.out, List.length_singleton]; omega) (one_cell1 rfl) ?_
        intro w7 hu7 hB7
        rw [HSPL.out] at hB7
        have ho7 : Only [gp] wd w7 := Only.of_upd hu7 (by simp)
        have hn1 := hd.n1
        have hn3 := hd.n3
        have h7 : PRep w7 gd gp gm cp Y (M.set j ⟨l.set q y, (M.page j).new⟩) k := by
          refine ⟨?_, ?_, (hd.m.only ho7 (by simpa using hn3.symm)).same HNW.out, hd.n1, hd.n2, hd.n3⟩
          · rw [HSL.out]; exact hd.d.only ho7 (by simpa using hn1)
          · rw [HIO.out]; exact hB7
        have ho8 := ho.trans ho7
        refine hK.out _ _ (by have := h7.d.cell (k := 0) rfl; rw [HSL.out, hN.out] at this; exact this) (fun hHeld => ?_)
        clear hK K hHeld
        refine wpAnyH_done (by kernel_rfl) ?_ _
        go_wp2
        go_ret
        exact ⟨rfl, h7, ho8⟩
      · have hfit : (M.okP i && decide (0 ≤ b ∧ b < 1024)) = false := by rw [hp]; exact decide_eq_false (fun h => hb1 h.2)
        obtain ⟨e1, e2⟩ := rot_bad hfit
        rw [e1, e2]
        have hge : 1024 ≤ b := by omega
        have HP := Lib.hid hp
        have HH := h
        clear e1 e2 hfit hp hb1 hM
        go_enter Try.func31, Try.ntmps31
        go_wp2_with fail
        (with_reducible refine (has_any gd gp gm k cp Y M _ true _ HP.out h).mono ?_)
        rintro e w' ⟨rfl, rfl⟩
        go_wp2
        go_ret
        exact ⟨rfl, HH, Only.refl _ _⟩
    · have hfit : (M.okP i && decide (0 ≤ b ∧ b < 1024)) = false := by rw [hp]; exact decide_eq_false (fun h => hb0 h.1)
      obtain ⟨e1, e2⟩ := rot_bad hfit
      rw [e1, e2]
      have hlt : b < 0 := by omega
      have HP := Lib.hid hp
      have HH := h
      clear e1 e2 hfit hp hb0 hM
      go_enter Try.func31, Try.ntmps31
      go_wp2_with fail
      (with_reducible refine (has_any gd gp gm k cp Y M _ true _ HP.out h).mono ?_)
      rintro e w' ⟨rfl, rfl⟩
      go_wp2
      go_ret
      exact ⟨rfl, HH, Only.refl _ _⟩
  · have hpf : M.okP i = false := by simpa using hp
    have hfit : (M.okP i && decide (0 ≤ b ∧ b < 1024)) = false := by rw [hpf]; rfl
    obtain ⟨e1, e2⟩ := rot_bad hfit
    rw [e1, e2]
    have HP := Lib.hid hpf
    have HH := h
    clear e1 e2 hfit hp hpf hM
    go_enter Try.func31, Try.ntmps31
    go_wp2_with fail
    (with_reducible refine (has_any gd gp gm k cp Y M _ false _ HP.out h).mono ?_)
    rintro e w' ⟨rfl, rfl⟩
    go_wp2
    go_ret
    exact ⟨rfl, HH, Only.refl _ _⟩
end Go.Proofs.Ytbmoedgokimhmaa
