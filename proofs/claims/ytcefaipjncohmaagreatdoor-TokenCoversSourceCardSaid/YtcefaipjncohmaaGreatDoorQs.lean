/-
  Contract of the walk over the laws' sanity. Conditions: the program's and the library's tables lie there.
-/
import Derived.Test.YtcefaipjncohmaaGreatDoorQr
namespace Go.Proofs.YtcefaipjncohmaaGreatDoor
set_option linter.unusedVariables false
set_option linter.unusedSimpArgs false
open Go.RowKit Go.Shelf

/-- The variables lie there. -/
structure QW (w : World) : Prop where
  tt : TT w
  db : DB w
  tab : Lib.TabIs Tryz.prog w "internal/strconv.uint64pow10" .u64 Lib.pow10Tab
  idx : ∃ m : Int, w.cell? ⟨Tryz.splitA_ren.g 1, 0, none⟩ = some (.int .i64 m)
theorem tab_next {n : String} {g : Nat} {k : IntKind} {zs : List Int} {w w' : World} (hg : Tryz.prog.globalNamed n = some g) (h : Lib.TabIs Tryz.prog w n k zs) (hb : Below w.heap.size w w') : Lib.TabIs Tryz.prog w' n k zs := by
  unfold Lib.TabIs World.var? at h ⊢
  rw [hg] at h ⊢
  simp only [Option.bind_some] at h ⊢
  have hlt : g < w.heap.size := by
    rcases Nat.lt_or_ge g w.heap.size with hl | hl
    · exact hl
    · rw [Array.getElem?_eq_none hl] at h; cases h
  rw [hb.block g hlt]; exact h
theorem QW.next {w w' : World} (h : QW w) (hb : Below w.heap.size w w') : QW w' := by
  obtain ⟨h1, h2, h3, m, hm⟩ := h
  exact ⟨h1.next hb, h2.next hb, tab_next (g := 5) (by kernel_rfl) h3 hb, m, cellf_below hb hm⟩
def TkB (w : World) (g : Nat) (l : List Tok) : Prop := ∀ k t, l[k]? = some t → ∀ j u, (tCells t)[j]? = some u → w.cell? ⟨g, k * 5 + j, none⟩ = some u
theorem TkB.next {w w' : World} {g : Nat} {l : List Tok} (h : TkB w g l) (hb : Below w.heap.size w w') : TkB w' g l := fun k t ht j u hu => cellf_below hb (h k t ht j u hu)
theorem TkB.at_ {w : World} {g : Nat} {l : List Tok} (h : TkB w g l) : TksAt w (some ⟨g, 0, none⟩) l := fun k t ht => ⟨g, 0, rfl, fun j u hu => by rw [Nat.zero_add]; exact h k t ht j u hu⟩
theorem tkB_own {w : World} {T n c : Nat} {A : Option Addr} {l : List Tok} (h : w.ownsRow T 30 5 (.slice A n c) n (flatT l)) (hn : 0 < n) : ∃ g, A = some ⟨g, 0, none⟩ ∧ T ≤ g ∧ g < w.heap.size ∧ n ≤ c ∧ TkB w g l := by
  rcases h.2 with ⟨_, h0⟩ | ⟨g, cap, cur, hv, hb, h3, hnc, _, hsz, htk⟩
  · omega
  · injection hv with hA _ hc
    subst hc
    refine ⟨g, hA, hb, (Array.getElem?_eq_some_iff.1 h3).1, hnc, fun k t ht j u hu => ?_⟩
    obtain ⟨g2, o2, e2, hc2⟩ := tks_own h k t ht
    rw [hA] at e2
    injection e2 with e2
    injection e2 with e3 e4
    subst e3 e4
    have := hc2 j u hu
    rw [Nat.zero_add] at this
    exact this
theorem Tryz.repX : Builder.Extra Tryz.prog Tryz.repeatA_ren where
  sizeBuilder := by kernel_rfl
  liesBuilder := by kernel_rfl
  t5 := by kernel_rfl
  a5 := run_isAgg_plain (by kernel_rfl : Tryz.prog.underlying (Tryz.repeatA_ren.t 5) = some (.int .u8)) rfl
  z5 := Tryz.splitA.z5
  v5 := Tryz.splitA.v5
  infoByte := by kernel_rfl
  cellsByte := by kernel_rfl
  sizeByte := by kernel_rfl
  neB5 := by decide
theorem repeat_any (n : Nat) (w : World) (hn : n ≤ 1000000) :
    Calls Tryz.prog 10 #[.string { data := #[35] }, .int .i64 (n : Int)] w fun e w' => e = .returned (.string ⟨(List.replicate n (35 : UInt8)).toArray⟩) ∧ Below w.heap.size w w' := by
  have h := Any.strings_Repeat Tryz.repeatA Tryz.repX { data := #[35] } n w (by omega) (by show 1 * n ≤ _; omega)
  refine Calls.mono h ?_
  rintro e w' ⟨rfl, hb⟩
  refine ⟨?_, hb⟩
  have e1 : Lib.repeatL (ByteArray.mk #[35]).data.toList n = List.replicate n 35 := by
    have := Lib.repeatL_replicate 35 1 n
    rw [Nat.mul_one] at this
    exact this
  rw [e1]
theorem toks_ex : toks [97, 32, 35, 32, 98, 10, 53, 46, 46, 57] false 0 1 1 = [⟨1, 0, [97], 1, 1⟩, ⟨3, 5, [53], 2, 1⟩, ⟨4, 0, [46, 46], 2, 2⟩, ⟨3, 9, [57], 2, 4⟩, ⟨6, 0, [], 2, 5⟩] := by decide +kernel
def exT : List Tok := [⟨1, 0, [97], 1, 1⟩, ⟨3, 5, [53], 2, 1⟩, ⟨4, 0, [46, 46], 2, 2⟩, ⟨3, 9, [57], 2, 4⟩, ⟨6, 0, [], 2, 5⟩]
theorem kd0_any (w : World) (hT : TT w) : Calls Tryz.prog 12 #[.string { data := #[112, 111, 114, 116, 32, 120, 95, 49, 32, 58, 61, 32, 48, 120, 49, 102] }] w fun e w' => e = .returned (.string { data := #[50, 49, 52, 51] }) ∧ Below w.heap.size w w' := by
  have h := kinds_any { data := #[112, 111, 114, 116, 32, 120, 95, 49, 32, 58, 61, 32, 48, 120, 49, 102] } (by decide) w hT
  rw [show kindsM ({ data := #[112, 111, 114, 116, 32, 120, 95, 49, 32, 58, 61, 32, 48, 120, 49, 102] } : ByteArray).data.toList = [50, 49, 52, 51] from by decide +kernel] at h
  exact h
theorem kd1_any (w : World) (hT : TT w) : Calls Tryz.prog 12 #[.string { data := #[48, 48, 55, 32, 120, 45, 62, 49, 32, 45, 32, 48, 120] }] w fun e w' => e = .returned (.string { data := #[53, 49, 52, 51, 53, 53] }) ∧ Below w.heap.size w w' := by
  have h := kinds_any { data := #[48, 48, 55, 32, 120, 45, 62, 49, 32, 45, 32, 48, 120] } (by decide) w hT
  rw [show kindsM ({ data := #[48, 48, 55, 32, 120, 45, 62, 49, 32, 45, 32, 48, 120] } : ByteArray).data.toList = [53, 49, 52, 51, 53, 53] from by decide +kernel] at h
  exact h
theorem kd2_any (w : World) (hT : TT w) : Calls Tryz.prog 12 #[.string { data := #[65] }] w fun e w' => e = .returned (.string { data := #[53] }) ∧ Below w.heap.size w w' := by
  have h := kinds_any { data := #[65] } (by decide) w hT
  rw [show kindsM ({ data := #[65] } : ByteArray).data.toList = [53] from by decide +kernel] at h
  exact h
theorem kd3_any (w : World) (hT : TT w) : Calls Tryz.prog 12 #[.string { data := #[97, 46, 46, 46, 98] }] w fun e w' => e = .returned (.string { data := #[49, 52, 52, 49] }) ∧ Below w.heap.size w w' := by
  have h := kinds_any { data := #[97, 46, 46, 46, 98] } (by decide) w hT
  rw [show kindsM ({ data := #[97, 46, 46, 46, 98] } : ByteArray).data.toList = [49, 52, 52, 49] from by decide +kernel] at h
  exact h
theorem hx0_any (w : World) (h : DB w) : Calls Tryz.prog 13 #[.int .i64 255] w fun e w' => e = .returned (.string { data := #[48, 120, 102, 102] }) ∧ Below w.heap.size w w' := by
  have h2 := hex_any 255 w h
  rw [show hexM 255 = [48, 120, 102, 102] from by decide +kernel] at h2
  exact h2
theorem hx1_any (w : World) (h : DB w) : Calls Tryz.prog 13 #[.int .i64 (-1)] w fun e w' => e = .returned (.string { data := #[] }) ∧ Below w.heap.size w w' := by
  have h2 := hex_any (-1) w h
  rw [show hexM (-1) = [] from by decide +kernel] at h2
  exact h2
theorem nm0_any (w : World) : Calls Tryz.prog 11 #[.string { data := #[48, 120, 48, 48, 102, 102] }] w fun e w' => e = .returned (.tuple #[.int .i64 255, .bool true]) ∧ Below w.heap.size w w' := by
  have h := number_any { data := #[48, 120, 48, 48, 102, 102] } w (by decide)
  rw [show numM ({ data := #[48, 120, 48, 48, 102, 102] } : ByteArray).data.toList = some 255 from by decide +kernel] at h
  exact h
theorem nm1_any (w : World) : Calls Tryz.prog 11 #[.string { data := #[48, 120, 49, 48, 48, 48, 48, 48, 48, 48, 48] }] w fun e w' => e = .returned (.tuple #[.int .i64 0, .bool false]) ∧ Below w.heap.size w w' := by
  have h := number_any { data := #[48, 120, 49, 48, 48, 48, 48, 48, 48, 48, 48] } w (by decide)
  rw [show numM ({ data := #[48, 120, 49, 48, 48, 48, 48, 48, 48, 48, 48] } : ByteArray).data.toList = none from by decide +kernel] at h
  exact h
theorem na0_any (w : World) (hT : TT w) : Calls Tryz.prog 16 #[.string { data := #[120, 95, 49] }] w fun e w' => e = .returned (.bool true) ∧ Below w.heap.size w w' := by
  have h := name_any { data := #[120, 95, 49] } (by decide) w hT
  rw [show nameM ({ data := #[120, 95, 49] } : ByteArray).data.toList = true from by decide +kernel] at h
  exact h
theorem na1_any (w : World) (hT : TT w) : Calls Tryz.prog 16 #[.string { data := #[112, 111, 114, 116] }] w fun e w' => e = .returned (.bool false) ∧ Below w.heap.size w w' := by
  have h := name_any { data := #[112, 111, 114, 116] } (by decide) w hT
  rw [show nameM ({ data := #[112, 111, 114, 116] } : ByteArray).data.toList = false from by decide +kernel] at h
  exact h
theorem ex_tokens (w : World) (hT : TT w) : Calls Tryz.prog 5 #[.string { data := #[97, 32, 35, 32, 98, 10, 53, 46, 46, 57] }] w fun e w' => (∃ g c, e = .returned (.tuple #[.slice (some ⟨g, 0, none⟩) 5 c, .int .i64 0]) ∧ TkB w' g exT) ∧ Below w.heap.size w w' := by
  have h := tokens_any { data := #[97, 32, 35, 32, 98, 10, 53, 46, 46, 57] } (by decide) w hT
  refine Calls.mono h ?_
  rintro e w' ⟨⟨A, c, rfl, Ow⟩, hb⟩
  rw [show ({ data := #[97, 32, 35, 32, 98, 10, 53, 46, 46, 57] } : ByteArray).data.toList = [97, 32, 35, 32, 98, 10, 53, 46, 46, 57] from rfl, toks_ex] at Ow ⊢
  obtain ⟨g, rfl, _, _, _, hB⟩ := tkB_own (l := exT) Ow (by decide)
  exact ⟨⟨g, c, rfl, hB⟩, hb⟩
theorem ex_big (w : World) : Calls Tryz.prog 5 #[.string ⟨(List.replicate 60001 (35 : UInt8)).toArray⟩] w fun e w' => e = .returned (.tuple #[.slice none 0 0, .int .i64 2]) ∧ Below w.heap.size w w' := by
  have h := tokens_big ⟨(List.replicate 60001 (35 : UInt8)).toArray⟩ (by rw [mk_size, List.length_replicate]; decide) w
  refine Calls.mono h ?_
  rintro e w' ⟨rfl, rfl⟩
  exact ⟨rfl, Below.refl _ _⟩
theorem ex_join (g c : Nat) (w : World) (h : TkB w g exT) : Calls Tryz.prog 15 #[.slice (some ⟨g, 0, none⟩) 5 c] w fun e w' => e = .returned (.string { data := #[97, 32, 53, 32, 46, 46, 32, 57] }) ∧ Below w.heap.size w w' := by
  have h2 := join_any (some ⟨g, 0, none⟩) c exT w (by decide) h.at_ (by decide +kernel)
  rw [show joinM exT = [97, 32, 53, 32, 46, 46, 32, 57] from by decide +kernel] at h2
  exact h2
set_option maxRecDepth 100000 in
set_option maxHeartbeats 6400000 in
theorem sanity_any (w : World) (hq : QW w) : Calls Tryz.prog 4 #[] w fun e w' => e = .returned (.bool true) ∧ Below w.heap.size w w' := by
  have HQ := Lib.hid hq
  have HBIG := fun w => ex_big w
  have HREP := fun w => repeat_any 60001 w (by decide)
  obtain ⟨Z, hZ⟩ : ∃ Z : ByteArray, (⟨(List.replicate 60001 (35 : UInt8)).toArray⟩ : ByteArray) = Z := ⟨_, rfl⟩
  rw [hZ] at HBIG HREP
  clear hZ hq
  have HREP : ∀ w, Calls Tryz.prog 10 #[.string { data := #[35] }, .int .i64 60001] w fun e w' => e = .returned (.string Z) ∧ Below w.heap.size w w' := HREP
  go_enter Tryz.func4, Tryz.ntmps4
  go_wp2_with fail
  (with_reducible refine (ex_tokens _ HQ.out.tt).mono ?_)
  rintro e w1 ⟨⟨g, c, rfl, hB⟩, hbe⟩
  have HB := Lib.hid hB
  clear hB
  go_wp2_with fail
  (with_reducible refine (HREP _).mono ?_)
  rintro e w2 ⟨rfl, hb2⟩
  have HB := Lib.hid (HB.out.next hb2)
  have hbe := below_join hbe hb2
  clear hb2
  go_wp2_with fail
  (with_reducible refine (HBIG _).mono ?_)
  rintro e w3 ⟨rfl, hb3⟩
  have HB := Lib.hid (HB.out.next hb3)
  have hbe := below_join hbe hb3
  clear hb3
  go_wp2_with fail
  (with_reducible refine (nm0_any _).mono ?_)
  rintro e w4 ⟨rfl, hb4⟩
  have HB := Lib.hid (HB.out.next hb4)
  have hbe := below_join hbe hb4
  clear hb4
  go_wp2_with fail
  (with_reducible refine (nm1_any _).mono ?_)
  rintro e w5 ⟨rfl, hb5⟩
  have HB := Lib.hid (HB.out.next hb5)
  have hbe := below_join hbe hb5
  clear hb5
  have c03 : w5.cell? ⟨g, 3, none⟩ = some (.int .i64 1) := HB.out 0 _ rfl 3 _ rfl
  have c04 : w5.cell? ⟨g, 4, none⟩ = some (.int .i64 1) := HB.out 0 _ rfl 4 _ rfl
  have c13 : w5.cell? ⟨g, 8, none⟩ = some (.int .i64 2) := HB.out 1 _ rfl 3 _ rfl
  have c14 : w5.cell? ⟨g, 9, none⟩ = some (.int .i64 1) := HB.out 1 _ rfl 4 _ rfl
  have c11 : w5.cell? ⟨g, 6, none⟩ = some (.int .i64 5) := HB.out 1 _ rfl 1 _ rfl
  have c22 : w5.cell? ⟨g, 12, none⟩ = some (.string { data := #[46, 46] }) := HB.out 2 _ rfl 2 _ rfl
  go_wp2_with fail
  (with_reducible refine (kd0_any _ (HQ.out.next hbe).tt).mono ?_)
  rintro e w6 ⟨rfl, hb6⟩
  clear c03 c04 c13 c14 c11 c22
  have HB := Lib.hid (HB.out.next hb6)
  have hbe := below_join hbe hb6
  clear hb6
  go_wp2_with fail
  (with_reducible refine (kd1_any _ (HQ.out.next hbe).tt).mono ?_)
  rintro e w7 ⟨rfl, hb7⟩
  have HB := Lib.hid (HB.out.next hb7)
  have hbe := below_join hbe hb7
  clear hb7
  go_wp2_with fail
  (with_reducible refine (kd2_any _ (HQ.out.next hbe).tt).mono ?_)
  rintro e w8 ⟨rfl, hb8⟩
  have HB := Lib.hid (HB.out.next hb8)
  have hbe := below_join hbe hb8
  clear hb8
  go_wp2_with fail
  (with_reducible refine (kd3_any _ (HQ.out.next hbe).tt).mono ?_)
  rintro e w9 ⟨rfl, hb9⟩
  have HB := Lib.hid (HB.out.next hb9)
  have hbe := below_join hbe hb9
  clear hb9
  go_wp2_with fail
  (with_reducible refine (hx0_any _ (HQ.out.next hbe).db).mono ?_)
  rintro e w10 ⟨rfl, hb10⟩
  have HB := Lib.hid (HB.out.next hb10)
  have hbe := below_join hbe hb10
  clear hb10
  go_wp2_with fail
  (with_reducible refine (hx1_any _ (HQ.out.next hbe).db).mono ?_)
  rintro e w11 ⟨rfl, hb11⟩
  have HB := Lib.hid (HB.out.next hb11)
  have hbe := below_join hbe hb11
  clear hb11
  go_wp2_with fail
  (with_reducible refine (words_any _ (HQ.out.next hbe).tt).mono ?_)
  rintro e w12 ⟨⟨gw, rfl, _⟩, hb12⟩
  have HB := Lib.hid (HB.out.next hb12)
  have hbe := below_join hbe hb12
  clear hb12
  go_wp2_with fail
  (with_reducible refine (ex_join g c _ HB.out).mono ?_)
  rintro e w13 ⟨rfl, hb13⟩
  have HB := Lib.hid (HB.out.next hb13)
  have hbe := below_join hbe hb13
  clear hb13
  go_wp2_with fail
  (with_reducible refine (na0_any _ (HQ.out.next hbe).tt).mono ?_)
  rintro e w14 ⟨rfl, hb14⟩
  have HB := Lib.hid (HB.out.next hb14)
  have hbe := below_join hbe hb14
  clear hb14
  go_wp2_with fail
  (with_reducible refine (na1_any _ (HQ.out.next hbe).tt).mono ?_)
  rintro e w15 ⟨rfl, hb15⟩
  have HB := Lib.hid (HB.out.next hb15)
  have hbe := below_join hbe hb15
  clear hb15
  go_wp2
  go_ret
  exact ⟨rfl, hbe⟩
end Go.Proofs.YtcefaipjncohmaaGreatDoor
