/-
  Contracts of the functions that the statement calls, part 19 of 37 (merged texts: Do5, Do6, Do7, Do8, Dl1). Conditions: as the head of each part says.
-/
import Derived.Test.YthgmlopkcgkjlaaGQ
import Derived.Test.YthgmlopkcgkjlaaGR
import Derived.Shelf.Strings.Repeat

/-
  Contract of the walk over the law package's zeros, by the library's contract of strings.Repeat. Conditions: none.
-/
namespace Go.Proofs.Ythgmlopkcgkjlaa
open Go.RowKit Go.Shelf

theorem Try.repeatX : Builder.Extra Try.prog Try.repeatA_ren where
  sizeBuilder := by kernel_rfl
  liesBuilder := by kernel_rfl
  t5 := Try.repeatA.t5
  a5 := Try.repeatA.a5
  z5 := Try.repeatA.z5
  v5 := Try.repeatA.v5
  infoByte := by kernel_rfl
  cellsByte := by kernel_rfl
  sizeByte := by kernel_rfl
  neB5 := by decide
theorem repeat_any (n : Nat) (zz : ByteArray) (w : World) (hn : n ≤ 1000000) (hz : (⟨(List.replicate n (0 : UInt8)).toArray⟩ : ByteArray) = zz) :
    Calls Try.prog 83 #[.string { data := #[0] }, .int .i64 (n : Int)] w fun e w' => e = .returned (.string zz) ∧ Below w.heap.size w w' := by
  have h := Any.strings_Repeat Try.repeatA Try.repeatX { data := #[0] } n w (by omega) (by show 1 * n ≤ _; omega)
  refine Calls.mono h ?_
  rintro e w' ⟨rfl, hb⟩
  refine ⟨?_, hb⟩
  have e1 : Lib.repeatL (ByteArray.mk #[0]).data.toList n = List.replicate n 0 := by
    have := Lib.repeatL_replicate 0 1 n
    rw [Nat.mul_one] at this
    exact this
  rw [e1, hz]
theorem zeros_any (n : Nat) (zz : ByteArray) (w : World) (hn : n ≤ 1000000) (hz : (⟨(List.replicate n (0 : UInt8)).toArray⟩ : ByteArray) = zz) :
    Calls Try.prog 54 #[.int .i64 (n : Int)] w fun e w' => e = .returned (.string zz) ∧ Below w.heap.size w w' := by
  have HZ := Lib.hid hz
  clear hz
  go_enter Try.func54, Try.ntmps54
  go_wp2_with fail
  (with_reducible refine (repeat_any n zz _ hn HZ.out).mono ?_)
  rintro e w1 ⟨rfl, hb⟩
  go_wp2
  go_ret
  exact ⟨rfl, hb⟩
end Go.Proofs.Ythgmlopkcgkjlaa

/-
  What the disks of the laws' sanity hold, by evaluation. Conditions: none.
-/
namespace Go.Proofs.Ythgmlopkcgkjlaa
open Go.RowKit

abbrev tABC : ByteArray := { data := #[97, 98, 99] }
abbrev tX : ByteArray := { data := #[120] }
abbrev tE : ByteArray := { data := #[] }
def sdA : DM := DM.make 2
def sdB : DM := sdA.write 0 1 tABC.data.toList
def sdC : DM := sdB.mount [3]
def sdD : DM := sdC.write 1 127 tX.data.toList
def sdE : DM := sdD.flush
def sdF : DM := sdE.rot 1 1016
def sdG : DM := sdF.tripTo 1
def sdH : DM := sdG.write 0 0 tE.data.toList
def sdI : DM := sdH.flush
def zN (n : Nat) : ByteArray := ⟨(List.replicate n (0 : UInt8)).toArray⟩
theorem sd_ok : sdA.ok ∧ sdB.ok ∧ sdC.ok ∧ sdD.ok ∧ sdE.ok ∧ sdF.ok ∧ sdG.ok ∧ sdH.ok ∧ sdI.ok := by
  have a : sdA.ok := DM.make_ok (by omega)
  have b : sdB.ok := DM.write_ok a _ _ _
  have c : sdC.ok := DM.mount_ok b _
  have d : sdD.ok := DM.write_ok c _ _ _
  have e : sdE.ok := DM.flush_ok d
  have f : sdF.ok := DM.rot_ok e _ _
  have g : sdG.ok := DM.tripTo_ok f ⟨by omega, by omega⟩
  have h : sdH.ok := DM.write_ok g _ _ _
  exact ⟨a, b, c, d, e, f, g, h, DM.flush_ok h⟩
theorem sd_len : sdA.ps.length = 2 ∧ sdB.ps.length = 2 ∧ sdI.ps.length = 2 := by
  have a : sdA.ps.length = 2 := rfl
  have b : sdB.ps.length = 2 := (DM.write_len sdA 0 1 _).trans a
  refine ⟨a, b, ?_⟩
  unfold sdI sdH sdG sdF sdE sdD sdC
  rw [DM.flush_len, DM.write_len, show ∀ (M : DM) n, (M.tripTo n).ps.length = M.ps.length from fun _ _ => rfl, DM.rot_len, DM.flush_len, DM.write_len, DM.mount_len, b]
theorem ev_w1 : sdA.writeE 0 1 tABC.data.toList = 0 := by decide +kernel
theorem ev_r1 : sdB.readE 0 = 0 := by decide +kernel
theorem ev_s1 : ({ data := #[0, 97, 98, 99] } : ByteArray) ++ zN 124 = (⟨(sdB.readS 0).toArray⟩ : ByteArray) := by kernel_rfl
theorem ev_im : sdB.image = [List.replicate 128 0, List.replicate 128 0] := by decide +kernel
theorem ev_pe : sdB.pending = [0] := by decide +kernel
theorem ev_r2 : sdC.readE 0 = 0 := by decide +kernel
theorem ev_s2 : ({ data := #[0, 97, 98] } : ByteArray) ++ zN 125 = (⟨(sdC.readS 0).toArray⟩ : ByteArray) := by kernel_rfl
theorem ev_w2 : sdC.writeE 1 127 tX.data.toList = 0 := by decide +kernel
theorem ev_f1 : sdD.flushE = 0 := by decide +kernel
theorem ev_o1 : sdE.rotE 1 1016 = 0 := by decide +kernel
theorem ev_r3 : sdF.readE 1 = 0 := by decide +kernel
theorem ev_s3 : zN 127 ++ ({ data := #[121] } : ByteArray) = (⟨(sdF.readS 1).toArray⟩ : ByteArray) := by kernel_rfl
theorem ev_w3 : sdG.writeE 0 0 tE.data.toList = 0 := by decide +kernel
theorem ev_f2 : sdH.flushE = 13 := by decide +kernel
theorem ev_r4 : sdI.readE 0 = 13 := by decide +kernel
theorem ev_up : sdI.up = false := by decide +kernel
theorem ev_o2 : sdI.rotE 0 1024 = 1 ∧ sdI.rot 0 1024 = sdI := rot_bad (by decide +kernel)
theorem ev_zs (n : Nat) : (zN n).size = n := by unfold zN; rw [str_size, List.length_replicate]
end Go.Proofs.Ythgmlopkcgkjlaa

/-
  Contract of the walk over the law package's sanity: it returns true. Conditions: none.
-/
namespace Go.Proofs.Ythgmlopkcgkjlaa
open Go.RowKit

theorem read_str (gd gp gm k cp : Nat) (Y : List Value) (M : DM) (i : Int) (sR : ByteArray) (e : Int) (w : World) (hM : M.ok) (hs : (⟨(M.readS i).toArray⟩ : ByteArray) = sR) (he : M.readE i = e) (h : PRep w gd gp gm cp Y M k) :
    Calls Try.prog 23 #[.pointer (some ⟨gd, 0, none⟩), .int .i64 i] w fun x w' => x = .returned (.tuple #[.string sR, .int .i64 e]) ∧ Below w.heap.size w w' := by
  rw [← hs]
  exact read_any gd gp gm k cp Y M i _ e w hM rfl he h
theorem new_2 (w : World) :
    Calls Try.prog 16 #[.int .i64 2] w fun e w' => ∃ gd gp gm, e = .returned (.tuple #[.pointer (some ⟨gd, 0, none⟩), .int .i64 0]) ∧ PRep w' gd gp gm 2 [] sdA 0 ∧ Below w.heap.size w w' ∧ w.heap.size ≤ gd ∧ w.heap.size ≤ gp ∧ w.heap.size ≤ gm := new_any 2 w (by omega) (by omega)
theorem zeros_124 (zz : ByteArray) (w : World) (hz : Hid (zN 124 = zz)) : Calls Try.prog 54 #[.int .i64 124] w fun e w' => e = .returned (.string zz) ∧ Below w.heap.size w w' := zeros_any 124 zz w (by omega) hz.out
theorem zeros_125 (zz : ByteArray) (w : World) (hz : Hid (zN 125 = zz)) : Calls Try.prog 54 #[.int .i64 125] w fun e w' => e = .returned (.string zz) ∧ Below w.heap.size w w' := zeros_any 125 zz w (by omega) hz.out
theorem zeros_127 (zz : ByteArray) (w : World) (hz : Hid (zN 127 = zz)) : Calls Try.prog 54 #[.int .i64 127] w fun e w' => e = .returned (.string zz) ∧ Below w.heap.size w w' := zeros_any 127 zz w (by omega) hz.out
theorem zeros_128 (zz : ByteArray) (w : World) (hz : Hid (zN 128 = zz)) : Calls Try.prog 54 #[.int .i64 128] w fun e w' => e = .returned (.string zz) ∧ Below w.heap.size w w' := zeros_any 128 zz w (by omega) hz.out
theorem sameInts_0 (A B : Option Addr) (ca cb : Nat) (w : World) (hA : RowAt w A [.int .i64 0]) (hB : RowAt w B [.int .i64 0]) :
    Calls Try.prog 32 #[.slice A 1 ca, .slice B 1 cb] w fun e w' => e = .returned (.bool true) ∧ Below w.heap.size w w' := sameInts_eq A B ca cb [0] w (by decide) hA hB
theorem alloc_blk (w : World) (cs : List Value) (t : TypeId) : Blk (w.alloc (.cells cs.toArray t)) w.heap.size t cs := blk_new w t cs
theorem blk_pk {w : World} {g : Nat} {t : TypeId} {x : Int} (h : Blk w g t [.int .i64 x]) : PkAt w (some ⟨g, 0, none⟩) [x] := fun k u hu => by
  refine ⟨_, rfl, ?_⟩
  rw [addr_mid, Nat.zero_add]
  refine h.cell ?_
  match k, hu with
  | 0, hu => injection hu with hu; rw [← hu]; rfl
theorem mount_1 (gd gp gm k cp : Nat) (Y : List Value) (M : DM) (A : Option Addr) (pc : Nat) (x : Int) (w : World) (hM : M.ok) (h : PRep w gd gp gm cp Y M k) (hpk : ∀ w', Only [gd, gp, gm] w w' → PkAt w' A [x]) :
    Calls Try.prog 27 #[.pointer (some ⟨gd, 0, none⟩), .slice A 1 pc] w fun x' w' => x' = .returned (.tuple #[]) ∧ PRep w' gd gp gm cp Y (M.mount [x]) k ∧ Only [gd, gp, gm] w w' := mount_any gd gp gm k cp Y M A pc [x] w hM h (by rw [List.length_singleton]; omega) hpk
set_option maxRecDepth 100000 in
set_option maxHeartbeats 3200000 in
theorem sanity_walk (mB mC mD mE mF mG mH mI : DM) (sR tR vR z124 z125 z127 z128 : ByteArray) (w : World)
    (oA : Hid sdA.ok) (oB : Hid mB.ok) (oC : Hid mC.ok) (oD : Hid mD.ok) (oE : Hid mE.ok) (oF : Hid mF.ok) (oG : Hid mG.ok) (oH : Hid mH.ok) (oI : Hid mI.ok)
    (dB : Hid (sdA.write 0 1 tABC.data.toList = mB)) (dC : Hid (mB.mount [3] = mC)) (dD : Hid (mC.write 1 127 tX.data.toList = mD)) (dE : Hid (mD.flush = mE)) (dF : Hid (mE.rot 1 1016 = mF)) (dG : Hid (mF.tripTo 1 = mG)) (dH : Hid (mG.write 0 0 tE.data.toList = mH)) (dI : Hid (mH.flush = mI))
    (w1 : Hid (sdA.writeE 0 1 tABC.data.toList = 0)) (r1 : Hid (mB.readE 0 = 0)) (s1 : Hid ((⟨(mB.readS 0).toArray⟩ : ByteArray) = sR)) (im : Hid (mB.image.map S8 = [.string z128, .string z128])) (pl : Hid (mB.pending.length = 1)) (pz : Hid ((pendZ mB).map (Value.int .i64) = [.int .i64 0]))
    (r2 : Hid (mC.readE 0 = 0)) (s2 : Hid ((⟨(mC.readS 0).toArray⟩ : ByteArray) = tR)) (w2 : Hid (mC.writeE 1 127 tX.data.toList = 0)) (f1 : Hid (mD.flushE = 0)) (o1 : Hid (mE.rotE 1 1016 = 0)) (r3 : Hid (mF.readE 1 = 0)) (s3 : Hid ((⟨(mF.readS 1).toArray⟩ : ByteArray) = vR))
    (w3 : Hid (mG.writeE 0 0 tE.data.toList = 0)) (f2 : Hid (mH.flushE = 13)) (r4 : Hid (mI.readE 0 = 13)) (s4 : Hid ((⟨(mI.readS 0).toArray⟩ : ByteArray) = tE)) (up : Hid (mI.up = false)) (o2 : Hid (mI.rotE 0 1024 = 1)) (len : Hid (mB.ps.length = 2)) (lenI : Hid (mI.ps.length = 2))
    (y124 : Hid (zN 124 = z124)) (y125 : Hid (zN 125 = z125)) (y127 : Hid (zN 127 = z127)) (y128 : Hid (zN 128 = z128))
    (e1 : ({ data := #[0, 97, 98, 99] } : ByteArray) ++ z124 = sR) (e2 : ({ data := #[0, 97, 98] } : ByteArray) ++ z125 = tR) (e3 : z127 ++ ({ data := #[121] } : ByteArray) = vR)
    (q1 : ¬ (9223372036854775807 < 4 + z124.size)) (q2 : ¬ (9223372036854775807 < 3 + z125.size)) (q3 : ¬ (9223372036854775807 < z127.size + 1)) :
    Calls Try.prog 15 #[] w fun e w' => e = .returned (.bool true) ∧ Below w.heap.size w w' := by
  go_enter Try.func15, Try.ntmps15
  go_wp2_with fail
  (with_reducible refine (new_2 _).mono ?_)
  rintro e v1 ⟨gd, gp, gm, rfl, h1, b1, g1, g2, g3⟩
  go_wp2_with fail
  (with_reducible refine (new_bad 0 _ (Or.inl (by omega))).mono ?_)
  rintro e v2 ⟨rfl, rfl⟩
  obtain ⟨n0, hn0⟩ : ∃ n0, Hid (w.heap.size = n0) := ⟨_, rfl⟩
  have hsz1 : n0 ≤ v1.heap.size := by rw [← hn0.out]; exact b1.size
  have big : Hid (∀ q ∈ [gd, gp, gm], n0 ≤ q) := by
    have : ∀ q ∈ [gd, gp, gm], n0 ≤ q := by
      intro q hq
      simp only [List.mem_cons, List.not_mem_nil, or_false] at hq
      rw [← hn0.out]
      rcases hq with rfl | rfl | rfl <;> assumption
    exact this
  have B1 : Hid (Below n0 w v1) := by rw [← hn0.out]; exact b1
  have L1 : Hid (gd < v1.heap.size ∧ gp < v1.heap.size ∧ gm < v1.heap.size) := ⟨h1.d.lt, h1.p.lt, h1.m.lt⟩
  clear b1 g1 g2 g3
  go_wp2_with fail
  (with_reducible refine (write_any gd gp gm 0 2 [] sdA 0 1 tABC _ oA.out (by decide) (by omega) h1).mono ?_)
  rintro e v2 ⟨rfl, h2, ho2⟩
  rw [dB.out] at h2
  rw [w1.out]
  have B2 : Hid (Below n0 w v2) := below_only B1.out (ho2.mono (by simp)) big.out hsz1
  have hsz2 : n0 ≤ v2.heap.size := Nat.le_trans hsz1 ho2.size
  clear h1 ho2 hsz1
  go_wp2_with fail
  (with_reducible refine (read_str gd gp gm 1 2 [] mB 0 sR 0 _ oB.out s1.out r1.out h2).mono ?_)
  rintro e v3 ⟨rfl, b3⟩
  have h3 := h2.next b3
  have B3 : Hid (Below n0 w v3) := B2.out.trans (b3.mono hsz2)
  have hsz3 : n0 ≤ v3.heap.size := Nat.le_trans hsz2 b3.size
  clear h2 b3 hsz2
  go_wp2_with fail
  (with_reducible refine (image_any gd gp gm 1 2 [] mB _ oB.out h3).mono ?_)
  rintro e v4 ⟨gi, rfl, i4, b4, hgi⟩
  rw [im.out] at i4
  rw [len.out]
  have h4 := h3.next b4
  have B4 : Hid (Below n0 w v4) := B3.out.trans (b4.mono hsz3)
  have hsz4 : n0 ≤ v4.heap.size := Nat.le_trans hsz3 b4.size
  have NI : Hid (gi ∉ [gd, gp, gm]) := by
    have : gi ∉ [gd, gp, gm] := by
      have h1 := h3.d.lt
      have h2 := h3.p.lt
      have h3 := h3.m.lt
      simp only [List.mem_cons, List.not_mem_nil, or_false]; omega
    exact this
  clear h3 b4 hsz3 hgi
  go_wp2_with fail
  (with_reducible refine (pending_any gd gp gm 1 2 [] mB _ oB.out h4).mono ?_)
  rintro e v5 ⟨v, rfl, row5, _, b5⟩
  have row5' : v5.ownsRow v4.heap.size 3 1 v mB.pending.length ((pendZ mB).map (Value.int .i64)) := row5
  rw [pl.out, pz.out] at row5'
  obtain ⟨A5, c5, rfl⟩ := own_shape row5'
  have h5 := h4.next b5
  have i5 := i4.next b5 i4.lt
  have B5 : Hid (Below n0 w v5) := B4.out.trans (b5.mono hsz4)
  have hsz5 : n0 ≤ v5.heap.size := Nat.le_trans hsz4 b5.size
  have R5 : Hid (∀ w', Only [gd, gp, gm] v5 w' → RowAt w' A5 [.int .i64 0]) := by
    have : ∀ w', Only [gd, gp, gm] v5 w' → RowAt w' A5 [.int .i64 0] := fun w' ho => RowAt.of_own (own_only row5' ho (by
      have h1 := h4.d.lt
      have h2 := h4.p.lt
      have h3 := h4.m.lt
      intro q hq
      simp only [List.mem_cons, List.not_mem_nil, or_false] at hq
      rcases hq with rfl | rfl | rfl <;> assumption))
    exact this
  clear h4 i4 b5 hsz4 row5 row5'
  go_wp2_with fail
  (with_reducible refine (clone_any gd gp gm 1 2 [] mB _ oB.out (by rw [len.out]; omega) h5).mono ?_)
  rintro e v6 ⟨cd, cgp, cgm, ccp, cY, rfl, c6, b6, k1, k2, k3⟩
  have h6 := h5.next b6
  have i6 := i5.next b6 i5.lt
  have B6 : Hid (Below n0 w v6) := B5.out.trans (b6.mono hsz5)
  have hsz6 : n0 ≤ v6.heap.size := Nat.le_trans hsz5 b6.size
  have O6 : Hid (Only [gd, gp, gm] v5 v6) := Only.of_below b6
  have N6 : Hid (cd ∉ [gd, gp, gm] ∧ cgp ∉ [gd, gp, gm] ∧ cgm ∉ [gd, gp, gm]) := by
    have : cd ∉ [gd, gp, gm] ∧ cgp ∉ [gd, gp, gm] ∧ cgm ∉ [gd, gp, gm] := by
      have h1 := h5.d.lt
      have h2 := h5.p.lt
      have h3 := h5.m.lt
      simp only [List.mem_cons, List.not_mem_nil, or_false]; omega
    exact this
  clear h5 i5 b6 hsz5 k1 k2 k3
  go_wp2_with fail
  obtain ⟨v7, hv7⟩ : ∃ v7, Hid (v7 = v6.alloc (.cells #[Value.int .i64 3] 3)) := ⟨_, rfl⟩
  have b7 : Below v6.heap.size v6 v7 := by rw [hv7.out]; exact below_new v6 _
  have p7 : Blk v7 v6.heap.size 3 [.int .i64 3] := by rw [hv7.out]; exact alloc_blk v6 [.int .i64 3] 3
  rw [← hv7.out]
  have h7 := h6.next b7
  have i7 := i6.next b7 i6.lt
  have c7 := c6.next b7
  have B7 : Hid (Below n0 w v7) := B6.out.trans (b7.mono hsz6)
  have hsz7 : n0 ≤ v7.heap.size := Nat.le_trans hsz6 b7.size
  have O7 : Hid (Only [gd, gp, gm] v5 v7) := O6.out.trans (Only.of_below b7)
  have P7 : Hid (∀ w', Only [gd, gp, gm] v7 w' → PkAt w' (some ⟨v6.heap.size, 0, none⟩) [3]) := by
    have : ∀ w', Only [gd, gp, gm] v7 w' → PkAt w' (some ⟨v6.heap.size, 0, none⟩) [3] := fun w' ho => blk_pk (p7.only ho (by
      have h1 := h6.d.lt
      have h2 := h6.p.lt
      have h3 := h6.m.lt
      simp only [List.mem_cons, List.not_mem_nil, or_false]; omega))
    exact this
  clear h6 i6 c6 b7 hsz6 p7 hv7
  (with_reducible refine (mount_1 gd gp gm 1 2 [] mB _ _ 3 _ oB.out h7 P7.out).mono ?_)
  rintro e v8 ⟨rfl, h8, ho8⟩
  rw [dC.out] at h8
  have i8 := i7.only ho8 NI.out
  have c8 := c7.only ho8 N6.out.1 N6.out.2.1 N6.out.2.2
  have B8 : Hid (Below n0 w v8) := below_only B7.out ho8 big.out hsz7
  have hsz8 : n0 ≤ v8.heap.size := Nat.le_trans hsz7 ho8.size
  have O8 : Hid (Only [gd, gp, gm] v5 v8) := O7.out.trans ho8
  clear h7 i7 c7 hsz7 ho8
  go_wp2_with fail
  (with_reducible refine (read_str gd gp gm 1 2 [] mC 0 tR 0 _ oC.out s2.out r2.out h8).mono ?_)
  rintro e v9 ⟨rfl, b9⟩
  have h9 := h8.next b9
  have i9 := i8.next b9 i8.lt
  have c9 := c8.next b9
  have B9 : Hid (Below n0 w v9) := B8.out.trans (b9.mono hsz8)
  have hsz9 : n0 ≤ v9.heap.size := Nat.le_trans hsz8 b9.size
  have O9 : Hid (Only [gd, gp, gm] v5 v9) := O8.out.trans (Only.of_below b9)
  clear h8 i8 c8 b9 hsz8
  have hdd := below_drew v9
  have hA := h9.next hdd
  have iA := i9.next hdd i9.lt
  have cA := c9.next hdd
  have BA : Hid (Below n0 w v9.drew) := B9.out.trans (hdd.mono hsz9)
  have hszA : n0 ≤ v9.drew.heap.size := Nat.le_trans hsz9 hdd.size
  have RA : Hid (RowAt v9.drew A5 [.int .i64 0]) := (R5.out _ O9.out).next hdd
  have hSd := iA.cell (k := 0) rfl
  clear h9 i9 c9 hsz9 O9
  go_wp2
  refine wp_region_held_drew (S := fun w' => w'.cell? ⟨gi, 0, none⟩ = some (.string z128)) (by kernel_rfl) hSd (fun hHeld => ?_)
  generalize v9.drew = vA at hA iA cA BA hszA RA hSd hHeld ⊢
  clear hSd hdd
  refine wpAnyH_take (i := 0) (v := ?vv0) rfl (by kernel_rfl) (by kernel_rfl) (by kernel_rfl) (fun _ _ _ h => h) (Or.inl ⟨by rfl, ?yv0⟩) (by assumption) ?rv0
  case yv0 => intro w hSw; (try dsimp only at hSw); go_simp <;> (try with_reducible rfl)
  (try simp only [List.getElem_toArray, List.getElem_cons_zero, Act.put, List.setIfInBounds_toArray, List.set_cons_zero, List.set_cons_succ])
  refine wpAnyH_take (i := 1) (v := ?vv1) rfl (by kernel_rfl) (by kernel_rfl) (by kernel_rfl) (fun _ _ _ h => h) (Or.inl ⟨by rfl, ?yv1⟩) (by assumption) ?rv1
  case yv1 => intro w hSw; (try dsimp only at hSw); go_simp <;> (try with_reducible rfl)
  (try simp only [List.getElem_toArray, List.getElem_cons_succ, List.getElem_cons_zero, Act.put, List.setIfInBounds_toArray, List.set_cons_zero, List.set_cons_succ])
  refine wpAnyH_take (i := 2) (v := ?vv2) rfl (by kernel_rfl) (by kernel_rfl) (by kernel_rfl) (fun _ _ _ h => h) (Or.inl ⟨by rfl, ?yv2⟩) (by assumption) ?rv2
  case yv2 => intro w hSw; (try dsimp only at hSw); go_simp <;> (try with_reducible rfl)
  (try simp only [List.getElem_toArray, List.getElem_cons_succ, List.getElem_cons_zero, Act.put, List.setIfInBounds_toArray, List.set_cons_zero, List.set_cons_succ])
  refine wpAnyH_take (i := 3) (v := ?vv3) rfl (by kernel_rfl) (by kernel_rfl) (by kernel_rfl) (fun _ _ _ h => h) (Or.inl ⟨by rfl, ?yv3⟩) (by assumption) ?rv3
  case yv3 => intro w hSw; (try dsimp only at hSw); go_simp <;> (try with_reducible rfl)
  (try simp only [List.getElem_toArray, List.getElem_cons_succ, List.getElem_cons_zero, Act.put, List.setIfInBounds_toArray, List.set_cons_zero, List.set_cons_succ])
  refine wpAnyH_take (i := 4) (v := ?vv4) rfl (by kernel_rfl) (by kernel_rfl) (by kernel_rfl) (fun _ _ _ h => h) (Or.inl ⟨by rfl, ?yv4⟩) (by assumption) ?rv4
  case yv4 => intro w hSw; (try dsimp only at hSw); go_simp <;> (try with_reducible rfl)
  (try simp only [List.getElem_toArray, List.getElem_cons_succ, List.getElem_cons_zero, Act.put, List.setIfInBounds_toArray, List.set_cons_zero, List.set_cons_succ])
  refine wpAnyH_take (i := 5) (v := ?vv5) rfl (by kernel_rfl) (by kernel_rfl) (by kernel_rfl) (fun _ _ _ h => h) (Or.inl ⟨by rfl, ?yv5⟩) (by assumption) ?rv5
  case yv5 => intro w hSw; (try dsimp only at hSw); go_simp <;> (try with_reducible rfl)
  (try simp only [List.getElem_toArray, List.getElem_cons_succ, List.getElem_cons_zero, Act.put, List.setIfInBounds_toArray, List.set_cons_zero, List.set_cons_succ])
  refine wpAnyH_take (i := 6) (v := ?vv6) rfl (by kernel_rfl) (by kernel_rfl) (by kernel_rfl) (fun _ _ _ h => h) (Or.inl ⟨by rfl, ?yv6⟩) (by assumption) ?rv6
  case yv6 => intro w hSw; (try dsimp only at hSw); go_simp <;> (try with_reducible rfl)
  (try simp only [List.getElem_toArray, List.getElem_cons_succ, List.getElem_cons_zero, Act.put, List.setIfInBounds_toArray, List.set_cons_zero, List.set_cons_succ])
  refine wpAnyH_take (i := 7) (v := ?vv7) rfl (by kernel_rfl) (by kernel_rfl) (by kernel_rfl) (fun _ _ _ h => h) (Or.inl ⟨by rfl, ?yv7⟩) (by assumption) ?rv7
  case yv7 => intro w hSw; (try dsimp only at hSw); go_simp <;> (try with_reducible rfl)
  (try simp only [List.getElem_toArray, List.getElem_cons_succ, List.getElem_cons_zero, Act.put, List.setIfInBounds_toArray, List.set_cons_zero, List.set_cons_succ])
  refine wpAnyH_ready (rs := [8]) (by kernel_rfl) (by simp) ?_
  refine AllReadyH.cons rfl (fun K hK => ?_) AllReadyH.nil
  go_simp
  go_wp2_with fail
  (with_reducible refine (zeros_124 z124 _ y124).mono ?_)
  rintro e vB ⟨rfl, bB⟩
  have hB := hA.next bB
  have iB := iA.next bB iA.lt
  have cB := cA.next bB
  have BB : Hid (Below n0 w vB) := BA.out.trans (bB.mono hszA)
  have hszB : n0 ≤ vB.heap.size := Nat.le_trans hszA bB.size
  have RB : Hid (RowAt vB A5 [.int .i64 0]) := RA.out.next bB
  refine hK.out _ _ (iB.cell (k := 0) rfl) (fun hHeld => ?_)
  clear hK K hA iA cA bB hszA
  refine wpAnyH_take (i := 9) (v := ?vv9) rfl (by kernel_rfl) (by kernel_rfl) (by kernel_rfl) (fun _ _ _ h => h) (Or.inl ⟨by rfl, ?yv9⟩) (by assumption) ?rv9
  case yv9 => intro w hSw; (try dsimp only at hSw); go_simp <;> (try with_reducible rfl)
  (try simp only [List.getElem_toArray, List.getElem_cons_succ, List.getElem_cons_zero, Act.put, List.setIfInBounds_toArray, List.set_cons_zero, List.set_cons_succ])
  refine wpAnyH_take (i := 10) (v := ?vv10) rfl (by kernel_rfl) (by kernel_rfl) (by kernel_rfl) (fun _ _ _ h => h) (Or.inl ⟨by rfl, ?yv10⟩) (by assumption) ?rv10
  case yv10 => intro w hSw; (try dsimp only at hSw); go_simp <;> (try with_reducible rfl)
  (try simp only [List.getElem_toArray, List.getElem_cons_succ, List.getElem_cons_zero, Act.put, List.setIfInBounds_toArray, List.set_cons_zero, List.set_cons_succ])
  refine wpAnyH_take (i := 11) (v := ?vv11) rfl (by kernel_rfl) (by kernel_rfl) (by kernel_rfl) (fun _ _ _ h => h) (Or.inl ⟨by rfl, ?yv11⟩) (by assumption) ?rv11
  case yv11 => intro w hSw; (try dsimp only at hSw); go_simp <;> (try with_reducible rfl)
  (try simp only [List.getElem_toArray, List.getElem_cons_succ, List.getElem_cons_zero, Act.put, List.setIfInBounds_toArray, List.set_cons_zero, List.set_cons_succ])
  refine wpAnyH_take (i := 12) (v := ?vv12) rfl (by kernel_rfl) (by kernel_rfl) (by kernel_rfl) (fun _ _ _ h => h) (Or.inl ⟨by rfl, ?yv12⟩) (by assumption) ?rv12
  case yv12 => intro w hSw; (try dsimp only at hSw); go_simp <;> (try with_reducible rfl)
  (try simp only [List.getElem_toArray, List.getElem_cons_succ, List.getElem_cons_zero, Act.put, List.setIfInBounds_toArray, List.set_cons_zero, List.set_cons_succ])
  refine wpAnyH_take (i := 13) (v := ?vv13) rfl (by kernel_rfl) (by kernel_rfl) (by kernel_rfl) (fun _ _ _ h => h) (Or.inl ⟨by rfl, ?yv13⟩) (by assumption) ?rv13
  case yv13 => intro w hSw; (try dsimp only at hSw); go_simp <;> (try with_reducible rfl)
  (try simp only [List.getElem_toArray, List.getElem_cons_succ, List.getElem_cons_zero, Act.put, List.setIfInBounds_toArray, List.set_cons_zero, List.set_cons_succ])
  refine wpAnyH_take (i := 14) (v := ?vv14) rfl (by kernel_rfl) (by kernel_rfl) (by kernel_rfl) (fun _ _ _ h => h) (Or.inl ⟨by rfl, ?yv14⟩) (by assumption) ?rv14
  case yv14 => intro w hSw; (try dsimp only at hSw); go_simp <;> (try with_reducible rfl)
  (try simp only [List.getElem_toArray, List.getElem_cons_succ, List.getElem_cons_zero, Act.put, List.setIfInBounds_toArray, List.set_cons_zero, List.set_cons_succ])
  refine wpAnyH_take (i := 15) (v := ?vv15) rfl (by kernel_rfl) (by kernel_rfl) (by kernel_rfl) (fun _ _ _ h => h) (Or.inl ⟨by rfl, ?yv15⟩) (by assumption) ?rv15
  case yv15 => intro w hSw; (try dsimp only at hSw); go_simp <;> (try with_reducible rfl)
  (try simp only [List.getElem_toArray, List.getElem_cons_succ, List.getElem_cons_zero, Act.put, List.setIfInBounds_toArray, List.set_cons_zero, List.set_cons_succ])
  refine wpAnyH_take (i := 16) (v := ?vv16) rfl (by kernel_rfl) (by kernel_rfl) (by kernel_rfl) (fun _ _ _ h => h) (Or.inl ⟨by rfl, ?yv16⟩) (by assumption) ?rv16
  case yv16 => intro w hSw; (try dsimp only at hSw); go_simp <;> (try with_reducible rfl)
  (try simp only [List.getElem_toArray, List.getElem_cons_succ, List.getElem_cons_zero, Act.put, List.setIfInBounds_toArray, List.set_cons_zero, List.set_cons_succ])
  refine wpAnyH_take (i := 17) (v := ?vv17) rfl (by kernel_rfl) (by kernel_rfl) (by kernel_rfl) (fun _ _ _ h => h) (Or.inl ⟨by rfl, ?yv17⟩) (by assumption) ?rv17
  case yv17 => intro w hSw; (try dsimp only at hSw); go_simp <;> (try with_reducible rfl)
  (try simp only [List.getElem_toArray, List.getElem_cons_succ, List.getElem_cons_zero, Act.put, List.setIfInBounds_toArray, List.set_cons_zero, List.set_cons_succ])
  refine wpAnyH_take (i := 18) (v := ?vv18) rfl (by kernel_rfl) (by kernel_rfl) (by kernel_rfl) (fun _ _ _ h => h) (Or.inl ⟨by rfl, ?yv18⟩) (by assumption) ?rv18
  case yv18 => intro w hSw; (try dsimp only at hSw); go_simp <;> (try with_reducible rfl)
  (try simp only [List.getElem_toArray, List.getElem_cons_succ, List.getElem_cons_zero, Act.put, List.setIfInBounds_toArray, List.set_cons_zero, List.set_cons_succ])
  refine wpAnyH_take (i := 19) (v := ?vv19) rfl (by kernel_rfl) (by kernel_rfl) (by kernel_rfl) (fun _ _ _ h => h) (Or.inl ⟨by rfl, ?yv19⟩) (by assumption) ?rv19
  case yv19 => intro w hSw; (try dsimp only at hSw); go_simp <;> (try with_reducible rfl)
  (try simp only [List.getElem_toArray, List.getElem_cons_succ, List.getElem_cons_zero, Act.put, List.setIfInBounds_toArray, List.set_cons_zero, List.set_cons_succ])
  refine wpAnyH_take (i := 20) (v := ?vv20) rfl (by kernel_rfl) (by kernel_rfl) (by kernel_rfl) (fun _ _ _ h => h) (Or.inl ⟨by rfl, ?yv20⟩) (by assumption) ?rv20
  case yv20 => intro w hSw; (try dsimp only at hSw); go_simp <;> (try with_reducible rfl)
  (try simp only [List.getElem_toArray, List.getElem_cons_succ, List.getElem_cons_zero, Act.put, List.setIfInBounds_toArray, List.set_cons_zero, List.set_cons_succ])
  refine wpAnyH_ready (rs := [21]) (by kernel_rfl) (by simp) ?_
  refine AllReadyH.cons rfl (fun K hK => ?_) AllReadyH.nil
  go_simp
  go_wp2_with fail
  (with_reducible refine (zeros_128 z128 _ y128).mono ?_)
  rintro e vC ⟨rfl, bC⟩
  have hC := hB.next bC
  have iC := iB.next bC iB.lt
  have cC := cB.next bC
  have BC : Hid (Below n0 w vC) := BB.out.trans (bC.mono hszB)
  have hszC : n0 ≤ vC.heap.size := Nat.le_trans hszB bC.size
  have RC : Hid (RowAt vC A5 [.int .i64 0]) := RB.out.next bC
  refine hK.out _ _ (iC.cell (k := 0) rfl) (fun hHeld => ?_)
  clear hK K hB iB cB bC hszB
  refine wpAnyH_take (i := 22) (v := ?vv22) rfl (by kernel_rfl) (by kernel_rfl) (by kernel_rfl) (fun _ _ _ h => h) (Or.inl ⟨by rfl, ?yv22⟩) (by assumption) ?rv22
  case yv22 => intro w hSw; (try dsimp only at hSw); go_simp <;> (try with_reducible rfl)
  (try simp only [List.getElem_toArray, List.getElem_cons_succ, List.getElem_cons_zero, Act.put, List.setIfInBounds_toArray, List.set_cons_zero, List.set_cons_succ])
  refine wpAnyH_take (i := 23) (v := ?vv23) rfl (by kernel_rfl) (by kernel_rfl) (by kernel_rfl) (fun _ _ _ h => h) (Or.inl ⟨by rfl, ?yv23⟩) (by assumption) ?rv23
  case yv23 => intro w hSw; (try dsimp only at hSw); go_simp <;> (try with_reducible rfl)
  (try simp only [List.getElem_toArray, List.getElem_cons_succ, List.getElem_cons_zero, Act.put, List.setIfInBounds_toArray, List.set_cons_zero, List.set_cons_succ])
  refine wpAnyH_take (i := 24) (v := ?vv24) rfl (by kernel_rfl) (by kernel_rfl) (by kernel_rfl) (fun _ _ _ h => h) (Or.inl ⟨by rfl, ?yv24⟩) (by assumption) ?rv24
  case yv24 => intro w hSw; (try dsimp only at hSw); go_simp <;> (try with_reducible rfl)
  (try simp only [List.getElem_toArray, List.getElem_cons_succ, List.getElem_cons_zero, Act.put, List.setIfInBounds_toArray, List.set_cons_zero, List.set_cons_succ])
  refine wpAnyH_take (i := 25) (v := ?vv25) rfl (by kernel_rfl) (by kernel_rfl) (by kernel_rfl) (fun _ _ _ h => h) (Or.inl ⟨by rfl, ?yv25⟩) (by assumption) ?rv25
  case yv25 => intro w hSw; (try dsimp only at hSw); go_simp <;> (try with_reducible rfl)
  (try simp only [List.getElem_toArray, List.getElem_cons_succ, List.getElem_cons_zero, Act.put, List.setIfInBounds_toArray, List.set_cons_zero, List.set_cons_succ])
  refine wpAnyH_ready (rs := [26]) (by kernel_rfl) (by simp) ?_
  refine AllReadyH.cons rfl (fun K hK => ?_) AllReadyH.nil
  go_simp
  obtain ⟨vD, hvD⟩ : ∃ vD, Hid (vD = vC.alloc (.cells #[Value.int .i64 0] 3)) := ⟨_, rfl⟩
  have bD : Below vC.heap.size vC vD := by rw [hvD.out]; exact below_new vC _
  have pD : Blk vD vC.heap.size 3 [.int .i64 0] := by rw [hvD.out]; exact alloc_blk vC [.int .i64 0] 3
  rw [← hvD.out]
  have hD := hC.next bD
  have iD := iC.next bD iC.lt
  have cD := cC.next bD
  have BD : Hid (Below n0 w vD) := BC.out.trans (bD.mono hszC)
  have hszD : n0 ≤ vD.heap.size := Nat.le_trans hszC bD.size
  have RD : Hid (RowAt vD A5 [.int .i64 0]) := RC.out.next bD
  have TD : Hid (RowAt vD (some ⟨vC.heap.size, 0, none⟩) [.int .i64 0]) := RowAt.of_blk pD
  refine hK.out _ _ (iD.cell (k := 0) rfl) (fun hHeld => ?_)
  clear hK K hC iC cC bD hszC pD hvD
  refine wpAnyH_ready (rs := [27]) (by kernel_rfl) (by simp) ?_
  refine AllReadyH.cons rfl (fun K hK => ?_) AllReadyH.nil
  go_simp
  go_wp2_with fail
  (with_reducible refine (sameInts_0 _ _ _ _ _ RD.out TD.out).mono ?_)
  rintro e vE ⟨rfl, bE⟩
  have hE := hD.next bE
  have iE := iD.next bE iD.lt
  have cE := cD.next bE
  have BE : Hid (Below n0 w vE) := BD.out.trans (bE.mono hszD)
  have hszE : n0 ≤ vE.heap.size := Nat.le_trans hszD bE.size
  refine hK.out _ _ (iE.cell (k := 0) rfl) (fun hHeld => ?_)
  clear hK K hD iD cD bE hszD RD TD
  refine wpAnyH_take (i := 28) (v := ?vv28) rfl (by kernel_rfl) (by kernel_rfl) (by kernel_rfl) (fun _ _ _ h => h) (Or.inl ⟨by rfl, ?yv28⟩) (by assumption) ?rv28
  case yv28 => intro w hSw; (try dsimp only at hSw); go_simp <;> (try with_reducible rfl)
  (try simp only [List.getElem_toArray, List.getElem_cons_succ, List.getElem_cons_zero, Act.put, List.setIfInBounds_toArray, List.set_cons_zero, List.set_cons_succ])
  refine wpAnyH_take (i := 29) (v := ?vv29) rfl (by kernel_rfl) (by kernel_rfl) (by kernel_rfl) (fun _ _ _ h => h) (Or.inl ⟨by rfl, ?yv29⟩) (by assumption) ?rv29
  case yv29 => intro w hSw; (try dsimp only at hSw); go_simp <;> (try with_reducible rfl)
  (try simp only [List.getElem_toArray, List.getElem_cons_succ, List.getElem_cons_zero, Act.put, List.setIfInBounds_toArray, List.set_cons_zero, List.set_cons_succ])
  refine wpAnyH_take (i := 30) (v := ?vv30) rfl (by kernel_rfl) (by kernel_rfl) (by kernel_rfl) (fun _ _ _ h => h) (Or.inl ⟨by rfl, ?yv30⟩) (by assumption) ?rv30
  case yv30 => intro w hSw; (try dsimp only at hSw); go_simp <;> (try with_reducible rfl)
  (try simp only [List.getElem_toArray, List.getElem_cons_succ, List.getElem_cons_zero, Act.put, List.setIfInBounds_toArray, List.set_cons_zero, List.set_cons_succ])
  refine wpAnyH_take (i := 31) (v := ?vv31) rfl (by kernel_rfl) (by kernel_rfl) (by kernel_rfl) (fun _ _ _ h => h) (Or.inl ⟨by rfl, ?yv31⟩) (by assumption) ?rv31
  case yv31 => intro w hSw; (try dsimp only at hSw); go_simp <;> (try with_reducible rfl)
  (try simp only [List.getElem_toArray, List.getElem_cons_succ, List.getElem_cons_zero, Act.put, List.setIfInBounds_toArray, List.set_cons_zero, List.set_cons_succ])
  refine wpAnyH_take (i := 32) (v := ?vv32) rfl (by kernel_rfl) (by kernel_rfl) (by kernel_rfl) (fun _ _ _ h => h) (Or.inl ⟨by rfl, ?yv32⟩) (by assumption) ?rv32
  case yv32 => intro w hSw; (try dsimp only at hSw); go_simp <;> (try with_reducible rfl)
  (try simp only [List.getElem_toArray, List.getElem_cons_succ, List.getElem_cons_zero, Act.put, List.setIfInBounds_toArray, List.set_cons_zero, List.set_cons_succ])
  refine wpAnyH_take (i := 33) (v := ?vv33) rfl (by kernel_rfl) (by kernel_rfl) (by kernel_rfl) (fun _ _ _ h => h) (Or.inl ⟨by rfl, ?yv33⟩) (by assumption) ?rv33
  case yv33 => intro w hSw; (try dsimp only at hSw); go_simp <;> (try with_reducible rfl)
  (try simp only [List.getElem_toArray, List.getElem_cons_succ, List.getElem_cons_zero, Act.put, List.setIfInBounds_toArray, List.set_cons_zero, List.set_cons_succ])
  refine wpAnyH_take (i := 34) (v := ?vv34) rfl (by kernel_rfl) (by kernel_rfl) (by kernel_rfl) (fun _ _ _ h => h) (Or.inl ⟨by rfl, ?yv34⟩) (by assumption) ?rv34
  case yv34 => intro w hSw; (try dsimp only at hSw); go_simp <;> (try with_reducible rfl)
  (try simp only [List.getElem_toArray, List.getElem_cons_succ, List.getElem_cons_zero, Act.put, List.setIfInBounds_toArray, List.set_cons_zero, List.set_cons_succ])
  refine wpAnyH_take (i := 35) (v := ?vv35) rfl (by kernel_rfl) (by kernel_rfl) (by kernel_rfl) (fun _ _ _ h => h) (Or.inl ⟨by rfl, ?yv35⟩) (by assumption) ?rv35
  case yv35 => intro w hSw; (try dsimp only at hSw); go_simp <;> (try with_reducible rfl)
  (try simp only [List.getElem_toArray, List.getElem_cons_succ, List.getElem_cons_zero, Act.put, List.setIfInBounds_toArray, List.set_cons_zero, List.set_cons_succ])
  refine wpAnyH_ready (rs := [36]) (by kernel_rfl) (by simp) ?_
  refine AllReadyH.cons rfl (fun K hK => ?_) AllReadyH.nil
  go_simp
  go_wp2_with fail
  (with_reducible refine (zeros_125 z125 _ y125).mono ?_)
  rintro e vF ⟨rfl, bF⟩
  have hF := hE.next bF
  have iF := iE.next bF iE.lt
  have cF := cE.next bF
  have BF : Hid (Below n0 w vF) := BE.out.trans (bF.mono hszE)
  have hszF : n0 ≤ vF.heap.size := Nat.le_trans hszE bF.size
  refine hK.out _ _ (iF.cell (k := 0) rfl) (fun hHeld => ?_)
  clear hK K hE iE cE bF hszE
  refine wpAnyH_take (i := 37) (v := ?vv37) rfl (by kernel_rfl) (by kernel_rfl) (by kernel_rfl) (fun _ _ _ h => h) (Or.inl ⟨by rfl, ?yv37⟩) (by assumption) ?rv37
  case yv37 => intro w hSw; (try dsimp only at hSw); go_simp <;> (try with_reducible rfl)
  (try simp only [List.getElem_toArray, List.getElem_cons_succ, List.getElem_cons_zero, Act.put, List.setIfInBounds_toArray, List.set_cons_zero, List.set_cons_succ])
  refine wpAnyH_take (i := 38) (v := ?vv38) rfl (by kernel_rfl) (by kernel_rfl) (by kernel_rfl) (fun _ _ _ h => h) (Or.inl ⟨by rfl, ?yv38⟩) (by assumption) ?rv38
  case yv38 => intro w hSw; (try dsimp only at hSw); go_simp <;> (try with_reducible rfl)
  (try simp only [List.getElem_toArray, List.getElem_cons_succ, List.getElem_cons_zero, Act.put, List.setIfInBounds_toArray, List.set_cons_zero, List.set_cons_succ])
  refine wpAnyH_take (i := 39) (v := ?vv39) rfl (by kernel_rfl) (by kernel_rfl) (by kernel_rfl) (fun _ _ _ h => h) (Or.inl ⟨by rfl, ?yv39⟩) (by assumption) ?rv39
  case yv39 => intro w hSw; (try dsimp only at hSw); go_simp <;> (try with_reducible rfl)
  (try simp only [List.getElem_toArray, List.getElem_cons_succ, List.getElem_cons_zero, Act.put, List.setIfInBounds_toArray, List.set_cons_zero, List.set_cons_succ])
  refine wpAnyH_take (i := 40) (v := ?vv40) rfl (by kernel_rfl) (by kernel_rfl) (by kernel_rfl) (fun _ _ _ h => h) (Or.inl ⟨by rfl, ?yv40⟩) (by assumption) ?rv40
  case yv40 => intro w hSw; (try dsimp only at hSw); go_simp <;> (try with_reducible rfl)
  (try simp only [List.getElem_toArray, List.getElem_cons_succ, List.getElem_cons_zero, Act.put, List.setIfInBounds_toArray, List.set_cons_zero, List.set_cons_succ])
  refine wpAnyH_take (i := 41) (v := ?vv41) rfl (by kernel_rfl) (by kernel_rfl) (by kernel_rfl) (fun _ _ _ h => h) (Or.inl ⟨by rfl, ?yv41⟩) (by assumption) ?rv41
  case yv41 => intro w hSw; (try dsimp only at hSw); go_simp <;> (try with_reducible rfl)
  (try simp only [List.getElem_toArray, List.getElem_cons_succ, List.getElem_cons_zero, Act.put, List.setIfInBounds_toArray, List.set_cons_zero, List.set_cons_succ])
  refine wpAnyH_take (i := 42) (v := ?vv42) rfl (by kernel_rfl) (by kernel_rfl) (by kernel_rfl) (fun _ _ _ h => h) (Or.inl ⟨by rfl, ?yv42⟩) (by assumption) ?rv42
  case yv42 => intro w hSw; (try dsimp only at hSw); go_simp <;> (try with_reducible rfl)
  (try simp only [List.getElem_toArray, List.getElem_cons_succ, List.getElem_cons_zero, Act.put, List.setIfInBounds_toArray, List.set_cons_zero, List.set_cons_succ])
  refine wpAnyH_take (i := 43) (v := ?vv43) rfl (by kernel_rfl) (by kernel_rfl) (by kernel_rfl) (fun _ _ _ h => h) (Or.inl ⟨by rfl, ?yv43⟩) (by assumption) ?rv43
  case yv43 => intro w hSw; (try dsimp only at hSw); go_simp <;> (try with_reducible rfl)
  (try simp only [List.getElem_toArray, List.getElem_cons_succ, List.getElem_cons_zero, Act.put, List.setIfInBounds_toArray, List.set_cons_zero, List.set_cons_succ])
  clear hHeld
  refine wpAnyH_done (by kernel_rfl) ?_ _
  go_wp2_with fail
  (with_reducible refine (read_str cd cgp cgm 1 ccp cY mB 0 sR 0 _ oB.out s1.out r1.out cF).mono ?_)
  rintro e vG ⟨rfl, bG⟩
  have hG := hF.next bG
  have BG : Hid (Below n0 w vG) := BF.out.trans (bG.mono hszF)
  have hszG : n0 ≤ vG.heap.size := Nat.le_trans hszF bG.size
  clear hF iF cF bG hszF
  go_wp2_with fail
  (with_reducible refine (write_any gd gp gm 1 2 [] mC 1 127 tX _ oC.out (by decide) (by omega) hG).mono ?_)
  rintro e vH ⟨rfl, hH, ho⟩
  rw [dD.out] at hH
  rw [w2.out]
  have BH : Hid (Below n0 w vH) := below_only BG.out (ho.mono (by simp)) big.out hszG
  have hszH : n0 ≤ vH.heap.size := Nat.le_trans hszG ho.size
  clear hG ho hszG
  go_wp2_with fail
  (with_reducible refine (flush_any gd gp gm 2 2 [] mD _ oD.out hH).mono ?_)
  rintro e vI ⟨rfl, hI, ho⟩
  rw [dE.out] at hI
  rw [f1.out]
  have BI : Hid (Below n0 w vI) := below_only BH.out ho big.out hszH
  have hszI : n0 ≤ vI.heap.size := Nat.le_trans hszH ho.size
  clear hH ho hszH
  go_wp2_with fail
  (with_reducible refine (rot_any gd gp gm 2 2 [] mE 1 1016 _ oE.out hI).mono ?_)
  rintro e vJ ⟨rfl, hJ, ho⟩
  rw [dF.out] at hJ
  rw [o1.out]
  have BJ : Hid (Below n0 w vJ) := below_only BI.out (ho.mono (by simp)) big.out hszI
  have hszJ : n0 ≤ vJ.heap.size := Nat.le_trans hszI ho.size
  clear hI ho hszI
  go_wp2_with fail
  (with_reducible refine (read_str gd gp gm 2 2 [] mF 1 vR 0 _ oF.out s3.out r3.out hJ).mono ?_)
  rintro e vK ⟨rfl, bK⟩
  have hK := hJ.next bK
  have BK : Hid (Below n0 w vK) := BJ.out.trans (bK.mono hszJ)
  have hszK : n0 ≤ vK.heap.size := Nat.le_trans hszJ bK.size
  clear hJ bK hszJ
  go_wp2_with fail
  (with_reducible refine (trip_any gd gp gm 2 2 [] mF 1 _ (by omega) (by omega) hK).mono ?_)
  rintro e vL ⟨rfl, hL, ho⟩
  rw [dG.out] at hL
  have BL : Hid (Below n0 w vL) := below_only BK.out (ho.mono (by simp)) big.out hszK
  have hszL : n0 ≤ vL.heap.size := Nat.le_trans hszK ho.size
  clear hK ho hszK
  go_wp2_with fail
  (with_reducible refine (write_any gd gp gm 2 2 [] mG 0 0 tE _ oG.out (by decide) (by omega) hL).mono ?_)
  rintro e vM ⟨rfl, hM, ho⟩
  rw [dH.out] at hM
  rw [w3.out]
  have BM : Hid (Below n0 w vM) := below_only BL.out (ho.mono (by simp)) big.out hszL
  have hszM : n0 ≤ vM.heap.size := Nat.le_trans hszL ho.size
  clear hL ho hszL
  go_wp2_with fail
  (with_reducible refine (flush_any gd gp gm 3 2 [] mH _ oH.out hM).mono ?_)
  rintro e vN ⟨rfl, hN, ho⟩
  rw [dI.out] at hN
  rw [f2.out]
  have BN : Hid (Below n0 w vN) := below_only BM.out ho big.out hszM
  have hszN : n0 ≤ vN.heap.size := Nat.le_trans hszM ho.size
  clear hM ho hszM
  go_wp2_with fail
  (with_reducible refine (read_str gd gp gm 3 2 [] mI 0 tE 13 _ oI.out s4.out r4.out hN).mono ?_)
  rintro e vO ⟨rfl, bO⟩
  have hO := hN.next bO
  have BO : Hid (Below n0 w vO) := BN.out.trans (bO.mono hszN)
  have hszO : n0 ≤ vO.heap.size := Nat.le_trans hszN bO.size
  clear hN bO hszN
  go_wp2_with fail
  (with_reducible refine (zeros_127 z127 _ y127).mono ?_)
  rintro e vP ⟨rfl, bP⟩
  have hP := hO.next bP
  have BP : Hid (Below n0 w vP) := BO.out.trans (bP.mono hszO)
  have hszP : n0 ≤ vP.heap.size := Nat.le_trans hszO bP.size
  clear hO bP hszO
  go_wp2_with fail
  (with_reducible refine (up_any gd gp gm 3 2 [] mI _ hP).mono ?_)
  rintro e w' ⟨rfl, rfl⟩
  rw [up.out]
  go_wp2_with fail
  (with_reducible refine (len_any gd gp gm 3 2 [] mI _ hP).mono ?_)
  rintro e w' ⟨rfl, rfl⟩
  rw [lenI.out]
  go_wp2_with fail
  (with_reducible refine (rot_any gd gp gm 3 2 [] mI 0 1024 _ oI.out hP).mono ?_)
  rintro e vQ ⟨rfl, _, ho⟩
  rw [o2.out]
  have BQ : Hid (Below n0 w vQ) := below_only BP.out (ho.mono (by simp)) big.out hszP
  clear hP ho hszP
  go_wp2
  go_ret
  refine ⟨rfl, ?_⟩
  rw [hn0.out]
  exact BQ.out
end Go.Proofs.Ythgmlopkcgkjlaa

/-
  The law package's sanity returns true. Conditions: none.
-/
namespace Go.Proofs.Ythgmlopkcgkjlaa
open Go.RowKit

theorem sanity_any (w : World) : Calls Try.prog 15 #[] w fun e w' => e = .returned (.bool true) ∧ Below w.heap.size w w' := by
  obtain ⟨a, b, c, d, e, f, g, h, i⟩ := sd_ok
  obtain ⟨_, lb, li⟩ := sd_len
  have pz : (pendZ sdB).map (Value.int .i64) = [.int .i64 0] := by
    unfold pendZ
    rw [ev_pe]; rfl
  have im : sdB.image.map S8 = [.string (zN 128), .string (zN 128)] := by rw [ev_im]; rfl
  have s4 : (⟨(sdI.readS 0).toArray⟩ : ByteArray) = tE := by
    unfold DM.readS
    rw [ev_up]; rfl
  exact sanity_walk sdB sdC sdD sdE sdF sdG sdH sdI _ _ _ (zN 124) (zN 125) (zN 127) (zN 128) w (Lib.hid a) (Lib.hid b) (Lib.hid c) (Lib.hid d) (Lib.hid e) (Lib.hid f) (Lib.hid g) (Lib.hid h) (Lib.hid i)
    (Lib.hid rfl) (Lib.hid rfl) (Lib.hid rfl) (Lib.hid rfl) (Lib.hid rfl) (Lib.hid rfl) (Lib.hid rfl) (Lib.hid rfl) (Lib.hid ev_w1) (Lib.hid ev_r1) (Lib.hid rfl) (Lib.hid im) (Lib.hid (by rw [ev_pe]; rfl)) (Lib.hid pz)
    (Lib.hid ev_r2) (Lib.hid rfl) (Lib.hid ev_w2) (Lib.hid ev_f1) (Lib.hid ev_o1) (Lib.hid ev_r3) (Lib.hid rfl) (Lib.hid ev_w3) (Lib.hid ev_f2) (Lib.hid ev_r4) (Lib.hid s4) (Lib.hid ev_up) (Lib.hid ev_o2.1) (Lib.hid lb) (Lib.hid li)
    (Lib.hid rfl) (Lib.hid rfl) (Lib.hid rfl) (Lib.hid rfl) ev_s1 ev_s2 ev_s3 (by rw [ev_zs]; omega) (by rw [ev_zs]; omega) (by rw [ev_zs]; omega)
end Go.Proofs.Ythgmlopkcgkjlaa

/-
  The walk over the statement DiskMatchesSpec. Conditions: the script lies in memory that the law leaves alone, its integers are such.
-/
namespace Go.Proofs.Ythgmlopkcgkjlaa
open Go.RowKit

/-- A script whose integers are such. -/
def IntsOk (xs : List OpM) : Prop := ∀ x ∈ xs, inI x.i ∧ inI x.at_
theorem fine_of {xs : List OpM} (hi : IntsOk xs) (hf : ∀ x ∈ xs, x.text.size ≤ 300 ∧ x.picks.length ≤ 70) : ∀ x ∈ xs, x.fine := fun x hx => ⟨(hi x hx).1, (hi x hx).2, (hf x hx).1, (hf x hx).2⟩
def LpRel (n0 : Nat) (M : DM) (xs : List OpM) (gd gp gm cp : Nat) (Y : List Value) (k0 gr ga cap : Nat) (X : List Value) (n : Nat) (w : World) (i : Value) (wr : World) : Prop :=
  ∃ j : Nat, j ≤ n ∧ i = .int .i64 j ∧ Two n0 wr gd gp gm cp Y (k0 + j) gr ga cap X (M.run (xs.take j)) ∧ Below n0 w wr ∧ n0 ≤ wr.heap.size
/-- Two disks made one after the other. -/
theorem two_new {n0 : Nat} {w1 w2 : World} {gd gp gm n k gr ga cap : Nat} {X : List Value} {M : DM} (hp1 : PRep w1 gd gp gm n [] M k) (hr2 : RRep w2 gr ga cap X M) (hb2 : Below w1.heap.size w1 w2) (h1 : n0 ≤ gd) (h2 : n0 ≤ gp) (h3 : n0 ≤ gm) (h4 : w1.heap.size ≤ gr) (h5 : w1.heap.size ≤ ga) : Two n0 w2 gd gp gm n [] k gr ga cap X M := by
  have hlt1 := hp1.d.lt
  have hlt2 := hp1.p.lt
  have hlt3 := hp1.m.lt
  refine ⟨hp1.next hb2, hr2, ⟨h1, h2, h3, by omega, by omega⟩, ?_, ?_⟩
  · simp only [List.mem_cons, List.not_mem_nil, or_false]; omega
  · simp only [List.mem_cons, List.not_mem_nil, or_false]; omega
set_option maxRecDepth 100000 in
set_option maxHeartbeats 1600000 in
theorem matchLaw_any (p : Int) (A : Option Addr) (c : Nat) (xs : List OpM) (w : World) (hl : xs.length ≤ 140737488355328) (hi : IntsOk xs) (hS : ScriptAt w.heap.size w A xs) :
    Calls Try.prog 3 #[.int .i64 p, .slice A xs.length c] w fun e w' => e = .returned (.bool true) ∧ Below w.heap.size w w' := by
  have HS := Lib.hid hS
  have HL := Lib.hid hl
  have HII := Lib.hid hi
  obtain ⟨N, hN⟩ : ∃ N, Hid (xs.length = N) := ⟨_, rfl⟩
  rw [hN.out]
  clear hS hl hi
  by_cases hp : 40 < p ∧ p ≤ 4096
  · obtain ⟨hp1, hp2⟩ := hp
    go_enter Try.func3, Try.ntmps3
    go_wp2_with fail
    (with_reducible refine (sanity_any _).mono ?_)
    rintro e w1 ⟨rfl, hb1⟩
    go_wp2
    go_ret
    exact ⟨rfl, hb1⟩
  · have hcase : (40 < p ∧ 4096 < p) ∨ p ≤ 40 := by omega
    have hpn : p < 1 ∨ 4096 < p ∨ (1 ≤ p ∧ p ≤ 40) := by omega
    clear hp
    go_enter Try.func3, Try.ntmps3
    rcases hcase with ⟨hp1, hp2⟩ | hp1
    · go_wp2_with fail
      rw [← hN.out]
      (with_reducible refine (few_any A c xs _ HL.out HS.out).mono ?_)
      rintro e w1 ⟨⟨b, rfl, _⟩, hb1⟩
      rw [hN.out]
      cases b with
      | false =>
        go_wp2_with fail
        (with_reducible refine (sanity_any _).mono ?_)
        rintro e w2 ⟨rfl, hb2⟩
        have hbz := below_join hb1 hb2
        go_wp2
        go_ret
        exact ⟨rfl, hbz⟩
      | true =>
        go_wp2_with fail
        (with_reducible refine (new_bad p _ (Or.inr hp2)).mono ?_)
        rintro e w2 ⟨rfl, rfl⟩
        go_wp2_with fail
        (with_reducible refine (rnew_bad p _ (Or.inr hp2)).mono ?_)
        rintro e w2 ⟨rfl, rfl⟩
        go_wp2_with fail
        (with_reducible refine (sanity_any _).mono ?_)
        rintro e w2 ⟨rfl, hb2⟩
        have hbz := below_join hb1 hb2
        go_wp2
        go_ret
        exact ⟨rfl, hbz⟩
    · go_wp2_with fail
      rw [← hN.out]
      (with_reducible refine (few_any A c xs _ HL.out HS.out).mono ?_)
      rintro e w1 ⟨⟨b, rfl, hfb⟩, hb1⟩
      rw [hN.out]
      have HFB := Lib.hid hfb
      clear hfb
      cases b with
      | false =>
        go_wp2_with fail
        (with_reducible refine (sanity_any _).mono ?_)
        rintro e w2 ⟨rfl, hb2⟩
        have hbz := below_join hb1 hb2
        go_wp2
        go_ret
        exact ⟨rfl, hbz⟩
      | true =>
        by_cases hp0 : p < 1
        · go_wp2_with fail
          (with_reducible refine (new_bad p _ (Or.inl hp0)).mono ?_)
          rintro e w2 ⟨rfl, rfl⟩
          go_wp2_with fail
          (with_reducible refine (rnew_bad p _ (Or.inl hp0)).mono ?_)
          rintro e w2 ⟨rfl, rfl⟩
          go_wp2_with fail
          (with_reducible refine (sanity_any _).mono ?_)
          rintro e w2 ⟨rfl, hb2⟩
          have hbz := below_join hb1 hb2
          go_wp2
          go_ret
          exact ⟨rfl, hbz⟩
        · obtain ⟨n, rfl⟩ : ∃ n : Nat, p = (n : Int) := ⟨p.toNat, by omega⟩
          have hn1 : 1 ≤ n := by omega
          have hn2 : n ≤ 40 := by omega
          have HF := Lib.hid (fine_of HII.out (HFB.out rfl).2)
          have hN40 : N ≤ 40 := by have := (HFB.out rfl).1; rw [hN.out] at this; exact this
          clear hpn hp0
          go_wp2_with fail
          (with_reducible refine (new_any n _ hn1 (by omega)).mono ?_)
          rintro e w2 ⟨gd, gp, gm, rfl, hp2, hb2, hg1, hg2, hg3⟩
          go_wp2_with fail
          (with_reducible refine (rnew_any n _ hn1 (by omega)).mono ?_)
          rintro e w3 ⟨v, rfl, gr, ga, cap, X, rfl, hr3, hb3, hg4, hg5⟩
          obtain ⟨n0, hn0⟩ : ∃ n0, Hid (w.heap.size = n0) := ⟨_, rfl⟩
          have hsz1 := hb1.size
          have hb2s := hb2.size
          have hb3s := hb3.size
          have h0 : Two n0 w3 gd gp gm n [] 0 gr ga cap X (DM.make n) := by
            rw [← hn0.out]
            exact two_new hp2 hr3 hb3 (by omega) (by omega) (by omega) hg4 hg5
          have hB3 : Below n0 w w3 := by rw [← hn0.out]; exact below_join (below_join hb1 hb2) hb3
          have hs3 : n0 ≤ w3.heap.size := by rw [← hn0.out]; omega
          obtain ⟨M0, hM0⟩ : ∃ M0, Hid (DM.make n = M0) := ⟨_, rfl⟩
          have hMk : Hid (M0.ok) := by rw [← hM0.out]; exact DM.make_ok (by omega)
          rw [hM0.out] at h0
          rw [hn0.out] at HS
          obtain ⟨big1, big2⟩ := h0.big
          have HB1 := Lib.hid big1
          have HB2 := Lib.hid big2
          obtain ⟨ee1, ee2, ee3⟩ := h0.e2
          have EE1 := Lib.hid ee1
          have EE2 := Lib.hid ee2
          have EE3 := Lib.hid ee3
          clear hp2 hr3 hb1 hb2 hb3 hg1 hg2 hg3 hg4 hg5 big1 big2 ee1 ee2 ee3 hsz1 hb2s hb3s
          obtain ⟨cp, hcp⟩ : ∃ cp, Hid (n = cp) := ⟨_, rfl⟩
          obtain ⟨Y, hY⟩ : ∃ Y : List Value, Hid ([] = Y) := ⟨_, rfl⟩
          obtain ⟨k0, hk0⟩ : ∃ k0 : Nat, Hid (0 = k0) := ⟨_, rfl⟩
          have hk0' : k0 ≤ 40 := by rw [← hk0.out]; omega
          have h0' : Two n0 w3 gd gp gm cp Y (k0 + 0) gr ga cap X (M0.run (xs.take 0)) := by rw [← hcp.out, ← hY.out, ← hk0.out]; exact h0
          clear h0
          go_wp2
          go_loopw [56] (LpRel n0 M0 xs gd gp gm cp Y k0 gr ga cap X N w) (fun i _ => N - natOf i)
          case atStart => exact ⟨0, Nat.zero_le _, rfl, h0', hB3, hs3⟩
          case round =>
            clear h0' hB3 hs3
            obtain ⟨j, hj, rfl, hT, hbel, hsz⟩ := hrel
            by_cases hjn : j < N
            · have hjz : 0 ≤ j := Nat.zero_le _
              have hji : (j : Int) < (N : Int) := by omega
              obtain ⟨x, hx⟩ : ∃ x, xs[j]? = some x := ⟨_, List.getElem?_eq_getElem (by rw [hN.out]; exact hjn)⟩
              obtain ⟨p, pa, pc, rfl, hcw⟩ := HS.out j x hx
              have hfx := HF.out x (List.mem_of_getElem? hx)
              have HNX := Lib.hid (DM.run_next M0 xs j x hx)
              have HOK : Hid ((M0.run (xs.take j)).ok) := by
                have : (M0.run (xs.take j)).ok := DM.run_ok _ hMk.out (fun y hy => HF.out y (List.mem_of_mem_take hy))
                exact this
              obtain ⟨hc, _⟩ := hcw wr hbel
              have HPK : Hid (∀ w', Below n0 w w' → PkAt w' pa x.picks) := by
                have : ∀ w', Below n0 w w' → PkAt w' pa x.picks := fun w' hb' => (hcw w' hb').2
                exact this
              obtain ⟨M1, hM1⟩ : ∃ M1, Hid (M0.run (xs.take j) = M1) := ⟨_, rfl⟩
              rw [hM1.out] at HNX HOK hT
              obtain ⟨M2, hM2⟩ : ∃ M2, Hid (M1.doM x = M2) := ⟨_, rfl⟩
              have HOK2 : Hid M2.ok := by
                have : M2.ok := by rw [← hM2.out]; exact DM.doM_ok HOK.out x hfx.i
                exact this
              rw [hM2.out] at HNX
              obtain ⟨sT, hsT⟩ : ∃ sT : ByteArray, Hid (S8 (M1.doS x) = .string sT) := ⟨_, rfl⟩
              obtain ⟨eT, heT⟩ : ∃ eT, Hid (M1.doE x = eT) := ⟨_, rfl⟩
              obtain ⟨kind, i, at_, tx, pk⟩ := x
              have HI := Lib.hid hfx.i
              have HA := Lib.hid hfx.a
              have HTX : tx.size ≤ 1000000 := by have h := hfx.t; have : tx.size ≤ 300 := h; omega
              have HPL : pk.length ≤ 1000000 := by have h := hfx.p; have : pk.length ≤ 70 := h; omega
              obtain ⟨q, hq⟩ : ∃ q, Hid (pk.length = q) := ⟨_, rfl⟩
              unfold opRow at hc
              simp only [hq.out] at hc
              have hun := Try.underlying34
              clear hx hj hcw hfx
              go_wp2_with (first | (with_reducible refine wpList_load_add (op := ⟨some 59, .load 34 (.tmp 58), _, _, _, _⟩) (by with_unfolding_all rfl) 34 (.tmp 58) (by with_unfolding_all rfl) (p.add (j * 5)) (by with_unfolding_all rfl) [.int .i64 kind, .int .i64 i, .int .i64 at_, .string tx, .slice pa q pc] _ hc hun (by with_unfolding_all rfl) (by with_unfolding_all exact Try.sizeO) ?_) | (with_reducible refine wpList_alloc (o := ⟨some 10, .alloc 34, _, _, _, _⟩) (by with_unfolding_all rfl) 34 (by with_unfolding_all rfl) (.agg #[.int .i64 0, .int .i64 0, .int .i64 0, .string ⟨#[]⟩, .slice none 0 0]) [.int .i64 0, .int .i64 0, .int .i64 0, .string ⟨#[]⟩, .slice none 0 0] (by exact Try.zeroO) (by with_unfolding_all rfl) ?_))
              intro g4 w2 hg4 hs2 hb2 hB2
              have hle4 : wr.heap.size ≤ g4 := Nat.le_of_eq hg4.out.symm
              go_wp2_with (with_reducible refine wpList_put (o := ⟨none, .store 34 (.tmp 10) (.tmp 59), _, _, _, _⟩) (by with_unfolding_all rfl) 34 (.tmp 10) (.tmp 59) (by with_unfolding_all rfl) g4 0 (by with_unfolding_all rfl) (.agg #[.int .i64 kind, .int .i64 i, .int .i64 at_, .string tx, .slice pa q pc]) (by with_unfolding_all rfl) hB2 [.int .i64 kind, .int .i64 i, .int .i64 at_, .string tx, .slice pa q pc] (by with_unfolding_all rfl) (by with_unfolding_all exact Try.sizeO) (by with_unfolding_all exact Nat.le_refl _) (by with_unfolding_all exact one_cell5 rfl rfl rfl rfl rfl) ?_)
              intro w3 hu3 hB3
              have hB3' : Blk w3 g4 34 [.int .i64 kind, .int .i64 i, .int .i64 at_, .string tx, .slice pa q pc] := hB3
              have hb3 : Below wr.heap.size wr w3 := (hb2.mono hle4).trans (hu3.below (B := wr.heap.size) hle4)
              have hbel3 : Below n0 w w3 := hbel.trans (hb3.mono hsz)
              have hsz3 : n0 ≤ w3.heap.size := Nat.le_trans hsz hb3.size
              have hT3 := hT.next hb3
              have hg4d : g4 ∉ [gd, gp, gm] := by
                have h1 := hT.p.d.lt
                have h2 := hT.p.p.lt
                have h3 := hT.p.m.lt
                simp only [List.mem_cons, List.not_mem_nil, or_false]; omega
              clear hc hb2 hB2 hB3 hu3 hb3 hg4 hs2 hT hbel hsz
              go_wp2_with (first | (with_reducible refine wpList_get (o := ⟨some 62, .load 34 (.tmp 10), _, _, _, _⟩) (by with_unfolding_all rfl) 34 (.tmp 10) (by with_unfolding_all rfl) g4 0 (by with_unfolding_all rfl) hB3' [.int .i64 kind, .int .i64 i, .int .i64 at_, .string tx, .slice pa q pc] (cs_all _) _ (by with_unfolding_all exact hun) (by with_unfolding_all rfl) (by with_unfolding_all exact Try.sizeO) ?_) | fail)
              rw [← hq.out]
              (with_reducible refine (do_any gd gp gm (k0 + j) cp Y M1 kind i at_ tx pa pc pk _ HOK.out HI.out HA.out HTX HPL (by omega) hT3.p (fun w' ho => HPK.out w' (below_only hbel3 ho HB1.out hsz3))).mono ?_)
              rintro e w4 ⟨rfl, hp4, ho4⟩
              rw [hM2.out] at hp4
              rw [hsT.out, heT.out, hq.out]
              have hr4 := hT3.r.only ho4 hT3.e.1 hT3.e.2
              have hbel4 := below_only hbel3 ho4 HB1.out hsz3
              have hsz4 : n0 ≤ w4.heap.size := Nat.le_trans hsz3 ho4.size
              have hB4 := hB3'.only ho4 hg4d
              clear hB3' hbel3 hsz3 ho4 hg4d
              go_wp2_with (first | (with_reducible refine wpList_get (o := ⟨some 68, .load 34 (.tmp 10), _, _, _, _⟩) (by with_unfolding_all rfl) 34 (.tmp 10) (by with_unfolding_all rfl) g4 0 (by with_unfolding_all rfl) hB4 [.int .i64 kind, .int .i64 i, .int .i64 at_, .string tx, .slice pa q pc] (cs_all _) _ (by with_unfolding_all exact hun) (by with_unfolding_all rfl) (by with_unfolding_all exact Try.sizeO) ?_) | fail)
              rw [← hq.out]
              (with_reducible refine (rdo_any gr ga cap X M1 kind i at_ tx pa pc pk _ HOK.out HI.out HA.out HTX HPL hr4 (fun w' ho => HPK.out w' (below_only hbel4 ho HB2.out hsz4))).mono ?_)
              rintro e w5 ⟨rfl, hr5, ho5⟩
              rw [hM2.out] at hr5
              rw [hsT.out, heT.out]
              have hp5 := hp4.only ho5 EE1.out EE2.out EE3.out
              have hbel5 := below_only hbel4 ho5 HB2.out hsz4
              have hsz5 : n0 ≤ w5.heap.size := Nat.le_trans hsz4 ho5.size
              have hT5 : Two n0 w5 gd gp gm cp Y (k0 + j + 1) gr ga cap X M2 := ⟨hp5, hr5, hT3.b, hT3.e⟩
              clear hB4 hT3 hp4 hr4 hbel4 hsz4 hp5 hr5 ho5 HPK HTX HPL
              go_wp2_with fail
              (with_reducible refine (same_eq gd gp gm (k0 + j + 1) cp gr ga cap Y X M2 _ HOK2.out hT5.p hT5.r).mono ?_)
              rintro e w6 ⟨rfl, hb6⟩
              have hT6 : Two n0 w6 gd gp gm cp Y (k0 + (j + 1)) gr ga cap X (M0.run (xs.take (j + 1))) := by
                rw [HNX.out]
                exact hT5.next hb6
              have hbel6 := hbel5.trans (hb6.mono hsz5)
              have hsz6 : n0 ≤ w6.heap.size := Nat.le_trans hsz5 hb6.size
              clear hT5 hb6 hbel5 hsz5
              go_wp2
              go_roundw
              case rel => exact ⟨j + 1, by omega, by go_num, hT6, hbel6, hsz6⟩
              case measure => simp [natOf]; omega
            · obtain rfl : j = N := by omega
              clear hj hjn hT
              go_wp2_with fail
              (with_reducible refine (sanity_any _).mono ?_)
              rintro e w4 ⟨rfl, hb4⟩
              have hbz := hbel.trans (hb4.mono hsz)
              go_wp2
              go_ret
              exact ⟨rfl, by rw [hn0.out]; exact hbz⟩
end Go.Proofs.Ythgmlopkcgkjlaa
