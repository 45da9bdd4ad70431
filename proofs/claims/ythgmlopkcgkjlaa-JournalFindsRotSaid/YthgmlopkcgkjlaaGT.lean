/-
  Contracts of the functions that the statement calls, part 20 of 37 (merged texts: Dr1, Dl0, Dl9, Dla, Dlb, Dlc, Jm, Jr1, Jr2, Jr3, Jk0). Conditions: as the head of each part says.
-/
import Derived.Test.YthgmlopkcgkjlaaGS
import Derived.ProofKit
import Derived.OpenShut
import Derived.ShutString
import Derived.ChangeOld
import Derived.SizedLaws
import Derived.SliceStrings
import Derived.Deep.Slices
import Derived.Deep.Fields
import Derived.ChangeSame
import Derived.BigQuiet

/-
  The arguments of layer 4's statements, read: a script of operations, a slice of integers. Conditions: the row's own.
-/
namespace Go.Proofs.Ythgmlopkcgkjlaa
open Go.ChangeShapes Go.WideShapes Go.ChangeAt Go.RowKit
open Go.Deep (choose_lt)

theorem Try.own : ownKnob Try.prog.godebug = none := by kernel_rfl
theorem Try.laidOut : laidOutB Try.prog = true := by kernel_rfl
theorem inI_of {n : Int} (h : (Lit.int .i64 n).wf = true) : inI n := by
  have h1 : IntKind.i64.min = -9223372036854775808 := rfl
  have h2 : IntKind.i64.max = 9223372036854775807 := rfl
  simp only [Lit.wf, Bool.and_eq_true, decide_eq_true_eq] at h
  exact ⟨by omega, by omega⟩
/-- How long a slice that came in is, as its datum tells. -/
def LenOf {H : Type} (d : DataW H) (len : Nat) : Prop := len = 0 ∨ ∃ es sp, d = .slice es sp ∧ es.length = len
theorem LenOf.reach {H : Type} {P : Program} {ts : List TypeId} {ds : List (DataW H)} {d : DataW H} {len j b : Nat} {t e : TypeId} (hl : LenOf d len) (h : (DataW.weightsEach P ts ds).all (· ≤ reachBytes) = true) (ht : ts[j]? = some t) (hd : ds[j]? = some d) (hu : P.underlying t = some (.slice e)) (hb : P.bytesOf e = b) : len * b ≤ 140737488351232 := by
  rcases hl with rfl | ⟨es, sp, rfl, rfl⟩
  · omega
  · have := sized_slice h ht hd hu
    rw [hb] at this
    have h2 : es.length * b ≤ (es.length + sp.length) * b := Nat.mul_le_mul_right _ (by omega)
    simp only [reachBytes] at this
    omega
instance : Inhabited OpM := ⟨⟨0, 0, 0, ByteArray.empty, []⟩⟩
section
variable {H : Type} {enc : TypeId × Value → H} {W : World} {a : Option Addr} {len cap : Nat} {d : DataW H} {p : List MemPlace}
/-- A slice of integers, read at its cell or as an argument. -/
theorem ints_of {base fuel : Nat} {held : Bool} {v : Value} {y : DataW H × List MemPlace} (h : DataW.trod enc Try.prog W base (fun _ => true) held fuel 32 [v] = some y) : ∃ (A : Option Addr) (l : List Int) (c : Nat), v = .slice A l.length c ∧ PkAt W A l ∧ (∀ z ∈ l, inI z) ∧ LenOf y.1 l.length := by
  rcases open_ints Try.underlying32 Try.underlying3 (by kernel_rfl) h with ⟨hcs, _⟩ | ⟨x, n, c, zs, hcs, _, hl, hm, hz, hx, hcell, hwz⟩
  · injection hcs with hcs _
    exact ⟨none, [], 0, hcs, (fun k u hu => by cases hu), (fun z hz => by cases hz), .inl rfl⟩
  · injection hcs with hcs _
    have hz' : zs.length = c := by simpa using hz
    have hln : (zs.take n).length = n := by rw [List.length_take]; omega
    refine ⟨some x, zs.take n, c, by rw [hln]; exact hcs, fun k u hu => ⟨x, rfl, ?_⟩, fun z hz => inI_of (hwz z (List.mem_of_mem_take hz)), ?_⟩
    · have hk : k < n := by
        have := (List.getElem?_eq_some_iff.1 hu).1
        omega
      rw [hcell k (by omega)]
      rw [List.getElem?_take_of_lt hk] at hu
      rw [List.getD_eq_getElem?_getD, hu]; rfl
    · rw [hx]
      exact .inr ⟨_, _, rfl, by simp [lits]⟩
theorem PkAt.hold {w : World} {A : Option Addr} {l : List Int} (h : PkAt w A l) (w' : World) (hb : Below w.heap.size w w') : PkAt w' A l := fun k x hx => by
  obtain ⟨q, e, hc⟩ := h k x hx
  exact ⟨q, e, (hb.cell (p := q.add k) (World.block_lt_of_cell? w _ hc)).trans hc⟩
theorem open_picks (h : DataW.Trod enc Try.prog W 0 (fun _ => true) true 32 (.slice a len cap) d p) : ∃ l : List Int, len = l.length ∧ PkAt W a l ∧ (∀ z ∈ l, inI z) ∧ LenOf d len := by
  obtain ⟨fuel, hf⟩ := h
  have hf2 : DataW.trod enc Try.prog W 0 (fun _ => true) true fuel 32 [.slice a len cap] = some (d, p) := hf
  obtain ⟨A, l, c, e, h1, h2, h3⟩ := ints_of hf2
  injection e with e1 e2 e3
  subst e1 e2
  exact ⟨l, rfl, h1, h2, h3⟩
/-- A script that came in. -/
theorem open_ops (h : DataW.Trod enc Try.prog W 0 (fun _ => true) true 22 (.slice a len cap) d p) : ∃ xs : List OpM, len = xs.length ∧ ScriptAt W.heap.size W a xs ∧ IntsOk xs ∧ LenOf d len := by
  obtain ⟨fuel, hf⟩ := h
  have hf2 : DataW.trod enc Try.prog W 0 (fun _ => true) true fuel 22 [.slice a len cap] = some (d, p) := hf
  rcases Go.Deep.open_slice Try.underlying22 hf2 with ⟨hcs, hx⟩ | ⟨x, n, c, m, fl, D, Pl, hcs, _, hl, hm, hmm, hx, hel⟩
  · injection hcs with hcs _
    injection hcs with e1 e2 e3
    subst e1 e2 e3
    exact ⟨[], rfl, (fun j y hy => by cases hy), (fun y hy => by cases hy), .inl rfl⟩
  · injection hcs with hcs _
    injection hcs with e1 e2 e3
    subst e1 e2 e3
    have hmc : m = cap := by simpa using hmm
    have c5 : Try.prog.cellsOf 34 = 5 := by kernel_rfl
    have each : ∀ i, i < m → ∃ y : OpM, (∃ pa pc, (∀ (q : Nat) (u : Value), (opRow y pa pc)[q]? = some u → W.cell? ((x.add (i * 5)).add q) = some u) ∧ PkAt W pa y.picks) ∧ inI y.i ∧ inI y.at_ := fun i hi => by
      obtain ⟨cs', h1, h2⟩ := hel i hi
      rw [c5] at h1
      obtain ⟨_, hcl, hat⟩ := World.cells?_some h1
      obtain ⟨ys, n', hn', hy, hlen, hyl, hfld⟩ := DataW.trod_struct Try.underlying34 h2
      have hys : ys.length = 5 := hyl
      have one : ∀ (j : Nat) (t : TypeId) (k : Nat), k = 1 → j < 5 → DataW.trod enc Try.prog W 0 (fun _ => true) true n' t ((cs'.drop j).take k) = ys[j]? → ∃ v y, cs'[j]? = some v ∧ DataW.trod enc Try.prog W 0 (fun _ => true) true n' t [v] = some y := fun j t k hk hj h => by
        subst hk
        have hv : cs'[j]? = some (cs'[j]'(by omega)) := List.getElem?_eq_getElem (by omega)
        refine ⟨_, ys[j]'(by omega), hv, ?_⟩
        rw [← List.getElem?_eq_getElem, ← h, List.drop_eq_getElem_cons (by omega)]
        rfl
      obtain ⟨v0, y0, g0, t0⟩ := one 0 3 _ (by kernel_rfl) (by omega) (hfld 0 _ rfl)
      obtain ⟨v1, y1, g1, t1⟩ := one 1 3 _ (by kernel_rfl) (by omega) (hfld 1 _ rfl)
      obtain ⟨v2, y2, g2, t2⟩ := one 2 3 _ (by kernel_rfl) (by omega) (hfld 2 _ rfl)
      obtain ⟨v3, y3, g3, t3⟩ := one 3 9 _ (by kernel_rfl) (by omega) (hfld 3 _ rfl)
      obtain ⟨v4, y4, g4, t4⟩ := one 4 32 _ (by kernel_rfl) (by omega) (hfld 4 _ rfl)
      obtain ⟨z0, e0, _, _⟩ := DataW.trod_int Try.underlying3 t0
      obtain ⟨z1, e1, _, w1⟩ := DataW.trod_int Try.underlying3 t1
      obtain ⟨z2, e2, _, w2⟩ := DataW.trod_int Try.underlying3 t2
      obtain ⟨s3, e3, _, _⟩ := DataW.trod_string Try.underlying9 t3
      obtain ⟨pa, l, pc, e4, hpk, _, _⟩ := ints_of t4
      injection e0 with e0 _
      injection e1 with e1 _
      injection e2 with e2 _
      injection e3 with e3 _
      subst e0 e1 e2 e3 e4
      refine ⟨⟨z0, z1, z2, s3, l⟩, ⟨pa, pc, fun q u hu => ?_, hpk⟩, inI_of w1, inI_of w2⟩
      have hq : q < 5 := (List.getElem?_eq_some_iff.1 hu).1
      rw [hat q hq, ← hu]
      match q, hq with
      | 0, _ => exact g0
      | 1, _ => exact g1
      | 2, _ => exact g2
      | 3, _ => exact g3
      | 4, _ => exact g4
    obtain ⟨f, hfx⟩ := choose_lt each
    refine ⟨(List.range len).map f, by simp, fun j y hy => ?_, fun y hy => ?_, ?_⟩
    · rw [List.getElem?_map] at hy
      have hj : j < len := by
        rcases Nat.lt_or_ge j len with h | h
        · exact h
        · rw [List.getElem?_eq_none (by simp; omega)] at hy; cases hy
      rw [List.getElem?_range hj] at hy
      injection hy with hy
      obtain ⟨⟨pa, pc, hc, hpk⟩, _, _⟩ := hfx j (by omega)
      rw [hy] at hc hpk
      refine ⟨x, pa, pc, rfl, fun w' hb => ⟨fun q u hu => ?_, hpk.hold w' hb⟩⟩
      have h1 := hc q u hu
      exact (hb.cell (p := (x.add (j * 5)).add q) (World.block_lt_of_cell? W _ h1)).trans h1
    · obtain ⟨j, hj, rfl⟩ := List.mem_map.1 hy
      have := hfx j (by have := List.mem_range.1 hj; omega)
      exact this.2
    · simp only [Prod.mk.injEq] at hx
      exact .inr ⟨_, _, hx.1, by simp⟩
end
end Go.Proofs.Ythgmlopkcgkjlaa

/-
  Two disks that stay as they are while other blocks turn. Conditions: none.
-/
namespace Go.Proofs.Ythgmlopkcgkjlaa
open Go.RowKit

theorem Two.low {n0 n1 : Nat} {w : World} {gd gp gm cp : Nat} {Y : List Value} {k gr ga cap : Nat} {X : List Value} {M : DM} (h : Two n1 w gd gp gm cp Y k gr ga cap X M) (hn : n0 ≤ n1) : Two n0 w gd gp gm cp Y k gr ga cap X M := by
  obtain ⟨h1, h2, h3, h4, h5⟩ := h.b
  exact ⟨h.p, h.r, ⟨by omega, by omega, by omega, by omega, by omega⟩, h.e⟩
theorem Two.only {L : List Nat} {n0 : Nat} {w w' : World} {gd gp gm cp : Nat} {Y : List Value} {k gr ga cap : Nat} {X : List Value} {M : DM} (h : Two n0 w gd gp gm cp Y k gr ga cap X M) (ho : Only L w w') (hL : gd ∉ L ∧ gp ∉ L ∧ gm ∉ L ∧ gr ∉ L ∧ ga ∉ L) : Two n0 w' gd gp gm cp Y k gr ga cap X M :=
  ⟨h.p.only ho hL.1 hL.2.1 hL.2.2.1, h.r.only ho hL.2.2.2.1 hL.2.2.2.2, h.b, h.e⟩
end Go.Proofs.Ythgmlopkcgkjlaa

/-
  Rot in plain words: which byte of which page turns; twice is nothing. Bytes of strings. Conditions: none.
-/
namespace Go.Proofs.Ythgmlopkcgkjlaa
open Go.RowKit

theorem str_at (l : List UInt8) (k : Nat) (y : UInt8) (hy : l[k]? = some y) : ∀ h : k < (⟨l.toArray⟩ : ByteArray).size, (⟨l.toArray⟩ : ByteArray)[k]'h = y := fun h => by
  have h1 : k < l.length := (List.getElem?_eq_some_iff.1 hy).1
  have h2 := (List.getElem?_eq_some_iff.1 hy).2
  exact h2
theorem DM.ext {M N : DM} (h1 : M.ps = N.ps) (h2 : M.up = N.up) (h3 : M.trip = N.trip) : M = N := by
  cases M; cases N; cases h1; cases h2; cases h3; rfl
theorem DM.flip_flip (l : List UInt8) (b : Nat) (h : b / 8 < l.length) : DM.flip (DM.flip l b) b = l := by
  obtain ⟨y, hy⟩ : ∃ y, l[b / 8]? = some y := ⟨_, List.getElem?_eq_getElem h⟩
  unfold DM.flip
  rw [List.set_set, List.getD_eq_getElem?_getD, List.getD_eq_getElem?_getD, List.getElem?_set_self h, hy]
  simp only [Option.getD_some]
  rw [UInt8.xor_assoc, UInt8.xor_self, UInt8.xor_zero]
  apply List.ext_getElem?
  intro i
  by_cases hi : i = b / 8
  · subst hi
    rw [List.getElem?_set_self h, hy]
  · rw [List.getElem?_set_ne (fun e => hi e.symm)]
theorem rot_page {M : DM} {i b : Nat} (hi : i < M.ps.length) (hb : b < 1024) (k : Nat) (hk : k < M.ps.length) : ((M.rot (i : Int) (b : Int)).page k).old = if k = i then DM.flip (M.page k).old b else (M.page k).old := by
  have hfit : (M.okP (i : Int) && decide (0 ≤ (b : Int) ∧ (b : Int) < 1024)) = true := by
    unfold DM.okP
    rw [Bool.and_eq_true, decide_eq_true_eq, decide_eq_true_eq]; omega
  rw [(rot_good hfit).2, Int.toNat_natCast, Int.toNat_natCast]
  by_cases h : k = i
  · subst h
    rw [page_set_self hk, if_pos rfl]
  · rw [page_set_ne (fun e => h e.symm), if_neg h]
theorem rot_twice {M : DM} (hM : M.ok) {i b : Nat} (hi : i < M.ps.length) (hb : b < 1024) : (M.rot (i : Int) (b : Int)).rot (i : Int) (b : Int) = M := by
  have hfit : (M.okP (i : Int) && decide (0 ≤ (b : Int) ∧ (b : Int) < 1024)) = true := by
    unfold DM.okP
    rw [Bool.and_eq_true, decide_eq_true_eq, decide_eq_true_eq]; omega
  have hfit2 : ((M.rot (i : Int) (b : Int)).okP (i : Int) && decide (0 ≤ (b : Int) ∧ (b : Int) < 1024)) = true := by
    unfold DM.okP
    rw [DM.rot_len, Bool.and_eq_true, decide_eq_true_eq, decide_eq_true_eq]; omega
  rw [(rot_good hfit2).2, (rot_good hfit).2, Int.toNat_natCast, Int.toNat_natCast, page_set_self hi]
  simp only
  rw [DM.flip_flip _ _ (by rw [(DM.page_ok hM hi).1]; omega)]
  refine DM.ext ?_ rfl rfl
  show (M.ps.set i _).set i _ = M.ps
  rw [List.set_set]
  apply List.ext_getElem?
  intro k
  by_cases hk : k = i
  · subst hk
    rw [List.getElem?_set_self hi, DM.page_at hi]
  · rw [List.getElem?_set_ne (fun e => hk e.symm)]
/-- The byte that Rot leaves at a place. -/
theorem rot_byte {l : List UInt8} (hl : l.length = 128) (b nn : Nat) (hn : nn < 128) : ∃ y y2 : UInt8, l[nn]? = some y ∧ (DM.flip l b)[nn]? = some y2 ∧ (nn = b / 8 → bits .xor .u8 (y.toNat : Int) ((2 : Int) ^ (b % 8)) = (y2.toNat : Int)) ∧ (nn ≠ b / 8 → y2 = y) := by
  obtain ⟨y, hy⟩ : ∃ y, l[nn]? = some y := ⟨_, List.getElem?_eq_getElem (by omega)⟩
  by_cases h : nn = b / 8
  · refine ⟨y, y ^^^ UInt8.ofNat (2 ^ (b % 8)), hy, ?_, fun _ => ?_, fun h2 => absurd h h2⟩
    · unfold DM.flip
      rw [← h, List.getElem?_set_self (by omega), List.getD_eq_getElem?_getD, hy]; rfl
    · have := u8_xor y (UInt8.ofNat (2 ^ (b % 8)))
      rw [pow_byte (b % 8) (by omega)] at this
      rw [← this, Int.natCast_pow]; rfl
  · refine ⟨y, y, hy, ?_, fun h2 => absurd h2 h, fun _ => rfl⟩
    unfold DM.flip
    rw [List.getElem?_set_ne (fun e => h e.symm), hy]
theorem below_drewN {B : Nat} {a w : World} (h : Below B a w) (n : Nat) : Below B a (w.drewN n) := ⟨h.os, h.tape, h.output, h.size, h.block⟩
def InRel (w6 : World) (i : Value) (wr : World) : Prop := ∃ m : Nat, m ≤ 128 ∧ i = .int .i64 m ∧ Below w6.heap.size w6 wr
theorem xor_none (y : UInt8) : bits .xor .u8 (y.toNat : Int) 0 = (y.toNat : Int) := by
  have := u8_xor y 0
  rw [UInt8.xor_zero] at this
  exact this
theorem image_blk {w : World} {gi : Nat} {M : DM} (h : Blk w gi 9 (M.image.map S8)) {k : Nat} (hk : k < M.ps.length) : w.cell? ⟨gi, k, none⟩ = some (.string ⟨(M.page k).old.toArray⟩) := by
  refine h.cell ?_
  rw [List.getElem?_map, image_at hk]; rfl
end Go.Proofs.Ythgmlopkcgkjlaa

/-
  Reads in plain words; equal rows of texts and of numbers. Conditions: none.
-/
namespace Go.Proofs.Ythgmlopkcgkjlaa
open Go.RowKit

def rdRow (M : DM) (n : Nat) : List (List UInt8) := (List.range n).map fun (k : Nat) => M.readS (k : Int)
theorem rdRow_len (M : DM) (n : Nat) : (rdRow M n).length = n := by unfold rdRow; simp
theorem rdRow_at (M : DM) {n k : Nat} (h : k < n) : (rdRow M n)[k]? = some (M.readS (k : Int)) := by
  unfold rdRow
  rw [List.getElem?_map, List.getElem?_range h]; rfl
theorem okP_of {M : DM} {n k : Nat} (hn : M.ps.length = n) (h : k < n) : M.okP (k : Int) = true := by
  unfold DM.okP
  rw [decide_eq_true_eq]; omega
theorem readS_up {M : DM} (hu : M.up = true) {n k : Nat} (hn : M.ps.length = n) (h : k < n) : M.readS (k : Int) = (M.page k).now := by
  unfold DM.readS
  rw [if_pos hu, if_pos (okP_of hn h), Int.toNat_natCast]
theorem readE_up {M : DM} (hu : M.up = true) {n k : Nat} (hn : M.ps.length = n) (h : k < n) : M.readE (k : Int) = 0 := by
  unfold DM.readE
  rw [if_pos hu, if_pos (okP_of hn h)]
theorem sameTexts_img (A B : Option Addr) (ca cb n : Nat) (L : List (List UInt8)) (w : World) (hn : L.length = n) (hl : n ≤ 4096) (r1 : RowAt w A (L.map S8)) (r2 : RowAt w B (L.map S8)) :
    Calls Try.prog 28 #[.slice A n ca, .slice B n cb] w fun e w' => e = .returned (.bool true) ∧ Below w.heap.size w w' := by
  rw [S8_map] at r1 r2
  have h1 : (L.map fun l => (⟨l.toArray⟩ : ByteArray)).length = n := by rw [List.length_map]; exact hn
  subst h1
  exact sameTexts_eq A B ca cb _ w (by omega) r1 r2
/-- What a Write that succeeds leaves. -/
theorem write_page {M : DM} {j b : Nat} {s : List UInt8} (hj : j < M.ps.length) (k : Nat) (_hk : k < M.ps.length) : ((M.step.set j ⟨(M.page j).old, some (DM.put (M.page j).now b s)⟩).page k).now = if k = j then DM.put (M.page j).now b s else (M.page k).now := by
  have hj' : j < M.step.ps.length := by rw [DM.step_ps]; exact hj
  by_cases h : k = j
  · subst h
    rw [page_set_self hj', if_pos rfl]; rfl
  · rw [page_set_ne (fun e => h e.symm), if_neg h, DM.page_step]
theorem image_step (M : DM) : M.step.image = M.image := by unfold DM.image; rw [DM.step_ps]
end Go.Proofs.Ythgmlopkcgkjlaa

/-
  What a Flush keeps, in plain words. Conditions: none.
-/
namespace Go.Proofs.Ythgmlopkcgkjlaa
open Go.RowKit

theorem trip_step (M : DM) : (M.tripTo (-1)).step = M.tripTo (-1) := by
  unfold DM.step DM.tripTo
  simp
theorem flush_tripped {M : DM} (hu : M.up = true) : (M.tripTo (-1)).flushE = 0 ∧ (M.tripTo (-1)).flush = (M.tripTo (-1)).settled := by
  have hu' : (M.tripTo (-1)).up = true := hu
  have hs : (M.tripTo (-1)).step.up = true := by rw [trip_step]; exact hu
  obtain ⟨e1, e2⟩ := flush_good hu' hs
  exact ⟨e1, by rw [e2, trip_step]⟩
theorem pend_none {M : DM} (h : ∀ q ∈ M.ps, q.new = none) : M.pending = [] := by
  unfold DM.pending
  rw [List.filter_eq_nil_iff]
  intro i hi
  have := h _ (DM.page_mem (List.mem_range.1 hi))
  unfold Pg.pend
  rw [this]; simp
theorem mount_nothing {M : DM} (h : M.pending = []) (picks : List Int) : (M.mount picks).ps = M.ps := by
  unfold DM.mount
  rw [h]; rfl
theorem write_trip0 {M : DM} (hu : M.up = true) (h0 : 0 < M.ps.length) : (M.tripTo 0).writeE 0 0 ({ data := #[122] } : ByteArray).data.toList = 13 ∧ (M.tripTo 0).write 0 0 ({ data := #[122] } : ByteArray).data.toList = (M.tripTo 0).step := by
  have hfit : ((M.tripTo 0).okP 0 && DM.fits 0 ({ data := #[122] } : ByteArray).data.toList.length) = true := by
    rw [Bool.and_eq_true]
    refine ⟨?_, by decide⟩
    unfold DM.okP
    rw [decide_eq_true_eq]
    have : (M.tripTo 0).ps.length = M.ps.length := rfl
    omega
  have hs : (M.tripTo 0).step.up = false := by
    unfold DM.step
    rw [if_pos (show (M.tripTo 0).trip = 0 from rfl)]
  exact write_trip hu hfit hs
/-- Behind a Flush that succeeds, a failure and a Mount, the content is what was read. -/
theorem kept_image {M : DM} (hM : M.ok) (hu : M.up = true) {n : Nat} (hn : M.ps.length = n) (picks : List Int) :
    ((((M.tripTo (-1)).settled.tripTo 0).step).mount picks).image = rdRow (M.tripTo (-1)) n ∧ ((((M.tripTo (-1)).settled.tripTo 0).step).mount picks).pending = [] := by
  have hM1 := DM.tripTo_ok hM (n := -1) ⟨by omega, by omega⟩
  have hnone := settled_none hM1
  have hps : (((M.tripTo (-1)).settled.tripTo 0).step).ps = (M.tripTo (-1)).settled.ps := by rw [DM.step_ps]; rfl
  have hpend : (((M.tripTo (-1)).settled.tripTo 0).step).pending = [] := pend_none (by rw [hps]; exact hnone)
  have hmp := mount_nothing hpend picks
  refine ⟨?_, pend_none (by rw [hmp, hps]; exact hnone)⟩
  unfold DM.image
  rw [hmp, hps]
  apply List.ext_getElem?
  intro k
  rcases Nat.lt_or_ge k n with h | h
  · rw [rdRow_at _ h, readS_up (M := M.tripTo (-1)) hu hn h]
    have hk : k < (M.tripTo (-1)).ps.length := by show k < M.ps.length; omega
    have e : (M.tripTo (-1)).settled.ps = (M.tripTo (-1)).ps.map fun p => p.settle 128 := rfl
    rw [List.getElem?_map, e, List.getElem?_map, DM.page_at hk]
    simp only [Option.map_some, Option.some.injEq]
    rw [settle_all (DM.page_ok hM1 hk)]
    unfold Pg.pend Pg.now
    cases ((M.tripTo (-1)).page k).new <;> rfl
  · have e : ((M.tripTo (-1)).settled.ps.map Pg.old).length = n := by rw [List.length_map, settled_len]; exact hn
    rw [List.getElem?_eq_none (by omega), List.getElem?_eq_none (by rw [rdRow_len]; omega)]
end Go.Proofs.Ythgmlopkcgkjlaa

/-
  What a Mount leaves of each page, in plain words. Conditions: none.
-/
namespace Go.Proofs.Ythgmlopkcgkjlaa
open Go.RowKit

theorem pending_at {M : DM} {j : Nat} (hj : j < M.ps.length) (h : (M.page j).pend = true) : M.pending[(pendTo M j).length]? = some j := by
  obtain ⟨m, hm⟩ : ∃ m, M.ps.length = j + (m + 1) := ⟨M.ps.length - j - 1, by omega⟩
  unfold DM.pending pendTo
  rw [hm, List.range_add, List.filter_append, List.length_map, List.getElem?_append_right (Nat.le_refl _), Nat.sub_self, List.range_succ_eq_map, List.map_cons, List.filter_cons_of_pos (by simpa using h)]
  simp
theorem mount_page_no {M : DM} {j : Nat} (_hj : j < M.ps.length) (h : (M.page j).pend = false) (picks : List Int) : (M.mount picks).page j = M.page j := by
  refine mtTo_page M picks j M.pending.length (Nat.le_refl _) (fun m _ e => ?_)
  have := pending_pend (List.mem_of_getElem? e)
  rw [h] at this; cases this
theorem mtTo_pend {M : DM} {j k : Nat} (hk : M.pending[k]? = some j) (picks : List Int) : ∀ m, k < m → m ≤ M.pending.length → (mtTo M picks m).page j = (M.page j).settle (DM.pick picks k)
  | 0, h, _ => absurd h (Nat.not_lt_zero _)
  | m + 1, h, hm => by
    obtain ⟨a, ha⟩ : ∃ a, M.pending[m]? = some a := ⟨_, List.getElem?_eq_getElem (by omega)⟩
    rw [← mtTo_next M picks m a ha]
    by_cases hmk : m = k
    · subst hmk
      rw [hk] at ha
      injection ha with ha
      subst ha
      rw [page_set_self (by rw [mtTo_len]; exact pending_lt (List.mem_of_getElem? hk)), mtTo_at M picks m j hk]
    · have hne : a ≠ j := fun e => by
        subst e
        have := pending_nodup M
        obtain ⟨h1, e1⟩ := List.getElem?_eq_some_iff.1 ha
        obtain ⟨h2, e2⟩ := List.getElem?_eq_some_iff.1 hk
        rcases Nat.lt_or_gt_of_ne hmk with h | h
        · exact (List.pairwise_iff_getElem.1 this _ _ h1 h2 h) (e1.trans e2.symm)
        · exact (List.pairwise_iff_getElem.1 this _ _ h2 h1 h) (e2.trans e1.symm)
      rw [page_set_ne hne]
      exact mtTo_pend hk picks m (by omega) (by omega)
theorem mount_page_yes {M : DM} {j k : Nat} (hk : M.pending[k]? = some j) (picks : List Int) : (M.mount picks).page j = (M.page j).settle (DM.pick picks k) :=
  mtTo_pend hk picks M.pending.length (List.getElem?_eq_some_iff.1 hk).1 (Nat.le_refl _)
theorem pick_le (picks : List Int) (k : Nat) : DM.pick picks k ≤ 128 := by
  unfold DM.pick
  split <;> omega
theorem mount_read {M : DM} {n j : Nat} (hn : M.ps.length = n) (hj : j < n) (picks : List Int) : (M.mount picks).readE (j : Int) = 0 ∧ (M.mount picks).readS (j : Int) = ((M.mount picks).page j).now := by
  have hl : (M.mount picks).ps.length = n := by rw [DM.mount_len]; exact hn
  exact ⟨readE_up rfl hl hj, readS_up rfl hl hj⟩
theorem mount_read_no {M : DM} {n j : Nat} (hn : M.ps.length = n) (hj : j < n) (h : (M.page j).pend = false) (picks : List Int) : (M.mount picks).readS (j : Int) = (M.page j).old := by
  rw [(mount_read hn hj picks).2, mount_page_no (by omega) h]
  unfold Pg.pend at h
  unfold Pg.now
  cases hw : (M.page j).new with
  | none => rfl
  | some l => rw [hw] at h; cases h
theorem mount_read_yes {M : DM} {n j k : Nat} {l : List UInt8} (hn : M.ps.length = n) (hj : j < n) (hk : M.pending[k]? = some j) (hl : (M.page j).new = some l) (picks : List Int) : (M.mount picks).readS (j : Int) = l.take (DM.pick picks k) ++ (M.page j).old.drop (DM.pick picks k) := by
  rw [(mount_read hn hj picks).2, mount_page_yes hk]
  unfold Pg.settle
  rw [hl]; rfl
end Go.Proofs.Ythgmlopkcgkjlaa

/-
  Chapter 5's journals in plain words: how many bytes records use, the stream of records, its sum and its head. Conditions: none.
-/
namespace Go.Proofs.Ythgmlopkcgkjlaa
open Go.RowKit

namespace JM
def useR : List ByteArray → Nat
  | [] => 0
  | r :: l => 2 + r.size + useR l
def recB (r : ByteArray) : List UInt8 := UInt8.ofNat (r.size / 256) :: UInt8.ofNat r.size :: r.data.toList
def stream (l : List ByteArray) : List UInt8 := l.flatMap recB
theorem recB_length (r : ByteArray) : (recB r).length = 2 + r.size := by
  unfold recB
  rw [List.length_cons, List.length_cons, bytes_size]; omega
theorem stream_length : ∀ l, (stream l).length = useR l
  | [] => rfl
  | r :: l => by
    unfold stream
    rw [List.flatMap_cons, List.length_append, recB_length]
    show _ + (stream l).length = _
    rw [stream_length l]; rfl
theorem useR_append : ∀ a b, useR (a ++ b) = useR a + useR b
  | [], b => by simp [useR]
  | r :: a, b => by
    show 2 + r.size + useR (a ++ b) = 2 + r.size + useR a + useR b
    rw [useR_append a b]; omega
theorem useR_next (l : List ByteArray) (j : Nat) (r : ByteArray) (h : l[j]? = some r) : useR (l.take (j + 1)) = useR (l.take j) + (2 + r.size) := by
  rw [List.take_add_one, h, useR_append]
  show _ + (2 + r.size + 0) = _
  omega
theorem useR_take (l : List ByteArray) (j : Nat) : useR (l.take j) ≤ useR l := by
  have := useR_append (l.take j) (l.drop j)
  rw [List.take_append_drop] at this
  omega
theorem useR_mem {l : List ByteArray} {r : ByteArray} (h : r ∈ l) : 2 + r.size ≤ useR l := by
  obtain ⟨j, hj, e⟩ := List.mem_iff_getElem.1 h
  have h1 := useR_next l j r (by rw [← e]; exact List.getElem?_eq_getElem hj)
  have h2 := useR_take l (j + 1)
  omega
theorem useR_count (l : List ByteArray) : 2 * l.length ≤ useR l := by
  induction l with
  | nil => exact Nat.le_refl _
  | cons r l ih =>
    show 2 * (l.length + 1) ≤ 2 + r.size + useR l
    omega
def P : Nat := 1099511628211
def W : Nat := 18446744073709551616
def mix (s : Nat) (b : UInt8) : Nat := (s + b.toNat + 1) * P % W
def sumF (s : Nat) (l : List UInt8) : Nat := l.foldl mix s
theorem W_pos : 0 < W := by decide +kernel
theorem mix_lt (s : Nat) (b : UInt8) : mix s b < W := Nat.mod_lt _ W_pos
theorem sumF_lt : ∀ (l : List UInt8) (s : Nat), s < W → sumF s l < W
  | [], _, h => h
  | b :: l, s, _ => sumF_lt l (mix s b) (mix_lt s b)
theorem sumF_append (s : Nat) (a b : List UInt8) : sumF s (a ++ b) = sumF (sumF s a) b := by unfold sumF; rw [List.foldl_append]
theorem foldl_one {α β : Type} (f : β → α → β) (s : β) (b : α) : [b].foldl f s = f s b := rfl
theorem sumF_next (s : Nat) (l : List UInt8) (j : Nat) (b : UInt8) (h : l[j]? = some b) : sumF s (l.take (j + 1)) = mix (sumF s (l.take j)) b := by
  rw [List.take_add_one, h, sumF_append]
  unfold sumF
  exact foldl_one mix _ b
theorem P_inv : P * 14886173955864302971 % W = 1 := by decide +kernel
/-- Multiplying by the prime loses nothing. -/
theorem mul_inj_gen (p q w x y : Nat) (hpq : p * q % w = 1) (hx : x < w) (hy : y < w) (h : x * p % w = y * p % w) : x = y := by
  have h2 : x * p % w * q % w = y * p % w * q % w := by rw [h]
  have e : ∀ z, z < w → z * p % w * q % w = z := fun z hz => by
    rw [Nat.mod_mul_mod, Nat.mul_assoc, Nat.mul_mod, hpq, Nat.mul_one, Nat.mod_mod, Nat.mod_eq_of_lt hz]
  rw [e x hx, e y hy] at h2
  exact h2
theorem mix_gen (a b p q w : Nat) (hpq : p * q % w = 1) (hw : 0 < w) (h : a * p % w = b * p % w) : a % w = b % w :=
  mul_inj_gen p q w _ _ hpq (Nat.mod_lt _ hw) (Nat.mod_lt _ hw) (by rw [Nat.mod_mul_mod, Nat.mod_mul_mod]; exact h)
theorem mix_eq {s s' : Nat} {b b' : UInt8} (h : mix s b = mix s' b') : (s + b.toNat + 1) % W = (s' + b'.toNat + 1) % W := mix_gen _ _ P _ W P_inv W_pos h
theorem mod_same (s s' b w : Nat) (hs : s < w) (hs' : s' < w) (h : (s + b + 1) % w = (s' + b + 1) % w) : s = s' := by
  have e1 := Nat.div_add_mod (s + b + 1) w
  have e2 := Nat.div_add_mod (s' + b + 1) w
  rw [h] at e1
  rcases Nat.lt_trichotomy ((s + b + 1) / w) ((s' + b + 1) / w) with h1 | h1 | h1
  · have := Nat.mul_le_mul_left w h1
    rw [Nat.mul_succ] at this
    omega
  · rw [h1] at e1; omega
  · have := Nat.mul_le_mul_left w h1
    rw [Nat.mul_succ] at this
    omega
theorem mod_byte (s b b' w : Nat) (hw : 256 ≤ w) (hb : b < 256) (hb' : b' < 256) (h : (s + b + 1) % w = (s + b' + 1) % w) : b = b' := by
  have e1 := Nat.div_add_mod (s + b + 1) w
  have e2 := Nat.div_add_mod (s + b' + 1) w
  rw [h] at e1
  rcases Nat.lt_trichotomy ((s + b + 1) / w) ((s + b' + 1) / w) with h1 | h1 | h1
  · have := Nat.mul_le_mul_left w h1
    rw [Nat.mul_succ] at this
    omega
  · rw [h1] at e1; omega
  · have := Nat.mul_le_mul_left w h1
    rw [Nat.mul_succ] at this
    omega
theorem W_big : 256 ≤ W := by decide +kernel
theorem mix_inj {s s' : Nat} {b : UInt8} (hs : s < W) (hs' : s' < W) (h : mix s b = mix s' b) : s = s' := by
  have h1 := mix_eq h
  exact mod_same _ _ b.toNat W hs hs' h1
theorem mix_byte {s : Nat} {b b' : UInt8} (h : mix s b = mix s b') : b = b' := by
  have h1 := mix_eq h
  have h2 := b.toNat_lt
  have h3 := b'.toNat_lt
  apply UInt8.toNat_inj.1
  exact mod_byte s _ _ W W_big h2 h3 h1
theorem sumF_inj : ∀ (l : List UInt8) {s s' : Nat}, s < W → s' < W → sumF s l = sumF s' l → s = s'
  | [], _, _, _, _, h => h
  | b :: l, s, s', hs, hs', h => mix_inj hs hs' (sumF_inj l (mix_lt s b) (mix_lt s' b) h)
/-- Streams that differ in one byte have different sums. -/
theorem sumF_set {l : List UInt8} {k : Nat} {b : UInt8} {s : Nat} (hk : k < l.length) (h : sumF s (l.set k b) = sumF s l) : l[k]? = some b := by
  obtain ⟨c, hc⟩ : ∃ c, l[k]? = some c := ⟨_, List.getElem?_eq_getElem hk⟩
  have e1 : l = l.take k ++ c :: l.drop (k + 1) := by
    have h1 := List.take_append_drop k l
    rw [List.drop_eq_getElem_cons hk] at h1
    have h2 : l[k] = c := by have := (List.getElem?_eq_some_iff.1 hc).2; exact this
    rw [h2] at h1
    exact h1.symm
  have e2 : l.set k b = l.take k ++ b :: l.drop (k + 1) := by
    rw [List.set_eq_take_append_cons_drop, if_pos hk]
  have h3 : sumF s (l.take k ++ b :: l.drop (k + 1)) = sumF s (l.take k ++ c :: l.drop (k + 1)) := by rw [← e2, ← e1]; exact h
  rw [sumF_append, sumF_append] at h3
  have h4 := sumF_inj (l.drop (k + 1)) (mix_lt _ b) (mix_lt _ c) h3
  rw [hc, mix_byte h4]
end JM
end Go.Proofs.Ythgmlopkcgkjlaa

/-
  Contracts of the walks over journal.use and the reference's Used: how many bytes records use. Conditions: the row lies there; few bytes.
-/
namespace Go.Proofs.Ythgmlopkcgkjlaa
open Go.RowKit

set_option maxRecDepth 100000 in
theorem use_any (A : Option Addr) (c : Nat) (l : List ByteArray) (w : World) (hu : JM.useR l ≤ 1000000) (hA : RowAt w A (l.map Value.string)) :
    Calls Try.prog 79 #[.slice A l.length c] w fun e w' => e = .returned (.int .i64 (JM.useR l : Nat)) ∧ w = w' := by
  have HA := Lib.hid hA.map
  obtain ⟨n, hn⟩ : ∃ n, Hid (l.length = n) := ⟨_, rfl⟩
  obtain ⟨U, hU⟩ : ∃ U, Hid (JM.useR l = U) := ⟨_, rfl⟩
  have hcnt := JM.useR_count l
  rw [hn.out, hU.out] at hcnt
  rw [hn.out, hU.out]
  rw [hU.out] at hu
  have hn6 : n ≤ 1000000 := by omega
  clear hcnt
  clear hA
  go_enter Try.func79, Try.ntmps79
  go_wp2
  go_loopw [3, 8] (fun m i wr => ∃ j : Nat, j ≤ n ∧ i = .int .i64 j ∧ m = .int .i64 (JM.useR (l.take j) : Nat) ∧ w = wr) (fun _ i _ => n - natOf i)
  case atStart => exact ⟨0, Nat.zero_le _, rfl, rfl, rfl⟩
  case round =>
    obtain ⟨j, hj, rfl, rfl, rfl⟩ := hrel
    by_cases hjn : j < n
    · have hji : (j : Int) < (n : Int) := by omega
      obtain ⟨r, hr⟩ : ∃ r, l[j]? = some r := ⟨_, List.getElem?_eq_getElem (by rw [hn.out]; exact hjn)⟩
      obtain ⟨g, rfl, hc⟩ := HA.out j r hr
      have hnx := JM.useR_next l j r hr
      have hle := JM.useR_take l (j + 1)
      rw [hU.out] at hle
      obtain ⟨v, hv⟩ : ∃ v, JM.useR (l.take j) = v := ⟨_, rfl⟩
      rw [hv] at hnx
      rw [hv]
      have HNX := Lib.hid hnx
      have hb : v + (2 + r.size) ≤ 1000000 := by omega
      clear hr hnx hle hv hj
      go_wp2
      go_roundw
      case rel => exact ⟨j + 1, by omega, by go_num, by rw [HNX.out]; go_num, by first | exact rfl | exact trivial⟩
      case measure => simp [natOf]; omega
    · obtain rfl : j = n := by omega
      rw [← hn.out, List.take_length, hU.out]
      go_wp2
      go_ret
      exact ⟨rfl, rfl⟩
end Go.Proofs.Ythgmlopkcgkjlaa

/-
  Contracts of the walks over the reference's Text, Texts and Same. Conditions: short texts; the rows lie there.
-/
namespace Go.Proofs.Ythgmlopkcgkjlaa
open Go.RowKit

/-- A call of a script. -/
structure OpJ where
  kind : Int
  n : Int
  k : Int
  fill : UInt8
def OpJ.text (x : OpJ) : ByteArray := ⟨(List.replicate x.n.toNat x.fill).toArray⟩
def OpJ.texts (x : OpJ) : List ByteArray := List.replicate x.k.toNat x.text
theorem rep_map (n : Nat) (b : UInt8) : (List.replicate n b).map B8 = List.replicate n (.int .u8 (b.toNat : Int)) := by rw [List.map_replicate]; rfl
theorem rep_snoc {α : Type} (n : Nat) (x : α) : List.replicate n x ++ [x] = List.replicate (n + 1) x := by rw [List.replicate_succ']
theorem Try.sizeJ : (Try.prog.info? 75).map (·.size) = some 4 := by kernel_rfl
theorem holds_of_row {w : World} {A : Option Addr} {xs : List Value} (h : RowAt w A xs) : Holds w A xs := fun k u hu => by
  obtain ⟨g, rfl, hc⟩ := h k u hu
  exact ⟨_, rfl, by rw [addr_mid, Nat.zero_add]; exact hc⟩
set_option maxRecDepth 100000 in
set_option maxHeartbeats 800000 in
theorem text_any (kind n k : Int) (fill : UInt8) (sT : ByteArray) (w : World) (hn : n ≤ 8200) (hs : (⟨kind, n, k, fill⟩ : OpJ).text = sT) :
    Calls Try.prog 49 #[.agg #[.int .i64 kind, .int .i64 n, .int .i64 k, .int .u8 (fill.toNat : Int)]] w fun e w' => e = .returned (.string sT) ∧ Below w.heap.size w w' := by
  obtain ⟨i0, hi, hz0, hz1, hz2⟩ := info_parts Try.infoB
  obtain ⟨N, hN⟩ : ∃ N, n.toNat = N := ⟨_, rfl⟩
  have hfin : Hid ((⟨(List.replicate N fill).toArray⟩ : ByteArray) = sT) := by
    have : (⟨(List.replicate N fill).toArray⟩ : ByteArray) = sT := by rw [← hs, ← hN]; rfl
    exact this
  have hNn : n ≤ (N : Int) := by omega
  have hNn2 : ∀ j : Nat, j < N → (j : Int) < n := fun j hj => by omega
  have HNN := Lib.hid hNn2
  have hN8 : N ≤ 8200 := by omega
  clear hs hN hNn2
  go_enter Try.func49, Try.ntmps49
  go_wp2_with (with_reducible refine wpList_box (o := ⟨some 1, .box 75 (.tmp 0), _, _, _, _⟩) ?g2 75 (.tmp 0) ?o2 (.agg #[.int .i64 kind, .int .i64 n, .int .i64 k, .int .u8 (fill.toNat : Int)]) [.int .i64 kind, .int .i64 n, .int .i64 k, .int .u8 (fill.toNat : Int)] ?x2 ?c2 ?_)
  try (case g2 => rfl)
  try (case o2 => rfl)
  try (case x2 => rfl)
  try (case c2 => rfl)
  intro gb w1 hgb hs1 hb1 hB1
  have hle : w.heap.size ≤ gb := Nat.le_of_eq hgb.out.symm
  have hbel1 : Below w.heap.size w w1 := hb1.mono hle
  have hB1' : Blk w1 gb 75 [.int .i64 kind, .int .i64 n, .int .i64 k, .int .u8 (fill.toNat : Int)] := hB1
  clear hb1 hs1 hB1 hgb
  go_wp2
  go_loopw [3, 4] (fun v i wr => ∃ j : Nat, j ≤ N ∧ i = .int .i64 j ∧ wr.ownsRow w1.heap.size 5 1 v j (List.replicate j (.int .u8 (fill.toNat : Int))) ∧ Below w1.heap.size w1 wr) (fun _ i _ => N - natOf i)
  case atStart => exact ⟨0, Nat.zero_le _, rfl, World.ownsRow_nil _ _ _ _, Below.refl _ _⟩
  case round =>
    obtain ⟨j, hj, rfl, hown, hbr⟩ := hrel
    obtain ⟨A, c, rfl⟩ := own_shape hown
    have hBr := hB1'.next hbr hB1'.lt
    have k1 := hBr.cell (k := 1) rfl
    have k3 := hBr.cell (k := 3) rfl
    have hsz := hbr.size
    have hlt := hown.lt
    by_cases hjn : j < N
    · have hji : (j : Int) < n := HNN.out j hjn
      have hnx : Hid (List.replicate j (Value.int .u8 (fill.toNat : Int)) ++ [.int .u8 (fill.toNat : Int)] = List.replicate (j + 1) (.int .u8 (fill.toNat : Int))) := by
        have := rep_snoc j (Value.int .u8 (fill.toNat : Int))
        exact this
      obtain ⟨XS, hXS⟩ : ∃ XS, Hid (List.replicate j (Value.int .u8 (fill.toNat : Int)) = XS) := ⟨_, rfl⟩
      rw [hXS.out] at hown hnx
      clear hj hXS hBr
      go_wp2_with (at_builtin; refine wpList_append_own _ rfl _ _ 110 rfl w1.heap.size 5 i0 _ 1 1 Try.underlying110 hi hz0 hz1 hz2 rfl (by decide) _ _ _ rfl (hown.alloc _) ⟨wr.heap.size, 0, none⟩ 1 1 [.int .u8 (fill.toNat : Int)] rfl (by with_unfolding_all rfl) (fun j u hu => one_cellV hu) (one_cell1 rfl) (by unfold maxLen; omega) (by omega) (by with_unfolding_all (simp; omega)) ?_)
      intro v3 w3 hown3 hgrow3 _
      have hbr3 := (hbr.alloc hsz (.cells #[.int .u8 (fill.toNat : Int)] 5)).grown hgrow3 (by simp; omega) (fun j hj => (hlt j hj).1)
      rw [hnx.out] at hown3
      clear hown hlt hgrow3 hbr k1 k3
      go_wp2
      go_roundw
      case rel => exact ⟨j + 1, by omega, by go_num, hown3, hbr3⟩
      case measure => simp [natOf]; omega
    · obtain rfl : j = N := by omega
      have hjn2 : n ≤ (j : Int) := hNn
      have hrow := RowAt.of_own hown
      rw [← rep_map] at hrow
      have hcv := run_conv_at wr A c j (List.replicate j fill) (by rw [List.length_replicate]) (holds_of_row hrow)
      rw [hfin.out] at hcv
      have hbz := hbel1.trans (hbr.mono hbel1.size)
      clear hj hjn hown hlt hrow hBr
      go_wp2
      go_ret
      exact ⟨rfl, hbz⟩
set_option maxRecDepth 100000 in
set_option maxHeartbeats 800000 in
theorem texts_any (kind n k : Int) (fill : UInt8) (w : World) (hn : n ≤ 8200) (hk : k ≤ 20) :
    Calls Try.prog 75 #[.agg #[.int .i64 kind, .int .i64 n, .int .i64 k, .int .u8 (fill.toNat : Int)]] w fun e w' => ∃ v, e = .returned v ∧ w'.ownsRow w.heap.size 9 1 v (⟨kind, n, k, fill⟩ : OpJ).texts.length ((⟨kind, n, k, fill⟩ : OpJ).texts.map Value.string) ∧ Below w.heap.size w w' := by
  obtain ⟨i0, hi, hz0, hz1, hz2⟩ := info_parts Try.infoS
  obtain ⟨N, hN⟩ : ∃ N, k.toNat = N := ⟨_, rfl⟩
  obtain ⟨sT, hs⟩ : ∃ sT, Hid ((⟨kind, n, k, fill⟩ : OpJ).text = sT) := ⟨_, rfl⟩
  have hfin : Hid ((⟨kind, n, k, fill⟩ : OpJ).texts = List.replicate N sT) := by
    have : (⟨kind, n, k, fill⟩ : OpJ).texts = List.replicate N sT := by rw [← hs.out, ← hN]; rfl
    exact this
  have hNn : k ≤ (N : Int) := by omega
  have hNn2 : ∀ j : Nat, j < N → (j : Int) < k := fun j hj => by omega
  have HNN := Lib.hid hNn2
  have hN8 : N ≤ 20 := by omega
  clear hN hNn2
  go_enter Try.func75, Try.ntmps75
  go_wp2_with (with_reducible refine wpList_box (o := ⟨some 1, .box 75 (.tmp 0), _, _, _, _⟩) ?g2 75 (.tmp 0) ?o2 (.agg #[.int .i64 kind, .int .i64 n, .int .i64 k, .int .u8 (fill.toNat : Int)]) [.int .i64 kind, .int .i64 n, .int .i64 k, .int .u8 (fill.toNat : Int)] ?x2 ?c2 ?_)
  try (case g2 => rfl)
  try (case o2 => rfl)
  try (case x2 => rfl)
  try (case c2 => rfl)
  intro gb w1 hgb hs1 hb1 hB1
  have hle : w.heap.size ≤ gb := Nat.le_of_eq hgb.out.symm
  have hbel1 : Below w.heap.size w w1 := hb1.mono hle
  have hB1' : Blk w1 gb 75 [.int .i64 kind, .int .i64 n, .int .i64 k, .int .u8 (fill.toNat : Int)] := hB1
  have hun := Try.underlying75
  clear hb1 hs1 hB1 hgb
  go_wp2
  go_loopw [3, 4] (fun v i wr => ∃ j : Nat, j ≤ N ∧ i = .int .i64 j ∧ wr.ownsRow w1.heap.size 9 1 v j (List.replicate j (.string sT)) ∧ Below w1.heap.size w1 wr) (fun _ i _ => N - natOf i)
  case atStart => exact ⟨0, Nat.zero_le _, rfl, World.ownsRow_nil _ _ _ _, Below.refl _ _⟩
  case round =>
    obtain ⟨j, hj, rfl, hown, hbr⟩ := hrel
    obtain ⟨A, c, rfl⟩ := own_shape hown
    have hBr := hB1'.next hbr hB1'.lt
    have k2 := hBr.cell (k := 2) rfl
    by_cases hjn : j < N
    · have hji : (j : Int) < k := HNN.out j hjn
      have hnx : Hid (List.replicate j (Value.string sT) ++ [.string sT] = List.replicate (j + 1) (.string sT)) := by
        have := rep_snoc j (Value.string sT)
        exact this
      obtain ⟨XS, hXS⟩ : ∃ XS, Hid (List.replicate j (Value.string sT) = XS) := ⟨_, rfl⟩
      rw [hXS.out] at hown hnx
      clear hj hXS
      go_wp2_with (first | (with_reducible refine wpList_get (o := ⟨some 12, .load 75 (.tmp 1), _, _, _, _⟩) (by with_unfolding_all rfl) 75 (.tmp 1) (by with_unfolding_all rfl) gb 0 (by with_unfolding_all rfl) hBr [.int .i64 kind, .int .i64 n, .int .i64 k, .int .u8 (fill.toNat : Int)] (cs_all _) _ (by with_unfolding_all exact hun) (by with_unfolding_all rfl) (by with_unfolding_all exact Try.sizeJ) ?_) | fail)
      (with_reducible refine (text_any kind n k fill sT _ hn hs.out).mono ?_)
      rintro e w2 ⟨rfl, hb2⟩
      have hown2 := own_only hown (Only.of_below (L := []) hb2) (by simp)
      have hbr2 := below_join hbr hb2
      have hsz2 := hbr2.size
      have hlt := hown2.lt
      clear hown hbr hb2 hBr k2
      go_wp2_with (at_builtin; refine wpList_append_own _ rfl _ _ 43 rfl w1.heap.size 9 i0 _ 1 16 Try.underlying43 hi hz0 hz1 hz2 rfl (by decide) _ _ _ rfl (hown2.alloc _) ⟨w2.heap.size, 0, none⟩ 1 1 [.string sT] rfl (by with_unfolding_all rfl) (fun j u hu => one_cellV hu) (one_cell1 rfl) (by unfold maxLen; omega) (by omega) (by with_unfolding_all (simp; omega)) ?_)
      intro v3 w3 hown3 hgrow3 _
      have hbr3 := (hbr2.alloc hsz2 (.cells #[.string sT] 9)).grown hgrow3 (by simp; omega) (fun j hj => (hlt j hj).1)
      rw [hnx.out] at hown3
      clear hown2 hlt hgrow3 hbr2
      go_wp2
      go_roundw
      case rel => exact ⟨j + 1, by omega, by go_num, hown3, hbr3⟩
      case measure => simp [natOf]; omega
    · obtain rfl : j = N := by omega
      have hjn2 : k ≤ (j : Int) := hNn
      have hbz := hbel1.trans (hbr.mono hbel1.size)
      have hown' := ownsRow_base_a hown hbel1.size
      clear hj hjn hown hBr
      go_wp2
      go_ret
      refine ⟨_, rfl, ?_, hbz⟩
      rw [hfin.out, List.length_replicate, List.map_replicate]
      exact hown'
theorem str_ne {a b : ByteArray} (h : a ≠ b) : (a.toList == b.toList) = false := by
  refine beq_eq_false_iff_ne.2 (fun e => h ?_)
  rw [ByteArray.toList_eq, ByteArray.toList_eq] at e
  exact str_ext e
/-- Whether two rows hold the same texts. -/
theorem take_eq_next {xs ys : List ByteArray} {j : Nat} {x : ByteArray} (hx : xs[j]? = some x) (hy : ys[j]? = some x) (h : xs.take j = ys.take j) : xs.take (j + 1) = ys.take (j + 1) := by
  rw [List.take_add_one, List.take_add_one, hx, hy, h]
set_option maxRecDepth 100000 in
set_option maxHeartbeats 800000 in
theorem same2_any (A B : Option Addr) (ca cb : Nat) (xs ys : List ByteArray) (w : World) (hl6 : xs.length ≤ 1000000) (hA : RowAt w A (xs.map Value.string)) (hB : RowAt w B (ys.map Value.string)) :
    Calls Try.prog 41 #[.slice A xs.length ca, .slice B ys.length cb] w fun e w' => e = .returned (.bool (decide (xs = ys))) ∧ Below w.heap.size w w' := by
  have HA := Lib.hid hA.map
  have HB := Lib.hid hB.map
  by_cases hl : xs.length = ys.length
  · rw [← hl]
    obtain ⟨n, hn⟩ : ∃ n, Hid (xs.length = n) := ⟨_, rfl⟩
    have hn2 : Hid (ys.length = n) := by
      have : ys.length = n := by rw [← hl]; exact hn.out
      exact this
    rw [hn.out] at hl6
    rw [hn.out]
    clear hA hB hl
    go_enter Try.func41, Try.ntmps41
    go_wp2
    go_loopw [5] (fun i wr => ∃ j : Nat, j ≤ n ∧ i = .int .i64 j ∧ xs.take j = ys.take j ∧ Below w.heap.size w wr) (fun i _ => n - natOf i)
    case atStart => exact ⟨0, Nat.zero_le _, rfl, rfl, Below.refl _ _⟩
    case round =>
      obtain ⟨j, hj, rfl, heq, hbr⟩ := hrel
      by_cases hjn : j < n
      · have hji : (j : Int) < (n : Int) := by omega
        obtain ⟨x, hx⟩ : ∃ x, xs[j]? = some x := ⟨_, List.getElem?_eq_getElem (by rw [hn.out]; exact hjn)⟩
        obtain ⟨y, hy⟩ : ∃ y, ys[j]? = some y := ⟨_, List.getElem?_eq_getElem (by rw [hn2.out]; exact hjn)⟩
        obtain ⟨g, rfl, hc⟩ := HA.out j x hx
        obtain ⟨g', rfl, hc'⟩ := HB.out j y hy
        have hS1 := (hbr.cell (p := ⟨g, j, none⟩) (World.block_lt_of_cell? w _ hc)).trans hc
        have hS2 := (hbr.cell (p := ⟨g', j, none⟩) (World.block_lt_of_cell? w _ hc')).trans hc'
        have HEQ := Lib.hid heq
        have HX := Lib.hid hx
        have HY := Lib.hid hy
        clear hc hc' hx hy heq hj
        by_cases hxy : x = y
        · subst hxy
          go_wp2
          go_quiet (fail)
          have hbr2 := below_drewN hbr nq
          generalize wr.drewN nq = wq at hbr2 ⊢
          clear hbr hS1 hS2
          go_wp2
          go_roundw
          case rel => exact ⟨j + 1, by omega, by go_num, take_eq_next HX.out HY.out HEQ.out, hbr2⟩
          case measure => simp [natOf]; omega
        · have hfin : Hid (decide (xs = ys) = false) := by
            have : decide (xs = ys) = false := decide_eq_false (fun e => by
              have h1 := HX.out
              have h2 := HY.out
              rw [e, h2] at h1
              injection h1 with h1
              exact hxy h1.symm)
            exact this
          have hne := str_ne hxy
          clear hxy
          go_wp2
          go_quiet (fail)
          have hbr2 := below_drewN hbr nq
          generalize wr.drewN nq = wq at hbr2 ⊢
          clear hbr hS1 hS2
          go_wp2
          go_ret
          exact ⟨by rw [hfin.out]; rfl, hbr2⟩
      · obtain rfl : j = n := by omega
        have hfin : Hid (decide (xs = ys) = true) := by
          have : decide (xs = ys) = true := decide_eq_true (by
            have h1 := heq
            rw [List.take_of_length_le (Nat.le_of_eq hn.out), List.take_of_length_le (Nat.le_of_eq hn2.out)] at h1
            exact h1)
          exact this
        clear heq hj hjn
        go_wp2
        go_ret
        exact ⟨by rw [hfin.out]; rfl, hbr⟩
  · have hfin : decide (xs = ys) = false := decide_eq_false (fun e => hl (by rw [e]))
    rw [hfin]
    have hne : ((xs.length : Int) != (ys.length : Int)) = true := bne_iff_ne.2 (by omega)
    clear hA hB hfin
    go_enter Try.func41, Try.ntmps41
    go_wp2
    go_ret
    exact ⟨rfl, Below.refl _ _⟩
end Go.Proofs.Ythgmlopkcgkjlaa

/-
  The reference's journal in memory; contracts of the walks over its Used, New, Append. Conditions: the rows lie there; few bytes.
-/
namespace Go.Proofs.Ythgmlopkcgkjlaa
open Go.RowKit

theorem RowAt.only {L : List Nat} {w w' : World} {A : Option Addr} {xs : List Value} (h : RowAt w A xs) (ho : Only L w w') (hA : ∀ g, A = some ⟨g, 0, none⟩ → g ∉ L) : RowAt w' A xs := fun k u hu => by
  obtain ⟨g, e, hc⟩ := h k u hu
  exact ⟨g, e, (World.cell?_of_block (a := ⟨g, k, none⟩) (ho.block g (World.block_lt_of_cell? w _ hc) (hA g e))).trans hc⟩
set_option maxRecDepth 100000 in
theorem run_appS (w : World) (A : Option Addr) (m c : Nat) (ys : List Value) (ty : TypeId) (hrow : RowAt w A ys) (hl : ys.length = m) (h1 : ∀ u ∈ ys, u.oneCell' = true) (hm : m ≤ 1000000) :
    ∃ v' w', (Builtin.append_ #[43, 43] ty #[.slice none 0 0, .slice A m c]).run Try.prog w = .ok v' w' ∧ w'.ownsRow w.heap.size 9 1 v' m ys ∧ Below w.heap.size w w' := by
  obtain ⟨i0, hi, hz0, hz1, hz2⟩ := info_parts Try.infoS
  cases A with
  | none =>
    have hys : ys = [] := by
      cases ys with
      | nil => rfl
      | cons y ys => obtain ⟨g, e, _⟩ := hrow 0 y rfl; cases e
    subst hys
    have hm0 : m = 0 := hl.symm
    subst hm0
    refine ⟨.slice none 0 0, w, ?_, World.ownsRow_nil _ _ _ _, Below.refl _ _⟩
    simp [Builtin.append_, run_underlying Try.underlying43, sizeOf, typeInfo, hi, Builtin.lenOf, Builtin.firstCells]
  | some ad =>
    obtain ⟨v', w', hr, h2, h3, _⟩ := run_append_own (P := Try.prog) w w.heap.size 43 ty 9 i0 _ 1 16 Try.underlying43 hi hz0 hz1 hz2 rfl (by decide) (.slice none 0 0) 0 [] (World.ownsRow_nil _ _ _ _) ad m c ys (by rw [hl]; omega) (fun j u hu => by
      obtain ⟨g, e, hc⟩ := hrow j u hu
      injection e with e
      rw [e, addr_mid, Nat.zero_add]; exact hc) h1 (by unfold maxLen; omega) (by omega) (Nat.le_refl _)
    refine ⟨v', w', hr, ?_, (Below.refl _ _).grown h3 (Nat.le_refl _) (fun k hk => by cases hk)⟩
    rw [Nat.zero_add, List.nil_append] at h2
    exact h2
theorem wpList_appS {ops : Array Oper} {rest : List Oper} {o : Oper} {a : Act} {w : World} {Q : Exit → Act → World → Prop} (hgd : o.guard = none) (s x : Operand)
    (ho : o.op = .call { callee := .builtin .append, args := #[s, x], argTypes := #[43, 43] }) (hs : a.eval s = .slice none 0 0)
    (A : Option Addr) (m c : Nat) (ys : List Value) (hx : a.eval x = .slice A m c) (hrow : RowAt w A ys) (hl : ys.length = m) (h1 : ∀ u ∈ ys, u.oneCell' = true) (hm : m ≤ 1000000)
    (h : ∀ v' w', w'.ownsRow w.heap.size 9 1 v' m ys → Below w.heap.size w w' → wpList Try.prog ops Q rest (a.put o.dst v') w') : wpList Try.prog ops Q (o :: rest) a w := by
  refine wpList_plain hgd fun K hK => ?_
  obtain ⟨v', w', hr, h2, h3⟩ := run_appS w A m c ys o.type hrow hl h1 hm
  unfold Oper.wp execOp
  simp only [ho, resolve, invoke, builtin, Sem.run_bind, Sem.run_pure, Result.andThen_ok, List.map_toArray, List.map_cons, List.map_nil, hs, hx, hr]
  exact hK _ _ (h v' w' h2 h3)
theorem strs_one (l : List ByteArray) : ∀ u ∈ l.map Value.string, u.oneCell' = true := fun u hu => by
  obtain ⟨s, _, rfl⟩ := List.mem_map.1 hu
  rfl
set_option maxRecDepth 100000 in
theorem rused_any (A : Option Addr) (c : Nat) (l : List ByteArray) (w : World) (hu : JM.useR l ≤ 1000000) (hA : RowAt w A (l.map Value.string)) :
    Calls Try.prog 45 #[.slice A l.length c] w fun e w' => e = .returned (.int .i64 (JM.useR l : Nat)) ∧ w = w' := by
  have HA := Lib.hid hA.map
  obtain ⟨n, hn⟩ : ∃ n, Hid (l.length = n) := ⟨_, rfl⟩
  obtain ⟨U, hU⟩ : ∃ U, Hid (JM.useR l = U) := ⟨_, rfl⟩
  have hcnt := JM.useR_count l
  rw [hn.out, hU.out] at hcnt
  rw [hn.out, hU.out]
  rw [hU.out] at hu
  have hn6 : n ≤ 1000000 := by omega
  clear hA hcnt
  go_enter Try.func45, Try.ntmps45
  go_wp2
  go_loopw [3, 4] (fun m i wr => ∃ j : Nat, j ≤ n ∧ i = .int .i64 j ∧ m = .int .i64 (JM.useR (l.take j) : Nat) ∧ w = wr) (fun _ i _ => n - natOf i)
  case atStart => exact ⟨0, Nat.zero_le _, rfl, rfl, rfl⟩
  case round =>
    obtain ⟨j, hj, rfl, rfl, rfl⟩ := hrel
    by_cases hjn : j < n
    · have hji : (j : Int) < (n : Int) := by omega
      obtain ⟨r, hr⟩ : ∃ r, l[j]? = some r := ⟨_, List.getElem?_eq_getElem (by rw [hn.out]; exact hjn)⟩
      obtain ⟨g, rfl, hc⟩ := HA.out j r hr
      have hnx := JM.useR_next l j r hr
      have hle := JM.useR_take l (j + 1)
      rw [hU.out] at hle
      obtain ⟨v, hv⟩ : ∃ v, JM.useR (l.take j) = v := ⟨_, rfl⟩
      rw [hv] at hnx
      rw [hv]
      have HNX := Lib.hid hnx
      have hb : v + (2 + r.size) ≤ 1000000 := by omega
      clear hr hnx hle hv hj
      go_wp2
      go_roundw
      case rel => exact ⟨j + 1, by omega, by go_num, by rw [HNX.out]; go_num, by first | exact rfl | exact trivial⟩
      case measure => simp [natOf]; omega
    · obtain rfl : j = n := by omega
      rw [← hn.out, List.take_length, hU.out]
      go_wp2
      go_ret
      exact ⟨rfl, rfl⟩
/-- The reference's journal at a record gr: its capacity and its records. -/
structure JRef (w : World) (gr : Nat) (A : Option Addr) (c sz : Nat) (l : List ByteArray) : Prop where
  d : Blk w gr 79 [.int .i64 (sz : Int), .slice A l.length c]
  r : RowAt w A (l.map Value.string)
  n : ∀ g, A = some ⟨g, 0, none⟩ → g ≠ gr
theorem JRef.only {L : List Nat} {w w' : World} {gr : Nat} {A : Option Addr} {c sz : Nat} {l : List ByteArray} (h : JRef w gr A c sz l) (ho : Only L w w') (h1 : gr ∉ L) (h2 : ∀ g, A = some ⟨g, 0, none⟩ → g ∉ L) : JRef w' gr A c sz l := ⟨h.d.only ho h1, h.r.only ho h2, h.n⟩
theorem JRef.next {w w' : World} {gr : Nat} {A : Option Addr} {c sz : Nat} {l : List ByteArray} (h : JRef w gr A c sz l) (hb : Below w.heap.size w w') : JRef w' gr A c sz l := h.only (Only.of_below (L := []) hb) (by simp) (by simp)
def capOf (n : Nat) : Nat := (n - 2) / 2 * 128
theorem jnew_bad (p : Int) (w : World) (h : p < 4) :
    Calls Try.prog 38 #[.int .i64 p] w fun e w' => e = .returned (.tuple #[.pointer none, .int .i64 1]) ∧ w = w' := by
  go_enter Try.func38, Try.ntmps38
  go_wp2
  go_ret2
  exact ⟨rfl, rfl⟩
theorem jnew_any (n : Nat) (w : World) (h1 : 4 ≤ n) (h2 : n ≤ 40) :
    Calls Try.prog 38 #[.int .i64 (n : Int)] w fun e w' => ∃ gr, e = .returned (.tuple #[.pointer (some ⟨gr, 0, none⟩), .int .i64 0]) ∧ JRef w' gr none 0 (capOf n) [] ∧ Below w.heap.size w w' ∧ w.heap.size ≤ gr := by
  obtain ⟨m, hm⟩ : ∃ m, (n - 2) / 2 = m := ⟨_, rfl⟩
  have hm2 : m ≤ 20 := by omega
  have hq : ((n : Int) - 2).tdiv 2 = (m : Int) := by rw [Int.tdiv_eq_ediv_of_nonneg (by omega)]; omega
  have hcap : Hid (((m : Int) * 128) = ((capOf n : Nat) : Int)) := by
    have : ((m : Int) * 128) = ((capOf n : Nat) : Int) := by unfold capOf; rw [hm]; omega
    exact this
  have h4 : (4 : Int) ≤ (n : Int) := by omega
  clear hm
  go_enter Try.func38, Try.ntmps38
  go_wp2_with (with_reducible refine wpList_box (o := ⟨some 11, .box 79 (.tmp 10), _, _, _, _⟩) ?g2 79 (.tmp 10) ?o2 (.agg #[.int .i64 ((m : Int) * 128), .slice none 0 0]) [.int .i64 ((m : Int) * 128), .slice none 0 0] ?x2 ?c2 ?_)
  try (case g2 => rfl)
  try (case o2 => rfl)
  try (case x2 => rfl)
  try (case c2 => rfl)
  intro gr w1 hgr hs1 hb1 hB1
  have hle : w.heap.size ≤ gr := Nat.le_of_eq hgr.out.symm
  have hbel1 : Below w.heap.size w w1 := hb1.mono hle
  rw [hcap.out] at hB1
  have hJ : JRef w1 gr none 0 (capOf n) [] := ⟨hB1, fun k u hu => (by cases hu), fun g hg => (by cases hg)⟩
  clear hb1 hs1 hB1 hgr
  go_wp2
  go_ret2
  exact ⟨gr, rfl, hJ, hbel1, hle⟩
end Go.Proofs.Ythgmlopkcgkjlaa

/-
  The pieces of a stream, in plain words. Conditions: none.
-/
namespace Go.Proofs.Ythgmlopkcgkjlaa
open Go.RowKit

namespace JM
/-- The pieces of a stream. -/
def piece (S : List UInt8) (j : Nat) : List UInt8 := (S.drop (128 * j)).take 128
def pcs (S : List UInt8) : Nat := (S.length + 127) / 128
theorem piece_length (S : List UInt8) (j : Nat) : (piece S j).length = min 128 (S.length - 128 * j) := by unfold piece; rw [List.length_take, List.length_drop]
theorem piece_size (S : List UInt8) (j : Nat) : (piece S j).length ≤ 128 := by rw [piece_length]; omega
theorem take_pieces (S : List UInt8) (j : Nat) : S.take (128 * (j + 1)) = S.take (128 * j) ++ piece S j := by
  unfold piece
  rw [show 128 * (j + 1) = 128 * j + 128 by omega, List.take_add]
def rows (S : List UInt8) (m : Nat) : List (List UInt8) := (List.range m).map (piece S)
theorem rows_next (S : List UInt8) (m : Nat) : rows S m ++ [piece S m] = rows S (m + 1) := by
  unfold rows
  rw [List.range_succ, List.map_append]; rfl
theorem rows_prefix (S : List UInt8) {m k : Nat} (h : m ≤ k) : rows S m <+: rows S k := by
  obtain ⟨d, rfl⟩ : ∃ d, k = m + d := ⟨k - m, by omega⟩
  refine ⟨(List.range d).map fun i => piece S (m + i), ?_⟩
  unfold rows
  rw [List.range_add, List.map_append, List.map_map]; rfl
theorem rows_length (S : List UInt8) (m : Nat) : (rows S m).length = m := by unfold rows; rw [List.length_map, List.length_range]
/-- What has come and is not yet a whole piece. -/
theorem drop_take_len (S : List UInt8) (p m : Nat) (hp : p ≤ S.length) : ((S.take p).drop (128 * m)).length = p - 128 * m := by
  rw [List.length_drop, List.length_take, Nat.min_eq_left hp]
theorem piece_full {S a b : List UInt8} {p m n : Nat} (hp : p ≤ S.length) (h : a ++ b = (S.take p).drop (128 * m)) (hn : a.length + n = 128) (hnb : n ≤ b.length) : a ++ b.take n = piece S m := by
  have hl : (a ++ b).length = p - 128 * m := by rw [h, drop_take_len S p m hp]
  rw [List.length_append] at hl
  have e1 : a ++ b.take n = (a ++ b).take 128 := by
    rw [List.take_append, show 128 - a.length = n by omega, show List.take 128 a = a from List.take_of_length_le (by omega)]
  rw [e1, h]
  unfold piece
  rw [List.drop_take, List.take_take, Nat.min_eq_left (by omega)]
theorem rest_full {S a b : List UInt8} {p m n : Nat} (h : a ++ b = (S.take p).drop (128 * m)) (hn : a.length + n = 128) (_hnb : n ≤ b.length) : b.drop n = (S.take p).drop (128 * (m + 1)) := by
  have e1 : b.drop n = (a ++ b).drop 128 := by
    rw [List.drop_append, show List.drop 128 a = [] from List.drop_eq_nil_of_le (by omega), List.nil_append, show 128 - a.length = n by omega]
  rw [e1, h, List.drop_drop, show 128 * m + 128 = 128 * (m + 1) by omega]
theorem piece_last {S a : List UInt8} {m : Nat} (h : a = S.drop (128 * m)) (hl : a.length < 128) : a = piece S m := by
  unfold piece
  rw [← h, List.take_of_length_le (by omega)]
theorem take_next {l : List ByteArray} {j : Nat} {r : ByteArray} (h : l[j]? = some r) : stream (l.take (j + 1)) = stream (l.take j) ++ recB r := by
  unfold stream
  rw [List.take_add_one, h, List.flatMap_append]
  simp
theorem stream_take (l : List ByteArray) (j : Nat) : stream (l.take j) = (stream l).take (useR (l.take j)) := by
  have h := congrArg stream (List.take_append_drop j l)
  have e : stream (l.take j ++ l.drop j) = stream (l.take j) ++ stream (l.drop j) := by unfold stream; rw [List.flatMap_append]
  rw [e] at h
  rw [← h, ← stream_length, List.take_append_of_le_length (Nat.le_refl _), List.take_length]
theorem use_next {l : List ByteArray} {j m : Nat} {r : ByteArray} {pg : List UInt8} (hr : l[j]? = some r) (hm : 128 * m ≤ useR (l.take j)) (hpg : pg = ((stream l).take (useR (l.take j))).drop (128 * m)) : pg ++ recB r = ((stream l).take (useR (l.take (j + 1)))).drop (128 * m) := by
  rw [← stream_take, take_next hr, List.drop_append, stream_take, ← hpg, ← stream_take, stream_length, show 128 * m - useR (l.take j) = 0 by omega, List.drop_zero]
end JM
end Go.Proofs.Ythgmlopkcgkjlaa
