/-
  The arguments of layer 4's statements, read: a script of operations, a slice of integers. Conditions: the row's own.
-/
import Derived.Test.YtbmoedgokimhmaaDl1
import Derived.ProofKit
import Derived.OpenShut
import Derived.ShutString
import Derived.ChangeOld
import Derived.SizedLaws
import Derived.SliceStrings
import Derived.Deep.Slices
import Derived.Deep.Fields
import Derived.ChangeSame
namespace Go.Proofs.Ytbmoedgokimhmaa
open Go.ChangeShapes Go.WideShapes Go.ChangeAt Go.RowKit
open Go.Deep (choose_lt)

theorem Try.own : ownKnob Try.prog.godebug = none := by kernel_rfl
theorem Try.laidOut : laidOutB Try.prog = true := by kernel_rfl
theorem inI_of {n : Int} (h : (Lit.int .i64 n).wf = true) : inI n := by
  have h1 : IntKind.i64.min = -9223372036854775808 := rfl
  have h2 : IntKind.i64.max = 9223372036854775807 := rfl
  simp only [Lit.wf, Bool.and_eq_true, decide_eq_true_eq] at h
  exact ⟨by omega, by omega⟩
/-- How long a slice that came in is, as its datum tells. -/
def LenOf {H : Type} (d : DataW H) (len : Nat) : Prop := len = 0 ∨ ∃ es sp, d = .slice es sp ∧ es.length = len
theorem LenOf.reach {H : Type} {P : Program} {ts : List TypeId} {ds : List (DataW H)} {d : DataW H} {len j b : Nat} {t e : TypeId} (hl : LenOf d len) (h : (DataW.weightsEach P ts ds).all (· ≤ reachBytes) = true) (ht : ts[j]? = some t) (hd : ds[j]? = some d) (hu : P.underlying t = some (.slice e)) (hb : P.bytesOf e = b) : len * b ≤ 140737488351232 := by
  rcases hl with rfl | ⟨es, sp, rfl, rfl⟩
  · omega
  · have := sized_slice h ht hd hu
    rw [hb] at this
    have h2 : es.length * b ≤ (es.length + sp.length) * b := Nat.mul_le_mul_right _ (by omega)
    simp only [reachBytes] at this
    omega
instance : Inhabited OpM := ⟨⟨0, 0, 0, ByteArray.empty, []⟩⟩
section
variable {H : Type} {enc : TypeId × Value → H} {W : World} {a : Option Addr} {len cap : Nat} {d : DataW H} {p : List MemPlace}
/-- A slice of integers, read at its cell or as an argument. -/
theorem ints_of {base fuel : Nat} {held : Bool} {v : Value} {y : DataW H × List MemPlace} (h : DataW.trod enc Try.prog W base (fun _ => true) held fuel 32 [v] = some y) : ∃ (A : Option Addr) (l : List Int) (c : Nat), v = .slice A l.length c ∧ PkAt W A l ∧ (∀ z ∈ l, inI z) ∧ LenOf y.1 l.length := by
  rcases open_ints Try.underlying32 Try.underlying3 (by kernel_rfl) h with ⟨hcs, _⟩ | ⟨x, n, c, zs, hcs, _, hl, hm, hz, hx, hcell, hwz⟩
  · injection hcs with hcs _
    exact ⟨none, [], 0, hcs, (fun k u hu => by cases hu), (fun z hz => by cases hz), .inl rfl⟩
  · injection hcs with hcs _
    have hz' : zs.length = c := by simpa using hz
    have hln : (zs.take n).length = n := by rw [List.length_take]; omega
    refine ⟨some x, zs.take n, c, by rw [hln]; exact hcs, fun k u hu => ⟨x, rfl, ?_⟩, fun z hz => inI_of (hwz z (List.mem_of_mem_take hz)), ?_⟩
    · have hk : k < n := by
        have := (List.getElem?_eq_some_iff.1 hu).1
        omega
      rw [hcell k (by omega)]
      rw [List.getElem?_take_of_lt hk] at hu
      rw [List.getD_eq_getElem?_getD, hu]; rfl
    · rw [hx]
      exact .inr ⟨_, _, rfl, by simp [lits]⟩
theorem PkAt.hold {w : World} {A : Option Addr} {l : List Int} (h : PkAt w A l) (w' : World) (hb : Below w.heap.size w w') : PkAt w' A l := fun k x hx => by
  obtain ⟨q, e, hc⟩ := h k x hx
  exact ⟨q, e, (hb.cell (p := q.add k) (World.block_lt_of_cell? w _ hc)).trans hc⟩
theorem open_picks (h : DataW.Trod enc Try.prog W 0 (fun _ => true) true 32 (.slice a len cap) d p) : ∃ l : List Int, len = l.length ∧ PkAt W a l ∧ (∀ z ∈ l, inI z) ∧ LenOf d len := by
  obtain ⟨fuel, hf⟩ := h
  have hf2 : DataW.trod enc Try.prog W 0 (fun _ => true) true fuel 32 [.slice a len cap] = some (d, p) := hf
  obtain ⟨A, l, c, e, h1, h2, h3⟩ := ints_of hf2
  injection e with e1 e2 e3
  subst e1 e2
  exact ⟨l, rfl, h1, h2, h3⟩
/-- A script that came in. -/
theorem open_ops (h : DataW.Trod enc Try.prog W 0 (fun _ => true) true 22 (.slice a len cap) d p) : ∃ xs : List OpM, len = xs.length ∧ ScriptAt W.heap.size W a xs ∧ IntsOk xs ∧ LenOf d len := by
  obtain ⟨fuel, hf⟩ := h
  have hf2 : DataW.trod enc Try.prog W 0 (fun _ => true) true fuel 22 [.slice a len cap] = some (d, p) := hf
  rcases Go.Deep.open_slice Try.underlying22 hf2 with ⟨hcs, hx⟩ | ⟨x, n, c, m, fl, D, Pl, hcs, _, hl, hm, hmm, hx, hel⟩
  · injection hcs with hcs _
    injection hcs with e1 e2 e3
    subst e1 e2 e3
    exact ⟨[], rfl, (fun j y hy => by cases hy), (fun y hy => by cases hy), .inl rfl⟩
  · injection hcs with hcs _
    injection hcs with e1 e2 e3
    subst e1 e2 e3
    have hmc : m = cap := by simpa using hmm
    have c5 : Try.prog.cellsOf 34 = 5 := by kernel_rfl
    have each : ∀ i, i < m → ∃ y : OpM, (∃ pa pc, (∀ (q : Nat) (u : Value), (opRow y pa pc)[q]? = some u → W.cell? ((x.add (i * 5)).add q) = some u) ∧ PkAt W pa y.picks) ∧ inI y.i ∧ inI y.at_ := fun i hi => by
      obtain ⟨cs', h1, h2⟩ := hel i hi
      rw [c5] at h1
      obtain ⟨_, hcl, hat⟩ := World.cells?_some h1
      obtain ⟨ys, n', hn', hy, hlen, hyl, hfld⟩ := DataW.trod_struct Try.underlying34 h2
      have hys : ys.length = 5 := hyl
      have one : ∀ (j : Nat) (t : TypeId) (k : Nat), k = 1 → j < 5 → DataW.trod enc Try.prog W 0 (fun _ => true) true n' t ((cs'.drop j).take k) = ys[j]? → ∃ v y, cs'[j]? = some v ∧ DataW.trod enc Try.prog W 0 (fun _ => true) true n' t [v] = some y := fun j t k hk hj h => by
        subst hk
        have hv : cs'[j]? = some (cs'[j]'(by omega)) := List.getElem?_eq_getElem (by omega)
        refine ⟨_, ys[j]'(by omega), hv, ?_⟩
        rw [← List.getElem?_eq_getElem, ← h, List.drop_eq_getElem_cons (by omega)]
        rfl
      obtain ⟨v0, y0, g0, t0⟩ := one 0 3 _ (by kernel_rfl) (by omega) (hfld 0 _ rfl)
      obtain ⟨v1, y1, g1, t1⟩ := one 1 3 _ (by kernel_rfl) (by omega) (hfld 1 _ rfl)
      obtain ⟨v2, y2, g2, t2⟩ := one 2 3 _ (by kernel_rfl) (by omega) (hfld 2 _ rfl)
      obtain ⟨v3, y3, g3, t3⟩ := one 3 9 _ (by kernel_rfl) (by omega) (hfld 3 _ rfl)
      obtain ⟨v4, y4, g4, t4⟩ := one 4 32 _ (by kernel_rfl) (by omega) (hfld 4 _ rfl)
      obtain ⟨z0, e0, _, _⟩ := DataW.trod_int Try.underlying3 t0
      obtain ⟨z1, e1, _, w1⟩ := DataW.trod_int Try.underlying3 t1
      obtain ⟨z2, e2, _, w2⟩ := DataW.trod_int Try.underlying3 t2
      obtain ⟨s3, e3, _, _⟩ := DataW.trod_string Try.underlying9 t3
      obtain ⟨pa, l, pc, e4, hpk, _, _⟩ := ints_of t4
      injection e0 with e0 _
      injection e1 with e1 _
      injection e2 with e2 _
      injection e3 with e3 _
      subst e0 e1 e2 e3 e4
      refine ⟨⟨z0, z1, z2, s3, l⟩, ⟨pa, pc, fun q u hu => ?_, hpk⟩, inI_of w1, inI_of w2⟩
      have hq : q < 5 := (List.getElem?_eq_some_iff.1 hu).1
      rw [hat q hq, ← hu]
      match q, hq with
      | 0, _ => exact g0
      | 1, _ => exact g1
      | 2, _ => exact g2
      | 3, _ => exact g3
      | 4, _ => exact g4
    obtain ⟨f, hfx⟩ := choose_lt each
    refine ⟨(List.range len).map f, by simp, fun j y hy => ?_, fun y hy => ?_, ?_⟩
    · rw [List.getElem?_map] at hy
      have hj : j < len := by
        rcases Nat.lt_or_ge j len with h | h
        · exact h
        · rw [List.getElem?_eq_none (by simp; omega)] at hy; cases hy
      rw [List.getElem?_range hj] at hy
      injection hy with hy
      obtain ⟨⟨pa, pc, hc, hpk⟩, _, _⟩ := hfx j (by omega)
      rw [hy] at hc hpk
      refine ⟨x, pa, pc, rfl, fun w' hb => ⟨fun q u hu => ?_, hpk.hold w' hb⟩⟩
      have h1 := hc q u hu
      exact (hb.cell (p := (x.add (j * 5)).add q) (World.block_lt_of_cell? W _ h1)).trans h1
    · obtain ⟨j, hj, rfl⟩ := List.mem_map.1 hy
      have := hfx j (by have := List.mem_range.1 hj; omega)
      exact this.2
    · simp only [Prod.mk.injEq] at hx
      exact .inr ⟨_, _, hx.1, by simp⟩
end
end Go.Proofs.Ytbmoedgokimhmaa
