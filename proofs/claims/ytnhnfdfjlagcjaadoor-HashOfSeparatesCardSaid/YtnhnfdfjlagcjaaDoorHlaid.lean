/-
  What the rows' condition on the listed variables says: the tables read as the document has them. Conditions: none.
-/
import Derived.Test.YtnhnfdfjlagcjaaDoorHc
import Derived.ProofKit
import Derived.LaidMore
import Derived.OpenShut
namespace Go.Proofs.YtnhnfdfjlagcjaaDoor
open Go.RowKit

theorem gStart : Tryd.prog.globalNamed "interlace/hash.start" = some 1 := by kernel_rfl
theorem gK : Tryd.prog.globalNamed "interlace/hash.roundConstants" = some 2 := by kernel_rfl
theorem tStart : (Tryd.prog.globals[1]?).map (·.type) = some 30 := by kernel_rfl
theorem tK : (Tryd.prog.globals[2]?).map (·.type) = some 72 := by kernel_rfl
def tabD {H : Type} (l : List UInt32) : DataW H := .agg (l.map fun c => .lit (.int .u32 (c.toNat : Int)))
theorem startD_eq : (Rows.laid_interlace_hash_start : DataW Unit) = tabD SM.start.list := rfl
theorem KD_eq : (Rows.laid_interlace_hash_roundConstants : DataW Unit) = tabD SM.K := rfl
theorem Tryd.cells29 : Tryd.prog.cellsOf 29 = 1 := by kernel_rfl
theorem Tryd.cells30 : Tryd.prog.cellsOf 30 = 8 := by kernel_rfl
theorem Tryd.cells54 : Tryd.prog.cellsOf 72 = 64 := by kernel_rfl
theorem tab_cells {H : Type} {enc : TypeId × Value → H} {W : World} {base : Nat} {spare : Nat → Bool} {held : Bool} {fuel : Nat} {t : TypeId} {cs : List Value} {l : List UInt32} {p : List MemPlace} {n : Nat}
    (hu : Tryd.prog.underlying t = some (.array n 29)) (hl : l.length = n) (hc : Tryd.prog.cellsOf t = n) (hd : DataW.trod enc Tryd.prog W base spare held fuel t cs = some (tabD l, p)) : ∀ k, k < n → cs[k]? = some (W32 (l.getD k 0)) := by
  obtain ⟨xs, m, rfl, hx, hlen, hn, hel⟩ := DataW.trod_array hu hd
  intro k hk
  have h := hel k hk
  have hxk : ∃ x, xs[k]? = some x ∧ x.1 = .lit (.int .u32 ((l.getD k 0).toNat : Int)) := by
    simp only [Prod.mk.injEq, tabD, DataW.agg.injEq] at hx
    have h1 := congrArg (fun (z : List (DataW H)) => z[k]?) hx.1
    simp only [List.getElem?_map] at h1
    have hk2 : k < xs.length := by omega
    refine ⟨xs[k], List.getElem?_eq_getElem hk2, ?_⟩
    rw [List.getElem?_eq_getElem hk2, List.getElem?_eq_getElem (by omega : k < l.length)] at h1
    simp only [Option.map_some, Option.some.injEq] at h1
    rw [← h1, List.getD_eq_getElem?_getD, List.getElem?_eq_getElem (by omega : k < l.length)]
    rfl
  obtain ⟨x, hx1, hx2⟩ := hxk
  rw [hx1, Tryd.cells29] at h
  obtain ⟨z, e1, e2, _⟩ := DataW.trod_int Tryd.underlying29 h
  rw [e2] at hx2
  have hz : z = ((l.getD k 0).toNat : Int) := by simpa using hx2
  have h2 : ((cs.drop (k * 1)).take 1)[0]? = some (Value.int .u32 z) := by rw [e1]; rfl
  rw [List.getElem?_take, List.getElem?_drop] at h2
  simp at h2
  rw [h2, hz]
  rfl
theorem of_laid2 {W : World} (h : laidMetH Tryd.prog [("interlace/hash.start", Rows.laid_interlace_hash_start), ("interlace/hash.roundConstants", Rows.laid_interlace_hash_roundConstants)] W) : Lay W := by
  rw [MakeChecks.laidMetH_plain _ _ _ (by kernel_rfl)] at h
  obtain ⟨ps, ⟨g0, t0, cs0, f0, p0, q0, hg0, ht0, hv0, hd0, ⟨g1, t1, cs1, f1, p1, q1, hg1, ht1, hv1, hd1, _, _⟩, _⟩, _, _⟩ := h
  obtain rfl := Option.some.inj (gStart.symm.trans hg0)
  obtain rfl := Option.some.inj (gK.symm.trans hg1)
  obtain rfl := Option.some.inj (tStart.symm.trans ht0)
  obtain rfl := Option.some.inj (tK.symm.trans ht1)
  rw [startD_eq] at hd0
  rw [KD_eq] at hd1
  have c0 := tab_cells Tryd.underlying30 rfl Tryd.cells30 hd0
  have c1 := tab_cells Tryd.underlying72 rfl Tryd.cells54 hd1
  refine ⟨fun k hk => ?_, fun k hk => ?_⟩
  · rw [World.var?_cell hg0 hv0 k, ← Array.getElem?_toList]; exact c0 k hk
  · rw [World.var?_cell hg1 hv1 k, ← Array.getElem?_toList]; exact c1 k hk
end Go.Proofs.YtnhnfdfjlagcjaaDoor
