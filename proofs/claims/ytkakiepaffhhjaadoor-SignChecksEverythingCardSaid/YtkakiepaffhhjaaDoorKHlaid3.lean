/-
  What the rows' condition on three listed variables says: the program's tables and the reference's read as the document has them. Conditions: none.
-/
import Derived.Test.YtkakiepaffhhjaaDoorJA
import Derived.Test.YtkakiepaffhhjaaDoorJD
namespace Go.Proofs.YtkakiepaffhhjaaDoor
open Go.RowKit

theorem gC : Tryd.prog.globalNamed "interlace/interlaceref02.constants" = some 1 := by kernel_rfl
theorem tC : (Tryd.prog.globals[1]?).map (·.type) = some 100 := by kernel_rfl
theorem CD_eq : (Rows.laid_interlace_interlaceref02_constants : DataW Unit) = tabD SM.K := rfl
theorem of_laid3 {W : World} (h : laidMetH Tryd.prog [("interlace/interlaceref02.constants", Rows.laid_interlace_interlaceref02_constants), ("interlace/hash.start", Rows.laid_interlace_hash_start), ("interlace/hash.roundConstants", Rows.laid_interlace_hash_roundConstants)] W) : Lay W ∧ LayC W := by
  rw [MakeChecks.laidMetH_plain _ _ _ (by kernel_rfl)] at h
  obtain ⟨ps, ⟨g2, t2, cs2, f2, p2, q2, hg2, ht2, hv2, hd2, ⟨g0, t0, cs0, f0, p0, q0, hg0, ht0, hv0, hd0, ⟨g1, t1, cs1, f1, p1, q1, hg1, ht1, hv1, hd1, _, _⟩, _⟩, _⟩, _, _⟩ := h
  obtain rfl := Option.some.inj (gC.symm.trans hg2)
  obtain rfl := Option.some.inj (gStart.symm.trans hg0)
  obtain rfl := Option.some.inj (gK.symm.trans hg1)
  obtain rfl := Option.some.inj (tC.symm.trans ht2)
  obtain rfl := Option.some.inj (tStart.symm.trans ht0)
  obtain rfl := Option.some.inj (tK.symm.trans ht1)
  rw [CD_eq] at hd2
  rw [startD_eq] at hd0
  rw [KD_eq] at hd1
  have c2 := tab_cells Tryd.underlying100 rfl Tryd.cells54 hd2
  have c0 := tab_cells Tryd.underlying86 rfl Tryd.cells30 hd0
  have c1 := tab_cells Tryd.underlying100 rfl Tryd.cells54 hd1
  refine ⟨⟨fun k hk => ?_, fun k hk => ?_⟩, fun k hk => ?_⟩
  · rw [World.var?_cell hg0 hv0 k, ← Array.getElem?_toList]; exact c0 k hk
  · rw [World.var?_cell hg1 hv1 k, ← Array.getElem?_toList]; exact c1 k hk
  · rw [World.var?_cell hg2 hv2 k, ← Array.getElem?_toList]; exact c2 k hk
end Go.Proofs.YtkakiepaffhhjaaDoor
