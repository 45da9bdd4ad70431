/-
  What the rows' last steps of layer 10 have in common: the listed variables. Conditions: the row's own.
-/
import Derived.Test.YtcefaipjncohmaaGreatDoorQs
import Derived.ProofKit
import Derived.OpenShut
import Derived.ShutString
import Derived.ChangeOld
import Derived.SizedLaws
import Derived.Deep.Slices
import Derived.Deep.Fields
import Derived.ChangeSame
import Derived.LaidMore
import Derived.Shelf.Vars
import Derived.Lay
import Derived.Stop.Joined
import Derived.Deep.DeepHandedRow
namespace Go.Proofs.YtcefaipjncohmaaGreatDoor
set_option linter.unusedVariables false
set_option linter.unusedSimpArgs false
open Go.ChangeShapes Go.WideShapes Go.ChangeAt Go.RowKit
set_option linter.unusedVariables false

theorem Tryz.own : ownKnob Tryz.prog.godebug = none := by kernel_rfl
theorem Tryz.laidOut : laidOutB Tryz.prog = true := by kernel_rfl
theorem elem_str {H : Type} {enc : TypeId × Value → H} {W : World} {base : Nat} {spare : Nat → Bool} {held : Bool} {fuel : Nat} {t : TypeId} {cs : List Value} {l : List (List UInt8)} {p : List MemPlace} {n : Nat}
    (hu : Tryz.prog.underlying t = some (.array n 9)) (hl : l.length = n) (hd : DataW.trod enc Tryz.prog W base spare held fuel t cs = some (.agg (l.map fun x => .lit (.string x)), p)) : ∀ k, k < n → cs[k]? = some (.string ⟨(l.getD k []).toArray⟩) := by
  obtain ⟨xs, m, rfl, hx, hlen, hn, hel⟩ := DataW.trod_array hu hd
  have c1 : Tryz.prog.cellsOf 9 = 1 := by kernel_rfl
  intro k hk
  have h := hel k hk
  have hxk : ∃ x, xs[k]? = some x ∧ x.1 = .lit (.string (l.getD k [])) := by
    simp only [Prod.mk.injEq, DataW.agg.injEq] at hx
    have h1 := congrArg (fun (z : List (DataW H)) => z[k]?) hx.1
    simp only [List.getElem?_map] at h1
    have hk2 : k < xs.length := by omega
    refine ⟨xs[k], List.getElem?_eq_getElem hk2, ?_⟩
    rw [List.getElem?_eq_getElem hk2, List.getElem?_eq_getElem (by omega : k < l.length)] at h1
    simp only [Option.map_some, Option.some.injEq] at h1
    rw [← h1, List.getD_eq_getElem?_getD, List.getElem?_eq_getElem (by omega : k < l.length)]
    rfl
  obtain ⟨x, hx1, hx2⟩ := hxk
  rw [hx1, c1] at h
  obtain ⟨z, e1, e2, _⟩ := DataW.trod_string Tryz.underlying9 h
  rw [e2] at hx2
  have hz : z.data.toList = l.getD k [] := by simpa using hx2
  have h2 : ((cs.drop (k * 1)).take 1)[0]? = some (Value.string z) := by rw [e1]; rfl
  rw [List.getElem?_take, List.getElem?_drop] at h2
  simp at h2
  rw [h2, ← hz]
theorem elem_int {H : Type} {enc : TypeId × Value → H} {W : World} {base : Nat} {spare : Nat → Bool} {held : Bool} {fuel : Nat} {t : TypeId} {cs : List Value} {ds : List (DataW H)} {p : List MemPlace} {n k : Nat} {z : Int}
    (hu : Tryz.prog.underlying t = some (.array n 5)) (hd : DataW.trod enc Tryz.prog W base spare held fuel t cs = some (.agg ds, p)) (hk : k < n) (hz : ds[k]? = some (.lit (.int .u8 z))) : cs[k]? = some (.int .u8 z) := by
  obtain ⟨xs, m, rfl, hx, hlen, hn, hel⟩ := DataW.trod_array hu hd
  have c1 : Tryz.prog.cellsOf 5 = 1 := by kernel_rfl
  have h := hel k hk
  simp only [Prod.mk.injEq, DataW.agg.injEq] at hx
  have hk2 : k < xs.length := by omega
  rw [List.getElem?_eq_getElem hk2, c1] at h
  obtain ⟨y, e1, e2, _⟩ := DataW.trod_int Tryz.underlying5 h
  have h1 : ds[k]? = some (xs[k]).1 := by rw [hx.1, List.getElem?_map, List.getElem?_eq_getElem hk2]; rfl
  rw [e2, hz] at h1
  have hy : z = y := by simpa using h1
  have h2 : ((cs.drop (k * 1)).take 1)[0]? = some (Value.int .u8 y) := by rw [e1]; rfl
  rw [List.getElem?_take, List.getElem?_drop] at h2
  simp at h2
  rw [h2, hy]
theorem idx_of_shaped {W : World} (h : W.ShapedOpen Tryz.prog) : ∃ m : Int, W.cell? ⟨Tryz.splitA_ren.g 1, 0, none⟩ = some (.int .i64 m) := by
  have := cell_of_shapedOpen_int (g := 2) (t := 3) (zero := #[.int .i64 0]) (k := .i64) h (by first | decide | exact of_decide_eq_true (by kernel_rfl)) (by kernel_rfl) rfl (by kernel_rfl) (by kernel_rfl) (by kernel_rfl)
  exact this
theorem words_data : (Rows.laid_interlace_token_words : DataW Unit) = .agg (wordsL.map fun x => .lit (.string x)) := rfl
theorem two_data : (Rows.laid_interlace_token_twoSigns : DataW Unit) = .agg ([[58, 61], [46, 46], [45, 62]].map fun x => .lit (.string x)) := rfl
theorem pow_data : (Rows.laid_internal_strconv_uint64pow10 : DataW Unit) = Lib.tabData .u64 Lib.pow10Tab := by kernel_rfl
def b64D : List (DataW Unit) := match (Rows.laid_math_bits_deBruijn64tab : DataW Unit) with | .agg l => l | _ => []
theorem b64_data : (Rows.laid_math_bits_deBruijn64tab : DataW Unit) = .agg b64D := rfl
theorem b64_15 : b64D[15]? = some (.lit (.int .u8 4)) := rfl
theorem qw_of5 {W : World} (h : laidMetH Tryz.prog [("math/bits.deBruijn32tab", Rows.laid_math_bits_deBruijn32tab), ("math/bits.deBruijn64tab", Rows.laid_math_bits_deBruijn64tab), ("internal/strconv.uint64pow10", Rows.laid_internal_strconv_uint64pow10), ("interlace/token.words", Rows.laid_interlace_token_words), ("interlace/token.twoSigns", Rows.laid_interlace_token_twoSigns)] W) (hsh : W.ShapedOpen Tryz.prog) : QW W := by
  rw [MakeChecks.laidMetH_plain _ _ _ (by kernel_rfl)] at h
  obtain ⟨ps, ⟨gb32, tb32, csb32, fb32, pb32, qb32, hgb32, htb32, hvb32, hdb32, ⟨gb64, tb64, csb64, fb64, pb64, qb64, hgb64, htb64, hvb64, hdb64, ⟨gpow, tpow, cspow, fpow, ppow, qpow, hgpow, htpow, hvpow, hdpow, ⟨gwords, twords, cswords, fwords, pwords, qwords, hgwords, htwords, hvwords, hdwords, ⟨gtwo, ttwo, cstwo, ftwo, ptwo, qtwo, hgtwo, httwo, hvtwo, hdtwo, _, _⟩, _⟩, _⟩, _⟩, _⟩, _⟩ := h
  have nb64 : Tryz.prog.globalNamed "math/bits.deBruijn64tab" = some 7 := by kernel_rfl
  have mb64 : (Tryz.prog.globals[7]?).map (·.type) = some 118 := by kernel_rfl
  obtain rfl := Option.some.inj (nb64.symm.trans hgb64)
  obtain rfl := Option.some.inj (mb64.symm.trans htb64)
  have npow : Tryz.prog.globalNamed "internal/strconv.uint64pow10" = some 5 := by kernel_rfl
  have mpow : (Tryz.prog.globals[5]?).map (·.type) = some 113 := by kernel_rfl
  obtain rfl := Option.some.inj (npow.symm.trans hgpow)
  obtain rfl := Option.some.inj (mpow.symm.trans htpow)
  have nwords : Tryz.prog.globalNamed "interlace/token.words" = some 0 := by kernel_rfl
  have mwords : (Tryz.prog.globals[0]?).map (·.type) = some 73 := by kernel_rfl
  obtain rfl := Option.some.inj (nwords.symm.trans hgwords)
  obtain rfl := Option.some.inj (mwords.symm.trans htwords)
  have ntwo : Tryz.prog.globalNamed "interlace/token.twoSigns" = some 1 := by kernel_rfl
  have mtwo : (Tryz.prog.globals[1]?).map (·.type) = some 96 := by kernel_rfl
  obtain rfl := Option.some.inj (ntwo.symm.trans hgtwo)
  obtain rfl := Option.some.inj (mtwo.symm.trans httwo)
  rw [words_data] at hdwords
  rw [two_data] at hdtwo
  rw [pow_data] at hdpow
  rw [b64_data] at hdb64
  have cw := elem_str Tryz.underlying73 rfl hdwords
  have ct := elem_str Tryz.underlying96 rfl hdtwo
  have cb := elem_int (k := 15) Tryz.underlying118 hdb64 (by decide) b64_15
  refine ⟨⟨fun j v hj => ?_, fun j v hj => ?_⟩, ?_, ?_, idx_of_shaped hsh⟩
  · have hlt : j < 49 := (List.getElem?_eq_some_iff.1 hj).1
    rw [Nat.zero_add, World.var?_cell hgwords hvwords j, ← Array.getElem?_toList, cw j hlt]
    rw [wVs_get hlt] at hj
    exact hj
  · have hlt : j < 3 := (List.getElem?_eq_some_iff.1 hj).1
    rw [Nat.zero_add, World.var?_cell hgtwo hvtwo j, ← Array.getElem?_toList, ct j hlt]
    have h3 : j = 0 ∨ j = 1 ∨ j = 2 := by omega
    rcases h3 with rfl | rfl | rfl <;> exact hj
  · show W.cell? _ = _
    rw [World.var?_cell hgb64 hvb64 15, ← Array.getElem?_toList, cb]
  · unfold Lib.TabIs
    rw [hvpow, ← Lib.cells_of_tab Tryz.underlying113 Tryz.underlying90 (by kernel_rfl) (by kernel_rfl) hdpow]
theorem shaped_laid5 (os : Os) (args : Array Value) : ((World.laidAll Tryz.prog os [("math/bits.deBruijn32tab", Rows.laid_math_bits_deBruijn32tab), ("math/bits.deBruijn64tab", Rows.laid_math_bits_deBruijn64tab), ("internal/strconv.uint64pow10", Rows.laid_internal_strconv_uint64pow10), ("interlace/token.words", Rows.laid_interlace_token_words), ("interlace/token.twoSigns", Rows.laid_interlace_token_twoSigns)]).forCall (fun _ _ => 0) ⟨#[], args, []⟩).Shaped Tryz.prog := World.shaped_of_ZipB (by kernel_rfl) (by kernel_rfl)
theorem laid_met5 (os : Os) (args : Array Value) : laidMetH Tryz.prog [("math/bits.deBruijn32tab", Rows.laid_math_bits_deBruijn32tab), ("math/bits.deBruijn64tab", Rows.laid_math_bits_deBruijn64tab), ("internal/strconv.uint64pow10", Rows.laid_internal_strconv_uint64pow10), ("interlace/token.words", Rows.laid_interlace_token_words), ("interlace/token.twoSigns", Rows.laid_interlace_token_twoSigns)] ((World.laidAll Tryz.prog os [("math/bits.deBruijn32tab", Rows.laid_math_bits_deBruijn32tab), ("math/bits.deBruijn64tab", Rows.laid_math_bits_deBruijn64tab), ("internal/strconv.uint64pow10", Rows.laid_internal_strconv_uint64pow10), ("interlace/token.words", Rows.laid_interlace_token_words), ("interlace/token.twoSigns", Rows.laid_interlace_token_twoSigns)]).forCall (fun _ _ => 0) ⟨#[], args, []⟩).memory := by
  rw [MakeChecks.laidMetH_plain _ _ _ (by kernel_rfl)]
  exact laidMet_laidAll _ (by kernel_rfl) (by kernel_rfl)
theorem qw_of7 {W : World} (h : laidMetH Tryz.prog [("math/bits.deBruijn32tab", Rows.laid_math_bits_deBruijn32tab), ("math/bits.deBruijn64tab", Rows.laid_math_bits_deBruijn64tab), ("internal/strconv.uint64pow10", Rows.laid_internal_strconv_uint64pow10), ("unicode/utf8.acceptRanges", Rows.laid_unicode_utf8_acceptRanges), ("interlace/token.words", Rows.laid_interlace_token_words), ("interlace/token.twoSigns", Rows.laid_interlace_token_twoSigns), ("unicode/utf8.first", Rows.laid_unicode_utf8_first)] W) (hsh : W.ShapedOpen Tryz.prog) : QW W := by
  rw [MakeChecks.laidMetH_plain _ _ _ (by kernel_rfl)] at h
  obtain ⟨ps, ⟨gb32, tb32, csb32, fb32, pb32, qb32, hgb32, htb32, hvb32, hdb32, ⟨gb64, tb64, csb64, fb64, pb64, qb64, hgb64, htb64, hvb64, hdb64, ⟨gpow, tpow, cspow, fpow, ppow, qpow, hgpow, htpow, hvpow, hdpow, ⟨gacc, tacc, csacc, facc, pacc, qacc, hgacc, htacc, hvacc, hdacc, ⟨gwords, twords, cswords, fwords, pwords, qwords, hgwords, htwords, hvwords, hdwords, ⟨gtwo, ttwo, cstwo, ftwo, ptwo, qtwo, hgtwo, httwo, hvtwo, hdtwo, ⟨gfirst, tfirst, csfirst, ffirst, pfirst, qfirst, hgfirst, htfirst, hvfirst, hdfirst, _, _⟩, _⟩, _⟩, _⟩, _⟩, _⟩, _⟩, _⟩ := h
  have nb64 : Tryz.prog.globalNamed "math/bits.deBruijn64tab" = some 7 := by kernel_rfl
  have mb64 : (Tryz.prog.globals[7]?).map (·.type) = some 118 := by kernel_rfl
  obtain rfl := Option.some.inj (nb64.symm.trans hgb64)
  obtain rfl := Option.some.inj (mb64.symm.trans htb64)
  have npow : Tryz.prog.globalNamed "internal/strconv.uint64pow10" = some 5 := by kernel_rfl
  have mpow : (Tryz.prog.globals[5]?).map (·.type) = some 113 := by kernel_rfl
  obtain rfl := Option.some.inj (npow.symm.trans hgpow)
  obtain rfl := Option.some.inj (mpow.symm.trans htpow)
  have nwords : Tryz.prog.globalNamed "interlace/token.words" = some 0 := by kernel_rfl
  have mwords : (Tryz.prog.globals[0]?).map (·.type) = some 73 := by kernel_rfl
  obtain rfl := Option.some.inj (nwords.symm.trans hgwords)
  obtain rfl := Option.some.inj (mwords.symm.trans htwords)
  have ntwo : Tryz.prog.globalNamed "interlace/token.twoSigns" = some 1 := by kernel_rfl
  have mtwo : (Tryz.prog.globals[1]?).map (·.type) = some 96 := by kernel_rfl
  obtain rfl := Option.some.inj (ntwo.symm.trans hgtwo)
  obtain rfl := Option.some.inj (mtwo.symm.trans httwo)
  rw [words_data] at hdwords
  rw [two_data] at hdtwo
  rw [pow_data] at hdpow
  rw [b64_data] at hdb64
  have cw := elem_str Tryz.underlying73 rfl hdwords
  have ct := elem_str Tryz.underlying96 rfl hdtwo
  have cb := elem_int (k := 15) Tryz.underlying118 hdb64 (by decide) b64_15
  refine ⟨⟨fun j v hj => ?_, fun j v hj => ?_⟩, ?_, ?_, idx_of_shaped hsh⟩
  · have hlt : j < 49 := (List.getElem?_eq_some_iff.1 hj).1
    rw [Nat.zero_add, World.var?_cell hgwords hvwords j, ← Array.getElem?_toList, cw j hlt]
    rw [wVs_get hlt] at hj
    exact hj
  · have hlt : j < 3 := (List.getElem?_eq_some_iff.1 hj).1
    rw [Nat.zero_add, World.var?_cell hgtwo hvtwo j, ← Array.getElem?_toList, ct j hlt]
    have h3 : j = 0 ∨ j = 1 ∨ j = 2 := by omega
    rcases h3 with rfl | rfl | rfl <;> exact hj
  · show W.cell? _ = _
    rw [World.var?_cell hgb64 hvb64 15, ← Array.getElem?_toList, cb]
  · unfold Lib.TabIs
    rw [hvpow, ← Lib.cells_of_tab Tryz.underlying113 Tryz.underlying90 (by kernel_rfl) (by kernel_rfl) hdpow]
theorem shaped_laid7 (os : Os) (args : Array Value) : ((World.laidAll Tryz.prog os [("math/bits.deBruijn32tab", Rows.laid_math_bits_deBruijn32tab), ("math/bits.deBruijn64tab", Rows.laid_math_bits_deBruijn64tab), ("internal/strconv.uint64pow10", Rows.laid_internal_strconv_uint64pow10), ("unicode/utf8.acceptRanges", Rows.laid_unicode_utf8_acceptRanges), ("interlace/token.words", Rows.laid_interlace_token_words), ("interlace/token.twoSigns", Rows.laid_interlace_token_twoSigns), ("unicode/utf8.first", Rows.laid_unicode_utf8_first)]).forCall (fun _ _ => 0) ⟨#[], args, []⟩).Shaped Tryz.prog := World.shaped_of_ZipB (by kernel_rfl) (by kernel_rfl)
theorem laid_met7 (os : Os) (args : Array Value) : laidMetH Tryz.prog [("math/bits.deBruijn32tab", Rows.laid_math_bits_deBruijn32tab), ("math/bits.deBruijn64tab", Rows.laid_math_bits_deBruijn64tab), ("internal/strconv.uint64pow10", Rows.laid_internal_strconv_uint64pow10), ("unicode/utf8.acceptRanges", Rows.laid_unicode_utf8_acceptRanges), ("interlace/token.words", Rows.laid_interlace_token_words), ("interlace/token.twoSigns", Rows.laid_interlace_token_twoSigns), ("unicode/utf8.first", Rows.laid_unicode_utf8_first)] ((World.laidAll Tryz.prog os [("math/bits.deBruijn32tab", Rows.laid_math_bits_deBruijn32tab), ("math/bits.deBruijn64tab", Rows.laid_math_bits_deBruijn64tab), ("internal/strconv.uint64pow10", Rows.laid_internal_strconv_uint64pow10), ("unicode/utf8.acceptRanges", Rows.laid_unicode_utf8_acceptRanges), ("interlace/token.words", Rows.laid_interlace_token_words), ("interlace/token.twoSigns", Rows.laid_interlace_token_twoSigns), ("unicode/utf8.first", Rows.laid_unicode_utf8_first)]).forCall (fun _ _ => 0) ⟨#[], args, []⟩).memory := by
  rw [MakeChecks.laidMetH_plain _ _ _ (by kernel_rfl)]
  exact laidMet_laidAll _ (by kernel_rfl) (by kernel_rfl)
end Go.Proofs.YtcefaipjncohmaaGreatDoor
