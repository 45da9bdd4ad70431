/-
  What the rows' last steps of layer 7 have in common: the arguments read, the library's variables. Conditions: the row's own.
-/
import Derived.Test.YthjaelopmfjfeaaDoorYe
import Derived.Test.YthjaelopmfjfeaaDoorRows
import Derived.ProofKit
import Derived.OpenShut
import Derived.ShutString
import Derived.ChangeOld
import Derived.SizedLaws
import Derived.SliceStrings
import Derived.Deep.Slices
import Derived.Deep.Fields
import Derived.ChangeSame
import Derived.LaidMore
import Derived.Shelf.Vars
import Derived.Lay
import Derived.Stop.Joined
import Derived.Deep.DeepHandedRow
namespace Go.Proofs.YthjaelopmfjfeaaDoor
set_option linter.unusedVariables false
set_option linter.unusedSimpArgs false
open Go.ChangeShapes Go.WideShapes Go.ChangeAt Go.RowKit
open Go.Deep (choose_lt)
set_option linter.unusedVariables false

theorem okWide_sliceN {P : Program} {w : World} {r : Reach} {base : Nat} {t e : TypeId} {v : Value} (hu : P.underlying t = some (.slice e)) (h : Value.okWide P w r base t v) : ∃ A len cap, v = .slice A len cap ∧ (A = none → len = 0 ∧ cap = 0) ∧ len ≤ cap := by
  have h' : Cell.ok P w r base t v := by
    simp only [Value.okWide, hu, Cell.okWide] at h
    exact h
  unfold Cell.ok at h'
  rw [hu] at h'
  cases v with
  | slice A len cap =>
    cases A with
    | none =>
      refine ⟨none, len, cap, rfl, ?_⟩
      cases len with
      | zero => cases cap with
        | zero => exact ⟨fun _ => ⟨rfl, rfl⟩, Nat.le_refl _⟩
        | succ c => exact absurd h' (by simp)
      | succ l => exact absurd h' (by simp)
    | some a =>
      have h2 : len ≤ cap ∧ (cap : Int) ≤ IntKind.i64.max ∧ w.has P r base a _ cap := h'
      exact ⟨some a, len, cap, rfl, (fun e => by cases e), h2.1⟩
  | _ => exact absurd h' (by simp)
/-- How long a slice that came in is, as its datum tells. -/
def LenOf {H : Type} (d : DataW H) (len : Nat) : Prop := len = 0 ∨ ∃ es sp, d = .slice es sp ∧ es.length = len
theorem LenOf.reach {H : Type} {P : Program} {ts : List TypeId} {ds : List (DataW H)} {d : DataW H} {len j b : Nat} {t e : TypeId} (hl : LenOf d len) (h : (DataW.weightsEach P ts ds).all (· ≤ reachBytes) = true) (ht : ts[j]? = some t) (hd : ds[j]? = some d) (hu : P.underlying t = some (.slice e)) (hb : P.bytesOf e = b) : len * b ≤ 140737488351232 := by
  rcases hl with rfl | ⟨es, sp, rfl, rfl⟩
  · omega
  · have := sized_slice h ht hd hu
    rw [hb] at this
    have h2 : es.length * b ≤ (es.length + sp.length) * b := Nat.mul_le_mul_right _ (by omega)
    simp only [reachBytes] at this
    omega
section
variable {H : Type} {enc : TypeId × Value → H} {W : World} {d : DataW H} {p : List MemPlace}
theorem two_ints {base n2 k0 k1 o0 o1 : Nat} {cs : List Value} {ys : List (DataW H × List MemPlace)} (hl : cs.length = 2) (hys : ys.length = 2) (e0 : k0 = 1) (e1 : k1 = 1) (e2 : o0 = 0) (e3 : o1 = 1)
    (h0 : DataW.trod enc Tryd.prog W base (fun _ => true) true n2 3 ((cs.drop o0).take k0) = ys[0]?) (h1 : DataW.trod enc Tryd.prog W base (fun _ => true) true n2 3 ((cs.drop o1).take k1) = ys[1]?) : ∃ r : Int × Int, cs = rat2 r := by
  subst e0 e1 e2 e3
  obtain ⟨a, b, rfl⟩ : ∃ a b, cs = [a, b] := by
    rcases cs with _ | ⟨a, _ | ⟨b, _ | ⟨c, r⟩⟩⟩
    · simp at hl
    · simp at hl
    · exact ⟨a, b, rfl⟩
    · simp at hl
  rw [List.getElem?_eq_getElem (by omega)] at h0 h1
  obtain ⟨z0, hz0, _, _⟩ := DataW.trod_int Tryd.underlying3 h0
  obtain ⟨z1, hz1, _, _⟩ := DataW.trod_int Tryd.underlying3 h1
  have e0 : a = .int .i64 z0 := by simpa using hz0
  have e1 : b = .int .i64 z1 := by simpa using hz1
  exact ⟨(z0, z1), by rw [e0, e1]; rfl⟩
theorem ratio_of {base fuel : Nat} {cs : List Value} {y : DataW H × List MemPlace} (hf : DataW.trod enc Tryd.prog W base (fun _ => true) true fuel 23 cs = some y) (hcl : cs.length = 2) : ∃ r : Int × Int, cs = rat2 r := by
  obtain ⟨ys, n2, hn', hy, hlen, hyl, hfld⟩ := DataW.trod_struct Tryd.underlying23 hf
  have hys : ys.length = 2 := hyl
  exact two_ints hcl hys (by kernel_rfl) (by kernel_rfl) (by kernel_rfl) (by kernel_rfl) (hfld 0 _ rfl) (hfld 1 _ rfl)
theorem open_ratio {cs : Array Value} (hs : cs.size = Tryd.prog.cellsOf 23) (h : DataW.Trod enc Tryd.prog W 0 (fun _ => true) true 23 (.agg cs) d p) : ∃ n e : Int, cs = [Value.int .i64 n, Value.int .i64 e].toArray := by
  obtain ⟨fuel, hf⟩ := h
  have c : Tryd.prog.cellsOf 23 = 2 := by kernel_rfl
  have hf2 : DataW.trod enc Tryd.prog W 0 (fun _ => true) true fuel 23 cs.toList = some (d, p) := hf
  obtain ⟨r, e⟩ := ratio_of hf2 (by rw [Array.length_toList, hs, c])
  exact ⟨r.1, r.2, by rw [show [Value.int .i64 r.1, Value.int .i64 r.2] = rat2 r from rfl, ← e]⟩
theorem ratios_of {base fuel : Nat} {a : Option Addr} {len cap : Nat} {y : DataW H × List MemPlace} (hf2 : DataW.trod enc Tryd.prog W base (fun _ => true) true fuel 40 [.slice a len cap] = some y) : ∃ l : List (Int × Int), len = l.length ∧ PsAt W a l ∧ LenOf y.1 len := by
  rcases Go.Deep.open_slice Tryd.underlying40 hf2 with ⟨hcs, hx⟩ | ⟨x, n, c, m, fl, D, Pl, hcs, _, hl, hm, hmm, hx, hel⟩
  · injection hcs with hcs _
    injection hcs with e1 e2 e3
    subst e1 e2 e3
    exact ⟨[], rfl, (fun j y hy => by cases hy), .inl rfl⟩
  · injection hcs with hcs _
    injection hcs with e1 e2 e3
    subst e1 e2 e3
    have hmc : m = cap := by simpa using hmm
    have c2 : Tryd.prog.cellsOf 23 = 2 := by kernel_rfl
    have each : ∀ i, i < m → ∃ y : Int × Int, ∀ (q : Nat) (u : Value), (rat2 y)[q]? = some u → W.cell? ((x.add (i * 2)).add q) = some u := fun i hi => by
      obtain ⟨cs', h1, h2⟩ := hel i hi
      rw [c2] at h1
      obtain ⟨hl4, hcl, hat⟩ := World.cells?_some h1
      obtain ⟨y, rfl⟩ := ratio_of h2 hcl
      exact ⟨y, fun q u hu => by rw [hat q (by have := (List.getElem?_eq_some_iff.1 hu).1; rw [hcl] at this; exact this)]; exact hu⟩
    obtain ⟨f, hfx⟩ := choose_lt each
    refine ⟨(List.range len).map f, by simp, fun j y hy => ?_, ?_⟩
    · rw [List.getElem?_map] at hy
      have hj : j < len := by
        rcases Nat.lt_or_ge j len with h | h
        · exact h
        · rw [List.getElem?_eq_none (by simp; omega)] at hy; cases hy
      rw [List.getElem?_range hj] at hy
      injection hy with hy
      have hc := hfx j (by omega)
      rw [hy] at hc
      have h0 := hc 0 _ rfl
      have h1 := hc 1 _ rfl
      have hs := World.cell?_spot (hfx 0 (by omega) 0 _ rfl)
      obtain ⟨g, o, s⟩ := x
      have hs' : s = none := by
        simpa [Addr.add] using hs
      subst hs'
      rw [addr_add, addr_add] at h0 h1
      exact ⟨g, o, rfl, h0, h1⟩
    · rw [hx]
      exact .inr ⟨_, _, rfl, by simp⟩
theorem open_ratios {a : Option Addr} {len cap : Nat} (h : DataW.Trod enc Tryd.prog W 0 (fun _ => true) true 40 (.slice a len cap) d p) : ∃ l : List (Int × Int), len = l.length ∧ PsAt W a l ∧ LenOf d len := by
  obtain ⟨fuel, hf⟩ := h
  exact ratios_of (y := (d, p)) (show DataW.trod enc Tryd.prog W 0 (fun _ => true) true fuel 40 [.slice a len cap] = some (d, p) from hf)
end
theorem Tryd.own : ownKnob Tryd.prog.godebug = none := by kernel_rfl
theorem Tryd.laidOut : laidOutB Tryd.prog = true := by kernel_rfl
theorem wrap_lit {n : Int} (h : (Lit.int .i64 n).wf = true) : IntKind.i64.wrap n = n := by
  have h2 : IntKind.i64.min ≤ n ∧ n ≤ IntKind.i64.max := by simpa [Lit.wf, IntKind.has] using h
  have h3 : IntKind.i64.min = -9223372036854775808 := by decide
  have h4 : IntKind.i64.max = 9223372036854775807 := by decide
  simp only [IntKind.wrap_i64]
  omega
theorem qw_of_laid {W : World} (h : laidMetH Tryd.prog [("math/bits.deBruijn32tab", Rows.laid_math_bits_deBruijn32tab), ("math/bits.deBruijn64tab", Rows.laid_math_bits_deBruijn64tab), ("internal/strconv.uint64pow10", Rows.laid_internal_strconv_uint64pow10), ("strconv.ErrRange", Rows.laid_strconv_ErrRange), ("strconv.ErrSyntax", Rows.laid_strconv_ErrSyntax)] W) : QW W := by
  rw [MakeChecks.laidMetH_plain _ _ _ (by kernel_rfl)] at h
  obtain ⟨ps, ⟨_, _, _, _, _, _, _, _, _, _, ⟨_, _, _, _, _, _, _, _, _, _, ⟨g2, t2, cs2, f2, p2, q2, hg2, ht2, hv2, hd2, ⟨g3, t3, cs3, f3, p3, q3, hg3, ht3, hv3, hd3, ⟨g4, t4, cs4, f4, p4, q4, hg4, ht4, hv4, hd4, _, _⟩, _⟩, _⟩, _⟩, _⟩, _, _⟩ := h
  have n2 : Tryd.prog.globalNamed "internal/strconv.uint64pow10" = some 3 := by kernel_rfl
  have n3 : Tryd.prog.globalNamed "strconv.ErrRange" = some 2 := by kernel_rfl
  have n4 : Tryd.prog.globalNamed "strconv.ErrSyntax" = some 1 := by kernel_rfl
  have m2 : (Tryd.prog.globals[3]?).map (·.type) = some 125 := by kernel_rfl
  have m3 : (Tryd.prog.globals[2]?).map (·.type) = some 57 := by kernel_rfl
  have m4 : (Tryd.prog.globals[1]?).map (·.type) = some 57 := by kernel_rfl
  obtain rfl := Option.some.inj (n2.symm.trans hg2)
  obtain rfl := Option.some.inj (n3.symm.trans hg3)
  obtain rfl := Option.some.inj (n4.symm.trans hg4)
  obtain rfl := Option.some.inj (m2.symm.trans ht2)
  obtain rfl := Option.some.inj (m3.symm.trans ht3)
  obtain rfl := Option.some.inj (m4.symm.trans ht4)
  have e2 : (Rows.laid_internal_strconv_uint64pow10 : DataW Unit) = Lib.tabData .u64 Lib.pow10Tab := by kernel_rfl
  rw [e2] at hd2
  obtain ⟨_, u3, v3, e3, _, _⟩ := iface_of_trod Tryd.underlying57 hd3
  obtain ⟨_, u4, v4, e4, _, _⟩ := iface_of_trod Tryd.underlying57 hd4
  refine ⟨?_, ⟨.iface u4 v4, ?_, .inr ⟨_, _, rfl⟩⟩, ⟨.iface u3 v3, ?_, .inr ⟨_, _, rfl⟩⟩⟩
  · unfold Lib.TabIs
    rw [hv2, ← Lib.cells_of_tab Tryd.underlying125 Tryd.underlying101 (by kernel_rfl) (by kernel_rfl) hd2]
  · have h := World.var?_cell n4 hv4 0
    rw [show cs4[0]? = some (.iface u4 v4) by rw [← Array.getElem?_toList, e4]; rfl] at h
    exact h
  · have h := World.var?_cell n3 hv3 0
    rw [show cs3[0]? = some (.iface u3 v3) by rw [← Array.getElem?_toList, e3]; rfl] at h
    exact h
theorem shaped_laid (os : Os) (args : Array Value) : ((World.laidAll Tryd.prog os [("math/bits.deBruijn32tab", Rows.laid_math_bits_deBruijn32tab), ("math/bits.deBruijn64tab", Rows.laid_math_bits_deBruijn64tab), ("internal/strconv.uint64pow10", Rows.laid_internal_strconv_uint64pow10), ("strconv.ErrRange", Rows.laid_strconv_ErrRange), ("strconv.ErrSyntax", Rows.laid_strconv_ErrSyntax)]).forCall (fun _ _ => 0) ⟨#[], args, []⟩).Shaped Tryd.prog := World.shaped_of_ZipB (by kernel_rfl) (by kernel_rfl)
theorem laid_met (os : Os) (args : Array Value) : laidMetH Tryd.prog [("math/bits.deBruijn32tab", Rows.laid_math_bits_deBruijn32tab), ("math/bits.deBruijn64tab", Rows.laid_math_bits_deBruijn64tab), ("internal/strconv.uint64pow10", Rows.laid_internal_strconv_uint64pow10), ("strconv.ErrRange", Rows.laid_strconv_ErrRange), ("strconv.ErrSyntax", Rows.laid_strconv_ErrSyntax)] ((World.laidAll Tryd.prog os [("math/bits.deBruijn32tab", Rows.laid_math_bits_deBruijn32tab), ("math/bits.deBruijn64tab", Rows.laid_math_bits_deBruijn64tab), ("internal/strconv.uint64pow10", Rows.laid_internal_strconv_uint64pow10), ("strconv.ErrRange", Rows.laid_strconv_ErrRange), ("strconv.ErrSyntax", Rows.laid_strconv_ErrSyntax)]).forCall (fun _ _ => 0) ⟨#[], args, []⟩).memory := by
  rw [MakeChecks.laidMetH_plain _ _ _ (by kernel_rfl)]
  exact laidMet_laidAll _ (by kernel_rfl) (by kernel_rfl)
end Go.Proofs.YthjaelopmfjfeaaDoor
