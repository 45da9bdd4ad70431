/-
  Contracts of the functions that the statement calls, part 20 of 25 (merged texts: Fo). Conditions: as the head of each part says.
-/
import Derived.Test.YtbgndopgllnmaaaDoorGP
import Derived.Test.YtbgndopgllnmaaaDoorGO
import Derived.Test.YtbgndopgllnmaaaDoorGQ
import Derived.Test.YtbgndopgllnmaaaDoorGS
import Derived.Test.YtbgndopgllnmaaaDoorRows
import Derived.ProofKit
import Derived.OpenShut
import Derived.ShutString
import Derived.ChangeOld
import Derived.SizedLaws
import Derived.SliceStrings
import Derived.Deep.Slices
import Derived.Deep.Fields
import Derived.ChangeSame
import Derived.LaidMore
import Derived.Shelf.Vars
import Derived.Lay
import Derived.Stop.Joined
import Derived.Deep.DeepHandedRow

/-
  What the rows' last steps of layer 8 have in common: the arguments read, the library's variables. Conditions: the row's own.
-/
namespace Go.Proofs.YtbgndopgllnmaaaDoor
set_option linter.unusedVariables false
set_option linter.unusedSimpArgs false
open Go.ChangeShapes Go.WideShapes Go.ChangeAt Go.RowKit
open Go.Deep (choose_lt)
set_option linter.unusedVariables false

theorem okWide_cap {P : Program} {w : World} {r : Reach} {base : Nat} {t e : TypeId} {A : Option Addr} {len cap : Nat} (hu : P.underlying t = some (.slice e)) (h : Value.okWide P w r base t (.slice A len cap)) : len ≤ cap := by
  have h' : Cell.ok P w r base t (.slice A len cap) := by
    simp only [Value.okWide, hu, Cell.okWide] at h
    exact h
  unfold Cell.ok at h'
  rw [hu] at h'
  cases A with
  | none =>
    cases len with
    | zero => exact Nat.zero_le _
    | succ l => exact absurd h' (by simp)
  | some a =>
    have h2 : len ≤ cap ∧ (cap : Int) ≤ IntKind.i64.max ∧ w.has P r base a _ cap := h'
    exact h2.1
section
variable {H : Type} {enc : TypeId × Value → H} {W : World} {d : DataW H} {p : List MemPlace}
theorem three_parts {base n2 k0 k1 k2 o0 o1 o2 : Nat} {cs : List Value} {ys : List (DataW H × List MemPlace)} (hl : cs.length = 3) (hys : ys.length = 3) (e0 : k0 = 1) (e1 : k1 = 1) (e2 : k2 = 1) (e3 : o0 = 0) (e4 : o1 = 1) (e5 : o2 = 2)
    (h0 : DataW.trod enc Tryd.prog W base (fun _ => true) true n2 9 ((cs.drop o0).take k0) = ys[0]?) (h1 : DataW.trod enc Tryd.prog W base (fun _ => true) true n2 3 ((cs.drop o1).take k1) = ys[1]?) (h2 : DataW.trod enc Tryd.prog W base (fun _ => true) true n2 3 ((cs.drop o2).take k2) = ys[2]?) : ∃ f : Fd, cs = [.string f.nm, .int .i64 f.at_, .int .i64 f.wd] ∧ f.nm.size ≤ maxLen := by
  subst e0 e1 e2 e3 e4 e5
  obtain ⟨a, b, c, rfl⟩ : ∃ a b c, cs = [a, b, c] := by
    rcases cs with _ | ⟨a, _ | ⟨b, _ | ⟨c, _ | ⟨x, r⟩⟩⟩⟩
    · simp at hl
    · simp at hl
    · simp at hl
    · exact ⟨a, b, c, rfl⟩
    · simp at hl
  rw [List.getElem?_eq_getElem (by omega)] at h0 h1 h2
  obtain ⟨z0, hz0, _, hm⟩ := DataW.trod_string Tryd.underlying9 h0
  obtain ⟨z1, hz1, _, _⟩ := DataW.trod_int Tryd.underlying3 h1
  obtain ⟨z2, hz2, _, _⟩ := DataW.trod_int Tryd.underlying3 h2
  have e0 : a = .string z0 := by simpa using hz0
  have e1 : b = .int .i64 z1 := by simpa using hz1
  have e2 : c = .int .i64 z2 := by simpa using hz2
  exact ⟨⟨z0, z1, z2⟩, by rw [e0, e1, e2], hm⟩
theorem field_of {base fuel : Nat} {cs : List Value} {y : DataW H × List MemPlace} (hf : DataW.trod enc Tryd.prog W base (fun _ => true) true fuel 33 cs = some y) (hcl : cs.length = 3) : ∃ f : Fd, cs = [.string f.nm, .int .i64 f.at_, .int .i64 f.wd] ∧ f.nm.size ≤ maxLen := by
  obtain ⟨ys, n2, hn', hy, hlen, hyl, hfld⟩ := DataW.trod_struct Tryd.underlying33 hf
  have hys : ys.length = 3 := hyl
  exact three_parts hcl hys (by kernel_rfl) (by kernel_rfl) (by kernel_rfl) (by kernel_rfl) (by kernel_rfl) (by kernel_rfl) (hfld 0 _ rfl) (hfld 1 _ rfl) (hfld 2 _ rfl)
theorem open_field {cs : Array Value} (hs : cs.size = Tryd.prog.cellsOf 33) (h : DataW.Trod enc Tryd.prog W 0 (fun _ => true) true 33 (.agg cs) d p) : ∃ (s : ByteArray) (a n : Int), cs = #[Value.string s, .int .i64 a, .int .i64 n] ∧ s.size ≤ 9223372036854775807 := by
  obtain ⟨fuel, hf⟩ := h
  have c : Tryd.prog.cellsOf 33 = 3 := by kernel_rfl
  have hf2 : DataW.trod enc Tryd.prog W 0 (fun _ => true) true fuel 33 cs.toList = some (d, p) := hf
  obtain ⟨r, e, hm⟩ := field_of hf2 (by rw [Array.length_toList, hs, c])
  refine ⟨r.nm, r.at_, r.wd, ?_, ?_⟩
  · apply Array.toList_inj.1
    exact e
  · unfold maxLen at hm; exact hm
theorem fields_of {base fuel : Nat} {a : Option Addr} {len cap : Nat} {y : DataW H × List MemPlace} (hf2 : DataW.trod enc Tryd.prog W base (fun _ => true) true fuel 22 [.slice a len cap] = some y) : ∃ l : List Fd, len = l.length ∧ FsAt W a l ∧ (∀ f ∈ l, f.nm.size ≤ 9223372036854775807) ∧ LenOf y.1 len := by
  rcases Go.Deep.open_slice Tryd.underlying22 hf2 with ⟨hcs, hx⟩ | ⟨x, n, c, m, fl, D, Pl, hcs, _, hl, hm, hmm, hx, hel⟩
  · injection hcs with hcs _
    injection hcs with e1 e2 e3
    subst e1 e2 e3
    exact ⟨[], rfl, (fun j y hy => by cases hy), (fun f hf => by cases hf), .inl rfl⟩
  · injection hcs with hcs _
    injection hcs with e1 e2 e3
    subst e1 e2 e3
    have hmc : m = cap := by simpa using hmm
    have c2 : Tryd.prog.cellsOf 33 = 3 := by kernel_rfl
    have each : ∀ i, i < m → ∃ y : Fd, (∀ (q : Nat) (u : Value), [Value.string y.nm, .int .i64 y.at_, .int .i64 y.wd][q]? = some u → W.cell? ((x.add (i * 3)).add q) = some u) ∧ y.nm.size ≤ maxLen := fun i hi => by
      obtain ⟨cs', h1, h2⟩ := hel i hi
      rw [c2] at h1
      obtain ⟨hl4, hcl, hat⟩ := World.cells?_some h1
      obtain ⟨y, rfl, hm⟩ := field_of h2 hcl
      exact ⟨y, (fun q u hu => by rw [hat q (by have := (List.getElem?_eq_some_iff.1 hu).1; rw [hcl] at this; exact this)]; exact hu), hm⟩
    haveI : Inhabited Fd := ⟨⟨ByteArray.empty, 0, 0⟩⟩
    obtain ⟨f, hfx⟩ := choose_lt each
    refine ⟨(List.range len).map f, by simp, fun j y hy => ?_, fun y hy => ?_, ?_⟩
    · rw [List.getElem?_map] at hy
      have hj : j < len := by
        rcases Nat.lt_or_ge j len with h | h
        · exact h
        · rw [List.getElem?_eq_none (by simp; omega)] at hy; cases hy
      rw [List.getElem?_range hj] at hy
      injection hy with hy
      have hc := (hfx j (by omega)).1
      rw [hy] at hc
      have h0 := hc 0 _ rfl
      have h1 := hc 1 _ rfl
      have h2 := hc 2 _ rfl
      have hs := World.cell?_spot ((hfx 0 (by omega)).1 0 _ rfl)
      obtain ⟨g, o, s⟩ := x
      have hs' : s = none := by
        simpa [Addr.add] using hs
      subst hs'
      rw [addr_mid, addr_mid] at h0 h1 h2
      exact ⟨g, o, rfl, h0, h1, h2⟩
    · obtain ⟨j, hj, rfl⟩ := List.mem_map.1 hy
      have := (hfx j (by have := List.mem_range.1 hj; omega)).2
      unfold maxLen at this
      exact this
    · rw [hx]
      exact .inr ⟨_, _, rfl, by simp⟩
theorem open_fields {a : Option Addr} {len cap : Nat} (h : DataW.Trod enc Tryd.prog W 0 (fun _ => true) true 22 (.slice a len cap) d p) : ∃ l : List Fd, len = l.length ∧ FsAt W a l ∧ (∀ f ∈ l, f.nm.size ≤ 9223372036854775807) ∧ LenOf d len := by
  obtain ⟨fuel, hf⟩ := h
  exact fields_of (y := (d, p)) (show DataW.trod enc Tryd.prog W 0 (fun _ => true) true fuel 22 [.slice a len cap] = some (d, p) from hf)
end
theorem Tryd.own : ownKnob Tryd.prog.godebug = none := by kernel_rfl
theorem Tryd.laidOut : laidOutB Tryd.prog = true := by kernel_rfl
theorem wrap_lit {n : Int} (h : (Lit.int .i64 n).wf = true) : IntKind.i64.wrap n = n := by
  have h2 : IntKind.i64.min ≤ n ∧ n ≤ IntKind.i64.max := by simpa [Lit.wf, IntKind.has] using h
  have h3 : IntKind.i64.min = -9223372036854775808 := by decide
  have h4 : IntKind.i64.max = 9223372036854775807 := by decide
  simp only [IntKind.wrap_i64]
  omega
theorem tab_of_laid {W : World} (h : laidMetH Tryd.prog [("math/bits.deBruijn32tab", Rows.laid_math_bits_deBruijn32tab), ("math/bits.deBruijn64tab", Rows.laid_math_bits_deBruijn64tab), ("internal/strconv.uint64pow10", Rows.laid_internal_strconv_uint64pow10), ("unicode/utf8.acceptRanges", Rows.laid_unicode_utf8_acceptRanges), ("unicode/utf8.first", Rows.laid_unicode_utf8_first)] W) : Lib.TabIs Tryd.prog W "internal/strconv.uint64pow10" .u64 Lib.pow10Tab := by
  rw [MakeChecks.laidMetH_plain _ _ _ (by kernel_rfl)] at h
  obtain ⟨ps, ⟨_, _, _, _, _, _, _, _, _, _, ⟨_, _, _, _, _, _, _, _, _, _, ⟨g2, t2, cs2, f2, p2, q2, hg2, ht2, hv2, hd2, _, _⟩, _⟩, _⟩, _⟩ := h
  have n2 : Tryd.prog.globalNamed "internal/strconv.uint64pow10" = some 0 := by kernel_rfl
  have m2 : (Tryd.prog.globals[0]?).map (·.type) = some 114 := by kernel_rfl
  obtain rfl := Option.some.inj (n2.symm.trans hg2)
  obtain rfl := Option.some.inj (m2.symm.trans ht2)
  have e2 : (Rows.laid_internal_strconv_uint64pow10 : DataW Unit) = Lib.tabData .u64 Lib.pow10Tab := by kernel_rfl
  rw [e2] at hd2
  unfold Lib.TabIs
  rw [hv2, ← Lib.cells_of_tab Tryd.underlying114 Tryd.underlying104 (by kernel_rfl) (by kernel_rfl) hd2]
theorem spl_of_shaped {W : World} (h : W.ShapedOpen Tryd.prog) : ∃ m : Int, W.cell? ⟨Tryd.splitA_ren.g 1, 0, none⟩ = some (.int .i64 m) := by
  have := cell_of_shapedOpen_int (g := 1) (t := 3) (zero := #[.int .i64 0]) (k := .i64) h (by first | decide | exact of_decide_eq_true (by kernel_rfl)) (by kernel_rfl) rfl (by kernel_rfl) (by kernel_rfl) (by kernel_rfl)
  exact this
theorem shaped_laid (os : Os) (args : Array Value) : ((World.laidAll Tryd.prog os [("math/bits.deBruijn32tab", Rows.laid_math_bits_deBruijn32tab), ("math/bits.deBruijn64tab", Rows.laid_math_bits_deBruijn64tab), ("internal/strconv.uint64pow10", Rows.laid_internal_strconv_uint64pow10), ("unicode/utf8.acceptRanges", Rows.laid_unicode_utf8_acceptRanges), ("unicode/utf8.first", Rows.laid_unicode_utf8_first)]).forCall (fun _ _ => 0) ⟨#[], args, []⟩).Shaped Tryd.prog := World.shaped_of_ZipB (by kernel_rfl) (by kernel_rfl)
theorem laid_met (os : Os) (args : Array Value) : laidMetH Tryd.prog [("math/bits.deBruijn32tab", Rows.laid_math_bits_deBruijn32tab), ("math/bits.deBruijn64tab", Rows.laid_math_bits_deBruijn64tab), ("internal/strconv.uint64pow10", Rows.laid_internal_strconv_uint64pow10), ("unicode/utf8.acceptRanges", Rows.laid_unicode_utf8_acceptRanges), ("unicode/utf8.first", Rows.laid_unicode_utf8_first)] ((World.laidAll Tryd.prog os [("math/bits.deBruijn32tab", Rows.laid_math_bits_deBruijn32tab), ("math/bits.deBruijn64tab", Rows.laid_math_bits_deBruijn64tab), ("internal/strconv.uint64pow10", Rows.laid_internal_strconv_uint64pow10), ("unicode/utf8.acceptRanges", Rows.laid_unicode_utf8_acceptRanges), ("unicode/utf8.first", Rows.laid_unicode_utf8_first)]).forCall (fun _ _ => 0) ⟨#[], args, []⟩).memory := by
  rw [MakeChecks.laidMetH_plain _ _ _ (by kernel_rfl)]
  exact laidMet_laidAll _ (by kernel_rfl) (by kernel_rfl)
end Go.Proofs.YtbgndopgllnmaaaDoor
