/-
  The statement FieldChecksAsSpecified of layer 8 holds of the program: Check and Name return what is specified. Conditions: the tables of the library read as Go lays them.
-/
import Derived.Test.YtbgndopgllnmaaaDoorGT
import Derived.Test.YtbgndopgllnmaaaDoorTie
import Derived.Test.YtbgndopgllnmaaaDoorCards
import Derived.SevenTiedAt
import Derived.Test.YtbgndopgllnmaaaDoorGY
namespace Go.Proofs.YtbgndopgllnmaaaDoor
set_option linter.unusedVariables false
set_option linter.unusedSimpArgs false
open Go.ChangeShapes Go.WideShapes Go.ChangeAt Go.RowKit
open Go.ChangeMaps (open_string shut_string)

theorem and_t {a b : Bool} (h : a = true) (k : b = true) : (a && b) = true := by rw [h, k]; rfl
theorem fchecks_k0 : (Rows.fieldChecksAsSpecifiedRow.wf (OpenSpec.ofChange Rows.fieldChecksAsSpecifiedSpec)) = true := by kernel_rfl
theorem fchecks_k1 : (laidOutB Tryd.prog) = true := by kernel_rfl
theorem fchecks_k2 : (mapsRowed Tryd.prog) = true := by kernel_rfl
theorem fchecks_k3 : (Tryd.f3.params.all (Tryd.prog.readableRec ·)) = true := by kernel_rfl
theorem fchecks_k4 : (namedTie Tryd.prog Rows.fieldChecksAsSpecifiedRow.named Rows.fieldChecksAsSpecifiedSpec.vars) = true := by kernel_rfl
theorem fchecks_k5 : ((Rows.fieldChecksAsSpecifiedRow.stops == [])) = true := by kernel_rfl
theorem fchecks_k6 : ((Tryd.prog.stops == [])) = true := by kernel_rfl
theorem fchecks_k7 : ((Rows.fieldChecksAsSpecifiedRow.knobs == [])) = true := by kernel_rfl
theorem fchecks_k8 : ((Tryd.prog.stopKnobs == [])) = true := by kernel_rfl
theorem fchecks_k9 : ((Rows.fieldChecksAsSpecifiedRow.inPlace == Tryd.prog.inPlace 3)) = true := by kernel_rfl
theorem fchecks_k10 : ((Rows.fieldChecksAsSpecifiedRow.unfollowed == Tryd.prog.unfollowed 3)) = true := by kernel_rfl
theorem fchecks_k11 : ((Rows.fieldChecksAsSpecifiedRow.recurses == Tryd.prog.recurses 3)) = true := by kernel_rfl
theorem fchecks_k12 : ((Rows.fieldChecksAsSpecifiedRow.named == Tryd.prog.varsNamed 3)) = true := by kernel_rfl
theorem fchecks_k13 : ((Rows.fieldChecksAsSpecifiedRow.maps == (Tryd.f3.params.toList ++ Rows.fieldChecksAsSpecifiedSpec.plain.varTypes Tryd.prog).any (Tryd.prog.mapsRec ·))) = true := by kernel_rfl
theorem fchecks_k14 : ((Rows.fieldChecksAsSpecifiedRow.ifaces == (Tryd.f3.params.toList ++ Rows.fieldChecksAsSpecifiedSpec.plain.varTypes Tryd.prog).any (Tryd.prog.ifacesRec ·))) = true := by kernel_rfl
theorem fchecks_k15 : ((Rows.fieldChecksAsSpecifiedRow.mapsOut == Tryd.prog.mapsAmong Tryd.f3.resultTypes.toList)) = true := by kernel_rfl
theorem fchecks_k16 : ((Rows.fieldChecksAsSpecifiedRow.loops == (Tryd.f3.params.toList ++ Rows.fieldChecksAsSpecifiedSpec.plain.varTypes Tryd.prog).any (Tryd.prog.loopsFrom ·))) = true := by kernel_rfl
theorem fchecks_k17 : ((Rows.fieldChecksAsSpecifiedRow.wideKeys == (Tryd.f3.params.toList ++ Rows.fieldChecksAsSpecifiedSpec.plain.varTypes Tryd.prog ++ Tryd.f3.resultTypes.toList).any (Tryd.prog.wideKeysFrom ·))) = true := by kernel_rfl
theorem fchecks_k18 : (Rows.fieldChecksAsSpecifiedSpec.vars.all (Tryd.prog.varReadable ·)) = true := by kernel_rfl
theorem fchecks_k19 : (Tryd.f3.resultTypes.all (fun t => Tryd.prog.readableRec t && decide (t < Tryd.prog.types.size))) = true := by kernel_rfl
theorem fchecks_k20 : ((Rows.fieldChecksAsSpecifiedRow.ifacesOut == Tryd.f3.resultTypes.toList.any (Tryd.prog.ifacesRec ·))) = true := by kernel_rfl
theorem fchecks_k21 : ((Rows.fieldChecksAsSpecifiedRow.loopsOut == Tryd.f3.resultTypes.toList.any (Tryd.prog.loopsFrom ·))) = true := by kernel_rfl
theorem fchecks_k22 : ((Rows.fieldChecksAsSpecifiedRow.plainKeys == Tryd.prog.plainKeys)) = true := by kernel_rfl
theorem fchecks_k23 : (Rows.fieldChecksAsSpecifiedRow.shortTexts.isNone) = true := by kernel_rfl
theorem fchecks_k24 : (Tryd.prog.stopsHeard) = true := by kernel_rfl
theorem fchecks_k25 : (Tryd.prog.mayEnter) = true := by kernel_rfl
theorem fchecks_k26 : ((Rows.fieldChecksAsSpecifiedRow.lifted == Tryd.prog.liftsFinal)) = true := by kernel_rfl
theorem fchecks_k27 : ((Tryd.prog.make == some Rows.fieldChecksAsSpecifiedRow.make)) = true := by kernel_rfl
theorem fchecks_k28 : ((Rows.fieldChecksAsSpecifiedRow.kinds == (if Rows.fieldChecksAsSpecifiedRow.domain.isEmpty then [] else Tryd.f3.params.toList.map fun t => match Tryd.prog.underlying t with | some (.int k) => some k | _ => none))) = true := by kernel_rfl
theorem fchecks_k29 : ((Rows.fieldChecksAsSpecifiedRow.pinned == Rows.fieldChecksAsSpecifiedRow.pinnedBy)) = true := by kernel_rfl
theorem fchecks_k30 : ((Rows.fieldChecksAsSpecifiedRow.veiled == (Tryd.f3.params.toList ++ Rows.fieldChecksAsSpecifiedSpec.plain.varTypes Tryd.prog ++ Tryd.f3.resultTypes.toList).any (Tryd.prog.veiledRec ·))) = true := by kernel_rfl
theorem fchecks_k31 : (Rows.fieldChecksAsSpecifiedRow.veiledFits Tryd.prog Tryd.f3.params.toList (Tryd.f3.params.toList ++ Rows.fieldChecksAsSpecifiedSpec.plain.varTypes Tryd.prog ++ Tryd.f3.resultTypes.toList)) = true := by kernel_rfl
set_option maxRecDepth 100000 in
theorem fchecks_facts : joinedFacts Tryd.prog 3 Tryd.f3 Rows.fieldChecksAsSpecifiedSpec Rows.fieldChecksAsSpecifiedRow = true := and_t (and_t (and_t (and_t (and_t (and_t (and_t (and_t (and_t (and_t (and_t (and_t (and_t (and_t (and_t (and_t (and_t (and_t (and_t (and_t (and_t (and_t (and_t (and_t (and_t (and_t (and_t (and_t (and_t (and_t (and_t fchecks_k0 fchecks_k1) fchecks_k2) fchecks_k3) fchecks_k4) fchecks_k5) fchecks_k6) fchecks_k7) fchecks_k8) fchecks_k9) fchecks_k10) fchecks_k11) fchecks_k12) fchecks_k13) fchecks_k14) fchecks_k15) fchecks_k16) fchecks_k17) fchecks_k18) fchecks_k19) fchecks_k20) fchecks_k21) fchecks_k22) fchecks_k23) fchecks_k24) fchecks_k25) fchecks_k26) fchecks_k27) fchecks_k28) fchecks_k29) fchecks_k30) fchecks_k31
set_option maxRecDepth 100000 in
theorem fchecks_lifted (os : Os) (started : os.Started) (H : Type) (enc : TypeId × Value → H) :
    ReturnsInHanded {} Tryd.checked os 3 .any (fun w args => (Rows.fieldChecksAsSpecifiedSpec.pre enc Tryd.prog Tryd.f3 [] false w args ∧ laidMetH Tryd.prog [("math/bits.deBruijn32tab", Rows.laid_math_bits_deBruijn32tab), ("math/bits.deBruijn64tab", Rows.laid_math_bits_deBruijn64tab), ("internal/strconv.uint64pow10", Rows.laid_internal_strconv_uint64pow10), ("unicode/utf8.acceptRanges", Rows.laid_unicode_utf8_acceptRanges), ("unicode/utf8.first", Rows.laid_unicode_utf8_first)] w) ∧ sizedMet enc Tryd.prog Tryd.f3 (OpenSpec.ofChange Rows.fieldChecksAsSpecifiedSpec) false w args)
      (Rows.fieldChecksAsSpecifiedSpec.post enc Tryd.prog Tryd.f3 false true false false) := by
  refine returnsInHanded_of_row (C := Tryd.checked) (s := OpenSpec.ofChange Rows.fieldChecksAsSpecifiedSpec) (F := fun _ _ _ => 0) Tryd.own started (by kernel_rfl) Tryd.func3
    (ChangeSpec.witness_shaped (enc := enc) (C := Tryd.checked) (os := os) (X := fun w _ => laidMetH Tryd.prog [("math/bits.deBruijn32tab", Rows.laid_math_bits_deBruijn32tab), ("math/bits.deBruijn64tab", Rows.laid_math_bits_deBruijn64tab), ("internal/strconv.uint64pow10", Rows.laid_internal_strconv_uint64pow10), ("unicode/utf8.acceptRanges", Rows.laid_unicode_utf8_acceptRanges), ("unicode/utf8.first", Rows.laid_unicode_utf8_first)] w) false (World.laidAll Tryd.prog os [("math/bits.deBruijn32tab", Rows.laid_math_bits_deBruijn32tab), ("math/bits.deBruijn64tab", Rows.laid_math_bits_deBruijn64tab), ("internal/strconv.uint64pow10", Rows.laid_internal_strconv_uint64pow10), ("unicode/utf8.acceptRanges", Rows.laid_unicode_utf8_acceptRanges), ("unicode/utf8.first", Rows.laid_unicode_utf8_first)]) #[.slice none 0 0, .string ByteArray.empty] 8 (World.laidAll_os _ _ _) (shaped_laid os _) (by kernel_rfl) (by kernel_rfl) (by kernel_rfl) (laid_met os _)) ?_
  intro W base args ds gs before hval0 hW _ _ hsz0 hL hsh _
  have hQ : QF W := ⟨tab_of_laid hL, spl_of_shaped hsh⟩
  have hsz : (DataW.weightsEach Tryd.prog (Tryd.f3.params.toList ++ Rows.fieldChecksAsSpecifiedSpec.plain.varTypes Tryd.prog) (ds ++ gs)).all (· ≤ reachBytes) = true := hsz0
  clear hsz0 hsh
  have hval : ∀ (j : Nat) t v, Tryd.f3.params[j]? = some t → args[j]? = some v → Value.okWide Tryd.prog W .any base t v := hval0
  have hW' := hW
  obtain ⟨p, q, hA0, hV, rfl, hfz, hnd⟩ := hW
  have hA : DataW.TrodAll enc Tryd.prog W 0 (fun _ => true) true Tryd.f3.params.toList args.toList ds p := hA0
  rw [Tryd.params3] at hA hval hsz
  obtain ⟨v0, vs0, d0, ds0, p0, q0, hargs, rfl, rfl, h0, r0⟩ := trodAll_cons hA
  obtain ⟨v1, vs1, d1, ds1, p1, q1, rfl, rfl, rfl, h1, r1⟩ := trodAll_cons r0
  obtain ⟨rfl, rfl, rfl⟩ := trodAll_nil r1
  obtain rfl : args = #[v0, v1] := by cases args; simp_all
  obtain ⟨rfl, rfl⟩ := trodVars_none hV
  obtain ⟨a0, len0, cap0, rfl, nn0, cc0⟩ := okWide_sliceN Tryd.underlying22 (hval 0 22 v0 rfl rfl)
  have lc0 := okWide_cap Tryd.underlying22 (hval 0 22 _ rfl rfl)
  have k0 := h0
  have lt0 : ∀ x ∈ p0, x.block < W.heap.size := by obtain ⟨m, hm⟩ := k0; exact DataW.trod_lt m _ _ _ hm
  obtain ⟨l0, e0, H0, m0, L0⟩ := open_fields h0
  have z0 := L0.reach hsz (j := 0) (b := 32) rfl rfl Tryd.underlying22 (by kernel_rfl)
  subst e0
  obtain ⟨s1, rfl, rfl, rfl, w1⟩ := open_string Tryd.underlying9 (hval 1 9 v1 rfl rfl) h1
  have z1 : s1.size ≤ 140737488351232 := by
    have := sized_string hsz (j := 1) rfl rfl
    rw [bytes_size] at this
    exact this
  clear hA0 hval0
  simp only [List.append_nil] at hW'
  refine (checksLaw_any a0 cap0 l0 s1 W (by omega) lc0 m0 (by omega) H0 hQ).mono fun e W' ⟨he, hb⟩ => ?_
  subst he
  exact ⟨_, rfl, _, _, _, [], _, [], hW', trodAll_mk1 (shut_bool Tryd.underlying4 _), (trodAll_cons_mk (Below.trod Tryd.laidOut (by kernel_rfl) (of_decide_eq_true (by kernel_rfl)) k0 hb lt0) (trodAll_cons_mk (shut_string Tryd.underlying9 w1) trodAll_mk0)), rfl, hb.frame _, fun h => by cases h⟩

theorem fchecks_row : Rows.FieldChecksAsSpecifiedSaid :=
  OpenClaim.holds_of_wide 3 Tryd.f3 rfl rfl rfl rfl rfl rfl rfl ⟨rfl, rfl, rfl, rfl, rfl⟩ rfl rfl rfl rfl rfl (by kernel_rfl) Tryd.func3 fchecks_facts
    (of_decide_eq_true (by kernel_rfl)) (by unfold Func.isWrapper; first | (rw [if_pos (by decide +kernel)]; kernel_rfl) | (rw [if_neg (by decide +kernel)]; exact ⟨rfl, rfl⟩))
    (fun os started H enc _ => fchecks_lifted os started H enc)
theorem fchecks_wf : Rows.fieldChecksAsSpecifiedRow.wfByText (OpenSpec.ofChange Rows.fieldChecksAsSpecifiedSpec) = true := by kernel_rfl
theorem fchecks_main : Tryd.prog.mainIs = some (Rows.fieldChecksAsSpecifiedCard.stood.harness.1, Rows.fieldChecksAsSpecifiedCard.stood.harness.2.toList) := by kernel_rfl
theorem fchecks_looks : false = Tryd.prog.looks [] := by kernel_rfl
theorem fchecks_goes : false = Rows.fieldChecksAsSpecifiedRow.goesBy Tryd.prog := by kernel_rfl
theorem fchecks_named : Tryd.prog.funcNamed "interlace/interlacelaw08.FieldChecksAsSpecified" = some 3 := by kernel_rfl
theorem fchecks_stand : ([22, 9].all fun u => !Tryd.prog.wantsStandIn u) = true := by kernel_rfl
theorem fchecks_at (f : FuncId) (fn : Func) (hf : Tryd.prog.funcNamed "interlace/interlacelaw08.FieldChecksAsSpecified" = some f) (hfn : Tryd.prog.funcs[f]? = some fn) : false = Tryd.prog.looks [] ∧ ∀ (j : Nat) t, fn.params[j]? = some t → Tryd.prog.wantsStandIn t = false := by
  obtain rfl : f = 3 := Option.some.inj (fchecks_named.symm.trans hf) |>.symm
  obtain rfl : fn = Tryd.f3 := (Option.some.inj (Tryd.func3.symm.trans hfn)).symm
  exact ⟨fchecks_looks, fun j t ht => by
    rw [Tryd.params3] at ht
    have hm : t ∈ [22, 9] := by simpa using Array.mem_of_getElem? ht
    exact (show Tryd.prog.wantsStandIn t = false by simpa using List.all_eq_true.1 fchecks_stand t hm)⟩
theorem fchecks_holds : Rows.FieldChecksAsSpecifiedCardSaid :=
  Claim7.holds_tied_plain_at .later [] [.data, .data, .data, .data, .pinned] true _ false
    fchecks_row (fun _ h => by cases h) fchecks_wf (fun _ h => by cases h) fieldChecksAsSpecified_row_tie rfl ⟨rfl, rfl⟩ fchecks_main rfl fchecks_at fchecks_goes
#print axioms fchecks_holds
end Go.Proofs.YtbgndopgllnmaaaDoor
