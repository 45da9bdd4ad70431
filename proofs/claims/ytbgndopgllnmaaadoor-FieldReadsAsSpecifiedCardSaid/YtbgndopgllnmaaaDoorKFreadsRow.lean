/-
  The statement FieldReadsAsSpecified of layer 8 holds of the program: Find, Max, Get, Key and Show return what is specified. Conditions: the tables of the library read as Go lays them.
-/
import Derived.Test.YtbgndopgllnmaaaDoorGT
import Derived.Test.YtbgndopgllnmaaaDoorTie
import Derived.Test.YtbgndopgllnmaaaDoorCards
import Derived.SevenTiedAt
import Derived.Test.YtbgndopgllnmaaaDoorKFy
import Derived.Test.YtbgndopgllnmaaaDoorKFz
import Derived.Test.YtbgndopgllnmaaaDoorGY
namespace Go.Proofs.YtbgndopgllnmaaaDoor
set_option linter.unusedVariables false
set_option linter.unusedSimpArgs false
open Go.ChangeShapes Go.WideShapes Go.ChangeAt Go.RowKit
open Go.ChangeMaps (open_string shut_string)

theorem and_t {a b : Bool} (h : a = true) (k : b = true) : (a && b) = true := by rw [h, k]; rfl
theorem freads_k0 : (Rows.fieldReadsAsSpecifiedRow.wf (OpenSpec.ofChange Rows.fieldReadsAsSpecifiedSpec)) = true := by kernel_rfl
theorem freads_k1 : (laidOutB Tryd.prog) = true := by kernel_rfl
theorem freads_k2 : (mapsRowed Tryd.prog) = true := by kernel_rfl
theorem freads_k3 : (Tryd.f4.params.all (Tryd.prog.readableRec ·)) = true := by kernel_rfl
theorem freads_k4 : (namedTie Tryd.prog Rows.fieldReadsAsSpecifiedRow.named Rows.fieldReadsAsSpecifiedSpec.vars) = true := by kernel_rfl
theorem freads_k5 : ((Rows.fieldReadsAsSpecifiedRow.stops == [])) = true := by kernel_rfl
theorem freads_k6 : ((Tryd.prog.stops == [])) = true := by kernel_rfl
theorem freads_k7 : ((Rows.fieldReadsAsSpecifiedRow.knobs == [])) = true := by kernel_rfl
theorem freads_k8 : ((Tryd.prog.stopKnobs == [])) = true := by kernel_rfl
theorem freads_k9 : ((Rows.fieldReadsAsSpecifiedRow.inPlace == Tryd.prog.inPlace 4)) = true := by kernel_rfl
theorem freads_k10 : ((Rows.fieldReadsAsSpecifiedRow.unfollowed == Tryd.prog.unfollowed 4)) = true := by kernel_rfl
theorem freads_k11 : ((Rows.fieldReadsAsSpecifiedRow.recurses == Tryd.prog.recurses 4)) = true := by kernel_rfl
theorem freads_k12 : ((Rows.fieldReadsAsSpecifiedRow.named == Tryd.prog.varsNamed 4)) = true := by kernel_rfl
theorem freads_k13 : ((Rows.fieldReadsAsSpecifiedRow.maps == (Tryd.f4.params.toList ++ Rows.fieldReadsAsSpecifiedSpec.plain.varTypes Tryd.prog).any (Tryd.prog.mapsRec ·))) = true := by kernel_rfl
theorem freads_k14 : ((Rows.fieldReadsAsSpecifiedRow.ifaces == (Tryd.f4.params.toList ++ Rows.fieldReadsAsSpecifiedSpec.plain.varTypes Tryd.prog).any (Tryd.prog.ifacesRec ·))) = true := by kernel_rfl
theorem freads_k15 : ((Rows.fieldReadsAsSpecifiedRow.mapsOut == Tryd.prog.mapsAmong Tryd.f4.resultTypes.toList)) = true := by kernel_rfl
theorem freads_k16 : ((Rows.fieldReadsAsSpecifiedRow.loops == (Tryd.f4.params.toList ++ Rows.fieldReadsAsSpecifiedSpec.plain.varTypes Tryd.prog).any (Tryd.prog.loopsFrom ·))) = true := by kernel_rfl
theorem freads_k17 : ((Rows.fieldReadsAsSpecifiedRow.wideKeys == (Tryd.f4.params.toList ++ Rows.fieldReadsAsSpecifiedSpec.plain.varTypes Tryd.prog ++ Tryd.f4.resultTypes.toList).any (Tryd.prog.wideKeysFrom ·))) = true := by kernel_rfl
theorem freads_k18 : (Rows.fieldReadsAsSpecifiedSpec.vars.all (Tryd.prog.varReadable ·)) = true := by kernel_rfl
theorem freads_k19 : (Tryd.f4.resultTypes.all (fun t => Tryd.prog.readableRec t && decide (t < Tryd.prog.types.size))) = true := by kernel_rfl
theorem freads_k20 : ((Rows.fieldReadsAsSpecifiedRow.ifacesOut == Tryd.f4.resultTypes.toList.any (Tryd.prog.ifacesRec ·))) = true := by kernel_rfl
theorem freads_k21 : ((Rows.fieldReadsAsSpecifiedRow.loopsOut == Tryd.f4.resultTypes.toList.any (Tryd.prog.loopsFrom ·))) = true := by kernel_rfl
theorem freads_k22 : ((Rows.fieldReadsAsSpecifiedRow.plainKeys == Tryd.prog.plainKeys)) = true := by kernel_rfl
theorem freads_k23 : (Rows.fieldReadsAsSpecifiedRow.shortTexts.isNone) = true := by kernel_rfl
theorem freads_k24 : (Tryd.prog.stopsHeard) = true := by kernel_rfl
theorem freads_k25 : (Tryd.prog.mayEnter) = true := by kernel_rfl
theorem freads_k26 : ((Rows.fieldReadsAsSpecifiedRow.lifted == Tryd.prog.liftsFinal)) = true := by kernel_rfl
theorem freads_k27 : ((Tryd.prog.make == some Rows.fieldReadsAsSpecifiedRow.make)) = true := by kernel_rfl
theorem freads_k28 : ((Rows.fieldReadsAsSpecifiedRow.kinds == (if Rows.fieldReadsAsSpecifiedRow.domain.isEmpty then [] else Tryd.f4.params.toList.map fun t => match Tryd.prog.underlying t with | some (.int k) => some k | _ => none))) = true := by kernel_rfl
theorem freads_k29 : ((Rows.fieldReadsAsSpecifiedRow.pinned == Rows.fieldReadsAsSpecifiedRow.pinnedBy)) = true := by kernel_rfl
theorem freads_k30 : ((Rows.fieldReadsAsSpecifiedRow.veiled == (Tryd.f4.params.toList ++ Rows.fieldReadsAsSpecifiedSpec.plain.varTypes Tryd.prog ++ Tryd.f4.resultTypes.toList).any (Tryd.prog.veiledRec ·))) = true := by kernel_rfl
theorem freads_k31 : (Rows.fieldReadsAsSpecifiedRow.veiledFits Tryd.prog Tryd.f4.params.toList (Tryd.f4.params.toList ++ Rows.fieldReadsAsSpecifiedSpec.plain.varTypes Tryd.prog ++ Tryd.f4.resultTypes.toList)) = true := by kernel_rfl
set_option maxRecDepth 100000 in
theorem freads_facts : joinedFacts Tryd.prog 4 Tryd.f4 Rows.fieldReadsAsSpecifiedSpec Rows.fieldReadsAsSpecifiedRow = true := and_t (and_t (and_t (and_t (and_t (and_t (and_t (and_t (and_t (and_t (and_t (and_t (and_t (and_t (and_t (and_t (and_t (and_t (and_t (and_t (and_t (and_t (and_t (and_t (and_t (and_t (and_t (and_t (and_t (and_t (and_t freads_k0 freads_k1) freads_k2) freads_k3) freads_k4) freads_k5) freads_k6) freads_k7) freads_k8) freads_k9) freads_k10) freads_k11) freads_k12) freads_k13) freads_k14) freads_k15) freads_k16) freads_k17) freads_k18) freads_k19) freads_k20) freads_k21) freads_k22) freads_k23) freads_k24) freads_k25) freads_k26) freads_k27) freads_k28) freads_k29) freads_k30) freads_k31
set_option maxRecDepth 100000 in
theorem freads_lifted (os : Os) (started : os.Started) (H : Type) (enc : TypeId × Value → H) :
    ReturnsInHanded {} Tryd.checked os 4 .any (fun w args => (Rows.fieldReadsAsSpecifiedSpec.pre enc Tryd.prog Tryd.f4 [] false w args ∧ laidMetH Tryd.prog [("math/bits.deBruijn32tab", Rows.laid_math_bits_deBruijn32tab), ("math/bits.deBruijn64tab", Rows.laid_math_bits_deBruijn64tab), ("internal/strconv.uint64pow10", Rows.laid_internal_strconv_uint64pow10), ("unicode/utf8.acceptRanges", Rows.laid_unicode_utf8_acceptRanges), ("unicode/utf8.first", Rows.laid_unicode_utf8_first)] w) ∧ sizedMet enc Tryd.prog Tryd.f4 (OpenSpec.ofChange Rows.fieldReadsAsSpecifiedSpec) false w args)
      (Rows.fieldReadsAsSpecifiedSpec.post enc Tryd.prog Tryd.f4 false true false false) := by
  refine returnsInHanded_of_row (C := Tryd.checked) (s := OpenSpec.ofChange Rows.fieldReadsAsSpecifiedSpec) (F := fun _ _ _ => 0) Tryd.own started (by kernel_rfl) Tryd.func4
    (ChangeSpec.witness_shaped (enc := enc) (C := Tryd.checked) (os := os) (X := fun w _ => laidMetH Tryd.prog [("math/bits.deBruijn32tab", Rows.laid_math_bits_deBruijn32tab), ("math/bits.deBruijn64tab", Rows.laid_math_bits_deBruijn64tab), ("internal/strconv.uint64pow10", Rows.laid_internal_strconv_uint64pow10), ("unicode/utf8.acceptRanges", Rows.laid_unicode_utf8_acceptRanges), ("unicode/utf8.first", Rows.laid_unicode_utf8_first)] w) false (World.laidAll Tryd.prog os [("math/bits.deBruijn32tab", Rows.laid_math_bits_deBruijn32tab), ("math/bits.deBruijn64tab", Rows.laid_math_bits_deBruijn64tab), ("internal/strconv.uint64pow10", Rows.laid_internal_strconv_uint64pow10), ("unicode/utf8.acceptRanges", Rows.laid_unicode_utf8_acceptRanges), ("unicode/utf8.first", Rows.laid_unicode_utf8_first)]) #[.slice none 0 0, .slice none 0 0, .agg (Array.replicate 10 (.int .i64 0))] 8 (World.laidAll_os _ _ _) (shaped_laid os _) (by kernel_rfl) (by kernel_rfl) (by kernel_rfl) (laid_met os _)) ?_
  intro W base args ds gs before hval0 hW _ _ hsz0 hL hsh _
  have hQ : QF W := ⟨tab_of_laid hL, spl_of_shaped hsh⟩
  have hsz : (DataW.weightsEach Tryd.prog (Tryd.f4.params.toList ++ Rows.fieldReadsAsSpecifiedSpec.plain.varTypes Tryd.prog) (ds ++ gs)).all (· ≤ reachBytes) = true := hsz0
  clear hsz0 hsh
  have hval : ∀ (j : Nat) t v, Tryd.f4.params[j]? = some t → args[j]? = some v → Value.okWide Tryd.prog W .any base t v := hval0
  have hW' := hW
  obtain ⟨p, q, hA0, hV, rfl, hfz, hnd⟩ := hW
  have hA : DataW.TrodAll enc Tryd.prog W 0 (fun _ => true) true Tryd.f4.params.toList args.toList ds p := hA0
  rw [Tryd.params4] at hA hval hsz
  obtain ⟨v0, vs0, d0, ds0, p0, q0, hargs, rfl, rfl, h0, r0⟩ := trodAll_cons hA
  obtain ⟨v1, vs1, d1, ds1, p1, q1, rfl, rfl, rfl, h1, r1⟩ := trodAll_cons r0
  obtain ⟨v2, vs2, d2, ds2, p2, q2, rfl, rfl, rfl, h2, r2⟩ := trodAll_cons r1
  obtain ⟨rfl, rfl, rfl⟩ := trodAll_nil r2
  obtain rfl : args = #[v0, v1, v2] := by cases args; simp_all
  obtain ⟨rfl, rfl⟩ := trodVars_none hV
  obtain ⟨a0, len0, cap0, rfl, nn0, cc0⟩ := okWide_sliceN Tryd.underlying22 (hval 0 22 v0 rfl rfl)
  have lc0 := okWide_cap Tryd.underlying22 (hval 0 22 _ rfl rfl)
  have k0 := h0
  have lt0 : ∀ x ∈ p0, x.block < W.heap.size := by obtain ⟨m, hm⟩ := k0; exact DataW.trod_lt m _ _ _ hm
  obtain ⟨l0, e0, H0, m0, L0⟩ := open_fields h0
  have z0 := L0.reach hsz (j := 0) (b := 32) rfl rfl Tryd.underlying22 (by kernel_rfl)
  subst e0
  obtain ⟨a1, len1, cap1, rfl, nn1, cc1⟩ := okWide_sliceN Tryd.underlying28 (hval 1 28 v1 rfl rfl)
  have lc1 := okWide_cap Tryd.underlying28 (hval 1 28 _ rfl rfl)
  have k1 := h1
  have lt1 : ∀ x ∈ p1, x.block < W.heap.size := by obtain ⟨m, hm⟩ := k1; exact DataW.trod_lt m _ _ _ hm
  obtain ⟨l1, e1, H1, L1⟩ := open_strs8 h1
  have z1 := L1.reach hsz (j := 1) (b := 16) rfl rfl Tryd.underlying28 (by kernel_rfl)
  subst e1
  obtain ⟨cs2, rfl, sz2⟩ := okWide_arrB Tryd.underlying30 (hval 2 30 v2 rfl rfl)
  have k2 := h2
  have lt2 : ∀ x ∈ p2, x.block < W.heap.size := by obtain ⟨m, hm⟩ := k2; exact DataW.trod_lt m _ _ _ hm
  obtain ⟨l2, n2, e2⟩ := open_head sz2 h2
  subst e2
  clear hA0 hval0
  simp only [List.append_nil] at hW'
  refine (readsLaw_any a0 a1 cap0 cap1 l0 l1 l2 W n2 (by omega) (by omega) m0 H0 H1 hQ).mono fun e W' ⟨he, hb⟩ => ?_
  subst he
  exact ⟨_, rfl, _, _, _, [], _, [], hW', trodAll_mk1 (shut_bool Tryd.underlying4 _), (trodAll_cons_mk (Below.trod Tryd.laidOut (by kernel_rfl) (of_decide_eq_true (by kernel_rfl)) k0 hb lt0) (trodAll_cons_mk (Below.trod Tryd.laidOut (by kernel_rfl) (of_decide_eq_true (by kernel_rfl)) k1 hb lt1) (trodAll_cons_mk (Below.trod Tryd.laidOut (by kernel_rfl) (of_decide_eq_true (by kernel_rfl)) k2 hb lt2) trodAll_mk0))), rfl, hb.frame _, fun h => by cases h⟩

theorem freads_row : Rows.FieldReadsAsSpecifiedSaid :=
  OpenClaim.holds_of_wide 4 Tryd.f4 rfl rfl rfl rfl rfl rfl rfl ⟨rfl, rfl, rfl, rfl, rfl⟩ rfl rfl rfl rfl rfl (by kernel_rfl) Tryd.func4 freads_facts
    (of_decide_eq_true (by kernel_rfl)) (by unfold Func.isWrapper; first | (rw [if_pos (by decide +kernel)]; kernel_rfl) | (rw [if_neg (by decide +kernel)]; exact ⟨rfl, rfl⟩))
    (fun os started H enc _ => freads_lifted os started H enc)
theorem freads_wf : Rows.fieldReadsAsSpecifiedRow.wfByText (OpenSpec.ofChange Rows.fieldReadsAsSpecifiedSpec) = true := by kernel_rfl
theorem freads_main : Tryd.prog.mainIs = some (Rows.fieldReadsAsSpecifiedCard.stood.harness.1, Rows.fieldReadsAsSpecifiedCard.stood.harness.2.toList) := by kernel_rfl
theorem freads_looks : false = Tryd.prog.looks [] := by kernel_rfl
theorem freads_goes : false = Rows.fieldReadsAsSpecifiedRow.goesBy Tryd.prog := by kernel_rfl
theorem freads_named : Tryd.prog.funcNamed "interlace/interlacelaw08.FieldReadsAsSpecified" = some 4 := by kernel_rfl
theorem freads_stand : ([22, 28, 30].all fun u => !Tryd.prog.wantsStandIn u) = true := by kernel_rfl
theorem freads_at (f : FuncId) (fn : Func) (hf : Tryd.prog.funcNamed "interlace/interlacelaw08.FieldReadsAsSpecified" = some f) (hfn : Tryd.prog.funcs[f]? = some fn) : false = Tryd.prog.looks [] ∧ ∀ (j : Nat) t, fn.params[j]? = some t → Tryd.prog.wantsStandIn t = false := by
  obtain rfl : f = 4 := Option.some.inj (freads_named.symm.trans hf) |>.symm
  obtain rfl : fn = Tryd.f4 := (Option.some.inj (Tryd.func4.symm.trans hfn)).symm
  exact ⟨freads_looks, fun j t ht => by
    rw [Tryd.params4] at ht
    have hm : t ∈ [22, 28, 30] := by simpa using Array.mem_of_getElem? ht
    exact (show Tryd.prog.wantsStandIn t = false by simpa using List.all_eq_true.1 freads_stand t hm)⟩
theorem freads_holds : Rows.FieldReadsAsSpecifiedCardSaid :=
  Claim7.holds_tied_plain_at .later [] [.data, .data, .data, .data, .pinned] true _ false
    freads_row (fun _ h => by cases h) freads_wf (fun _ h => by cases h) fieldReadsAsSpecified_row_tie rfl ⟨rfl, rfl⟩ freads_main rfl freads_at freads_goes
#print axioms freads_holds
end Go.Proofs.YtbgndopgllnmaaaDoor
