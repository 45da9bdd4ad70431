/-
  The statement RatioSumsMatchSpec of layer 7 holds of the program: Sum and Dot return what is specified. Conditions: the tables and the two errors of the library read as Go lays them.
-/
import Derived.Test.YthjaelopmfjfeaaDoorOw
import Derived.Test.YthjaelopmfjfeaaDoorTie
import Derived.Test.YthjaelopmfjfeaaDoorCards
import Derived.SevenTiedAt
import Derived.Test.YthjaelopmfjfeaaDoorYk
namespace Go.Proofs.YthjaelopmfjfeaaDoor
set_option linter.unusedVariables false
set_option linter.unusedSimpArgs false
open Go.ChangeShapes Go.WideShapes Go.ChangeAt Go.RowKit
open Go.ChangeMaps (open_string shut_string)

theorem and_t {a b : Bool} (h : a = true) (k : b = true) : (a && b) = true := by rw [h, k]; rfl
theorem rsums_k0 : (Rows.ratioSumsMatchSpecRow.wf (OpenSpec.ofChange Rows.ratioSumsMatchSpecSpec)) = true := by kernel_rfl
theorem rsums_k1 : (laidOutB Tryd.prog) = true := by kernel_rfl
theorem rsums_k2 : (mapsRowed Tryd.prog) = true := by kernel_rfl
theorem rsums_k3 : (Tryd.f7.params.all (Tryd.prog.readableRec ·)) = true := by kernel_rfl
theorem rsums_k4 : (namedTie Tryd.prog Rows.ratioSumsMatchSpecRow.named Rows.ratioSumsMatchSpecSpec.vars) = true := by kernel_rfl
theorem rsums_k5 : ((Rows.ratioSumsMatchSpecRow.stops == [])) = true := by kernel_rfl
theorem rsums_k6 : ((Tryd.prog.stops == [])) = true := by kernel_rfl
theorem rsums_k7 : ((Rows.ratioSumsMatchSpecRow.knobs == [])) = true := by kernel_rfl
theorem rsums_k8 : ((Tryd.prog.stopKnobs == [])) = true := by kernel_rfl
theorem rsums_k9 : ((Rows.ratioSumsMatchSpecRow.inPlace == Tryd.prog.inPlace 7)) = true := by kernel_rfl
theorem rsums_k10 : ((Rows.ratioSumsMatchSpecRow.unfollowed == Tryd.prog.unfollowed 7)) = true := by kernel_rfl
theorem rsums_k11 : ((Rows.ratioSumsMatchSpecRow.recurses == Tryd.prog.recurses 7)) = true := by kernel_rfl
theorem rsums_k12 : ((Rows.ratioSumsMatchSpecRow.named == Tryd.prog.varsNamed 7)) = true := by kernel_rfl
theorem rsums_k13 : ((Rows.ratioSumsMatchSpecRow.maps == (Tryd.f7.params.toList ++ Rows.ratioSumsMatchSpecSpec.plain.varTypes Tryd.prog).any (Tryd.prog.mapsRec ·))) = true := by kernel_rfl
theorem rsums_k14 : ((Rows.ratioSumsMatchSpecRow.ifaces == (Tryd.f7.params.toList ++ Rows.ratioSumsMatchSpecSpec.plain.varTypes Tryd.prog).any (Tryd.prog.ifacesRec ·))) = true := by kernel_rfl
theorem rsums_k15 : ((Rows.ratioSumsMatchSpecRow.mapsOut == Tryd.prog.mapsAmong Tryd.f7.resultTypes.toList)) = true := by kernel_rfl
theorem rsums_k16 : ((Rows.ratioSumsMatchSpecRow.loops == (Tryd.f7.params.toList ++ Rows.ratioSumsMatchSpecSpec.plain.varTypes Tryd.prog).any (Tryd.prog.loopsFrom ·))) = true := by kernel_rfl
theorem rsums_k17 : ((Rows.ratioSumsMatchSpecRow.wideKeys == (Tryd.f7.params.toList ++ Rows.ratioSumsMatchSpecSpec.plain.varTypes Tryd.prog ++ Tryd.f7.resultTypes.toList).any (Tryd.prog.wideKeysFrom ·))) = true := by kernel_rfl
theorem rsums_k18 : (Rows.ratioSumsMatchSpecSpec.vars.all (Tryd.prog.varReadable ·)) = true := by kernel_rfl
theorem rsums_k19 : (Tryd.f7.resultTypes.all (fun t => Tryd.prog.readableRec t && decide (t < Tryd.prog.types.size))) = true := by kernel_rfl
theorem rsums_k20 : ((Rows.ratioSumsMatchSpecRow.ifacesOut == Tryd.f7.resultTypes.toList.any (Tryd.prog.ifacesRec ·))) = true := by kernel_rfl
theorem rsums_k21 : ((Rows.ratioSumsMatchSpecRow.loopsOut == Tryd.f7.resultTypes.toList.any (Tryd.prog.loopsFrom ·))) = true := by kernel_rfl
theorem rsums_k22 : ((Rows.ratioSumsMatchSpecRow.plainKeys == Tryd.prog.plainKeys)) = true := by kernel_rfl
theorem rsums_k23 : (Rows.ratioSumsMatchSpecRow.shortTexts.isNone) = true := by kernel_rfl
theorem rsums_k24 : (Tryd.prog.stopsHeard) = true := by kernel_rfl
theorem rsums_k25 : (Tryd.prog.mayEnter) = true := by kernel_rfl
theorem rsums_k26 : ((Rows.ratioSumsMatchSpecRow.lifted == Tryd.prog.liftsFinal)) = true := by kernel_rfl
theorem rsums_k27 : ((Tryd.prog.make == some Rows.ratioSumsMatchSpecRow.make)) = true := by kernel_rfl
theorem rsums_k28 : ((Rows.ratioSumsMatchSpecRow.kinds == (if Rows.ratioSumsMatchSpecRow.domain.isEmpty then [] else Tryd.f7.params.toList.map fun t => match Tryd.prog.underlying t with | some (.int k) => some k | _ => none))) = true := by kernel_rfl
theorem rsums_k29 : ((Rows.ratioSumsMatchSpecRow.pinned == Rows.ratioSumsMatchSpecRow.pinnedBy)) = true := by kernel_rfl
theorem rsums_k30 : ((Rows.ratioSumsMatchSpecRow.veiled == (Tryd.f7.params.toList ++ Rows.ratioSumsMatchSpecSpec.plain.varTypes Tryd.prog ++ Tryd.f7.resultTypes.toList).any (Tryd.prog.veiledRec ·))) = true := by kernel_rfl
theorem rsums_k31 : (Rows.ratioSumsMatchSpecRow.veiledFits Tryd.prog Tryd.f7.params.toList (Tryd.f7.params.toList ++ Rows.ratioSumsMatchSpecSpec.plain.varTypes Tryd.prog ++ Tryd.f7.resultTypes.toList)) = true := by kernel_rfl
set_option maxRecDepth 100000 in
theorem rsums_facts : joinedFacts Tryd.prog 7 Tryd.f7 Rows.ratioSumsMatchSpecSpec Rows.ratioSumsMatchSpecRow = true := and_t (and_t (and_t (and_t (and_t (and_t (and_t (and_t (and_t (and_t (and_t (and_t (and_t (and_t (and_t (and_t (and_t (and_t (and_t (and_t (and_t (and_t (and_t (and_t (and_t (and_t (and_t (and_t (and_t (and_t (and_t rsums_k0 rsums_k1) rsums_k2) rsums_k3) rsums_k4) rsums_k5) rsums_k6) rsums_k7) rsums_k8) rsums_k9) rsums_k10) rsums_k11) rsums_k12) rsums_k13) rsums_k14) rsums_k15) rsums_k16) rsums_k17) rsums_k18) rsums_k19) rsums_k20) rsums_k21) rsums_k22) rsums_k23) rsums_k24) rsums_k25) rsums_k26) rsums_k27) rsums_k28) rsums_k29) rsums_k30) rsums_k31
set_option maxRecDepth 100000 in
theorem rsums_lifted (os : Os) (started : os.Started) (H : Type) (enc : TypeId × Value → H) :
    ReturnsInHanded {} Tryd.checked os 7 .any (fun w args => (Rows.ratioSumsMatchSpecSpec.pre enc Tryd.prog Tryd.f7 [] false w args ∧ laidMetH Tryd.prog [("math/bits.deBruijn32tab", Rows.laid_math_bits_deBruijn32tab), ("math/bits.deBruijn64tab", Rows.laid_math_bits_deBruijn64tab), ("internal/strconv.uint64pow10", Rows.laid_internal_strconv_uint64pow10), ("strconv.ErrRange", Rows.laid_strconv_ErrRange), ("strconv.ErrSyntax", Rows.laid_strconv_ErrSyntax)] w) ∧ sizedMet enc Tryd.prog Tryd.f7 (OpenSpec.ofChange Rows.ratioSumsMatchSpecSpec) false w args)
      (Rows.ratioSumsMatchSpecSpec.post enc Tryd.prog Tryd.f7 false true false false) := by
  refine returnsInHanded_of_row (C := Tryd.checked) (s := OpenSpec.ofChange Rows.ratioSumsMatchSpecSpec) (F := fun _ _ _ => 0) Tryd.own started (by kernel_rfl) Tryd.func7
    (ChangeSpec.witness_shaped (enc := enc) (C := Tryd.checked) (os := os) (X := fun w _ => laidMetH Tryd.prog [("math/bits.deBruijn32tab", Rows.laid_math_bits_deBruijn32tab), ("math/bits.deBruijn64tab", Rows.laid_math_bits_deBruijn64tab), ("internal/strconv.uint64pow10", Rows.laid_internal_strconv_uint64pow10), ("strconv.ErrRange", Rows.laid_strconv_ErrRange), ("strconv.ErrSyntax", Rows.laid_strconv_ErrSyntax)] w) false (World.laidAll Tryd.prog os [("math/bits.deBruijn32tab", Rows.laid_math_bits_deBruijn32tab), ("math/bits.deBruijn64tab", Rows.laid_math_bits_deBruijn64tab), ("internal/strconv.uint64pow10", Rows.laid_internal_strconv_uint64pow10), ("strconv.ErrRange", Rows.laid_strconv_ErrRange), ("strconv.ErrSyntax", Rows.laid_strconv_ErrSyntax)]) #[.slice none 0 0, .slice none 0 0] 8 (World.laidAll_os _ _ _) (shaped_laid os _) (by kernel_rfl) (by kernel_rfl) (by kernel_rfl) (laid_met os _)) ?_
  intro W base args ds gs before hval0 hW _ _ hsz0 hL hsh _
  have hQ : QW W := qw_of_laid hL
  have hsz : (DataW.weightsEach Tryd.prog (Tryd.f7.params.toList ++ Rows.ratioSumsMatchSpecSpec.plain.varTypes Tryd.prog) (ds ++ gs)).all (· ≤ reachBytes) = true := hsz0
  clear hsz0 hsh
  have hval : ∀ (j : Nat) t v, Tryd.f7.params[j]? = some t → args[j]? = some v → Value.okWide Tryd.prog W .any base t v := hval0
  have hW' := hW
  obtain ⟨p, q, hA0, hV, rfl, hfz, hnd⟩ := hW
  have hA : DataW.TrodAll enc Tryd.prog W 0 (fun _ => true) true Tryd.f7.params.toList args.toList ds p := hA0
  rw [Tryd.params7] at hA hval hsz
  obtain ⟨v0, vs0, d0, ds0, p0, q0, hargs, rfl, rfl, h0, r0⟩ := trodAll_cons hA
  obtain ⟨v1, vs1, d1, ds1, p1, q1, rfl, rfl, rfl, h1, r1⟩ := trodAll_cons r0
  obtain ⟨rfl, rfl, rfl⟩ := trodAll_nil r1
  obtain rfl : args = #[v0, v1] := by cases args; simp_all
  obtain ⟨rfl, rfl⟩ := trodVars_none hV
  obtain ⟨a0, len0, cap0, rfl, nn0, cc0⟩ := okWide_sliceN Tryd.underlying40 (hval 0 40 v0 rfl rfl)
  have k0 := h0
  have lt0 : ∀ x ∈ p0, x.block < W.heap.size := by obtain ⟨m, hm⟩ := k0; exact DataW.trod_lt m _ _ _ hm
  obtain ⟨l0, e0, H0, L0⟩ := open_ratios h0
  have z0 := L0.reach hsz (j := 0) (b := 16) rfl rfl Tryd.underlying40 (by kernel_rfl)
  subst e0
  obtain ⟨a1, len1, cap1, rfl, nn1, cc1⟩ := okWide_sliceN Tryd.underlying40 (hval 1 40 v1 rfl rfl)
  have k1 := h1
  have lt1 : ∀ x ∈ p1, x.block < W.heap.size := by obtain ⟨m, hm⟩ := k1; exact DataW.trod_lt m _ _ _ hm
  obtain ⟨l1, e1, H1, L1⟩ := open_ratios h1
  have z1 := L1.reach hsz (j := 1) (b := 16) rfl rfl Tryd.underlying40 (by kernel_rfl)
  subst e1
  clear hA0 hval0
  simp only [List.append_nil] at hW'
  refine (sumsLaw_any a0 a1 cap0 cap1 l0 l1 W (by omega) (by omega) H0 H1 hQ).mono fun e W' ⟨he, hb⟩ => ?_
  subst he
  exact ⟨_, rfl, _, _, _, [], _, [], hW', trodAll_mk1 (shut_bool Tryd.underlying4 _), (trodAll_cons_mk (Below.trod Tryd.laidOut (by kernel_rfl) (of_decide_eq_true (by kernel_rfl)) k0 hb lt0) (trodAll_cons_mk (Below.trod Tryd.laidOut (by kernel_rfl) (of_decide_eq_true (by kernel_rfl)) k1 hb lt1) trodAll_mk0)), rfl, hb.frame _, fun h => by cases h⟩

theorem rsums_row : Rows.RatioSumsMatchSpecSaid :=
  OpenClaim.holds_of_wide 7 Tryd.f7 rfl rfl rfl rfl rfl rfl rfl ⟨rfl, rfl, rfl, rfl, rfl⟩ rfl rfl rfl rfl rfl (by kernel_rfl) Tryd.func7 rsums_facts
    (of_decide_eq_true (by kernel_rfl)) (by unfold Func.isWrapper; first | (rw [if_pos (by decide +kernel)]; kernel_rfl) | (rw [if_neg (by decide +kernel)]; exact ⟨rfl, rfl⟩))
    (fun os started H enc _ => rsums_lifted os started H enc)
theorem rsums_wf : Rows.ratioSumsMatchSpecRow.wfByText (OpenSpec.ofChange Rows.ratioSumsMatchSpecSpec) = true := by kernel_rfl
theorem rsums_main : Tryd.prog.mainIs = some (Rows.ratioSumsMatchSpecCard.stood.harness.1, Rows.ratioSumsMatchSpecCard.stood.harness.2.toList) := by kernel_rfl
theorem rsums_looks : true = Tryd.prog.looks [] := by kernel_rfl
theorem rsums_goes : false = Rows.ratioSumsMatchSpecRow.goesBy Tryd.prog := by kernel_rfl
theorem rsums_named : Tryd.prog.funcNamed "interlace/interlacelaw07.RatioSumsMatchSpec" = some 7 := by kernel_rfl
theorem rsums_stand : ([40, 40].all fun u => !Tryd.prog.wantsStandIn u) = true := by kernel_rfl
theorem rsums_at (f : FuncId) (fn : Func) (hf : Tryd.prog.funcNamed "interlace/interlacelaw07.RatioSumsMatchSpec" = some f) (hfn : Tryd.prog.funcs[f]? = some fn) : true = Tryd.prog.looks [] ∧ ∀ (j : Nat) t, fn.params[j]? = some t → Tryd.prog.wantsStandIn t = false := by
  obtain rfl : f = 7 := Option.some.inj (rsums_named.symm.trans hf) |>.symm
  obtain rfl : fn = Tryd.f7 := (Option.some.inj (Tryd.func7.symm.trans hfn)).symm
  exact ⟨rsums_looks, fun j t ht => by
    rw [Tryd.params7] at ht
    have hm : t ∈ [40, 40] := by simpa using Array.mem_of_getElem? ht
    exact (show Tryd.prog.wantsStandIn t = false by simpa using List.all_eq_true.1 rsums_stand t hm)⟩
theorem rsums_holds : Rows.RatioSumsMatchSpecCardSaid :=
  Claim7.holds_tied_plain_at .later [] [.data, .data, .data, .sentinel, .sentinel] true _ true
    rsums_row (fun _ h => by cases h) rsums_wf (fun _ h => by cases h) ratioSumsMatchSpec_row_tie rfl ⟨rfl, rfl⟩ rsums_main rfl rsums_at rsums_goes
#print axioms rsums_holds
end Go.Proofs.YthjaelopmfjfeaaDoor
