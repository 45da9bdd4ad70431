/-
  The statement TokenMatchesSpec of layer 10 holds of the program: its tokens are those of the reference. Conditions: the tables of the program and the library read as Go lays them.
-/
import Derived.Test.YtlpocfojgibhjaaDoorGL
import Derived.Test.YtlpocfojgibhjaaDoorTie
import Derived.Test.YtlpocfojgibhjaaDoorCards
import Derived.SevenTiedAt
import Derived.Test.YtlpocfojgibhjaaDoorKUg
namespace Go.Proofs.YtlpocfojgibhjaaDoor
set_option linter.unusedVariables false
set_option linter.unusedSimpArgs false
open Go.ChangeShapes Go.WideShapes Go.ChangeAt Go.RowKit
open Go.ChangeMaps (open_string shut_string)

theorem and_t {a b : Bool} (h : a = true) (k : b = true) : (a && b) = true := by rw [h, k]; rfl
theorem tmatch_k0 : (Rows.tokenMatchesSpecRow.wf (OpenSpec.ofChange Rows.tokenMatchesSpecSpec)) = true := by kernel_rfl
theorem tmatch_k1 : (laidOutB Tryd.prog) = true := by kernel_rfl
theorem tmatch_k2 : (mapsRowed Tryd.prog) = true := by kernel_rfl
theorem tmatch_k3 : (Tryd.f3.params.all (Tryd.prog.readableRec ·)) = true := by kernel_rfl
theorem tmatch_k4 : (namedTie Tryd.prog Rows.tokenMatchesSpecRow.named Rows.tokenMatchesSpecSpec.vars) = true := by kernel_rfl
theorem tmatch_k5 : ((Rows.tokenMatchesSpecRow.stops == [])) = true := by kernel_rfl
theorem tmatch_k6 : ((Tryd.prog.stops == [])) = true := by kernel_rfl
theorem tmatch_k7 : ((Rows.tokenMatchesSpecRow.knobs == [])) = true := by kernel_rfl
theorem tmatch_k8 : ((Tryd.prog.stopKnobs == [])) = true := by kernel_rfl
theorem tmatch_k9 : ((Rows.tokenMatchesSpecRow.inPlace == Tryd.prog.inPlace 3)) = true := by kernel_rfl
theorem tmatch_k10 : ((Rows.tokenMatchesSpecRow.unfollowed == Tryd.prog.unfollowed 3)) = true := by kernel_rfl
theorem tmatch_k11 : ((Rows.tokenMatchesSpecRow.recurses == Tryd.prog.recurses 3)) = true := by kernel_rfl
theorem tmatch_k12 : ((Rows.tokenMatchesSpecRow.named == Tryd.prog.varsNamed 3)) = true := by kernel_rfl
theorem tmatch_k13 : ((Rows.tokenMatchesSpecRow.maps == (Tryd.f3.params.toList ++ Rows.tokenMatchesSpecSpec.plain.varTypes Tryd.prog).any (Tryd.prog.mapsRec ·))) = true := by kernel_rfl
theorem tmatch_k14 : ((Rows.tokenMatchesSpecRow.ifaces == (Tryd.f3.params.toList ++ Rows.tokenMatchesSpecSpec.plain.varTypes Tryd.prog).any (Tryd.prog.ifacesRec ·))) = true := by kernel_rfl
theorem tmatch_k15 : ((Rows.tokenMatchesSpecRow.mapsOut == Tryd.prog.mapsAmong Tryd.f3.resultTypes.toList)) = true := by kernel_rfl
theorem tmatch_k16 : ((Rows.tokenMatchesSpecRow.loops == (Tryd.f3.params.toList ++ Rows.tokenMatchesSpecSpec.plain.varTypes Tryd.prog).any (Tryd.prog.loopsFrom ·))) = true := by kernel_rfl
theorem tmatch_k17 : ((Rows.tokenMatchesSpecRow.wideKeys == (Tryd.f3.params.toList ++ Rows.tokenMatchesSpecSpec.plain.varTypes Tryd.prog ++ Tryd.f3.resultTypes.toList).any (Tryd.prog.wideKeysFrom ·))) = true := by kernel_rfl
theorem tmatch_k18 : (Rows.tokenMatchesSpecSpec.vars.all (Tryd.prog.varReadable ·)) = true := by kernel_rfl
theorem tmatch_k19 : (Tryd.f3.resultTypes.all (fun t => Tryd.prog.readableRec t && decide (t < Tryd.prog.types.size))) = true := by kernel_rfl
theorem tmatch_k20 : ((Rows.tokenMatchesSpecRow.ifacesOut == Tryd.f3.resultTypes.toList.any (Tryd.prog.ifacesRec ·))) = true := by kernel_rfl
theorem tmatch_k21 : ((Rows.tokenMatchesSpecRow.loopsOut == Tryd.f3.resultTypes.toList.any (Tryd.prog.loopsFrom ·))) = true := by kernel_rfl
theorem tmatch_k22 : ((Rows.tokenMatchesSpecRow.plainKeys == Tryd.prog.plainKeys)) = true := by kernel_rfl
theorem tmatch_k23 : (Rows.tokenMatchesSpecRow.shortTexts.isNone) = true := by kernel_rfl
theorem tmatch_k24 : (Tryd.prog.stopsHeard) = true := by kernel_rfl
theorem tmatch_k25 : (Tryd.prog.mayEnter) = true := by kernel_rfl
theorem tmatch_k26 : ((Rows.tokenMatchesSpecRow.lifted == Tryd.prog.liftsFinal)) = true := by kernel_rfl
theorem tmatch_k27 : ((Tryd.prog.make == some Rows.tokenMatchesSpecRow.make)) = true := by kernel_rfl
theorem tmatch_k28 : ((Rows.tokenMatchesSpecRow.kinds == (if Rows.tokenMatchesSpecRow.domain.isEmpty then [] else Tryd.f3.params.toList.map fun t => match Tryd.prog.underlying t with | some (.int k) => some k | _ => none))) = true := by kernel_rfl
theorem tmatch_k29 : ((Rows.tokenMatchesSpecRow.pinned == Rows.tokenMatchesSpecRow.pinnedBy)) = true := by kernel_rfl
theorem tmatch_k30 : ((Rows.tokenMatchesSpecRow.veiled == (Tryd.f3.params.toList ++ Rows.tokenMatchesSpecSpec.plain.varTypes Tryd.prog ++ Tryd.f3.resultTypes.toList).any (Tryd.prog.veiledRec ·))) = true := by kernel_rfl
theorem tmatch_k31 : (Rows.tokenMatchesSpecRow.veiledFits Tryd.prog Tryd.f3.params.toList (Tryd.f3.params.toList ++ Rows.tokenMatchesSpecSpec.plain.varTypes Tryd.prog ++ Tryd.f3.resultTypes.toList)) = true := by kernel_rfl
set_option maxRecDepth 100000 in
theorem tmatch_facts : joinedFacts Tryd.prog 3 Tryd.f3 Rows.tokenMatchesSpecSpec Rows.tokenMatchesSpecRow = true := and_t (and_t (and_t (and_t (and_t (and_t (and_t (and_t (and_t (and_t (and_t (and_t (and_t (and_t (and_t (and_t (and_t (and_t (and_t (and_t (and_t (and_t (and_t (and_t (and_t (and_t (and_t (and_t (and_t (and_t (and_t tmatch_k0 tmatch_k1) tmatch_k2) tmatch_k3) tmatch_k4) tmatch_k5) tmatch_k6) tmatch_k7) tmatch_k8) tmatch_k9) tmatch_k10) tmatch_k11) tmatch_k12) tmatch_k13) tmatch_k14) tmatch_k15) tmatch_k16) tmatch_k17) tmatch_k18) tmatch_k19) tmatch_k20) tmatch_k21) tmatch_k22) tmatch_k23) tmatch_k24) tmatch_k25) tmatch_k26) tmatch_k27) tmatch_k28) tmatch_k29) tmatch_k30) tmatch_k31
set_option maxRecDepth 100000 in
theorem tmatch_lifted (os : Os) (started : os.Started) (H : Type) (enc : TypeId × Value → H) :
    ReturnsInHanded {} Tryd.checked os 3 .any (fun w args => (Rows.tokenMatchesSpecSpec.pre enc Tryd.prog Tryd.f3 [] false w args ∧ laidMetH Tryd.prog [("math/bits.deBruijn32tab", Rows.laid_math_bits_deBruijn32tab), ("math/bits.deBruijn64tab", Rows.laid_math_bits_deBruijn64tab), ("internal/strconv.uint64pow10", Rows.laid_internal_strconv_uint64pow10), ("interlace/token.words", Rows.laid_interlace_token_words), ("interlace/token.twoSigns", Rows.laid_interlace_token_twoSigns)] w) ∧ sizedMet enc Tryd.prog Tryd.f3 (OpenSpec.ofChange Rows.tokenMatchesSpecSpec) false w args)
      (Rows.tokenMatchesSpecSpec.post enc Tryd.prog Tryd.f3 false true false false) := by
  refine returnsInHanded_of_row (C := Tryd.checked) (s := OpenSpec.ofChange Rows.tokenMatchesSpecSpec) (F := fun _ _ _ => 0) Tryd.own started (by kernel_rfl) Tryd.func3
    (ChangeSpec.witness_shaped (enc := enc) (C := Tryd.checked) (os := os) (X := fun w _ => laidMetH Tryd.prog [("math/bits.deBruijn32tab", Rows.laid_math_bits_deBruijn32tab), ("math/bits.deBruijn64tab", Rows.laid_math_bits_deBruijn64tab), ("internal/strconv.uint64pow10", Rows.laid_internal_strconv_uint64pow10), ("interlace/token.words", Rows.laid_interlace_token_words), ("interlace/token.twoSigns", Rows.laid_interlace_token_twoSigns)] w) false (World.laidAll Tryd.prog os [("math/bits.deBruijn32tab", Rows.laid_math_bits_deBruijn32tab), ("math/bits.deBruijn64tab", Rows.laid_math_bits_deBruijn64tab), ("internal/strconv.uint64pow10", Rows.laid_internal_strconv_uint64pow10), ("interlace/token.words", Rows.laid_interlace_token_words), ("interlace/token.twoSigns", Rows.laid_interlace_token_twoSigns)]) #[.string ByteArray.empty] 8 (World.laidAll_os _ _ _) (shaped_laid5 os _) (by kernel_rfl) (by kernel_rfl) (by kernel_rfl) (laid_met5 os _)) ?_
  intro W base args ds gs before hval0 hW _ _ hsz0 hL hsh _
  have hQ : QW W := qw_of5 hL hsh
  have hsz : (DataW.weightsEach Tryd.prog (Tryd.f3.params.toList ++ Rows.tokenMatchesSpecSpec.plain.varTypes Tryd.prog) (ds ++ gs)).all (· ≤ reachBytes) = true := hsz0
  clear hsz0 hsh
  have hval : ∀ (j : Nat) t v, Tryd.f3.params[j]? = some t → args[j]? = some v → Value.okWide Tryd.prog W .any base t v := hval0
  have hW' := hW
  obtain ⟨p, q, hA0, hV, rfl, hfz, hnd⟩ := hW
  have hA : DataW.TrodAll enc Tryd.prog W 0 (fun _ => true) true Tryd.f3.params.toList args.toList ds p := hA0
  rw [Tryd.params3] at hA hval hsz
  obtain ⟨v0, vs0, d0, ds0, p0, q0, hargs, rfl, rfl, h0, r0⟩ := trodAll_cons hA
  obtain ⟨rfl, rfl, rfl⟩ := trodAll_nil r0
  obtain rfl : args = #[v0] := by cases args; simp_all
  obtain ⟨rfl, rfl⟩ := trodVars_none hV
  obtain ⟨s0, rfl, rfl, rfl, w0⟩ := open_string Tryd.underlying9 (hval 0 9 v0 rfl rfl) h0
  have z0 : s0.size ≤ 140737488351232 := by
    have := sized_string hsz (j := 0) rfl rfl
    rw [bytes_size] at this
    exact this
  clear hA0 hval0
  simp only [List.append_nil] at hW'
  refine (matchLaw_any s0 W hQ).mono fun e W' ⟨he, hb⟩ => ?_
  subst he
  exact ⟨_, rfl, _, _, _, [], _, [], hW', trodAll_mk1 (shut_bool Tryd.underlying4 _), (trodAll_cons_mk (shut_string Tryd.underlying9 w0) trodAll_mk0), rfl, hb.frame _, fun h => by cases h⟩

theorem tmatch_row : Rows.TokenMatchesSpecSaid :=
  OpenClaim.holds_of_wide 3 Tryd.f3 rfl rfl rfl rfl rfl rfl rfl ⟨rfl, rfl, rfl, rfl, rfl⟩ rfl rfl rfl rfl rfl (by kernel_rfl) Tryd.func3 tmatch_facts
    (of_decide_eq_true (by kernel_rfl)) (by unfold Func.isWrapper; first | (rw [if_pos (by decide +kernel)]; kernel_rfl) | (rw [if_neg (by decide +kernel)]; exact ⟨rfl, rfl⟩))
    (fun os started H enc _ => tmatch_lifted os started H enc)
theorem tmatch_wf : Rows.tokenMatchesSpecRow.wfByText (OpenSpec.ofChange Rows.tokenMatchesSpecSpec) = true := by kernel_rfl
theorem tmatch_main : Tryd.prog.mainIs = some (Rows.tokenMatchesSpecCard.stood.harness.1, Rows.tokenMatchesSpecCard.stood.harness.2.toList) := by kernel_rfl
theorem tmatch_looks : false = Tryd.prog.looks [] := by kernel_rfl
theorem tmatch_goes : false = Rows.tokenMatchesSpecRow.goesBy Tryd.prog := by kernel_rfl
theorem tmatch_named : Tryd.prog.funcNamed "interlace/interlacelaw10.TokenMatchesSpec" = some 3 := by kernel_rfl
theorem tmatch_stand : ([9].all fun u => !Tryd.prog.wantsStandIn u) = true := by kernel_rfl
theorem tmatch_at (f : FuncId) (fn : Func) (hf : Tryd.prog.funcNamed "interlace/interlacelaw10.TokenMatchesSpec" = some f) (hfn : Tryd.prog.funcs[f]? = some fn) : false = Tryd.prog.looks [] ∧ ∀ (j : Nat) t, fn.params[j]? = some t → Tryd.prog.wantsStandIn t = false := by
  obtain rfl : f = 3 := Option.some.inj (tmatch_named.symm.trans hf) |>.symm
  obtain rfl : fn = Tryd.f3 := (Option.some.inj (Tryd.func3.symm.trans hfn)).symm
  exact ⟨tmatch_looks, fun j t ht => by
    rw [Tryd.params3] at ht
    have hm : t ∈ [9] := by simpa using Array.mem_of_getElem? ht
    exact (show Tryd.prog.wantsStandIn t = false by simpa using List.all_eq_true.1 tmatch_stand t hm)⟩
theorem tmatch_holds : Rows.TokenMatchesSpecCardSaid :=
  Claim7.holds_tied_plain_at .later [] [.data, .data, .data, .data, .data] true _ false
    tmatch_row (fun _ h => by cases h) tmatch_wf (fun _ h => by cases h) tokenMatchesSpec_row_tie rfl ⟨rfl, rfl⟩ tmatch_main rfl tmatch_at tmatch_goes
#print axioms tmatch_holds
end Go.Proofs.YtlpocfojgibhjaaDoor
