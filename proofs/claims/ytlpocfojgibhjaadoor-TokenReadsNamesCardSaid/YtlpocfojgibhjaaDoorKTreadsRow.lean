/-
  The statement TokenReadsNames of layer 10 holds of the program: names, numbers and single tokens. Conditions: the tables of the program and the library read as Go lays them.
-/
import Derived.Test.YtlpocfojgibhjaaDoorGL
import Derived.Test.YtlpocfojgibhjaaDoorTie
import Derived.Test.YtlpocfojgibhjaaDoorCards
import Derived.SevenTiedAt
import Derived.Test.YtlpocfojgibhjaaDoorKUz
namespace Go.Proofs.YtlpocfojgibhjaaDoor
set_option linter.unusedVariables false
set_option linter.unusedSimpArgs false
open Go.ChangeShapes Go.WideShapes Go.ChangeAt Go.RowKit
open Go.ChangeMaps (open_string shut_string)

theorem and_t {a b : Bool} (h : a = true) (k : b = true) : (a && b) = true := by rw [h, k]; rfl
theorem treads_k0 : (Rows.tokenReadsNamesRow.wf (OpenSpec.ofChange Rows.tokenReadsNamesSpec)) = true := by kernel_rfl
theorem treads_k1 : (laidOutB Tryd.prog) = true := by kernel_rfl
theorem treads_k2 : (mapsRowed Tryd.prog) = true := by kernel_rfl
theorem treads_k3 : (Tryd.f4.params.all (Tryd.prog.readableRec ·)) = true := by kernel_rfl
theorem treads_k4 : (namedTie Tryd.prog Rows.tokenReadsNamesRow.named Rows.tokenReadsNamesSpec.vars) = true := by kernel_rfl
theorem treads_k5 : ((Rows.tokenReadsNamesRow.stops == [])) = true := by kernel_rfl
theorem treads_k6 : ((Tryd.prog.stops == [])) = true := by kernel_rfl
theorem treads_k7 : ((Rows.tokenReadsNamesRow.knobs == [])) = true := by kernel_rfl
theorem treads_k8 : ((Tryd.prog.stopKnobs == [])) = true := by kernel_rfl
theorem treads_k9 : ((Rows.tokenReadsNamesRow.inPlace == Tryd.prog.inPlace 4)) = true := by kernel_rfl
theorem treads_k10 : ((Rows.tokenReadsNamesRow.unfollowed == Tryd.prog.unfollowed 4)) = true := by kernel_rfl
theorem treads_k11 : ((Rows.tokenReadsNamesRow.recurses == Tryd.prog.recurses 4)) = true := by kernel_rfl
theorem treads_k12 : ((Rows.tokenReadsNamesRow.named == Tryd.prog.varsNamed 4)) = true := by kernel_rfl
theorem treads_k13 : ((Rows.tokenReadsNamesRow.maps == (Tryd.f4.params.toList ++ Rows.tokenReadsNamesSpec.plain.varTypes Tryd.prog).any (Tryd.prog.mapsRec ·))) = true := by kernel_rfl
theorem treads_k14 : ((Rows.tokenReadsNamesRow.ifaces == (Tryd.f4.params.toList ++ Rows.tokenReadsNamesSpec.plain.varTypes Tryd.prog).any (Tryd.prog.ifacesRec ·))) = true := by kernel_rfl
theorem treads_k15 : ((Rows.tokenReadsNamesRow.mapsOut == Tryd.prog.mapsAmong Tryd.f4.resultTypes.toList)) = true := by kernel_rfl
theorem treads_k16 : ((Rows.tokenReadsNamesRow.loops == (Tryd.f4.params.toList ++ Rows.tokenReadsNamesSpec.plain.varTypes Tryd.prog).any (Tryd.prog.loopsFrom ·))) = true := by kernel_rfl
theorem treads_k17 : ((Rows.tokenReadsNamesRow.wideKeys == (Tryd.f4.params.toList ++ Rows.tokenReadsNamesSpec.plain.varTypes Tryd.prog ++ Tryd.f4.resultTypes.toList).any (Tryd.prog.wideKeysFrom ·))) = true := by kernel_rfl
theorem treads_k18 : (Rows.tokenReadsNamesSpec.vars.all (Tryd.prog.varReadable ·)) = true := by kernel_rfl
theorem treads_k19 : (Tryd.f4.resultTypes.all (fun t => Tryd.prog.readableRec t && decide (t < Tryd.prog.types.size))) = true := by kernel_rfl
theorem treads_k20 : ((Rows.tokenReadsNamesRow.ifacesOut == Tryd.f4.resultTypes.toList.any (Tryd.prog.ifacesRec ·))) = true := by kernel_rfl
theorem treads_k21 : ((Rows.tokenReadsNamesRow.loopsOut == Tryd.f4.resultTypes.toList.any (Tryd.prog.loopsFrom ·))) = true := by kernel_rfl
theorem treads_k22 : ((Rows.tokenReadsNamesRow.plainKeys == Tryd.prog.plainKeys)) = true := by kernel_rfl
theorem treads_k23 : (Rows.tokenReadsNamesRow.shortTexts.isNone) = true := by kernel_rfl
theorem treads_k24 : (Tryd.prog.stopsHeard) = true := by kernel_rfl
theorem treads_k25 : (Tryd.prog.mayEnter) = true := by kernel_rfl
theorem treads_k26 : ((Rows.tokenReadsNamesRow.lifted == Tryd.prog.liftsFinal)) = true := by kernel_rfl
theorem treads_k27 : ((Tryd.prog.make == some Rows.tokenReadsNamesRow.make)) = true := by kernel_rfl
theorem treads_k28 : ((Rows.tokenReadsNamesRow.kinds == (if Rows.tokenReadsNamesRow.domain.isEmpty then [] else Tryd.f4.params.toList.map fun t => match Tryd.prog.underlying t with | some (.int k) => some k | _ => none))) = true := by kernel_rfl
theorem treads_k29 : ((Rows.tokenReadsNamesRow.pinned == Rows.tokenReadsNamesRow.pinnedBy)) = true := by kernel_rfl
theorem treads_k30 : ((Rows.tokenReadsNamesRow.veiled == (Tryd.f4.params.toList ++ Rows.tokenReadsNamesSpec.plain.varTypes Tryd.prog ++ Tryd.f4.resultTypes.toList).any (Tryd.prog.veiledRec ·))) = true := by kernel_rfl
theorem treads_k31 : (Rows.tokenReadsNamesRow.veiledFits Tryd.prog Tryd.f4.params.toList (Tryd.f4.params.toList ++ Rows.tokenReadsNamesSpec.plain.varTypes Tryd.prog ++ Tryd.f4.resultTypes.toList)) = true := by kernel_rfl
set_option maxRecDepth 100000 in
theorem treads_facts : joinedFacts Tryd.prog 4 Tryd.f4 Rows.tokenReadsNamesSpec Rows.tokenReadsNamesRow = true := and_t (and_t (and_t (and_t (and_t (and_t (and_t (and_t (and_t (and_t (and_t (and_t (and_t (and_t (and_t (and_t (and_t (and_t (and_t (and_t (and_t (and_t (and_t (and_t (and_t (and_t (and_t (and_t (and_t (and_t (and_t treads_k0 treads_k1) treads_k2) treads_k3) treads_k4) treads_k5) treads_k6) treads_k7) treads_k8) treads_k9) treads_k10) treads_k11) treads_k12) treads_k13) treads_k14) treads_k15) treads_k16) treads_k17) treads_k18) treads_k19) treads_k20) treads_k21) treads_k22) treads_k23) treads_k24) treads_k25) treads_k26) treads_k27) treads_k28) treads_k29) treads_k30) treads_k31
set_option maxRecDepth 100000 in
theorem treads_lifted (os : Os) (started : os.Started) (H : Type) (enc : TypeId × Value → H) :
    ReturnsInHanded {} Tryd.checked os 4 .any (fun w args => (Rows.tokenReadsNamesSpec.pre enc Tryd.prog Tryd.f4 [] false w args ∧ laidMetH Tryd.prog [("math/bits.deBruijn32tab", Rows.laid_math_bits_deBruijn32tab), ("math/bits.deBruijn64tab", Rows.laid_math_bits_deBruijn64tab), ("internal/strconv.uint64pow10", Rows.laid_internal_strconv_uint64pow10), ("interlace/token.words", Rows.laid_interlace_token_words), ("interlace/token.twoSigns", Rows.laid_interlace_token_twoSigns)] w) ∧ sizedMet enc Tryd.prog Tryd.f4 (OpenSpec.ofChange Rows.tokenReadsNamesSpec) false w args)
      (Rows.tokenReadsNamesSpec.post enc Tryd.prog Tryd.f4 false true false false) := by
  refine returnsInHanded_of_row (C := Tryd.checked) (s := OpenSpec.ofChange Rows.tokenReadsNamesSpec) (F := fun _ _ _ => 0) Tryd.own started (by kernel_rfl) Tryd.func4
    (ChangeSpec.witness_shaped (enc := enc) (C := Tryd.checked) (os := os) (X := fun w _ => laidMetH Tryd.prog [("math/bits.deBruijn32tab", Rows.laid_math_bits_deBruijn32tab), ("math/bits.deBruijn64tab", Rows.laid_math_bits_deBruijn64tab), ("internal/strconv.uint64pow10", Rows.laid_internal_strconv_uint64pow10), ("interlace/token.words", Rows.laid_interlace_token_words), ("interlace/token.twoSigns", Rows.laid_interlace_token_twoSigns)] w) false (World.laidAll Tryd.prog os [("math/bits.deBruijn32tab", Rows.laid_math_bits_deBruijn32tab), ("math/bits.deBruijn64tab", Rows.laid_math_bits_deBruijn64tab), ("internal/strconv.uint64pow10", Rows.laid_internal_strconv_uint64pow10), ("interlace/token.words", Rows.laid_interlace_token_words), ("interlace/token.twoSigns", Rows.laid_interlace_token_twoSigns)]) #[.string ByteArray.empty, .int .i64 0] 8 (World.laidAll_os _ _ _) (shaped_laid5 os _) (by kernel_rfl) (by kernel_rfl) (by kernel_rfl) (laid_met5 os _)) ?_
  intro W base args ds gs before hval0 hW _ _ hsz0 hL hsh _
  have hQ : QW W := qw_of5 hL hsh
  have hsz : (DataW.weightsEach Tryd.prog (Tryd.f4.params.toList ++ Rows.tokenReadsNamesSpec.plain.varTypes Tryd.prog) (ds ++ gs)).all (· ≤ reachBytes) = true := hsz0
  clear hsz0 hsh
  have hval : ∀ (j : Nat) t v, Tryd.f4.params[j]? = some t → args[j]? = some v → Value.okWide Tryd.prog W .any base t v := hval0
  have hW' := hW
  obtain ⟨p, q, hA0, hV, rfl, hfz, hnd⟩ := hW
  have hA : DataW.TrodAll enc Tryd.prog W 0 (fun _ => true) true Tryd.f4.params.toList args.toList ds p := hA0
  rw [Tryd.params4] at hA hval hsz
  obtain ⟨v0, vs0, d0, ds0, p0, q0, hargs, rfl, rfl, h0, r0⟩ := trodAll_cons hA
  obtain ⟨v1, vs1, d1, ds1, p1, q1, rfl, rfl, rfl, h1, r1⟩ := trodAll_cons r0
  obtain ⟨rfl, rfl, rfl⟩ := trodAll_nil r1
  obtain rfl : args = #[v0, v1] := by cases args; simp_all
  obtain ⟨rfl, rfl⟩ := trodVars_none hV
  obtain ⟨s0, rfl, rfl, rfl, w0⟩ := open_string Tryd.underlying9 (hval 0 9 v0 rfl rfl) h0
  have z0 : s0.size ≤ 140737488351232 := by
    have := sized_string hsz (j := 0) rfl rfl
    rw [bytes_size] at this
    exact this
  obtain ⟨a1, rfl, rfl, rfl, w1⟩ := open_int Tryd.underlying3 (hval 1 3 v1 rfl rfl) h1
  clear hA0 hval0
  simp only [List.append_nil] at hW'
  refine (readsLaw_any s0 a1 W hQ).mono fun e W' ⟨he, hb⟩ => ?_
  subst he
  exact ⟨_, rfl, _, _, _, [], _, [], hW', trodAll_mk1 (shut_bool Tryd.underlying4 _), (trodAll_cons_mk (shut_string Tryd.underlying9 w0) (trodAll_cons_mk (shut_int Tryd.underlying3 w1) trodAll_mk0)), rfl, hb.frame _, fun h => by cases h⟩

theorem treads_row : Rows.TokenReadsNamesSaid :=
  OpenClaim.holds_of_wide 4 Tryd.f4 rfl rfl rfl rfl rfl rfl rfl ⟨rfl, rfl, rfl, rfl, rfl⟩ rfl rfl rfl rfl rfl (by kernel_rfl) Tryd.func4 treads_facts
    (of_decide_eq_true (by kernel_rfl)) (by unfold Func.isWrapper; first | (rw [if_pos (by decide +kernel)]; kernel_rfl) | (rw [if_neg (by decide +kernel)]; exact ⟨rfl, rfl⟩))
    (fun os started H enc _ => treads_lifted os started H enc)
theorem treads_wf : Rows.tokenReadsNamesRow.wfByText (OpenSpec.ofChange Rows.tokenReadsNamesSpec) = true := by kernel_rfl
theorem treads_main : Tryd.prog.mainIs = some (Rows.tokenReadsNamesCard.stood.harness.1, Rows.tokenReadsNamesCard.stood.harness.2.toList) := by kernel_rfl
theorem treads_looks : false = Tryd.prog.looks [] := by kernel_rfl
theorem treads_goes : false = Rows.tokenReadsNamesRow.goesBy Tryd.prog := by kernel_rfl
theorem treads_named : Tryd.prog.funcNamed "interlace/interlacelaw10.TokenReadsNames" = some 4 := by kernel_rfl
theorem treads_stand : ([9, 3].all fun u => !Tryd.prog.wantsStandIn u) = true := by kernel_rfl
theorem treads_at (f : FuncId) (fn : Func) (hf : Tryd.prog.funcNamed "interlace/interlacelaw10.TokenReadsNames" = some f) (hfn : Tryd.prog.funcs[f]? = some fn) : false = Tryd.prog.looks [] ∧ ∀ (j : Nat) t, fn.params[j]? = some t → Tryd.prog.wantsStandIn t = false := by
  obtain rfl : f = 4 := Option.some.inj (treads_named.symm.trans hf) |>.symm
  obtain rfl : fn = Tryd.f4 := (Option.some.inj (Tryd.func4.symm.trans hfn)).symm
  exact ⟨treads_looks, fun j t ht => by
    rw [Tryd.params4] at ht
    have hm : t ∈ [9, 3] := by simpa using Array.mem_of_getElem? ht
    exact (show Tryd.prog.wantsStandIn t = false by simpa using List.all_eq_true.1 treads_stand t hm)⟩
theorem treads_holds : Rows.TokenReadsNamesCardSaid :=
  Claim7.holds_tied_plain_at .later [] [.data, .data, .data, .data, .data] true _ false
    treads_row (fun _ h => by cases h) treads_wf (fun _ h => by cases h) tokenReadsNames_row_tie rfl ⟨rfl, rfl⟩ treads_main rfl treads_at treads_goes
#print axioms treads_holds
end Go.Proofs.YtlpocfojgibhjaaDoor
