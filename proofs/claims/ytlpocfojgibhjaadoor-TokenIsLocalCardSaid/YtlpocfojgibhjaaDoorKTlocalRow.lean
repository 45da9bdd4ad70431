/-
  The statement TokenIsLocal of layer 10 holds of the program: the tokens of two sources with a newline between them are those of both. Conditions: the tables of the program and the library read as Go lays them.
-/
import Derived.Test.YtlpocfojgibhjaaDoorGL
import Derived.Test.YtlpocfojgibhjaaDoorTie
import Derived.Test.YtlpocfojgibhjaaDoorCards
import Derived.SevenTiedAt
import Derived.Test.YtlpocfojgibhjaaDoorGM
namespace Go.Proofs.YtlpocfojgibhjaaDoor
set_option linter.unusedVariables false
set_option linter.unusedSimpArgs false
open Go.ChangeShapes Go.WideShapes Go.ChangeAt Go.RowKit
open Go.ChangeMaps (open_string shut_string)

theorem and_t {a b : Bool} (h : a = true) (k : b = true) : (a && b) = true := by rw [h, k]; rfl
theorem tlocal_k0 : (Rows.tokenIsLocalRow.wf (OpenSpec.ofChange Rows.tokenIsLocalSpec)) = true := by kernel_rfl
theorem tlocal_k1 : (laidOutB Tryd.prog) = true := by kernel_rfl
theorem tlocal_k2 : (mapsRowed Tryd.prog) = true := by kernel_rfl
theorem tlocal_k3 : (Tryd.f5.params.all (Tryd.prog.readableRec ·)) = true := by kernel_rfl
theorem tlocal_k4 : (namedTie Tryd.prog Rows.tokenIsLocalRow.named Rows.tokenIsLocalSpec.vars) = true := by kernel_rfl
theorem tlocal_k5 : ((Rows.tokenIsLocalRow.stops == [])) = true := by kernel_rfl
theorem tlocal_k6 : ((Tryd.prog.stops == [])) = true := by kernel_rfl
theorem tlocal_k7 : ((Rows.tokenIsLocalRow.knobs == [])) = true := by kernel_rfl
theorem tlocal_k8 : ((Tryd.prog.stopKnobs == [])) = true := by kernel_rfl
theorem tlocal_k9 : ((Rows.tokenIsLocalRow.inPlace == Tryd.prog.inPlace 5)) = true := by kernel_rfl
theorem tlocal_k10 : ((Rows.tokenIsLocalRow.unfollowed == Tryd.prog.unfollowed 5)) = true := by kernel_rfl
theorem tlocal_k11 : ((Rows.tokenIsLocalRow.recurses == Tryd.prog.recurses 5)) = true := by kernel_rfl
theorem tlocal_k12 : ((Rows.tokenIsLocalRow.named == Tryd.prog.varsNamed 5)) = true := by kernel_rfl
theorem tlocal_k13 : ((Rows.tokenIsLocalRow.maps == (Tryd.f5.params.toList ++ Rows.tokenIsLocalSpec.plain.varTypes Tryd.prog).any (Tryd.prog.mapsRec ·))) = true := by kernel_rfl
theorem tlocal_k14 : ((Rows.tokenIsLocalRow.ifaces == (Tryd.f5.params.toList ++ Rows.tokenIsLocalSpec.plain.varTypes Tryd.prog).any (Tryd.prog.ifacesRec ·))) = true := by kernel_rfl
theorem tlocal_k15 : ((Rows.tokenIsLocalRow.mapsOut == Tryd.prog.mapsAmong Tryd.f5.resultTypes.toList)) = true := by kernel_rfl
theorem tlocal_k16 : ((Rows.tokenIsLocalRow.loops == (Tryd.f5.params.toList ++ Rows.tokenIsLocalSpec.plain.varTypes Tryd.prog).any (Tryd.prog.loopsFrom ·))) = true := by kernel_rfl
theorem tlocal_k17 : ((Rows.tokenIsLocalRow.wideKeys == (Tryd.f5.params.toList ++ Rows.tokenIsLocalSpec.plain.varTypes Tryd.prog ++ Tryd.f5.resultTypes.toList).any (Tryd.prog.wideKeysFrom ·))) = true := by kernel_rfl
theorem tlocal_k18 : (Rows.tokenIsLocalSpec.vars.all (Tryd.prog.varReadable ·)) = true := by kernel_rfl
theorem tlocal_k19 : (Tryd.f5.resultTypes.all (fun t => Tryd.prog.readableRec t && decide (t < Tryd.prog.types.size))) = true := by kernel_rfl
theorem tlocal_k20 : ((Rows.tokenIsLocalRow.ifacesOut == Tryd.f5.resultTypes.toList.any (Tryd.prog.ifacesRec ·))) = true := by kernel_rfl
theorem tlocal_k21 : ((Rows.tokenIsLocalRow.loopsOut == Tryd.f5.resultTypes.toList.any (Tryd.prog.loopsFrom ·))) = true := by kernel_rfl
theorem tlocal_k22 : ((Rows.tokenIsLocalRow.plainKeys == Tryd.prog.plainKeys)) = true := by kernel_rfl
theorem tlocal_k23 : (Rows.tokenIsLocalRow.shortTexts.isNone) = true := by kernel_rfl
theorem tlocal_k24 : (Tryd.prog.stopsHeard) = true := by kernel_rfl
theorem tlocal_k25 : (Tryd.prog.mayEnter) = true := by kernel_rfl
theorem tlocal_k26 : ((Rows.tokenIsLocalRow.lifted == Tryd.prog.liftsFinal)) = true := by kernel_rfl
theorem tlocal_k27 : ((Tryd.prog.make == some Rows.tokenIsLocalRow.make)) = true := by kernel_rfl
theorem tlocal_k28 : ((Rows.tokenIsLocalRow.kinds == (if Rows.tokenIsLocalRow.domain.isEmpty then [] else Tryd.f5.params.toList.map fun t => match Tryd.prog.underlying t with | some (.int k) => some k | _ => none))) = true := by kernel_rfl
theorem tlocal_k29 : ((Rows.tokenIsLocalRow.pinned == Rows.tokenIsLocalRow.pinnedBy)) = true := by kernel_rfl
theorem tlocal_k30 : ((Rows.tokenIsLocalRow.veiled == (Tryd.f5.params.toList ++ Rows.tokenIsLocalSpec.plain.varTypes Tryd.prog ++ Tryd.f5.resultTypes.toList).any (Tryd.prog.veiledRec ·))) = true := by kernel_rfl
theorem tlocal_k31 : (Rows.tokenIsLocalRow.veiledFits Tryd.prog Tryd.f5.params.toList (Tryd.f5.params.toList ++ Rows.tokenIsLocalSpec.plain.varTypes Tryd.prog ++ Tryd.f5.resultTypes.toList)) = true := by kernel_rfl
set_option maxRecDepth 100000 in
theorem tlocal_facts : joinedFacts Tryd.prog 5 Tryd.f5 Rows.tokenIsLocalSpec Rows.tokenIsLocalRow = true := and_t (and_t (and_t (and_t (and_t (and_t (and_t (and_t (and_t (and_t (and_t (and_t (and_t (and_t (and_t (and_t (and_t (and_t (and_t (and_t (and_t (and_t (and_t (and_t (and_t (and_t (and_t (and_t (and_t (and_t (and_t tlocal_k0 tlocal_k1) tlocal_k2) tlocal_k3) tlocal_k4) tlocal_k5) tlocal_k6) tlocal_k7) tlocal_k8) tlocal_k9) tlocal_k10) tlocal_k11) tlocal_k12) tlocal_k13) tlocal_k14) tlocal_k15) tlocal_k16) tlocal_k17) tlocal_k18) tlocal_k19) tlocal_k20) tlocal_k21) tlocal_k22) tlocal_k23) tlocal_k24) tlocal_k25) tlocal_k26) tlocal_k27) tlocal_k28) tlocal_k29) tlocal_k30) tlocal_k31
set_option maxRecDepth 100000 in
theorem tlocal_lifted (os : Os) (started : os.Started) (H : Type) (enc : TypeId × Value → H) :
    ReturnsInHanded {} Tryd.checked os 5 .any (fun w args => (Rows.tokenIsLocalSpec.pre enc Tryd.prog Tryd.f5 [] false w args ∧ laidMetH Tryd.prog [("math/bits.deBruijn32tab", Rows.laid_math_bits_deBruijn32tab), ("math/bits.deBruijn64tab", Rows.laid_math_bits_deBruijn64tab), ("internal/strconv.uint64pow10", Rows.laid_internal_strconv_uint64pow10), ("interlace/token.words", Rows.laid_interlace_token_words), ("interlace/token.twoSigns", Rows.laid_interlace_token_twoSigns)] w) ∧ sizedMet enc Tryd.prog Tryd.f5 (OpenSpec.ofChange Rows.tokenIsLocalSpec) false w args)
      (Rows.tokenIsLocalSpec.post enc Tryd.prog Tryd.f5 false true false false) := by
  refine returnsInHanded_of_row (C := Tryd.checked) (s := OpenSpec.ofChange Rows.tokenIsLocalSpec) (F := fun _ _ _ => 0) Tryd.own started (by kernel_rfl) Tryd.func5
    (ChangeSpec.witness_shaped (enc := enc) (C := Tryd.checked) (os := os) (X := fun w _ => laidMetH Tryd.prog [("math/bits.deBruijn32tab", Rows.laid_math_bits_deBruijn32tab), ("math/bits.deBruijn64tab", Rows.laid_math_bits_deBruijn64tab), ("internal/strconv.uint64pow10", Rows.laid_internal_strconv_uint64pow10), ("interlace/token.words", Rows.laid_interlace_token_words), ("interlace/token.twoSigns", Rows.laid_interlace_token_twoSigns)] w) false (World.laidAll Tryd.prog os [("math/bits.deBruijn32tab", Rows.laid_math_bits_deBruijn32tab), ("math/bits.deBruijn64tab", Rows.laid_math_bits_deBruijn64tab), ("internal/strconv.uint64pow10", Rows.laid_internal_strconv_uint64pow10), ("interlace/token.words", Rows.laid_interlace_token_words), ("interlace/token.twoSigns", Rows.laid_interlace_token_twoSigns)]) #[.string ByteArray.empty, .string ByteArray.empty] 8 (World.laidAll_os _ _ _) (shaped_laid5 os _) (by kernel_rfl) (by kernel_rfl) (by kernel_rfl) (laid_met5 os _)) ?_
  intro W base args ds gs before hval0 hW _ _ hsz0 hL hsh _
  have hQ : QW W := qw_of5 hL hsh
  have hsz : (DataW.weightsEach Tryd.prog (Tryd.f5.params.toList ++ Rows.tokenIsLocalSpec.plain.varTypes Tryd.prog) (ds ++ gs)).all (· ≤ reachBytes) = true := hsz0
  clear hsz0 hsh
  have hval : ∀ (j : Nat) t v, Tryd.f5.params[j]? = some t → args[j]? = some v → Value.okWide Tryd.prog W .any base t v := hval0
  have hW' := hW
  obtain ⟨p, q, hA0, hV, rfl, hfz, hnd⟩ := hW
  have hA : DataW.TrodAll enc Tryd.prog W 0 (fun _ => true) true Tryd.f5.params.toList args.toList ds p := hA0
  rw [Tryd.params5] at hA hval hsz
  obtain ⟨v0, vs0, d0, ds0, p0, q0, hargs, rfl, rfl, h0, r0⟩ := trodAll_cons hA
  obtain ⟨v1, vs1, d1, ds1, p1, q1, rfl, rfl, rfl, h1, r1⟩ := trodAll_cons r0
  obtain ⟨rfl, rfl, rfl⟩ := trodAll_nil r1
  obtain rfl : args = #[v0, v1] := by cases args; simp_all
  obtain ⟨rfl, rfl⟩ := trodVars_none hV
  obtain ⟨s0, rfl, rfl, rfl, w0⟩ := open_string Tryd.underlying9 (hval 0 9 v0 rfl rfl) h0
  have z0 : s0.size ≤ 140737488351232 := by
    have := sized_string hsz (j := 0) rfl rfl
    rw [bytes_size] at this
    exact this
  obtain ⟨s1, rfl, rfl, rfl, w1⟩ := open_string Tryd.underlying9 (hval 1 9 v1 rfl rfl) h1
  have z1 : s1.size ≤ 140737488351232 := by
    have := sized_string hsz (j := 1) rfl rfl
    rw [bytes_size] at this
    exact this
  clear hA0 hval0
  simp only [List.append_nil] at hW'
  refine (localLaw_any s0 s1 W hQ).mono fun e W' ⟨he, hb⟩ => ?_
  subst he
  exact ⟨_, rfl, _, _, _, [], _, [], hW', trodAll_mk1 (shut_bool Tryd.underlying4 _), (trodAll_cons_mk (shut_string Tryd.underlying9 w0) (trodAll_cons_mk (shut_string Tryd.underlying9 w1) trodAll_mk0)), rfl, hb.frame _, fun h => by cases h⟩

theorem tlocal_row : Rows.TokenIsLocalSaid :=
  OpenClaim.holds_of_wide 5 Tryd.f5 rfl rfl rfl rfl rfl rfl rfl ⟨rfl, rfl, rfl, rfl, rfl⟩ rfl rfl rfl rfl rfl (by kernel_rfl) Tryd.func5 tlocal_facts
    (of_decide_eq_true (by kernel_rfl)) (by unfold Func.isWrapper; first | (rw [if_pos (by decide +kernel)]; kernel_rfl) | (rw [if_neg (by decide +kernel)]; exact ⟨rfl, rfl⟩))
    (fun os started H enc _ => tlocal_lifted os started H enc)
theorem tlocal_wf : Rows.tokenIsLocalRow.wfByText (OpenSpec.ofChange Rows.tokenIsLocalSpec) = true := by kernel_rfl
theorem tlocal_main : Tryd.prog.mainIs = some (Rows.tokenIsLocalCard.stood.harness.1, Rows.tokenIsLocalCard.stood.harness.2.toList) := by kernel_rfl
theorem tlocal_looks : false = Tryd.prog.looks [] := by kernel_rfl
theorem tlocal_goes : false = Rows.tokenIsLocalRow.goesBy Tryd.prog := by kernel_rfl
theorem tlocal_named : Tryd.prog.funcNamed "interlace/interlacelaw10.TokenIsLocal" = some 5 := by kernel_rfl
theorem tlocal_stand : ([9, 9].all fun u => !Tryd.prog.wantsStandIn u) = true := by kernel_rfl
theorem tlocal_at (f : FuncId) (fn : Func) (hf : Tryd.prog.funcNamed "interlace/interlacelaw10.TokenIsLocal" = some f) (hfn : Tryd.prog.funcs[f]? = some fn) : false = Tryd.prog.looks [] ∧ ∀ (j : Nat) t, fn.params[j]? = some t → Tryd.prog.wantsStandIn t = false := by
  obtain rfl : f = 5 := Option.some.inj (tlocal_named.symm.trans hf) |>.symm
  obtain rfl : fn = Tryd.f5 := (Option.some.inj (Tryd.func5.symm.trans hfn)).symm
  exact ⟨tlocal_looks, fun j t ht => by
    rw [Tryd.params5] at ht
    have hm : t ∈ [9, 9] := by simpa using Array.mem_of_getElem? ht
    exact (show Tryd.prog.wantsStandIn t = false by simpa using List.all_eq_true.1 tlocal_stand t hm)⟩
theorem tlocal_holds : Rows.TokenIsLocalCardSaid :=
  Claim7.holds_tied_plain_at .later [] [.data, .data, .data, .data, .data] true _ false
    tlocal_row (fun _ h => by cases h) tlocal_wf (fun _ h => by cases h) tokenIsLocal_row_tie rfl ⟨rfl, rfl⟩ tlocal_main rfl tlocal_at tlocal_goes
#print axioms tlocal_holds
end Go.Proofs.YtlpocfojgibhjaaDoor
