/-
  The statement TokenCoversSource of layer 10 holds of the program: the texts of the tokens lie in the source in their order, and what lies between them is space and comments. Conditions: the tables of the program and the library read as Go lays them.
-/
import Derived.Test.YtcefaipjncohmaaGreatDoorQx
import Derived.Test.YtcefaipjncohmaaGreatDoorTie
import Derived.Test.YtcefaipjncohmaaGreatDoorCards
import Derived.SevenTiedAt
import Derived.Test.YtcefaipjncohmaaGreatDoorVf
namespace Go.Proofs.YtcefaipjncohmaaGreatDoor
set_option linter.unusedVariables false
set_option linter.unusedSimpArgs false
open Go.ChangeShapes Go.WideShapes Go.ChangeAt Go.RowKit
open Go.ChangeMaps (open_string shut_string)

theorem and_t {a b : Bool} (h : a = true) (k : b = true) : (a && b) = true := by rw [h, k]; rfl
theorem tcovers_k0 : (Rows.tokenCoversSourceRow.wf (OpenSpec.ofChange Rows.tokenCoversSourceSpec)) = true := by kernel_rfl
theorem tcovers_k1 : (laidOutB Tryz.prog) = true := by kernel_rfl
theorem tcovers_k2 : (mapsRowed Tryz.prog) = true := by kernel_rfl
theorem tcovers_k3 : (Tryz.f3.params.all (Tryz.prog.readableRec ·)) = true := by kernel_rfl
theorem tcovers_k4 : (namedTie Tryz.prog Rows.tokenCoversSourceRow.named Rows.tokenCoversSourceSpec.vars) = true := by kernel_rfl
theorem tcovers_k5 : ((Rows.tokenCoversSourceRow.stops == [])) = true := by kernel_rfl
theorem tcovers_k6 : ((Tryz.prog.stops == [])) = true := by kernel_rfl
theorem tcovers_k7 : ((Rows.tokenCoversSourceRow.knobs == [])) = true := by kernel_rfl
theorem tcovers_k8 : ((Tryz.prog.stopKnobs == [])) = true := by kernel_rfl
theorem tcovers_k9 : ((Rows.tokenCoversSourceRow.inPlace == Tryz.prog.inPlace 3)) = true := by kernel_rfl
theorem tcovers_k10 : ((Rows.tokenCoversSourceRow.unfollowed == Tryz.prog.unfollowed 3)) = true := by kernel_rfl
theorem tcovers_k11 : ((Rows.tokenCoversSourceRow.recurses == Tryz.prog.recurses 3)) = true := by kernel_rfl
theorem tcovers_k12 : ((Rows.tokenCoversSourceRow.named == Tryz.prog.varsNamed 3)) = true := by kernel_rfl
theorem tcovers_k13 : ((Rows.tokenCoversSourceRow.maps == (Tryz.f3.params.toList ++ Rows.tokenCoversSourceSpec.plain.varTypes Tryz.prog).any (Tryz.prog.mapsRec ·))) = true := by kernel_rfl
theorem tcovers_k14 : ((Rows.tokenCoversSourceRow.ifaces == (Tryz.f3.params.toList ++ Rows.tokenCoversSourceSpec.plain.varTypes Tryz.prog).any (Tryz.prog.ifacesRec ·))) = true := by kernel_rfl
theorem tcovers_k15 : ((Rows.tokenCoversSourceRow.mapsOut == Tryz.prog.mapsAmong Tryz.f3.resultTypes.toList)) = true := by kernel_rfl
theorem tcovers_k16 : ((Rows.tokenCoversSourceRow.loops == (Tryz.f3.params.toList ++ Rows.tokenCoversSourceSpec.plain.varTypes Tryz.prog).any (Tryz.prog.loopsFrom ·))) = true := by kernel_rfl
theorem tcovers_k17 : ((Rows.tokenCoversSourceRow.wideKeys == (Tryz.f3.params.toList ++ Rows.tokenCoversSourceSpec.plain.varTypes Tryz.prog ++ Tryz.f3.resultTypes.toList).any (Tryz.prog.wideKeysFrom ·))) = true := by kernel_rfl
theorem tcovers_k18 : (Rows.tokenCoversSourceSpec.vars.all (Tryz.prog.varReadable ·)) = true := by kernel_rfl
theorem tcovers_k19 : (Tryz.f3.resultTypes.all (fun t => Tryz.prog.readableRec t && decide (t < Tryz.prog.types.size))) = true := by kernel_rfl
theorem tcovers_k20 : ((Rows.tokenCoversSourceRow.ifacesOut == Tryz.f3.resultTypes.toList.any (Tryz.prog.ifacesRec ·))) = true := by kernel_rfl
theorem tcovers_k21 : ((Rows.tokenCoversSourceRow.loopsOut == Tryz.f3.resultTypes.toList.any (Tryz.prog.loopsFrom ·))) = true := by kernel_rfl
theorem tcovers_k22 : ((Rows.tokenCoversSourceRow.plainKeys == Tryz.prog.plainKeys)) = true := by kernel_rfl
theorem tcovers_k23 : (Rows.tokenCoversSourceRow.shortTexts.isNone) = true := by kernel_rfl
theorem tcovers_k24 : (Tryz.prog.stopsHeard) = true := by kernel_rfl
theorem tcovers_k25 : (Tryz.prog.mayEnter) = true := by kernel_rfl
theorem tcovers_k26 : ((Rows.tokenCoversSourceRow.lifted == Tryz.prog.liftsFinal)) = true := by kernel_rfl
theorem tcovers_k27 : ((Tryz.prog.make == some Rows.tokenCoversSourceRow.make)) = true := by kernel_rfl
theorem tcovers_k28 : ((Rows.tokenCoversSourceRow.kinds == (if Rows.tokenCoversSourceRow.domain.isEmpty then [] else Tryz.f3.params.toList.map fun t => match Tryz.prog.underlying t with | some (.int k) => some k | _ => none))) = true := by kernel_rfl
theorem tcovers_k29 : ((Rows.tokenCoversSourceRow.pinned == Rows.tokenCoversSourceRow.pinnedBy)) = true := by kernel_rfl
theorem tcovers_k30 : ((Rows.tokenCoversSourceRow.veiled == (Tryz.f3.params.toList ++ Rows.tokenCoversSourceSpec.plain.varTypes Tryz.prog ++ Tryz.f3.resultTypes.toList).any (Tryz.prog.veiledRec ·))) = true := by kernel_rfl
theorem tcovers_k31 : (Rows.tokenCoversSourceRow.veiledFits Tryz.prog Tryz.f3.params.toList (Tryz.f3.params.toList ++ Rows.tokenCoversSourceSpec.plain.varTypes Tryz.prog ++ Tryz.f3.resultTypes.toList)) = true := by kernel_rfl
set_option maxRecDepth 100000 in
theorem tcovers_facts : joinedFacts Tryz.prog 3 Tryz.f3 Rows.tokenCoversSourceSpec Rows.tokenCoversSourceRow = true := and_t (and_t (and_t (and_t (and_t (and_t (and_t (and_t (and_t (and_t (and_t (and_t (and_t (and_t (and_t (and_t (and_t (and_t (and_t (and_t (and_t (and_t (and_t (and_t (and_t (and_t (and_t (and_t (and_t (and_t (and_t tcovers_k0 tcovers_k1) tcovers_k2) tcovers_k3) tcovers_k4) tcovers_k5) tcovers_k6) tcovers_k7) tcovers_k8) tcovers_k9) tcovers_k10) tcovers_k11) tcovers_k12) tcovers_k13) tcovers_k14) tcovers_k15) tcovers_k16) tcovers_k17) tcovers_k18) tcovers_k19) tcovers_k20) tcovers_k21) tcovers_k22) tcovers_k23) tcovers_k24) tcovers_k25) tcovers_k26) tcovers_k27) tcovers_k28) tcovers_k29) tcovers_k30) tcovers_k31
set_option maxRecDepth 100000 in
theorem tcovers_lifted (os : Os) (started : os.Started) (H : Type) (enc : TypeId × Value → H) :
    ReturnsInHanded {} Tryz.checked os 3 .any (fun w args => (Rows.tokenCoversSourceSpec.pre enc Tryz.prog Tryz.f3 [] false w args ∧ laidMetH Tryz.prog [("math/bits.deBruijn32tab", Rows.laid_math_bits_deBruijn32tab), ("math/bits.deBruijn64tab", Rows.laid_math_bits_deBruijn64tab), ("internal/strconv.uint64pow10", Rows.laid_internal_strconv_uint64pow10), ("unicode/utf8.acceptRanges", Rows.laid_unicode_utf8_acceptRanges), ("interlace/token.words", Rows.laid_interlace_token_words), ("interlace/token.twoSigns", Rows.laid_interlace_token_twoSigns), ("unicode/utf8.first", Rows.laid_unicode_utf8_first)] w) ∧ sizedMet enc Tryz.prog Tryz.f3 (OpenSpec.ofChange Rows.tokenCoversSourceSpec) false w args)
      (Rows.tokenCoversSourceSpec.post enc Tryz.prog Tryz.f3 false true false false) := by
  refine returnsInHanded_of_row (C := Tryz.checked) (s := OpenSpec.ofChange Rows.tokenCoversSourceSpec) (F := fun _ _ _ => 0) Tryz.own started (by kernel_rfl) Tryz.func3
    (ChangeSpec.witness_shaped (enc := enc) (C := Tryz.checked) (os := os) (X := fun w _ => laidMetH Tryz.prog [("math/bits.deBruijn32tab", Rows.laid_math_bits_deBruijn32tab), ("math/bits.deBruijn64tab", Rows.laid_math_bits_deBruijn64tab), ("internal/strconv.uint64pow10", Rows.laid_internal_strconv_uint64pow10), ("unicode/utf8.acceptRanges", Rows.laid_unicode_utf8_acceptRanges), ("interlace/token.words", Rows.laid_interlace_token_words), ("interlace/token.twoSigns", Rows.laid_interlace_token_twoSigns), ("unicode/utf8.first", Rows.laid_unicode_utf8_first)] w) false (World.laidAll Tryz.prog os [("math/bits.deBruijn32tab", Rows.laid_math_bits_deBruijn32tab), ("math/bits.deBruijn64tab", Rows.laid_math_bits_deBruijn64tab), ("internal/strconv.uint64pow10", Rows.laid_internal_strconv_uint64pow10), ("unicode/utf8.acceptRanges", Rows.laid_unicode_utf8_acceptRanges), ("interlace/token.words", Rows.laid_interlace_token_words), ("interlace/token.twoSigns", Rows.laid_interlace_token_twoSigns), ("unicode/utf8.first", Rows.laid_unicode_utf8_first)]) #[.string ByteArray.empty] 8 (World.laidAll_os _ _ _) (shaped_laid7 os _) (by kernel_rfl) (by kernel_rfl) (by kernel_rfl) (laid_met7 os _)) ?_
  intro W base args ds gs before hval0 hW _ _ hsz0 hL hsh _
  have hQ : QW W := qw_of7 hL hsh
  have hsz : (DataW.weightsEach Tryz.prog (Tryz.f3.params.toList ++ Rows.tokenCoversSourceSpec.plain.varTypes Tryz.prog) (ds ++ gs)).all (· ≤ reachBytes) = true := hsz0
  clear hsz0 hsh
  have hval : ∀ (j : Nat) t v, Tryz.f3.params[j]? = some t → args[j]? = some v → Value.okWide Tryz.prog W .any base t v := hval0
  have hW' := hW
  obtain ⟨p, q, hA0, hV, rfl, hfz, hnd⟩ := hW
  have hA : DataW.TrodAll enc Tryz.prog W 0 (fun _ => true) true Tryz.f3.params.toList args.toList ds p := hA0
  rw [Tryz.params3] at hA hval hsz
  obtain ⟨v0, vs0, d0, ds0, p0, q0, hargs, rfl, rfl, h0, r0⟩ := trodAll_cons hA
  obtain ⟨rfl, rfl, rfl⟩ := trodAll_nil r0
  obtain rfl : args = #[v0] := by cases args; simp_all
  obtain ⟨rfl, rfl⟩ := trodVars_none hV
  obtain ⟨s0, rfl, rfl, rfl, w0⟩ := open_string Tryz.underlying9 (hval 0 9 v0 rfl rfl) h0
  have z0 : s0.size ≤ 140737488351232 := by
    have := sized_string hsz (j := 0) rfl rfl
    rw [bytes_size] at this
    exact this
  clear hA0 hval0
  simp only [List.append_nil] at hW'
  refine (coversLaw_any s0 W hQ).mono fun e W' ⟨he, hb⟩ => ?_
  subst he
  exact ⟨_, rfl, _, _, _, [], _, [], hW', trodAll_mk1 (shut_bool Tryz.underlying4 _), (trodAll_cons_mk (shut_string Tryz.underlying9 w0) trodAll_mk0), rfl, hb.frame _, fun h => by cases h⟩

theorem tcovers_row : Rows.TokenCoversSourceSaid :=
  OpenClaim.holds_of_wide 3 Tryz.f3 rfl rfl rfl rfl rfl rfl rfl ⟨rfl, rfl, rfl, rfl, rfl⟩ rfl rfl rfl rfl rfl (by kernel_rfl) Tryz.func3 tcovers_facts
    (of_decide_eq_true (by kernel_rfl)) (by unfold Func.isWrapper; first | (rw [if_pos (by decide +kernel)]; kernel_rfl) | (rw [if_neg (by decide +kernel)]; exact ⟨rfl, rfl⟩))
    (fun os started H enc _ => tcovers_lifted os started H enc)
theorem tcovers_wf : Rows.tokenCoversSourceRow.wfByText (OpenSpec.ofChange Rows.tokenCoversSourceSpec) = true := by kernel_rfl
theorem tcovers_main : Tryz.prog.mainIs = some (Rows.tokenCoversSourceCard.stood.harness.1, Rows.tokenCoversSourceCard.stood.harness.2.toList) := by kernel_rfl
theorem tcovers_looks : false = Tryz.prog.looks [] := by kernel_rfl
theorem tcovers_goes : false = Rows.tokenCoversSourceRow.goesBy Tryz.prog := by kernel_rfl
theorem tcovers_named : Tryz.prog.funcNamed "interlace/interlacelaw10.TokenCoversSource" = some 3 := by kernel_rfl
theorem tcovers_stand : ([9].all fun u => !Tryz.prog.wantsStandIn u) = true := by kernel_rfl
theorem tcovers_at (f : FuncId) (fn : Func) (hf : Tryz.prog.funcNamed "interlace/interlacelaw10.TokenCoversSource" = some f) (hfn : Tryz.prog.funcs[f]? = some fn) : false = Tryz.prog.looks [] ∧ ∀ (j : Nat) t, fn.params[j]? = some t → Tryz.prog.wantsStandIn t = false := by
  obtain rfl : f = 3 := Option.some.inj (tcovers_named.symm.trans hf) |>.symm
  obtain rfl : fn = Tryz.f3 := (Option.some.inj (Tryz.func3.symm.trans hfn)).symm
  exact ⟨tcovers_looks, fun j t ht => by
    rw [Tryz.params3] at ht
    have hm : t ∈ [9] := by simpa using Array.mem_of_getElem? ht
    exact (show Tryz.prog.wantsStandIn t = false by simpa using List.all_eq_true.1 tcovers_stand t hm)⟩
theorem tcovers_holds : Rows.TokenCoversSourceCardSaid :=
  Claim7.holds_tied_plain_at .later [] [.data, .data, .data, .data, .data, .data, .pinned] true _ false
    tcovers_row (fun _ h => by cases h) tcovers_wf (fun _ h => by cases h) tokenCoversSource_row_tie rfl ⟨rfl, rfl⟩ tcovers_main rfl tcovers_at tcovers_goes
#print axioms tcovers_holds
end Go.Proofs.YtcefaipjncohmaaGreatDoor
