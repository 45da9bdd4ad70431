/-
  The statement TokenJoins of layer 10 holds of the program: the tokens of tokens put together again are the same. Conditions: the tables of the program and the library read as Go lays them.
-/
import Derived.Test.YtlpocfojgibhjaaDoorGL
import Derived.Test.YtlpocfojgibhjaaDoorTie
import Derived.Test.YtlpocfojgibhjaaDoorCards
import Derived.SevenTiedAt
import Derived.Test.YtlpocfojgibhjaaDoorKQw
namespace Go.Proofs.YtlpocfojgibhjaaDoor
set_option linter.unusedVariables false
set_option linter.unusedSimpArgs false
open Go.ChangeShapes Go.WideShapes Go.ChangeAt Go.RowKit
open Go.ChangeMaps (open_string shut_string)

theorem and_t {a b : Bool} (h : a = true) (k : b = true) : (a && b) = true := by rw [h, k]; rfl
theorem tjoins_k0 : (Rows.tokenJoinsRow.wf (OpenSpec.ofChange Rows.tokenJoinsSpec)) = true := by kernel_rfl
theorem tjoins_k1 : (laidOutB Tryd.prog) = true := by kernel_rfl
theorem tjoins_k2 : (mapsRowed Tryd.prog) = true := by kernel_rfl
theorem tjoins_k3 : (Tryd.f6.params.all (Tryd.prog.readableRec ·)) = true := by kernel_rfl
theorem tjoins_k4 : (namedTie Tryd.prog Rows.tokenJoinsRow.named Rows.tokenJoinsSpec.vars) = true := by kernel_rfl
theorem tjoins_k5 : ((Rows.tokenJoinsRow.stops == [])) = true := by kernel_rfl
theorem tjoins_k6 : ((Tryd.prog.stops == [])) = true := by kernel_rfl
theorem tjoins_k7 : ((Rows.tokenJoinsRow.knobs == [])) = true := by kernel_rfl
theorem tjoins_k8 : ((Tryd.prog.stopKnobs == [])) = true := by kernel_rfl
theorem tjoins_k9 : ((Rows.tokenJoinsRow.inPlace == Tryd.prog.inPlace 6)) = true := by kernel_rfl
theorem tjoins_k10 : ((Rows.tokenJoinsRow.unfollowed == Tryd.prog.unfollowed 6)) = true := by kernel_rfl
theorem tjoins_k11 : ((Rows.tokenJoinsRow.recurses == Tryd.prog.recurses 6)) = true := by kernel_rfl
theorem tjoins_k12 : ((Rows.tokenJoinsRow.named == Tryd.prog.varsNamed 6)) = true := by kernel_rfl
theorem tjoins_k13 : ((Rows.tokenJoinsRow.maps == (Tryd.f6.params.toList ++ Rows.tokenJoinsSpec.plain.varTypes Tryd.prog).any (Tryd.prog.mapsRec ·))) = true := by kernel_rfl
theorem tjoins_k14 : ((Rows.tokenJoinsRow.ifaces == (Tryd.f6.params.toList ++ Rows.tokenJoinsSpec.plain.varTypes Tryd.prog).any (Tryd.prog.ifacesRec ·))) = true := by kernel_rfl
theorem tjoins_k15 : ((Rows.tokenJoinsRow.mapsOut == Tryd.prog.mapsAmong Tryd.f6.resultTypes.toList)) = true := by kernel_rfl
theorem tjoins_k16 : ((Rows.tokenJoinsRow.loops == (Tryd.f6.params.toList ++ Rows.tokenJoinsSpec.plain.varTypes Tryd.prog).any (Tryd.prog.loopsFrom ·))) = true := by kernel_rfl
theorem tjoins_k17 : ((Rows.tokenJoinsRow.wideKeys == (Tryd.f6.params.toList ++ Rows.tokenJoinsSpec.plain.varTypes Tryd.prog ++ Tryd.f6.resultTypes.toList).any (Tryd.prog.wideKeysFrom ·))) = true := by kernel_rfl
theorem tjoins_k18 : (Rows.tokenJoinsSpec.vars.all (Tryd.prog.varReadable ·)) = true := by kernel_rfl
theorem tjoins_k19 : (Tryd.f6.resultTypes.all (fun t => Tryd.prog.readableRec t && decide (t < Tryd.prog.types.size))) = true := by kernel_rfl
theorem tjoins_k20 : ((Rows.tokenJoinsRow.ifacesOut == Tryd.f6.resultTypes.toList.any (Tryd.prog.ifacesRec ·))) = true := by kernel_rfl
theorem tjoins_k21 : ((Rows.tokenJoinsRow.loopsOut == Tryd.f6.resultTypes.toList.any (Tryd.prog.loopsFrom ·))) = true := by kernel_rfl
theorem tjoins_k22 : ((Rows.tokenJoinsRow.plainKeys == Tryd.prog.plainKeys)) = true := by kernel_rfl
theorem tjoins_k23 : (Rows.tokenJoinsRow.shortTexts.isNone) = true := by kernel_rfl
theorem tjoins_k24 : (Tryd.prog.stopsHeard) = true := by kernel_rfl
theorem tjoins_k25 : (Tryd.prog.mayEnter) = true := by kernel_rfl
theorem tjoins_k26 : ((Rows.tokenJoinsRow.lifted == Tryd.prog.liftsFinal)) = true := by kernel_rfl
theorem tjoins_k27 : ((Tryd.prog.make == some Rows.tokenJoinsRow.make)) = true := by kernel_rfl
theorem tjoins_k28 : ((Rows.tokenJoinsRow.kinds == (if Rows.tokenJoinsRow.domain.isEmpty then [] else Tryd.f6.params.toList.map fun t => match Tryd.prog.underlying t with | some (.int k) => some k | _ => none))) = true := by kernel_rfl
theorem tjoins_k29 : ((Rows.tokenJoinsRow.pinned == Rows.tokenJoinsRow.pinnedBy)) = true := by kernel_rfl
theorem tjoins_k30 : ((Rows.tokenJoinsRow.veiled == (Tryd.f6.params.toList ++ Rows.tokenJoinsSpec.plain.varTypes Tryd.prog ++ Tryd.f6.resultTypes.toList).any (Tryd.prog.veiledRec ·))) = true := by kernel_rfl
theorem tjoins_k31 : (Rows.tokenJoinsRow.veiledFits Tryd.prog Tryd.f6.params.toList (Tryd.f6.params.toList ++ Rows.tokenJoinsSpec.plain.varTypes Tryd.prog ++ Tryd.f6.resultTypes.toList)) = true := by kernel_rfl
set_option maxRecDepth 100000 in
theorem tjoins_facts : joinedFacts Tryd.prog 6 Tryd.f6 Rows.tokenJoinsSpec Rows.tokenJoinsRow = true := and_t (and_t (and_t (and_t (and_t (and_t (and_t (and_t (and_t (and_t (and_t (and_t (and_t (and_t (and_t (and_t (and_t (and_t (and_t (and_t (and_t (and_t (and_t (and_t (and_t (and_t (and_t (and_t (and_t (and_t (and_t tjoins_k0 tjoins_k1) tjoins_k2) tjoins_k3) tjoins_k4) tjoins_k5) tjoins_k6) tjoins_k7) tjoins_k8) tjoins_k9) tjoins_k10) tjoins_k11) tjoins_k12) tjoins_k13) tjoins_k14) tjoins_k15) tjoins_k16) tjoins_k17) tjoins_k18) tjoins_k19) tjoins_k20) tjoins_k21) tjoins_k22) tjoins_k23) tjoins_k24) tjoins_k25) tjoins_k26) tjoins_k27) tjoins_k28) tjoins_k29) tjoins_k30) tjoins_k31
set_option maxRecDepth 100000 in
theorem tjoins_lifted (os : Os) (started : os.Started) (H : Type) (enc : TypeId × Value → H) :
    ReturnsInHanded {} Tryd.checked os 6 .any (fun w args => (Rows.tokenJoinsSpec.pre enc Tryd.prog Tryd.f6 [] false w args ∧ laidMetH Tryd.prog [("math/bits.deBruijn32tab", Rows.laid_math_bits_deBruijn32tab), ("math/bits.deBruijn64tab", Rows.laid_math_bits_deBruijn64tab), ("internal/strconv.uint64pow10", Rows.laid_internal_strconv_uint64pow10), ("unicode/utf8.acceptRanges", Rows.laid_unicode_utf8_acceptRanges), ("interlace/token.words", Rows.laid_interlace_token_words), ("interlace/token.twoSigns", Rows.laid_interlace_token_twoSigns), ("unicode/utf8.first", Rows.laid_unicode_utf8_first)] w) ∧ sizedMet enc Tryd.prog Tryd.f6 (OpenSpec.ofChange Rows.tokenJoinsSpec) false w args)
      (Rows.tokenJoinsSpec.post enc Tryd.prog Tryd.f6 false true false false) := by
  refine returnsInHanded_of_row (C := Tryd.checked) (s := OpenSpec.ofChange Rows.tokenJoinsSpec) (F := fun _ _ _ => 0) Tryd.own started (by kernel_rfl) Tryd.func6
    (ChangeSpec.witness_shaped (enc := enc) (C := Tryd.checked) (os := os) (X := fun w _ => laidMetH Tryd.prog [("math/bits.deBruijn32tab", Rows.laid_math_bits_deBruijn32tab), ("math/bits.deBruijn64tab", Rows.laid_math_bits_deBruijn64tab), ("internal/strconv.uint64pow10", Rows.laid_internal_strconv_uint64pow10), ("unicode/utf8.acceptRanges", Rows.laid_unicode_utf8_acceptRanges), ("interlace/token.words", Rows.laid_interlace_token_words), ("interlace/token.twoSigns", Rows.laid_interlace_token_twoSigns), ("unicode/utf8.first", Rows.laid_unicode_utf8_first)] w) false (World.laidAll Tryd.prog os [("math/bits.deBruijn32tab", Rows.laid_math_bits_deBruijn32tab), ("math/bits.deBruijn64tab", Rows.laid_math_bits_deBruijn64tab), ("internal/strconv.uint64pow10", Rows.laid_internal_strconv_uint64pow10), ("unicode/utf8.acceptRanges", Rows.laid_unicode_utf8_acceptRanges), ("interlace/token.words", Rows.laid_interlace_token_words), ("interlace/token.twoSigns", Rows.laid_interlace_token_twoSigns), ("unicode/utf8.first", Rows.laid_unicode_utf8_first)]) #[.string ByteArray.empty, .string ByteArray.empty] 8 (World.laidAll_os _ _ _) (shaped_laid7 os _) (by kernel_rfl) (by kernel_rfl) (by kernel_rfl) (laid_met7 os _)) ?_
  intro W base args ds gs before hval0 hW _ _ hsz0 hL hsh _
  have hQ : QW W := qw_of7 hL hsh
  have hsz : (DataW.weightsEach Tryd.prog (Tryd.f6.params.toList ++ Rows.tokenJoinsSpec.plain.varTypes Tryd.prog) (ds ++ gs)).all (· ≤ reachBytes) = true := hsz0
  clear hsz0 hsh
  have hval : ∀ (j : Nat) t v, Tryd.f6.params[j]? = some t → args[j]? = some v → Value.okWide Tryd.prog W .any base t v := hval0
  have hW' := hW
  obtain ⟨p, q, hA0, hV, rfl, hfz, hnd⟩ := hW
  have hA : DataW.TrodAll enc Tryd.prog W 0 (fun _ => true) true Tryd.f6.params.toList args.toList ds p := hA0
  rw [Tryd.params6] at hA hval hsz
  obtain ⟨v0, vs0, d0, ds0, p0, q0, hargs, rfl, rfl, h0, r0⟩ := trodAll_cons hA
  obtain ⟨v1, vs1, d1, ds1, p1, q1, rfl, rfl, rfl, h1, r1⟩ := trodAll_cons r0
  obtain ⟨rfl, rfl, rfl⟩ := trodAll_nil r1
  obtain rfl : args = #[v0, v1] := by cases args; simp_all
  obtain ⟨rfl, rfl⟩ := trodVars_none hV
  obtain ⟨s0, rfl, rfl, rfl, w0⟩ := open_string Tryd.underlying9 (hval 0 9 v0 rfl rfl) h0
  have z0 : s0.size ≤ 140737488351232 := by
    have := sized_string hsz (j := 0) rfl rfl
    rw [bytes_size] at this
    exact this
  obtain ⟨s1, rfl, rfl, rfl, w1⟩ := open_string Tryd.underlying9 (hval 1 9 v1 rfl rfl) h1
  have z1 : s1.size ≤ 140737488351232 := by
    have := sized_string hsz (j := 1) rfl rfl
    rw [bytes_size] at this
    exact this
  clear hA0 hval0
  simp only [List.append_nil] at hW'
  refine (joinsLaw_any s0 s1 W hQ).mono fun e W' ⟨he, hb⟩ => ?_
  subst he
  exact ⟨_, rfl, _, _, _, [], _, [], hW', trodAll_mk1 (shut_bool Tryd.underlying4 _), (trodAll_cons_mk (shut_string Tryd.underlying9 w0) (trodAll_cons_mk (shut_string Tryd.underlying9 w1) trodAll_mk0)), rfl, hb.frame _, fun h => by cases h⟩

theorem tjoins_row : Rows.TokenJoinsSaid :=
  OpenClaim.holds_of_wide 6 Tryd.f6 rfl rfl rfl rfl rfl rfl rfl ⟨rfl, rfl, rfl, rfl, rfl⟩ rfl rfl rfl rfl rfl (by kernel_rfl) Tryd.func6 tjoins_facts
    (of_decide_eq_true (by kernel_rfl)) (by unfold Func.isWrapper; first | (rw [if_pos (by decide +kernel)]; kernel_rfl) | (rw [if_neg (by decide +kernel)]; exact ⟨rfl, rfl⟩))
    (fun os started H enc _ => tjoins_lifted os started H enc)
theorem tjoins_wf : Rows.tokenJoinsRow.wfByText (OpenSpec.ofChange Rows.tokenJoinsSpec) = true := by kernel_rfl
theorem tjoins_main : Tryd.prog.mainIs = some (Rows.tokenJoinsCard.stood.harness.1, Rows.tokenJoinsCard.stood.harness.2.toList) := by kernel_rfl
theorem tjoins_looks : false = Tryd.prog.looks [] := by kernel_rfl
theorem tjoins_goes : false = Rows.tokenJoinsRow.goesBy Tryd.prog := by kernel_rfl
theorem tjoins_named : Tryd.prog.funcNamed "interlace/interlacelaw10.TokenJoins" = some 6 := by kernel_rfl
theorem tjoins_stand : ([9, 9].all fun u => !Tryd.prog.wantsStandIn u) = true := by kernel_rfl
theorem tjoins_at (f : FuncId) (fn : Func) (hf : Tryd.prog.funcNamed "interlace/interlacelaw10.TokenJoins" = some f) (hfn : Tryd.prog.funcs[f]? = some fn) : false = Tryd.prog.looks [] ∧ ∀ (j : Nat) t, fn.params[j]? = some t → Tryd.prog.wantsStandIn t = false := by
  obtain rfl : f = 6 := Option.some.inj (tjoins_named.symm.trans hf) |>.symm
  obtain rfl : fn = Tryd.f6 := (Option.some.inj (Tryd.func6.symm.trans hfn)).symm
  exact ⟨tjoins_looks, fun j t ht => by
    rw [Tryd.params6] at ht
    have hm : t ∈ [9, 9] := by simpa using Array.mem_of_getElem? ht
    exact (show Tryd.prog.wantsStandIn t = false by simpa using List.all_eq_true.1 tjoins_stand t hm)⟩
theorem tjoins_holds : Rows.TokenJoinsCardSaid :=
  Claim7.holds_tied_plain_at .later [] [.data, .data, .data, .data, .data, .data, .pinned] true _ false
    tjoins_row (fun _ h => by cases h) tjoins_wf (fun _ h => by cases h) tokenJoins_row_tie rfl ⟨rfl, rfl⟩ tjoins_main rfl tjoins_at tjoins_goes
#print axioms tjoins_holds
end Go.Proofs.YtlpocfojgibhjaaDoor
