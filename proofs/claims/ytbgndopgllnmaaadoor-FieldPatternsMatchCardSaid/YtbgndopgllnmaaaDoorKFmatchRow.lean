/-
  The statement FieldPatternsMatch of layer 8 holds of the program: Equal, Prefix, Range and Mod return what is specified, and match and set as they should. Conditions: the tables of the library read as Go lays them.
-/
import Derived.Test.YtbgndopgllnmaaaDoorGT
import Derived.Test.YtbgndopgllnmaaaDoorTie
import Derived.Test.YtbgndopgllnmaaaDoorCards
import Derived.SevenTiedAt
import Derived.Test.YtbgndopgllnmaaaDoorKFu
import Derived.Test.YtbgndopgllnmaaaDoorGY
namespace Go.Proofs.YtbgndopgllnmaaaDoor
set_option linter.unusedVariables false
set_option linter.unusedSimpArgs false
open Go.ChangeShapes Go.WideShapes Go.ChangeAt Go.RowKit
open Go.ChangeMaps (open_string shut_string)

theorem and_t {a b : Bool} (h : a = true) (k : b = true) : (a && b) = true := by rw [h, k]; rfl
theorem fmatch_k0 : (Rows.fieldPatternsMatchRow.wf (OpenSpec.ofChange Rows.fieldPatternsMatchSpec)) = true := by kernel_rfl
theorem fmatch_k1 : (laidOutB Tryd.prog) = true := by kernel_rfl
theorem fmatch_k2 : (mapsRowed Tryd.prog) = true := by kernel_rfl
theorem fmatch_k3 : (Tryd.f6.params.all (Tryd.prog.readableRec ·)) = true := by kernel_rfl
theorem fmatch_k4 : (namedTie Tryd.prog Rows.fieldPatternsMatchRow.named Rows.fieldPatternsMatchSpec.vars) = true := by kernel_rfl
theorem fmatch_k5 : ((Rows.fieldPatternsMatchRow.stops == [])) = true := by kernel_rfl
theorem fmatch_k6 : ((Tryd.prog.stops == [])) = true := by kernel_rfl
theorem fmatch_k7 : ((Rows.fieldPatternsMatchRow.knobs == [])) = true := by kernel_rfl
theorem fmatch_k8 : ((Tryd.prog.stopKnobs == [])) = true := by kernel_rfl
theorem fmatch_k9 : ((Rows.fieldPatternsMatchRow.inPlace == Tryd.prog.inPlace 6)) = true := by kernel_rfl
theorem fmatch_k10 : ((Rows.fieldPatternsMatchRow.unfollowed == Tryd.prog.unfollowed 6)) = true := by kernel_rfl
theorem fmatch_k11 : ((Rows.fieldPatternsMatchRow.recurses == Tryd.prog.recurses 6)) = true := by kernel_rfl
theorem fmatch_k12 : ((Rows.fieldPatternsMatchRow.named == Tryd.prog.varsNamed 6)) = true := by kernel_rfl
theorem fmatch_k13 : ((Rows.fieldPatternsMatchRow.maps == (Tryd.f6.params.toList ++ Rows.fieldPatternsMatchSpec.plain.varTypes Tryd.prog).any (Tryd.prog.mapsRec ·))) = true := by kernel_rfl
theorem fmatch_k14 : ((Rows.fieldPatternsMatchRow.ifaces == (Tryd.f6.params.toList ++ Rows.fieldPatternsMatchSpec.plain.varTypes Tryd.prog).any (Tryd.prog.ifacesRec ·))) = true := by kernel_rfl
theorem fmatch_k15 : ((Rows.fieldPatternsMatchRow.mapsOut == Tryd.prog.mapsAmong Tryd.f6.resultTypes.toList)) = true := by kernel_rfl
theorem fmatch_k16 : ((Rows.fieldPatternsMatchRow.loops == (Tryd.f6.params.toList ++ Rows.fieldPatternsMatchSpec.plain.varTypes Tryd.prog).any (Tryd.prog.loopsFrom ·))) = true := by kernel_rfl
theorem fmatch_k17 : ((Rows.fieldPatternsMatchRow.wideKeys == (Tryd.f6.params.toList ++ Rows.fieldPatternsMatchSpec.plain.varTypes Tryd.prog ++ Tryd.f6.resultTypes.toList).any (Tryd.prog.wideKeysFrom ·))) = true := by kernel_rfl
theorem fmatch_k18 : (Rows.fieldPatternsMatchSpec.vars.all (Tryd.prog.varReadable ·)) = true := by kernel_rfl
theorem fmatch_k19 : (Tryd.f6.resultTypes.all (fun t => Tryd.prog.readableRec t && decide (t < Tryd.prog.types.size))) = true := by kernel_rfl
theorem fmatch_k20 : ((Rows.fieldPatternsMatchRow.ifacesOut == Tryd.f6.resultTypes.toList.any (Tryd.prog.ifacesRec ·))) = true := by kernel_rfl
theorem fmatch_k21 : ((Rows.fieldPatternsMatchRow.loopsOut == Tryd.f6.resultTypes.toList.any (Tryd.prog.loopsFrom ·))) = true := by kernel_rfl
theorem fmatch_k22 : ((Rows.fieldPatternsMatchRow.plainKeys == Tryd.prog.plainKeys)) = true := by kernel_rfl
theorem fmatch_k23 : (Rows.fieldPatternsMatchRow.shortTexts.isNone) = true := by kernel_rfl
theorem fmatch_k24 : (Tryd.prog.stopsHeard) = true := by kernel_rfl
theorem fmatch_k25 : (Tryd.prog.mayEnter) = true := by kernel_rfl
theorem fmatch_k26 : ((Rows.fieldPatternsMatchRow.lifted == Tryd.prog.liftsFinal)) = true := by kernel_rfl
theorem fmatch_k27 : ((Tryd.prog.make == some Rows.fieldPatternsMatchRow.make)) = true := by kernel_rfl
theorem fmatch_k28 : ((Rows.fieldPatternsMatchRow.kinds == (if Rows.fieldPatternsMatchRow.domain.isEmpty then [] else Tryd.f6.params.toList.map fun t => match Tryd.prog.underlying t with | some (.int k) => some k | _ => none))) = true := by kernel_rfl
theorem fmatch_k29 : ((Rows.fieldPatternsMatchRow.pinned == Rows.fieldPatternsMatchRow.pinnedBy)) = true := by kernel_rfl
theorem fmatch_k30 : ((Rows.fieldPatternsMatchRow.veiled == (Tryd.f6.params.toList ++ Rows.fieldPatternsMatchSpec.plain.varTypes Tryd.prog ++ Tryd.f6.resultTypes.toList).any (Tryd.prog.veiledRec ·))) = true := by kernel_rfl
theorem fmatch_k31 : (Rows.fieldPatternsMatchRow.veiledFits Tryd.prog Tryd.f6.params.toList (Tryd.f6.params.toList ++ Rows.fieldPatternsMatchSpec.plain.varTypes Tryd.prog ++ Tryd.f6.resultTypes.toList)) = true := by kernel_rfl
set_option maxRecDepth 100000 in
theorem fmatch_facts : joinedFacts Tryd.prog 6 Tryd.f6 Rows.fieldPatternsMatchSpec Rows.fieldPatternsMatchRow = true := and_t (and_t (and_t (and_t (and_t (and_t (and_t (and_t (and_t (and_t (and_t (and_t (and_t (and_t (and_t (and_t (and_t (and_t (and_t (and_t (and_t (and_t (and_t (and_t (and_t (and_t (and_t (and_t (and_t (and_t (and_t fmatch_k0 fmatch_k1) fmatch_k2) fmatch_k3) fmatch_k4) fmatch_k5) fmatch_k6) fmatch_k7) fmatch_k8) fmatch_k9) fmatch_k10) fmatch_k11) fmatch_k12) fmatch_k13) fmatch_k14) fmatch_k15) fmatch_k16) fmatch_k17) fmatch_k18) fmatch_k19) fmatch_k20) fmatch_k21) fmatch_k22) fmatch_k23) fmatch_k24) fmatch_k25) fmatch_k26) fmatch_k27) fmatch_k28) fmatch_k29) fmatch_k30) fmatch_k31
set_option maxRecDepth 100000 in
theorem fmatch_lifted (os : Os) (started : os.Started) (H : Type) (enc : TypeId × Value → H) :
    ReturnsInHanded {} Tryd.checked os 6 .any (fun w args => (Rows.fieldPatternsMatchSpec.pre enc Tryd.prog Tryd.f6 [] false w args ∧ laidMetH Tryd.prog [("math/bits.deBruijn32tab", Rows.laid_math_bits_deBruijn32tab), ("math/bits.deBruijn64tab", Rows.laid_math_bits_deBruijn64tab), ("internal/strconv.uint64pow10", Rows.laid_internal_strconv_uint64pow10), ("unicode/utf8.acceptRanges", Rows.laid_unicode_utf8_acceptRanges), ("unicode/utf8.first", Rows.laid_unicode_utf8_first)] w) ∧ sizedMet enc Tryd.prog Tryd.f6 (OpenSpec.ofChange Rows.fieldPatternsMatchSpec) false w args)
      (Rows.fieldPatternsMatchSpec.post enc Tryd.prog Tryd.f6 false true false false) := by
  refine returnsInHanded_of_row (C := Tryd.checked) (s := OpenSpec.ofChange Rows.fieldPatternsMatchSpec) (F := fun _ _ _ => 0) Tryd.own started (by kernel_rfl) Tryd.func6
    (ChangeSpec.witness_shaped (enc := enc) (C := Tryd.checked) (os := os) (X := fun w _ => laidMetH Tryd.prog [("math/bits.deBruijn32tab", Rows.laid_math_bits_deBruijn32tab), ("math/bits.deBruijn64tab", Rows.laid_math_bits_deBruijn64tab), ("internal/strconv.uint64pow10", Rows.laid_internal_strconv_uint64pow10), ("unicode/utf8.acceptRanges", Rows.laid_unicode_utf8_acceptRanges), ("unicode/utf8.first", Rows.laid_unicode_utf8_first)] w) false (World.laidAll Tryd.prog os [("math/bits.deBruijn32tab", Rows.laid_math_bits_deBruijn32tab), ("math/bits.deBruijn64tab", Rows.laid_math_bits_deBruijn64tab), ("internal/strconv.uint64pow10", Rows.laid_internal_strconv_uint64pow10), ("unicode/utf8.acceptRanges", Rows.laid_unicode_utf8_acceptRanges), ("unicode/utf8.first", Rows.laid_unicode_utf8_first)]) #[.agg #[.string ByteArray.empty, .int .i64 0, .int .i64 0], .agg (Array.replicate 10 (.int .i64 0)), .int .i64 0, .int .i64 0, .int .i64 0, .int .i64 0] 8 (World.laidAll_os _ _ _) (shaped_laid os _) (by kernel_rfl) (by kernel_rfl) (by kernel_rfl) (laid_met os _)) ?_
  intro W base args ds gs before hval0 hW _ _ hsz0 hL hsh _
  have hQ : QF W := ⟨tab_of_laid hL, spl_of_shaped hsh⟩
  have hsz : (DataW.weightsEach Tryd.prog (Tryd.f6.params.toList ++ Rows.fieldPatternsMatchSpec.plain.varTypes Tryd.prog) (ds ++ gs)).all (· ≤ reachBytes) = true := hsz0
  clear hsz0 hsh
  have hval : ∀ (j : Nat) t v, Tryd.f6.params[j]? = some t → args[j]? = some v → Value.okWide Tryd.prog W .any base t v := hval0
  have hW' := hW
  obtain ⟨p, q, hA0, hV, rfl, hfz, hnd⟩ := hW
  have hA : DataW.TrodAll enc Tryd.prog W 0 (fun _ => true) true Tryd.f6.params.toList args.toList ds p := hA0
  rw [Tryd.params6] at hA hval hsz
  obtain ⟨v0, vs0, d0, ds0, p0, q0, hargs, rfl, rfl, h0, r0⟩ := trodAll_cons hA
  obtain ⟨v1, vs1, d1, ds1, p1, q1, rfl, rfl, rfl, h1, r1⟩ := trodAll_cons r0
  obtain ⟨v2, vs2, d2, ds2, p2, q2, rfl, rfl, rfl, h2, r2⟩ := trodAll_cons r1
  obtain ⟨v3, vs3, d3, ds3, p3, q3, rfl, rfl, rfl, h3, r3⟩ := trodAll_cons r2
  obtain ⟨v4, vs4, d4, ds4, p4, q4, rfl, rfl, rfl, h4, r4⟩ := trodAll_cons r3
  obtain ⟨v5, vs5, d5, ds5, p5, q5, rfl, rfl, rfl, h5, r5⟩ := trodAll_cons r4
  obtain ⟨rfl, rfl, rfl⟩ := trodAll_nil r5
  obtain rfl : args = #[v0, v1, v2, v3, v4, v5] := by cases args; simp_all
  obtain ⟨rfl, rfl⟩ := trodVars_none hV
  obtain ⟨cs0, rfl, sz0⟩ := okWide_struct Tryd.underlying33 (hval 0 33 v0 rfl rfl)
  have k0 := h0
  have lt0 : ∀ x ∈ p0, x.block < W.heap.size := by obtain ⟨m, hm⟩ := k0; exact DataW.trod_lt m _ _ _ hm
  obtain ⟨s0, f0, n0, e0, y0⟩ := open_field sz0 h0
  subst e0
  obtain ⟨cs1, rfl, sz1⟩ := okWide_arrB Tryd.underlying30 (hval 1 30 v1 rfl rfl)
  have k1 := h1
  have lt1 : ∀ x ∈ p1, x.block < W.heap.size := by obtain ⟨m, hm⟩ := k1; exact DataW.trod_lt m _ _ _ hm
  obtain ⟨l1, n1, e1⟩ := open_head sz1 h1
  subst e1
  obtain ⟨a2, rfl, rfl, rfl, w2⟩ := open_int Tryd.underlying3 (hval 2 3 v2 rfl rfl) h2
  obtain ⟨a3, rfl, rfl, rfl, w3⟩ := open_int Tryd.underlying3 (hval 3 3 v3 rfl rfl) h3
  obtain ⟨a4, rfl, rfl, rfl, w4⟩ := open_int Tryd.underlying3 (hval 4 3 v4 rfl rfl) h4
  obtain ⟨a5, rfl, rfl, rfl, w5⟩ := open_int Tryd.underlying3 (hval 5 3 v5 rfl rfl) h5
  clear hA0 hval0
  simp only [List.append_nil] at hW'
  refine (matchLaw_any s0 f0 n0 a2 a3 a4 a5 l1 W n1 y0 hQ).mono fun e W' ⟨he, hb⟩ => ?_
  subst he
  exact ⟨_, rfl, _, _, _, [], _, [], hW', trodAll_mk1 (shut_bool Tryd.underlying4 _), (trodAll_cons_mk (Below.trod Tryd.laidOut (by kernel_rfl) (of_decide_eq_true (by kernel_rfl)) k0 hb lt0) (trodAll_cons_mk (Below.trod Tryd.laidOut (by kernel_rfl) (of_decide_eq_true (by kernel_rfl)) k1 hb lt1) (trodAll_cons_mk (shut_int Tryd.underlying3 w2) (trodAll_cons_mk (shut_int Tryd.underlying3 w3) (trodAll_cons_mk (shut_int Tryd.underlying3 w4) (trodAll_cons_mk (shut_int Tryd.underlying3 w5) trodAll_mk0)))))), rfl, hb.frame _, fun h => by cases h⟩

theorem fmatch_row : Rows.FieldPatternsMatchSaid :=
  OpenClaim.holds_of_wide 6 Tryd.f6 rfl rfl rfl rfl rfl rfl rfl ⟨rfl, rfl, rfl, rfl, rfl⟩ rfl rfl rfl rfl rfl (by kernel_rfl) Tryd.func6 fmatch_facts
    (of_decide_eq_true (by kernel_rfl)) (by unfold Func.isWrapper; first | (rw [if_pos (by decide +kernel)]; kernel_rfl) | (rw [if_neg (by decide +kernel)]; exact ⟨rfl, rfl⟩))
    (fun os started H enc _ => fmatch_lifted os started H enc)
theorem fmatch_wf : Rows.fieldPatternsMatchRow.wfByText (OpenSpec.ofChange Rows.fieldPatternsMatchSpec) = true := by kernel_rfl
theorem fmatch_main : Tryd.prog.mainIs = some (Rows.fieldPatternsMatchCard.stood.harness.1, Rows.fieldPatternsMatchCard.stood.harness.2.toList) := by kernel_rfl
theorem fmatch_looks : false = Tryd.prog.looks [] := by kernel_rfl
theorem fmatch_goes : false = Rows.fieldPatternsMatchRow.goesBy Tryd.prog := by kernel_rfl
theorem fmatch_named : Tryd.prog.funcNamed "interlace/interlacelaw08.FieldPatternsMatch" = some 6 := by kernel_rfl
theorem fmatch_stand : ([33, 30, 3, 3, 3, 3].all fun u => !Tryd.prog.wantsStandIn u) = true := by kernel_rfl
theorem fmatch_at (f : FuncId) (fn : Func) (hf : Tryd.prog.funcNamed "interlace/interlacelaw08.FieldPatternsMatch" = some f) (hfn : Tryd.prog.funcs[f]? = some fn) : false = Tryd.prog.looks [] ∧ ∀ (j : Nat) t, fn.params[j]? = some t → Tryd.prog.wantsStandIn t = false := by
  obtain rfl : f = 6 := Option.some.inj (fmatch_named.symm.trans hf) |>.symm
  obtain rfl : fn = Tryd.f6 := (Option.some.inj (Tryd.func6.symm.trans hfn)).symm
  exact ⟨fmatch_looks, fun j t ht => by
    rw [Tryd.params6] at ht
    have hm : t ∈ [33, 30, 3, 3, 3, 3] := by simpa using Array.mem_of_getElem? ht
    exact (show Tryd.prog.wantsStandIn t = false by simpa using List.all_eq_true.1 fmatch_stand t hm)⟩
theorem fmatch_holds : Rows.FieldPatternsMatchCardSaid :=
  Claim7.holds_tied_plain_at .later [] [.data, .data, .data, .data, .pinned] true _ false
    fmatch_row (fun _ h => by cases h) fmatch_wf (fun _ h => by cases h) fieldPatternsMatch_row_tie rfl ⟨rfl, rfl⟩ fmatch_main rfl fmatch_at fmatch_goes
#print axioms fmatch_holds
end Go.Proofs.YtbgndopgllnmaaaDoor
