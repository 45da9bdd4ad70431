/-
  The statement RatioTextsAreOne of layer 7 holds of the program: Parse of Text is the ratio, and what Parse takes has that Text. Conditions: the tables and the two errors of the library read as Go lays them.
-/
import Derived.Test.YthjaelopmfjfeaaDoorOw
import Derived.Test.YthjaelopmfjfeaaDoorTie
import Derived.Test.YthjaelopmfjfeaaDoorCards
import Derived.SevenTiedAt
import Derived.Test.YthjaelopmfjfeaaDoorYf
namespace Go.Proofs.YthjaelopmfjfeaaDoor
set_option linter.unusedVariables false
set_option linter.unusedSimpArgs false
open Go.ChangeShapes Go.WideShapes Go.ChangeAt Go.RowKit
open Go.ChangeMaps (open_string shut_string)

theorem and_t {a b : Bool} (h : a = true) (k : b = true) : (a && b) = true := by rw [h, k]; rfl
theorem rtexts_k0 : (Rows.ratioTextsAreOneRow.wf (OpenSpec.ofChange Rows.ratioTextsAreOneSpec)) = true := by kernel_rfl
theorem rtexts_k1 : (laidOutB Tryd.prog) = true := by kernel_rfl
theorem rtexts_k2 : (mapsRowed Tryd.prog) = true := by kernel_rfl
theorem rtexts_k3 : (Tryd.f6.params.all (Tryd.prog.readableRec ·)) = true := by kernel_rfl
theorem rtexts_k4 : (namedTie Tryd.prog Rows.ratioTextsAreOneRow.named Rows.ratioTextsAreOneSpec.vars) = true := by kernel_rfl
theorem rtexts_k5 : ((Rows.ratioTextsAreOneRow.stops == [])) = true := by kernel_rfl
theorem rtexts_k6 : ((Tryd.prog.stops == [])) = true := by kernel_rfl
theorem rtexts_k7 : ((Rows.ratioTextsAreOneRow.knobs == [])) = true := by kernel_rfl
theorem rtexts_k8 : ((Tryd.prog.stopKnobs == [])) = true := by kernel_rfl
theorem rtexts_k9 : ((Rows.ratioTextsAreOneRow.inPlace == Tryd.prog.inPlace 6)) = true := by kernel_rfl
theorem rtexts_k10 : ((Rows.ratioTextsAreOneRow.unfollowed == Tryd.prog.unfollowed 6)) = true := by kernel_rfl
theorem rtexts_k11 : ((Rows.ratioTextsAreOneRow.recurses == Tryd.prog.recurses 6)) = true := by kernel_rfl
theorem rtexts_k12 : ((Rows.ratioTextsAreOneRow.named == Tryd.prog.varsNamed 6)) = true := by kernel_rfl
theorem rtexts_k13 : ((Rows.ratioTextsAreOneRow.maps == (Tryd.f6.params.toList ++ Rows.ratioTextsAreOneSpec.plain.varTypes Tryd.prog).any (Tryd.prog.mapsRec ·))) = true := by kernel_rfl
theorem rtexts_k14 : ((Rows.ratioTextsAreOneRow.ifaces == (Tryd.f6.params.toList ++ Rows.ratioTextsAreOneSpec.plain.varTypes Tryd.prog).any (Tryd.prog.ifacesRec ·))) = true := by kernel_rfl
theorem rtexts_k15 : ((Rows.ratioTextsAreOneRow.mapsOut == Tryd.prog.mapsAmong Tryd.f6.resultTypes.toList)) = true := by kernel_rfl
theorem rtexts_k16 : ((Rows.ratioTextsAreOneRow.loops == (Tryd.f6.params.toList ++ Rows.ratioTextsAreOneSpec.plain.varTypes Tryd.prog).any (Tryd.prog.loopsFrom ·))) = true := by kernel_rfl
theorem rtexts_k17 : ((Rows.ratioTextsAreOneRow.wideKeys == (Tryd.f6.params.toList ++ Rows.ratioTextsAreOneSpec.plain.varTypes Tryd.prog ++ Tryd.f6.resultTypes.toList).any (Tryd.prog.wideKeysFrom ·))) = true := by kernel_rfl
theorem rtexts_k18 : (Rows.ratioTextsAreOneSpec.vars.all (Tryd.prog.varReadable ·)) = true := by kernel_rfl
theorem rtexts_k19 : (Tryd.f6.resultTypes.all (fun t => Tryd.prog.readableRec t && decide (t < Tryd.prog.types.size))) = true := by kernel_rfl
theorem rtexts_k20 : ((Rows.ratioTextsAreOneRow.ifacesOut == Tryd.f6.resultTypes.toList.any (Tryd.prog.ifacesRec ·))) = true := by kernel_rfl
theorem rtexts_k21 : ((Rows.ratioTextsAreOneRow.loopsOut == Tryd.f6.resultTypes.toList.any (Tryd.prog.loopsFrom ·))) = true := by kernel_rfl
theorem rtexts_k22 : ((Rows.ratioTextsAreOneRow.plainKeys == Tryd.prog.plainKeys)) = true := by kernel_rfl
theorem rtexts_k23 : (Rows.ratioTextsAreOneRow.shortTexts.isNone) = true := by kernel_rfl
theorem rtexts_k24 : (Tryd.prog.stopsHeard) = true := by kernel_rfl
theorem rtexts_k25 : (Tryd.prog.mayEnter) = true := by kernel_rfl
theorem rtexts_k26 : ((Rows.ratioTextsAreOneRow.lifted == Tryd.prog.liftsFinal)) = true := by kernel_rfl
theorem rtexts_k27 : ((Tryd.prog.make == some Rows.ratioTextsAreOneRow.make)) = true := by kernel_rfl
theorem rtexts_k28 : ((Rows.ratioTextsAreOneRow.kinds == (if Rows.ratioTextsAreOneRow.domain.isEmpty then [] else Tryd.f6.params.toList.map fun t => match Tryd.prog.underlying t with | some (.int k) => some k | _ => none))) = true := by kernel_rfl
theorem rtexts_k29 : ((Rows.ratioTextsAreOneRow.pinned == Rows.ratioTextsAreOneRow.pinnedBy)) = true := by kernel_rfl
theorem rtexts_k30 : ((Rows.ratioTextsAreOneRow.veiled == (Tryd.f6.params.toList ++ Rows.ratioTextsAreOneSpec.plain.varTypes Tryd.prog ++ Tryd.f6.resultTypes.toList).any (Tryd.prog.veiledRec ·))) = true := by kernel_rfl
theorem rtexts_k31 : (Rows.ratioTextsAreOneRow.veiledFits Tryd.prog Tryd.f6.params.toList (Tryd.f6.params.toList ++ Rows.ratioTextsAreOneSpec.plain.varTypes Tryd.prog ++ Tryd.f6.resultTypes.toList)) = true := by kernel_rfl
set_option maxRecDepth 100000 in
theorem rtexts_facts : joinedFacts Tryd.prog 6 Tryd.f6 Rows.ratioTextsAreOneSpec Rows.ratioTextsAreOneRow = true := and_t (and_t (and_t (and_t (and_t (and_t (and_t (and_t (and_t (and_t (and_t (and_t (and_t (and_t (and_t (and_t (and_t (and_t (and_t (and_t (and_t (and_t (and_t (and_t (and_t (and_t (and_t (and_t (and_t (and_t (and_t rtexts_k0 rtexts_k1) rtexts_k2) rtexts_k3) rtexts_k4) rtexts_k5) rtexts_k6) rtexts_k7) rtexts_k8) rtexts_k9) rtexts_k10) rtexts_k11) rtexts_k12) rtexts_k13) rtexts_k14) rtexts_k15) rtexts_k16) rtexts_k17) rtexts_k18) rtexts_k19) rtexts_k20) rtexts_k21) rtexts_k22) rtexts_k23) rtexts_k24) rtexts_k25) rtexts_k26) rtexts_k27) rtexts_k28) rtexts_k29) rtexts_k30) rtexts_k31
set_option maxRecDepth 100000 in
theorem rtexts_lifted (os : Os) (started : os.Started) (H : Type) (enc : TypeId × Value → H) :
    ReturnsInHanded {} Tryd.checked os 6 .any (fun w args => (Rows.ratioTextsAreOneSpec.pre enc Tryd.prog Tryd.f6 [] false w args ∧ laidMetH Tryd.prog [("math/bits.deBruijn32tab", Rows.laid_math_bits_deBruijn32tab), ("math/bits.deBruijn64tab", Rows.laid_math_bits_deBruijn64tab), ("internal/strconv.uint64pow10", Rows.laid_internal_strconv_uint64pow10), ("strconv.ErrRange", Rows.laid_strconv_ErrRange), ("strconv.ErrSyntax", Rows.laid_strconv_ErrSyntax)] w) ∧ sizedMet enc Tryd.prog Tryd.f6 (OpenSpec.ofChange Rows.ratioTextsAreOneSpec) false w args)
      (Rows.ratioTextsAreOneSpec.post enc Tryd.prog Tryd.f6 false true false false) := by
  refine returnsInHanded_of_row (C := Tryd.checked) (s := OpenSpec.ofChange Rows.ratioTextsAreOneSpec) (F := fun _ _ _ => 0) Tryd.own started (by kernel_rfl) Tryd.func6
    (ChangeSpec.witness_shaped (enc := enc) (C := Tryd.checked) (os := os) (X := fun w _ => laidMetH Tryd.prog [("math/bits.deBruijn32tab", Rows.laid_math_bits_deBruijn32tab), ("math/bits.deBruijn64tab", Rows.laid_math_bits_deBruijn64tab), ("internal/strconv.uint64pow10", Rows.laid_internal_strconv_uint64pow10), ("strconv.ErrRange", Rows.laid_strconv_ErrRange), ("strconv.ErrSyntax", Rows.laid_strconv_ErrSyntax)] w) false (World.laidAll Tryd.prog os [("math/bits.deBruijn32tab", Rows.laid_math_bits_deBruijn32tab), ("math/bits.deBruijn64tab", Rows.laid_math_bits_deBruijn64tab), ("internal/strconv.uint64pow10", Rows.laid_internal_strconv_uint64pow10), ("strconv.ErrRange", Rows.laid_strconv_ErrRange), ("strconv.ErrSyntax", Rows.laid_strconv_ErrSyntax)]) #[.agg #[.int .i64 0, .int .i64 0], .string ByteArray.empty] 8 (World.laidAll_os _ _ _) (shaped_laid os _) (by kernel_rfl) (by kernel_rfl) (by kernel_rfl) (laid_met os _)) ?_
  intro W base args ds gs before hval0 hW _ _ hsz0 hL hsh _
  have hQ : QW W := qw_of_laid hL
  have hsz : (DataW.weightsEach Tryd.prog (Tryd.f6.params.toList ++ Rows.ratioTextsAreOneSpec.plain.varTypes Tryd.prog) (ds ++ gs)).all (· ≤ reachBytes) = true := hsz0
  clear hsz0 hsh
  have hval : ∀ (j : Nat) t v, Tryd.f6.params[j]? = some t → args[j]? = some v → Value.okWide Tryd.prog W .any base t v := hval0
  have hW' := hW
  obtain ⟨p, q, hA0, hV, rfl, hfz, hnd⟩ := hW
  have hA : DataW.TrodAll enc Tryd.prog W 0 (fun _ => true) true Tryd.f6.params.toList args.toList ds p := hA0
  rw [Tryd.params6] at hA hval hsz
  obtain ⟨v0, vs0, d0, ds0, p0, q0, hargs, rfl, rfl, h0, r0⟩ := trodAll_cons hA
  obtain ⟨v1, vs1, d1, ds1, p1, q1, rfl, rfl, rfl, h1, r1⟩ := trodAll_cons r0
  obtain ⟨rfl, rfl, rfl⟩ := trodAll_nil r1
  obtain rfl : args = #[v0, v1] := by cases args; simp_all
  obtain ⟨rfl, rfl⟩ := trodVars_none hV
  obtain ⟨cs0, rfl, sz0⟩ := okWide_struct Tryd.underlying23 (hval 0 23 v0 rfl rfl)
  have k0 := h0
  have lt0 : ∀ x ∈ p0, x.block < W.heap.size := by obtain ⟨m, hm⟩ := k0; exact DataW.trod_lt m _ _ _ hm
  obtain ⟨n0, d0', e0⟩ := open_ratio sz0 h0
  subst e0
  obtain ⟨s1, rfl, rfl, rfl, w1⟩ := open_string Tryd.underlying9 (hval 1 9 v1 rfl rfl) h1
  have z1 : s1.size ≤ 140737488351232 := by
    have := sized_string hsz (j := 1) rfl rfl
    rw [bytes_size] at this
    exact this
  clear hA0 hval0
  simp only [List.append_nil] at hW'
  refine (textsLaw_any n0 d0' s1 W (by omega) hQ).mono fun e W' ⟨he, hb⟩ => ?_
  subst he
  exact ⟨_, rfl, _, _, _, [], _, [], hW', trodAll_mk1 (shut_bool Tryd.underlying4 _), (trodAll_cons_mk (Below.trod Tryd.laidOut (by kernel_rfl) (of_decide_eq_true (by kernel_rfl)) k0 hb lt0) (trodAll_cons_mk (shut_string Tryd.underlying9 w1) trodAll_mk0)), rfl, hb.frame _, fun h => by cases h⟩

theorem rtexts_row : Rows.RatioTextsAreOneSaid :=
  OpenClaim.holds_of_wide 6 Tryd.f6 rfl rfl rfl rfl rfl rfl rfl ⟨rfl, rfl, rfl, rfl, rfl⟩ rfl rfl rfl rfl rfl (by kernel_rfl) Tryd.func6 rtexts_facts
    (of_decide_eq_true (by kernel_rfl)) (by unfold Func.isWrapper; first | (rw [if_pos (by decide +kernel)]; kernel_rfl) | (rw [if_neg (by decide +kernel)]; exact ⟨rfl, rfl⟩))
    (fun os started H enc _ => rtexts_lifted os started H enc)
theorem rtexts_wf : Rows.ratioTextsAreOneRow.wfByText (OpenSpec.ofChange Rows.ratioTextsAreOneSpec) = true := by kernel_rfl
theorem rtexts_main : Tryd.prog.mainIs = some (Rows.ratioTextsAreOneCard.stood.harness.1, Rows.ratioTextsAreOneCard.stood.harness.2.toList) := by kernel_rfl
theorem rtexts_looks : true = Tryd.prog.looks [] := by kernel_rfl
theorem rtexts_goes : false = Rows.ratioTextsAreOneRow.goesBy Tryd.prog := by kernel_rfl
theorem rtexts_named : Tryd.prog.funcNamed "interlace/interlacelaw07.RatioTextsAreOne" = some 6 := by kernel_rfl
theorem rtexts_stand : ([23, 9].all fun u => !Tryd.prog.wantsStandIn u) = true := by kernel_rfl
theorem rtexts_at (f : FuncId) (fn : Func) (hf : Tryd.prog.funcNamed "interlace/interlacelaw07.RatioTextsAreOne" = some f) (hfn : Tryd.prog.funcs[f]? = some fn) : true = Tryd.prog.looks [] ∧ ∀ (j : Nat) t, fn.params[j]? = some t → Tryd.prog.wantsStandIn t = false := by
  obtain rfl : f = 6 := Option.some.inj (rtexts_named.symm.trans hf) |>.symm
  obtain rfl : fn = Tryd.f6 := (Option.some.inj (Tryd.func6.symm.trans hfn)).symm
  exact ⟨rtexts_looks, fun j t ht => by
    rw [Tryd.params6] at ht
    have hm : t ∈ [23, 9] := by simpa using Array.mem_of_getElem? ht
    exact (show Tryd.prog.wantsStandIn t = false by simpa using List.all_eq_true.1 rtexts_stand t hm)⟩
theorem rtexts_holds : Rows.RatioTextsAreOneCardSaid :=
  Claim7.holds_tied_plain_at .later [] [.data, .data, .data, .sentinel, .sentinel] true _ true
    rtexts_row (fun _ h => by cases h) rtexts_wf (fun _ h => by cases h) ratioTextsAreOne_row_tie rfl ⟨rfl, rfl⟩ rtexts_main rfl rtexts_at rtexts_goes
#print axioms rtexts_holds
end Go.Proofs.YthjaelopmfjfeaaDoor
