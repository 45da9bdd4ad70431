/-
  The statement RatioMatchesSpec of layer 7 holds of the program: the functions on ratios return what is specified. Conditions: the tables and the two errors of the library read as Go lays them.
-/
import Derived.Test.YthjaelopmfjfeaaDoorOw
import Derived.Test.YthjaelopmfjfeaaDoorTie
import Derived.Test.YthjaelopmfjfeaaDoorCards
import Derived.SevenTiedAt
import Derived.Test.YthjaelopmfjfeaaDoorYg
namespace Go.Proofs.YthjaelopmfjfeaaDoor
set_option linter.unusedVariables false
set_option linter.unusedSimpArgs false
open Go.ChangeShapes Go.WideShapes Go.ChangeAt Go.RowKit
open Go.ChangeMaps (open_string shut_string)

theorem and_t {a b : Bool} (h : a = true) (k : b = true) : (a && b) = true := by rw [h, k]; rfl
theorem rmatch_k0 : (Rows.ratioMatchesSpecRow.wf (OpenSpec.ofChange Rows.ratioMatchesSpecSpec)) = true := by kernel_rfl
theorem rmatch_k1 : (laidOutB Tryd.prog) = true := by kernel_rfl
theorem rmatch_k2 : (mapsRowed Tryd.prog) = true := by kernel_rfl
theorem rmatch_k3 : (Tryd.f3.params.all (Tryd.prog.readableRec ·)) = true := by kernel_rfl
theorem rmatch_k4 : (namedTie Tryd.prog Rows.ratioMatchesSpecRow.named Rows.ratioMatchesSpecSpec.vars) = true := by kernel_rfl
theorem rmatch_k5 : ((Rows.ratioMatchesSpecRow.stops == [])) = true := by kernel_rfl
theorem rmatch_k6 : ((Tryd.prog.stops == [])) = true := by kernel_rfl
theorem rmatch_k7 : ((Rows.ratioMatchesSpecRow.knobs == [])) = true := by kernel_rfl
theorem rmatch_k8 : ((Tryd.prog.stopKnobs == [])) = true := by kernel_rfl
theorem rmatch_k9 : ((Rows.ratioMatchesSpecRow.inPlace == Tryd.prog.inPlace 3)) = true := by kernel_rfl
theorem rmatch_k10 : ((Rows.ratioMatchesSpecRow.unfollowed == Tryd.prog.unfollowed 3)) = true := by kernel_rfl
theorem rmatch_k11 : ((Rows.ratioMatchesSpecRow.recurses == Tryd.prog.recurses 3)) = true := by kernel_rfl
theorem rmatch_k12 : ((Rows.ratioMatchesSpecRow.named == Tryd.prog.varsNamed 3)) = true := by kernel_rfl
theorem rmatch_k13 : ((Rows.ratioMatchesSpecRow.maps == (Tryd.f3.params.toList ++ Rows.ratioMatchesSpecSpec.plain.varTypes Tryd.prog).any (Tryd.prog.mapsRec ·))) = true := by kernel_rfl
theorem rmatch_k14 : ((Rows.ratioMatchesSpecRow.ifaces == (Tryd.f3.params.toList ++ Rows.ratioMatchesSpecSpec.plain.varTypes Tryd.prog).any (Tryd.prog.ifacesRec ·))) = true := by kernel_rfl
theorem rmatch_k15 : ((Rows.ratioMatchesSpecRow.mapsOut == Tryd.prog.mapsAmong Tryd.f3.resultTypes.toList)) = true := by kernel_rfl
theorem rmatch_k16 : ((Rows.ratioMatchesSpecRow.loops == (Tryd.f3.params.toList ++ Rows.ratioMatchesSpecSpec.plain.varTypes Tryd.prog).any (Tryd.prog.loopsFrom ·))) = true := by kernel_rfl
theorem rmatch_k17 : ((Rows.ratioMatchesSpecRow.wideKeys == (Tryd.f3.params.toList ++ Rows.ratioMatchesSpecSpec.plain.varTypes Tryd.prog ++ Tryd.f3.resultTypes.toList).any (Tryd.prog.wideKeysFrom ·))) = true := by kernel_rfl
theorem rmatch_k18 : (Rows.ratioMatchesSpecSpec.vars.all (Tryd.prog.varReadable ·)) = true := by kernel_rfl
theorem rmatch_k19 : (Tryd.f3.resultTypes.all (fun t => Tryd.prog.readableRec t && decide (t < Tryd.prog.types.size))) = true := by kernel_rfl
theorem rmatch_k20 : ((Rows.ratioMatchesSpecRow.ifacesOut == Tryd.f3.resultTypes.toList.any (Tryd.prog.ifacesRec ·))) = true := by kernel_rfl
theorem rmatch_k21 : ((Rows.ratioMatchesSpecRow.loopsOut == Tryd.f3.resultTypes.toList.any (Tryd.prog.loopsFrom ·))) = true := by kernel_rfl
theorem rmatch_k22 : ((Rows.ratioMatchesSpecRow.plainKeys == Tryd.prog.plainKeys)) = true := by kernel_rfl
theorem rmatch_k23 : (Rows.ratioMatchesSpecRow.shortTexts.isNone) = true := by kernel_rfl
theorem rmatch_k24 : (Tryd.prog.stopsHeard) = true := by kernel_rfl
theorem rmatch_k25 : (Tryd.prog.mayEnter) = true := by kernel_rfl
theorem rmatch_k26 : ((Rows.ratioMatchesSpecRow.lifted == Tryd.prog.liftsFinal)) = true := by kernel_rfl
theorem rmatch_k27 : ((Tryd.prog.make == some Rows.ratioMatchesSpecRow.make)) = true := by kernel_rfl
theorem rmatch_k28 : ((Rows.ratioMatchesSpecRow.kinds == (if Rows.ratioMatchesSpecRow.domain.isEmpty then [] else Tryd.f3.params.toList.map fun t => match Tryd.prog.underlying t with | some (.int k) => some k | _ => none))) = true := by kernel_rfl
theorem rmatch_k29 : ((Rows.ratioMatchesSpecRow.pinned == Rows.ratioMatchesSpecRow.pinnedBy)) = true := by kernel_rfl
theorem rmatch_k30 : ((Rows.ratioMatchesSpecRow.veiled == (Tryd.f3.params.toList ++ Rows.ratioMatchesSpecSpec.plain.varTypes Tryd.prog ++ Tryd.f3.resultTypes.toList).any (Tryd.prog.veiledRec ·))) = true := by kernel_rfl
theorem rmatch_k31 : (Rows.ratioMatchesSpecRow.veiledFits Tryd.prog Tryd.f3.params.toList (Tryd.f3.params.toList ++ Rows.ratioMatchesSpecSpec.plain.varTypes Tryd.prog ++ Tryd.f3.resultTypes.toList)) = true := by kernel_rfl
set_option maxRecDepth 100000 in
theorem rmatch_facts : joinedFacts Tryd.prog 3 Tryd.f3 Rows.ratioMatchesSpecSpec Rows.ratioMatchesSpecRow = true := and_t (and_t (and_t (and_t (and_t (and_t (and_t (and_t (and_t (and_t (and_t (and_t (and_t (and_t (and_t (and_t (and_t (and_t (and_t (and_t (and_t (and_t (and_t (and_t (and_t (and_t (and_t (and_t (and_t (and_t (and_t rmatch_k0 rmatch_k1) rmatch_k2) rmatch_k3) rmatch_k4) rmatch_k5) rmatch_k6) rmatch_k7) rmatch_k8) rmatch_k9) rmatch_k10) rmatch_k11) rmatch_k12) rmatch_k13) rmatch_k14) rmatch_k15) rmatch_k16) rmatch_k17) rmatch_k18) rmatch_k19) rmatch_k20) rmatch_k21) rmatch_k22) rmatch_k23) rmatch_k24) rmatch_k25) rmatch_k26) rmatch_k27) rmatch_k28) rmatch_k29) rmatch_k30) rmatch_k31
set_option maxRecDepth 100000 in
theorem rmatch_lifted (os : Os) (started : os.Started) (H : Type) (enc : TypeId × Value → H) :
    ReturnsInHanded {} Tryd.checked os 3 .any (fun w args => (Rows.ratioMatchesSpecSpec.pre enc Tryd.prog Tryd.f3 [] false w args ∧ laidMetH Tryd.prog [("math/bits.deBruijn32tab", Rows.laid_math_bits_deBruijn32tab), ("math/bits.deBruijn64tab", Rows.laid_math_bits_deBruijn64tab), ("internal/strconv.uint64pow10", Rows.laid_internal_strconv_uint64pow10), ("strconv.ErrRange", Rows.laid_strconv_ErrRange), ("strconv.ErrSyntax", Rows.laid_strconv_ErrSyntax)] w) ∧ sizedMet enc Tryd.prog Tryd.f3 (OpenSpec.ofChange Rows.ratioMatchesSpecSpec) false w args)
      (Rows.ratioMatchesSpecSpec.post enc Tryd.prog Tryd.f3 false true false false) := by
  refine returnsInHanded_of_row (C := Tryd.checked) (s := OpenSpec.ofChange Rows.ratioMatchesSpecSpec) (F := fun _ _ _ => 0) Tryd.own started (by kernel_rfl) Tryd.func3
    (ChangeSpec.witness_shaped (enc := enc) (C := Tryd.checked) (os := os) (X := fun w _ => laidMetH Tryd.prog [("math/bits.deBruijn32tab", Rows.laid_math_bits_deBruijn32tab), ("math/bits.deBruijn64tab", Rows.laid_math_bits_deBruijn64tab), ("internal/strconv.uint64pow10", Rows.laid_internal_strconv_uint64pow10), ("strconv.ErrRange", Rows.laid_strconv_ErrRange), ("strconv.ErrSyntax", Rows.laid_strconv_ErrSyntax)] w) false (World.laidAll Tryd.prog os [("math/bits.deBruijn32tab", Rows.laid_math_bits_deBruijn32tab), ("math/bits.deBruijn64tab", Rows.laid_math_bits_deBruijn64tab), ("internal/strconv.uint64pow10", Rows.laid_internal_strconv_uint64pow10), ("strconv.ErrRange", Rows.laid_strconv_ErrRange), ("strconv.ErrSyntax", Rows.laid_strconv_ErrSyntax)]) #[.agg #[.int .i64 0, .int .i64 0], .agg #[.int .i64 0, .int .i64 0], .agg #[.int .i64 0, .int .i64 0], .int .i64 0, .int .i64 0, .string ByteArray.empty] 8 (World.laidAll_os _ _ _) (shaped_laid os _) (by kernel_rfl) (by kernel_rfl) (by kernel_rfl) (laid_met os _)) ?_
  intro W base args ds gs before hval0 hW _ _ hsz0 hL hsh _
  have hQ : QW W := qw_of_laid hL
  have hsz : (DataW.weightsEach Tryd.prog (Tryd.f3.params.toList ++ Rows.ratioMatchesSpecSpec.plain.varTypes Tryd.prog) (ds ++ gs)).all (· ≤ reachBytes) = true := hsz0
  clear hsz0 hsh
  have hval : ∀ (j : Nat) t v, Tryd.f3.params[j]? = some t → args[j]? = some v → Value.okWide Tryd.prog W .any base t v := hval0
  have hW' := hW
  obtain ⟨p, q, hA0, hV, rfl, hfz, hnd⟩ := hW
  have hA : DataW.TrodAll enc Tryd.prog W 0 (fun _ => true) true Tryd.f3.params.toList args.toList ds p := hA0
  rw [Tryd.params3] at hA hval hsz
  obtain ⟨v0, vs0, d0, ds0, p0, q0, hargs, rfl, rfl, h0, r0⟩ := trodAll_cons hA
  obtain ⟨v1, vs1, d1, ds1, p1, q1, rfl, rfl, rfl, h1, r1⟩ := trodAll_cons r0
  obtain ⟨v2, vs2, d2, ds2, p2, q2, rfl, rfl, rfl, h2, r2⟩ := trodAll_cons r1
  obtain ⟨v3, vs3, d3, ds3, p3, q3, rfl, rfl, rfl, h3, r3⟩ := trodAll_cons r2
  obtain ⟨v4, vs4, d4, ds4, p4, q4, rfl, rfl, rfl, h4, r4⟩ := trodAll_cons r3
  obtain ⟨v5, vs5, d5, ds5, p5, q5, rfl, rfl, rfl, h5, r5⟩ := trodAll_cons r4
  obtain ⟨rfl, rfl, rfl⟩ := trodAll_nil r5
  obtain rfl : args = #[v0, v1, v2, v3, v4, v5] := by cases args; simp_all
  obtain ⟨rfl, rfl⟩ := trodVars_none hV
  obtain ⟨cs0, rfl, sz0⟩ := okWide_struct Tryd.underlying23 (hval 0 23 v0 rfl rfl)
  have k0 := h0
  have lt0 : ∀ x ∈ p0, x.block < W.heap.size := by obtain ⟨m, hm⟩ := k0; exact DataW.trod_lt m _ _ _ hm
  obtain ⟨n0, d0', e0⟩ := open_ratio sz0 h0
  subst e0
  obtain ⟨cs1, rfl, sz1⟩ := okWide_struct Tryd.underlying23 (hval 1 23 v1 rfl rfl)
  have k1 := h1
  have lt1 : ∀ x ∈ p1, x.block < W.heap.size := by obtain ⟨m, hm⟩ := k1; exact DataW.trod_lt m _ _ _ hm
  obtain ⟨n1, d1', e1⟩ := open_ratio sz1 h1
  subst e1
  obtain ⟨cs2, rfl, sz2⟩ := okWide_struct Tryd.underlying23 (hval 2 23 v2 rfl rfl)
  have k2 := h2
  have lt2 : ∀ x ∈ p2, x.block < W.heap.size := by obtain ⟨m, hm⟩ := k2; exact DataW.trod_lt m _ _ _ hm
  obtain ⟨n2, d2', e2⟩ := open_ratio sz2 h2
  subst e2
  obtain ⟨a3, rfl, rfl, rfl, w3⟩ := open_int Tryd.underlying3 (hval 3 3 v3 rfl rfl) h3
  obtain ⟨a4, rfl, rfl, rfl, w4⟩ := open_int Tryd.underlying3 (hval 4 3 v4 rfl rfl) h4
  obtain ⟨s5, rfl, rfl, rfl, w5⟩ := open_string Tryd.underlying9 (hval 5 9 v5 rfl rfl) h5
  have z5 : s5.size ≤ 140737488351232 := by
    have := sized_string hsz (j := 5) rfl rfl
    rw [bytes_size] at this
    exact this
  clear hA0 hval0
  simp only [List.append_nil] at hW'
  refine (matchLaw_any n0 d0' n1 d1' n2 d2' a3 a4 s5 W (wrap_lit w3) (wrap_lit w4) (by omega) hQ).mono fun e W' ⟨he, hb⟩ => ?_
  subst he
  exact ⟨_, rfl, _, _, _, [], _, [], hW', trodAll_mk1 (shut_bool Tryd.underlying4 _), (trodAll_cons_mk (Below.trod Tryd.laidOut (by kernel_rfl) (of_decide_eq_true (by kernel_rfl)) k0 hb lt0) (trodAll_cons_mk (Below.trod Tryd.laidOut (by kernel_rfl) (of_decide_eq_true (by kernel_rfl)) k1 hb lt1) (trodAll_cons_mk (Below.trod Tryd.laidOut (by kernel_rfl) (of_decide_eq_true (by kernel_rfl)) k2 hb lt2) (trodAll_cons_mk (shut_int Tryd.underlying3 w3) (trodAll_cons_mk (shut_int Tryd.underlying3 w4) (trodAll_cons_mk (shut_string Tryd.underlying9 w5) trodAll_mk0)))))), rfl, hb.frame _, fun h => by cases h⟩

theorem rmatch_row : Rows.RatioMatchesSpecSaid :=
  OpenClaim.holds_of_wide 3 Tryd.f3 rfl rfl rfl rfl rfl rfl rfl ⟨rfl, rfl, rfl, rfl, rfl⟩ rfl rfl rfl rfl rfl (by kernel_rfl) Tryd.func3 rmatch_facts
    (of_decide_eq_true (by kernel_rfl)) (by unfold Func.isWrapper; first | (rw [if_pos (by decide +kernel)]; kernel_rfl) | (rw [if_neg (by decide +kernel)]; exact ⟨rfl, rfl⟩))
    (fun os started H enc _ => rmatch_lifted os started H enc)
theorem rmatch_wf : Rows.ratioMatchesSpecRow.wfByText (OpenSpec.ofChange Rows.ratioMatchesSpecSpec) = true := by kernel_rfl
theorem rmatch_main : Tryd.prog.mainIs = some (Rows.ratioMatchesSpecCard.stood.harness.1, Rows.ratioMatchesSpecCard.stood.harness.2.toList) := by kernel_rfl
theorem rmatch_looks : true = Tryd.prog.looks [] := by kernel_rfl
theorem rmatch_goes : false = Rows.ratioMatchesSpecRow.goesBy Tryd.prog := by kernel_rfl
theorem rmatch_named : Tryd.prog.funcNamed "interlace/interlacelaw07.RatioMatchesSpec" = some 3 := by kernel_rfl
theorem rmatch_stand : ([23, 23, 23, 3, 3, 9].all fun u => !Tryd.prog.wantsStandIn u) = true := by kernel_rfl
theorem rmatch_at (f : FuncId) (fn : Func) (hf : Tryd.prog.funcNamed "interlace/interlacelaw07.RatioMatchesSpec" = some f) (hfn : Tryd.prog.funcs[f]? = some fn) : true = Tryd.prog.looks [] ∧ ∀ (j : Nat) t, fn.params[j]? = some t → Tryd.prog.wantsStandIn t = false := by
  obtain rfl : f = 3 := Option.some.inj (rmatch_named.symm.trans hf) |>.symm
  obtain rfl : fn = Tryd.f3 := (Option.some.inj (Tryd.func3.symm.trans hfn)).symm
  exact ⟨rmatch_looks, fun j t ht => by
    rw [Tryd.params3] at ht
    have hm : t ∈ [23, 23, 23, 3, 3, 9] := by simpa using Array.mem_of_getElem? ht
    exact (show Tryd.prog.wantsStandIn t = false by simpa using List.all_eq_true.1 rmatch_stand t hm)⟩
theorem rmatch_holds : Rows.RatioMatchesSpecCardSaid :=
  Claim7.holds_tied_plain_at .later [] [.data, .data, .data, .sentinel, .sentinel] true _ true
    rmatch_row (fun _ h => by cases h) rmatch_wf (fun _ h => by cases h) ratioMatchesSpec_row_tie rfl ⟨rfl, rfl⟩ rmatch_main rfl rmatch_at rmatch_goes
#print axioms rmatch_holds
end Go.Proofs.YthjaelopmfjfeaaDoor
