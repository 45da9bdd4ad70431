/-
  The statement RatioSolvesAsSpecified of layer 7 holds of the program: Solve, Holds and Refutes return what is specified. Conditions: the tables and the two errors of the library read as Go lays them.
-/
import Derived.Test.YthjaelopmfjfeaaDoorOw
import Derived.Test.YthjaelopmfjfeaaDoorTie
import Derived.Test.YthjaelopmfjfeaaDoorCards
import Derived.SevenTiedAt
import Derived.Test.YthjaelopmfjfeaaDoorZm
namespace Go.Proofs.YthjaelopmfjfeaaDoor
set_option linter.unusedVariables false
set_option linter.unusedSimpArgs false
open Go.ChangeShapes Go.WideShapes Go.ChangeAt Go.RowKit
open Go.ChangeMaps (open_string shut_string)

theorem and_t {a b : Bool} (h : a = true) (k : b = true) : (a && b) = true := by rw [h, k]; rfl
theorem rsolves_k0 : (Rows.ratioSolvesAsSpecifiedRow.wf (OpenSpec.ofChange Rows.ratioSolvesAsSpecifiedSpec)) = true := by kernel_rfl
theorem rsolves_k1 : (laidOutB Tryd.prog) = true := by kernel_rfl
theorem rsolves_k2 : (mapsRowed Tryd.prog) = true := by kernel_rfl
theorem rsolves_k3 : (Tryd.f8.params.all (Tryd.prog.readableRec ·)) = true := by kernel_rfl
theorem rsolves_k4 : (namedTie Tryd.prog Rows.ratioSolvesAsSpecifiedRow.named Rows.ratioSolvesAsSpecifiedSpec.vars) = true := by kernel_rfl
theorem rsolves_k5 : ((Rows.ratioSolvesAsSpecifiedRow.stops == [])) = true := by kernel_rfl
theorem rsolves_k6 : ((Tryd.prog.stops == [])) = true := by kernel_rfl
theorem rsolves_k7 : ((Rows.ratioSolvesAsSpecifiedRow.knobs == [])) = true := by kernel_rfl
theorem rsolves_k8 : ((Tryd.prog.stopKnobs == [])) = true := by kernel_rfl
theorem rsolves_k9 : ((Rows.ratioSolvesAsSpecifiedRow.inPlace == Tryd.prog.inPlace 8)) = true := by kernel_rfl
theorem rsolves_k10 : ((Rows.ratioSolvesAsSpecifiedRow.unfollowed == Tryd.prog.unfollowed 8)) = true := by kernel_rfl
theorem rsolves_k11 : ((Rows.ratioSolvesAsSpecifiedRow.recurses == Tryd.prog.recurses 8)) = true := by kernel_rfl
theorem rsolves_k12 : ((Rows.ratioSolvesAsSpecifiedRow.named == Tryd.prog.varsNamed 8)) = true := by kernel_rfl
theorem rsolves_k13 : ((Rows.ratioSolvesAsSpecifiedRow.maps == (Tryd.f8.params.toList ++ Rows.ratioSolvesAsSpecifiedSpec.plain.varTypes Tryd.prog).any (Tryd.prog.mapsRec ·))) = true := by kernel_rfl
theorem rsolves_k14 : ((Rows.ratioSolvesAsSpecifiedRow.ifaces == (Tryd.f8.params.toList ++ Rows.ratioSolvesAsSpecifiedSpec.plain.varTypes Tryd.prog).any (Tryd.prog.ifacesRec ·))) = true := by kernel_rfl
theorem rsolves_k15 : ((Rows.ratioSolvesAsSpecifiedRow.mapsOut == Tryd.prog.mapsAmong Tryd.f8.resultTypes.toList)) = true := by kernel_rfl
theorem rsolves_k16 : ((Rows.ratioSolvesAsSpecifiedRow.loops == (Tryd.f8.params.toList ++ Rows.ratioSolvesAsSpecifiedSpec.plain.varTypes Tryd.prog).any (Tryd.prog.loopsFrom ·))) = true := by kernel_rfl
theorem rsolves_k17 : ((Rows.ratioSolvesAsSpecifiedRow.wideKeys == (Tryd.f8.params.toList ++ Rows.ratioSolvesAsSpecifiedSpec.plain.varTypes Tryd.prog ++ Tryd.f8.resultTypes.toList).any (Tryd.prog.wideKeysFrom ·))) = true := by kernel_rfl
theorem rsolves_k18 : (Rows.ratioSolvesAsSpecifiedSpec.vars.all (Tryd.prog.varReadable ·)) = true := by kernel_rfl
theorem rsolves_k19 : (Tryd.f8.resultTypes.all (fun t => Tryd.prog.readableRec t && decide (t < Tryd.prog.types.size))) = true := by kernel_rfl
theorem rsolves_k20 : ((Rows.ratioSolvesAsSpecifiedRow.ifacesOut == Tryd.f8.resultTypes.toList.any (Tryd.prog.ifacesRec ·))) = true := by kernel_rfl
theorem rsolves_k21 : ((Rows.ratioSolvesAsSpecifiedRow.loopsOut == Tryd.f8.resultTypes.toList.any (Tryd.prog.loopsFrom ·))) = true := by kernel_rfl
theorem rsolves_k22 : ((Rows.ratioSolvesAsSpecifiedRow.plainKeys == Tryd.prog.plainKeys)) = true := by kernel_rfl
theorem rsolves_k23 : (Rows.ratioSolvesAsSpecifiedRow.shortTexts.isNone) = true := by kernel_rfl
theorem rsolves_k24 : (Tryd.prog.stopsHeard) = true := by kernel_rfl
theorem rsolves_k25 : (Tryd.prog.mayEnter) = true := by kernel_rfl
theorem rsolves_k26 : ((Rows.ratioSolvesAsSpecifiedRow.lifted == Tryd.prog.liftsFinal)) = true := by kernel_rfl
theorem rsolves_k27 : ((Tryd.prog.make == some Rows.ratioSolvesAsSpecifiedRow.make)) = true := by kernel_rfl
theorem rsolves_k28 : ((Rows.ratioSolvesAsSpecifiedRow.kinds == (if Rows.ratioSolvesAsSpecifiedRow.domain.isEmpty then [] else Tryd.f8.params.toList.map fun t => match Tryd.prog.underlying t with | some (.int k) => some k | _ => none))) = true := by kernel_rfl
theorem rsolves_k29 : ((Rows.ratioSolvesAsSpecifiedRow.pinned == Rows.ratioSolvesAsSpecifiedRow.pinnedBy)) = true := by kernel_rfl
theorem rsolves_k30 : ((Rows.ratioSolvesAsSpecifiedRow.veiled == (Tryd.f8.params.toList ++ Rows.ratioSolvesAsSpecifiedSpec.plain.varTypes Tryd.prog ++ Tryd.f8.resultTypes.toList).any (Tryd.prog.veiledRec ·))) = true := by kernel_rfl
theorem rsolves_k31 : (Rows.ratioSolvesAsSpecifiedRow.veiledFits Tryd.prog Tryd.f8.params.toList (Tryd.f8.params.toList ++ Rows.ratioSolvesAsSpecifiedSpec.plain.varTypes Tryd.prog ++ Tryd.f8.resultTypes.toList)) = true := by kernel_rfl
set_option maxRecDepth 100000 in
theorem rsolves_facts : joinedFacts Tryd.prog 8 Tryd.f8 Rows.ratioSolvesAsSpecifiedSpec Rows.ratioSolvesAsSpecifiedRow = true := and_t (and_t (and_t (and_t (and_t (and_t (and_t (and_t (and_t (and_t (and_t (and_t (and_t (and_t (and_t (and_t (and_t (and_t (and_t (and_t (and_t (and_t (and_t (and_t (and_t (and_t (and_t (and_t (and_t (and_t (and_t rsolves_k0 rsolves_k1) rsolves_k2) rsolves_k3) rsolves_k4) rsolves_k5) rsolves_k6) rsolves_k7) rsolves_k8) rsolves_k9) rsolves_k10) rsolves_k11) rsolves_k12) rsolves_k13) rsolves_k14) rsolves_k15) rsolves_k16) rsolves_k17) rsolves_k18) rsolves_k19) rsolves_k20) rsolves_k21) rsolves_k22) rsolves_k23) rsolves_k24) rsolves_k25) rsolves_k26) rsolves_k27) rsolves_k28) rsolves_k29) rsolves_k30) rsolves_k31
set_option maxRecDepth 100000 in
theorem rsolves_lifted (os : Os) (started : os.Started) (H : Type) (enc : TypeId × Value → H) :
    ReturnsInHanded {} Tryd.checked os 8 .any (fun w args => (Rows.ratioSolvesAsSpecifiedSpec.pre enc Tryd.prog Tryd.f8 [] false w args ∧ laidMetH Tryd.prog [("math/bits.deBruijn32tab", Rows.laid_math_bits_deBruijn32tab), ("math/bits.deBruijn64tab", Rows.laid_math_bits_deBruijn64tab), ("internal/strconv.uint64pow10", Rows.laid_internal_strconv_uint64pow10), ("strconv.ErrRange", Rows.laid_strconv_ErrRange), ("strconv.ErrSyntax", Rows.laid_strconv_ErrSyntax)] w) ∧ sizedMet enc Tryd.prog Tryd.f8 (OpenSpec.ofChange Rows.ratioSolvesAsSpecifiedSpec) false w args)
      (Rows.ratioSolvesAsSpecifiedSpec.post enc Tryd.prog Tryd.f8 false true false false) := by
  refine returnsInHanded_of_row (C := Tryd.checked) (s := OpenSpec.ofChange Rows.ratioSolvesAsSpecifiedSpec) (F := fun _ _ _ => 0) Tryd.own started (by kernel_rfl) Tryd.func8
    (ChangeSpec.witness_shaped (enc := enc) (C := Tryd.checked) (os := os) (X := fun w _ => laidMetH Tryd.prog [("math/bits.deBruijn32tab", Rows.laid_math_bits_deBruijn32tab), ("math/bits.deBruijn64tab", Rows.laid_math_bits_deBruijn64tab), ("internal/strconv.uint64pow10", Rows.laid_internal_strconv_uint64pow10), ("strconv.ErrRange", Rows.laid_strconv_ErrRange), ("strconv.ErrSyntax", Rows.laid_strconv_ErrSyntax)] w) false (World.laidAll Tryd.prog os [("math/bits.deBruijn32tab", Rows.laid_math_bits_deBruijn32tab), ("math/bits.deBruijn64tab", Rows.laid_math_bits_deBruijn64tab), ("internal/strconv.uint64pow10", Rows.laid_internal_strconv_uint64pow10), ("strconv.ErrRange", Rows.laid_strconv_ErrRange), ("strconv.ErrSyntax", Rows.laid_strconv_ErrSyntax)]) #[.slice none 0 0, .slice none 0 0, .slice none 0 0, .slice none 0 0] 8 (World.laidAll_os _ _ _) (shaped_laid os _) (by kernel_rfl) (by kernel_rfl) (by kernel_rfl) (laid_met os _)) ?_
  intro W base args ds gs before hval0 hW _ _ hsz0 hL hsh _
  have hQ : QW W := qw_of_laid hL
  have hsz : (DataW.weightsEach Tryd.prog (Tryd.f8.params.toList ++ Rows.ratioSolvesAsSpecifiedSpec.plain.varTypes Tryd.prog) (ds ++ gs)).all (· ≤ reachBytes) = true := hsz0
  clear hsz0 hsh
  have hval : ∀ (j : Nat) t v, Tryd.f8.params[j]? = some t → args[j]? = some v → Value.okWide Tryd.prog W .any base t v := hval0
  have hW' := hW
  obtain ⟨p, q, hA0, hV, rfl, hfz, hnd⟩ := hW
  have hA : DataW.TrodAll enc Tryd.prog W 0 (fun _ => true) true Tryd.f8.params.toList args.toList ds p := hA0
  rw [Tryd.params8] at hA hval hsz
  obtain ⟨v0, vs0, d0, ds0, p0, q0, hargs, rfl, rfl, h0, r0⟩ := trodAll_cons hA
  obtain ⟨v1, vs1, d1, ds1, p1, q1, rfl, rfl, rfl, h1, r1⟩ := trodAll_cons r0
  obtain ⟨v2, vs2, d2, ds2, p2, q2, rfl, rfl, rfl, h2, r2⟩ := trodAll_cons r1
  obtain ⟨v3, vs3, d3, ds3, p3, q3, rfl, rfl, rfl, h3, r3⟩ := trodAll_cons r2
  obtain ⟨rfl, rfl, rfl⟩ := trodAll_nil r3
  obtain rfl : args = #[v0, v1, v2, v3] := by cases args; simp_all
  obtain ⟨rfl, rfl⟩ := trodVars_none hV
  obtain ⟨a0, len0, cap0, rfl, nn0, cc0⟩ := okWide_sliceN Tryd.underlying45 (hval 0 45 v0 rfl rfl)
  have k0 := h0
  have lt0 : ∀ x ∈ p0, x.block < W.heap.size := by obtain ⟨m, hm⟩ := k0; exact DataW.trod_lt m _ _ _ hm
  obtain ⟨l0, e0, H0, G0, L0⟩ := open_rows h0
  have z0 := L0.reach hsz (j := 0) (b := 24) rfl rfl Tryd.underlying45 (by kernel_rfl)
  subst e0
  obtain ⟨a1, len1, cap1, rfl, nn1, cc1⟩ := okWide_sliceN Tryd.underlying40 (hval 1 40 v1 rfl rfl)
  have k1 := h1
  have lt1 : ∀ x ∈ p1, x.block < W.heap.size := by obtain ⟨m, hm⟩ := k1; exact DataW.trod_lt m _ _ _ hm
  obtain ⟨l1, e1, H1, L1⟩ := open_ratios h1
  have z1 := L1.reach hsz (j := 1) (b := 16) rfl rfl Tryd.underlying40 (by kernel_rfl)
  subst e1
  obtain ⟨a2, len2, cap2, rfl, nn2, cc2⟩ := okWide_sliceN Tryd.underlying40 (hval 2 40 v2 rfl rfl)
  have k2 := h2
  have lt2 : ∀ x ∈ p2, x.block < W.heap.size := by obtain ⟨m, hm⟩ := k2; exact DataW.trod_lt m _ _ _ hm
  obtain ⟨l2, e2, H2, L2⟩ := open_ratios h2
  have z2 := L2.reach hsz (j := 2) (b := 16) rfl rfl Tryd.underlying40 (by kernel_rfl)
  subst e2
  obtain ⟨a3, len3, cap3, rfl, nn3, cc3⟩ := okWide_sliceN Tryd.underlying40 (hval 3 40 v3 rfl rfl)
  have k3 := h3
  have lt3 : ∀ x ∈ p3, x.block < W.heap.size := by obtain ⟨m, hm⟩ := k3; exact DataW.trod_lt m _ _ _ hm
  obtain ⟨l3, e3, H3, L3⟩ := open_ratios h3
  have z3 := L3.reach hsz (j := 3) (b := 16) rfl rfl Tryd.underlying40 (by kernel_rfl)
  subst e3
  clear hA0 hval0
  simp only [List.append_nil] at hW'
  refine (solvesLaw_any a0 a1 a2 a3 cap0 cap1 cap2 cap3 l0 l1 l2 l3 W (by omega) (by omega) (by omega) (by omega) cc1 H0 G0 H1 H2 H3 hQ).mono fun e W' ⟨he, hb⟩ => ?_
  subst he
  exact ⟨_, rfl, _, _, _, [], _, [], hW', trodAll_mk1 (shut_bool Tryd.underlying4 _), (trodAll_cons_mk (Below.trod Tryd.laidOut (by kernel_rfl) (of_decide_eq_true (by kernel_rfl)) k0 hb lt0) (trodAll_cons_mk (Below.trod Tryd.laidOut (by kernel_rfl) (of_decide_eq_true (by kernel_rfl)) k1 hb lt1) (trodAll_cons_mk (Below.trod Tryd.laidOut (by kernel_rfl) (of_decide_eq_true (by kernel_rfl)) k2 hb lt2) (trodAll_cons_mk (Below.trod Tryd.laidOut (by kernel_rfl) (of_decide_eq_true (by kernel_rfl)) k3 hb lt3) trodAll_mk0)))), rfl, hb.frame _, fun h => by cases h⟩

theorem rsolves_row : Rows.RatioSolvesAsSpecifiedSaid :=
  OpenClaim.holds_of_wide 8 Tryd.f8 rfl rfl rfl rfl rfl rfl rfl ⟨rfl, rfl, rfl, rfl, rfl⟩ rfl rfl rfl rfl rfl (by kernel_rfl) Tryd.func8 rsolves_facts
    (of_decide_eq_true (by kernel_rfl)) (by unfold Func.isWrapper; first | (rw [if_pos (by decide +kernel)]; kernel_rfl) | (rw [if_neg (by decide +kernel)]; exact ⟨rfl, rfl⟩))
    (fun os started H enc _ => rsolves_lifted os started H enc)
theorem rsolves_wf : Rows.ratioSolvesAsSpecifiedRow.wfByText (OpenSpec.ofChange Rows.ratioSolvesAsSpecifiedSpec) = true := by kernel_rfl
theorem rsolves_main : Tryd.prog.mainIs = some (Rows.ratioSolvesAsSpecifiedCard.stood.harness.1, Rows.ratioSolvesAsSpecifiedCard.stood.harness.2.toList) := by kernel_rfl
theorem rsolves_looks : true = Tryd.prog.looks [] := by kernel_rfl
theorem rsolves_goes : false = Rows.ratioSolvesAsSpecifiedRow.goesBy Tryd.prog := by kernel_rfl
theorem rsolves_named : Tryd.prog.funcNamed "interlace/interlacelaw07.RatioSolvesAsSpecified" = some 8 := by kernel_rfl
theorem rsolves_stand : ([45, 40, 40, 40].all fun u => !Tryd.prog.wantsStandIn u) = true := by kernel_rfl
theorem rsolves_at (f : FuncId) (fn : Func) (hf : Tryd.prog.funcNamed "interlace/interlacelaw07.RatioSolvesAsSpecified" = some f) (hfn : Tryd.prog.funcs[f]? = some fn) : true = Tryd.prog.looks [] ∧ ∀ (j : Nat) t, fn.params[j]? = some t → Tryd.prog.wantsStandIn t = false := by
  obtain rfl : f = 8 := Option.some.inj (rsolves_named.symm.trans hf) |>.symm
  obtain rfl : fn = Tryd.f8 := (Option.some.inj (Tryd.func8.symm.trans hfn)).symm
  exact ⟨rsolves_looks, fun j t ht => by
    rw [Tryd.params8] at ht
    have hm : t ∈ [45, 40, 40, 40] := by simpa using Array.mem_of_getElem? ht
    exact (show Tryd.prog.wantsStandIn t = false by simpa using List.all_eq_true.1 rsolves_stand t hm)⟩
theorem rsolves_holds : Rows.RatioSolvesAsSpecifiedCardSaid :=
  Claim7.holds_tied_plain_at .later [] [.data, .data, .data, .sentinel, .sentinel] true _ true
    rsolves_row (fun _ h => by cases h) rsolves_wf (fun _ h => by cases h) ratioSolvesAsSpecified_row_tie rfl ⟨rfl, rfl⟩ rsolves_main rfl rsolves_at rsolves_goes
#print axioms rsolves_holds
end Go.Proofs.YthjaelopmfjfeaaDoor
