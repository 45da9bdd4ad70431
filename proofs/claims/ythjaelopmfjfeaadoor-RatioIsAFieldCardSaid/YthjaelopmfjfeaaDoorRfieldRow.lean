/-
  The statement RatioIsAField of layer 7 holds of the program: ratios calculate like rational numbers as far as no result is too large. Conditions: the tables and the two errors of the library read as Go lays them.
-/
import Derived.Test.YthjaelopmfjfeaaDoorOw
import Derived.Test.YthjaelopmfjfeaaDoorTie
import Derived.Test.YthjaelopmfjfeaaDoorCards
import Derived.SevenTiedAt
import Derived.Test.YthjaelopmfjfeaaDoorYj
namespace Go.Proofs.YthjaelopmfjfeaaDoor
set_option linter.unusedVariables false
set_option linter.unusedSimpArgs false
open Go.ChangeShapes Go.WideShapes Go.ChangeAt Go.RowKit
open Go.ChangeMaps (open_string shut_string)

theorem and_t {a b : Bool} (h : a = true) (k : b = true) : (a && b) = true := by rw [h, k]; rfl
theorem rfield_k0 : (Rows.ratioIsAFieldRow.wf (OpenSpec.ofChange Rows.ratioIsAFieldSpec)) = true := by kernel_rfl
theorem rfield_k1 : (laidOutB Tryd.prog) = true := by kernel_rfl
theorem rfield_k2 : (mapsRowed Tryd.prog) = true := by kernel_rfl
theorem rfield_k3 : (Tryd.f4.params.all (Tryd.prog.readableRec ·)) = true := by kernel_rfl
theorem rfield_k4 : (namedTie Tryd.prog Rows.ratioIsAFieldRow.named Rows.ratioIsAFieldSpec.vars) = true := by kernel_rfl
theorem rfield_k5 : ((Rows.ratioIsAFieldRow.stops == [])) = true := by kernel_rfl
theorem rfield_k6 : ((Tryd.prog.stops == [])) = true := by kernel_rfl
theorem rfield_k7 : ((Rows.ratioIsAFieldRow.knobs == [])) = true := by kernel_rfl
theorem rfield_k8 : ((Tryd.prog.stopKnobs == [])) = true := by kernel_rfl
theorem rfield_k9 : ((Rows.ratioIsAFieldRow.inPlace == Tryd.prog.inPlace 4)) = true := by kernel_rfl
theorem rfield_k10 : ((Rows.ratioIsAFieldRow.unfollowed == Tryd.prog.unfollowed 4)) = true := by kernel_rfl
theorem rfield_k11 : ((Rows.ratioIsAFieldRow.recurses == Tryd.prog.recurses 4)) = true := by kernel_rfl
theorem rfield_k12 : ((Rows.ratioIsAFieldRow.named == Tryd.prog.varsNamed 4)) = true := by kernel_rfl
theorem rfield_k13 : ((Rows.ratioIsAFieldRow.maps == (Tryd.f4.params.toList ++ Rows.ratioIsAFieldSpec.plain.varTypes Tryd.prog).any (Tryd.prog.mapsRec ·))) = true := by kernel_rfl
theorem rfield_k14 : ((Rows.ratioIsAFieldRow.ifaces == (Tryd.f4.params.toList ++ Rows.ratioIsAFieldSpec.plain.varTypes Tryd.prog).any (Tryd.prog.ifacesRec ·))) = true := by kernel_rfl
theorem rfield_k15 : ((Rows.ratioIsAFieldRow.mapsOut == Tryd.prog.mapsAmong Tryd.f4.resultTypes.toList)) = true := by kernel_rfl
theorem rfield_k16 : ((Rows.ratioIsAFieldRow.loops == (Tryd.f4.params.toList ++ Rows.ratioIsAFieldSpec.plain.varTypes Tryd.prog).any (Tryd.prog.loopsFrom ·))) = true := by kernel_rfl
theorem rfield_k17 : ((Rows.ratioIsAFieldRow.wideKeys == (Tryd.f4.params.toList ++ Rows.ratioIsAFieldSpec.plain.varTypes Tryd.prog ++ Tryd.f4.resultTypes.toList).any (Tryd.prog.wideKeysFrom ·))) = true := by kernel_rfl
theorem rfield_k18 : (Rows.ratioIsAFieldSpec.vars.all (Tryd.prog.varReadable ·)) = true := by kernel_rfl
theorem rfield_k19 : (Tryd.f4.resultTypes.all (fun t => Tryd.prog.readableRec t && decide (t < Tryd.prog.types.size))) = true := by kernel_rfl
theorem rfield_k20 : ((Rows.ratioIsAFieldRow.ifacesOut == Tryd.f4.resultTypes.toList.any (Tryd.prog.ifacesRec ·))) = true := by kernel_rfl
theorem rfield_k21 : ((Rows.ratioIsAFieldRow.loopsOut == Tryd.f4.resultTypes.toList.any (Tryd.prog.loopsFrom ·))) = true := by kernel_rfl
theorem rfield_k22 : ((Rows.ratioIsAFieldRow.plainKeys == Tryd.prog.plainKeys)) = true := by kernel_rfl
theorem rfield_k23 : (Rows.ratioIsAFieldRow.shortTexts.isNone) = true := by kernel_rfl
theorem rfield_k24 : (Tryd.prog.stopsHeard) = true := by kernel_rfl
theorem rfield_k25 : (Tryd.prog.mayEnter) = true := by kernel_rfl
theorem rfield_k26 : ((Rows.ratioIsAFieldRow.lifted == Tryd.prog.liftsFinal)) = true := by kernel_rfl
theorem rfield_k27 : ((Tryd.prog.make == some Rows.ratioIsAFieldRow.make)) = true := by kernel_rfl
theorem rfield_k28 : ((Rows.ratioIsAFieldRow.kinds == (if Rows.ratioIsAFieldRow.domain.isEmpty then [] else Tryd.f4.params.toList.map fun t => match Tryd.prog.underlying t with | some (.int k) => some k | _ => none))) = true := by kernel_rfl
theorem rfield_k29 : ((Rows.ratioIsAFieldRow.pinned == Rows.ratioIsAFieldRow.pinnedBy)) = true := by kernel_rfl
theorem rfield_k30 : ((Rows.ratioIsAFieldRow.veiled == (Tryd.f4.params.toList ++ Rows.ratioIsAFieldSpec.plain.varTypes Tryd.prog ++ Tryd.f4.resultTypes.toList).any (Tryd.prog.veiledRec ·))) = true := by kernel_rfl
theorem rfield_k31 : (Rows.ratioIsAFieldRow.veiledFits Tryd.prog Tryd.f4.params.toList (Tryd.f4.params.toList ++ Rows.ratioIsAFieldSpec.plain.varTypes Tryd.prog ++ Tryd.f4.resultTypes.toList)) = true := by kernel_rfl
set_option maxRecDepth 100000 in
theorem rfield_facts : joinedFacts Tryd.prog 4 Tryd.f4 Rows.ratioIsAFieldSpec Rows.ratioIsAFieldRow = true := and_t (and_t (and_t (and_t (and_t (and_t (and_t (and_t (and_t (and_t (and_t (and_t (and_t (and_t (and_t (and_t (and_t (and_t (and_t (and_t (and_t (and_t (and_t (and_t (and_t (and_t (and_t (and_t (and_t (and_t (and_t rfield_k0 rfield_k1) rfield_k2) rfield_k3) rfield_k4) rfield_k5) rfield_k6) rfield_k7) rfield_k8) rfield_k9) rfield_k10) rfield_k11) rfield_k12) rfield_k13) rfield_k14) rfield_k15) rfield_k16) rfield_k17) rfield_k18) rfield_k19) rfield_k20) rfield_k21) rfield_k22) rfield_k23) rfield_k24) rfield_k25) rfield_k26) rfield_k27) rfield_k28) rfield_k29) rfield_k30) rfield_k31
set_option maxRecDepth 100000 in
theorem rfield_lifted (os : Os) (started : os.Started) (H : Type) (enc : TypeId × Value → H) :
    ReturnsInHanded {} Tryd.checked os 4 .any (fun w args => (Rows.ratioIsAFieldSpec.pre enc Tryd.prog Tryd.f4 [] false w args ∧ laidMetH Tryd.prog [("math/bits.deBruijn32tab", Rows.laid_math_bits_deBruijn32tab), ("math/bits.deBruijn64tab", Rows.laid_math_bits_deBruijn64tab), ("internal/strconv.uint64pow10", Rows.laid_internal_strconv_uint64pow10), ("strconv.ErrRange", Rows.laid_strconv_ErrRange), ("strconv.ErrSyntax", Rows.laid_strconv_ErrSyntax)] w) ∧ sizedMet enc Tryd.prog Tryd.f4 (OpenSpec.ofChange Rows.ratioIsAFieldSpec) false w args)
      (Rows.ratioIsAFieldSpec.post enc Tryd.prog Tryd.f4 false true false false) := by
  refine returnsInHanded_of_row (C := Tryd.checked) (s := OpenSpec.ofChange Rows.ratioIsAFieldSpec) (F := fun _ _ _ => 0) Tryd.own started (by kernel_rfl) Tryd.func4
    (ChangeSpec.witness_shaped (enc := enc) (C := Tryd.checked) (os := os) (X := fun w _ => laidMetH Tryd.prog [("math/bits.deBruijn32tab", Rows.laid_math_bits_deBruijn32tab), ("math/bits.deBruijn64tab", Rows.laid_math_bits_deBruijn64tab), ("internal/strconv.uint64pow10", Rows.laid_internal_strconv_uint64pow10), ("strconv.ErrRange", Rows.laid_strconv_ErrRange), ("strconv.ErrSyntax", Rows.laid_strconv_ErrSyntax)] w) false (World.laidAll Tryd.prog os [("math/bits.deBruijn32tab", Rows.laid_math_bits_deBruijn32tab), ("math/bits.deBruijn64tab", Rows.laid_math_bits_deBruijn64tab), ("internal/strconv.uint64pow10", Rows.laid_internal_strconv_uint64pow10), ("strconv.ErrRange", Rows.laid_strconv_ErrRange), ("strconv.ErrSyntax", Rows.laid_strconv_ErrSyntax)]) #[.agg #[.int .i64 0, .int .i64 0], .agg #[.int .i64 0, .int .i64 0], .agg #[.int .i64 0, .int .i64 0]] 8 (World.laidAll_os _ _ _) (shaped_laid os _) (by kernel_rfl) (by kernel_rfl) (by kernel_rfl) (laid_met os _)) ?_
  intro W base args ds gs before hval0 hW _ _ hsz0 hL hsh _
  have hQ : QW W := qw_of_laid hL
  have hsz : (DataW.weightsEach Tryd.prog (Tryd.f4.params.toList ++ Rows.ratioIsAFieldSpec.plain.varTypes Tryd.prog) (ds ++ gs)).all (· ≤ reachBytes) = true := hsz0
  clear hsz0 hsh
  have hval : ∀ (j : Nat) t v, Tryd.f4.params[j]? = some t → args[j]? = some v → Value.okWide Tryd.prog W .any base t v := hval0
  have hW' := hW
  obtain ⟨p, q, hA0, hV, rfl, hfz, hnd⟩ := hW
  have hA : DataW.TrodAll enc Tryd.prog W 0 (fun _ => true) true Tryd.f4.params.toList args.toList ds p := hA0
  rw [Tryd.params4] at hA hval hsz
  obtain ⟨v0, vs0, d0, ds0, p0, q0, hargs, rfl, rfl, h0, r0⟩ := trodAll_cons hA
  obtain ⟨v1, vs1, d1, ds1, p1, q1, rfl, rfl, rfl, h1, r1⟩ := trodAll_cons r0
  obtain ⟨v2, vs2, d2, ds2, p2, q2, rfl, rfl, rfl, h2, r2⟩ := trodAll_cons r1
  obtain ⟨rfl, rfl, rfl⟩ := trodAll_nil r2
  obtain rfl : args = #[v0, v1, v2] := by cases args; simp_all
  obtain ⟨rfl, rfl⟩ := trodVars_none hV
  obtain ⟨cs0, rfl, sz0⟩ := okWide_struct Tryd.underlying23 (hval 0 23 v0 rfl rfl)
  have k0 := h0
  have lt0 : ∀ x ∈ p0, x.block < W.heap.size := by obtain ⟨m, hm⟩ := k0; exact DataW.trod_lt m _ _ _ hm
  obtain ⟨n0, d0', e0⟩ := open_ratio sz0 h0
  subst e0
  obtain ⟨cs1, rfl, sz1⟩ := okWide_struct Tryd.underlying23 (hval 1 23 v1 rfl rfl)
  have k1 := h1
  have lt1 : ∀ x ∈ p1, x.block < W.heap.size := by obtain ⟨m, hm⟩ := k1; exact DataW.trod_lt m _ _ _ hm
  obtain ⟨n1, d1', e1⟩ := open_ratio sz1 h1
  subst e1
  obtain ⟨cs2, rfl, sz2⟩ := okWide_struct Tryd.underlying23 (hval 2 23 v2 rfl rfl)
  have k2 := h2
  have lt2 : ∀ x ∈ p2, x.block < W.heap.size := by obtain ⟨m, hm⟩ := k2; exact DataW.trod_lt m _ _ _ hm
  obtain ⟨n2, d2', e2⟩ := open_ratio sz2 h2
  subst e2
  clear hA0 hval0
  simp only [List.append_nil] at hW'
  refine (fieldLaw_any n0 d0' n1 d1' n2 d2' W hQ).mono fun e W' ⟨he, hb⟩ => ?_
  subst he
  exact ⟨_, rfl, _, _, _, [], _, [], hW', trodAll_mk1 (shut_bool Tryd.underlying4 _), (trodAll_cons_mk (Below.trod Tryd.laidOut (by kernel_rfl) (of_decide_eq_true (by kernel_rfl)) k0 hb lt0) (trodAll_cons_mk (Below.trod Tryd.laidOut (by kernel_rfl) (of_decide_eq_true (by kernel_rfl)) k1 hb lt1) (trodAll_cons_mk (Below.trod Tryd.laidOut (by kernel_rfl) (of_decide_eq_true (by kernel_rfl)) k2 hb lt2) trodAll_mk0))), rfl, hb.frame _, fun h => by cases h⟩

theorem rfield_row : Rows.RatioIsAFieldSaid :=
  OpenClaim.holds_of_wide 4 Tryd.f4 rfl rfl rfl rfl rfl rfl rfl ⟨rfl, rfl, rfl, rfl, rfl⟩ rfl rfl rfl rfl rfl (by kernel_rfl) Tryd.func4 rfield_facts
    (of_decide_eq_true (by kernel_rfl)) (by unfold Func.isWrapper; first | (rw [if_pos (by decide +kernel)]; kernel_rfl) | (rw [if_neg (by decide +kernel)]; exact ⟨rfl, rfl⟩))
    (fun os started H enc _ => rfield_lifted os started H enc)
theorem rfield_wf : Rows.ratioIsAFieldRow.wfByText (OpenSpec.ofChange Rows.ratioIsAFieldSpec) = true := by kernel_rfl
theorem rfield_main : Tryd.prog.mainIs = some (Rows.ratioIsAFieldCard.stood.harness.1, Rows.ratioIsAFieldCard.stood.harness.2.toList) := by kernel_rfl
theorem rfield_looks : true = Tryd.prog.looks [] := by kernel_rfl
theorem rfield_goes : false = Rows.ratioIsAFieldRow.goesBy Tryd.prog := by kernel_rfl
theorem rfield_named : Tryd.prog.funcNamed "interlace/interlacelaw07.RatioIsAField" = some 4 := by kernel_rfl
theorem rfield_stand : ([23, 23, 23].all fun u => !Tryd.prog.wantsStandIn u) = true := by kernel_rfl
theorem rfield_at (f : FuncId) (fn : Func) (hf : Tryd.prog.funcNamed "interlace/interlacelaw07.RatioIsAField" = some f) (hfn : Tryd.prog.funcs[f]? = some fn) : true = Tryd.prog.looks [] ∧ ∀ (j : Nat) t, fn.params[j]? = some t → Tryd.prog.wantsStandIn t = false := by
  obtain rfl : f = 4 := Option.some.inj (rfield_named.symm.trans hf) |>.symm
  obtain rfl : fn = Tryd.f4 := (Option.some.inj (Tryd.func4.symm.trans hfn)).symm
  exact ⟨rfield_looks, fun j t ht => by
    rw [Tryd.params4] at ht
    have hm : t ∈ [23, 23, 23] := by simpa using Array.mem_of_getElem? ht
    exact (show Tryd.prog.wantsStandIn t = false by simpa using List.all_eq_true.1 rfield_stand t hm)⟩
theorem rfield_holds : Rows.RatioIsAFieldCardSaid :=
  Claim7.holds_tied_plain_at .later [] [.data, .data, .data, .sentinel, .sentinel] true _ true
    rfield_row (fun _ h => by cases h) rfield_wf (fun _ h => by cases h) ratioIsAField_row_tie rfl ⟨rfl, rfl⟩ rfield_main rfl rfield_at rfield_goes
#print axioms rfield_holds
end Go.Proofs.YthjaelopmfjfeaaDoor
