/-
  The statement RatioIsOrdered of layer 7 holds of the program: Cmp is a total order that agrees with the operations. Conditions: the tables and the two errors of the library read as Go lays them.
-/
import Derived.Test.YthjaelopmfjfeaaDoorOw
import Derived.Test.YthjaelopmfjfeaaDoorTie
import Derived.Test.YthjaelopmfjfeaaDoorCards
import Derived.SevenTiedAt
import Derived.Test.YthjaelopmfjfeaaDoorYh
namespace Go.Proofs.YthjaelopmfjfeaaDoor
set_option linter.unusedVariables false
set_option linter.unusedSimpArgs false
open Go.ChangeShapes Go.WideShapes Go.ChangeAt Go.RowKit
open Go.ChangeMaps (open_string shut_string)

theorem and_t {a b : Bool} (h : a = true) (k : b = true) : (a && b) = true := by rw [h, k]; rfl
theorem rorder_k0 : (Rows.ratioIsOrderedRow.wf (OpenSpec.ofChange Rows.ratioIsOrderedSpec)) = true := by kernel_rfl
theorem rorder_k1 : (laidOutB Tryd.prog) = true := by kernel_rfl
theorem rorder_k2 : (mapsRowed Tryd.prog) = true := by kernel_rfl
theorem rorder_k3 : (Tryd.f5.params.all (Tryd.prog.readableRec ·)) = true := by kernel_rfl
theorem rorder_k4 : (namedTie Tryd.prog Rows.ratioIsOrderedRow.named Rows.ratioIsOrderedSpec.vars) = true := by kernel_rfl
theorem rorder_k5 : ((Rows.ratioIsOrderedRow.stops == [])) = true := by kernel_rfl
theorem rorder_k6 : ((Tryd.prog.stops == [])) = true := by kernel_rfl
theorem rorder_k7 : ((Rows.ratioIsOrderedRow.knobs == [])) = true := by kernel_rfl
theorem rorder_k8 : ((Tryd.prog.stopKnobs == [])) = true := by kernel_rfl
theorem rorder_k9 : ((Rows.ratioIsOrderedRow.inPlace == Tryd.prog.inPlace 5)) = true := by kernel_rfl
theorem rorder_k10 : ((Rows.ratioIsOrderedRow.unfollowed == Tryd.prog.unfollowed 5)) = true := by kernel_rfl
theorem rorder_k11 : ((Rows.ratioIsOrderedRow.recurses == Tryd.prog.recurses 5)) = true := by kernel_rfl
theorem rorder_k12 : ((Rows.ratioIsOrderedRow.named == Tryd.prog.varsNamed 5)) = true := by kernel_rfl
theorem rorder_k13 : ((Rows.ratioIsOrderedRow.maps == (Tryd.f5.params.toList ++ Rows.ratioIsOrderedSpec.plain.varTypes Tryd.prog).any (Tryd.prog.mapsRec ·))) = true := by kernel_rfl
theorem rorder_k14 : ((Rows.ratioIsOrderedRow.ifaces == (Tryd.f5.params.toList ++ Rows.ratioIsOrderedSpec.plain.varTypes Tryd.prog).any (Tryd.prog.ifacesRec ·))) = true := by kernel_rfl
theorem rorder_k15 : ((Rows.ratioIsOrderedRow.mapsOut == Tryd.prog.mapsAmong Tryd.f5.resultTypes.toList)) = true := by kernel_rfl
theorem rorder_k16 : ((Rows.ratioIsOrderedRow.loops == (Tryd.f5.params.toList ++ Rows.ratioIsOrderedSpec.plain.varTypes Tryd.prog).any (Tryd.prog.loopsFrom ·))) = true := by kernel_rfl
theorem rorder_k17 : ((Rows.ratioIsOrderedRow.wideKeys == (Tryd.f5.params.toList ++ Rows.ratioIsOrderedSpec.plain.varTypes Tryd.prog ++ Tryd.f5.resultTypes.toList).any (Tryd.prog.wideKeysFrom ·))) = true := by kernel_rfl
theorem rorder_k18 : (Rows.ratioIsOrderedSpec.vars.all (Tryd.prog.varReadable ·)) = true := by kernel_rfl
theorem rorder_k19 : (Tryd.f5.resultTypes.all (fun t => Tryd.prog.readableRec t && decide (t < Tryd.prog.types.size))) = true := by kernel_rfl
theorem rorder_k20 : ((Rows.ratioIsOrderedRow.ifacesOut == Tryd.f5.resultTypes.toList.any (Tryd.prog.ifacesRec ·))) = true := by kernel_rfl
theorem rorder_k21 : ((Rows.ratioIsOrderedRow.loopsOut == Tryd.f5.resultTypes.toList.any (Tryd.prog.loopsFrom ·))) = true := by kernel_rfl
theorem rorder_k22 : ((Rows.ratioIsOrderedRow.plainKeys == Tryd.prog.plainKeys)) = true := by kernel_rfl
theorem rorder_k23 : (Rows.ratioIsOrderedRow.shortTexts.isNone) = true := by kernel_rfl
theorem rorder_k24 : (Tryd.prog.stopsHeard) = true := by kernel_rfl
theorem rorder_k25 : (Tryd.prog.mayEnter) = true := by kernel_rfl
theorem rorder_k26 : ((Rows.ratioIsOrderedRow.lifted == Tryd.prog.liftsFinal)) = true := by kernel_rfl
theorem rorder_k27 : ((Tryd.prog.make == some Rows.ratioIsOrderedRow.make)) = true := by kernel_rfl
theorem rorder_k28 : ((Rows.ratioIsOrderedRow.kinds == (if Rows.ratioIsOrderedRow.domain.isEmpty then [] else Tryd.f5.params.toList.map fun t => match Tryd.prog.underlying t with | some (.int k) => some k | _ => none))) = true := by kernel_rfl
theorem rorder_k29 : ((Rows.ratioIsOrderedRow.pinned == Rows.ratioIsOrderedRow.pinnedBy)) = true := by kernel_rfl
theorem rorder_k30 : ((Rows.ratioIsOrderedRow.veiled == (Tryd.f5.params.toList ++ Rows.ratioIsOrderedSpec.plain.varTypes Tryd.prog ++ Tryd.f5.resultTypes.toList).any (Tryd.prog.veiledRec ·))) = true := by kernel_rfl
theorem rorder_k31 : (Rows.ratioIsOrderedRow.veiledFits Tryd.prog Tryd.f5.params.toList (Tryd.f5.params.toList ++ Rows.ratioIsOrderedSpec.plain.varTypes Tryd.prog ++ Tryd.f5.resultTypes.toList)) = true := by kernel_rfl
set_option maxRecDepth 100000 in
theorem rorder_facts : joinedFacts Tryd.prog 5 Tryd.f5 Rows.ratioIsOrderedSpec Rows.ratioIsOrderedRow = true := and_t (and_t (and_t (and_t (and_t (and_t (and_t (and_t (and_t (and_t (and_t (and_t (and_t (and_t (and_t (and_t (and_t (and_t (and_t (and_t (and_t (and_t (and_t (and_t (and_t (and_t (and_t (and_t (and_t (and_t (and_t rorder_k0 rorder_k1) rorder_k2) rorder_k3) rorder_k4) rorder_k5) rorder_k6) rorder_k7) rorder_k8) rorder_k9) rorder_k10) rorder_k11) rorder_k12) rorder_k13) rorder_k14) rorder_k15) rorder_k16) rorder_k17) rorder_k18) rorder_k19) rorder_k20) rorder_k21) rorder_k22) rorder_k23) rorder_k24) rorder_k25) rorder_k26) rorder_k27) rorder_k28) rorder_k29) rorder_k30) rorder_k31
set_option maxRecDepth 100000 in
theorem rorder_lifted (os : Os) (started : os.Started) (H : Type) (enc : TypeId × Value → H) :
    ReturnsInHanded {} Tryd.checked os 5 .any (fun w args => (Rows.ratioIsOrderedSpec.pre enc Tryd.prog Tryd.f5 [] false w args ∧ laidMetH Tryd.prog [("math/bits.deBruijn32tab", Rows.laid_math_bits_deBruijn32tab), ("math/bits.deBruijn64tab", Rows.laid_math_bits_deBruijn64tab), ("internal/strconv.uint64pow10", Rows.laid_internal_strconv_uint64pow10), ("strconv.ErrRange", Rows.laid_strconv_ErrRange), ("strconv.ErrSyntax", Rows.laid_strconv_ErrSyntax)] w) ∧ sizedMet enc Tryd.prog Tryd.f5 (OpenSpec.ofChange Rows.ratioIsOrderedSpec) false w args)
      (Rows.ratioIsOrderedSpec.post enc Tryd.prog Tryd.f5 false true false false) := by
  refine returnsInHanded_of_row (C := Tryd.checked) (s := OpenSpec.ofChange Rows.ratioIsOrderedSpec) (F := fun _ _ _ => 0) Tryd.own started (by kernel_rfl) Tryd.func5
    (ChangeSpec.witness_shaped (enc := enc) (C := Tryd.checked) (os := os) (X := fun w _ => laidMetH Tryd.prog [("math/bits.deBruijn32tab", Rows.laid_math_bits_deBruijn32tab), ("math/bits.deBruijn64tab", Rows.laid_math_bits_deBruijn64tab), ("internal/strconv.uint64pow10", Rows.laid_internal_strconv_uint64pow10), ("strconv.ErrRange", Rows.laid_strconv_ErrRange), ("strconv.ErrSyntax", Rows.laid_strconv_ErrSyntax)] w) false (World.laidAll Tryd.prog os [("math/bits.deBruijn32tab", Rows.laid_math_bits_deBruijn32tab), ("math/bits.deBruijn64tab", Rows.laid_math_bits_deBruijn64tab), ("internal/strconv.uint64pow10", Rows.laid_internal_strconv_uint64pow10), ("strconv.ErrRange", Rows.laid_strconv_ErrRange), ("strconv.ErrSyntax", Rows.laid_strconv_ErrSyntax)]) #[.agg #[.int .i64 0, .int .i64 0], .agg #[.int .i64 0, .int .i64 0], .agg #[.int .i64 0, .int .i64 0]] 8 (World.laidAll_os _ _ _) (shaped_laid os _) (by kernel_rfl) (by kernel_rfl) (by kernel_rfl) (laid_met os _)) ?_
  intro W base args ds gs before hval0 hW _ _ hsz0 hL hsh _
  have hQ : QW W := qw_of_laid hL
  have hsz : (DataW.weightsEach Tryd.prog (Tryd.f5.params.toList ++ Rows.ratioIsOrderedSpec.plain.varTypes Tryd.prog) (ds ++ gs)).all (· ≤ reachBytes) = true := hsz0
  clear hsz0 hsh
  have hval : ∀ (j : Nat) t v, Tryd.f5.params[j]? = some t → args[j]? = some v → Value.okWide Tryd.prog W .any base t v := hval0
  have hW' := hW
  obtain ⟨p, q, hA0, hV, rfl, hfz, hnd⟩ := hW
  have hA : DataW.TrodAll enc Tryd.prog W 0 (fun _ => true) true Tryd.f5.params.toList args.toList ds p := hA0
  rw [Tryd.params5] at hA hval hsz
  obtain ⟨v0, vs0, d0, ds0, p0, q0, hargs, rfl, rfl, h0, r0⟩ := trodAll_cons hA
  obtain ⟨v1, vs1, d1, ds1, p1, q1, rfl, rfl, rfl, h1, r1⟩ := trodAll_cons r0
  obtain ⟨v2, vs2, d2, ds2, p2, q2, rfl, rfl, rfl, h2, r2⟩ := trodAll_cons r1
  obtain ⟨rfl, rfl, rfl⟩ := trodAll_nil r2
  obtain rfl : args = #[v0, v1, v2] := by cases args; simp_all
  obtain ⟨rfl, rfl⟩ := trodVars_none hV
  obtain ⟨cs0, rfl, sz0⟩ := okWide_struct Tryd.underlying23 (hval 0 23 v0 rfl rfl)
  have k0 := h0
  have lt0 : ∀ x ∈ p0, x.block < W.heap.size := by obtain ⟨m, hm⟩ := k0; exact DataW.trod_lt m _ _ _ hm
  obtain ⟨n0, d0', e0⟩ := open_ratio sz0 h0
  subst e0
  obtain ⟨cs1, rfl, sz1⟩ := okWide_struct Tryd.underlying23 (hval 1 23 v1 rfl rfl)
  have k1 := h1
  have lt1 : ∀ x ∈ p1, x.block < W.heap.size := by obtain ⟨m, hm⟩ := k1; exact DataW.trod_lt m _ _ _ hm
  obtain ⟨n1, d1', e1⟩ := open_ratio sz1 h1
  subst e1
  obtain ⟨cs2, rfl, sz2⟩ := okWide_struct Tryd.underlying23 (hval 2 23 v2 rfl rfl)
  have k2 := h2
  have lt2 : ∀ x ∈ p2, x.block < W.heap.size := by obtain ⟨m, hm⟩ := k2; exact DataW.trod_lt m _ _ _ hm
  obtain ⟨n2, d2', e2⟩ := open_ratio sz2 h2
  subst e2
  clear hA0 hval0
  simp only [List.append_nil] at hW'
  refine (orderLaw_any n0 d0' n1 d1' n2 d2' W hQ).mono fun e W' ⟨he, hb⟩ => ?_
  subst he
  exact ⟨_, rfl, _, _, _, [], _, [], hW', trodAll_mk1 (shut_bool Tryd.underlying4 _), (trodAll_cons_mk (Below.trod Tryd.laidOut (by kernel_rfl) (of_decide_eq_true (by kernel_rfl)) k0 hb lt0) (trodAll_cons_mk (Below.trod Tryd.laidOut (by kernel_rfl) (of_decide_eq_true (by kernel_rfl)) k1 hb lt1) (trodAll_cons_mk (Below.trod Tryd.laidOut (by kernel_rfl) (of_decide_eq_true (by kernel_rfl)) k2 hb lt2) trodAll_mk0))), rfl, hb.frame _, fun h => by cases h⟩

theorem rorder_row : Rows.RatioIsOrderedSaid :=
  OpenClaim.holds_of_wide 5 Tryd.f5 rfl rfl rfl rfl rfl rfl rfl ⟨rfl, rfl, rfl, rfl, rfl⟩ rfl rfl rfl rfl rfl (by kernel_rfl) Tryd.func5 rorder_facts
    (of_decide_eq_true (by kernel_rfl)) (by unfold Func.isWrapper; first | (rw [if_pos (by decide +kernel)]; kernel_rfl) | (rw [if_neg (by decide +kernel)]; exact ⟨rfl, rfl⟩))
    (fun os started H enc _ => rorder_lifted os started H enc)
theorem rorder_wf : Rows.ratioIsOrderedRow.wfByText (OpenSpec.ofChange Rows.ratioIsOrderedSpec) = true := by kernel_rfl
theorem rorder_main : Tryd.prog.mainIs = some (Rows.ratioIsOrderedCard.stood.harness.1, Rows.ratioIsOrderedCard.stood.harness.2.toList) := by kernel_rfl
theorem rorder_looks : true = Tryd.prog.looks [] := by kernel_rfl
theorem rorder_goes : false = Rows.ratioIsOrderedRow.goesBy Tryd.prog := by kernel_rfl
theorem rorder_named : Tryd.prog.funcNamed "interlace/interlacelaw07.RatioIsOrdered" = some 5 := by kernel_rfl
theorem rorder_stand : ([23, 23, 23].all fun u => !Tryd.prog.wantsStandIn u) = true := by kernel_rfl
theorem rorder_at (f : FuncId) (fn : Func) (hf : Tryd.prog.funcNamed "interlace/interlacelaw07.RatioIsOrdered" = some f) (hfn : Tryd.prog.funcs[f]? = some fn) : true = Tryd.prog.looks [] ∧ ∀ (j : Nat) t, fn.params[j]? = some t → Tryd.prog.wantsStandIn t = false := by
  obtain rfl : f = 5 := Option.some.inj (rorder_named.symm.trans hf) |>.symm
  obtain rfl : fn = Tryd.f5 := (Option.some.inj (Tryd.func5.symm.trans hfn)).symm
  exact ⟨rorder_looks, fun j t ht => by
    rw [Tryd.params5] at ht
    have hm : t ∈ [23, 23, 23] := by simpa using Array.mem_of_getElem? ht
    exact (show Tryd.prog.wantsStandIn t = false by simpa using List.all_eq_true.1 rorder_stand t hm)⟩
theorem rorder_holds : Rows.RatioIsOrderedCardSaid :=
  Claim7.holds_tied_plain_at .later [] [.data, .data, .data, .sentinel, .sentinel] true _ true
    rorder_row (fun _ h => by cases h) rorder_wf (fun _ h => by cases h) ratioIsOrdered_row_tie rfl ⟨rfl, rfl⟩ rorder_main rfl rorder_at rorder_goes
#print axioms rorder_holds
end Go.Proofs.YthjaelopmfjfeaaDoor
