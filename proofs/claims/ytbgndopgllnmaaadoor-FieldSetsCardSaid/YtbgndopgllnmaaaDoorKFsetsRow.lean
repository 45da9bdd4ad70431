/-
  The statement FieldSets of layer 8 holds of the program: Set returns what is specified, Get finds it, and other fields are as before. Conditions: the tables of the library read as Go lays them.
-/
import Derived.Test.YtbgndopgllnmaaaDoorGT
import Derived.Test.YtbgndopgllnmaaaDoorTie
import Derived.Test.YtbgndopgllnmaaaDoorCards
import Derived.SevenTiedAt
import Derived.Test.YtbgndopgllnmaaaDoorGY
namespace Go.Proofs.YtbgndopgllnmaaaDoor
set_option linter.unusedVariables false
set_option linter.unusedSimpArgs false
open Go.ChangeShapes Go.WideShapes Go.ChangeAt Go.RowKit
open Go.ChangeMaps (open_string shut_string)

theorem and_t {a b : Bool} (h : a = true) (k : b = true) : (a && b) = true := by rw [h, k]; rfl
theorem fsets_k0 : (Rows.fieldSetsRow.wf (OpenSpec.ofChange Rows.fieldSetsSpec)) = true := by kernel_rfl
theorem fsets_k1 : (laidOutB Tryd.prog) = true := by kernel_rfl
theorem fsets_k2 : (mapsRowed Tryd.prog) = true := by kernel_rfl
theorem fsets_k3 : (Tryd.f5.params.all (Tryd.prog.readableRec ·)) = true := by kernel_rfl
theorem fsets_k4 : (namedTie Tryd.prog Rows.fieldSetsRow.named Rows.fieldSetsSpec.vars) = true := by kernel_rfl
theorem fsets_k5 : ((Rows.fieldSetsRow.stops == [])) = true := by kernel_rfl
theorem fsets_k6 : ((Tryd.prog.stops == [])) = true := by kernel_rfl
theorem fsets_k7 : ((Rows.fieldSetsRow.knobs == [])) = true := by kernel_rfl
theorem fsets_k8 : ((Tryd.prog.stopKnobs == [])) = true := by kernel_rfl
theorem fsets_k9 : ((Rows.fieldSetsRow.inPlace == Tryd.prog.inPlace 5)) = true := by kernel_rfl
theorem fsets_k10 : ((Rows.fieldSetsRow.unfollowed == Tryd.prog.unfollowed 5)) = true := by kernel_rfl
theorem fsets_k11 : ((Rows.fieldSetsRow.recurses == Tryd.prog.recurses 5)) = true := by kernel_rfl
theorem fsets_k12 : ((Rows.fieldSetsRow.named == Tryd.prog.varsNamed 5)) = true := by kernel_rfl
theorem fsets_k13 : ((Rows.fieldSetsRow.maps == (Tryd.f5.params.toList ++ Rows.fieldSetsSpec.plain.varTypes Tryd.prog).any (Tryd.prog.mapsRec ·))) = true := by kernel_rfl
theorem fsets_k14 : ((Rows.fieldSetsRow.ifaces == (Tryd.f5.params.toList ++ Rows.fieldSetsSpec.plain.varTypes Tryd.prog).any (Tryd.prog.ifacesRec ·))) = true := by kernel_rfl
theorem fsets_k15 : ((Rows.fieldSetsRow.mapsOut == Tryd.prog.mapsAmong Tryd.f5.resultTypes.toList)) = true := by kernel_rfl
theorem fsets_k16 : ((Rows.fieldSetsRow.loops == (Tryd.f5.params.toList ++ Rows.fieldSetsSpec.plain.varTypes Tryd.prog).any (Tryd.prog.loopsFrom ·))) = true := by kernel_rfl
theorem fsets_k17 : ((Rows.fieldSetsRow.wideKeys == (Tryd.f5.params.toList ++ Rows.fieldSetsSpec.plain.varTypes Tryd.prog ++ Tryd.f5.resultTypes.toList).any (Tryd.prog.wideKeysFrom ·))) = true := by kernel_rfl
theorem fsets_k18 : (Rows.fieldSetsSpec.vars.all (Tryd.prog.varReadable ·)) = true := by kernel_rfl
theorem fsets_k19 : (Tryd.f5.resultTypes.all (fun t => Tryd.prog.readableRec t && decide (t < Tryd.prog.types.size))) = true := by kernel_rfl
theorem fsets_k20 : ((Rows.fieldSetsRow.ifacesOut == Tryd.f5.resultTypes.toList.any (Tryd.prog.ifacesRec ·))) = true := by kernel_rfl
theorem fsets_k21 : ((Rows.fieldSetsRow.loopsOut == Tryd.f5.resultTypes.toList.any (Tryd.prog.loopsFrom ·))) = true := by kernel_rfl
theorem fsets_k22 : ((Rows.fieldSetsRow.plainKeys == Tryd.prog.plainKeys)) = true := by kernel_rfl
theorem fsets_k23 : (Rows.fieldSetsRow.shortTexts.isNone) = true := by kernel_rfl
theorem fsets_k24 : (Tryd.prog.stopsHeard) = true := by kernel_rfl
theorem fsets_k25 : (Tryd.prog.mayEnter) = true := by kernel_rfl
theorem fsets_k26 : ((Rows.fieldSetsRow.lifted == Tryd.prog.liftsFinal)) = true := by kernel_rfl
theorem fsets_k27 : ((Tryd.prog.make == some Rows.fieldSetsRow.make)) = true := by kernel_rfl
theorem fsets_k28 : ((Rows.fieldSetsRow.kinds == (if Rows.fieldSetsRow.domain.isEmpty then [] else Tryd.f5.params.toList.map fun t => match Tryd.prog.underlying t with | some (.int k) => some k | _ => none))) = true := by kernel_rfl
theorem fsets_k29 : ((Rows.fieldSetsRow.pinned == Rows.fieldSetsRow.pinnedBy)) = true := by kernel_rfl
theorem fsets_k30 : ((Rows.fieldSetsRow.veiled == (Tryd.f5.params.toList ++ Rows.fieldSetsSpec.plain.varTypes Tryd.prog ++ Tryd.f5.resultTypes.toList).any (Tryd.prog.veiledRec ·))) = true := by kernel_rfl
theorem fsets_k31 : (Rows.fieldSetsRow.veiledFits Tryd.prog Tryd.f5.params.toList (Tryd.f5.params.toList ++ Rows.fieldSetsSpec.plain.varTypes Tryd.prog ++ Tryd.f5.resultTypes.toList)) = true := by kernel_rfl
set_option maxRecDepth 100000 in
theorem fsets_facts : joinedFacts Tryd.prog 5 Tryd.f5 Rows.fieldSetsSpec Rows.fieldSetsRow = true := and_t (and_t (and_t (and_t (and_t (and_t (and_t (and_t (and_t (and_t (and_t (and_t (and_t (and_t (and_t (and_t (and_t (and_t (and_t (and_t (and_t (and_t (and_t (and_t (and_t (and_t (and_t (and_t (and_t (and_t (and_t fsets_k0 fsets_k1) fsets_k2) fsets_k3) fsets_k4) fsets_k5) fsets_k6) fsets_k7) fsets_k8) fsets_k9) fsets_k10) fsets_k11) fsets_k12) fsets_k13) fsets_k14) fsets_k15) fsets_k16) fsets_k17) fsets_k18) fsets_k19) fsets_k20) fsets_k21) fsets_k22) fsets_k23) fsets_k24) fsets_k25) fsets_k26) fsets_k27) fsets_k28) fsets_k29) fsets_k30) fsets_k31
set_option maxRecDepth 100000 in
theorem fsets_lifted (os : Os) (started : os.Started) (H : Type) (enc : TypeId × Value → H) :
    ReturnsInHanded {} Tryd.checked os 5 .any (fun w args => (Rows.fieldSetsSpec.pre enc Tryd.prog Tryd.f5 [] false w args ∧ laidMetH Tryd.prog [("math/bits.deBruijn32tab", Rows.laid_math_bits_deBruijn32tab), ("math/bits.deBruijn64tab", Rows.laid_math_bits_deBruijn64tab), ("internal/strconv.uint64pow10", Rows.laid_internal_strconv_uint64pow10), ("unicode/utf8.acceptRanges", Rows.laid_unicode_utf8_acceptRanges), ("unicode/utf8.first", Rows.laid_unicode_utf8_first)] w) ∧ sizedMet enc Tryd.prog Tryd.f5 (OpenSpec.ofChange Rows.fieldSetsSpec) false w args)
      (Rows.fieldSetsSpec.post enc Tryd.prog Tryd.f5 false true false false) := by
  refine returnsInHanded_of_row (C := Tryd.checked) (s := OpenSpec.ofChange Rows.fieldSetsSpec) (F := fun _ _ _ => 0) Tryd.own started (by kernel_rfl) Tryd.func5
    (ChangeSpec.witness_shaped (enc := enc) (C := Tryd.checked) (os := os) (X := fun w _ => laidMetH Tryd.prog [("math/bits.deBruijn32tab", Rows.laid_math_bits_deBruijn32tab), ("math/bits.deBruijn64tab", Rows.laid_math_bits_deBruijn64tab), ("internal/strconv.uint64pow10", Rows.laid_internal_strconv_uint64pow10), ("unicode/utf8.acceptRanges", Rows.laid_unicode_utf8_acceptRanges), ("unicode/utf8.first", Rows.laid_unicode_utf8_first)] w) false (World.laidAll Tryd.prog os [("math/bits.deBruijn32tab", Rows.laid_math_bits_deBruijn32tab), ("math/bits.deBruijn64tab", Rows.laid_math_bits_deBruijn64tab), ("internal/strconv.uint64pow10", Rows.laid_internal_strconv_uint64pow10), ("unicode/utf8.acceptRanges", Rows.laid_unicode_utf8_acceptRanges), ("unicode/utf8.first", Rows.laid_unicode_utf8_first)]) #[.agg #[.string ByteArray.empty, .int .i64 0, .int .i64 0], .agg #[.string ByteArray.empty, .int .i64 0, .int .i64 0], .agg (Array.replicate 10 (.int .i64 0)), .int .i64 0] 8 (World.laidAll_os _ _ _) (shaped_laid os _) (by kernel_rfl) (by kernel_rfl) (by kernel_rfl) (laid_met os _)) ?_
  intro W base args ds gs before hval0 hW _ _ hsz0 hL hsh _
  have hQ : QF W := ⟨tab_of_laid hL, spl_of_shaped hsh⟩
  have hsz : (DataW.weightsEach Tryd.prog (Tryd.f5.params.toList ++ Rows.fieldSetsSpec.plain.varTypes Tryd.prog) (ds ++ gs)).all (· ≤ reachBytes) = true := hsz0
  clear hsz0 hsh
  have hval : ∀ (j : Nat) t v, Tryd.f5.params[j]? = some t → args[j]? = some v → Value.okWide Tryd.prog W .any base t v := hval0
  have hW' := hW
  obtain ⟨p, q, hA0, hV, rfl, hfz, hnd⟩ := hW
  have hA : DataW.TrodAll enc Tryd.prog W 0 (fun _ => true) true Tryd.f5.params.toList args.toList ds p := hA0
  rw [Tryd.params5] at hA hval hsz
  obtain ⟨v0, vs0, d0, ds0, p0, q0, hargs, rfl, rfl, h0, r0⟩ := trodAll_cons hA
  obtain ⟨v1, vs1, d1, ds1, p1, q1, rfl, rfl, rfl, h1, r1⟩ := trodAll_cons r0
  obtain ⟨v2, vs2, d2, ds2, p2, q2, rfl, rfl, rfl, h2, r2⟩ := trodAll_cons r1
  obtain ⟨v3, vs3, d3, ds3, p3, q3, rfl, rfl, rfl, h3, r3⟩ := trodAll_cons r2
  obtain ⟨rfl, rfl, rfl⟩ := trodAll_nil r3
  obtain rfl : args = #[v0, v1, v2, v3] := by cases args; simp_all
  obtain ⟨rfl, rfl⟩ := trodVars_none hV
  obtain ⟨cs0, rfl, sz0⟩ := okWide_struct Tryd.underlying33 (hval 0 33 v0 rfl rfl)
  have k0 := h0
  have lt0 : ∀ x ∈ p0, x.block < W.heap.size := by obtain ⟨m, hm⟩ := k0; exact DataW.trod_lt m _ _ _ hm
  obtain ⟨s0, f0, n0, e0, y0⟩ := open_field sz0 h0
  subst e0
  obtain ⟨cs1, rfl, sz1⟩ := okWide_struct Tryd.underlying33 (hval 1 33 v1 rfl rfl)
  have k1 := h1
  have lt1 : ∀ x ∈ p1, x.block < W.heap.size := by obtain ⟨m, hm⟩ := k1; exact DataW.trod_lt m _ _ _ hm
  obtain ⟨s1, f1, n1, e1, y1⟩ := open_field sz1 h1
  subst e1
  obtain ⟨cs2, rfl, sz2⟩ := okWide_arrB Tryd.underlying30 (hval 2 30 v2 rfl rfl)
  have k2 := h2
  have lt2 : ∀ x ∈ p2, x.block < W.heap.size := by obtain ⟨m, hm⟩ := k2; exact DataW.trod_lt m _ _ _ hm
  obtain ⟨l2, n2, e2⟩ := open_head sz2 h2
  subst e2
  obtain ⟨a3, rfl, rfl, rfl, w3⟩ := open_int Tryd.underlying3 (hval 3 3 v3 rfl rfl) h3
  clear hA0 hval0
  simp only [List.append_nil] at hW'
  refine (setsLaw_any s0 s1 f0 n0 f1 n1 a3 l2 W n2 y0 y1 hQ).mono fun e W' ⟨he, hb⟩ => ?_
  subst he
  exact ⟨_, rfl, _, _, _, [], _, [], hW', trodAll_mk1 (shut_bool Tryd.underlying4 _), (trodAll_cons_mk (Below.trod Tryd.laidOut (by kernel_rfl) (of_decide_eq_true (by kernel_rfl)) k0 hb lt0) (trodAll_cons_mk (Below.trod Tryd.laidOut (by kernel_rfl) (of_decide_eq_true (by kernel_rfl)) k1 hb lt1) (trodAll_cons_mk (Below.trod Tryd.laidOut (by kernel_rfl) (of_decide_eq_true (by kernel_rfl)) k2 hb lt2) (trodAll_cons_mk (shut_int Tryd.underlying3 w3) trodAll_mk0)))), rfl, hb.frame _, fun h => by cases h⟩

theorem fsets_row : Rows.FieldSetsSaid :=
  OpenClaim.holds_of_wide 5 Tryd.f5 rfl rfl rfl rfl rfl rfl rfl ⟨rfl, rfl, rfl, rfl, rfl⟩ rfl rfl rfl rfl rfl (by kernel_rfl) Tryd.func5 fsets_facts
    (of_decide_eq_true (by kernel_rfl)) (by unfold Func.isWrapper; first | (rw [if_pos (by decide +kernel)]; kernel_rfl) | (rw [if_neg (by decide +kernel)]; exact ⟨rfl, rfl⟩))
    (fun os started H enc _ => fsets_lifted os started H enc)
theorem fsets_wf : Rows.fieldSetsRow.wfByText (OpenSpec.ofChange Rows.fieldSetsSpec) = true := by kernel_rfl
theorem fsets_main : Tryd.prog.mainIs = some (Rows.fieldSetsCard.stood.harness.1, Rows.fieldSetsCard.stood.harness.2.toList) := by kernel_rfl
theorem fsets_looks : false = Tryd.prog.looks [] := by kernel_rfl
theorem fsets_goes : false = Rows.fieldSetsRow.goesBy Tryd.prog := by kernel_rfl
theorem fsets_named : Tryd.prog.funcNamed "interlace/interlacelaw08.FieldSets" = some 5 := by kernel_rfl
theorem fsets_stand : ([33, 33, 30, 3].all fun u => !Tryd.prog.wantsStandIn u) = true := by kernel_rfl
theorem fsets_at (f : FuncId) (fn : Func) (hf : Tryd.prog.funcNamed "interlace/interlacelaw08.FieldSets" = some f) (hfn : Tryd.prog.funcs[f]? = some fn) : false = Tryd.prog.looks [] ∧ ∀ (j : Nat) t, fn.params[j]? = some t → Tryd.prog.wantsStandIn t = false := by
  obtain rfl : f = 5 := Option.some.inj (fsets_named.symm.trans hf) |>.symm
  obtain rfl : fn = Tryd.f5 := (Option.some.inj (Tryd.func5.symm.trans hfn)).symm
  exact ⟨fsets_looks, fun j t ht => by
    rw [Tryd.params5] at ht
    have hm : t ∈ [33, 33, 30, 3] := by simpa using Array.mem_of_getElem? ht
    exact (show Tryd.prog.wantsStandIn t = false by simpa using List.all_eq_true.1 fsets_stand t hm)⟩
theorem fsets_holds : Rows.FieldSetsCardSaid :=
  Claim7.holds_tied_plain_at .later [] [.data, .data, .data, .data, .pinned] true _ false
    fsets_row (fun _ h => by cases h) fsets_wf (fun _ h => by cases h) fieldSets_row_tie rfl ⟨rfl, rfl⟩ fsets_main rfl fsets_at fsets_goes
#print axioms fsets_holds
end Go.Proofs.YtbgndopgllnmaaaDoor
