/-
  The statement FieldTextsAreExact of layer 8 holds of the program: Text and Parse return what is specified, and are inverse. Conditions: the tables of the library read as Go lays them.
-/
import Derived.Test.YtbgndopgllnmaaaDoorGT
import Derived.Test.YtbgndopgllnmaaaDoorTie
import Derived.Test.YtbgndopgllnmaaaDoorCards
import Derived.SevenTiedAt
import Derived.Test.YtbgndopgllnmaaaDoorKFta
import Derived.Test.YtbgndopgllnmaaaDoorGY
namespace Go.Proofs.YtbgndopgllnmaaaDoor
set_option linter.unusedVariables false
set_option linter.unusedSimpArgs false
open Go.ChangeShapes Go.WideShapes Go.ChangeAt Go.RowKit
open Go.ChangeMaps (open_string shut_string)

theorem and_t {a b : Bool} (h : a = true) (k : b = true) : (a && b) = true := by rw [h, k]; rfl
theorem ftexts_k0 : (Rows.fieldTextsAreExactRow.wf (OpenSpec.ofChange Rows.fieldTextsAreExactSpec)) = true := by kernel_rfl
theorem ftexts_k1 : (laidOutB Tryd.prog) = true := by kernel_rfl
theorem ftexts_k2 : (mapsRowed Tryd.prog) = true := by kernel_rfl
theorem ftexts_k3 : (Tryd.f7.params.all (Tryd.prog.readableRec ·)) = true := by kernel_rfl
theorem ftexts_k4 : (namedTie Tryd.prog Rows.fieldTextsAreExactRow.named Rows.fieldTextsAreExactSpec.vars) = true := by kernel_rfl
theorem ftexts_k5 : ((Rows.fieldTextsAreExactRow.stops == [])) = true := by kernel_rfl
theorem ftexts_k6 : ((Tryd.prog.stops == [])) = true := by kernel_rfl
theorem ftexts_k7 : ((Rows.fieldTextsAreExactRow.knobs == [])) = true := by kernel_rfl
theorem ftexts_k8 : ((Tryd.prog.stopKnobs == [])) = true := by kernel_rfl
theorem ftexts_k9 : ((Rows.fieldTextsAreExactRow.inPlace == Tryd.prog.inPlace 7)) = true := by kernel_rfl
theorem ftexts_k10 : ((Rows.fieldTextsAreExactRow.unfollowed == Tryd.prog.unfollowed 7)) = true := by kernel_rfl
theorem ftexts_k11 : ((Rows.fieldTextsAreExactRow.recurses == Tryd.prog.recurses 7)) = true := by kernel_rfl
theorem ftexts_k12 : ((Rows.fieldTextsAreExactRow.named == Tryd.prog.varsNamed 7)) = true := by kernel_rfl
theorem ftexts_k13 : ((Rows.fieldTextsAreExactRow.maps == (Tryd.f7.params.toList ++ Rows.fieldTextsAreExactSpec.plain.varTypes Tryd.prog).any (Tryd.prog.mapsRec ·))) = true := by kernel_rfl
theorem ftexts_k14 : ((Rows.fieldTextsAreExactRow.ifaces == (Tryd.f7.params.toList ++ Rows.fieldTextsAreExactSpec.plain.varTypes Tryd.prog).any (Tryd.prog.ifacesRec ·))) = true := by kernel_rfl
theorem ftexts_k15 : ((Rows.fieldTextsAreExactRow.mapsOut == Tryd.prog.mapsAmong Tryd.f7.resultTypes.toList)) = true := by kernel_rfl
theorem ftexts_k16 : ((Rows.fieldTextsAreExactRow.loops == (Tryd.f7.params.toList ++ Rows.fieldTextsAreExactSpec.plain.varTypes Tryd.prog).any (Tryd.prog.loopsFrom ·))) = true := by kernel_rfl
theorem ftexts_k17 : ((Rows.fieldTextsAreExactRow.wideKeys == (Tryd.f7.params.toList ++ Rows.fieldTextsAreExactSpec.plain.varTypes Tryd.prog ++ Tryd.f7.resultTypes.toList).any (Tryd.prog.wideKeysFrom ·))) = true := by kernel_rfl
theorem ftexts_k18 : (Rows.fieldTextsAreExactSpec.vars.all (Tryd.prog.varReadable ·)) = true := by kernel_rfl
theorem ftexts_k19 : (Tryd.f7.resultTypes.all (fun t => Tryd.prog.readableRec t && decide (t < Tryd.prog.types.size))) = true := by kernel_rfl
theorem ftexts_k20 : ((Rows.fieldTextsAreExactRow.ifacesOut == Tryd.f7.resultTypes.toList.any (Tryd.prog.ifacesRec ·))) = true := by kernel_rfl
theorem ftexts_k21 : ((Rows.fieldTextsAreExactRow.loopsOut == Tryd.f7.resultTypes.toList.any (Tryd.prog.loopsFrom ·))) = true := by kernel_rfl
theorem ftexts_k22 : ((Rows.fieldTextsAreExactRow.plainKeys == Tryd.prog.plainKeys)) = true := by kernel_rfl
theorem ftexts_k23 : (Rows.fieldTextsAreExactRow.shortTexts.isNone) = true := by kernel_rfl
theorem ftexts_k24 : (Tryd.prog.stopsHeard) = true := by kernel_rfl
theorem ftexts_k25 : (Tryd.prog.mayEnter) = true := by kernel_rfl
theorem ftexts_k26 : ((Rows.fieldTextsAreExactRow.lifted == Tryd.prog.liftsFinal)) = true := by kernel_rfl
theorem ftexts_k27 : ((Tryd.prog.make == some Rows.fieldTextsAreExactRow.make)) = true := by kernel_rfl
theorem ftexts_k28 : ((Rows.fieldTextsAreExactRow.kinds == (if Rows.fieldTextsAreExactRow.domain.isEmpty then [] else Tryd.f7.params.toList.map fun t => match Tryd.prog.underlying t with | some (.int k) => some k | _ => none))) = true := by kernel_rfl
theorem ftexts_k29 : ((Rows.fieldTextsAreExactRow.pinned == Rows.fieldTextsAreExactRow.pinnedBy)) = true := by kernel_rfl
theorem ftexts_k30 : ((Rows.fieldTextsAreExactRow.veiled == (Tryd.f7.params.toList ++ Rows.fieldTextsAreExactSpec.plain.varTypes Tryd.prog ++ Tryd.f7.resultTypes.toList).any (Tryd.prog.veiledRec ·))) = true := by kernel_rfl
theorem ftexts_k31 : (Rows.fieldTextsAreExactRow.veiledFits Tryd.prog Tryd.f7.params.toList (Tryd.f7.params.toList ++ Rows.fieldTextsAreExactSpec.plain.varTypes Tryd.prog ++ Tryd.f7.resultTypes.toList)) = true := by kernel_rfl
set_option maxRecDepth 100000 in
theorem ftexts_facts : joinedFacts Tryd.prog 7 Tryd.f7 Rows.fieldTextsAreExactSpec Rows.fieldTextsAreExactRow = true := and_t (and_t (and_t (and_t (and_t (and_t (and_t (and_t (and_t (and_t (and_t (and_t (and_t (and_t (and_t (and_t (and_t (and_t (and_t (and_t (and_t (and_t (and_t (and_t (and_t (and_t (and_t (and_t (and_t (and_t (and_t ftexts_k0 ftexts_k1) ftexts_k2) ftexts_k3) ftexts_k4) ftexts_k5) ftexts_k6) ftexts_k7) ftexts_k8) ftexts_k9) ftexts_k10) ftexts_k11) ftexts_k12) ftexts_k13) ftexts_k14) ftexts_k15) ftexts_k16) ftexts_k17) ftexts_k18) ftexts_k19) ftexts_k20) ftexts_k21) ftexts_k22) ftexts_k23) ftexts_k24) ftexts_k25) ftexts_k26) ftexts_k27) ftexts_k28) ftexts_k29) ftexts_k30) ftexts_k31
set_option maxRecDepth 100000 in
theorem ftexts_lifted (os : Os) (started : os.Started) (H : Type) (enc : TypeId × Value → H) :
    ReturnsInHanded {} Tryd.checked os 7 .any (fun w args => (Rows.fieldTextsAreExactSpec.pre enc Tryd.prog Tryd.f7 [] false w args ∧ laidMetH Tryd.prog [("math/bits.deBruijn32tab", Rows.laid_math_bits_deBruijn32tab), ("math/bits.deBruijn64tab", Rows.laid_math_bits_deBruijn64tab), ("internal/strconv.uint64pow10", Rows.laid_internal_strconv_uint64pow10), ("unicode/utf8.acceptRanges", Rows.laid_unicode_utf8_acceptRanges), ("unicode/utf8.first", Rows.laid_unicode_utf8_first)] w) ∧ sizedMet enc Tryd.prog Tryd.f7 (OpenSpec.ofChange Rows.fieldTextsAreExactSpec) false w args)
      (Rows.fieldTextsAreExactSpec.post enc Tryd.prog Tryd.f7 false true false false) := by
  refine returnsInHanded_of_row (C := Tryd.checked) (s := OpenSpec.ofChange Rows.fieldTextsAreExactSpec) (F := fun _ _ _ => 0) Tryd.own started (by kernel_rfl) Tryd.func7
    (ChangeSpec.witness_shaped (enc := enc) (C := Tryd.checked) (os := os) (X := fun w _ => laidMetH Tryd.prog [("math/bits.deBruijn32tab", Rows.laid_math_bits_deBruijn32tab), ("math/bits.deBruijn64tab", Rows.laid_math_bits_deBruijn64tab), ("internal/strconv.uint64pow10", Rows.laid_internal_strconv_uint64pow10), ("unicode/utf8.acceptRanges", Rows.laid_unicode_utf8_acceptRanges), ("unicode/utf8.first", Rows.laid_unicode_utf8_first)] w) false (World.laidAll Tryd.prog os [("math/bits.deBruijn32tab", Rows.laid_math_bits_deBruijn32tab), ("math/bits.deBruijn64tab", Rows.laid_math_bits_deBruijn64tab), ("internal/strconv.uint64pow10", Rows.laid_internal_strconv_uint64pow10), ("unicode/utf8.acceptRanges", Rows.laid_unicode_utf8_acceptRanges), ("unicode/utf8.first", Rows.laid_unicode_utf8_first)]) #[.agg (Array.replicate 10 (.int .i64 0)), .string ByteArray.empty] 8 (World.laidAll_os _ _ _) (shaped_laid os _) (by kernel_rfl) (by kernel_rfl) (by kernel_rfl) (laid_met os _)) ?_
  intro W base args ds gs before hval0 hW _ _ hsz0 hL hsh _
  have hQ : QF W := ⟨tab_of_laid hL, spl_of_shaped hsh⟩
  have hsz : (DataW.weightsEach Tryd.prog (Tryd.f7.params.toList ++ Rows.fieldTextsAreExactSpec.plain.varTypes Tryd.prog) (ds ++ gs)).all (· ≤ reachBytes) = true := hsz0
  clear hsz0 hsh
  have hval : ∀ (j : Nat) t v, Tryd.f7.params[j]? = some t → args[j]? = some v → Value.okWide Tryd.prog W .any base t v := hval0
  have hW' := hW
  obtain ⟨p, q, hA0, hV, rfl, hfz, hnd⟩ := hW
  have hA : DataW.TrodAll enc Tryd.prog W 0 (fun _ => true) true Tryd.f7.params.toList args.toList ds p := hA0
  rw [Tryd.params7] at hA hval hsz
  obtain ⟨v0, vs0, d0, ds0, p0, q0, hargs, rfl, rfl, h0, r0⟩ := trodAll_cons hA
  obtain ⟨v1, vs1, d1, ds1, p1, q1, rfl, rfl, rfl, h1, r1⟩ := trodAll_cons r0
  obtain ⟨rfl, rfl, rfl⟩ := trodAll_nil r1
  obtain rfl : args = #[v0, v1] := by cases args; simp_all
  obtain ⟨rfl, rfl⟩ := trodVars_none hV
  obtain ⟨cs0, rfl, sz0⟩ := okWide_arrB Tryd.underlying30 (hval 0 30 v0 rfl rfl)
  have k0 := h0
  have lt0 : ∀ x ∈ p0, x.block < W.heap.size := by obtain ⟨m, hm⟩ := k0; exact DataW.trod_lt m _ _ _ hm
  obtain ⟨l0, n0, e0⟩ := open_head sz0 h0
  subst e0
  obtain ⟨s1, rfl, rfl, rfl, w1⟩ := open_string Tryd.underlying9 (hval 1 9 v1 rfl rfl) h1
  have z1 : s1.size ≤ 140737488351232 := by
    have := sized_string hsz (j := 1) rfl rfl
    rw [bytes_size] at this
    exact this
  clear hA0 hval0
  simp only [List.append_nil] at hW'
  refine (textsLaw_any l0 s1 W n0 (by omega) hQ).mono fun e W' ⟨he, hb⟩ => ?_
  subst he
  exact ⟨_, rfl, _, _, _, [], _, [], hW', trodAll_mk1 (shut_bool Tryd.underlying4 _), (trodAll_cons_mk (Below.trod Tryd.laidOut (by kernel_rfl) (of_decide_eq_true (by kernel_rfl)) k0 hb lt0) (trodAll_cons_mk (shut_string Tryd.underlying9 w1) trodAll_mk0)), rfl, hb.frame _, fun h => by cases h⟩

theorem ftexts_row : Rows.FieldTextsAreExactSaid :=
  OpenClaim.holds_of_wide 7 Tryd.f7 rfl rfl rfl rfl rfl rfl rfl ⟨rfl, rfl, rfl, rfl, rfl⟩ rfl rfl rfl rfl rfl (by kernel_rfl) Tryd.func7 ftexts_facts
    (of_decide_eq_true (by kernel_rfl)) (by unfold Func.isWrapper; first | (rw [if_pos (by decide +kernel)]; kernel_rfl) | (rw [if_neg (by decide +kernel)]; exact ⟨rfl, rfl⟩))
    (fun os started H enc _ => ftexts_lifted os started H enc)
theorem ftexts_wf : Rows.fieldTextsAreExactRow.wfByText (OpenSpec.ofChange Rows.fieldTextsAreExactSpec) = true := by kernel_rfl
theorem ftexts_main : Tryd.prog.mainIs = some (Rows.fieldTextsAreExactCard.stood.harness.1, Rows.fieldTextsAreExactCard.stood.harness.2.toList) := by kernel_rfl
theorem ftexts_looks : false = Tryd.prog.looks [] := by kernel_rfl
theorem ftexts_goes : false = Rows.fieldTextsAreExactRow.goesBy Tryd.prog := by kernel_rfl
theorem ftexts_named : Tryd.prog.funcNamed "interlace/interlacelaw08.FieldTextsAreExact" = some 7 := by kernel_rfl
theorem ftexts_stand : ([30, 9].all fun u => !Tryd.prog.wantsStandIn u) = true := by kernel_rfl
theorem ftexts_at (f : FuncId) (fn : Func) (hf : Tryd.prog.funcNamed "interlace/interlacelaw08.FieldTextsAreExact" = some f) (hfn : Tryd.prog.funcs[f]? = some fn) : false = Tryd.prog.looks [] ∧ ∀ (j : Nat) t, fn.params[j]? = some t → Tryd.prog.wantsStandIn t = false := by
  obtain rfl : f = 7 := Option.some.inj (ftexts_named.symm.trans hf) |>.symm
  obtain rfl : fn = Tryd.f7 := (Option.some.inj (Tryd.func7.symm.trans hfn)).symm
  exact ⟨ftexts_looks, fun j t ht => by
    rw [Tryd.params7] at ht
    have hm : t ∈ [30, 9] := by simpa using Array.mem_of_getElem? ht
    exact (show Tryd.prog.wantsStandIn t = false by simpa using List.all_eq_true.1 ftexts_stand t hm)⟩
theorem ftexts_holds : Rows.FieldTextsAreExactCardSaid :=
  Claim7.holds_tied_plain_at .later [] [.data, .data, .data, .data, .pinned] true _ false
    ftexts_row (fun _ h => by cases h) ftexts_wf (fun _ h => by cases h) fieldTextsAreExact_row_tie rfl ⟨rfl, rfl⟩ ftexts_main rfl ftexts_at ftexts_goes
#print axioms ftexts_holds
end Go.Proofs.YtbgndopgllnmaaaDoor
