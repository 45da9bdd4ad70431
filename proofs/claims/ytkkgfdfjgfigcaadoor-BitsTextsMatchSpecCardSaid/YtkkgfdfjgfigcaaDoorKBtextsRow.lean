/-
  The statement BitsTextsMatchSpec of layer 6 holds of the program: Text and Parse return what is specified, and undo each other. Conditions: the tables read as Go lays them.
-/
import Derived.Test.YtkkgfdfjgfigcaaDoorGW
import Derived.Test.YtkkgfdfjgfigcaaDoorTie
import Derived.Test.YtkkgfdfjgfigcaaDoorCards
import Derived.SevenTiedAt
import Derived.Test.YtkkgfdfjgfigcaaDoorGY
namespace Go.Proofs.YtkkgfdfjgfigcaaDoor
set_option linter.unusedVariables false
set_option linter.unusedSimpArgs false
open Go.ChangeShapes Go.WideShapes Go.ChangeAt Go.RowKit
open Go.ChangeMaps (open_string shut_string)

theorem and_t {a b : Bool} (h : a = true) (k : b = true) : (a && b) = true := by rw [h, k]; rfl
theorem btexts_k0 : (Rows.bitsTextsMatchSpecRow.wf (OpenSpec.ofChange Rows.bitsTextsMatchSpecSpec)) = true := by kernel_rfl
theorem btexts_k1 : (laidOutB Tryd.prog) = true := by kernel_rfl
theorem btexts_k2 : (mapsRowed Tryd.prog) = true := by kernel_rfl
theorem btexts_k3 : (Tryd.f3.params.all (Tryd.prog.readableRec ·)) = true := by kernel_rfl
theorem btexts_k4 : (namedTie Tryd.prog Rows.bitsTextsMatchSpecRow.named Rows.bitsTextsMatchSpecSpec.vars) = true := by kernel_rfl
theorem btexts_k5 : ((Rows.bitsTextsMatchSpecRow.stops == [])) = true := by kernel_rfl
theorem btexts_k6 : ((Tryd.prog.stops == [])) = true := by kernel_rfl
theorem btexts_k7 : ((Rows.bitsTextsMatchSpecRow.knobs == [])) = true := by kernel_rfl
theorem btexts_k8 : ((Tryd.prog.stopKnobs == [])) = true := by kernel_rfl
theorem btexts_k9 : ((Rows.bitsTextsMatchSpecRow.inPlace == Tryd.prog.inPlace 3)) = true := by kernel_rfl
theorem btexts_k10 : ((Rows.bitsTextsMatchSpecRow.unfollowed == Tryd.prog.unfollowed 3)) = true := by kernel_rfl
theorem btexts_k11 : ((Rows.bitsTextsMatchSpecRow.recurses == Tryd.prog.recurses 3)) = true := by kernel_rfl
theorem btexts_k12 : ((Rows.bitsTextsMatchSpecRow.named == Tryd.prog.varsNamed 3)) = true := by kernel_rfl
theorem btexts_k13 : ((Rows.bitsTextsMatchSpecRow.maps == (Tryd.f3.params.toList ++ Rows.bitsTextsMatchSpecSpec.plain.varTypes Tryd.prog).any (Tryd.prog.mapsRec ·))) = true := by kernel_rfl
theorem btexts_k14 : ((Rows.bitsTextsMatchSpecRow.ifaces == (Tryd.f3.params.toList ++ Rows.bitsTextsMatchSpecSpec.plain.varTypes Tryd.prog).any (Tryd.prog.ifacesRec ·))) = true := by kernel_rfl
theorem btexts_k15 : ((Rows.bitsTextsMatchSpecRow.mapsOut == Tryd.prog.mapsAmong Tryd.f3.resultTypes.toList)) = true := by kernel_rfl
theorem btexts_k16 : ((Rows.bitsTextsMatchSpecRow.loops == (Tryd.f3.params.toList ++ Rows.bitsTextsMatchSpecSpec.plain.varTypes Tryd.prog).any (Tryd.prog.loopsFrom ·))) = true := by kernel_rfl
theorem btexts_k17 : ((Rows.bitsTextsMatchSpecRow.wideKeys == (Tryd.f3.params.toList ++ Rows.bitsTextsMatchSpecSpec.plain.varTypes Tryd.prog ++ Tryd.f3.resultTypes.toList).any (Tryd.prog.wideKeysFrom ·))) = true := by kernel_rfl
theorem btexts_k18 : (Rows.bitsTextsMatchSpecSpec.vars.all (Tryd.prog.varReadable ·)) = true := by kernel_rfl
theorem btexts_k19 : (Tryd.f3.resultTypes.all (fun t => Tryd.prog.readableRec t && decide (t < Tryd.prog.types.size))) = true := by kernel_rfl
theorem btexts_k20 : ((Rows.bitsTextsMatchSpecRow.ifacesOut == Tryd.f3.resultTypes.toList.any (Tryd.prog.ifacesRec ·))) = true := by kernel_rfl
theorem btexts_k21 : ((Rows.bitsTextsMatchSpecRow.loopsOut == Tryd.f3.resultTypes.toList.any (Tryd.prog.loopsFrom ·))) = true := by kernel_rfl
theorem btexts_k22 : ((Rows.bitsTextsMatchSpecRow.plainKeys == Tryd.prog.plainKeys)) = true := by kernel_rfl
theorem btexts_k23 : (Rows.bitsTextsMatchSpecRow.shortTexts.isNone) = true := by kernel_rfl
theorem btexts_k24 : (Tryd.prog.stopsHeard) = true := by kernel_rfl
theorem btexts_k25 : (Tryd.prog.mayEnter) = true := by kernel_rfl
theorem btexts_k26 : ((Rows.bitsTextsMatchSpecRow.lifted == Tryd.prog.liftsFinal)) = true := by kernel_rfl
theorem btexts_k27 : ((Tryd.prog.make == some Rows.bitsTextsMatchSpecRow.make)) = true := by kernel_rfl
theorem btexts_k28 : ((Rows.bitsTextsMatchSpecRow.kinds == (if Rows.bitsTextsMatchSpecRow.domain.isEmpty then [] else Tryd.f3.params.toList.map fun t => match Tryd.prog.underlying t with | some (.int k) => some k | _ => none))) = true := by kernel_rfl
theorem btexts_k29 : ((Rows.bitsTextsMatchSpecRow.pinned == Rows.bitsTextsMatchSpecRow.pinnedBy)) = true := by kernel_rfl
theorem btexts_k30 : ((Rows.bitsTextsMatchSpecRow.veiled == (Tryd.f3.params.toList ++ Rows.bitsTextsMatchSpecSpec.plain.varTypes Tryd.prog ++ Tryd.f3.resultTypes.toList).any (Tryd.prog.veiledRec ·))) = true := by kernel_rfl
theorem btexts_k31 : (Rows.bitsTextsMatchSpecRow.veiledFits Tryd.prog Tryd.f3.params.toList (Tryd.f3.params.toList ++ Rows.bitsTextsMatchSpecSpec.plain.varTypes Tryd.prog ++ Tryd.f3.resultTypes.toList)) = true := by kernel_rfl
set_option maxRecDepth 100000 in
theorem btexts_facts : joinedFacts Tryd.prog 3 Tryd.f3 Rows.bitsTextsMatchSpecSpec Rows.bitsTextsMatchSpecRow = true := and_t (and_t (and_t (and_t (and_t (and_t (and_t (and_t (and_t (and_t (and_t (and_t (and_t (and_t (and_t (and_t (and_t (and_t (and_t (and_t (and_t (and_t (and_t (and_t (and_t (and_t (and_t (and_t (and_t (and_t (and_t btexts_k0 btexts_k1) btexts_k2) btexts_k3) btexts_k4) btexts_k5) btexts_k6) btexts_k7) btexts_k8) btexts_k9) btexts_k10) btexts_k11) btexts_k12) btexts_k13) btexts_k14) btexts_k15) btexts_k16) btexts_k17) btexts_k18) btexts_k19) btexts_k20) btexts_k21) btexts_k22) btexts_k23) btexts_k24) btexts_k25) btexts_k26) btexts_k27) btexts_k28) btexts_k29) btexts_k30) btexts_k31
set_option maxRecDepth 100000 in
theorem btexts_lifted (os : Os) (started : os.Started) (H : Type) (enc : TypeId × Value → H) :
    ReturnsInHanded {} Tryd.checked os 3 .any (fun w args => (Rows.bitsTextsMatchSpecSpec.pre enc Tryd.prog Tryd.f3 [] false w args ∧ laidMetH Tryd.prog [("unicode/utf8.acceptRanges", Rows.laid_unicode_utf8_acceptRanges), ("unicode/utf8.first", Rows.laid_unicode_utf8_first)] w) ∧ sizedMet enc Tryd.prog Tryd.f3 (OpenSpec.ofChange Rows.bitsTextsMatchSpecSpec) false w args)
      (Rows.bitsTextsMatchSpecSpec.post enc Tryd.prog Tryd.f3 false true false false) := by
  refine returnsInHanded_of_row (C := Tryd.checked) (s := OpenSpec.ofChange Rows.bitsTextsMatchSpecSpec) (F := fun _ _ _ => 0) Tryd.own started (by kernel_rfl) Tryd.func3
    (ChangeSpec.witness_shaped (enc := enc) (C := Tryd.checked) (os := os) (X := fun w _ => laidMetH Tryd.prog [("unicode/utf8.acceptRanges", Rows.laid_unicode_utf8_acceptRanges), ("unicode/utf8.first", Rows.laid_unicode_utf8_first)] w) false (World.laidAll Tryd.prog os [("unicode/utf8.acceptRanges", Rows.laid_unicode_utf8_acceptRanges), ("unicode/utf8.first", Rows.laid_unicode_utf8_first)]) #[.agg (Array.replicate 20 (.int .i64 0)), .string ByteArray.empty] 8 (World.laidAll_os _ _ _) (shaped_laid os _) (by kernel_rfl) (by kernel_rfl) (by kernel_rfl) (laid_met os _)) ?_
  intro W base args ds gs before hval0 hW _ _ hsz0 _ hsh _
  have hG : GOk W := gok_shaped hsh
  have hsz : (DataW.weightsEach Tryd.prog (Tryd.f3.params.toList ++ Rows.bitsTextsMatchSpecSpec.plain.varTypes Tryd.prog) (ds ++ gs)).all (· ≤ reachBytes) = true := hsz0
  clear hsz0 hsh
  have hval : ∀ (j : Nat) t v, Tryd.f3.params[j]? = some t → args[j]? = some v → Value.okWide Tryd.prog W .any base t v := hval0
  have hW' := hW
  obtain ⟨p, q, hA0, hV, rfl, hfz, hnd⟩ := hW
  have hA : DataW.TrodAll enc Tryd.prog W 0 (fun _ => true) true Tryd.f3.params.toList args.toList ds p := hA0
  rw [Tryd.params3] at hA hval hsz
  obtain ⟨v0, vs0, d0, ds0, p0, q0, hargs, rfl, rfl, h0, r0⟩ := trodAll_cons hA
  obtain ⟨v1, vs1, d1, ds1, p1, q1, rfl, rfl, rfl, h1, r1⟩ := trodAll_cons r0
  obtain ⟨rfl, rfl, rfl⟩ := trodAll_nil r1
  obtain rfl : args = #[v0, v1] := by cases args; simp_all
  obtain ⟨rfl, rfl⟩ := trodVars_none hV
  obtain ⟨cs0, rfl, sz0⟩ := okWide_struct Tryd.underlying25 (hval 0 25 v0 rfl rfl)
  have k0 := h0
  have lt0 : ∀ x ∈ p0, x.block < W.heap.size := by obtain ⟨m, hm⟩ := k0; exact DataW.trod_lt m _ _ _ hm
  obtain ⟨m0, b0, n0, o0, e0⟩ := open_pat sz0 h0
  subst e0
  obtain ⟨s1, rfl, rfl, rfl, w1⟩ := open_string Tryd.underlying9 (hval 1 9 v1 rfl rfl) h1
  have z1 : s1.size ≤ 140737488351232 := by
    have := sized_string hsz (j := 1) rfl rfl
    rw [bytes_size] at this
    exact this
  clear hA0 hval0
  simp only [List.append_nil] at hW'
  refine (textsLaw_any m0 b0 s1 W n0 o0 hG).mono fun e W' ⟨he, hb⟩ => ?_
  subst he
  exact ⟨_, rfl, _, _, _, [], _, [], hW', trodAll_mk1 (shut_bool Tryd.underlying4 _), (trodAll_cons_mk (Below.trod Tryd.laidOut (by kernel_rfl) (of_decide_eq_true (by kernel_rfl)) k0 hb lt0) (trodAll_cons_mk (shut_string Tryd.underlying9 w1) trodAll_mk0)), rfl, hb.frame _, fun h => by cases h⟩

theorem btexts_row : Rows.BitsTextsMatchSpecSaid :=
  OpenClaim.holds_of_wide 3 Tryd.f3 rfl rfl rfl rfl rfl rfl rfl ⟨rfl, rfl, rfl, rfl, rfl⟩ rfl rfl rfl rfl rfl (by kernel_rfl) Tryd.func3 btexts_facts
    (of_decide_eq_true (by kernel_rfl)) (by unfold Func.isWrapper; first | (rw [if_pos (by decide +kernel)]; kernel_rfl) | (rw [if_neg (by decide +kernel)]; exact ⟨rfl, rfl⟩))
    (fun os started H enc _ => btexts_lifted os started H enc)
theorem btexts_wf : Rows.bitsTextsMatchSpecRow.wfByText (OpenSpec.ofChange Rows.bitsTextsMatchSpecSpec) = true := by kernel_rfl
theorem btexts_main : Tryd.prog.mainIs = some (Rows.bitsTextsMatchSpecCard.stood.harness.1, Rows.bitsTextsMatchSpecCard.stood.harness.2.toList) := by kernel_rfl
theorem btexts_looks : true = Tryd.prog.looks [] := by kernel_rfl
theorem btexts_goes : false = Rows.bitsTextsMatchSpecRow.goesBy Tryd.prog := by kernel_rfl
theorem btexts_named : Tryd.prog.funcNamed "interlace/interlacelaw06.BitsTextsMatchSpec" = some 3 := by kernel_rfl
theorem btexts_stand : ([25, 9].all fun u => !Tryd.prog.wantsStandIn u) = true := by kernel_rfl
theorem btexts_at (f : FuncId) (fn : Func) (hf : Tryd.prog.funcNamed "interlace/interlacelaw06.BitsTextsMatchSpec" = some f) (hfn : Tryd.prog.funcs[f]? = some fn) : true = Tryd.prog.looks [] ∧ ∀ (j : Nat) t, fn.params[j]? = some t → Tryd.prog.wantsStandIn t = false := by
  obtain rfl : f = 3 := Option.some.inj (btexts_named.symm.trans hf) |>.symm
  obtain rfl : fn = Tryd.f3 := (Option.some.inj (Tryd.func3.symm.trans hfn)).symm
  exact ⟨btexts_looks, fun j t ht => by
    rw [Tryd.params3] at ht
    have hm : t ∈ [25, 9] := by simpa using Array.mem_of_getElem? ht
    exact (show Tryd.prog.wantsStandIn t = false by simpa using List.all_eq_true.1 btexts_stand t hm)⟩
theorem btexts_holds : Rows.BitsTextsMatchSpecCardSaid :=
  Claim7.holds_tied_plain_at .later [] [.data, .pinned] true _ true
    btexts_row (fun _ h => by cases h) btexts_wf (fun _ h => by cases h) bitsTextsMatchSpec_row_tie rfl ⟨rfl, rfl⟩ btexts_main rfl btexts_at btexts_goes
#print axioms btexts_holds
end Go.Proofs.YtkkgfdfjgfigcaaDoor
