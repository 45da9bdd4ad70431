/-
  The statement RatioCertifies of layer 7 holds of the program: what Solve returns is a solution, or shows that there is none; nothing is both. Conditions: the tables and the two errors of the library read as Go lays them.
-/
import Derived.Test.YthjaelopmfjfeaaDoorOw
import Derived.Test.YthjaelopmfjfeaaDoorTie
import Derived.Test.YthjaelopmfjfeaaDoorCards
import Derived.SevenTiedAt
import Derived.Test.YthjaelopmfjfeaaDoorZd
namespace Go.Proofs.YthjaelopmfjfeaaDoor
set_option linter.unusedVariables false
set_option linter.unusedSimpArgs false
open Go.ChangeShapes Go.WideShapes Go.ChangeAt Go.RowKit
open Go.ChangeMaps (open_string shut_string)

theorem and_t {a b : Bool} (h : a = true) (k : b = true) : (a && b) = true := by rw [h, k]; rfl
theorem rcert_k0 : (Rows.ratioCertifiesRow.wf (OpenSpec.ofChange Rows.ratioCertifiesSpec)) = true := by kernel_rfl
theorem rcert_k1 : (laidOutB Tryd.prog) = true := by kernel_rfl
theorem rcert_k2 : (mapsRowed Tryd.prog) = true := by kernel_rfl
theorem rcert_k3 : (Tryd.f9.params.all (Tryd.prog.readableRec ·)) = true := by kernel_rfl
theorem rcert_k4 : (namedTie Tryd.prog Rows.ratioCertifiesRow.named Rows.ratioCertifiesSpec.vars) = true := by kernel_rfl
theorem rcert_k5 : ((Rows.ratioCertifiesRow.stops == [])) = true := by kernel_rfl
theorem rcert_k6 : ((Tryd.prog.stops == [])) = true := by kernel_rfl
theorem rcert_k7 : ((Rows.ratioCertifiesRow.knobs == [])) = true := by kernel_rfl
theorem rcert_k8 : ((Tryd.prog.stopKnobs == [])) = true := by kernel_rfl
theorem rcert_k9 : ((Rows.ratioCertifiesRow.inPlace == Tryd.prog.inPlace 9)) = true := by kernel_rfl
theorem rcert_k10 : ((Rows.ratioCertifiesRow.unfollowed == Tryd.prog.unfollowed 9)) = true := by kernel_rfl
theorem rcert_k11 : ((Rows.ratioCertifiesRow.recurses == Tryd.prog.recurses 9)) = true := by kernel_rfl
theorem rcert_k12 : ((Rows.ratioCertifiesRow.named == Tryd.prog.varsNamed 9)) = true := by kernel_rfl
theorem rcert_k13 : ((Rows.ratioCertifiesRow.maps == (Tryd.f9.params.toList ++ Rows.ratioCertifiesSpec.plain.varTypes Tryd.prog).any (Tryd.prog.mapsRec ·))) = true := by kernel_rfl
theorem rcert_k14 : ((Rows.ratioCertifiesRow.ifaces == (Tryd.f9.params.toList ++ Rows.ratioCertifiesSpec.plain.varTypes Tryd.prog).any (Tryd.prog.ifacesRec ·))) = true := by kernel_rfl
theorem rcert_k15 : ((Rows.ratioCertifiesRow.mapsOut == Tryd.prog.mapsAmong Tryd.f9.resultTypes.toList)) = true := by kernel_rfl
theorem rcert_k16 : ((Rows.ratioCertifiesRow.loops == (Tryd.f9.params.toList ++ Rows.ratioCertifiesSpec.plain.varTypes Tryd.prog).any (Tryd.prog.loopsFrom ·))) = true := by kernel_rfl
theorem rcert_k17 : ((Rows.ratioCertifiesRow.wideKeys == (Tryd.f9.params.toList ++ Rows.ratioCertifiesSpec.plain.varTypes Tryd.prog ++ Tryd.f9.resultTypes.toList).any (Tryd.prog.wideKeysFrom ·))) = true := by kernel_rfl
theorem rcert_k18 : (Rows.ratioCertifiesSpec.vars.all (Tryd.prog.varReadable ·)) = true := by kernel_rfl
theorem rcert_k19 : (Tryd.f9.resultTypes.all (fun t => Tryd.prog.readableRec t && decide (t < Tryd.prog.types.size))) = true := by kernel_rfl
theorem rcert_k20 : ((Rows.ratioCertifiesRow.ifacesOut == Tryd.f9.resultTypes.toList.any (Tryd.prog.ifacesRec ·))) = true := by kernel_rfl
theorem rcert_k21 : ((Rows.ratioCertifiesRow.loopsOut == Tryd.f9.resultTypes.toList.any (Tryd.prog.loopsFrom ·))) = true := by kernel_rfl
theorem rcert_k22 : ((Rows.ratioCertifiesRow.plainKeys == Tryd.prog.plainKeys)) = true := by kernel_rfl
theorem rcert_k23 : (Rows.ratioCertifiesRow.shortTexts.isNone) = true := by kernel_rfl
theorem rcert_k24 : (Tryd.prog.stopsHeard) = true := by kernel_rfl
theorem rcert_k25 : (Tryd.prog.mayEnter) = true := by kernel_rfl
theorem rcert_k26 : ((Rows.ratioCertifiesRow.lifted == Tryd.prog.liftsFinal)) = true := by kernel_rfl
theorem rcert_k27 : ((Tryd.prog.make == some Rows.ratioCertifiesRow.make)) = true := by kernel_rfl
theorem rcert_k28 : ((Rows.ratioCertifiesRow.kinds == (if Rows.ratioCertifiesRow.domain.isEmpty then [] else Tryd.f9.params.toList.map fun t => match Tryd.prog.underlying t with | some (.int k) => some k | _ => none))) = true := by kernel_rfl
theorem rcert_k29 : ((Rows.ratioCertifiesRow.pinned == Rows.ratioCertifiesRow.pinnedBy)) = true := by kernel_rfl
theorem rcert_k30 : ((Rows.ratioCertifiesRow.veiled == (Tryd.f9.params.toList ++ Rows.ratioCertifiesSpec.plain.varTypes Tryd.prog ++ Tryd.f9.resultTypes.toList).any (Tryd.prog.veiledRec ·))) = true := by kernel_rfl
theorem rcert_k31 : (Rows.ratioCertifiesRow.veiledFits Tryd.prog Tryd.f9.params.toList (Tryd.f9.params.toList ++ Rows.ratioCertifiesSpec.plain.varTypes Tryd.prog ++ Tryd.f9.resultTypes.toList)) = true := by kernel_rfl
set_option maxRecDepth 100000 in
theorem rcert_facts : joinedFacts Tryd.prog 9 Tryd.f9 Rows.ratioCertifiesSpec Rows.ratioCertifiesRow = true := and_t (and_t (and_t (and_t (and_t (and_t (and_t (and_t (and_t (and_t (and_t (and_t (and_t (and_t (and_t (and_t (and_t (and_t (and_t (and_t (and_t (and_t (and_t (and_t (and_t (and_t (and_t (and_t (and_t (and_t (and_t rcert_k0 rcert_k1) rcert_k2) rcert_k3) rcert_k4) rcert_k5) rcert_k6) rcert_k7) rcert_k8) rcert_k9) rcert_k10) rcert_k11) rcert_k12) rcert_k13) rcert_k14) rcert_k15) rcert_k16) rcert_k17) rcert_k18) rcert_k19) rcert_k20) rcert_k21) rcert_k22) rcert_k23) rcert_k24) rcert_k25) rcert_k26) rcert_k27) rcert_k28) rcert_k29) rcert_k30) rcert_k31
set_option maxRecDepth 100000 in
theorem rcert_lifted (os : Os) (started : os.Started) (H : Type) (enc : TypeId × Value → H) :
    ReturnsInHanded {} Tryd.checked os 9 .any (fun w args => (Rows.ratioCertifiesSpec.pre enc Tryd.prog Tryd.f9 [] false w args ∧ laidMetH Tryd.prog [("math/bits.deBruijn32tab", Rows.laid_math_bits_deBruijn32tab), ("math/bits.deBruijn64tab", Rows.laid_math_bits_deBruijn64tab), ("internal/strconv.uint64pow10", Rows.laid_internal_strconv_uint64pow10), ("strconv.ErrRange", Rows.laid_strconv_ErrRange), ("strconv.ErrSyntax", Rows.laid_strconv_ErrSyntax)] w) ∧ sizedMet enc Tryd.prog Tryd.f9 (OpenSpec.ofChange Rows.ratioCertifiesSpec) false w args)
      (Rows.ratioCertifiesSpec.post enc Tryd.prog Tryd.f9 false true false false) := by
  refine returnsInHanded_of_row (C := Tryd.checked) (s := OpenSpec.ofChange Rows.ratioCertifiesSpec) (F := fun _ _ _ => 0) Tryd.own started (by kernel_rfl) Tryd.func9
    (ChangeSpec.witness_shaped (enc := enc) (C := Tryd.checked) (os := os) (X := fun w _ => laidMetH Tryd.prog [("math/bits.deBruijn32tab", Rows.laid_math_bits_deBruijn32tab), ("math/bits.deBruijn64tab", Rows.laid_math_bits_deBruijn64tab), ("internal/strconv.uint64pow10", Rows.laid_internal_strconv_uint64pow10), ("strconv.ErrRange", Rows.laid_strconv_ErrRange), ("strconv.ErrSyntax", Rows.laid_strconv_ErrSyntax)] w) false (World.laidAll Tryd.prog os [("math/bits.deBruijn32tab", Rows.laid_math_bits_deBruijn32tab), ("math/bits.deBruijn64tab", Rows.laid_math_bits_deBruijn64tab), ("internal/strconv.uint64pow10", Rows.laid_internal_strconv_uint64pow10), ("strconv.ErrRange", Rows.laid_strconv_ErrRange), ("strconv.ErrSyntax", Rows.laid_strconv_ErrSyntax)]) #[.slice none 0 0, .slice none 0 0, .slice none 0 0, .slice none 0 0] 8 (World.laidAll_os _ _ _) (shaped_laid os _) (by kernel_rfl) (by kernel_rfl) (by kernel_rfl) (laid_met os _)) ?_
  intro W base args ds gs before hval0 hW _ _ hsz0 hL hsh _
  have hQ : QW W := qw_of_laid hL
  have hsz : (DataW.weightsEach Tryd.prog (Tryd.f9.params.toList ++ Rows.ratioCertifiesSpec.plain.varTypes Tryd.prog) (ds ++ gs)).all (· ≤ reachBytes) = true := hsz0
  clear hsz0 hsh
  have hval : ∀ (j : Nat) t v, Tryd.f9.params[j]? = some t → args[j]? = some v → Value.okWide Tryd.prog W .any base t v := hval0
  have hW' := hW
  obtain ⟨p, q, hA0, hV, rfl, hfz, hnd⟩ := hW
  have hA : DataW.TrodAll enc Tryd.prog W 0 (fun _ => true) true Tryd.f9.params.toList args.toList ds p := hA0
  rw [Tryd.params9] at hA hval hsz
  obtain ⟨v0, vs0, d0, ds0, p0, q0, hargs, rfl, rfl, h0, r0⟩ := trodAll_cons hA
  obtain ⟨v1, vs1, d1, ds1, p1, q1, rfl, rfl, rfl, h1, r1⟩ := trodAll_cons r0
  obtain ⟨v2, vs2, d2, ds2, p2, q2, rfl, rfl, rfl, h2, r2⟩ := trodAll_cons r1
  obtain ⟨v3, vs3, d3, ds3, p3, q3, rfl, rfl, rfl, h3, r3⟩ := trodAll_cons r2
  obtain ⟨rfl, rfl, rfl⟩ := trodAll_nil r3
  obtain rfl : args = #[v0, v1, v2, v3] := by cases args; simp_all
  obtain ⟨rfl, rfl⟩ := trodVars_none hV
  obtain ⟨a0, len0, cap0, rfl, nn0, cc0⟩ := okWide_sliceN Tryd.underlying45 (hval 0 45 v0 rfl rfl)
  have k0 := h0
  have lt0 : ∀ x ∈ p0, x.block < W.heap.size := by obtain ⟨m, hm⟩ := k0; exact DataW.trod_lt m _ _ _ hm
  obtain ⟨l0, e0, H0, G0, L0⟩ := open_rows h0
  have z0 := L0.reach hsz (j := 0) (b := 24) rfl rfl Tryd.underlying45 (by kernel_rfl)
  subst e0
  obtain ⟨a1, len1, cap1, rfl, nn1, cc1⟩ := okWide_sliceN Tryd.underlying40 (hval 1 40 v1 rfl rfl)
  have k1 := h1
  have lt1 : ∀ x ∈ p1, x.block < W.heap.size := by obtain ⟨m, hm⟩ := k1; exact DataW.trod_lt m _ _ _ hm
  obtain ⟨l1, e1, H1, L1⟩ := open_ratios h1
  have z1 := L1.reach hsz (j := 1) (b := 16) rfl rfl Tryd.underlying40 (by kernel_rfl)
  subst e1
  obtain ⟨a2, len2, cap2, rfl, nn2, cc2⟩ := okWide_sliceN Tryd.underlying40 (hval 2 40 v2 rfl rfl)
  have k2 := h2
  have lt2 : ∀ x ∈ p2, x.block < W.heap.size := by obtain ⟨m, hm⟩ := k2; exact DataW.trod_lt m _ _ _ hm
  obtain ⟨l2, e2, H2, L2⟩ := open_ratios h2
  have z2 := L2.reach hsz (j := 2) (b := 16) rfl rfl Tryd.underlying40 (by kernel_rfl)
  subst e2
  obtain ⟨a3, len3, cap3, rfl, nn3, cc3⟩ := okWide_sliceN Tryd.underlying40 (hval 3 40 v3 rfl rfl)
  have k3 := h3
  have lt3 : ∀ x ∈ p3, x.block < W.heap.size := by obtain ⟨m, hm⟩ := k3; exact DataW.trod_lt m _ _ _ hm
  obtain ⟨l3, e3, H3, L3⟩ := open_ratios h3
  have z3 := L3.reach hsz (j := 3) (b := 16) rfl rfl Tryd.underlying40 (by kernel_rfl)
  subst e3
  clear hA0 hval0
  simp only [List.append_nil] at hW'
  refine (certLaw_any a0 a1 a2 a3 cap0 cap1 cap2 cap3 l0 l1 l2 l3 W (by omega) (by omega) (by omega) (by omega) cc1 H0 G0 H1 H2 H3 hQ).mono fun e W' ⟨he, hb⟩ => ?_
  subst he
  exact ⟨_, rfl, _, _, _, [], _, [], hW', trodAll_mk1 (shut_bool Tryd.underlying4 _), (trodAll_cons_mk (Below.trod Tryd.laidOut (by kernel_rfl) (of_decide_eq_true (by kernel_rfl)) k0 hb lt0) (trodAll_cons_mk (Below.trod Tryd.laidOut (by kernel_rfl) (of_decide_eq_true (by kernel_rfl)) k1 hb lt1) (trodAll_cons_mk (Below.trod Tryd.laidOut (by kernel_rfl) (of_decide_eq_true (by kernel_rfl)) k2 hb lt2) (trodAll_cons_mk (Below.trod Tryd.laidOut (by kernel_rfl) (of_decide_eq_true (by kernel_rfl)) k3 hb lt3) trodAll_mk0)))), rfl, hb.frame _, fun h => by cases h⟩

theorem rcert_row : Rows.RatioCertifiesSaid :=
  OpenClaim.holds_of_wide 9 Tryd.f9 rfl rfl rfl rfl rfl rfl rfl ⟨rfl, rfl, rfl, rfl, rfl⟩ rfl rfl rfl rfl rfl (by kernel_rfl) Tryd.func9 rcert_facts
    (of_decide_eq_true (by kernel_rfl)) (by unfold Func.isWrapper; first | (rw [if_pos (by decide +kernel)]; kernel_rfl) | (rw [if_neg (by decide +kernel)]; exact ⟨rfl, rfl⟩))
    (fun os started H enc _ => rcert_lifted os started H enc)
theorem rcert_wf : Rows.ratioCertifiesRow.wfByText (OpenSpec.ofChange Rows.ratioCertifiesSpec) = true := by kernel_rfl
theorem rcert_main : Tryd.prog.mainIs = some (Rows.ratioCertifiesCard.stood.harness.1, Rows.ratioCertifiesCard.stood.harness.2.toList) := by kernel_rfl
theorem rcert_looks : true = Tryd.prog.looks [] := by kernel_rfl
theorem rcert_goes : false = Rows.ratioCertifiesRow.goesBy Tryd.prog := by kernel_rfl
theorem rcert_named : Tryd.prog.funcNamed "interlace/interlacelaw07.RatioCertifies" = some 9 := by kernel_rfl
theorem rcert_stand : ([45, 40, 40, 40].all fun u => !Tryd.prog.wantsStandIn u) = true := by kernel_rfl
theorem rcert_at (f : FuncId) (fn : Func) (hf : Tryd.prog.funcNamed "interlace/interlacelaw07.RatioCertifies" = some f) (hfn : Tryd.prog.funcs[f]? = some fn) : true = Tryd.prog.looks [] ∧ ∀ (j : Nat) t, fn.params[j]? = some t → Tryd.prog.wantsStandIn t = false := by
  obtain rfl : f = 9 := Option.some.inj (rcert_named.symm.trans hf) |>.symm
  obtain rfl : fn = Tryd.f9 := (Option.some.inj (Tryd.func9.symm.trans hfn)).symm
  exact ⟨rcert_looks, fun j t ht => by
    rw [Tryd.params9] at ht
    have hm : t ∈ [45, 40, 40, 40] := by simpa using Array.mem_of_getElem? ht
    exact (show Tryd.prog.wantsStandIn t = false by simpa using List.all_eq_true.1 rcert_stand t hm)⟩
theorem rcert_holds : Rows.RatioCertifiesCardSaid :=
  Claim7.holds_tied_plain_at .later [] [.data, .data, .data, .sentinel, .sentinel] true _ true
    rcert_row (fun _ h => by cases h) rcert_wf (fun _ h => by cases h) ratioCertifies_row_tie rfl ⟨rfl, rfl⟩ rcert_main rfl rcert_at rcert_goes
#print axioms rcert_holds
end Go.Proofs.YthjaelopmfjfeaaDoor
