/-
  Contract of the walk over the reference's Range. Conditions: what it accepts.
-/
import Derived.Test.YtbldnhpbmfmepaaDoorKMi
import Derived.Test.YtbldnhpbmfmepaaDoorGS
import Derived.Test.YtbldnhpbmfmepaaDoorGK
namespace Go.Proofs.YtbldnhpbmfmepaaDoor
set_option linter.unusedVariables false
set_option linter.unusedSimpArgs false
open Go.RowKit

def FrRel (j hi wd : Nat) (w0 : World) (i : Value) (wr : World) : Prop := ∃ f : Nat, f ≤ wd ∧ i = .int .i64 (f : Int) ∧ freeGo j hi (17 - f) f = rfree j hi ∧ wr = w0
set_option maxRecDepth 100000 in
set_option maxHeartbeats 1600000 in
theorem rrange_any (a wd lo hi : Nat) (w : World) (h1 : 1 ≤ wd) (h2 : a % 16 + wd ≤ 16) (h3 : a + wd ≤ 160) (h4 : lo ≤ hi) (h5 : hi < 2 ^ wd) :
    Calls Tryd.prog 65 #[.int .i64 (a : Int), .int .i64 (wd : Int), .int .i64 (lo : Int), .int .i64 (hi : Int)] w fun e w' => ∃ A c, e = .returned (.tuple #[.slice A (rangeL a wd lo hi).length c, .int .i64 0]) ∧ w'.ownsRow w.heap.size 25 20 (.slice A (rangeL a wd lo hi).length c) (rangeL a wd lo hi).length (patCells (rangeL a wd lo hi)) ∧ Below w.heap.size w w' := by
  obtain ⟨i0, hi0, hz0, hz1, hz2⟩ := info_parts Tryd.infoPt
  have HI := Lib.hid hi0
  have HZ0 := Lib.hid hz0
  have HZ1 := Lib.hid hz1
  have HZ2 := Lib.hid hz2
  have hzs : (Value.agg (H no ++ H no).toArray).cells.size = 20 := by
    show (H no ++ H no).toArray.size = 20
    rw [List.size_toArray, List.length_append, H_length]
  have HZS := Lib.hid hzs
  clear hi0 hz0 hz1 hz2 hzs
  obtain ⟨R, hR⟩ : ∃ R, Hid (rangeL a wd lo hi = R) := ⟨_, rfl⟩
  rw [hR.out]
  have hw16 : wd ≤ 16 := by omega
  have hpw : 2 ^ wd ≤ 65536 := Nat.pow_le_pow_right (by decide) hw16
  have hi16 : hi < 65536 := by omega
  obtain ⟨PW, hPW⟩ : ∃ PW : Nat, Hid (2 ^ wd = PW) := ⟨_, rfl⟩
  have hhi : hi < PW := by rw [← hPW.out]; exact h5
  have hpo := fun w => rpower_any wd w hw16
  rw [hPW.out] at hpo
  have HPO := Lib.hid hpo
  obtain ⟨q, hq⟩ : ∃ q : Nat, Hid (a / 16 = q) := ⟨_, rfl⟩
  have hd1 : (a : Int).tdiv 16 = (q : Int) := by rw [Int.tdiv_eq_ediv_of_nonneg (by omega), ← hq.out]; rfl
  have hd2 : ((a : Int) + (wd : Int) - 1).tdiv 16 = (q : Int) := by rw [Int.tdiv_eq_ediv_of_nonneg (by omega), ← hq.out]; omega
  have hql : q ≤ 20 := by have := hq.out; omega
  have hw1 : IntKind.i64.wrap ((a : Int) + (wd : Int)) = (a : Int) + (wd : Int) := by simp only [IntKind.wrap_i64]; omega
  have hw2 : IntKind.i64.wrap ((a : Int) + (wd : Int) - 1) = (a : Int) + (wd : Int) - 1 := by simp only [IntKind.wrap_i64]; omega
  have hw3 : IntKind.i64.wrap (q : Int) = (q : Int) := by simp only [IntKind.wrap_i64]; omega
  have H5 := Lib.hid h5
  clear hpw h5 hpo
  have H0 : Hid (RgI a wd lo hi w lo [] none 0 w) := by
    have : RgI a wd lo hi w lo [] none 0 w := ⟨World.ownsRow_nil _ _ _ _, ⟨65537, by omega, rfl⟩, ⟨Nat.le_refl _, by omega, by simp⟩, Below.refl _ _⟩
    exact this
  go_enter Tryd.func65, Tryd.ntmps65
  have e1 : ¬ ((wd : Int) < 1) := by omega
  have e2 : ¬ ((wd : Int) > 16) := by omega
  have e3 : ¬ ((a : Int) < 0) := by omega
  have e4 : ¬ ((a : Int) > 159) := by omega
  have e6 : ¬ ((lo : Int) < 0) := by omega
  have e7 : ¬ ((lo : Int) > (hi : Int)) := by omega
  have e8 : ¬ ((hi : Int) ≥ (PW : Int)) := by omega
  have e8' : ¬ (PW ≤ hi) := by omega
  have e8d : decide (PW ≤ hi) = false := decide_eq_false e8'
  go_wp2_with fail
  (with_reducible refine (HPO.out _).mono ?_)
  rintro e w1 ⟨rfl, rfl⟩
  go_wp2
  go_loopw [10, 2] (RgRel a wd lo hi w) (fun _ i _ => hi + 1 - (intOf i).toNat)
  case atStart => exact ⟨lo, [], none, 0, rfl, rfl, H0.out⟩
  case round =>
    clear H0
    obtain ⟨j, D, A, c, rfl, rfl, hL⟩ := hrel
    have HL := Lib.hid hL
    clear hL
    by_cases hjh : j ≤ hi
    · have hji : (j : Int) ≤ (hi : Int) := by omega
      obtain ⟨m, hm⟩ : ∃ m, Hid (D.length = m) := ⟨_, rfl⟩
      have hm1 : m + 1 ≤ 65537 := by have := HL.out.lo; rw [hm.out] at this; omega
      obtain ⟨Y, hY⟩ : ∃ Y, Hid (patCells D = Y) := ⟨_, rfl⟩
      have how := HL.out.own
      rw [hm.out, hY.out] at how
      have HOW := Lib.hid how
      have HBE := Lib.hid HL.out.below
      rw [hm.out]
      clear how
      go_wp2
      go_loopw [11] (FrRel j hi wd wr) (fun i _ => wd - (intOf i).toNat)
      case atStart => exact ⟨0, by omega, rfl, rfl, rfl⟩
      case round =>
        obtain ⟨f, hf, rfl, hg, rfl⟩ := hrel
        have hg' : (if j % 2 ^ (f + 1) = 0 ∧ j + 2 ^ (f + 1) ≤ hi + 1 then freeGo j hi (16 - f) (f + 1) else f) = rfree j hi := by
          rw [← hg, show 17 - f = (16 - f) + 1 by omega]; rfl
        by_cases hlt : f < wd
        · have hfi : (f : Int) < (wd : Int) := by omega
          obtain ⟨P, hP⟩ : ∃ P : Nat, 2 ^ (f + 1) = P := ⟨_, rfl⟩
          have hPl : P ≤ 65536 := by rw [← hP]; exact Nat.pow_le_pow_right (by decide) (by omega : f + 1 ≤ 16)
          have hP1 : 1 ≤ P := by rw [← hP]; exact Nat.one_le_two_pow
          have hpo : ∀ w, Calls Tryd.prog 97 #[.int .i64 ((f : Int) + 1)] w fun e w' => e = .returned (.int .i64 (P : Int)) ∧ w = w' := fun w => by
            have := rpower_any (f + 1) w (by omega)
            rw [hP] at this
            exact this
          have HP := Lib.hid hpo
          rw [hP] at hg'
          obtain ⟨r, hr⟩ : ∃ r : Nat, j % P = r := ⟨_, rfl⟩
          have hrd : (j : Int).tmod (P : Int) = (r : Int) := by rw [Int.tmod_eq_emod_of_nonneg (by omega), ← hr]; rfl
          have hrl : r ≤ j := by rw [← hr]; exact Nat.mod_le _ _
          have hwr : IntKind.i64.wrap (r : Int) = (r : Int) := by simp only [IntKind.wrap_i64]; omega
          have hwf : IntKind.i64.wrap ((f : Int) + 1) = (f : Int) + 1 := by simp only [IntKind.wrap_i64]; omega
          have hwa : IntKind.i64.wrap ((j : Int) + (P : Int)) = (j : Int) + (P : Int) := by simp only [IntKind.wrap_i64]; omega
          have hwb : IntKind.i64.wrap ((j : Int) + (P : Int) - 1) = (j : Int) + (P : Int) - 1 := by simp only [IntKind.wrap_i64]; omega
          have hPz : ¬ ((P : Int) = 0) := by omega
          have hPz' : ¬ (P = 0) := by omega
          rw [hr] at hg'
          have HG := Lib.hid hg'
          clear hg' hg hP hpo hr
          by_cases hr0 : r = 0
          · subst hr0
            by_cases hle : j + P ≤ hi + 1
            · have hli : (j : Int) + (P : Int) - 1 ≤ (hi : Int) := by omega
              have HG2 : Hid (freeGo j hi (16 - f) (f + 1) = rfree j hi) := by
                have : freeGo j hi (16 - f) (f + 1) = rfree j hi := by
                  have := HG.out
                  rwa [if_pos ⟨rfl, hle⟩] at this
                exact this
              go_wp2_with fail
              (with_reducible refine (HP.out _).mono ?_)
              rintro e w2 ⟨rfl, rfl⟩
              go_wp2_with fail
              (with_reducible refine (HP.out _).mono ?_)
              rintro e w3 ⟨rfl, rfl⟩
              go_wp2
              go_roundw
              case rel => exact ⟨f + 1, by omega, by go_num, by rw [show 17 - (f + 1) = 16 - f by omega]; exact HG2.out, rfl⟩
              case measure => simp [intOf]; omega
            · have hli : ¬ ((j : Int) + (P : Int) - 1 ≤ (hi : Int)) := by omega
              go_wp2_with fail
              (with_reducible refine (HP.out _).mono ?_)
              rintro e w2 ⟨rfl, rfl⟩
              go_wp2_with fail
              (with_reducible refine (HP.out _).mono ?_)
              rintro e w3 ⟨rfl, rfl⟩
              have hfe1 : rfree j hi = f := by have := HG.out; rw [if_neg (fun hc => hle hc.2)] at this; exact this.symm
              have hfr : Hid (rfree j hi = f) := Lib.hid hfe1
              obtain ⟨fx, hfx⟩ : ∃ fx : Nat, Hid (wd - f = fx) := ⟨_, rfl⟩
              have hfxI : (wd : Int) - (f : Int) = (fx : Int) := by rw [← hfx.out]; omega
              have hwfx : IntKind.i64.wrap (fx : Int) = (fx : Int) := by have := hfx.out; simp only [IntKind.wrap_i64]; omega
              obtain ⟨X, hX⟩ : ∃ X, Hid (Pat.pre a wd j fx = X) := ⟨_, rfl⟩
              obtain ⟨Z, hZ⟩ : ∃ Z : Nat, Hid (2 ^ f = Z) := ⟨_, rfl⟩
              have hpf := fun w => rpower_any f w (by omega)
              rw [hZ.out] at hpf
              have HPF := Lib.hid hpf
              have hpr := fun w => rprefix_any a wd fx j w (by have := hfx.out; omega) (by omega) (by omega) (by omega)
              rw [hX.out] at hpr
              have HPR := Lib.hid hpr
              have hfs := rfree_spec hjh hi16
              rw [hfr.out, hZ.out] at hfs
              have HFS := Lib.hid hfs
              have hjZ : j + Z ≤ hi + 1 := HFS.out.2.2
              have hZ1 : 1 ≤ Z := by rw [← hZ.out]; exact Nat.one_le_two_pow
              have hwj : IntKind.i64.wrap ((j : Int) + (Z : Int)) = (j : Int) + (Z : Int) := by simp only [IntKind.wrap_i64]; omega
              clear hpf hpr hfs
              go_wp2_with fail
              (with_reducible refine (HPR.out _).mono ?_)
              rintro e w5 ⟨rfl, hb5⟩
              have HOW5 := Lib.hid (own_keep HOW.out (fun g hg => hb5.block g (HOW.out.lt g hg).2))
              have HBE5 := Lib.hid (below_join HBE.out hb5)
              clear hb5 HPR
              go_wp2_with (with_reducible refine wpList_slicePat (o := ⟨some 85, .buildSlice 31 1 #[(0, .tmp 84)], _, _, _, _⟩) (by with_unfolding_all rfl) (.tmp 84) (by with_unfolding_all rfl) X.cells (by with_unfolding_all rfl) (Pat.cells_length _) ?_)
              intro g80 w8 hg80 hb8 hB80
              have HOW8 := Lib.hid (own_keep HOW5.out (fun g hg => hb8.block g (HOW5.out.lt g hg).2))
              have HNW := Lib.hid (blk_add hB80)
              have HBE8 := Lib.hid (below_join HBE5.out hb8)
              have hxl : X.cells.length = 1 * 20 := by rw [Pat.cells_length]
              have HXL := Lib.hid hxl
              have hmx : m + 1 ≤ maxLen := by unfold maxLen; omega
              have HMX := Lib.hid hmx
              have hby : (m + 1) * 160 ≤ 140737488355328 := by omega
              have HBY := Lib.hid hby
              have HBC := Lib.hid HBE8.out.size
              clear hxl hmx hby hB80 hg80 hb8
              go_wp2_with (with_reducible refine wpList_appendN w8 (o := ⟨some 86, .call ⟨.builtin .append, #[.tmp 77, .tmp 85], #[31, 31]⟩, _, _, _, _⟩) (by with_unfolding_all rfl) (.tmp 77) (.tmp 85) 31 (by with_unfolding_all rfl) w.heap.size 25 i0 (.agg (H no ++ H no).toArray) 20 160 Tryd.underlying31 HI.out HZ0.out HZ1.out HZ2.out HZS.out (by decide) (.slice A m c) m Y (by with_unfolding_all rfl) HOW8.out ⟨g80, 0, none⟩ 1 1 X.cells (by with_unfolding_all rfl) HXL.out HNW.out (cells_one _) HMX.out HBY.out HBC.out ?_)
              intro v9 w9 hown9 hgr9 hnew9
              obtain ⟨A9, c9, rfl, _⟩ := own_shape hown9
              have hb9 := HBE8.out.grown hgr9 HBC.out (fun g hg => (HOW8.out.lt g hg).1)
              have hDl : (D ++ [X]).length = m + 1 := by rw [List.length_append, List.length_singleton, hm.out]
              have hall : ∃ f, 65536 < f + (j + Z) ∧ (D ++ [X]) ++ rangeGo a wd hi f (j + Z) = rangeL a wd lo hi := by
                obtain ⟨u, hf1, hf2⟩ := HL.out.all
                obtain ⟨u, rfl⟩ : ∃ u', u = u' + 1 := ⟨u - 1, by omega⟩
                refine ⟨u, by omega, ?_⟩
                rw [← hf2]
                show _ = D ++ (if j ≤ hi then Pat.pre a wd j (wd - rfree j hi) :: rangeGo a wd hi u (j + 2 ^ rfree j hi) else [])
                rw [if_pos hjh, hfr.out, hfx.out, hX.out, hZ.out, List.append_assoc]; rfl
              have hI9 : RgI a wd lo hi w (j + Z) (D ++ [X]) A9 c9 w9 := ⟨by rw [hDl, patCells_snoc, hY.out]; exact hown9, hall, by rw [hDl]; have := HL.out.lo; rw [hm.out] at this; omega, hb9⟩
              have HI9 := Lib.hid hI9
              have HDL := Lib.hid hDl
              clear hown9 hgr9 hnew9 hb9 hDl hall hI9 HOW HOW5 HOW8 HL
              go_wp2_with fail
              (with_reducible refine (HPF.out _).mono ?_)
              rintro e w10 ⟨rfl, rfl⟩
              go_wp2
              go_roundw
              case rel => exact ⟨j + Z, D ++ [X], A9, c9, by go_num, by rw [HDL.out], HI9.out⟩
              case measure => simp [intOf]; omega
          · have hri : ¬ ((r : Int) = 0) := by omega
            go_wp2_with fail
            (with_reducible refine (HP.out _).mono ?_)
            rintro e w2 ⟨rfl, rfl⟩
            have hfe2 : rfree j hi = f := by have := HG.out; rw [if_neg (fun hc => hr0 hc.1)] at this; exact this.symm
            have hfr : Hid (rfree j hi = f) := Lib.hid hfe2
            obtain ⟨fx, hfx⟩ : ∃ fx : Nat, Hid (wd - f = fx) := ⟨_, rfl⟩
            have hfxI : (wd : Int) - (f : Int) = (fx : Int) := by rw [← hfx.out]; omega
            have hwfx : IntKind.i64.wrap (fx : Int) = (fx : Int) := by have := hfx.out; simp only [IntKind.wrap_i64]; omega
            obtain ⟨X, hX⟩ : ∃ X, Hid (Pat.pre a wd j fx = X) := ⟨_, rfl⟩
            obtain ⟨Z, hZ⟩ : ∃ Z : Nat, Hid (2 ^ f = Z) := ⟨_, rfl⟩
            have hpf := fun w => rpower_any f w (by omega)
            rw [hZ.out] at hpf
            have HPF := Lib.hid hpf
            have hpr := fun w => rprefix_any a wd fx j w (by have := hfx.out; omega) (by omega) (by omega) (by omega)
            rw [hX.out] at hpr
            have HPR := Lib.hid hpr
            have hfs := rfree_spec hjh hi16
            rw [hfr.out, hZ.out] at hfs
            have HFS := Lib.hid hfs
            have hjZ : j + Z ≤ hi + 1 := HFS.out.2.2
            have hZ1 : 1 ≤ Z := by rw [← hZ.out]; exact Nat.one_le_two_pow
            have hwj : IntKind.i64.wrap ((j : Int) + (Z : Int)) = (j : Int) + (Z : Int) := by simp only [IntKind.wrap_i64]; omega
            clear hpf hpr hfs
            go_wp2_with fail
            (with_reducible refine (HPR.out _).mono ?_)
            rintro e w5 ⟨rfl, hb5⟩
            have HOW5 := Lib.hid (own_keep HOW.out (fun g hg => hb5.block g (HOW.out.lt g hg).2))
            have HBE5 := Lib.hid (below_join HBE.out hb5)
            clear hb5 HPR
            go_wp2_with (with_reducible refine wpList_slicePat (o := ⟨some 85, .buildSlice 31 1 #[(0, .tmp 84)], _, _, _, _⟩) (by with_unfolding_all rfl) (.tmp 84) (by with_unfolding_all rfl) X.cells (by with_unfolding_all rfl) (Pat.cells_length _) ?_)
            intro g80 w8 hg80 hb8 hB80
            have HOW8 := Lib.hid (own_keep HOW5.out (fun g hg => hb8.block g (HOW5.out.lt g hg).2))
            have HNW := Lib.hid (blk_add hB80)
            have HBE8 := Lib.hid (below_join HBE5.out hb8)
            have hxl : X.cells.length = 1 * 20 := by rw [Pat.cells_length]
            have HXL := Lib.hid hxl
            have hmx : m + 1 ≤ maxLen := by unfold maxLen; omega
            have HMX := Lib.hid hmx
            have hby : (m + 1) * 160 ≤ 140737488355328 := by omega
            have HBY := Lib.hid hby
            have HBC := Lib.hid HBE8.out.size
            clear hxl hmx hby hB80 hg80 hb8
            go_wp2_with (with_reducible refine wpList_appendN w8 (o := ⟨some 86, .call ⟨.builtin .append, #[.tmp 77, .tmp 85], #[31, 31]⟩, _, _, _, _⟩) (by with_unfolding_all rfl) (.tmp 77) (.tmp 85) 31 (by with_unfolding_all rfl) w.heap.size 25 i0 (.agg (H no ++ H no).toArray) 20 160 Tryd.underlying31 HI.out HZ0.out HZ1.out HZ2.out HZS.out (by decide) (.slice A m c) m Y (by with_unfolding_all rfl) HOW8.out ⟨g80, 0, none⟩ 1 1 X.cells (by with_unfolding_all rfl) HXL.out HNW.out (cells_one _) HMX.out HBY.out HBC.out ?_)
            intro v9 w9 hown9 hgr9 hnew9
            obtain ⟨A9, c9, rfl, _⟩ := own_shape hown9
            have hb9 := HBE8.out.grown hgr9 HBC.out (fun g hg => (HOW8.out.lt g hg).1)
            have hDl : (D ++ [X]).length = m + 1 := by rw [List.length_append, List.length_singleton, hm.out]
            have hall : ∃ f, 65536 < f + (j + Z) ∧ (D ++ [X]) ++ rangeGo a wd hi f (j + Z) = rangeL a wd lo hi := by
              obtain ⟨u, hf1, hf2⟩ := HL.out.all
              obtain ⟨u, rfl⟩ : ∃ u', u = u' + 1 := ⟨u - 1, by omega⟩
              refine ⟨u, by omega, ?_⟩
              rw [← hf2]
              show _ = D ++ (if j ≤ hi then Pat.pre a wd j (wd - rfree j hi) :: rangeGo a wd hi u (j + 2 ^ rfree j hi) else [])
              rw [if_pos hjh, hfr.out, hfx.out, hX.out, hZ.out, List.append_assoc]; rfl
            have hI9 : RgI a wd lo hi w (j + Z) (D ++ [X]) A9 c9 w9 := ⟨by rw [hDl, patCells_snoc, hY.out]; exact hown9, hall, by rw [hDl]; have := HL.out.lo; rw [hm.out] at this; omega, hb9⟩
            have HI9 := Lib.hid hI9
            have HDL := Lib.hid hDl
            clear hown9 hgr9 hnew9 hb9 hDl hall hI9 HOW HOW5 HOW8 HL
            go_wp2_with fail
            (with_reducible refine (HPF.out _).mono ?_)
            rintro e w10 ⟨rfl, rfl⟩
            go_wp2
            go_roundw
            case rel => exact ⟨j + Z, D ++ [X], A9, c9, by go_num, by rw [HDL.out], HI9.out⟩
            case measure => simp [intOf]; omega
        · have hfw : f = wd := by omega
          have hno : ¬ (j + 2 ^ (f + 1) ≤ hi + 1) := fun hc => by
            have := H5.out
            rw [Nat.pow_succ, hfw] at hc
            omega
          have hfi : ¬ ((f : Int) < (wd : Int)) := by omega
          rw [if_neg (fun hc => hno hc.2)] at hg'
          have HG := Lib.hid hg'
          clear hg' hg hno hfw
          have hfe3 : rfree j hi = f := HG.out.symm
          have hfr : Hid (rfree j hi = f) := Lib.hid hfe3
          obtain ⟨fx, hfx⟩ : ∃ fx : Nat, Hid (wd - f = fx) := ⟨_, rfl⟩
          have hfxI : (wd : Int) - (f : Int) = (fx : Int) := by rw [← hfx.out]; omega
          have hwfx : IntKind.i64.wrap (fx : Int) = (fx : Int) := by have := hfx.out; simp only [IntKind.wrap_i64]; omega
          obtain ⟨X, hX⟩ : ∃ X, Hid (Pat.pre a wd j fx = X) := ⟨_, rfl⟩
          obtain ⟨Z, hZ⟩ : ∃ Z : Nat, Hid (2 ^ f = Z) := ⟨_, rfl⟩
          have hpf := fun w => rpower_any f w (by omega)
          rw [hZ.out] at hpf
          have HPF := Lib.hid hpf
          have hpr := fun w => rprefix_any a wd fx j w (by have := hfx.out; omega) (by omega) (by omega) (by omega)
          rw [hX.out] at hpr
          have HPR := Lib.hid hpr
          have hfs := rfree_spec hjh hi16
          rw [hfr.out, hZ.out] at hfs
          have HFS := Lib.hid hfs
          have hjZ : j + Z ≤ hi + 1 := HFS.out.2.2
          have hZ1 : 1 ≤ Z := by rw [← hZ.out]; exact Nat.one_le_two_pow
          have hwj : IntKind.i64.wrap ((j : Int) + (Z : Int)) = (j : Int) + (Z : Int) := by simp only [IntKind.wrap_i64]; omega
          clear hpf hpr hfs
          go_wp2_with fail
          (with_reducible refine (HPR.out _).mono ?_)
          rintro e w5 ⟨rfl, hb5⟩
          have HOW5 := Lib.hid (own_keep HOW.out (fun g hg => hb5.block g (HOW.out.lt g hg).2))
          have HBE5 := Lib.hid (below_join HBE.out hb5)
          clear hb5 HPR
          go_wp2_with (with_reducible refine wpList_slicePat (o := ⟨some 85, .buildSlice 31 1 #[(0, .tmp 84)], _, _, _, _⟩) (by with_unfolding_all rfl) (.tmp 84) (by with_unfolding_all rfl) X.cells (by with_unfolding_all rfl) (Pat.cells_length _) ?_)
          intro g80 w8 hg80 hb8 hB80
          have HOW8 := Lib.hid (own_keep HOW5.out (fun g hg => hb8.block g (HOW5.out.lt g hg).2))
          have HNW := Lib.hid (blk_add hB80)
          have HBE8 := Lib.hid (below_join HBE5.out hb8)
          have hxl : X.cells.length = 1 * 20 := by rw [Pat.cells_length]
          have HXL := Lib.hid hxl
          have hmx : m + 1 ≤ maxLen := by unfold maxLen; omega
          have HMX := Lib.hid hmx
          have hby : (m + 1) * 160 ≤ 140737488355328 := by omega
          have HBY := Lib.hid hby
          have HBC := Lib.hid HBE8.out.size
          clear hxl hmx hby hB80 hg80 hb8
          go_wp2_with (with_reducible refine wpList_appendN w8 (o := ⟨some 86, .call ⟨.builtin .append, #[.tmp 77, .tmp 85], #[31, 31]⟩, _, _, _, _⟩) (by with_unfolding_all rfl) (.tmp 77) (.tmp 85) 31 (by with_unfolding_all rfl) w.heap.size 25 i0 (.agg (H no ++ H no).toArray) 20 160 Tryd.underlying31 HI.out HZ0.out HZ1.out HZ2.out HZS.out (by decide) (.slice A m c) m Y (by with_unfolding_all rfl) HOW8.out ⟨g80, 0, none⟩ 1 1 X.cells (by with_unfolding_all rfl) HXL.out HNW.out (cells_one _) HMX.out HBY.out HBC.out ?_)
          intro v9 w9 hown9 hgr9 hnew9
          obtain ⟨A9, c9, rfl, _⟩ := own_shape hown9
          have hb9 := HBE8.out.grown hgr9 HBC.out (fun g hg => (HOW8.out.lt g hg).1)
          have hDl : (D ++ [X]).length = m + 1 := by rw [List.length_append, List.length_singleton, hm.out]
          have hall : ∃ f, 65536 < f + (j + Z) ∧ (D ++ [X]) ++ rangeGo a wd hi f (j + Z) = rangeL a wd lo hi := by
            obtain ⟨u, hf1, hf2⟩ := HL.out.all
            obtain ⟨u, rfl⟩ : ∃ u', u = u' + 1 := ⟨u - 1, by omega⟩
            refine ⟨u, by omega, ?_⟩
            rw [← hf2]
            show _ = D ++ (if j ≤ hi then Pat.pre a wd j (wd - rfree j hi) :: rangeGo a wd hi u (j + 2 ^ rfree j hi) else [])
            rw [if_pos hjh, hfr.out, hfx.out, hX.out, hZ.out, List.append_assoc]; rfl
          have hI9 : RgI a wd lo hi w (j + Z) (D ++ [X]) A9 c9 w9 := ⟨by rw [hDl, patCells_snoc, hY.out]; exact hown9, hall, by rw [hDl]; have := HL.out.lo; rw [hm.out] at this; omega, hb9⟩
          have HI9 := Lib.hid hI9
          have HDL := Lib.hid hDl
          clear hown9 hgr9 hnew9 hb9 hDl hall hI9 HOW HOW5 HOW8 HL
          go_wp2_with fail
          (with_reducible refine (HPF.out _).mono ?_)
          rintro e w10 ⟨rfl, rfl⟩
          go_wp2
          go_roundw
          case rel => exact ⟨j + Z, D ++ [X], A9, c9, by go_num, by rw [HDL.out], HI9.out⟩
          case measure => simp [intOf]; omega
    · have hji : ¬ ((j : Int) ≤ (hi : Int)) := by omega
      have hDR : Hid (D = R) := by
        have : D = R := by
          obtain ⟨f, hf1, hf2⟩ := HL.out.all
          rw [rangeGo_none a wd hi (by omega), List.append_nil, hR.out] at hf2
          exact hf2
        exact this
      obtain rfl := hDR.out
      have HO := Lib.hid HL.out.own
      have HBE := Lib.hid HL.out.below
      go_wp2
      go_ret2
      exact ⟨A, c, rfl, HO.out, HBE.out⟩
end Go.Proofs.YtbldnhpbmfmepaaDoor
