/-
  Contracts of the walks over the reference's decodings: GetInt, length, GetBytes. Conditions: at most 10^9 bytes.
-/
import Derived.Test.YtkbmgkaopjjkoaaListRT
namespace Go.Proofs.Ytkbmgkaopjjkoaa
open Go.RowKit

theorem val_drop_le : ∀ (l : List UInt8) (j : Nat), WM.val (l.drop j) ≤ WM.val l
  | [], j => by simp
  | c :: r, 0 => by simp
  | c :: r, j + 1 => by
    have := val_drop_le r j
    simp only [List.drop_succ_cons, WM.val]; omega
theorem val_down (l : List UInt8) (j : Nat) (h : j < l.length) : WM.val (l.drop j) = WM.val (l.drop (j + 1)) * 128 + (l.getD j 0).toNat % 128 := by
  rw [List.drop_eq_getElem_cons h]
  simp only [WM.val, List.getD_eq_getElem?_getD, List.getElem?_eq_getElem h, Option.getD_some]
  omega

/-- k bytes that go on have been counted. -/
def UpRel (l : List UInt8) (i : Value) : Prop := ∃ k : Nat, k ≤ 10 ∧ k ≤ l.length ∧ i = .int .i64 k ∧ ∀ j, j < k → 128 ≤ (l.getD j 0).toNat
/-- The digits from j on have been added up. -/
def DownRel (l : List UInt8) (k : Nat) (z i : Value) : Prop := ∃ j : Nat, j ≤ k + 1 ∧ z = .int .u64 (WM.val ((l.take (k + 1)).drop j) : Nat) ∧ ((j = 0 ∧ i = .int .i64 (-1)) ∨ ∃ q : Nat, j = q + 1 ∧ i = .int .i64 q)

set_option maxRecDepth 100000 in
set_option maxHeartbeats 3200000 in
theorem refGetInt_any (A : Option Addr) (cap : Nat) (l : List UInt8) (w : World) (hl : l.length ≤ 1000000000) (hh : Holds w A (l.map B8)) :
    Calls Try.prog 25 #[.slice A l.length cap] w (GetPost l w) := by
  go_enter Try.func25, Try.ntmps25
  go_wp2_with fail
  go_loop [5] (UpRel l) (fun i => 10 - (intOf i).toNat)
  case atStart => exact ⟨0, by omega, by omega, rfl, fun j hj => by omega⟩
  case round =>
    obtain ⟨k, hk10, hkl, rfl, hj⟩ := hrel
    have HJ := Lib.hid hj
    clear hj
    by_cases hend : k = l.length
    · -- the bytes are at their end
      have hge : ¬ (k : Int) < (l.length : Int) := by omega
      by_cases h10 : k = 10
      · have b1 : ((k : Int) == 10) = true := beq_iff_eq.2 (by omega)
        have HG := Lib.hid (WM.getI_far (WM.lead_eq 10 10 l (h10 ▸ HJ.out) (by omega) (by omega) (.inl rfl)))
        clear hend h10
        go_wp2_with fail
        go_ret3
        exact GetPost.of HG.out rfl rfl rfl
      · have b1 : ((k : Int) == 10) = false := beq_eq_false_iff_ne.2 (by omega)
        have b2 : ((k : Int) == (l.length : Int)) = true := beq_iff_eq.2 (by omega)
        have HG := Lib.hid (WM.getI_short ((WM.lead_eq 10 k l HJ.out (by omega) (by omega) (.inr (.inl hend))).trans hend) (by omega))
        clear hend
        go_wp2_with fail
        go_ret3
        exact GetPost.of HG.out rfl rfl rfl
    · have hklt : k < l.length := by omega
      have b2 : ((k : Int) == (l.length : Int)) = false := beq_eq_false_iff_ne.2 (by omega)
      by_cases h10 : k = 10
      · have b1 : ((k : Int) == 10) = true := beq_iff_eq.2 (by omega)
        have HG := Lib.hid (WM.getI_far (WM.lead_eq 10 10 l (h10 ▸ HJ.out) (by omega) (by omega) (.inl rfl)))
        have h10' : 10 ≤ k := by omega
        clear h10
        go_wp2_with fail
        go_ret3
        exact GetPost.of HG.out rfl rfl rfl
      · have b1 : ((k : Int) == 10) = false := beq_eq_false_iff_ne.2 (by omega)
        have hk9 : k < 10 := by omega
        have HH := Lib.hid hh
        obtain ⟨ad, rfl, hcell⟩ := hh.byte hklt
        clear hh
        have hc255 : (l.getD k 0).toNat < 256 := (l.getD k 0).toNat_lt
        generalize hcd : l.getD k 0 = c at hcell hc255
        have HC := Lib.hid hcd
        clear hcd
        by_cases hc : c.toNat < 128
        · have HL := Lib.hid (WM.lead_eq 10 k l HJ.out (by omega) (by omega) (.inr (.inr (by rw [HC.out]; exact hc))))
          by_cases h9 : 9 ≤ k
          · have q9 : ((k : Int) == 9) = true := beq_iff_eq.2 (by omega)
            by_cases hg : 1 < c.toNat
            · have qz : ((c.toNat : Int) == 0) = false := beq_eq_false_iff_ne.2 (by omega)
              have HG := Lib.hid (WM.getI_bad HL.out (by omega) hklt (by rw [HC.out]; simp [WM.bad]; omega))
              go_wp2_with fail
              go_ret3
              exact GetPost.of HG.out rfl rfl rfl
            · by_cases hz : c.toNat < 1
              · have qz : ((c.toNat : Int) == 0) = true := beq_iff_eq.2 (by omega)
                have HG := Lib.hid (WM.getI_bad HL.out (by omega) hklt (by rw [HC.out]; simp [WM.bad]; omega))
                go_wp2_with fail
                go_ret3
                exact GetPost.of HG.out rfl rfl rfl
              · have qz : ((c.toNat : Int) == 0) = false := beq_eq_false_iff_ne.2 (by omega)
                have hbd : WM.bad k (l.getD k 0) = false := by rw [HC.out]; simp [WM.bad]; omega
                have HG := Lib.hid (WM.getI_good HL.out (by omega) hklt hbd)
                have HV := Lib.hid (WM.val_last_lt (by omega) hklt (by rw [HC.out]; exact hc) hbd)
                clear hbd
                go_wp2_with fail
                go_loop [6, 7] (DownRel l k) (fun _ i => (intOf i + 1).toNat)
                case atStart => exact ⟨k + 1, by omega, by rw [List.drop_of_length_le (by simp; omega)]; rfl, .inr ⟨k, rfl, rfl⟩⟩
                case round =>
                  obtain ⟨j, hj, rfl, hi⟩ := hrel
                  have hv64 : WM.val ((l.take (k + 1)).drop j) < 18446744073709551616 := Nat.lt_of_le_of_lt (val_drop_le _ _) HV.out.2
                  rcases hi with ⟨rfl, rfl⟩ | ⟨q, rfl, rfl⟩
                  · have e0 : (l.take (k + 1)).drop 0 = l.take (k + 1) := List.drop_zero
                    rw [e0] at hv64 ⊢
                    generalize hZ : WM.val (l.take (k + 1)) = Z at *
                    clear hZ e0
                    by_cases hp : Z % 2 = 1
                    · have z1 : (((Z : Int) % 2) == 1) = true := beq_iff_eq.2 (by omega)
                      have HU : Hid (WM.unf Z = -1 - ((Z : Int) / 2)) := Lib.hid (by unfold WM.unf; rw [if_pos hp]; omega)
                      clear hp
                      go_wp2_with fail
                      go_ret3
                      exact GetPost.of HG.out (by rw [HU.out]; rfl) (by go_num) rfl
                    · have z1 : (((Z : Int) % 2) == 1) = false := beq_eq_false_iff_ne.2 (by omega)
                      have HU : Hid (WM.unf Z = ((Z : Int) / 2)) := Lib.hid (by unfold WM.unf; rw [if_neg hp]; omega)
                      clear hp
                      go_wp2_with fail
                      go_ret3
                      exact GetPost.of HG.out (by rw [HU.out]; rfl) (by go_num) rfl
                  · have hql : q < (l.take (k + 1)).length := by simp; omega
                    have hd := val_down (l.take (k + 1)) q hql
                    have hv2 : WM.val ((l.take (k + 1)).drop q) < 18446744073709551616 := Nat.lt_of_le_of_lt (val_drop_le _ _) HV.out.2
                    have eg : (l.take (k + 1)).getD q 0 = l.getD q 0 := by simp [List.getElem?_take, show q < k + 1 by omega]
                    rw [eg] at hd
                    obtain ⟨ad2, ea, hcq⟩ := HH.out.byte (k := q) (by omega)
                    cases ea
                    have hq255 : (l.getD q 0).toNat < 256 := (l.getD q 0).toNat_lt
                    generalize hcq2 : l.getD q 0 = cq at hcq hq255 hd
                    clear hcq2 eg
                    generalize hY : WM.val ((l.take (k + 1)).drop (q + 1)) = Y at *
                    generalize hX : WM.val ((l.take (k + 1)).drop q) = X at *
                    have HX := Lib.hid hX
                    have HD := Lib.hid hd
                    have hYX : Y * 128 + cq.toNat % 128 < 18446744073709551616 := by omega
                    have hq0 : (0 : Int) ≤ (q : Int) := by omega
                    clear hY hX hd
                    go_wp2_with fail
                    go_round
                    case rel =>
                      refine ⟨q, by omega, by rw [HX.out, HD.out]; go_num, ?_⟩
                      cases q with
                      | zero => exact .inl ⟨rfl, rfl⟩
                      | succ q => exact .inr ⟨q, rfl, by congr 1; omega⟩
                    case measure => simp [intOf]
          · have q9 : ((k : Int) == 9) = false := beq_eq_false_iff_ne.2 (by omega)
            by_cases h0 : 0 < k
            · by_cases hz : c.toNat < 1
              · have qz : ((c.toNat : Int) == 0) = true := beq_iff_eq.2 (by omega)
                have HG := Lib.hid (WM.getI_bad HL.out (by omega) hklt (by rw [HC.out]; simp [WM.bad]; omega))
                go_wp2_with fail
                go_ret3
                exact GetPost.of HG.out rfl rfl rfl
              · have qz : ((c.toNat : Int) == 0) = false := beq_eq_false_iff_ne.2 (by omega)
                have hbd : WM.bad k (l.getD k 0) = false := by rw [HC.out]; simp [WM.bad]; omega
                have HG := Lib.hid (WM.getI_good HL.out (by omega) hklt hbd)
                have HV := Lib.hid (WM.val_last_lt (by omega) hklt (by rw [HC.out]; exact hc) hbd)
                clear hbd
                go_wp2_with fail
                go_loop [6, 7] (DownRel l k) (fun _ i => (intOf i + 1).toNat)
                case atStart => exact ⟨k + 1, by omega, by rw [List.drop_of_length_le (by simp; omega)]; rfl, .inr ⟨k, rfl, rfl⟩⟩
                case round =>
                  obtain ⟨j, hj, rfl, hi⟩ := hrel
                  have hv64 : WM.val ((l.take (k + 1)).drop j) < 18446744073709551616 := Nat.lt_of_le_of_lt (val_drop_le _ _) HV.out.2
                  rcases hi with ⟨rfl, rfl⟩ | ⟨q, rfl, rfl⟩
                  · have e0 : (l.take (k + 1)).drop 0 = l.take (k + 1) := List.drop_zero
                    rw [e0] at hv64 ⊢
                    generalize hZ : WM.val (l.take (k + 1)) = Z at *
                    clear hZ e0
                    by_cases hp : Z % 2 = 1
                    · have z1 : (((Z : Int) % 2) == 1) = true := beq_iff_eq.2 (by omega)
                      have HU : Hid (WM.unf Z = -1 - ((Z : Int) / 2)) := Lib.hid (by unfold WM.unf; rw [if_pos hp]; omega)
                      clear hp
                      go_wp2_with fail
                      go_ret3
                      exact GetPost.of HG.out (by rw [HU.out]; rfl) (by go_num) rfl
                    · have z1 : (((Z : Int) % 2) == 1) = false := beq_eq_false_iff_ne.2 (by omega)
                      have HU : Hid (WM.unf Z = ((Z : Int) / 2)) := Lib.hid (by unfold WM.unf; rw [if_neg hp]; omega)
                      clear hp
                      go_wp2_with fail
                      go_ret3
                      exact GetPost.of HG.out (by rw [HU.out]; rfl) (by go_num) rfl
                  · have hql : q < (l.take (k + 1)).length := by simp; omega
                    have hd := val_down (l.take (k + 1)) q hql
                    have hv2 : WM.val ((l.take (k + 1)).drop q) < 18446744073709551616 := Nat.lt_of_le_of_lt (val_drop_le _ _) HV.out.2
                    have eg : (l.take (k + 1)).getD q 0 = l.getD q 0 := by simp [List.getElem?_take, show q < k + 1 by omega]
                    rw [eg] at hd
                    obtain ⟨ad2, ea, hcq⟩ := HH.out.byte (k := q) (by omega)
                    cases ea
                    have hq255 : (l.getD q 0).toNat < 256 := (l.getD q 0).toNat_lt
                    generalize hcq2 : l.getD q 0 = cq at hcq hq255 hd
                    clear hcq2 eg
                    generalize hY : WM.val ((l.take (k + 1)).drop (q + 1)) = Y at *
                    generalize hX : WM.val ((l.take (k + 1)).drop q) = X at *
                    have HX := Lib.hid hX
                    have HD := Lib.hid hd
                    have hYX : Y * 128 + cq.toNat % 128 < 18446744073709551616 := by omega
                    have hq0 : (0 : Int) ≤ (q : Int) := by omega
                    clear hY hX hd
                    go_wp2_with fail
                    go_round
                    case rel =>
                      refine ⟨q, by omega, by rw [HX.out, HD.out]; go_num, ?_⟩
                      cases q with
                      | zero => exact .inl ⟨rfl, rfl⟩
                      | succ q => exact .inr ⟨q, rfl, by congr 1; omega⟩
                    case measure => simp [intOf]
            · have hk0 : k ≤ 0 := by omega
              have hbd : WM.bad k (l.getD k 0) = false := by rw [HC.out]; simp [WM.bad]; omega
              have HG := Lib.hid (WM.getI_good HL.out (by omega) hklt hbd)
              have HV := Lib.hid (WM.val_last_lt (by omega) hklt (by rw [HC.out]; exact hc) hbd)
              clear hbd
              go_wp2_with fail
              go_loop [6, 7] (DownRel l k) (fun _ i => (intOf i + 1).toNat)
              case atStart => exact ⟨k + 1, by omega, by rw [List.drop_of_length_le (by simp; omega)]; rfl, .inr ⟨k, rfl, rfl⟩⟩
              case round =>
                obtain ⟨j, hj, rfl, hi⟩ := hrel
                have hv64 : WM.val ((l.take (k + 1)).drop j) < 18446744073709551616 := Nat.lt_of_le_of_lt (val_drop_le _ _) HV.out.2
                rcases hi with ⟨rfl, rfl⟩ | ⟨q, rfl, rfl⟩
                · have e0 : (l.take (k + 1)).drop 0 = l.take (k + 1) := List.drop_zero
                  rw [e0] at hv64 ⊢
                  generalize hZ : WM.val (l.take (k + 1)) = Z at *
                  clear hZ e0
                  by_cases hp : Z % 2 = 1
                  · have z1 : (((Z : Int) % 2) == 1) = true := beq_iff_eq.2 (by omega)
                    have HU : Hid (WM.unf Z = -1 - ((Z : Int) / 2)) := Lib.hid (by unfold WM.unf; rw [if_pos hp]; omega)
                    clear hp
                    go_wp2_with fail
                    go_ret3
                    exact GetPost.of HG.out (by rw [HU.out]; rfl) (by go_num) rfl
                  · have z1 : (((Z : Int) % 2) == 1) = false := beq_eq_false_iff_ne.2 (by omega)
                    have HU : Hid (WM.unf Z = ((Z : Int) / 2)) := Lib.hid (by unfold WM.unf; rw [if_neg hp]; omega)
                    clear hp
                    go_wp2_with fail
                    go_ret3
                    exact GetPost.of HG.out (by rw [HU.out]; rfl) (by go_num) rfl
                · have hql : q < (l.take (k + 1)).length := by simp; omega
                  have hd := val_down (l.take (k + 1)) q hql
                  have hv2 : WM.val ((l.take (k + 1)).drop q) < 18446744073709551616 := Nat.lt_of_le_of_lt (val_drop_le _ _) HV.out.2
                  have eg : (l.take (k + 1)).getD q 0 = l.getD q 0 := by simp [List.getElem?_take, show q < k + 1 by omega]
                  rw [eg] at hd
                  obtain ⟨ad2, ea, hcq⟩ := HH.out.byte (k := q) (by omega)
                  cases ea
                  have hq255 : (l.getD q 0).toNat < 256 := (l.getD q 0).toNat_lt
                  generalize hcq2 : l.getD q 0 = cq at hcq hq255 hd
                  clear hcq2 eg
                  generalize hY : WM.val ((l.take (k + 1)).drop (q + 1)) = Y at *
                  generalize hX : WM.val ((l.take (k + 1)).drop q) = X at *
                  have HX := Lib.hid hX
                  have HD := Lib.hid hd
                  have hYX : Y * 128 + cq.toNat % 128 < 18446744073709551616 := by omega
                  have hq0 : (0 : Int) ≤ (q : Int) := by omega
                  clear hY hX hd
                  go_wp2_with fail
                  go_round
                  case rel =>
                    refine ⟨q, by omega, by rw [HX.out, HD.out]; go_num, ?_⟩
                    cases q with
                    | zero => exact .inl ⟨rfl, rfl⟩
                    | succ q => exact .inr ⟨q, rfl, by congr 1; omega⟩
                  case measure => simp [intOf]
        · go_wp2_with fail
          go_round
          case rel =>
            refine ⟨k + 1, by omega, by omega, by go_num, fun j hj => ?_⟩
            by_cases hjk : j = k
            · rw [hjk, HC.out]; omega
            · exact HJ.out j (by omega)
          case measure => simp [intOf]; omega
end Go.Proofs.Ytkbmgkaopjjkoaa
