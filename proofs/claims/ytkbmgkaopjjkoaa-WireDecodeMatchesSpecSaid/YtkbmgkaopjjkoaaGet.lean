/-
  Contracts of the walks over chapter 1's decoding of an integer: wire.GetInt. Conditions: the slice holds the bytes of a list of at most 10^9 bytes.
-/
import Derived.Test.YtkbmgkaopjjkoaaInts
import Derived.WalkMore
namespace Go.Proofs.Ytkbmgkaopjjkoaa
open Go.RowKit

/-- What lies at a slice's address. -/
def Holds (w : World) (A : Option Addr) (xs : List Value) : Prop := ∀ k u, xs[k]? = some u → ∃ ad, A = some ad ∧ w.cell? (ad.add k) = some u
/-- What could be read can still be read. -/
def Keeps (w w' : World) : Prop := ∀ p v, w.cell? p = some v → w'.cell? p = some v
theorem Keeps.of {w w' : World} (h : Below w.heap.size w w') : Keeps w w' := fun p v hp => by rw [h.cell (World.block_lt_of_cell? w p hp)]; exact hp
theorem Holds.keep {w w' : World} {A : Option Addr} {xs : List Value} (h : Holds w A xs) (k : Keeps w w') : Holds w' A xs := fun j u hu => by
  obtain ⟨ad, e, hc⟩ := h j u hu
  exact ⟨ad, e, k _ _ hc⟩
theorem Holds.byte {w : World} {A : Option Addr} {l : List UInt8} (h : Holds w A (l.map B8)) {k : Nat} (hk : k < l.length) : ∃ ad, A = some ad ∧ w.cell? (ad.add k) = some (.int .u8 ((l.getD k 0).toNat : Int)) := by
  have hu : (l.map B8)[k]? = some (B8 (l.getD k 0)) := by simp [List.getElem?_eq_getElem hk]
  exact h k _ hu

theorem or_step (z d k : Nat) (hk : k < 10) (hz : z < 128 ^ k) (hs : z + 128 ^ k * d < 18446744073709551616) : bits .or .u64 (z : Int) (IntKind.u64.wrap ((d : Int) * 2 ^ (7 * k))) = ((z + 128 ^ k * d : Nat) : Int) := by
  have e7 : (2 : Int) ^ (7 * k) = ((128 ^ k : Nat) : Int) := by rw [Int.pow_mul]; norm_cast
  have hd : (d : Int) * 2 ^ (7 * k) = ((128 ^ k * d : Nat) : Int) := by rw [e7, Nat.mul_comm]; norm_cast
  rw [hd, IntWalk.u64_in _ ⟨by omega, by omega⟩, bits_or_u64_nat _ _ (by omega) (by omega)]
  have e2 : 128 ^ k = 2 ^ (7 * k) := by rw [Nat.pow_mul]
  have := nat_join (7 * k) (128 ^ k * d) z (by rw [e2]; exact Nat.mul_mod_right _ _) (by rw [← e2]; exact hz)
  rw [Nat.or_comm, this, Nat.add_comm]

theorem unfold_at (x : Int) (z : Nat) (w : World) (h : z < 18446744073709551616) (hx : x = z) :
    Calls Try.prog 44 #[.int .u64 x] w fun e w' => e = .returned (.int .i64 (WM.unf z)) ∧ w = w' := by
  subst hx; exact unfold_any z w h

/-- After k bytes that go on. -/
def GetRel (l : List UInt8) (z at_ : Value) : Prop :=
  ∃ (k : Nat) (Z : Int), k ≤ 10 ∧ k ≤ l.length ∧ at_ = .int .i64 k ∧ z = .int .u64 Z ∧ (∀ j, j < k → 128 ≤ (l.getD j 0).toNat) ∧ (k ≤ 9 → Z = (WM.val (l.take k) : Nat))

def GetPost (l : List UInt8) (w : World) (e : Ending) (w' : World) : Prop := e = .returned (.tuple #[.int .i64 (WM.getI l).1, .int .i64 (WM.getI l).2.1, .int .i64 (WM.getI l).2.2]) ∧ w = w'
theorem GetPost.of {l : List UInt8} {w : World} {n : Int} {u : Nat} {x : Int} (h : WM.getI l = (n, u, x)) {a b c : Value} (ha : a = .int .i64 n) (hb : b = .int .i64 u) (hc : c = .int .i64 x) : GetPost l w (.returned (.tuple #[a, b, c])) w := by
  unfold GetPost; rw [h, ha, hb, hc]; exact ⟨rfl, rfl⟩

set_option maxRecDepth 100000 in
set_option maxHeartbeats 800000 in
theorem getInt_any (A : Option Addr) (cap : Nat) (l : List UInt8) (w : World) (hl : l.length ≤ 1000000000) (hh : Holds w A (l.map B8)) :
    Calls Try.prog 24 #[.slice A l.length cap] w (GetPost l w) := by
  go_enter Try.func24, Try.ntmps24
  go_wp2_with fail
  go_step3
  go_wp2_with fail
  go_step3
  go_wp2_with fail
  go_loop [5, 6] (GetRel l) (fun _ i => 10 - (intOf i).toNat)
  case atStart => exact ⟨0, 0, by omega, by omega, rfl, rfl, fun j hj => by omega, fun _ => by simp [WM.val]⟩
  case round =>
    obtain ⟨k, Z, hk10, hkl, rfl, rfl, hj, hZ⟩ := hrel
    have HJ := Lib.hid hj
    have HZ := Lib.hid hZ
    clear hj hZ
    by_cases h10 : k = 10
    · have b1 : ((k : Int) == 10) = true := beq_iff_eq.2 (by omega)
      have HG := Lib.hid (WM.getI_far (WM.lead_eq 10 10 l (h10 ▸ HJ.out) (by omega) (by omega) (.inl rfl)))
      go_wp2_with fail
      go_ret3
      exact GetPost.of HG.out rfl rfl rfl
    · have b1 : ((k : Int) == 10) = false := beq_eq_false_iff_ne.2 (by omega)
      by_cases hend : k = l.length
      · have b2 : ((k : Int) == (l.length : Int)) = true := beq_iff_eq.2 (by omega)
        have HG := Lib.hid (WM.getI_short (WM.lead_eq 10 k l HJ.out (by omega) (by omega) (.inr (.inl hend)) |>.trans hend) (by omega))
        go_wp2_with fail
        go_ret3
        exact GetPost.of HG.out rfl rfl rfl
      · have b2 : ((k : Int) == (l.length : Int)) = false := beq_eq_false_iff_ne.2 (by omega)
        have hklt : k < l.length := by omega
        obtain ⟨ad, rfl, hcell⟩ := hh.byte hklt
        clear hh
        have hc255 : (l.getD k 0).toNat < 256 := (l.getD k 0).toNat_lt
        generalize hcd : l.getD k 0 = c at hcell hc255
        have HC := Lib.hid hcd
        clear hcd
        by_cases hc : c.toNat < 128
        · have HL := Lib.hid (WM.lead_eq 10 k l HJ.out (by omega) (by omega) (.inr (.inr (by rw [HC.out]; exact hc))))
          obtain rfl := HZ.out (by omega)
          clear HZ
          by_cases h9 : 9 ≤ k
          · have q9 : ((k : Int) == 9) = true := beq_iff_eq.2 (by omega)
            by_cases hg : 1 < c.toNat
            · have qz : ((c.toNat : Int) == 0) = false := beq_eq_false_iff_ne.2 (by omega)
              have HG := Lib.hid (WM.getI_bad HL.out (by omega) hklt (by rw [HC.out]; simp [WM.bad]; omega))
              go_wp2_with fail
              try rw [Exit.noGoto_ret]
              go_ret3
              exact GetPost.of HG.out rfl rfl rfl
            · by_cases hz : c.toNat < 1
              · have qz : ((c.toNat : Int) == 0) = true := beq_iff_eq.2 (by omega)
                have HG := Lib.hid (WM.getI_bad HL.out (by omega) hklt (by rw [HC.out]; simp [WM.bad]; omega))
                go_wp2_with fail
                try rw [Exit.noGoto_ret]
                go_ret3
                exact GetPost.of HG.out rfl rfl rfl
              · have qz : ((c.toNat : Int) == 0) = false := beq_eq_false_iff_ne.2 (by omega)
                have hbd : WM.bad k (l.getD k 0) = false := by rw [HC.out]; simp [WM.bad]; omega
                have HG := Lib.hid (WM.getI_good HL.out (by omega) hklt hbd)
                have HV := Lib.hid (WM.val_last_lt (by omega) hklt (by rw [HC.out]; exact hc) hbd)
                have HO := Lib.hid (or_step (WM.val (l.take k)) c.toNat k (by omega) WM.val_take_lt (by have := HV.out; rw [HC.out] at this; omega))
                have HO2 := Lib.hid (HO.out.trans (by have := HV.out.1; rw [HC.out] at this; rw [this] : _ = ((WM.val (l.take (k + 1)) : Nat) : Int)))
                clear hbd
                go_wp2_with (go_at_call 44; refine (unfold_at _ _ _ HV.out.2 HO2.out).mono ?_; rintro e w' ⟨rfl, rfl⟩)
                try rw [Exit.noGoto_ret]
                go_ret3
                exact GetPost.of HG.out rfl (by go_num) rfl
          · have q9 : ((k : Int) == 9) = false := beq_eq_false_iff_ne.2 (by omega)
            by_cases h0 : 0 < k
            · by_cases hz : c.toNat < 1
              · have qz : ((c.toNat : Int) == 0) = true := beq_iff_eq.2 (by omega)
                have HG := Lib.hid (WM.getI_bad HL.out (by omega) hklt (by rw [HC.out]; simp [WM.bad]; omega))
                go_wp2_with fail
                try rw [Exit.noGoto_ret]
                go_ret3
                exact GetPost.of HG.out rfl rfl rfl
              · have qz : ((c.toNat : Int) == 0) = false := beq_eq_false_iff_ne.2 (by omega)
                have hbd : WM.bad k (l.getD k 0) = false := by rw [HC.out]; simp [WM.bad]; omega
                have HG := Lib.hid (WM.getI_good HL.out (by omega) hklt hbd)
                have HV := Lib.hid (WM.val_last_lt (by omega) hklt (by rw [HC.out]; exact hc) hbd)
                have HO := Lib.hid (or_step (WM.val (l.take k)) c.toNat k (by omega) WM.val_take_lt (by have := HV.out; rw [HC.out] at this; omega))
                have HO2 := Lib.hid (HO.out.trans (by have := HV.out.1; rw [HC.out] at this; rw [this] : _ = ((WM.val (l.take (k + 1)) : Nat) : Int)))
                clear hbd
                go_wp2_with (go_at_call 44; refine (unfold_at _ _ _ HV.out.2 HO2.out).mono ?_; rintro e w' ⟨rfl, rfl⟩)
                try rw [Exit.noGoto_ret]
                go_ret3
                exact GetPost.of HG.out rfl (by go_num) rfl
            · have hbd : WM.bad k (l.getD k 0) = false := by rw [HC.out]; simp [WM.bad]; omega
              have HG := Lib.hid (WM.getI_good HL.out (by omega) hklt hbd)
              have HV := Lib.hid (WM.val_last_lt (by omega) hklt (by rw [HC.out]; exact hc) hbd)
              have HO := Lib.hid (or_step (WM.val (l.take k)) c.toNat k (by omega) WM.val_take_lt (by have := HV.out; rw [HC.out] at this; omega))
              have HO2 := Lib.hid (HO.out.trans (by have := HV.out.1; rw [HC.out] at this; rw [this] : _ = ((WM.val (l.take (k + 1)) : Nat) : Int)))
              clear hbd
              go_wp2_with (go_at_call 44; refine (unfold_at _ _ _ HV.out.2 HO2.out).mono ?_; rintro e w' ⟨rfl, rfl⟩)
              try rw [Exit.noGoto_ret]
              go_ret3
              exact GetPost.of HG.out rfl (by go_num) rfl
        · go_wp2_with fail
          go_round
          case rel =>
            refine ⟨k + 1, _, by omega, by omega, by go_num, rfl, fun j hj => ?_, fun h9 => ?_⟩
            · by_cases hjk : j = k
              · rw [hjk, HC.out]; omega
              · exact HJ.out j (by omega)
            · have e := WM.val_take l k hklt
              have hz := WM.val_take_lt (l := l) (k := k)
              have hv := WM.val_take_lt (l := l) (k := k + 1)
              have hp : 128 ^ (k + 1) ≤ 128 ^ 9 := Nat.pow_le_pow_right (by omega) (by omega)
              rw [HC.out, show c.toNat % 128 = c.toNat - 128 by omega] at e
              have ho := or_step (WM.val (l.take k)) (c.toNat - 128) k (by omega) hz (by omega)
              rw [HZ.out (by omega), e, ← ho, show ((c.toNat - 128 : Nat) : Int) = (c.toNat : Int) - 128 by omega]
          case measure => simp [intOf]; omega
end Go.Proofs.Ytkbmgkaopjjkoaa
