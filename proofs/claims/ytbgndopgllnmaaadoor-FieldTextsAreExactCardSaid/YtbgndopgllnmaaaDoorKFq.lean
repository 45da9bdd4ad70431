/-
  Contracts of the walks over the reference's digit and Text. Conditions: none.
-/
import Derived.Test.YtbgndopgllnmaaaDoorGP
namespace Go.Proofs.YtbgndopgllnmaaaDoor
set_option linter.unusedVariables false
set_option linter.unusedSimpArgs false
open Go.RowKit Go.Shelf

def digI8 (c : UInt8) : Int := match digV c with | some n => (n : Int) | none => -1
theorem dig_hit : ∀ (c : UInt8) (k : Nat), k < 16 → digs.getD k 0 = c → digV c = some k := by
  have h : ∀ k : Fin 16, digV (digs.getD k.1 0) = some k.1 := by decide +kernel
  intro c k hk e
  have := h ⟨k, hk⟩
  rw [e] at this
  exact this
theorem dig_back (c : UInt8) (n : Nat) (h : digV c = some n) : digs.getD n 0 = c := by
  have h2 : ∀ k : Fin 256, ∀ n : Fin 16, digV (UInt8.ofNat k.1) = some n.1 → digs.getD n.1 0 = UInt8.ofNat k.1 := by decide +kernel
  have h3 := h2 ⟨c.toNat, c.toNat_lt⟩ ⟨n, digV_lt h⟩
  simp only [UInt8.ofNat_toNat] at h3
  exact h3 h
theorem digI_hit {c : UInt8} {k : Nat} (hk : k < 16) (h : digs.getD k 0 = c) : digI8 c = (k : Int) := by
  unfold digI8; rw [dig_hit c k hk h]
theorem digI_miss {c : UInt8} (h : ∀ k, k < 16 → digs.getD k 0 ≠ c) : digI8 c = -1 := by
  unfold digI8
  cases hd : digV c with
  | none => rfl
  | some n => exact absurd (dig_back c n hd) (h n (digV_lt hd))
def DgRel (c : UInt8) (i : Value) : Prop := ∃ k : Nat, k ≤ 16 ∧ i = .int .i64 (k : Int) ∧ ∀ j, j < k → digs.getD j 0 ≠ c
set_option maxRecDepth 100000 in
set_option maxHeartbeats 1600000 in
theorem rdig8_any (c : UInt8) (w : World) :
    Calls Tryd.prog 62 #[.int .u8 (c.toNat : Int)] w fun e w' => e = .returned (.int .i64 (digI8 c)) ∧ w = w' := by
  have hs : ∀ k, k < 16 → k < ({ data := #[48, 49, 50, 51, 52, 53, 54, 55, 56, 57, 97, 98, 99, 100, 101, 102] } : ByteArray).size := fun k h => h
  obtain ⟨D, hD⟩ : ∃ D, Hid (digI8 c = D) := ⟨_, rfl⟩
  rw [hD.out]
  have H0 : Hid (DgRel c (.int .i64 0)) := (⟨0, by omega, rfl, fun j hj => absurd hj (Nat.not_lt_zero _)⟩ : DgRel c (.int .i64 0))
  go_enter Tryd.func62, Tryd.ntmps62
  go_wp2
  go_loop [3] (DgRel c) (fun i => 16 - (intOf i).toNat)
  case atStart => exact H0.out
  case round =>
    clear H0
    obtain ⟨k, hk, rfl, hno⟩ := hrel
    have HNO := Lib.hid hno
    clear hno
    by_cases hlt : k < 16
    · have hki : (k : Int) < 16 := by omega
      have hk0 : (0 : Int) ≤ (k : Int) := by omega
      have hks := hs k hlt
      obtain ⟨B, hBd⟩ : ∃ B, digs.getD k 0 = B := ⟨_, rfl⟩
      have hx : ∀ h, (({ data := #[48, 49, 50, 51, 52, 53, 54, 55, 56, 57, 97, 98, 99, 100, 101, 102] } : ByteArray))[k]'h = B := fun h => by rw [← hBd]; exact dig_at k hlt h
      by_cases he : B = c
      · subst he
        have hres : Hid (D = (k : Int)) := by
          have : D = (k : Int) := by rw [← hD.out]; exact digI_hit hlt hBd
          exact this
        clear hBd
        go_wp2
        go_ret
        exact ⟨by rw [hres.out]; rfl, rfl⟩
      · have hne : B.toNat ≠ c.toNat := fun e => he (UInt8.toNat_inj.1 e)
        have hq2 : ((B.toNat : Int) == (c.toNat : Int)) = false := beq_eq_false_iff_ne.2 (by omega)
        have hq3 : (B.toNat == c.toNat) = false := beq_eq_false_iff_ne.2 hne
        have HN : Hid (∀ j, j < k + 1 → digs.getD j 0 ≠ c) := by
          have : ∀ j, j < k + 1 → digs.getD j 0 ≠ c := fun j hj => by
            rcases (by omega : j < k ∨ j = k) with h | rfl
            · exact HNO.out j h
            · rw [hBd]; exact he
          exact this
        clear hBd he hne
        go_wp2
        go_round
        case rel => exact ⟨k + 1, by omega, by go_num, HN.out⟩
        case measure => simp [intOf]; omega
    · have h16 : k = 16 := by omega
      subst h16
      have hres : Hid (D = -1) := by
        have : D = -1 := by rw [← hD.out]; exact digI_miss HNO.out
        exact this
      go_wp2
      go_ret
      exact ⟨by rw [hres.out]; rfl, rfl⟩
end Go.Proofs.YtbgndopgllnmaaaDoor
