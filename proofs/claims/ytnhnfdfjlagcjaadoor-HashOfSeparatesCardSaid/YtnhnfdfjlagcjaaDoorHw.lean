/-
  Contracts of the walks over chapter 2's words: hash.rotr, bits.RotateLeft32, interlaceref02.rotr. Conditions: from 1 to 31 bits.
-/
import Derived.Test.YtnhnfdfjlagcjaaDoorRows
import Derived.Test.YtnhnfdfjlagcjaaDoorHm
import Derived.WalkKit
import Derived.WalkMore
import Derived.Lib.Hide
import Derived.Outline
import Derived.Laws.BitsAllLaws
import Derived.BigQuiet
namespace Go.Proofs.YtnhnfdfjlagcjaaDoor
open Go.RowKit

/-- A byte's cell; a word's. -/
def B8 (c : UInt8) : Value := .int .u8 (c.toNat : Int)
def W32 (c : UInt32) : Value := .int .u32 (c.toNat : Int)

theorem w_xor (a b : UInt32) : bits .xor .u32 (a.toNat : Int) (b.toNat : Int) = ((a ^^^ b).toNat : Int) := by
  rw [u32_xor_nat _ _ a.toNat_lt b.toNat_lt, UInt32.toNat_xor]
theorem w_or (a b : UInt32) : bits .or .u32 (a.toNat : Int) (b.toNat : Int) = ((a ||| b).toNat : Int) := by
  rw [u32_or_nat _ _ a.toNat_lt b.toNat_lt, UInt32.toNat_or]
theorem w_and (a b : UInt32) : bits .and .u32 (a.toNat : Int) (b.toNat : Int) = ((a &&& b).toNat : Int) := by
  rw [u32_and_nat _ _ a.toNat_lt b.toNat_lt, UInt32.toNat_and]
theorem w_not (a : UInt32) : bits .xor .u32 IntKind.u32.max (a.toNat : Int) = ((~~~ a).toNat : Int) := by
  have := w_xor (~~~ 0) a
  rw [show ((~~~ (0 : UInt32)).toNat : Int) = IntKind.u32.max by decide] at this
  rw [this]
  simp
theorem w_add (a b : UInt32) : IntKind.u32.wrap ((a.toNat : Int) + (b.toNat : Int)) = ((a + b).toNat : Int) := by
  rw [IntKind.wrap_u32, UInt32.toNat_add]; omega

theorem rot_nat (x : UInt32) (n : Nat) (h1 : 1 ≤ n) (h2 : n ≤ 31) : (SM.rot x (UInt32.ofNat n)).toNat = x.toNat / 2 ^ n ||| x.toNat * 2 ^ (32 - n) % 4294967296 := by
  have e1 : (UInt32.ofNat n).toNat = n := by rw [UInt32.toNat_ofNat']; omega
  have e2 : (32 - UInt32.ofNat n).toNat = 32 - n := by
    rw [UInt32.toNat_sub, e1, show (32 : UInt32).toNat = 32 from rfl]; omega
  unfold SM.rot
  rw [UInt32.toNat_or, UInt32.toNat_shiftRight, UInt32.toNat_shiftLeft, e1, e2, Nat.mod_eq_of_lt (by omega : n < 32), Nat.mod_eq_of_lt (by omega : 32 - n < 32), Nat.shiftRight_eq_div_pow, Nat.shiftLeft_eq]
theorem rot_bits (x : UInt32) (n : Nat) (h1 : 1 ≤ n) (h2 : n ≤ 31) : bits .or .u32 ((x.toNat : Int) * 2 ^ (32 - n) % 4294967296) ((x.toNat : Int) / 2 ^ n) = ((SM.rot x (UInt32.ofNat n)).toNat : Int) := by
  have a : (x.toNat : Int) * 2 ^ (32 - n) % 4294967296 = ((x.toNat * 2 ^ (32 - n) % 4294967296 : Nat) : Int) := by
    rw [Int.natCast_emod, Int.natCast_mul, Int.natCast_pow]; rfl
  have b : (x.toNat : Int) / 2 ^ n = ((x.toNat / 2 ^ n : Nat) : Int) := by
    rw [Int.natCast_ediv, Int.natCast_pow]; rfl
  have hx := x.toNat_lt
  have hd : x.toNat / 2 ^ n < 4294967296 := Nat.lt_of_le_of_lt (Nat.div_le_self _ _) hx
  rw [a, b, u32_or_nat _ _ (by omega) hd, rot_nat x n h1 h2, Nat.or_comm]
theorem neg_mask (n : Nat) (h1 : 1 ≤ n) (h2 : n ≤ 31) : bits .and .u64 (IntKind.u64.wrap (-(n : Int))) 31 = ((32 - n : Nat) : Int) := by
  have e : IntKind.u64.wrap (-(n : Int)) = ((18446744073709551616 - n : Nat) : Int) := by rw [IntKind.wrap_u64]; omega
  have := bits_and_u64_nat (18446744073709551616 - n) 31 (by omega) (by decide)
  rw [e]
  rw [show ((31 : Nat) : Int) = 31 from rfl] at this
  rw [this, Nat.and_two_pow_sub_one_eq_mod _ 5]
  congr 1
  omega

theorem rotl_any (x : UInt32) (n : Nat) (w : World) (h1 : 1 ≤ n) (h2 : n ≤ 31) :
    Calls Tryd.prog 95 #[W32 x, .int .i64 (-(n : Int))] w fun e w' => e = .returned (W32 (SM.rot x (UInt32.ofNat n))) ∧ w = w' := by
  have hs := neg_mask n h1 h2
  have HR := Lib.hid (rot_bits x n h1 h2)
  obtain ⟨s, hsn, hs1, hs2⟩ : ∃ s, Hid (32 - n = s) ∧ 1 ≤ s ∧ s ≤ 31 := ⟨32 - n, Lib.hid rfl, by omega, by omega⟩
  rw [hsn.out] at hs
  have HS : Hid (32 - s = n) := by have := hsn.out; have g : 32 - s = n := by omega
                                   exact Lib.hid g
  unfold W32
  go_enter Tryd.func95, Tryd.ntmps95
  go_wp2
  go_ret
  refine ⟨?_, rfl⟩
  have := HR.out
  rw [hsn.out] at this
  rw [← this, HS.out]; rfl

theorem rotr_any (x : UInt32) (n : Nat) (w : World) (h1 : 1 ≤ n) (h2 : n ≤ 31) :
    Calls Tryd.prog 89 #[W32 x, .int .i64 (n : Int)] w fun e w' => e = .returned (W32 (SM.rot x (UInt32.ofNat n))) ∧ w = w' := by
  unfold W32
  go_enter Tryd.func89, Tryd.ntmps89
  go_wp2_with (go_at_call 95; refine (rotl_any x n _ h1 h2).mono ?_; rintro e w' ⟨rfl, rfl⟩)
  go_ret
  exact ⟨rfl, rfl⟩
theorem rotr_lit (x : UInt32) (n : Int) (m : Nat) (w : World) (hn : n = (m : Int)) (h : (1 ≤ m && m ≤ 31) = true) :
    Calls Tryd.prog 89 #[W32 x, .int .i64 n] w fun e w' => e = .returned (W32 (SM.rot x (UInt32.ofNat m))) ∧ w' = w := by
  subst hn
  simp at h
  exact (rotr_any x m w h.1 h.2).mono fun _ _ h => ⟨h.1, h.2.symm⟩

theorem rotr_raw (x : UInt32) (n : Int) (m : Nat) (w : World) (hn : n = (m : Int)) (h : (1 ≤ m && m ≤ 31) = true) :
    Calls Tryd.prog 89 #[.int .u32 (x.toNat : Int), .int .i64 n] w fun e w' => e = .returned (.int .u32 ((SM.rot x (UInt32.ofNat m)).toNat : Int)) ∧ w' = w := rotr_lit x n m w hn h
theorem rot_bits' (x : UInt32) (n : Nat) (h1 : 1 ≤ n) (h2 : n ≤ 31) : bits .or .u32 ((x.toNat : Int) / 2 ^ n) ((x.toNat : Int) * 2 ^ (32 - n) % 4294967296) = ((SM.rot x (UInt32.ofNat n)).toNat : Int) := by
  have a : (x.toNat : Int) * 2 ^ (32 - n) % 4294967296 = ((x.toNat * 2 ^ (32 - n) % 4294967296 : Nat) : Int) := by
    rw [Int.natCast_emod, Int.natCast_mul, Int.natCast_pow]; rfl
  have b : (x.toNat : Int) / 2 ^ n = ((x.toNat / 2 ^ n : Nat) : Int) := by
    rw [Int.natCast_ediv, Int.natCast_pow]; rfl
  have hx := x.toNat_lt
  have hd : x.toNat / 2 ^ n < 4294967296 := Nat.lt_of_le_of_lt (Nat.div_le_self _ _) hx
  rw [a, b, u32_or_nat _ _ hd (by omega), rot_nat x n h1 h2]
theorem rrotr_any (x : UInt32) (n : Nat) (w : World) (h1 : 1 ≤ n) (h2 : n ≤ 31) :
    Calls Tryd.prog 49 #[W32 x, .int .i64 (n : Int)] w fun e w' => e = .returned (W32 (SM.rot x (UInt32.ofNat n))) ∧ ∃ m, w' = w.drewN m := by
  have HR := Lib.hid (rot_bits' x n h1 h2)
  unfold W32
  go_enter Tryd.func49, Tryd.ntmps49
  go_wp2
  go_quiet (fail)
  go_wp2
  go_ret
  refine ⟨?_, _, rfl⟩
  rw [← HR.out]; rfl
theorem rrotr_lit (x : UInt32) (n : Int) (m : Nat) (w : World) (hn : n = (m : Int)) (h : (1 ≤ m && m ≤ 31) = true) :
    Calls Tryd.prog 49 #[W32 x, .int .i64 n] w fun e w' => e = .returned (W32 (SM.rot x (UInt32.ofNat m))) ∧ ∃ m, w' = w.drewN m := by
  subst hn
  simp at h
  exact rrotr_any x m w h.1 h.2

theorem rrotr_raw (x : UInt32) (n : Int) (m : Nat) (w : World) (hn : n = (m : Int)) (h : (1 ≤ m && m ≤ 31) = true) :
    Calls Tryd.prog 49 #[.int .u32 (x.toNat : Int), .int .i64 n] w fun e w' => e = .returned (.int .u32 ((SM.rot x (UInt32.ofNat m)).toNat : Int)) ∧ ∃ m, w' = w.drewN m := rrotr_lit x n m w hn h
theorem word_bits (a b c d : UInt8) : bits .or .u32 (bits .or .u32 (bits .or .u32 ((a.toNat : Int) * 16777216) ((b.toNat : Int) * 65536)) ((c.toNat : Int) * 256)) (d.toNat : Int) = ((SM.word a b c d).toNat : Int) := by
  have ha := a.toNat_lt
  have hb := b.toNat_lt
  have hc := c.toNat_lt
  have hd := d.toNat_lt
  have ea : (a.toNat : Int) * (16777216 : Int) = ((a.toUInt32 <<< 24).toNat : Int) := by
    rw [UInt32.toNat_shiftLeft, UInt8.toNat_toUInt32, Nat.shiftLeft_eq, show (24 : UInt32).toNat % 32 = 24 from rfl]; omega
  have eb : (b.toNat : Int) * (65536 : Int) = ((b.toUInt32 <<< 16).toNat : Int) := by
    rw [UInt32.toNat_shiftLeft, UInt8.toNat_toUInt32, Nat.shiftLeft_eq, show (16 : UInt32).toNat % 32 = 16 from rfl]; omega
  have ec : (c.toNat : Int) * (256 : Int) = ((c.toUInt32 <<< 8).toNat : Int) := by
    rw [UInt32.toNat_shiftLeft, UInt8.toNat_toUInt32, Nat.shiftLeft_eq, show (8 : UInt32).toNat % 32 = 8 from rfl]; omega
  have ed : (d.toNat : Int) = (d.toUInt32.toNat : Int) := by rw [UInt8.toNat_toUInt32]
  rw [show (a.toNat : Int) * 16777216 = _ from ea, show (b.toNat : Int) * 65536 = _ from eb, show (c.toNat : Int) * 256 = _ from ec, ed, w_or, w_or, w_or]
  rfl

theorem getWord_any (g o n cap : Nat) (a b c d : UInt8) (w : World) (hn : 4 ≤ n) (h0 : w.cell? ⟨g, o, none⟩ = some (B8 a)) (h1 : w.cell? ⟨g, o + 1, none⟩ = some (B8 b)) (h2 : w.cell? ⟨g, o + 2, none⟩ = some (B8 c)) (h3 : w.cell? ⟨g, o + 3, none⟩ = some (B8 d)) :
    Calls Tryd.prog 94 #[.slice (some ⟨g, o, none⟩) n cap] w fun e w' => e = .returned (W32 (SM.word a b c d)) ∧ ∃ m, w' = w.drewN m := by
  have HR := Lib.hid (word_bits a b c d)
  unfold W32
  unfold B8 at h0 h1 h2 h3
  have ha := a.toNat_lt
  have hb := b.toNat_lt
  have hc := c.toNat_lt
  have hd := d.toNat_lt
  go_enter Tryd.func94, Tryd.ntmps94
  go_wp2
  go_quiet (fail)
  go_wp2
  go_ret
  refine ⟨?_, _, rfl⟩
  rw [← HR.out]; rfl

end Go.Proofs.YtnhnfdfjlagcjaaDoor
