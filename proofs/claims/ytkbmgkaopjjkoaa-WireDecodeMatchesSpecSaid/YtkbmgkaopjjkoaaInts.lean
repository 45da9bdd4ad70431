/-
  Contracts of the walks over chapter 1's integers: wire.fold, wire.unfold, wire.addInt, wire.Int. Conditions: an integer is one of 64 bits; the row that is appended to is the call's own.
-/
import Derived.Test.YtkbmgkaopjjkoaaRows
import Derived.Test.YtkbmgkaopjjkoaaMath
import Derived.WalkKit
import Derived.Lib.Hide
import Derived.Lib.AppendStr
import Derived.Outline
import Derived.Laws.DeepNot64
namespace Go.Proofs.Ytkbmgkaopjjkoaa
open Go.RowKit

/-- A byte's cell. -/
def B8 (c : UInt8) : Value := .int .u8 (c.toNat : Int)
theorem B8_one (l : List UInt8) : ∀ u ∈ l.map B8, u.oneCell' = true := by
  intro u hu; simp only [List.mem_map] at hu; obtain ⟨c, _, rfl⟩ := hu; rfl

theorem u64_not (x : Int) (h1 : 0 ≤ x) (h2 : x ≤ 18446744073709551615) : bits .xor .u64 IntKind.u64.max x = 18446744073709551615 - x := by
  obtain ⟨a, rfl⟩ := Int.eq_ofNat_of_zero_le h1
  have e : IntKind.u64.max = ((18446744073709551615 : Nat) : Int) := rfl
  rw [e, bits_xor_u64_nat _ _ (by decide) (by omega), Nat.xor_comm]
  have hx : a ^^^ 18446744073709551615 = 18446744073709551615 - a := by
    have ha : a < 2 ^ 64 := by omega
    have e2 : (BitVec.ofNat 64 a ^^^ BitVec.allOnes 64).toNat = (~~~ BitVec.ofNat 64 a).toNat := by rw [BitVec.xor_allOnes]
    rw [BitVec.toNat_xor, BitVec.toNat_not, BitVec.toNat_allOnes, BitVec.toNat_ofNat, Nat.mod_eq_of_lt ha] at e2
    simpa using e2
  rw [hx]
  omega
theorem fold_wrap (n : Int) (h1 : -9223372036854775808 ≤ n) (h2 : n ≤ 9223372036854775807) (h : n < 0) :
    bits BinOp.xor IntKind.u64 IntKind.u64.max (IntKind.u64.wrap (IntKind.u64.wrap n * 2)) = WM.fold n := by
  rw [u64_not]
  · unfold WM.fold; rw [if_pos h]; simp only [IntKind.wrap_u64]; omega
  · simp only [IntKind.wrap_u64]; omega
  · simp only [IntKind.wrap_u64]; omega

theorem fold_any (n : Int) (w : World) (h1 : -9223372036854775808 ≤ n) (h2 : n ≤ 9223372036854775807) :
    Calls Try.prog 51 #[.int .i64 n] w fun e w' => e = .returned (.int .u64 (WM.fold n)) ∧ w = w' := by
  by_cases h : n < 0
  · have H := Lib.hid (fold_wrap n h1 h2 h)
    go_enter Try.func51, Try.ntmps51
    go_wp2
    go_ret
    exact ⟨by rw [← H.out]; rfl, rfl⟩
  · go_enter Try.func51, Try.ntmps51
    go_wp2
    go_ret
    exact ⟨by unfold WM.fold; rw [if_neg (by omega)]; show Ending.returned (.int .u64 (n * 2)) = _; rw [show (((2 * n).toNat : Nat) : Int) = n * 2 by omega], rfl⟩

theorem and_one (z : Nat) (h : z < 18446744073709551616) : bits .and .u64 (z : Int) 1 = ((z % 2 : Nat) : Int) := by
  have := bits_and_u64_nat z 1 h (by decide)
  rw [nat_mask1] at this
  exact this
theorem unfold_any (z : Nat) (w : World) (h : z < 18446744073709551616) :
    Calls Try.prog 44 #[.int .u64 z] w fun e w' => e = .returned (.int .i64 (WM.unf z)) ∧ w = w' := by
  have ha := and_one z h
  by_cases hz : z % 2 = 1
  · have hb : (bits .and .u64 (z : Int) 1 == 1) = true := by rw [ha, hz]; rfl
    have hn := i64_not (z / 2) (by omega)
    have H := Lib.hid hn
    clear ha hn
    go_enter Try.func44, Try.ntmps44
    go_wp2
    · go_ret
      refine ⟨?_, rfl⟩
      have := H.out
      unfold WM.unf; rw [if_pos hz]
      show Ending.returned (.int .i64 (bits .xor .i64 (-1) ((z : Int) / 2))) = _
      rw [← this]; rfl
  · have hb : (bits .and .u64 (z : Int) 1 == 1) = false := by rw [ha, show z % 2 = 0 by omega]; rfl
    clear ha
    go_enter Try.func44, Try.ntmps44
    go_wp2
    go_ret
    exact ⟨by unfold WM.unf; rw [if_neg hz]; rfl, rfl⟩

theorem Try.info8 : (Try.prog.info? 5).map (fun i => (i.zero, i.size, i.bytes)) = some (some (.int .u8 0), 1, 1) := by kernel_rfl

theorem or128 (z : Nat) (h : 128 ≤ z) : bits .or .u8 (IntKind.u8.wrap (z : Int)) 128 = ((UInt8.ofNat (z % 128 + 128)).toNat : Int) := by
  rw [WM.byte_hi, IntKind.wrap_u8]
  have e : ((z : Int) % 256) = ((z % 256 : Nat) : Int) := by omega
  rw [e, show (128 : Int) = ((128 : Nat) : Int) by rfl, u8_or_nat _ _ (by omega) (by decide)]
  have : z % 256 ||| 128 = z % 128 + 128 := by
    rcases Nat.lt_or_ge (z % 256) 128 with hl | hl
    · have := nat_join 7 128 (z % 256) (by decide) (by omega)
      rw [Nat.or_comm, this]; omega
    · have h1 := nat_join 7 128 (z % 256 - 128) (by decide) (by omega)
      have h2 : z % 256 = 128 ||| (z % 256 - 128) := by rw [h1]; omega
      rw [h2, Nat.or_comm, ← Nat.or_assoc, Nat.or_self, h1]; omega
  rw [this]
theorem wrap_lo (z : Nat) (h : z < 128) : IntKind.u8.wrap (z : Int) = ((UInt8.ofNat z).toNat : Int) := by
  rw [WM.byte_lo h, IntKind.wrap_u8]; omega
theorem one_cell {w : World} {u x : Value} {t : TypeId} {j : Nat} (h : [x][j]? = some u) : (w.alloc (.cells #[x] t)).cell? ((⟨w.heap.size, 0, none⟩ : Addr).add j) = some u := by
  match j, h with
  | 0, h => simp at h; subst h; simp [Addr.add]
theorem one_one {c : UInt8} : ∀ u ∈ [B8 c], u.oneCell' = true := B8_one [c]

/-- What the loop of addInt has done: z is left, pre has been appended. -/
def AddRel (base m : Nat) (xs : List Value) (n : Int) (w : World) (v z : Value) (wr : World) : Prop :=
  ∃ (Z : Nat) (pre : List UInt8), Z < 18446744073709551616 ∧ z = .int .u64 Z ∧ WM.encI n = pre ++ WM.encN Z ∧ wr.ownsRow base 5 1 v (m + pre.length) (xs ++ pre.map B8) ∧ Below base w wr

set_option maxRecDepth 100000 in
set_option maxHeartbeats 800000 in
theorem addInt_any (base : Nat) (v : Value) (m : Nat) (xs : List Value) (n : Int) (w : World) (h1 : -9223372036854775808 ≤ n) (h2 : n ≤ 9223372036854775807)
    (hown : w.ownsRow base 5 1 v m xs) (hb : base ≤ w.heap.size) (hm : m ≤ 1000000000) :
    Calls Try.prog 38 #[v, .int .i64 n] w fun e w' =>
      ∃ v', e = .returned v' ∧ w'.ownsRow base 5 1 v' (m + (WM.encI n).length) (xs ++ (WM.encI n).map B8) ∧ Below base w w' := by
  obtain ⟨i0, hi, hz0, hz1, hz2⟩ := info_parts Try.info8
  have hfl := WM.fold_lt h1 h2
  have hel : (WM.encI n).length ≤ 10 := WM.encN_le10 hfl
  go_enter Try.func38, Try.ntmps38
  go_wp2_with (go_at_call 51; refine (fold_any _ _ h1 h2).mono ?_; rintro e w' ⟨rfl, rfl⟩)
  go_loopw [0, 5] (AddRel base m xs n w) (fun _ z _ => (intOf z).toNat)
  case atStart => exact ⟨WM.fold n, [], hfl, rfl, rfl, by simpa using hown, Below.refl _ _⟩
  case round =>
    obtain ⟨Z, pre, hZ, rfl, he, hownr, hbel⟩ := hrel
    have HE := Lib.hid he
    have hpl : pre.length ≤ 10 := by rw [he] at hel; simp at hel; omega
    clear he
    have hsz := hbel.size
    by_cases hlt : Z < 128
    · go_wp2_with (at_builtin; refine wpList_append_own _ rfl _ _ 28 rfl base 5 i0 (.int .u8 0) 1 1 Try.underlying28 hi hz0 hz1 hz2 rfl (by decide) _ _ _ rfl (hownr.alloc _) ⟨wr.heap.size, 0, none⟩ 1 1 [.int .u8 (Z : Int)] rfl rfl ?c1 ?c2 ?c3 ?c4 ?c5 ?_)
      case c1 => exact fun j u hu => one_cell hu
      case c2 => intro u hu; simp at hu; subst hu; rfl
      case c3 => unfold maxLen; omega
      case c4 => omega
      case c5 => simp; omega
      intro v' w1 hown' hgrow _
      have hlt' := hownr.lt
      clear hownr
      go_wp2
      go_ret
      refine ⟨_, rfl, ?_, (hbel.alloc (by omega) _).grown hgrow (by simp; omega) (fun k hk => (hlt' k hk).1)⟩
      rw [HE.out, WM.encN_lo hlt]
      have e : (Value.int .u8 (Z : Int)) = B8 (UInt8.ofNat Z) := by unfold B8; rw [WM.byte_lo hlt]
      rw [e] at hown'
      simpa [Nat.add_assoc] using hown'
    · have HW := Lib.hid (or128 Z (by omega))
      go_wp2_with (at_builtin; refine wpList_append_own _ rfl _ _ 28 rfl base 5 i0 (.int .u8 0) 1 1 Try.underlying28 hi hz0 hz1 hz2 rfl (by decide) _ _ _ rfl (hownr.alloc _) ⟨wr.heap.size, 0, none⟩ 1 1 [.int .u8 (bits .or .u8 (IntKind.u8.wrap (Z : Int)) 128)] rfl rfl ?d1 ?d2 ?d3 ?d4 ?d5 ?_)
      case d1 => exact fun j u hu => one_cell hu
      case d2 => intro u hu; simp at hu; subst hu; rfl
      case d3 => unfold maxLen; omega
      case d4 => omega
      case d5 => simp; omega
      intro v' w1 hown' hgrow _
      have hlt' := hownr.lt
      clear hownr
      go_wp2
      go_roundw
      case rel =>
        refine ⟨Z / 128, pre ++ [UInt8.ofNat (Z % 128 + 128)], by omega, by go_num, ?_, ?_, (hbel.alloc (by omega) _).grown hgrow (by simp; omega) (fun k hk => (hlt' k hk).1)⟩
        · rw [HE.out, WM.encN_hi hlt]; simp
        · have e : (Value.int .u8 (bits .or .u8 (IntKind.u8.wrap (Z : Int)) 128)) = B8 (UInt8.ofNat (Z % 128 + 128)) := by unfold B8; rw [HW.out]
          rw [e] at hown'
          simpa [Nat.add_assoc] using hown'
      case measure => simp [intOf]; omega

/-- The contract of Int: a new row. -/
theorem int_any (n : Int) (w : World) (h1 : -9223372036854775808 ≤ n) (h2 : n ≤ 9223372036854775807) :
    Calls Try.prog 14 #[.int .i64 n] w fun e w' =>
      ∃ v', e = .returned v' ∧ w'.ownsRow w.heap.size 5 1 v' (WM.encI n).length ((WM.encI n).map B8) ∧ Below w.heap.size w w' := by
  go_enter Try.func14, Try.ntmps14
  go_wp2_with (go_at_call 38; refine (addInt_any w.heap.size _ 0 [] n _ h1 h2 (World.ownsRow_nil _ _ _ _) (Nat.le_refl _) (by decide)).mono ?_; rintro e w' ⟨v', rfl, hown, hb⟩)
  go_ret
  exact ⟨_, rfl, by simpa using hown, hb⟩
end Go.Proofs.Ytkbmgkaopjjkoaa
