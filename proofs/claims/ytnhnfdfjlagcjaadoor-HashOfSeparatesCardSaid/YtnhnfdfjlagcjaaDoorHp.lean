/-
  Contracts of the walks over chapter 2's hash.putWord. Conditions: the place lies inside the variable.
-/
import Derived.Test.YtnhnfdfjlagcjaaDoorHw
import Derived.Test.YtnhnfdfjlagcjaaDoorBlk
namespace Go.Proofs.YtnhnfdfjlagcjaaDoor
open Go.RowKit

theorem Tryd.size5 : (Tryd.prog.info? 5).map (·.size) = some 1 := by kernel_rfl
theorem byte_of (x : UInt32) (n : UInt32) (k : Nat) (hk : n.toNat = k) (h : k < 32) : IntKind.u8.wrap ((x.toNat : Int) / 2 ^ k) = ((x >>> n).toUInt8.toNat : Int) := by
  rw [UInt32.toNat_toUInt8, UInt32.toNat_shiftRight, hk, Nat.mod_eq_of_lt h, Nat.shiftRight_eq_div_pow, IntKind.wrap_u8]
  rw [show (x.toNat : Int) / 2 ^ k = ((x.toNat / 2 ^ k : Nat) : Int) by rw [Int.natCast_ediv, Int.natCast_pow]; rfl]
  omega

theorem b24 (x : UInt32) : B8 (x >>> 24).toUInt8 = .int .u8 ((x.toNat : Int) / 16777216) := by
  have hx : x.toNat < 4294967296 := x.toNat_lt
  have := byte_of x 24 24 rfl (by decide)
  unfold B8; rw [← this, IntKind.wrap_u8]
  congr 1
  omega
theorem b16 (x : UInt32) : B8 (x >>> 16).toUInt8 = .int .u8 ((x.toNat : Int) / 65536 % 256) := by
  have := byte_of x 16 16 rfl (by decide)
  unfold B8; rw [← this, IntKind.wrap_u8]; rfl
theorem b8 (x : UInt32) : B8 (x >>> 8).toUInt8 = .int .u8 ((x.toNat : Int) / 256 % 256) := by
  have := byte_of x 8 8 rfl (by decide)
  unfold B8; rw [← this, IntKind.wrap_u8]; rfl
theorem b0 (x : UInt32) : B8 x.toUInt8 = .int .u8 ((x.toNat : Int) % 256) := by
  unfold B8; rw [UInt32.toNat_toUInt8]; rfl
theorem one_cell1 {v : Value} (h : v.oneCell' = true) : ∀ u ∈ [v], u.oneCell' = true := by
  intro u hu; simp at hu; subst hu; exact h

theorem putWord_any (g o n cap : Nat) (x : UInt32) (w : World) (t : TypeId) (l : List Value) (hn : 4 ≤ n) (hb : Blk w g t l) (hl : o + 4 ≤ l.length) :
    Calls Tryd.prog 52 #[.slice (some ⟨g, o, none⟩) n cap, W32 x] w fun e w' => e = .returned (.tuple #[]) ∧ Upd g w w' ∧ Blk w' g t (splice l o ((SM.be4 x).map B8)) := by
  unfold W32
  have hx : x.toNat < 4294967296 := x.toNat_lt
  go_enter Tryd.func52, Tryd.ntmps52
  go_wp2_with (with_reducible refine wpList_put (o := ⟨none, .store 5 (.tmp 19) (.tmp 10), _, _, _, _⟩) ?g1 5 (.tmp 19) (.tmp 10) ?o1 g o ?x1 (B8 (x >>> 24).toUInt8) ?y1 hb [(B8 (x >>> 24).toUInt8)] ?v1 ?i1 ?l1 ?q1 ?_)
  try (case y1 => exact (b24 x).symm)
  try (case x1 => rfl)
  try (case g1 => rfl)
  try (case o1 => rfl)
  try (case v1 => rfl)
  try (case i1 => exact Tryd.size5)
  try (case l1 => (simp; omega))
  try (case q1 => exact one_cell1 rfl)
  intro w1 hu1 hb1
  clear hb
  go_wp2_with (with_reducible refine wpList_put (o := ⟨none, .store 5 (.tmp 20) (.tmp 13), _, _, _, _⟩) ?g2 5 (.tmp 20) (.tmp 13) ?o2 g (o + 1) ?x2 (B8 (x >>> 16).toUInt8) ?y2 hb1 [(B8 (x >>> 16).toUInt8)] ?v2 ?i2 ?l2 ?q2 ?_)
  try (case y2 => exact (b16 x).symm)
  try (case x2 => rfl)
  try (case g2 => rfl)
  try (case o2 => rfl)
  try (case v2 => rfl)
  try (case i2 => exact Tryd.size5)
  try (case l2 => (simp [splice_len]; omega))
  try (case q2 => exact one_cell1 rfl)
  intro w2 hu2 hb2
  clear hb1
  go_wp2_with (with_reducible refine wpList_put (o := ⟨none, .store 5 (.tmp 21) (.tmp 16), _, _, _, _⟩) ?g3 5 (.tmp 21) (.tmp 16) ?o3 g (o + 2) ?x3 (B8 (x >>> 8).toUInt8) ?y3 hb2 [(B8 (x >>> 8).toUInt8)] ?v3 ?i3 ?l3 ?q3 ?_)
  try (case y3 => exact (b8 x).symm)
  try (case x3 => rfl)
  try (case g3 => rfl)
  try (case o3 => rfl)
  try (case v3 => rfl)
  try (case i3 => exact Tryd.size5)
  try (case l3 => (simp [splice_len]; omega))
  try (case q3 => exact one_cell1 rfl)
  intro w3 hu3 hb3
  clear hb2
  go_wp2_with (with_reducible refine wpList_put (o := ⟨none, .store 5 (.tmp 22) (.tmp 18), _, _, _, _⟩) ?g4 5 (.tmp 22) (.tmp 18) ?o4 g (o + 3) ?x4 (B8 x.toUInt8) ?y4 hb3 [(B8 x.toUInt8)] ?v4 ?i4 ?l4 ?q4 ?_)
  try (case y4 => exact (b0 x).symm)
  try (case x4 => rfl)
  try (case g4 => rfl)
  try (case o4 => rfl)
  try (case v4 => rfl)
  try (case i4 => exact Tryd.size5)
  try (case l4 => (simp [splice_len]; omega))
  try (case q4 => exact one_cell1 rfl)
  intro w4 hu4 hb4
  clear hb3
  go_wp2
  refine bodyPost_end (results_none rfl _ _ _) rfl ⟨rfl, ((hu1.trans hu2).trans hu3).trans hu4, hb4.eq ?_⟩
  rw [splice_splice l o [_] [_] (by simp; omega) _ (by simp), splice_splice l o ([_] ++ [_]) [_] (by simp; omega) _ (by simp), splice_splice l o ([_] ++ [_] ++ [_]) [_] (by simp; omega) _ (by simp)]
  rfl
end Go.Proofs.YtnhnfdfjlagcjaaDoor
