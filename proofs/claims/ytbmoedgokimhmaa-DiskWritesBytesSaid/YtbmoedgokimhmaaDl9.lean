/-
  Rot in plain words: which byte of which page turns; twice is nothing. Bytes of strings. Conditions: none.
-/
import Derived.Test.YtbmoedgokimhmaaDl0
import Derived.BigQuiet
namespace Go.Proofs.Ytbmoedgokimhmaa
open Go.RowKit

theorem str_at (l : List UInt8) (k : Nat) (y : UInt8) (hy : l[k]? = some y) : ∀ h : k < (⟨l.toArray⟩ : ByteArray).size, (⟨l.toArray⟩ : ByteArray)[k]'h = y := fun h => by
  have h1 : k < l.length := (List.getElem?_eq_some_iff.1 hy).1
  have h2 := (List.getElem?_eq_some_iff.1 hy).2
  exact h2
theorem DM.ext {M N : DM} (h1 : M.ps = N.ps) (h2 : M.up = N.up) (h3 : M.trip = N.trip) : M = N := by
  cases M; cases N; cases h1; cases h2; cases h3; rfl
theorem DM.flip_flip (l : List UInt8) (b : Nat) (h : b / 8 < l.length) : DM.flip (DM.flip l b) b = l := by
  obtain ⟨y, hy⟩ : ∃ y, l[b / 8]? = some y := ⟨_, List.getElem?_eq_getElem h⟩
  unfold DM.flip
  rw [List.set_set, List.getD_eq_getElem?_getD, List.getD_eq_getElem?_getD, List.getElem?_set_self h, hy]
  simp only [Option.getD_some]
  rw [UInt8.xor_assoc, UInt8.xor_self, UInt8.xor_zero]
  apply List.ext_getElem?
  intro i
  by_cases hi : i = b / 8
  · subst hi
    rw [List.getElem?_set_self h, hy]
  · rw [List.getElem?_set_ne (fun e => hi e.symm)]
theorem rot_page {M : DM} {i b : Nat} (hi : i < M.ps.length) (hb : b < 1024) (k : Nat) (hk : k < M.ps.length) : ((M.rot (i : Int) (b : Int)).page k).old = if k = i then DM.flip (M.page k).old b else (M.page k).old := by
  have hfit : (M.okP (i : Int) && decide (0 ≤ (b : Int) ∧ (b : Int) < 1024)) = true := by
    unfold DM.okP
    rw [Bool.and_eq_true, decide_eq_true_eq, decide_eq_true_eq]; omega
  rw [(rot_good hfit).2, Int.toNat_natCast, Int.toNat_natCast]
  by_cases h : k = i
  · subst h
    rw [page_set_self hk, if_pos rfl]
  · rw [page_set_ne (fun e => h e.symm), if_neg h]
theorem rot_twice {M : DM} (hM : M.ok) {i b : Nat} (hi : i < M.ps.length) (hb : b < 1024) : (M.rot (i : Int) (b : Int)).rot (i : Int) (b : Int) = M := by
  have hfit : (M.okP (i : Int) && decide (0 ≤ (b : Int) ∧ (b : Int) < 1024)) = true := by
    unfold DM.okP
    rw [Bool.and_eq_true, decide_eq_true_eq, decide_eq_true_eq]; omega
  have hfit2 : ((M.rot (i : Int) (b : Int)).okP (i : Int) && decide (0 ≤ (b : Int) ∧ (b : Int) < 1024)) = true := by
    unfold DM.okP
    rw [DM.rot_len, Bool.and_eq_true, decide_eq_true_eq, decide_eq_true_eq]; omega
  rw [(rot_good hfit2).2, (rot_good hfit).2, Int.toNat_natCast, Int.toNat_natCast, page_set_self hi]
  simp only
  rw [DM.flip_flip _ _ (by rw [(DM.page_ok hM hi).1]; omega)]
  refine DM.ext ?_ rfl rfl
  show (M.ps.set i _).set i _ = M.ps
  rw [List.set_set]
  apply List.ext_getElem?
  intro k
  by_cases hk : k = i
  · subst hk
    rw [List.getElem?_set_self hi, DM.page_at hi]
  · rw [List.getElem?_set_ne (fun e => hk e.symm)]
/-- The byte that Rot leaves at a place. -/
theorem rot_byte {l : List UInt8} (hl : l.length = 128) (b nn : Nat) (hn : nn < 128) : ∃ y y2 : UInt8, l[nn]? = some y ∧ (DM.flip l b)[nn]? = some y2 ∧ (nn = b / 8 → bits .xor .u8 (y.toNat : Int) ((2 : Int) ^ (b % 8)) = (y2.toNat : Int)) ∧ (nn ≠ b / 8 → y2 = y) := by
  obtain ⟨y, hy⟩ : ∃ y, l[nn]? = some y := ⟨_, List.getElem?_eq_getElem (by omega)⟩
  by_cases h : nn = b / 8
  · refine ⟨y, y ^^^ UInt8.ofNat (2 ^ (b % 8)), hy, ?_, fun _ => ?_, fun h2 => absurd h h2⟩
    · unfold DM.flip
      rw [← h, List.getElem?_set_self (by omega), List.getD_eq_getElem?_getD, hy]; rfl
    · have := u8_xor y (UInt8.ofNat (2 ^ (b % 8)))
      rw [pow_byte (b % 8) (by omega)] at this
      rw [← this, Int.natCast_pow]; rfl
  · refine ⟨y, y, hy, ?_, fun h2 => absurd h2 h, fun _ => rfl⟩
    unfold DM.flip
    rw [List.getElem?_set_ne (fun e => h e.symm), hy]
theorem below_drewN {B : Nat} {a w : World} (h : Below B a w) (n : Nat) : Below B a (w.drewN n) := ⟨h.os, h.tape, h.output, h.size, h.block⟩
def InRel (w6 : World) (i : Value) (wr : World) : Prop := ∃ m : Nat, m ≤ 128 ∧ i = .int .i64 m ∧ Below w6.heap.size w6 wr
theorem xor_none (y : UInt8) : bits .xor .u8 (y.toNat : Int) 0 = (y.toNat : Int) := by
  have := u8_xor y 0
  rw [UInt8.xor_zero] at this
  exact this
theorem image_blk {w : World} {gi : Nat} {M : DM} (h : Blk w gi 9 (M.image.map S8)) {k : Nat} (hk : k < M.ps.length) : w.cell? ⟨gi, k, none⟩ = some (.string ⟨(M.page k).old.toArray⟩) := by
  refine h.cell ?_
  rw [List.getElem?_map, image_at hk]; rfl
end Go.Proofs.Ytbmoedgokimhmaa
