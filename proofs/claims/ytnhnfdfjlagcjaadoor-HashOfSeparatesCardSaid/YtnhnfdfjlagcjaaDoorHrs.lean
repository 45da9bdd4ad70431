/-
  Contracts of the walks over the reference's Sum. Conditions: at most 10^8 bytes; its table reads as the document has it.
-/
import Derived.Test.YtnhnfdfjlagcjaaDoorHpad
import Derived.Test.YtnhnfdfjlagcjaaDoorHrw
import Derived.Test.YtnhnfdfjlagcjaaDoorHsum
namespace Go.Proofs.YtnhnfdfjlagcjaaDoor
open Go.RowKit

/-- The reference's table reads as the document has it. -/
def LayC (w : World) : Prop := ∀ k, k < 64 → w.cell? ⟨0, k, none⟩ = some (W32 (SM.K.getD k 0))
theorem LayC.next {w w' : World} (h : LayC w) (hb : Below w.heap.size w w') : LayC w' := fun k hk => by rw [hb.cell (World.block_lt_of_cell? w _ (h k hk))]; exact h k hk
/-- Block g begins with these bytes. -/
def RowAt (w : World) (g : Nat) (p : List UInt8) : Prop := ∀ j, j < p.length → w.cell? ⟨g, j, none⟩ = some (B8 (p.getD j 0))
theorem RowAt.lt {w : World} {g : Nat} {p : List UInt8} (h : RowAt w g p) (hp : 0 < p.length) : g < w.heap.size := World.block_lt_of_cell? w _ (h 0 hp)
theorem RowAt.next {w w' : World} {B g : Nat} {p : List UInt8} (h : RowAt w g p) (hb : Below B w w') (hg : g < B) : RowAt w' g p := fun j hj => by rw [hb.cell (p := ⟨g, j, none⟩) hg]; exact h j hj
theorem RowAt.upd {w w' : World} {g g' : Nat} {p : List UInt8} (h : RowAt w g p) (hu : Upd g' w w') (hne : g ≠ g') : RowAt w' g p := fun j hj => by
  have := h j hj
  unfold World.cell? at this ⊢
  simp only [hu.block g hne]
  exact this
theorem RowAt.drewN {w : World} {g : Nat} {p : List UInt8} (h : RowAt w g p) (n : Nat) : RowAt (w.drewN n) g p := h
theorem RowAt.block {w : World} {g : Nat} {p : List UInt8} (h : RowAt w g p) (a : Nat) (ha : a + 64 ≤ p.length) : ∀ i, i < 64 → w.cell? ⟨g, a + i, none⟩ = some (B8 (((p.drop a).take 64).getD i 0)) := fun i hi => by
  rw [h (a + i) (by omega), List.getD_eq_getElem?_getD, List.getD_eq_getElem?_getD, List.getElem?_take, if_pos hi, List.getElem?_drop]
theorem rowAt_of {w : World} {g : Nat} {p : List UInt8} (h : ∀ j u, (p.map B8)[j]? = some u → w.cell? ((⟨g, 0, none⟩ : Addr).add j) = some u) : RowAt w g p := fun j hj => by
  have := h j (B8 (p.getD j 0)) (by rw [List.getElem?_map, List.getD_eq_getElem?_getD, List.getElem?_eq_getElem hj]; rfl)
  rw [addr_mid, Nat.zero_add] at this
  exact this
theorem pad_mod (l : List UInt8) : (SM.pad l).length % 64 = 0 := by
  rw [pad_eq, List.length_append, padTo_length, SM.len8_length]; unfold padZ; omega
theorem pad_len (l : List UInt8) : (SM.pad l).length ≤ l.length + 72 ∧ 0 < (SM.pad l).length := by
  rw [pad_eq, List.length_append, padTo_length, SM.len8_length]; unfold padZ; omega

theorem w_not2 (a : UInt32) : bits .xor .u32 (a.toNat : Int) 4294967295 = ((~~~ a).toNat : Int) := by
  have h := w_xor a 4294967295
  rw [show ((4294967295 : UInt32).toNat : Int) = 4294967295 from rfl] at h
  rw [h, show a ^^^ 4294967295 = ~~~ a from UInt32.toBitVec_inj.1 (by rw [UInt32.toBitVec_xor, UInt32.toBitVec_not]; exact BitVec.xor_allOnes)]
theorem ch_raw2 (e f g : UInt32) : bits .xor .u32 (bits .and .u32 (e.toNat : Int) (f.toNat : Int)) (bits .and .u32 (bits .xor .u32 (e.toNat : Int) 4294967295) (g.toNat : Int)) = ((SM.ch e f g).toNat : Int) := by
  rw [w_not2, w_and, w_and, w_xor]; rfl

theorem splice_at {α : Type} (A T : List α) (x y : α) (n : Nat) (hn : n = A.length) : splice (A ++ x :: T) n [y] = A ++ y :: T := by subst hn; unfold splice; simp
/-- The first n bytes of a digest. -/
def obRow (o : List UInt8) (n : Nat) : List Value := (o.take n ++ SM.zeros (o.length - n)).map B8
theorem obRow_length (o : List UInt8) (n : Nat) (h : n ≤ o.length) : (obRow o n).length = o.length := by unfold obRow; rw [List.length_map, List.length_append, List.length_take, SM.zeros_length]; omega
theorem obRow_snoc (o : List UInt8) (n : Nat) (h : n < o.length) : splice (obRow o n) n [B8 (o.getD n 0)] = obRow o (n + 1) := by
  have hz : SM.zeros (o.length - n) = 0 :: SM.zeros (o.length - (n + 1)) := by
    unfold SM.zeros; rw [← List.replicate_succ]; congr 1; omega
  have ht : o.take (n + 1) = o.take n ++ [o.getD n 0] := by rw [List.take_add_one, List.getD_eq_getElem?_getD, List.getElem?_eq_getElem h]; rfl
  unfold obRow
  rw [hz, ht]
  simp only [List.map_append, List.map_cons, List.append_assoc]
  rw [splice_at _ _ _ _ n (by simp; omega)]
  rfl
theorem obRow_all (o : List UInt8) : obRow o o.length = o.map B8 := by unfold obRow; rw [List.take_length, Nat.sub_self]; simp [SM.zeros]
theorem be_at (x : UInt32) (r : Nat) (h : r < 4) : B8 ((SM.be4 x).getD r 0) = .int .u8 ((x.toNat : Int) / 2 ^ (24 - 8 * r) % 256) := by
  have hx : x.toNat < 4294967296 := x.toNat_lt
  match r, h with
  | 0, _ => exact (b24 x).trans (by congr 1; rw [show (2 : Int) ^ (24 - 8 * 0) = 16777216 from rfl]; omega)
  | 1, _ => exact b16 x
  | 2, _ => exact b8 x
  | 3, _ => exact (b0 x).trans (by congr 1; rw [show (2 : Int) ^ (24 - 8 * 3) = 1 from rfl]; omega)
theorem out_split (v : SM.V) (q r : Nat) (hq : q < 8) (hr : r < 4) : (SM.out v).getD (4 * q + r) 0 = (SM.be4 (v.list.getD q 0)).getD r 0 := by
  match q, r, hq, hr with
  | 0, 0, _, _ | 0, 1, _, _ | 0, 2, _, _ | 0, 3, _, _ | 1, 0, _, _ | 1, 1, _, _ | 1, 2, _, _ | 1, 3, _, _ => rfl
  | 2, 0, _, _ | 2, 1, _, _ | 2, 2, _, _ | 2, 3, _, _ | 3, 0, _, _ | 3, 1, _, _ | 3, 2, _, _ | 3, 3, _, _ => rfl
  | 4, 0, _, _ | 4, 1, _, _ | 4, 2, _, _ | 4, 3, _, _ | 5, 0, _, _ | 5, 1, _, _ | 5, 2, _, _ | 5, 3, _, _ => rfl
  | 6, 0, _, _ | 6, 1, _, _ | 6, 2, _, _ | 6, 3, _, _ | 7, 0, _, _ | 7, 1, _, _ | 7, 2, _, _ | 7, 3, _, _ => rfl
theorem out_at (v : SM.V) (n : Nat) (h : n < 32) : B8 ((SM.out v).getD n 0) = .int .u8 (((v.list.getD (n / 4) 0).toNat : Int) / 2 ^ (24 - 8 * (n % 4)) % 256) := by
  rw [← be_at _ _ (Nat.mod_lt _ (by decide)), ← out_split v (n / 4) (n % 4) (by omega) (Nat.mod_lt _ (by decide)), Nat.div_add_mod]
end Go.Proofs.YtnhnfdfjlagcjaaDoor
