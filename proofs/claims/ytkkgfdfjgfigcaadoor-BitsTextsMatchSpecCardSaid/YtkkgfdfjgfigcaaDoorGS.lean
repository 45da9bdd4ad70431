/-
  Contracts of the functions that the statement calls, part 19 of 25 (merged texts: Ma). Conditions: as the head of each part says.
-/
import Derived.Test.YtkkgfdfjgfigcaaDoorGR
import Derived.Laws.BytesArg
import Derived.Lib.ConvBytes

/-
  Bytes; contract of the walk over hex. Conditions: a word.
-/
namespace Go.Proofs.YtkkgfdfjgfigcaaDoor
set_option linter.unusedVariables false
set_option linter.unusedSimpArgs false
open Go.RowKit

def B8 (c : UInt8) : Value := .int .u8 (c.toNat : Int)
theorem B8_one (l : List UInt8) : ∀ u ∈ l.map B8, u.oneCell' = true := by
  intro u hu; simp only [List.mem_map] at hu; obtain ⟨c, _, rfl⟩ := hu; rfl
def HoldsB (w : World) (A : Option Addr) (xs : List Value) : Prop := ∀ k u, xs[k]? = some u → ∃ ad, A = some ad ∧ w.cell? (ad.add k) = some u
theorem ofNat_toNat8 (c : UInt8) : UInt8.ofNat ((c.toNat : Int)).toNat = c := by simp
/-- 'string(b)' of a slice that holds the bytes of a list. -/
theorem run_conv (w : World) (A : Option Addr) (cap : Nat) (l : List UInt8) (hh : HoldsB w A (l.map B8)) :
    (convert 100 9 (.slice A l.length cap)).run Tryd.prog w = .ok (.string ⟨l.toArray⟩) w := by
  rcases A with _ | ad
  · have hl : l = [] := by
      cases l with
      | nil => rfl
      | cons c r => obtain ⟨ad, h, _⟩ := hh 0 (B8 c) rfl; cases h
    subst hl
    rw [run_convert_bytes_nil w 100 5 Tryd.underlying100 Tryd.underlying5 _ _ 9 Tryd.underlying9]
    rfl
  · have hl : (loadCells ad l.length).run Tryd.prog w = .ok ((l.map fun c => (c.toNat : Int)).map (Value.int .u8)).toArray w := by
      have := run_loadCells_list (P := Tryd.prog) w ad (l.map B8) (fun j v hj => by
        obtain ⟨ad', e, hc⟩ := hh j v hj
        cases e
        exact hc)
      rw [List.length_map] at this
      rw [this, List.map_map]
      rfl
    rw [run_convert_bytes_string w 100 9 5 _ _ _ Tryd.underlying100 Tryd.underlying5 Tryd.underlying9, run_bytesToString w ad l.length cap _ hl, foldl_push_bytes]
    congr 2
    apply ByteArray.ext
    apply Array.toList_inj.1
    simp only [ByteArray.empty, ByteArray.emptyWithCapacity, List.map_map]
    rw [show ((fun n : Int => UInt8.ofNat n.toNat) ∘ fun c : UInt8 => (c.toNat : Int)) = id from funext ofNat_toNat8, List.map_id]
    simp
    rfl
theorem blk_conv {w : World} {g : Nat} {t : TypeId} {l : List UInt8} (h : Blk w g t (l.map B8)) {n : Nat} (hn : n = l.length) (c : Nat) : (convert 100 9 (.slice (some ⟨g, 0, none⟩) n c)).run Tryd.prog w = .ok (.string ⟨l.toArray⟩) w := by
  subst hn
  exact run_conv w _ c l fun k u hu => ⟨_, rfl, blk_add h k u hu⟩
def digs : List UInt8 := [48, 49, 50, 51, 52, 53, 54, 55, 56, 57, 97, 98, 99, 100, 101, 102]
theorem dig_at (n : Nat) (h : n < 16) (h' : n < ({ data := #[48, 49, 50, 51, 52, 53, 54, 55, 56, 57, 97, 98, 99, 100, 101, 102] } : ByteArray).size) : (({ data := #[48, 49, 50, 51, 52, 53, 54, 55, 56, 57, 97, 98, 99, 100, 101, 102] } : ByteArray)[n]'h') = digs.getD n 0 := by
  have : ∀ m : Fin 16, (({ data := #[48, 49, 50, 51, 52, 53, 54, 55, 56, 57, 97, 98, 99, 100, 101, 102] } : ByteArray)[m.1]'m.2) = digs.getD m.1 0 := by decide
  exact this ⟨n, h⟩
/-- A digit, as the program reads it. -/
def digB (n : Nat) (h : n < 16) : UInt8 := ({ data := #[48, 49, 50, 51, 52, 53, 54, 55, 56, 57, 97, 98, 99, 100, 101, 102] } : ByteArray)[n]'h
theorem digB_eq (n : Nat) (h : n < 16) : digB n h = digs.getD n 0 := dig_at n h h
/-- The four digits of a word. -/
def hexL (x : Nat) : List UInt8 := [digs.getD (x / 4096 % 16) 0, digs.getD (x / 256 % 16) 0, digs.getD (x / 16 % 16) 0, digs.getD (x / 1 % 16) 0]
def hexK (x k : Nat) : List UInt8 := (hexL x).take k ++ List.replicate (4 - k) 0
theorem and15 (y : Nat) (h : y < 65536) : bits .and .i64 (y : Int) 15 = ((y % 16 : Nat) : Int) := by
  have := and_nat y 15 h (by decide)
  rw [show ((15 : Nat) : Int) = 15 from rfl] at this
  rw [this, show y &&& 15 = y % 16 from Nat.and_two_pow_sub_one_eq_mod y 4]
theorem Tryd.sz4 : (Tryd.prog.info? 192).map (·.size) = some 4 := by kernel_rfl
theorem Tryd.sz8 : (Tryd.prog.info? 5).map (·.size) = some 1 := by kernel_rfl
theorem Tryd.zero4 : (Tryd.prog.info? 192).map (·.zero) = some (some (.agg ([0, 0, 0, 0].map B8).toArray)) := by kernel_rfl
def HexRel (x g : Nat) (w : World) (i : Value) (wr : World) : Prop := ∃ k : Nat, k ≤ 4 ∧ i = .int .i64 (k : Int) ∧ Blk wr g 192 ((hexK x k).map B8) ∧ Below w.heap.size w wr
set_option maxRecDepth 100000 in
set_option maxHeartbeats 1600000 in
theorem hex_any (x : Nat) (w : World) (hx : x < 65536) :
    Calls Tryd.prog 160 #[.int .i64 (x : Int)] w fun e w' => e = .returned (.string ⟨(hexL x).toArray⟩) ∧ Below w.heap.size w w' := by
  go_enter Tryd.func160, Tryd.ntmps160
  go_wp2_with (with_reducible refine wpList_alloc (o := ⟨some 3, .alloc 192, _, _, _, _⟩) (by with_unfolding_all rfl) 192 (by with_unfolding_all rfl) (.agg ([0, 0, 0, 0].map B8).toArray) ([0, 0, 0, 0].map B8) (by exact Tryd.zero4) (by with_unfolding_all rfl) ?_)
  intro g w1 hg hs1 hb1 hB1
  have hgl : w.heap.size ≤ g := Nat.le_of_eq hg.out.symm
  have hb1' : Below w.heap.size w w1 := hb1.mono hgl
  clear hb1 hs1 hg
  go_wp2
  go_loopw [5] (HexRel x g w) (fun i _ => 4 - (intOf i).toNat)
  case atStart => exact ⟨0, by omega, rfl, hB1, hb1'⟩
  case round =>
    obtain ⟨k, hk, rfl, hB, hbel⟩ := hrel
    clear hB1 hb1'
    by_cases hlt : k < 4
    · match k, hlt with
      | 0, _ =>
        obtain ⟨y, hy⟩ : ∃ y : Nat, Hid (x / 4096 = y) := ⟨_, rfl⟩
        have hyi : (x : Int) / 4096 = (y : Int) := by rw [← hy.out]; rfl
        have hyl : y < 65536 := by have := hy.out; omega
        have hwy : IntKind.i64.wrap (y : Int) = (y : Int) := by simp only [IntKind.wrap_i64]; omega
        have han := and15 y hyl
        have hnl : y % 16 < 16 := Nat.mod_lt _ (by decide)
        have hbk : splice ((hexK x 0).map B8) 0 [B8 (digB (y % 16) hnl)] = (hexK x 1).map B8 := by
          rw [digB_eq, ← hy.out]; rfl
        have HBK := Lib.hid hbk
        clear hbk
        obtain ⟨n, hn⟩ : ∃ n : Nat, n = y % 16 := ⟨_, rfl⟩
        have HBK' : ∃ hnl : n < 16, Hid (splice ((hexK x 0).map B8) 0 [B8 (digB n hnl)] = (hexK x 1).map B8) := ⟨by omega, by subst hn; exact HBK⟩
        obtain ⟨hnl', HBK'⟩ := HBK'
        rw [← hn] at han
        have hni : (n : Int) < 16 := by omega
        have hwn : IntKind.i64.wrap (n : Int) = (n : Int) := by simp only [IntKind.wrap_i64]; omega
        clear HBK hn hnl hy
        go_wp2_with (with_reducible refine wpList_put (o := ⟨none, .store 5 (.tmp 16) (.tmp 15), _, _, _, _⟩) (by with_unfolding_all rfl) 5 (.tmp 16) (.tmp 15) (by with_unfolding_all rfl) g 0 (by with_unfolding_all rfl) (B8 (digB n hnl')) (by with_unfolding_all rfl) hB [B8 (digB n hnl')] (by with_unfolding_all rfl) (by with_unfolding_all (exact Tryd.sz8)) (by with_unfolding_all (rw [List.length_map]; show 0 + 1 ≤ 4; omega)) (by with_unfolding_all (exact one_cell1 rfl)) ?_)
        intro w2 hu2 hB2
        rw [HBK'.out] at hB2
        have hb2 := hbel.trans (hu2.below (B := w.heap.size) hgl)
        clear hB hu2 hbel HBK'
        go_wp2
        go_roundw
        case rel => exact ⟨1, by omega, by go_num, hB2, hb2⟩
        case measure => simp [intOf]
      | 1, _ =>
        obtain ⟨y, hy⟩ : ∃ y : Nat, Hid (x / 256 = y) := ⟨_, rfl⟩
        have hyi : (x : Int) / 256 = (y : Int) := by rw [← hy.out]; rfl
        have hyl : y < 65536 := by have := hy.out; omega
        have hwy : IntKind.i64.wrap (y : Int) = (y : Int) := by simp only [IntKind.wrap_i64]; omega
        have han := and15 y hyl
        have hnl : y % 16 < 16 := Nat.mod_lt _ (by decide)
        have hbk : splice ((hexK x 1).map B8) 1 [B8 (digB (y % 16) hnl)] = (hexK x 2).map B8 := by
          rw [digB_eq, ← hy.out]; rfl
        have HBK := Lib.hid hbk
        clear hbk
        obtain ⟨n, hn⟩ : ∃ n : Nat, n = y % 16 := ⟨_, rfl⟩
        have HBK' : ∃ hnl : n < 16, Hid (splice ((hexK x 1).map B8) 1 [B8 (digB n hnl)] = (hexK x 2).map B8) := ⟨by omega, by subst hn; exact HBK⟩
        obtain ⟨hnl', HBK'⟩ := HBK'
        rw [← hn] at han
        have hni : (n : Int) < 16 := by omega
        have hwn : IntKind.i64.wrap (n : Int) = (n : Int) := by simp only [IntKind.wrap_i64]; omega
        clear HBK hn hnl hy
        go_wp2_with (with_reducible refine wpList_put (o := ⟨none, .store 5 (.tmp 16) (.tmp 15), _, _, _, _⟩) (by with_unfolding_all rfl) 5 (.tmp 16) (.tmp 15) (by with_unfolding_all rfl) g 1 (by with_unfolding_all rfl) (B8 (digB n hnl')) (by with_unfolding_all rfl) hB [B8 (digB n hnl')] (by with_unfolding_all rfl) (by with_unfolding_all (exact Tryd.sz8)) (by with_unfolding_all (rw [List.length_map]; show 1 + 1 ≤ 4; omega)) (by with_unfolding_all (exact one_cell1 rfl)) ?_)
        intro w2 hu2 hB2
        rw [HBK'.out] at hB2
        have hb2 := hbel.trans (hu2.below (B := w.heap.size) hgl)
        clear hB hu2 hbel HBK'
        go_wp2
        go_roundw
        case rel => exact ⟨2, by omega, by go_num, hB2, hb2⟩
        case measure => simp [intOf]
      | 2, _ =>
        obtain ⟨y, hy⟩ : ∃ y : Nat, Hid (x / 16 = y) := ⟨_, rfl⟩
        have hyi : (x : Int) / 16 = (y : Int) := by rw [← hy.out]; rfl
        have hyl : y < 65536 := by have := hy.out; omega
        have hwy : IntKind.i64.wrap (y : Int) = (y : Int) := by simp only [IntKind.wrap_i64]; omega
        have han := and15 y hyl
        have hnl : y % 16 < 16 := Nat.mod_lt _ (by decide)
        have hbk : splice ((hexK x 2).map B8) 2 [B8 (digB (y % 16) hnl)] = (hexK x 3).map B8 := by
          rw [digB_eq, ← hy.out]; rfl
        have HBK := Lib.hid hbk
        clear hbk
        obtain ⟨n, hn⟩ : ∃ n : Nat, n = y % 16 := ⟨_, rfl⟩
        have HBK' : ∃ hnl : n < 16, Hid (splice ((hexK x 2).map B8) 2 [B8 (digB n hnl)] = (hexK x 3).map B8) := ⟨by omega, by subst hn; exact HBK⟩
        obtain ⟨hnl', HBK'⟩ := HBK'
        rw [← hn] at han
        have hni : (n : Int) < 16 := by omega
        have hwn : IntKind.i64.wrap (n : Int) = (n : Int) := by simp only [IntKind.wrap_i64]; omega
        clear HBK hn hnl hy
        go_wp2_with (with_reducible refine wpList_put (o := ⟨none, .store 5 (.tmp 16) (.tmp 15), _, _, _, _⟩) (by with_unfolding_all rfl) 5 (.tmp 16) (.tmp 15) (by with_unfolding_all rfl) g 2 (by with_unfolding_all rfl) (B8 (digB n hnl')) (by with_unfolding_all rfl) hB [B8 (digB n hnl')] (by with_unfolding_all rfl) (by with_unfolding_all (exact Tryd.sz8)) (by with_unfolding_all (rw [List.length_map]; show 2 + 1 ≤ 4; omega)) (by with_unfolding_all (exact one_cell1 rfl)) ?_)
        intro w2 hu2 hB2
        rw [HBK'.out] at hB2
        have hb2 := hbel.trans (hu2.below (B := w.heap.size) hgl)
        clear hB hu2 hbel HBK'
        go_wp2
        go_roundw
        case rel => exact ⟨3, by omega, by go_num, hB2, hb2⟩
        case measure => simp [intOf]
      | 3, _ =>
        obtain ⟨y, hy⟩ : ∃ y : Nat, Hid (x / 1 = y) := ⟨_, rfl⟩
        obtain rfl : x = y := by have := hy.out; rw [Nat.div_one] at this; exact this
        have hyl : x < 65536 := by have := hy.out; omega
        have hwy : IntKind.i64.wrap (x : Int) = (x : Int) := by simp only [IntKind.wrap_i64]; omega
        have han := and15 x hyl
        have hnl : x % 16 < 16 := Nat.mod_lt _ (by decide)
        have hbk : splice ((hexK x 3).map B8) 3 [B8 (digB (x % 16) hnl)] = (hexK x 4).map B8 := by
          rw [digB_eq]; unfold hexK hexL; rw [Nat.div_one]; rfl
        have HBK := Lib.hid hbk
        clear hbk
        obtain ⟨n, hn⟩ : ∃ n : Nat, n = x % 16 := ⟨_, rfl⟩
        have HBK' : ∃ hnl : n < 16, Hid (splice ((hexK x 3).map B8) 3 [B8 (digB n hnl)] = (hexK x 4).map B8) := ⟨by omega, by subst hn; exact HBK⟩
        obtain ⟨hnl', HBK'⟩ := HBK'
        rw [← hn] at han
        have hni : (n : Int) < 16 := by omega
        have hwn : IntKind.i64.wrap (n : Int) = (n : Int) := by simp only [IntKind.wrap_i64]; omega
        clear HBK hn hnl hy
        go_wp2_with (with_reducible refine wpList_put (o := ⟨none, .store 5 (.tmp 16) (.tmp 15), _, _, _, _⟩) (by with_unfolding_all rfl) 5 (.tmp 16) (.tmp 15) (by with_unfolding_all rfl) g 3 (by with_unfolding_all rfl) (B8 (digB n hnl')) (by with_unfolding_all rfl) hB [B8 (digB n hnl')] (by with_unfolding_all rfl) (by with_unfolding_all (exact Tryd.sz8)) (by with_unfolding_all (rw [List.length_map]; show 3 + 1 ≤ 4; omega)) (by with_unfolding_all (exact one_cell1 rfl)) ?_)
        intro w2 hu2 hB2
        rw [HBK'.out] at hB2
        have hb2 := hbel.trans (hu2.below (B := w.heap.size) hgl)
        clear hB hu2 hbel HBK'
        go_wp2
        go_roundw
        case rel => exact ⟨4, by omega, by go_num, hB2, hb2⟩
        case measure => simp [intOf]
    · obtain rfl : k = 4 := by omega
      have hcv : ∀ c, (convert 100 9 (.slice (some ⟨g, 0, none⟩) 4 c)).run Tryd.prog wr = .ok (.string ⟨(hexL x).toArray⟩) wr := fun c => by
        have hB4 : Blk wr g 192 ((hexL x).map B8) := hB
        exact blk_conv hB4 rfl c
      clear hB
      go_wp2_with (with_reducible refine wpList_cutA (o := ⟨some 18, .slice 192 (.tmp 3) none none none, _, _, _, _⟩) ?g2 192 (.tmp 3) ?o2 g 0 ?x2 4 5 ?u2 ?i2 ?m2 ?_)
      try (case x2 => rfl)
      try (case g2 => rfl)
      try (case o2 => rfl)
      try (case u2 => exact Tryd.underlying192)
      try (case i2 => exact Tryd.sz8)
      try (case m2 => decide)
      go_wp2
      go_ret
      exact ⟨rfl, hbel⟩
end Go.Proofs.YtkkgfdfjgfigcaaDoor
