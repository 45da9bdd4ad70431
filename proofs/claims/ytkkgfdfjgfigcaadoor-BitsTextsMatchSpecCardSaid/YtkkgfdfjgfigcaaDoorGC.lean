/-
  Contracts of the functions that the statement calls, part 3 of 25 (merged texts: Bb, Bo, Bp). Conditions: as the head of each part says.
-/
import Derived.Test.YtkkgfdfjgfigcaaDoorRows
import Derived.Test.YtkkgfdfjgfigcaaDoorGA
import Derived.Test.YtkkgfdfjgfigcaaDoorGB
import Derived.WalkKit
import Derived.WalkMore
import Derived.Lib.Hide
import Derived.Outline
import Derived.BigQuiet
import Derived.Laws.BytesArg
import Derived.Laws.StructEq
import Derived.Deep.QuietTactic
import Derived.StillTailTactics

/-
  Rows, worlds and types of layer 6's walks; only some blocks have turned. Conditions: none.
-/
namespace Go.Proofs.YtkkgfdfjgfigcaaDoor
set_option linter.unusedVariables false
set_option linter.unusedSimpArgs false
open Go.RowKit

theorem one_cell1 {v : Value} (h : v.oneCell' = true) : ∀ u ∈ [v], u.oneCell' = true := by
  intro u hu; simp at hu; subst hu; exact h
theorem cs_all (l : List Value) : (l.drop 0).take l.length = l := by simp
theorem below_join {a b c : World} (h : Below a.heap.size a b) (k : Below b.heap.size b c) : Below a.heap.size a c := h.trans (k.mono h.size)
theorem below_drew (w : World) : Below w.heap.size w w.drew := (Below.refl _ _).drew
theorem below_drewN (w : World) (n : Nat) : Below w.heap.size w (w.drewN n) := ⟨rfl, rfl, rfl, Nat.le_refl _, fun _ _ => rfl⟩
def Holds (w : World) (A : Option Addr) (xs : List Value) : Prop := ∀ k u, xs[k]? = some u → ∃ ad, A = some ad ∧ w.cell? (ad.add k) = some u
theorem Holds.next {w w' : World} {A : Option Addr} {xs : List Value} (h : Holds w A xs) (hb : Below w.heap.size w w') : Holds w' A xs := fun j u hu => by
  obtain ⟨ad, e, hc⟩ := h j u hu
  exact ⟨ad, e, by rw [hb.cell (World.block_lt_of_cell? w _ hc)]; exact hc⟩
/-- Only the blocks of a list have turned, and there are new ones. -/
structure Only (L : List Nat) (w w' : World) : Prop where
  os : w'.os = w.os
  tape : w'.tape = w.tape
  output : w'.output = w.output
  size : w.heap.size ≤ w'.heap.size
  block : ∀ k, k < w.heap.size → k ∉ L → w'.heap[k]? = w.heap[k]?
theorem Only.refl (L : List Nat) (w : World) : Only L w w := ⟨rfl, rfl, rfl, Nat.le_refl _, fun _ _ _ => rfl⟩
theorem Only.trans {L : List Nat} {a b c : World} (h : Only L a b) (k : Only L b c) : Only L a c :=
  ⟨k.os.trans h.os, k.tape.trans h.tape, k.output.trans h.output, Nat.le_trans h.size k.size, fun i hi hn => (k.block i (Nat.lt_of_lt_of_le hi h.size) hn).trans (h.block i hi hn)⟩
theorem Only.mono {L L' : List Nat} {a b : World} (h : Only L a b) (hs : ∀ k ∈ L, k ∈ L') : Only L' a b := ⟨h.os, h.tape, h.output, h.size, fun i hi hn => h.block i hi (fun hm => hn (hs i hm))⟩
theorem Only.of_below {L : List Nat} {a b : World} (h : Below a.heap.size a b) : Only L a b := ⟨h.os, h.tape, h.output, h.size, fun i hi _ => h.block i hi⟩
theorem Only.of_upd {L : List Nat} {a b : World} {g : Nat} (h : Upd g a b) (hg : g ∈ L) : Only L a b := ⟨h.os, h.tape, h.output, Nat.le_of_eq h.size.symm, fun i _ hn => h.block i (fun e => hn (e ▸ hg))⟩
theorem Only.of_grown {L : List Nat} {a b : World} {g : Nat} (h : a.grownBy b (some g)) (hg : g ∈ L) : Only L a b := ⟨h.os, h.tape, h.output, h.size, fun i hi hn => h.block i hi (fun e => hn (by cases e; exact hg))⟩
theorem Only.below {L : List Nat} {B : Nat} {a b : World} (h : Only L a b) (hL : ∀ k ∈ L, B ≤ k) (hB : B ≤ a.heap.size) : Below B a b :=
  ⟨h.os, h.tape, h.output, h.size, fun i hi => h.block i (Nat.lt_of_lt_of_le hi hB) (fun hm => Nat.lt_irrefl _ (Nat.lt_of_lt_of_le hi (hL i hm)))⟩
theorem Blk.only {L : List Nat} {w w' : World} {g : Nat} {t : TypeId} {l : List Value} (h : Blk w g t l) (ho : Only L w w') (hg : g ∉ L) : Blk w' g t l := by unfold Blk; rw [ho.block g h.lt hg]; exact h
theorem bytes_size (s : ByteArray) : s.data.toList.length = s.size := by rw [Array.length_toList]; rfl
theorem nV_one : ∀ l : List Nat, ∀ u ∈ l.map nV, u.oneCell' = true := by
  intro l u hu; simp only [List.mem_map] at hu; obtain ⟨c, _, rfl⟩ := hu; rfl
theorem H_one (f : Nat → Bool) : ∀ u ∈ H f, u.oneCell' = true := nV_one _
theorem splice_set {α : Type} (L : List α) (k : Nat) (v : α) (h : k < L.length) : splice L k [v] = L.set k v := by
  apply List.ext_getElem?
  intro i
  rw [splice_get _ _ _ (by omega)]
  by_cases e : i = k
  · subst e
    rw [if_neg (by omega), if_pos (by simp), List.getElem?_set_self h]
    simp
  · rw [List.getElem?_set_ne (fun e' => e e'.symm)]
    split
    · rfl
    · rw [if_neg (by simp; omega)]
theorem Tryd.szI : (Tryd.prog.info? 3).map (·.size) = some 1 := by kernel_rfl
theorem Tryd.szH : (Tryd.prog.info? 23).map (·.size) = some 10 := by kernel_rfl
theorem Tryd.szP : (Tryd.prog.info? 25).map (·.size) = some 20 := by kernel_rfl
/-- The head without bits. -/
def no : Nat → Bool := fun _ => false
theorem Tryd.zeroH : (Tryd.prog.info? 23).map (·.zero) = some (some (.agg (H no).toArray)) := by kernel_rfl
theorem Tryd.zeroPt : (Tryd.prog.info? 25).map (·.zero) = some (some (.agg (H no ++ H no).toArray)) := by kernel_rfl
end Go.Proofs.YtkkgfdfjgfigcaaDoor

/-
  Contracts of the walks over meet: the words of a head, turned one after the other. Conditions: none.
-/
namespace Go.Proofs.YtkkgfdfjgfigcaaDoor
set_option linter.unusedVariables false
set_option linter.unusedSimpArgs false
open Go.RowKit

/-- The first k words are those of r, the others those of f. -/
def upto (f r : Nat → Bool) (k : Nat) : Nat → Bool := fun i => if i < 16 * k then r i else f i
theorem upto_zero (f r : Nat → Bool) : upto f r 0 = f := by funext i; unfold upto; rw [if_neg (by omega)]
theorem upto_all (f r : Nat → Bool) : H (upto f r 10) = H r := H_congr fun i hi => by unfold upto; rw [if_pos (by omega)]
theorem upto_set (f r : Nat → Bool) {k : Nat} (hk : k < 10) : (H (upto f r k)).set k (.int .i64 (word r k : Int)) = H (upto f r (k + 1)) := by
  rw [H_set _ _ hk]
  refine H_congr fun i _ => ?_
  unfold upto
  by_cases h : i / 16 = k
  · rw [if_pos h, if_pos (by omega)]
  · rw [if_neg h]
    by_cases h2 : i < 16 * k
    · rw [if_pos h2, if_pos (by omega)]
    · rw [if_neg h2, if_neg (by omega)]
theorem upto_word (f r : Nat → Bool) (k : Nat) : word (upto f r k) k = word f k := word_congr fun i hi => by unfold upto; rw [if_neg (by omega)]
def OpRel (f g r : Nat → Bool) (ga gb gr : Nat) (w : World) (i : Value) (wr : World) : Prop :=
  ∃ k : Nat, k ≤ 10 ∧ i = .int .i64 k ∧ Blk wr ga 23 (H (upto f r k)) ∧ Blk wr gb 23 (H g) ∧ Blk wr gr 23 (H no) ∧ Below w.heap.size w wr
set_option maxRecDepth 100000 in
set_option maxHeartbeats 1600000 in
theorem meet_any (f g : Nat → Bool) (w : World) :
    Calls Tryd.prog 213 #[.agg (H f).toArray, .agg (H g).toArray] w fun e w' => e = .returned (.agg (H fun i => f i && g i).toArray) ∧ Below w.heap.size w w' := by
  obtain ⟨r, hr⟩ : ∃ r : Nat → Bool, r = fun i => f i && g i := ⟨_, rfl⟩
  have hw : ∀ k, bits .and .i64 (word f k : Int) (word g k : Int) = (word r k : Int) := fun k => by rw [hr]; exact wand f g k
  rw [← hr]
  clear hr
  have hW := Lib.hid hw
  clear hw
  go_enter Tryd.func213, Tryd.ntmps213
  go_wp2_with (with_reducible refine wpList_box (o := ⟨some 2, .box 23 (.tmp 0), _, _, _, _⟩) ?g1 23 (.tmp 0) ?o1 (.agg (H f).toArray) (H f) ?x1 ?c1 ?_)
  try (case g1 => rfl)
  try (case o1 => rfl)
  try (case x1 => rfl)
  try (case c1 => rfl)
  intro ga w1 hga hs1 hb1 hA1
  go_wp2_with (with_reducible refine wpList_box (o := ⟨some 3, .box 23 (.tmp 1), _, _, _, _⟩) ?g2 23 (.tmp 1) ?o2 (.agg (H g).toArray) (H g) ?x2 ?c2 ?_)
  try (case g2 => rfl)
  try (case o2 => rfl)
  try (case x2 => rfl)
  try (case c2 => rfl)
  intro gb w2 hgb hs2 hb2 hB2
  go_wp2_with (with_reducible refine wpList_alloc (o := ⟨some 4, .alloc 23, _, _, _, _⟩) (by with_unfolding_all rfl) 23 (by with_unfolding_all rfl) (.agg (H no).toArray) (H no) (by exact Tryd.zeroH) (by with_unfolding_all rfl) ?_)
  intro gr w3 hgr hs3 hb3 hR3
  have hle : w.heap.size ≤ ga := Nat.le_of_eq hga.out.symm
  have hab : ga < gb := by have := hga.out; have := hs1.out; have := hgb.out; omega
  have hbr : gb < gr := by have := hgb.out; have := hs2.out; have := hgr.out; omega
  have hA3 := (hA1.next hb2 hab).next hb3 (by omega)
  have hB3 := hB2.next hb3 hbr
  have hbel := ((hb1.mono hle).trans (hb2.mono (by omega))).trans (hb3.mono (by omega : w.heap.size ≤ gr))
  clear hga hs1 hb1 hA1 hgb hs2 hb2 hB2 hgr hs3 hb3
  go_wp2
  go_loopw [6] (OpRel f g r ga gb gr w) (fun i _ => 10 - (intOf i).toNat)
  case atStart => exact ⟨0, by omega, rfl, by rw [upto_zero]; exact hA3, hB3, hR3, hbel⟩
  case round =>
    clear hA3 hB3 hR3 hbel
    obtain ⟨k, hk, rfl, hA, hB, hR, hbel⟩ := hrel
    by_cases hlt : k < 10
    · have ca : wr.cell? ⟨ga, k, none⟩ = some (.int .i64 (word f k : Int)) := hA.cell (by rw [H_get _ hlt, upto_word])
      have cb : wr.cell? ⟨gb, k, none⟩ = some (.int .i64 (word g k : Int)) := hB.cell (H_get g hlt)
      go_wp2
      go_still_tail 8, (by kernel_rfl)
      rw [hW.out k]
      have hA' : Blk { wr with drawn := wr.drawn + 1 } ga 23 (H (upto f r k)) := hA
      have hB' : Blk { wr with drawn := wr.drawn + 1 } gb 23 (H g) := hB
      have hR' : Blk { wr with drawn := wr.drawn + 1 } gr 23 (H no) := hR
      have hb' : Below w.heap.size w { wr with drawn := wr.drawn + 1 } := hbel.trans ((below_drew wr).mono hbel.size)
      clear ca cb hA hB hR hbel
      go_wp2_with (with_reducible refine wpList_put (o := ⟨none, .store 3 (.tmp 16) (.tmp 15), _, _, _, _⟩) (by with_unfolding_all rfl) 3 (.tmp 16) (.tmp 15) (by with_unfolding_all rfl) ga k (by with_unfolding_all rfl) (.int .i64 (word r k : Int)) (by with_unfolding_all rfl) hA' [.int .i64 (word r k : Int)] (by with_unfolding_all rfl) (by with_unfolding_all (exact Tryd.szI)) (by with_unfolding_all (rw [H_length]; exact hlt)) (by with_unfolding_all (exact one_cell1 rfl)) ?_)
      intro w4 hu4 hA4
      rw [splice_set _ _ _ (by rw [H_length]; exact hlt), upto_set f r hlt] at hA4
      have hB4 := hB'.upd hu4 (by omega)
      have hR4 := hR'.upd hu4 (by omega)
      have hb4 := hb'.trans (hu4.below (B := w.heap.size) hle)
      clear hA' hB' hR' hb' hu4
      go_wp2
      go_roundw
      case rel => exact ⟨k + 1, by omega, by go_num, hA4, hB4, hR4, hb4⟩
      case measure => simp [intOf]; omega
    · obtain rfl : k = 10 := by omega
      have hA' : Blk wr ga 23 (H r) := by rw [upto_all] at hA; exact hA
      clear hA hk
      go_wp2_with (first | (with_reducible refine wpList_get (o := ⟨some 18, .load 23 (.tmp 2), _, _, _, _⟩) (by with_unfolding_all rfl) 23 (.tmp 2) (by with_unfolding_all rfl) ga 0 (by with_unfolding_all rfl) hA' (H r) (cs_all _) _ (by exact Tryd.underlying23) (by with_unfolding_all rfl) (by rw [H_length]; exact Tryd.szH) ?_) | (with_reducible refine wpList_put (o := ⟨none, .store 23 (.tmp 4) (.tmp 18), _, _, _, _⟩) (by with_unfolding_all rfl) 23 (.tmp 4) (.tmp 18) (by with_unfolding_all rfl) gr 0 (by with_unfolding_all rfl) (.agg (H r).toArray) (by with_unfolding_all rfl) hR (H r) (by with_unfolding_all rfl) (by with_unfolding_all (rw [H_length]; exact Tryd.szH)) (by with_unfolding_all (rw [H_length, H_length]; omega)) (by with_unfolding_all (exact H_one r)) ?_))
      intro w4 hu4 hR4
      rw [splice_all _ _ (by rw [H_length, H_length])] at hR4
      have hb4 := hbel.trans (hu4.below (B := w.heap.size) (by omega))
      go_wp2
      refine bodyPost_ret (results_cell_row rfl _ _ gr _ _ _ _ rfl hR4 Tryd.underlying23 rfl (by rw [List.size_toArray, H_length]; exact Tryd.szH)) rfl ⟨rfl, hb4⟩
set_option maxRecDepth 100000 in
set_option maxHeartbeats 1600000 in
theorem join_any (f g : Nat → Bool) (w : World) :
    Calls Tryd.prog 144 #[.agg (H f).toArray, .agg (H g).toArray] w fun e w' => e = .returned (.agg (H fun i => f i || g i).toArray) ∧ Below w.heap.size w w' := by
  obtain ⟨r, hr⟩ : ∃ r : Nat → Bool, r = fun i => f i || g i := ⟨_, rfl⟩
  have hw : ∀ k, bits .or .i64 (word f k : Int) (word g k : Int) = (word r k : Int) := fun k => by rw [hr]; exact wor f g k
  rw [← hr]
  clear hr
  have hW := Lib.hid hw
  clear hw
  go_enter Tryd.func144, Tryd.ntmps144
  go_wp2_with (with_reducible refine wpList_box (o := ⟨some 2, .box 23 (.tmp 0), _, _, _, _⟩) ?g1 23 (.tmp 0) ?o1 (.agg (H f).toArray) (H f) ?x1 ?c1 ?_)
  try (case g1 => rfl)
  try (case o1 => rfl)
  try (case x1 => rfl)
  try (case c1 => rfl)
  intro ga w1 hga hs1 hb1 hA1
  go_wp2_with (with_reducible refine wpList_box (o := ⟨some 3, .box 23 (.tmp 1), _, _, _, _⟩) ?g2 23 (.tmp 1) ?o2 (.agg (H g).toArray) (H g) ?x2 ?c2 ?_)
  try (case g2 => rfl)
  try (case o2 => rfl)
  try (case x2 => rfl)
  try (case c2 => rfl)
  intro gb w2 hgb hs2 hb2 hB2
  go_wp2_with (with_reducible refine wpList_alloc (o := ⟨some 4, .alloc 23, _, _, _, _⟩) (by with_unfolding_all rfl) 23 (by with_unfolding_all rfl) (.agg (H no).toArray) (H no) (by exact Tryd.zeroH) (by with_unfolding_all rfl) ?_)
  intro gr w3 hgr hs3 hb3 hR3
  have hle : w.heap.size ≤ ga := Nat.le_of_eq hga.out.symm
  have hab : ga < gb := by have := hga.out; have := hs1.out; have := hgb.out; omega
  have hbr : gb < gr := by have := hgb.out; have := hs2.out; have := hgr.out; omega
  have hA3 := (hA1.next hb2 hab).next hb3 (by omega)
  have hB3 := hB2.next hb3 hbr
  have hbel := ((hb1.mono hle).trans (hb2.mono (by omega))).trans (hb3.mono (by omega : w.heap.size ≤ gr))
  clear hga hs1 hb1 hA1 hgb hs2 hb2 hB2 hgr hs3 hb3
  go_wp2
  go_loopw [6] (OpRel f g r ga gb gr w) (fun i _ => 10 - (intOf i).toNat)
  case atStart => exact ⟨0, by omega, rfl, by rw [upto_zero]; exact hA3, hB3, hR3, hbel⟩
  case round =>
    clear hA3 hB3 hR3 hbel
    obtain ⟨k, hk, rfl, hA, hB, hR, hbel⟩ := hrel
    by_cases hlt : k < 10
    · have ca : wr.cell? ⟨ga, k, none⟩ = some (.int .i64 (word f k : Int)) := hA.cell (by rw [H_get _ hlt, upto_word])
      have cb : wr.cell? ⟨gb, k, none⟩ = some (.int .i64 (word g k : Int)) := hB.cell (H_get g hlt)
      go_wp2
      go_still_tail 8, (by kernel_rfl)
      rw [hW.out k]
      have hA' : Blk { wr with drawn := wr.drawn + 1 } ga 23 (H (upto f r k)) := hA
      have hB' : Blk { wr with drawn := wr.drawn + 1 } gb 23 (H g) := hB
      have hR' : Blk { wr with drawn := wr.drawn + 1 } gr 23 (H no) := hR
      have hb' : Below w.heap.size w { wr with drawn := wr.drawn + 1 } := hbel.trans ((below_drew wr).mono hbel.size)
      clear ca cb hA hB hR hbel
      go_wp2_with (with_reducible refine wpList_put (o := ⟨none, .store 3 (.tmp 16) (.tmp 15), _, _, _, _⟩) (by with_unfolding_all rfl) 3 (.tmp 16) (.tmp 15) (by with_unfolding_all rfl) ga k (by with_unfolding_all rfl) (.int .i64 (word r k : Int)) (by with_unfolding_all rfl) hA' [.int .i64 (word r k : Int)] (by with_unfolding_all rfl) (by with_unfolding_all (exact Tryd.szI)) (by with_unfolding_all (rw [H_length]; exact hlt)) (by with_unfolding_all (exact one_cell1 rfl)) ?_)
      intro w4 hu4 hA4
      rw [splice_set _ _ _ (by rw [H_length]; exact hlt), upto_set f r hlt] at hA4
      have hB4 := hB'.upd hu4 (by omega)
      have hR4 := hR'.upd hu4 (by omega)
      have hb4 := hb'.trans (hu4.below (B := w.heap.size) hle)
      clear hA' hB' hR' hb' hu4
      go_wp2
      go_roundw
      case rel => exact ⟨k + 1, by omega, by go_num, hA4, hB4, hR4, hb4⟩
      case measure => simp [intOf]; omega
    · obtain rfl : k = 10 := by omega
      have hA' : Blk wr ga 23 (H r) := by rw [upto_all] at hA; exact hA
      clear hA hk
      go_wp2_with (first | (with_reducible refine wpList_get (o := ⟨some 18, .load 23 (.tmp 2), _, _, _, _⟩) (by with_unfolding_all rfl) 23 (.tmp 2) (by with_unfolding_all rfl) ga 0 (by with_unfolding_all rfl) hA' (H r) (cs_all _) _ (by exact Tryd.underlying23) (by with_unfolding_all rfl) (by rw [H_length]; exact Tryd.szH) ?_) | (with_reducible refine wpList_put (o := ⟨none, .store 23 (.tmp 4) (.tmp 18), _, _, _, _⟩) (by with_unfolding_all rfl) 23 (.tmp 4) (.tmp 18) (by with_unfolding_all rfl) gr 0 (by with_unfolding_all rfl) (.agg (H r).toArray) (by with_unfolding_all rfl) hR (H r) (by with_unfolding_all rfl) (by with_unfolding_all (rw [H_length]; exact Tryd.szH)) (by with_unfolding_all (rw [H_length, H_length]; omega)) (by with_unfolding_all (exact H_one r)) ?_))
      intro w4 hu4 hR4
      rw [splice_all _ _ (by rw [H_length, H_length])] at hR4
      have hb4 := hbel.trans (hu4.below (B := w.heap.size) (by omega))
      go_wp2
      refine bodyPost_ret (results_cell_row rfl _ _ gr _ _ _ _ rfl hR4 Tryd.underlying23 rfl (by rw [List.size_toArray, H_length]; exact Tryd.szH)) rfl ⟨rfl, hb4⟩
set_option maxRecDepth 100000 in
set_option maxHeartbeats 1600000 in
theorem without_any (f g : Nat → Bool) (w : World) :
    Calls Tryd.prog 149 #[.agg (H f).toArray, .agg (H g).toArray] w fun e w' => e = .returned (.agg (H fun i => f i && !g i).toArray) ∧ Below w.heap.size w w' := by
  obtain ⟨r, hr⟩ : ∃ r : Nat → Bool, r = fun i => f i && !g i := ⟨_, rfl⟩
  have hw : ∀ k, bits .andNot .i64 (word f k : Int) (word g k : Int) = (word r k : Int) := fun k => by rw [hr]; exact wandn f g k
  rw [← hr]
  clear hr
  have hW := Lib.hid hw
  clear hw
  go_enter Tryd.func149, Tryd.ntmps149
  go_wp2_with (with_reducible refine wpList_box (o := ⟨some 2, .box 23 (.tmp 0), _, _, _, _⟩) ?g1 23 (.tmp 0) ?o1 (.agg (H f).toArray) (H f) ?x1 ?c1 ?_)
  try (case g1 => rfl)
  try (case o1 => rfl)
  try (case x1 => rfl)
  try (case c1 => rfl)
  intro ga w1 hga hs1 hb1 hA1
  go_wp2_with (with_reducible refine wpList_box (o := ⟨some 3, .box 23 (.tmp 1), _, _, _, _⟩) ?g2 23 (.tmp 1) ?o2 (.agg (H g).toArray) (H g) ?x2 ?c2 ?_)
  try (case g2 => rfl)
  try (case o2 => rfl)
  try (case x2 => rfl)
  try (case c2 => rfl)
  intro gb w2 hgb hs2 hb2 hB2
  go_wp2_with (with_reducible refine wpList_alloc (o := ⟨some 4, .alloc 23, _, _, _, _⟩) (by with_unfolding_all rfl) 23 (by with_unfolding_all rfl) (.agg (H no).toArray) (H no) (by exact Tryd.zeroH) (by with_unfolding_all rfl) ?_)
  intro gr w3 hgr hs3 hb3 hR3
  have hle : w.heap.size ≤ ga := Nat.le_of_eq hga.out.symm
  have hab : ga < gb := by have := hga.out; have := hs1.out; have := hgb.out; omega
  have hbr : gb < gr := by have := hgb.out; have := hs2.out; have := hgr.out; omega
  have hA3 := (hA1.next hb2 hab).next hb3 (by omega)
  have hB3 := hB2.next hb3 hbr
  have hbel := ((hb1.mono hle).trans (hb2.mono (by omega))).trans (hb3.mono (by omega : w.heap.size ≤ gr))
  clear hga hs1 hb1 hA1 hgb hs2 hb2 hB2 hgr hs3 hb3
  go_wp2
  go_loopw [6] (OpRel f g r ga gb gr w) (fun i _ => 10 - (intOf i).toNat)
  case atStart => exact ⟨0, by omega, rfl, by rw [upto_zero]; exact hA3, hB3, hR3, hbel⟩
  case round =>
    clear hA3 hB3 hR3 hbel
    obtain ⟨k, hk, rfl, hA, hB, hR, hbel⟩ := hrel
    by_cases hlt : k < 10
    · have ca : wr.cell? ⟨ga, k, none⟩ = some (.int .i64 (word f k : Int)) := hA.cell (by rw [H_get _ hlt, upto_word])
      have cb : wr.cell? ⟨gb, k, none⟩ = some (.int .i64 (word g k : Int)) := hB.cell (H_get g hlt)
      go_wp2
      go_still_tail 8, (by kernel_rfl)
      rw [hW.out k]
      have hA' : Blk { wr with drawn := wr.drawn + 1 } ga 23 (H (upto f r k)) := hA
      have hB' : Blk { wr with drawn := wr.drawn + 1 } gb 23 (H g) := hB
      have hR' : Blk { wr with drawn := wr.drawn + 1 } gr 23 (H no) := hR
      have hb' : Below w.heap.size w { wr with drawn := wr.drawn + 1 } := hbel.trans ((below_drew wr).mono hbel.size)
      clear ca cb hA hB hR hbel
      go_wp2_with (with_reducible refine wpList_put (o := ⟨none, .store 3 (.tmp 16) (.tmp 15), _, _, _, _⟩) (by with_unfolding_all rfl) 3 (.tmp 16) (.tmp 15) (by with_unfolding_all rfl) ga k (by with_unfolding_all rfl) (.int .i64 (word r k : Int)) (by with_unfolding_all rfl) hA' [.int .i64 (word r k : Int)] (by with_unfolding_all rfl) (by with_unfolding_all (exact Tryd.szI)) (by with_unfolding_all (rw [H_length]; exact hlt)) (by with_unfolding_all (exact one_cell1 rfl)) ?_)
      intro w4 hu4 hA4
      rw [splice_set _ _ _ (by rw [H_length]; exact hlt), upto_set f r hlt] at hA4
      have hB4 := hB'.upd hu4 (by omega)
      have hR4 := hR'.upd hu4 (by omega)
      have hb4 := hb'.trans (hu4.below (B := w.heap.size) hle)
      clear hA' hB' hR' hb' hu4
      go_wp2
      go_roundw
      case rel => exact ⟨k + 1, by omega, by go_num, hA4, hB4, hR4, hb4⟩
      case measure => simp [intOf]; omega
    · obtain rfl : k = 10 := by omega
      have hA' : Blk wr ga 23 (H r) := by rw [upto_all] at hA; exact hA
      clear hA hk
      go_wp2_with (first | (with_reducible refine wpList_get (o := ⟨some 18, .load 23 (.tmp 2), _, _, _, _⟩) (by with_unfolding_all rfl) 23 (.tmp 2) (by with_unfolding_all rfl) ga 0 (by with_unfolding_all rfl) hA' (H r) (cs_all _) _ (by exact Tryd.underlying23) (by with_unfolding_all rfl) (by rw [H_length]; exact Tryd.szH) ?_) | (with_reducible refine wpList_put (o := ⟨none, .store 23 (.tmp 4) (.tmp 18), _, _, _, _⟩) (by with_unfolding_all rfl) 23 (.tmp 4) (.tmp 18) (by with_unfolding_all rfl) gr 0 (by with_unfolding_all rfl) (.agg (H r).toArray) (by with_unfolding_all rfl) hR (H r) (by with_unfolding_all rfl) (by with_unfolding_all (rw [H_length]; exact Tryd.szH)) (by with_unfolding_all (rw [H_length, H_length]; omega)) (by with_unfolding_all (exact H_one r)) ?_))
      intro w4 hu4 hR4
      rw [splice_all _ _ (by rw [H_length, H_length])] at hR4
      have hb4 := hbel.trans (hu4.below (B := w.heap.size) (by omega))
      go_wp2
      refine bodyPost_ret (results_cell_row rfl _ _ gr _ _ _ _ rfl hR4 Tryd.underlying23 rfl (by rw [List.size_toArray, H_length]; exact Tryd.szH)) rfl ⟨rfl, hb4⟩
set_option maxRecDepth 100000 in
set_option maxHeartbeats 1600000 in
theorem differ_any (f g : Nat → Bool) (w : World) :
    Calls Tryd.prog 147 #[.agg (H f).toArray, .agg (H g).toArray] w fun e w' => e = .returned (.agg (H fun i => f i != g i).toArray) ∧ Below w.heap.size w w' := by
  obtain ⟨r, hr⟩ : ∃ r : Nat → Bool, r = fun i => f i != g i := ⟨_, rfl⟩
  have hw : ∀ k, bits .xor .i64 (word f k : Int) (word g k : Int) = (word r k : Int) := fun k => by rw [hr]; exact wxor f g k
  rw [← hr]
  clear hr
  have hW := Lib.hid hw
  clear hw
  go_enter Tryd.func147, Tryd.ntmps147
  go_wp2_with (with_reducible refine wpList_box (o := ⟨some 2, .box 23 (.tmp 0), _, _, _, _⟩) ?g1 23 (.tmp 0) ?o1 (.agg (H f).toArray) (H f) ?x1 ?c1 ?_)
  try (case g1 => rfl)
  try (case o1 => rfl)
  try (case x1 => rfl)
  try (case c1 => rfl)
  intro ga w1 hga hs1 hb1 hA1
  go_wp2_with (with_reducible refine wpList_box (o := ⟨some 3, .box 23 (.tmp 1), _, _, _, _⟩) ?g2 23 (.tmp 1) ?o2 (.agg (H g).toArray) (H g) ?x2 ?c2 ?_)
  try (case g2 => rfl)
  try (case o2 => rfl)
  try (case x2 => rfl)
  try (case c2 => rfl)
  intro gb w2 hgb hs2 hb2 hB2
  go_wp2_with (with_reducible refine wpList_alloc (o := ⟨some 4, .alloc 23, _, _, _, _⟩) (by with_unfolding_all rfl) 23 (by with_unfolding_all rfl) (.agg (H no).toArray) (H no) (by exact Tryd.zeroH) (by with_unfolding_all rfl) ?_)
  intro gr w3 hgr hs3 hb3 hR3
  have hle : w.heap.size ≤ ga := Nat.le_of_eq hga.out.symm
  have hab : ga < gb := by have := hga.out; have := hs1.out; have := hgb.out; omega
  have hbr : gb < gr := by have := hgb.out; have := hs2.out; have := hgr.out; omega
  have hA3 := (hA1.next hb2 hab).next hb3 (by omega)
  have hB3 := hB2.next hb3 hbr
  have hbel := ((hb1.mono hle).trans (hb2.mono (by omega))).trans (hb3.mono (by omega : w.heap.size ≤ gr))
  clear hga hs1 hb1 hA1 hgb hs2 hb2 hB2 hgr hs3 hb3
  go_wp2
  go_loopw [6] (OpRel f g r ga gb gr w) (fun i _ => 10 - (intOf i).toNat)
  case atStart => exact ⟨0, by omega, rfl, by rw [upto_zero]; exact hA3, hB3, hR3, hbel⟩
  case round =>
    clear hA3 hB3 hR3 hbel
    obtain ⟨k, hk, rfl, hA, hB, hR, hbel⟩ := hrel
    by_cases hlt : k < 10
    · have ca : wr.cell? ⟨ga, k, none⟩ = some (.int .i64 (word f k : Int)) := hA.cell (by rw [H_get _ hlt, upto_word])
      have cb : wr.cell? ⟨gb, k, none⟩ = some (.int .i64 (word g k : Int)) := hB.cell (H_get g hlt)
      go_wp2
      go_still_tail 8, (by kernel_rfl)
      rw [hW.out k]
      have hA' : Blk { wr with drawn := wr.drawn + 1 } ga 23 (H (upto f r k)) := hA
      have hB' : Blk { wr with drawn := wr.drawn + 1 } gb 23 (H g) := hB
      have hR' : Blk { wr with drawn := wr.drawn + 1 } gr 23 (H no) := hR
      have hb' : Below w.heap.size w { wr with drawn := wr.drawn + 1 } := hbel.trans ((below_drew wr).mono hbel.size)
      clear ca cb hA hB hR hbel
      go_wp2_with (with_reducible refine wpList_put (o := ⟨none, .store 3 (.tmp 16) (.tmp 15), _, _, _, _⟩) (by with_unfolding_all rfl) 3 (.tmp 16) (.tmp 15) (by with_unfolding_all rfl) ga k (by with_unfolding_all rfl) (.int .i64 (word r k : Int)) (by with_unfolding_all rfl) hA' [.int .i64 (word r k : Int)] (by with_unfolding_all rfl) (by with_unfolding_all (exact Tryd.szI)) (by with_unfolding_all (rw [H_length]; exact hlt)) (by with_unfolding_all (exact one_cell1 rfl)) ?_)
      intro w4 hu4 hA4
      rw [splice_set _ _ _ (by rw [H_length]; exact hlt), upto_set f r hlt] at hA4
      have hB4 := hB'.upd hu4 (by omega)
      have hR4 := hR'.upd hu4 (by omega)
      have hb4 := hb'.trans (hu4.below (B := w.heap.size) hle)
      clear hA' hB' hR' hb' hu4
      go_wp2
      go_roundw
      case rel => exact ⟨k + 1, by omega, by go_num, hA4, hB4, hR4, hb4⟩
      case measure => simp [intOf]; omega
    · obtain rfl : k = 10 := by omega
      have hA' : Blk wr ga 23 (H r) := by rw [upto_all] at hA; exact hA
      clear hA hk
      go_wp2_with (first | (with_reducible refine wpList_get (o := ⟨some 18, .load 23 (.tmp 2), _, _, _, _⟩) (by with_unfolding_all rfl) 23 (.tmp 2) (by with_unfolding_all rfl) ga 0 (by with_unfolding_all rfl) hA' (H r) (cs_all _) _ (by exact Tryd.underlying23) (by with_unfolding_all rfl) (by rw [H_length]; exact Tryd.szH) ?_) | (with_reducible refine wpList_put (o := ⟨none, .store 23 (.tmp 4) (.tmp 18), _, _, _, _⟩) (by with_unfolding_all rfl) 23 (.tmp 4) (.tmp 18) (by with_unfolding_all rfl) gr 0 (by with_unfolding_all rfl) (.agg (H r).toArray) (by with_unfolding_all rfl) hR (H r) (by with_unfolding_all rfl) (by with_unfolding_all (rw [H_length]; exact Tryd.szH)) (by with_unfolding_all (rw [H_length, H_length]; omega)) (by with_unfolding_all (exact H_one r)) ?_))
      intro w4 hu4 hR4
      rw [splice_all _ _ (by rw [H_length, H_length])] at hR4
      have hb4 := hbel.trans (hu4.below (B := w.heap.size) (by omega))
      go_wp2
      refine bodyPost_ret (results_cell_row rfl _ _ gr _ _ _ _ rfl hR4 Tryd.underlying23 rfl (by rw [List.size_toArray, H_length]; exact Tryd.szH)) rfl ⟨rfl, hb4⟩
end Go.Proofs.YtkkgfdfjgfigcaaDoor

/-
  Contracts of the walks over overlap, Match and the tests of two patterns. Conditions: the patterns lie there.
-/
namespace Go.Proofs.YtkkgfdfjgfigcaaDoor
set_option linter.unusedVariables false
set_option linter.unusedSimpArgs false
open Go.RowKit

theorem cells_m (p : Pat) {k : Nat} (h : k < 10) : p.cells[k]? = some (.int .i64 (word p.m k : Int)) := by
  unfold Pat.cells
  rw [List.getElem?_append_left (by rw [H_length]; exact h), H_get _ h]
theorem cells_b (p : Pat) {k : Nat} (h : k < 10) : p.cells[10 + k]? = some (.int .i64 (word p.b k : Int)) := by
  unfold Pat.cells
  rw [List.getElem?_append_right (by rw [H_length]; omega), H_length, show 10 + k - 10 = k by omega, H_get _ h]
theorem word_zero {f : Nat → Bool} {w : Nat} : word f w = 0 ↔ ∀ i, i / 16 = w → f i = false := by
  have e : word no w = 0 := by unfold word; rfl
  constructor
  · intro h i hi
    rw [← e] at h
    exact word_inj h hi
  · intro h
    rw [← e]
    exact word_congr h
/-- Whether two patterns overlap. -/
def Pat.lap (p q : Pat) (i : Nat) : Bool := ((p.b i != q.b i) && p.m i) && q.m i
def Pat.over (p q : Pat) : Prop := ∀ i, i < 160 → p.lap q i = false
instance (p q : Pat) : Decidable (p.over q) := by unfold Pat.over; exact inferInstance
/-- It returns v and reads only. -/
def Reads (v : Value) (w : World) (e : Ending) (w' : World) : Prop := e = .returned v ∧ ∃ n, w' = w.drewN n
def LapRel (p q : Pat) (w : World) (i : Value) (wr : World) : Prop := ∃ k : Nat, k ≤ 10 ∧ i = .int .i64 k ∧ (∀ j, j < 16 * k → p.lap q j = false) ∧ ∃ n, wr = w.drewN n
set_option maxRecDepth 100000 in
set_option maxHeartbeats 1600000 in
theorem overlap_any (p q : Pat) (ga oa gb ob : Nat) (w : World) (hp : w.rangeAt ga oa p.cells) (hq : w.rangeAt gb ob q.cells) :
    Calls Tryd.prog 143 #[.pointer (some ⟨ga, oa, none⟩), .pointer (some ⟨gb, ob, none⟩)] w (Reads (.bool (decide (p.over q))) w) := by
  have ha : ∀ k, k < 10 → w.cell? ⟨ga, oa + k, none⟩ = some (.int .i64 (word p.m k : Int)) := fun k hk => hp _ _ (cells_m p hk)
  have hab : ∀ k, k < 10 → w.cell? ⟨ga, oa + 10 + k, none⟩ = some (.int .i64 (word p.b k : Int)) := fun k hk => by rw [Nat.add_assoc]; exact hp _ _ (cells_b p hk)
  have hb : ∀ k, k < 10 → w.cell? ⟨gb, ob + k, none⟩ = some (.int .i64 (word q.m k : Int)) := fun k hk => hq _ _ (cells_m q hk)
  have hbb : ∀ k, k < 10 → w.cell? ⟨gb, ob + 10 + k, none⟩ = some (.int .i64 (word q.b k : Int)) := fun k hk => by rw [Nat.add_assoc]; exact hq _ _ (cells_b q hk)
  have HA := Lib.hid ha
  have HAB := Lib.hid hab
  have HB := Lib.hid hb
  have HBB := Lib.hid hbb
  clear ha hab hb hbb hp hq
  go_enter Tryd.func143, Tryd.ntmps143
  go_wp2
  go_loopw [6] (LapRel p q w) (fun i _ => 10 - (intOf i).toNat)
  case atStart => exact ⟨0, by omega, rfl, fun j hj => absurd hj (by omega), 0, rfl⟩
  case round =>
    obtain ⟨k, hk, rfl, hz, n, rfl⟩ := hrel
    have HZ := Lib.hid hz
    clear hz
    by_cases hlt : k < 10
    · have c1 := HA.out k hlt
      have c2 := HAB.out k hlt
      have c3 := HB.out k hlt
      have c4 := HBB.out k hlt
      go_wp2
      go_quiet (fail)
      generalize hX : bits BinOp.and IntKind.i64 (bits BinOp.and IntKind.i64 (bits BinOp.xor IntKind.i64 (word p.b k : Int) (word q.b k : Int)) (word p.m k : Int)) (word q.m k : Int) = X
      rw [wxor, wand, wand] at hX
      replace hX : (word (p.lap q) k : Int) = X := hX
      have HX := Lib.hid hX
      clear hX c1 c2 c3 c4
      by_cases h0 : X = 0
      · have h0' : (X != 0) = false := by rw [h0]; rfl
        have hk0 : word (p.lap q) k = 0 := by have := HX.out; omega
        have HK := Lib.hid (word_zero.1 hk0)
        clear h0 hk0
        go_wp2
        go_roundw
        case rel => exact ⟨k + 1, by omega, by go_num, fun j hj => by
          by_cases h : j < 16 * k
          · exact HZ.out j h
          · exact HK.out j (by omega), _, rfl⟩
        case measure => simp [intOf]; omega
      · have h0' : (X != 0) = true := bne_iff_ne.2 h0
        have hno : decide (p.over q) = false := decide_eq_false fun h => h0 (by
          rw [← HX.out, word_zero.2 fun i hi => h i (by omega)]; rfl)
        clear h0
        go_wp2
        go_ret
        exact ⟨(by rw [hno]; rfl), _, World.drewN_drewN w n nq⟩
    · obtain rfl : k = 10 := by omega
      have hyes : decide (p.over q) = true := decide_eq_true fun i hi => HZ.out i (by omega)
      go_wp2
      go_ret
      exact ⟨(by rw [hyes]; rfl), _, rfl⟩
end Go.Proofs.YtkkgfdfjgfigcaaDoor
