/-
  Contracts of the walks over the reference's Short and Of. Conditions: at most 10^8 bytes; its table reads as the document has it.
-/
import Derived.Test.YtnhnfdfjlagcjaaDoorHrt
import Derived.Test.YtnhnfdfjlagcjaaDoorHin
import Derived.Test.YtnhnfdfjlagcjaaDoorHsumlaw
namespace Go.Proofs.YtnhnfdfjlagcjaaDoor
open Go.RowKit

theorem Tryd.build44 (w : World) : (Instr.build 44 #[]).run Tryd.prog w = .ok (.agg ((SM.zeros 16).map B8).toArray) w := by kernel_rfl
theorem take_getD (S D : List UInt8) (k : Nat) (hD : D = S.take 16) (h : k < 16) : D.getD k 0 = S.getD k 0 := by
  rw [hD, List.getD_eq_getElem?_getD, List.getD_eq_getElem?_getD, List.getElem?_take, if_pos h]
def ShRel (D S : List UInt8) (gr gs go : Nat) (w : World) (i : Value) (wr : World) : Prop :=
  ∃ k : Nat, k ≤ 16 ∧ i = .int .i64 k ∧ Blk wr go 44 (obRow D k) ∧ Blk wr gs 24 (S.map B8) ∧ Blk wr gr 44 zero16 ∧ Below w.heap.size w wr
theorem rsum_at (ad : Addr) (cap n : Nat) (l S : List UInt8) (w : World) (hS : Unit → SM.sum l = S) (hn : n = l.length) (hl : l.length ≤ 100000000) (hh : Holds w (some ad) (l.map B8)) (HC : LayC w) :
    Calls Tryd.prog 17 #[.slice (some ad) n cap] w fun e w' => e = .returned (.agg (S.map B8).toArray) ∧ Below w.heap.size w w' := by
  rw [← hS ()]; exact rsum_any ad cap n l w hn hl hh HC

set_option maxRecDepth 100000 in
set_option maxHeartbeats 800000 in
theorem short_any (ad : Addr) (cap n : Nat) (l D : List UInt8) (w : World) (hD : Unit → (SM.sum l).take 16 = D) (hn : n = l.length) (hl : l.length ≤ 100000000) (hh : Holds w (some ad) (l.map B8)) (HC : LayC w) :
    Calls Tryd.prog 56 #[.slice (some ad) n cap] w fun e w' => e = .returned (.agg (D.map B8).toArray) ∧ Below w.heap.size w w' := by
  obtain ⟨S, hS⟩ : ∃ S, (Unit → SM.sum l = S) := ⟨_, fun _ => rfl⟩
  have hSl : Hid (S.length = 32) := by rw [← hS ()]; exact SM.sum_length _
  have hDS : Unit → D = S.take 16 := fun _ => by rw [← hD (), hS ()]
  have hDl : Hid (D.length = 16) := by
    have : D.length = 16 := by rw [hDS (), List.length_take, hSl.out]; rfl
    exact this
  have HN := Lib.hid hn
  clear hD hn
  go_enter Tryd.func56, Tryd.ntmps56
  go_wp2_with (with_reducible refine wpList_alloc (o := ⟨some 2, .alloc 44, _, _, _, _⟩) ?g1 44 ?o1 (aggB (SM.zeros 16)) zero16 ?z1 ?c1 ?_)
  try (case g1 => rfl)
  try (case o1 => rfl)
  try (case z1 => exact Tryd.zero44)
  try (case c1 => rfl)
  intro gr w1 hgr hs1 hb1 hB1
  have hlt0 : w.heap.size ≤ gr := Nat.le_of_eq hgr.out.symm
  have hbel1 : Below w.heap.size w w1 := hb1.mono hlt0
  have hh1 := hh.next hbel1
  have HC1 := HC.next hbel1
  clear hgr hs1 hb1 hh HC
  go_wp2_with fail
  (with_reducible refine (rsum_at ad cap n l S _ hS HN.out hl hh1 HC1).mono ?_)
  rintro e w2 ⟨rfl, hb2⟩
  have hB2 := hB1.next hb2 hB1.lt
  have hbel2 := below_join hbel1 hb2
  clear hB1 hb2 hbel1 hh1 HC1
  go_wp2_with (with_reducible refine wpList_alloc (o := ⟨some 3, .alloc 24, _, _, _, _⟩) ?g2 24 ?o2 (aggB (SM.zeros 32)) zero32 ?z2 ?c2 ?_)
  try (case g2 => rfl)
  try (case o2 => rfl)
  try (case z2 => exact Tryd.zero24)
  try (case c2 => rfl)
  intro gs w3 hgs hs3 hb3 hB3
  have hlt1 : gr < gs := by have := hB2.lt; have := hgs.out; omega
  have hBr3 := hB2.next hb3 hlt1
  have hbel3 := hbel2.trans (hb3.mono (by have := hbel2.size; have := hgs.out; omega))
  clear hB2 hbel2 hb3 hgs hs3
  go_wp2_with (with_reducible refine wpList_put (o := ⟨none, .store 24 (.tmp 3) (.tmp 7), _, _, _, _⟩) ?g3 24 (.tmp 3) (.tmp 7) ?o3 gs 0 ?x3 (.agg (S.map B8).toArray) ?y3 hB3 (S.map B8) ?v3 ?i3 ?l3 ?q3 ?_)
  try (case y3 => rfl)
  try (case x3 => rfl)
  try (case g3 => rfl)
  try (case o3 => rfl)
  try (case v3 => rfl)
  try (case i3 => exact (by rw [List.length_map, hSl.out]; exact Tryd.size24))
  try (case l3 => (rw [List.length_map, hSl.out]; exact Nat.le_refl _))
  try (case q3 => exact B8_one _)
  intro w4 hu4 hB4
  rw [splice_all _ _ (by rw [List.length_map, hSl.out]; rfl)] at hB4
  have hBr4 := hBr3.upd hu4 (by omega)
  have hbel4 := hbel3.trans (hu4.below (B := w.heap.size) (by omega))
  clear hBr3 hbel3 hB3 hu4
  go_wp2_with (first | (with_reducible refine wpList_build (o := ⟨some 8, .build 44 #[], _, _, _, _⟩) ?g4 44 #[] ?o4 #[] ?x4 (.agg ((SM.zeros 16).map B8).toArray) ?r4 ?_) | (with_reducible refine wpList_alloc (o := ⟨some 4, .alloc 44, _, _, _, _⟩) ?g5 44 ?o5 (aggB (SM.zeros 16)) zero16 ?z5 ?c5 ?_))
  try (case x4 => first | rfl | simp)
  try (case g4 => rfl)
  try (case o4 => rfl)
  try (case r4 => exact Tryd.build44)
  try (case g5 => rfl)
  try (case o5 => rfl)
  try (case z5 => exact Tryd.zero44)
  try (case c5 => rfl)
  intro go w5 hgo hs5 hb5 hB5
  have hlt2 : gs < go := by have := hB4.lt; have := hgo.out; omega
  have hBr5 := hBr4.next hb5 (by omega)
  have hBs5 := hB4.next hb5 hlt2
  have hbel5 := hbel4.trans (hb5.mono (by have := hbel4.size; have := hgo.out; omega))
  clear hBr4 hB4 hbel4 hb5 hgo hs5
  go_wp2_with (with_reducible refine wpList_put (o := ⟨none, .store 44 (.tmp 4) (.tmp 8), _, _, _, _⟩) ?g6 44 (.tmp 4) (.tmp 8) ?o6 go 0 ?x6 (.agg ((SM.zeros 16).map B8).toArray) ?y6 hB5 ((SM.zeros 16).map B8) ?v6 ?i6 ?l6 ?q6 ?_)
  try (case y6 => rfl)
  try (case x6 => rfl)
  try (case g6 => rfl)
  try (case o6 => rfl)
  try (case v6 => rfl)
  try (case i6 => exact Tryd.size44)
  try (case l6 => exact Nat.le_refl _)
  try (case q6 => exact B8_one _)
  intro w6 hu6 hB6
  rw [splice_all _ _ (by rfl)] at hB6
  have hBr6 := hBr5.upd hu6 (by omega)
  have hBs6 := hBs5.upd hu6 (by omega)
  have hbel6 := hbel5.trans (hu6.below (B := w.heap.size) (by omega))
  have hB6' : Blk w6 go 44 (obRow D 0) := by unfold obRow; rw [hDl.out]; exact hB6
  clear hBr5 hBs5 hbel5 hB5 hu6 hB6
  go_wp2
  go_loopw [5] (ShRel D S gr gs go w) (fun i _ => 16 - (intOf i).toNat)
  case atStart => exact ⟨0, by omega, rfl, hB6', hBs6, hBr6, hbel6⟩
  case round =>
    clear hB6' hBs6 hBr6 hbel6
    obtain ⟨k, hk, rfl, hB, hBs, hBr, hbel⟩ := hrel
    by_cases hk16 : k < 16
    · have hsc := Lib.hid (obRow_snoc D k (by rw [hDl.out]; exact hk16))
      have hc := hBs.cell (k := k) (v := B8 (S.getD k 0)) (by rw [List.getElem?_map, List.getD_eq_getElem?_getD, List.getElem?_eq_getElem (by rw [hSl.out]; omega)]; rfl)
      have hgd : Unit → D.getD k 0 = S.getD k 0 := fun _ => take_getD S D k (hDS ()) hk16
      rw [hgd ()] at hsc
      clear hgd
      generalize S.getD k 0 = c at hc hsc
      unfold B8 at hc
      go_wp2_with (with_reducible refine wpList_put (o := ⟨none, .store 5 (.tmp 17) (.tmp 16), _, _, _, _⟩) ?g7 5 (.tmp 17) (.tmp 16) ?o7 go k ?x7 (B8 c) ?y7 hB [B8 c] ?v7 ?i7 ?l7 ?q7 ?_)
      try (case y7 => rfl)
      try (case x7 => rfl)
      try (case g7 => rfl)
      try (case o7 => rfl)
      try (case v7 => rfl)
      try (case i7 => exact Tryd.size5)
      try (case l7 => (rw [obRow_length D k (by rw [hDl.out]; omega), hDl.out]; simp; omega))
      try (case q7 => exact one_cell1 rfl)
      intro w7 hu7 hB7
      have hB7' : Blk w7 go 44 (obRow D (k + 1)) := by rw [← hsc.out]; exact hB7
      have hBs7 := hBs.upd hu7 (by omega)
      have hBr7 := hBr.upd hu7 (by omega)
      have hbel7 := hbel.trans (hu7.below (B := w.heap.size) (by omega))
      clear hB hBs hBr hbel hu7 hB7 hc hsc
      go_wp2
      go_roundw
      case rel => exact ⟨k + 1, by omega, by go_num, hB7', hBs7, hBr7, hbel7⟩
      case measure => simp [intOf]; omega
    · obtain rfl : k = 16 := by omega
      have hob : Unit → obRow D 16 = D.map B8 := fun _ => by have := obRow_all D; rw [hDl.out] at this; exact this
      rw [hob ()] at hB
      have hDc : (D.map B8).length = 16 := by rw [List.length_map]; exact hDl.out
      clear hob
      go_wp2_with (first | (with_reducible refine wpList_get (o := ⟨some 18, .load 44 (.tmp 4), _, _, _, _⟩) ?g8 44 (.tmp 4) ?o8 go 0 ?x8 hB (D.map B8) ?c8 (.array 16 5) ?u8 ?d8 ?i8 ?_) | (with_reducible refine wpList_put (o := ⟨none, .store 44 (.tmp 2) (.tmp 18), _, _, _, _⟩) ?g9 44 (.tmp 2) (.tmp 18) ?o9 gr 0 ?x9 (.agg (D.map B8).toArray) ?y9 hBr (D.map B8) ?v9 ?i9 ?l9 ?q9 ?_))
      try (case x8 => rfl)
      try (case g8 => rfl)
      try (case o8 => rfl)
      try (case c8 => (exact cs_all _))
      try (case u8 => exact Tryd.underlying44)
      try (case d8 => first | rfl | assumption)
      try (case i8 => (rw [hDc]; exact Tryd.size44))
      try (case y9 => rfl)
      try (case x9 => rfl)
      try (case g9 => rfl)
      try (case o9 => rfl)
      try (case v9 => rfl)
      try (case i9 => exact (by rw [hDc]; exact Tryd.size44))
      try (case l9 => (rw [hDc]; exact Nat.le_refl _))
      try (case q9 => exact B8_one _)
      intro w9 hu9 hB9
      rw [splice_all _ _ (by rw [hDc]; rfl)] at hB9
      go_wp2
      refine bodyPost_ret (results_cell_row rfl _ _ gr _ _ _ _ rfl hB9 Tryd.underlying44 rfl (by rw [List.size_toArray, hDc]; exact Tryd.size44)) rfl ⟨rfl, hbel.trans (hu9.below (by omega))⟩

/-- The digest that Of returns. -/
def ofD (t : Int) (xs : List ByteArray) : List UInt8 := (SM.sum (ofIn t xs)).take 16
theorem ofD_length (t : Int) (xs : List ByteArray) : (ofD t xs).length = 16 := by unfold ofD; rw [List.length_take, SM.sum_length]; rfl
theorem short_own (w1 : World) (base : Nat) (v : Value) (n : Nat) (l D : List UInt8) (hD : Unit → (SM.sum l).take 16 = D) (hown : w1.ownsRow base 5 1 v n (l.map B8)) (hn : n = l.length) (hl : l.length ≤ 100000000) (h0 : 0 < l.length) (HC : LayC w1) :
    Calls Tryd.prog 56 #[v] w1 fun e w' => e = .returned (.agg (D.map B8).toArray) ∧ Below w1.heap.size w1 w' := by
  obtain ⟨g2, c2, rfl, hcs2⟩ := own_some hown (by omega)
  exact short_any _ c2 n l D w1 hD hn hl (fun j u hu => ⟨_, rfl, hcs2 j u hu⟩) HC

set_option maxRecDepth 100000 in
set_option maxHeartbeats 800000 in
theorem rof_any (A : Option Addr) (cap n : Nat) (t : Int) (xs : List ByteArray) (D : List UInt8) (w : World) (hD : Unit → ofD t xs = D) (hn : n = xs.length) (hn1 : n ≤ 1000000) (hl : (ofIn t xs).length ≤ 100000000) (HC : LayC w) (hh : Holds w A (xs.map Value.string)) :
    Calls Tryd.prog 27 #[.int .i64 t, .slice A n cap] w fun e w' => e = .returned (.agg (D.map B8).toArray) ∧ Below w.heap.size w w' := by
  have hDl : (D.map B8).length = 16 := by rw [List.length_map, ← hD (), ofD_length]
  have h0 : 0 < (ofIn t xs).length := by unfold ofIn; simp
  obtain ⟨L, hL⟩ : ∃ L, Hid (ofIn t xs = L) := ⟨_, rfl⟩
  have hDL : Unit → (SM.sum L).take 16 = D := fun _ => by rw [← hD (), ← hL.out]; rfl
  have hin := fun w1 (h1 : Holds w1 A (xs.map Value.string)) => input_any A cap n t xs w1 hn hn1 (by omega) h1
  rw [hL.out] at hl h0 hin
  clear hD hn
  go_enter Tryd.func27, Tryd.ntmps27
  go_wp2_with (with_reducible refine wpList_alloc (o := ⟨some 4, .alloc 44, _, _, _, _⟩) ?g1 44 ?o1 (aggB (SM.zeros 16)) zero16 ?z1 ?c1 ?_)
  try (case g1 => rfl)
  try (case o1 => rfl)
  try (case z1 => exact Tryd.zero44)
  try (case c1 => rfl)
  intro gr w1 hgr hs1 hb1 hB1
  have hlt0 : w.heap.size ≤ gr := Nat.le_of_eq hgr.out.symm
  have hbel1 : Below w.heap.size w w1 := hb1.mono hlt0
  have hh1 := hh.next hbel1
  clear hgr hs1 hb1 hh
  go_wp2_with fail
  (with_reducible refine (hin _ hh1).mono ?_)
  rintro e w2 ⟨v2, rfl, hown2, hb2⟩
  have hB2 := hB1.next hb2 hB1.lt
  have hbel2 := below_join hbel1 hb2
  have HC2 := HC.next hbel2
  clear hB1 hb2 hbel1 hh1 hin HC
  go_wp2_with fail
  (with_reducible refine (short_own _ _ _ _ L D hDL hown2 rfl hl h0 HC2).mono ?_)
  rintro e w3 ⟨rfl, hb3⟩
  have hB3 := hB2.next hb3 hB2.lt
  have hbel3 := below_join hbel2 hb3
  clear hB2 hb3 hbel2 hown2 HC2
  go_wp2_with (with_reducible refine wpList_put (o := ⟨none, .store 44 (.tmp 4) (.tmp 8), _, _, _, _⟩) ?g2 44 (.tmp 4) (.tmp 8) ?o2 gr 0 ?x2 (.agg (D.map B8).toArray) ?y2 hB3 (D.map B8) ?v2 ?i2 ?l2 ?q2 ?_)
  try (case y2 => rfl)
  try (case x2 => rfl)
  try (case g2 => rfl)
  try (case o2 => rfl)
  try (case v2 => rfl)
  try (case i2 => exact (by rw [hDl]; exact Tryd.size44))
  try (case l2 => (rw [hDl]; exact Nat.le_refl _))
  try (case q2 => exact B8_one _)
  intro w4 hu4 hB4
  rw [splice_all _ _ (by rw [hDl]; rfl)] at hB4
  go_wp2
  refine bodyPost_ret (results_cell_row rfl _ _ gr _ _ _ _ rfl hB4 Tryd.underlying44 rfl (by rw [List.size_toArray, hDl]; exact Tryd.size44)) rfl ⟨rfl, hbel3.trans (hu4.below (by omega))⟩
end Go.Proofs.YtnhnfdfjlagcjaaDoor
