/-
  Contract of the walk over the statements' own sanity: it returns true. Conditions: the tables read as the document has them.
-/
import Derived.Test.YtnhnfdfjlagcjaaDoorHev
import Derived.Test.YtnhnfdfjlagcjaaDoorHarr
import Derived.Lib.SlBytesConst
namespace Go.Proofs.YtnhnfdfjlagcjaaDoor
open Go.RowKit

theorem holds_alloc (w : World) (cs : List Value) (t : TypeId) (fr : Nat × Nat) : Holds (w.alloc (.cells cs.toArray t fr)) (some ⟨w.heap.size, 0, none⟩) cs := fun j u hu => ⟨_, rfl, by
  rw [addr_mid, Nat.zero_add, cell_of_row _ _ j cs.toArray t fr (heap_alloc_new w _)]
  simpa using hu⟩
theorem sum_3 (A : Option Addr) (cap : Nat) (w : World) (HY : Lay w) (hh : Holds w A (([97, 98, 99] : List UInt8).map B8)) :
    Calls Tryd.prog 16 #[.slice A 3 cap] w fun e w' => e = .returned (.agg ((SM.sum [97, 98, 99]).map B8).toArray) ∧ Below w.heap.size w w' := sum_any A cap 3 [97, 98, 99] w rfl (by decide) HY hh

theorem add_bc (w : World) (HY : Lay w) :
    Calls Tryd.prog 20 #[.agg (SVc (({ data := #[97] } : ByteArray).data.toList)).toArray, .string { data := #[98, 99] }] w fun e w' => e = .returned (.agg (SVc [97, 98, 99]).toArray) ∧ Below w.heap.size w w' := add_any [97] { data := #[98, 99] } w (by decide) HY

def H1L : List UInt8 := [98, 97, 55, 56, 49, 54, 98, 102, 56, 102, 48, 49, 99, 102, 101, 97, 52, 49, 52, 49, 52, 48, 100, 101, 53, 100, 97, 101, 50, 50, 50, 51, 98, 48, 48, 51, 54, 49, 97, 51, 57, 54, 49, 55, 55, 97, 57, 99, 98, 52, 49, 48, 102, 102, 54, 49, 102, 50, 48, 48, 49, 53, 97, 100]
def H2L : List UInt8 := [53, 98, 100, 99, 99, 49, 52, 54, 98, 102, 54, 48, 55, 53, 52, 101, 54, 97, 48, 52, 50, 52, 50, 54, 48, 56, 57, 53, 55, 53, 99, 55, 53, 97, 48, 48, 51, 102, 48, 56, 57, 100, 50, 55, 51, 57, 56, 51, 57, 100, 101, 99, 53, 56, 98, 57, 54, 52, 101, 99, 51, 56, 52, 51]
def H3L : List UInt8 := [102, 97, 49, 53, 52, 98, 97, 53, 97, 52, 100, 50, 54, 54, 102, 49, 98, 54, 52, 99, 56, 50, 54, 99, 101, 101, 100, 99, 97, 99, 98, 55]
theorem of_2 (A : Option Addr) (cap : Nat) (w : World) (HY : Lay w) (hh : Holds w A ([sA, sE].map Value.string)) :
    Calls Tryd.prog 26 #[.int .i64 8, .slice A 2 cap] w fun e w' => e = .returned (.agg (((SM.sum (ofIn 8 [sA, sE])).take 16).map B8).toArray) ∧ Below w.heap.size w w' := of_any A cap 2 8 [sA, sE] w rfl (by decide) (by rw [ev_in]; decide) HY hh
theorem mac_1 (w : World) (HY : Lay w) :
    Calls Tryd.prog 23 #[.string { data := #[74, 101, 102, 101] }, .string { data := #[119, 104, 97, 116, 32, 100, 111, 32, 121, 97, 32, 119, 97, 110, 116, 32, 102, 111, 114, 32, 110, 111, 116, 104, 105, 110, 103, 63] }] w fun e w' => e = .returned (.string ⟨(mac jefe.data.toList what.data.toList).toArray⟩) ∧ Below w.heap.size w w' := mac_any jefe what w (by decide) (by decide) HY
theorem eq_1 (w : World) : Calls Tryd.prog 29 #[.string { data := #[97, 98] }, .string { data := #[97, 98] }] w fun e w' => e = .returned (.bool true) ∧ Below w.heap.size w w' := equal_any { data := #[97, 98] } { data := #[97, 98] } w (by decide) (by decide)
theorem eq_2 (w : World) : Calls Tryd.prog 29 #[.string { data := #[97, 98] }, .string { data := #[97, 99] }] w fun e w' => e = .returned (.bool false) ∧ Below w.heap.size w w' := equal_any { data := #[97, 98] } { data := #[97, 99] } w (by decide) (by decide)
theorem eq_3 (w : World) : Calls Tryd.prog 29 #[.string { data := #[] }, .string { data := #[97] }] w fun e w' => e = .returned (.bool false) ∧ Below w.heap.size w w' := equal_any { data := #[] } { data := #[97] } w (by decide) (by decide)
theorem hex_to (l r : List UInt8) (w : World) (hl : l.length ≤ 1000) (h : Hid (hexL l = r)) :
    Calls Tryd.prog 45 #[.string ⟨l.toArray⟩] w fun e w' => e = .returned (.string ⟨r.toArray⟩) ∧ Below w.heap.size w w' := by
  have := hex_any ⟨l.toArray⟩ w (by rw [str_size]; omega)
  rw [str_toList, h.out] at this
  exact this

set_option maxRecDepth 100000 in
set_option maxHeartbeats 1600000 in
theorem sanity_any (w : World) (HY : Lay w) :
    Calls Tryd.prog 15 #[] w fun e w' => e = .returned (.bool true) ∧ Below w.heap.size w w' := by
  have hcc := fun (w : World) (C : Array Value) (n c : Nat) => Lib.run_convert_bytes_const (P := Tryd.prog) w 22 5 C n c Tryd.underlying22 Tryd.underlying5
  go_enter Tryd.func15, Tryd.ntmps15
  go_wp2_with fail
  obtain ⟨w0, hw0⟩ : ∃ w0, Hid (w0 = w.alloc (.cells #[Value.int .u8 97, Value.int .u8 98, Value.int .u8 99] 5 (3, 4))) := ⟨_, rfl⟩
  have hb0 : Below w.heap.size w w0 := by rw [hw0.out]; exact below_new w _
  have hh0 : Holds w0 (some ⟨w.heap.size, 0, none⟩) (([97, 98, 99] : List UInt8).map B8) := by rw [hw0.out]; exact holds_alloc w [Value.int .u8 97, Value.int .u8 98, Value.int .u8 99] 5 (3, 4)
  rw [← hw0.out]
  have HY0 := HY.next hb0
  (with_reducible refine (sum_3 _ _ _ HY0 hh0).mono ?_)
  rintro e w1 ⟨rfl, hb1⟩
  have hbel1 := hb0.trans (hb1.mono hb0.size)
  have HY1 := HY0.next hb1
  clear hb0 hh0 HY0 hb1 hw0
  obtain ⟨S, hS⟩ : ∃ S, Hid (SM.sum [97, 98, 99] = S) := ⟨_, rfl⟩
  have hSl : Hid (S.length = 32) := by rw [← hS.out]; rfl
  rw [hS.out]
  go_wp2_with (with_reducible refine wpList_alloc (o := ⟨some 1, .alloc 24, _, _, _, _⟩) ?g1 24 ?o1 (aggB (SM.zeros 32)) zero32 ?z1 ?c1 ?_)
  try (case g1 => rfl)
  try (case o1 => rfl)
  try (case z1 => exact Tryd.zero24)
  try (case c1 => rfl)
  intro g1 w2 hg1 hs2 hb2 hB2
  have hle1 : w.heap.size ≤ g1 := by have := hbel1.size; have := hg1.out; omega
  have hbel2 := hbel1.trans (hb2.mono hle1)
  clear hbel1 hb2 hg1 hs2
  go_wp2_with (with_reducible refine wpList_put (o := ⟨none, .store 24 (.tmp 1) (.tmp 9), _, _, _, _⟩) ?g2 24 (.tmp 1) (.tmp 9) ?o2 g1 0 ?x2 (.agg (S.map B8).toArray) ?y2 hB2 (S.map B8) ?v2 ?i2 ?l2 ?q2 ?_)
  try (case y2 => rfl)
  try (case x2 => rfl)
  try (case g2 => rfl)
  try (case o2 => rfl)
  try (case v2 => rfl)
  try (case i2 => exact (by rw [List.length_map, hSl.out]; exact Tryd.size24))
  try (case l2 => (rw [List.length_map, hSl.out]; exact Nat.le_refl _))
  try (case q2 => exact B8_one _)
  intro w3 hu3 hB3
  rw [splice_all _ _ (by rw [List.length_map, hSl.out]; rfl)] at hB3
  have hbel3 := hbel2.trans (hu3.below (B := w.heap.size) hle1)
  clear hbel2 hB2 hu3 HY1
  have HY3 := HY.next hbel3
  go_wp2_with fail
  (with_reducible refine (begin_any _ HY3).mono ?_)
  rintro e w4 ⟨rfl, hb4⟩
  have hbel4 := hbel3.trans (hb4.mono hbel3.size)
  have hB4 := hB3.next hb4 hB3.lt
  have HY4 := HY3.next hb4
  clear hbel3 hb4 hB3 HY3
  go_wp2_with fail
  (with_reducible refine (add_start _ _ (by decide) HY4).mono ?_)
  rintro e w5 ⟨rfl, hb5⟩
  have hbel5 := hbel4.trans (hb5.mono hbel4.size)
  have hB5 := hB4.next hb5 hB4.lt
  have HY5 := HY4.next hb5
  clear hbel4 hb5 hB4 HY4
  go_wp2_with fail
  (with_reducible refine (add_bc _ HY5).mono ?_)
  rintro e w6 ⟨rfl, hb6⟩
  have hbel6 := hbel5.trans (hb6.mono hbel5.size)
  have hB6 := hB5.next hb6 hB5.lt
  have HY6 := HY5.next hb6
  clear hbel5 hb6 hB5 HY5
  go_wp2_with fail
  (with_reducible refine (ssum_any [97, 98, 99] _ (by decide) HY6).mono ?_)
  rintro e w7 ⟨rfl, hb7⟩
  have hbel7 := hbel6.trans (hb7.mono hbel6.size)
  have hB7 := hB6.next hb7 hB6.lt
  clear hbel6 hb7 hB6 HY6
  rw [hS.out]
  go_wp2_with (with_reducible refine wpList_alloc (o := ⟨some 2, .alloc 24, _, _, _, _⟩) ?g3 24 ?o3 (aggB (SM.zeros 32)) zero32 ?z3 ?c3 ?_)
  try (case g3 => rfl)
  try (case o3 => rfl)
  try (case z3 => exact Tryd.zero24)
  try (case c3 => rfl)
  intro g2 w8 hg2 hs8 hb8 hB8
  have hlt2 : g1 < g2 := by have := hB7.lt; have := hg2.out; omega
  have hBa8 := hB7.next hb8 hlt2
  have hbel8 := hbel7.trans (hb8.mono (by omega))
  clear hbel7 hb8 hB7 hg2 hs8
  go_wp2_with (with_reducible refine wpList_put (o := ⟨none, .store 24 (.tmp 2) (.tmp 13), _, _, _, _⟩) ?g4 24 (.tmp 2) (.tmp 13) ?o4 g2 0 ?x4 (.agg (S.map B8).toArray) ?y4 hB8 (S.map B8) ?v4 ?i4 ?l4 ?q4 ?_)
  try (case y4 => rfl)
  try (case x4 => rfl)
  try (case g4 => rfl)
  try (case o4 => rfl)
  try (case v4 => rfl)
  try (case i4 => exact (by rw [List.length_map, hSl.out]; exact Tryd.size24))
  try (case l4 => (rw [List.length_map, hSl.out]; exact Nat.le_refl _))
  try (case q4 => exact B8_one _)
  intro w9 hu9 hB9
  rw [splice_all _ _ (by rw [List.length_map, hSl.out]; rfl)] at hB9
  have hBa9 := hBa8.upd hu9 (by omega)
  have hbel9 := hbel8.trans (hu9.below (B := w.heap.size) (by omega))
  clear hbel8 hBa8 hB8 hu9
  go_wp2_with fail
  obtain ⟨w10, hw10⟩ : ∃ w10, Hid (w10 = w9.alloc (.cells #[Value.string { data := #[97] }, Value.string { data := #[] }] 9)) := ⟨_, rfl⟩
  have hb10 : Below w9.heap.size w9 w10 := by rw [hw10.out]; exact below_new w9 _
  have hh10 : Holds w10 (some ⟨w9.heap.size, 0, none⟩) ([sA, sE].map Value.string) := by rw [hw10.out]; exact holds_alloc w9 [Value.string sA, Value.string sE] 9 (0, 0)
  rw [← hw10.out]
  have hBa10 := hBa9.next hb10 hBa9.lt
  have hBb10 := hB9.next hb10 hB9.lt
  have hbel10 := hbel9.trans (hb10.mono hbel9.size)
  have HY10 := HY.next hbel10
  clear hw10 hb10 hbel9 hBa9 hB9
  (with_reducible refine (of_2 _ _ _ HY10 hh10).mono ?_)
  rintro e w11 ⟨rfl, hb11⟩
  have hBa11 := hBa10.next hb11 hBa10.lt
  have hBb11 := hBb10.next hb11 hBb10.lt
  have hbel11 := hbel10.trans (hb11.mono hbel10.size)
  clear hBa10 hBb10 hbel10 hb11 hh10 HY10
  obtain ⟨D, hD⟩ : ∃ D, Hid ((SM.sum (ofIn 8 [sA, sE])).take 16 = D) := ⟨_, rfl⟩
  have hDl : Hid (D.length = 16) := by rw [← hD.out]; exact (by rw [List.length_take, SM.sum_length]; rfl)
  rw [hD.out]
  go_wp2_with (with_reducible refine wpList_alloc (o := ⟨some 3, .alloc 44, _, _, _, _⟩) ?g5 44 ?o5 (aggB (SM.zeros 16)) zero16 ?z5 ?c5 ?_)
  try (case g5 => rfl)
  try (case o5 => rfl)
  try (case z5 => exact Tryd.zero44)
  try (case c5 => rfl)
  intro g3 w12 hg3 hs12 hb12 hB12
  have hlt3 : g2 < g3 := by have := hBb11.lt; have := hg3.out; omega
  have hBa12 := hBa11.next hb12 (by omega)
  have hBb12 := hBb11.next hb12 hlt3
  have hbel12 := hbel11.trans (hb12.mono (by omega))
  clear hbel11 hb12 hBa11 hBb11 hg3 hs12
  go_wp2_with (with_reducible refine wpList_put (o := ⟨none, .store 44 (.tmp 3) (.tmp 15), _, _, _, _⟩) ?g6 44 (.tmp 3) (.tmp 15) ?o6 g3 0 ?x6 (.agg (D.map B8).toArray) ?y6 hB12 (D.map B8) ?v6 ?i6 ?l6 ?q6 ?_)
  try (case y6 => rfl)
  try (case x6 => rfl)
  try (case g6 => rfl)
  try (case o6 => rfl)
  try (case v6 => rfl)
  try (case i6 => exact (by rw [List.length_map, hDl.out]; exact Tryd.size44))
  try (case l6 => (rw [List.length_map, hDl.out]; exact Nat.le_refl _))
  try (case q6 => exact B8_one _)
  intro w13 hu13 hB13
  rw [splice_all _ _ (by rw [List.length_map, hDl.out]; rfl)] at hB13
  have hBa13 := hBa12.upd hu13 (by omega)
  have hBb13 := hBb12.upd hu13 (by omega)
  have hbel13 := hbel12.trans (hu13.below (B := w.heap.size) (by omega))
  clear hbel12 hBa12 hBb12 hB12 hu13
  have HY13 := HY.next hbel13
  go_wp2_with fail
  (with_reducible refine (mac_1 _ HY13).mono ?_)
  rintro e w14 ⟨rfl, hb14⟩
  have hBa14 := hBa13.next hb14 hBa13.lt
  have hBb14 := hBb13.next hb14 hBb13.lt
  have hBc14 := hB13.next hb14 hB13.lt
  have hbel14 := hbel13.trans (hb14.mono hbel13.size)
  clear hBa13 hBb13 hB13 hbel13 hb14 HY13
  obtain ⟨M, hM⟩ : ∃ M, Hid (mac jefe.data.toList what.data.toList = M) := ⟨_, rfl⟩
  have hMl : Hid (M.length = 32) := by rw [← hM.out]; rfl
  rw [hM.out]
  go_wp2_with fail
  (with_reducible refine (eq_1 _).mono ?_)
  rintro e w15 ⟨rfl, hb15⟩
  have hBa15 := hBa14.next hb15 hBa14.lt
  have hBb15 := hBb14.next hb15 hBb14.lt
  have hBc15 := hBc14.next hb15 hBc14.lt
  have hbel15 := hbel14.trans (hb15.mono hbel14.size)
  clear hBa14 hBb14 hBc14 hbel14 hb15
  go_wp2_with fail
  (with_reducible refine (eq_2 _).mono ?_)
  rintro e w16 ⟨rfl, hb16⟩
  have hBa16 := hBa15.next hb16 hBa15.lt
  have hBb16 := hBb15.next hb16 hBb15.lt
  have hBc16 := hBc15.next hb16 hBc15.lt
  have hbel16 := hbel15.trans (hb16.mono hbel15.size)
  clear hBa15 hBb15 hBc15 hbel15 hb16
  go_wp2_with fail
  (with_reducible refine (eq_3 _).mono ?_)
  rintro e w17 ⟨rfl, hb17⟩
  have hBa17 := hBa16.next hb17 hBa16.lt
  have hBb17 := hBb16.next hb17 hBb16.lt
  have hBc17 := hBc16.next hb17 hBc16.lt
  have hbel17 := hbel16.trans (hb17.mono hbel16.size)
  clear hBa16 hBb16 hBc16 hbel16 hb17
  go_wp2_with (with_reducible refine wpList_get (o := ⟨some 22, .load 24 (.tmp 1), _, _, _, _⟩) ?g7 24 (.tmp 1) ?o7 g1 0 ?x7 hBa17 (S.map B8) ?c7 (.array 32 5) ?u7 ?d7 ?i7 ?_)
  try (case x7 => rfl)
  try (case g7 => rfl)
  try (case o7 => rfl)
  try (case c7 => (exact cs_all _))
  try (case u7 => exact Tryd.underlying24)
  try (case d7 => first | rfl | assumption)
  try (case i7 => (rw [List.length_map, hSl.out]; exact Tryd.size24))
  go_wp2_with fail
  (with_reducible refine (bytes32_any S _ hSl.out).mono ?_)
  rintro e w18 ⟨rfl, hb18⟩
  have hBa18 := hBa17.next hb18 hBa17.lt
  have hBb18 := hBb17.next hb18 hBb17.lt
  have hBc18 := hBc17.next hb18 hBc17.lt
  have hbel18 := hbel17.trans (hb18.mono hbel17.size)
  clear hBa17 hBb17 hBc17 hbel17 hb18
  have hx1 : Hid (hexL S = H1L) := by rw [← hS.out]; exact ev_sum
  go_wp2_with fail
  (with_reducible refine (hex_to S H1L _ (by rw [hSl.out]; decide) hx1).mono ?_)
  rintro e w19 ⟨rfl, hb19⟩
  have hBa19 := hBa18.next hb19 hBa18.lt
  have hBb19 := hBb18.next hb19 hBb18.lt
  have hBc19 := hBc18.next hb19 hBc18.lt
  have hbel19 := hbel18.trans (hb19.mono hbel18.size)
  clear hBa18 hBb18 hBc18 hbel18 hb19
  go_wp2_with (first | (with_reducible refine wpList_getg (o := ⟨some 27, .load 24 (.tmp 1), _, _, _, _⟩) ?g8 24 (.tmp 1) ?o8 g1 0 ?x8 hBa19 (S.map B8) ?c8 (.array 32 5) ?u8 ?d8 ?i8 ?_) | (with_reducible refine wpList_getg (o := ⟨some 28, .load 24 (.tmp 2), _, _, _, _⟩) ?g9 24 (.tmp 2) ?o9 g2 0 ?x9 hBb19 (S.map B8) ?c9 (.array 32 5) ?u9 ?d9 ?i9 ?_) | (with_reducible refine wpList_eqArr (o := ⟨some 29, .binOp .eql 24 (.tmp 27) (.tmp 28) 24, _, _, _, _⟩) ?g10 24 (.tmp 27) (.tmp 28) ?o10 32 ?u10 ?e10 S S ?x10 ?y10 ?l10 ?r10 ?_))
  try (case x8 => rfl)
  try (case g8 => rfl)
  try (case o8 => rfl)
  try (case c8 => (exact cs_all _))
  try (case u8 => exact Tryd.underlying24)
  try (case d8 => first | rfl | assumption)
  try (case i8 => (rw [List.length_map, hSl.out]; exact Tryd.size24))
  try (case x9 => rfl)
  try (case g9 => rfl)
  try (case o9 => rfl)
  try (case c9 => (exact cs_all _))
  try (case u9 => exact Tryd.underlying24)
  try (case d9 => first | rfl | assumption)
  try (case i9 => (rw [List.length_map, hSl.out]; exact Tryd.size24))
  try (case x10 => rfl)
  try (case y10 => rfl)
  try (case g10 => rfl)
  try (case o10 => rfl)
  try (case u10 => exact Tryd.underlying24)
  try (case e10 => exact Tryd.guard24)
  try (case l10 => exact hSl.out)
  try (case r10 => exact hSl.out)
  have hx2 : Hid (hexL M = H2L) := by rw [← hM.out]; exact ev_mac
  (with_reducible refine (hex_to M H2L _ (by rw [hMl.out]; decide) hx2).mono ?_)
  rintro e w20 ⟨rfl, hb20⟩
  have hBc20 := hBc19.next hb20 hBc19.lt
  have hbel20 := hbel19.trans (hb20.mono hbel19.size)
  clear hBa19 hBb19 hBc19 hbel19 hb20
  go_wp2_with (first | (with_reducible refine wpList_getg (o := ⟨some 37, .load 44 (.tmp 3), _, _, _, _⟩) ?g11 44 (.tmp 3) ?o11 g3 0 ?x11 hBc20 (D.map B8) ?c11 (.array 16 5) ?u11 ?d11 ?i11 ?_))
  try (case x11 => rfl)
  try (case g11 => rfl)
  try (case o11 => rfl)
  try (case c11 => (exact cs_all _))
  try (case u11 => exact Tryd.underlying44)
  try (case d11 => first | rfl | assumption)
  try (case i11 => (rw [List.length_map, hDl.out]; exact Tryd.size44))
  go_wp2_with fail
  (with_reducible refine (text_any D _ hDl.out).mono ?_)
  rintro e w21 ⟨rfl, hb21⟩
  have hbel21 := hbel20.trans (hb21.mono hbel20.size)
  clear hBc20 hbel20 hb21
  have hx3 : Hid (hexL D = H3L) := by rw [← hD.out]; exact ev_of
  go_wp2_with fail
  (with_reducible refine (hex_to D H3L _ (by rw [hDl.out]; decide) hx3).mono ?_)
  rintro e w22 ⟨rfl, hb22⟩
  have hbel22 := hbel21.trans (hb22.mono hbel21.size)
  clear hbel21 hb22
  go_wp2_with fail

  go_ret
  exact ⟨rfl, hbel22⟩
end Go.Proofs.YtnhnfdfjlagcjaaDoor
