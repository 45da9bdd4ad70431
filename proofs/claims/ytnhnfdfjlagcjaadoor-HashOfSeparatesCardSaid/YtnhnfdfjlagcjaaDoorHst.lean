/-
  Contracts of the walks over chapter 2's streams: Begin, used, compressed. Conditions: the tables read as the document has them.
-/
import Derived.Test.YtnhnfdfjlagcjaaDoorHc
namespace Go.Proofs.YtnhnfdfjlagcjaaDoor
open Go.RowKit

/-- A stream's cells: the hash value, the bytes in no full block, the length. -/
def strmC (v : SM.V) (r : List UInt8) (n : Nat) : List Value := v.list.map W32 ++ (r.map B8 ++ [.int .u64 (n : Int)])
def strmV (v : SM.V) (r : List UInt8) (n : Nat) : Value := .agg (strmC v r n).toArray
theorem strm_length (v : SM.V) (r : List UInt8) (n : Nat) (h : r.length = 64) : (strmC v r n).length = 73 := by unfold strmC SM.V.list; simp [h]
theorem strm_one (v : SM.V) (r : List UInt8) (n : Nat) : ∀ u ∈ strmC v r n, u.oneCell' = true := by
  intro u hu
  simp only [strmC, List.mem_append, List.mem_singleton] at hu
  rcases hu with hu | hu | hu
  · exact W32_one _ u hu
  · exact B8_one _ u hu
  · subst hu; rfl
theorem strm_value (v : SM.V) (r : List UInt8) (n : Nat) : ((strmC v r n).drop 0).take (v.list.map W32).length = v.list.map W32 := by unfold strmC; simp
theorem strm_rest (v : SM.V) (r : List UInt8) (n : Nat) : ((strmC v r n).drop 8).take (r.map B8).length = r.map B8 := by
  unfold strmC
  rw [List.drop_left' (by rfl), List.take_left' rfl]
theorem strm_setV (v v' : SM.V) (r : List UInt8) (n : Nat) : splice (strmC v r n) 0 (v'.list.map W32) = strmC v' r n := rfl
theorem strm_setR (v : SM.V) (r r' : List UInt8) (n : Nat) (h : r'.length = r.length) : splice (strmC v r n) 8 (r'.map B8) = strmC v r' n := by
  unfold splice strmC
  rw [List.take_left' (by rfl), List.drop_append, List.length_map, h]
  rw [List.drop_eq_nil_of_le (by show 8 ≤ 8 + r.length; omega), show 8 + r.length - (v.list.map W32).length = r.length by show 8 + r.length - 8 = _; omega, List.drop_left' (by simp)]
  simp
theorem strm_len (v : SM.V) (r : List UInt8) (n : Nat) (h : r.length = 64) : (strmC v r n)[72]? = some (.int .u64 (n : Int)) := by
  unfold strmC
  rw [← List.append_assoc, List.getElem?_append_right (by simp [SM.V.list, h])]
  simp [SM.V.list, h]
theorem strm_setN (v : SM.V) (r : List UInt8) (n n' : Nat) (h : r.length = 64) : splice (strmC v r n) 72 [.int .u64 (n' : Int)] = strmC v r n' := by
  have e : strmC v r n = (v.list.map W32 ++ r.map B8) ++ [.int .u64 (n : Int)] := by unfold strmC; rw [List.append_assoc]
  have hl : (v.list.map W32 ++ r.map B8).length = 72 := by rw [List.length_append, List.length_map, List.length_map, h]; rfl
  unfold splice
  rw [e, List.take_left' hl, List.drop_eq_nil_of_le (by rw [List.length_append, hl]; exact Nat.le_refl _)]
  unfold strmC
  rw [List.append_nil, List.append_assoc]

theorem Tryd.zero34 : (Tryd.prog.info? 34).map (·.zero) = some (some (strmV ⟨0, 0, 0, 0, 0, 0, 0, 0⟩ (SM.zeros 64) 0)) := by kernel_rfl
theorem Tryd.size34 : (Tryd.prog.info? 34).map (·.size) = some 73 := by kernel_rfl
def zeroS : List Value := strmC ⟨0, 0, 0, 0, 0, 0, 0, 0⟩ (SM.zeros 64) 0
theorem Tryd.under34 : ∃ d, Hid (Tryd.prog.underlying 34 = some d) ∧ d.isRow = true := ⟨_, Tryd.underlying34, rfl⟩
theorem zeroS_length : zeroS.length = 73 := rfl
theorem Tryd.build34 (w : World) : (Instr.build 34 #[(0, .agg (SM.start.list.map W32).toArray)]).run Tryd.prog w = .ok (strmV SM.start (SM.zeros 64) 0) w := by kernel_rfl
theorem Tryd.build31 (w : World) : (Instr.build 31 #[]).run Tryd.prog w = .ok (.agg ((SM.zeros 64).map B8).toArray) w := by kernel_rfl
theorem start_range {w : World} (HY : Lay w) : w.rangeAt 1 0 (SM.start.list.map W32) := fun j v hv => by
  have hj : j < 8 := (List.getElem?_eq_some_iff.1 hv).1
  rw [Nat.zero_add, HY.start j hj, ← hv, list_at _ _ hj]

set_option maxRecDepth 100000 in
theorem begin_any (w : World) (HY : Lay w) :
    Calls Tryd.prog 19 #[] w fun e w' => e = .returned (.agg (strmC SM.start (SM.zeros 64) 0).toArray) ∧ Below w.heap.size w w' := by
  go_enter Tryd.func19, Tryd.ntmps19
  go_wp2_with (with_reducible refine wpList_alloc (o := ⟨some 0, .alloc 34, _, _, _, _⟩) ?g1 34 ?o1 (strmV ⟨0, 0, 0, 0, 0, 0, 0, 0⟩ (SM.zeros 64) 0) zeroS ?z1 ?c1 ?_)
  try (case g1 => rfl)
  try (case o1 => rfl)
  try (case z1 => exact Tryd.zero34)
  try (case c1 => rfl)
  intro gr w1 hgr hs1 hb1 hB1
  have HY1 := start_range (HY.next (hb1.mono (Nat.le_of_eq hgr.out.symm)))
  go_wp2_with (first | (with_reducible refine wpList_load_mid (op := ⟨some 1, .load 30 (.global 1), _, _, _, _⟩) ?g2 30 (.global 1) ?o2 1 0 ?x2 (SM.start.list.map W32) (.array 8 29) HY1 Tryd.underlying30 ?d2 ?i2 ?_) | (with_reducible refine wpList_build (o := ⟨some 2, .build 34 #[(0, .tmp 1)], _, _, _, _⟩) ?g3 34 #[(0, .tmp 1)] ?o3 #[(0, .agg (SM.start.list.map W32).toArray)] ?x3 (strmV SM.start (SM.zeros 64) 0) ?r3 ?_) | (with_reducible refine wpList_put (o := ⟨none, .store 34 (.tmp 0) (.tmp 2), _, _, _, _⟩) ?g4 34 (.tmp 0) (.tmp 2) ?o4 gr 0 ?x4 (strmV SM.start (SM.zeros 64) 0) ?y4 hB1 (strmC SM.start (SM.zeros 64) 0) ?v4 ?i4 ?l4 ?q4 ?_))
  case g2 => rfl
  case o2 => rfl
  try (case x2 => rfl)
  case d2 => rfl
  case i2 => exact Tryd.size30
  try (case x3 => first | rfl | simp)
  try (case g3 => rfl)
  try (case o3 => rfl)
  try (case r3 => exact Tryd.build34)
  try (case y4 => rfl)
  try (case x4 => rfl)
  try (case g4 => rfl)
  try (case o4 => rfl)
  try (case v4 => rfl)
  try (case i4 => exact Tryd.size34)
  try (case l4 => (exact Nat.le_refl _))
  try (case q4 => exact strm_one _ _ _)
  intro w2 hu2 hB2
  rw [splice_all _ _ (by rfl)] at hB2
  have hb : Below w.heap.size w w2 := (hb1.mono (Nat.le_of_eq hgr.out.symm)).trans (hu2.below (Nat.le_of_eq hgr.out.symm))
  clear hu2 hB1 HY1
  go_wp2
  refine bodyPost_ret (results_cell_row rfl _ _ gr _ _ _ _ rfl hB2 Tryd.underlying34 rfl (by rw [List.size_toArray]; exact Tryd.size34)) rfl ⟨rfl, hb⟩

set_option maxRecDepth 100000 in
theorem used_any (v : SM.V) (r : List UInt8) (n : Nat) (w : World) (hr : r.length = 64) (hn : n ≤ 1000000000) :
    Calls Tryd.prog 50 #[.agg (strmC v r n).toArray] w fun e w' => e = .returned (.int .i64 ((n % 64 : Nat) : Int)) ∧ Below w.heap.size w w' := by
  have hlen := strm_len v r n hr
  generalize hc : strmC v r n = cs at hlen ⊢
  clear hc hr
  go_enter Tryd.func50, Tryd.ntmps50
  go_wp2_with (with_reducible refine wpList_box (o := ⟨some 1, .box 34 (.tmp 0), _, _, _, _⟩) ?g1 34 (.tmp 0) ?o1 (.agg cs.toArray) cs ?x1 ?c1 ?_)
  try (case g1 => rfl)
  try (case o1 => rfl)
  try (case x1 => rfl)
  try (case c1 => rfl)
  intro gs w1 hgs hs1 hb1 hB1
  have hcell := hB1.cell hlen
  go_wp2
  go_ret
  exact ⟨rfl, hb1.mono (Nat.le_of_eq hgs.out.symm)⟩

set_option maxRecDepth 100000 in
theorem compressed_any (v : SM.V) (r : List UInt8) (n : Nat) (w : World) (hr : r.length = 64) (HY : Lay w) :
    Calls Tryd.prog 51 #[.agg (strmC v r n).toArray] w fun e w' => e = .returned (.agg (strmC (SM.compress v r) (SM.zeros 64) n).toArray) ∧ Below w.heap.size w w' := by
  have HR := Lib.hid hr
  clear hr
  go_enter Tryd.func51, Tryd.ntmps51
  go_wp2_with (with_reducible refine wpList_box (o := ⟨some 1, .box 34 (.tmp 0), _, _, _, _⟩) ?g1 34 (.tmp 0) ?o1 (.agg (strmC v r n).toArray) (strmC v r n) ?x1 ?c1 ?_)
  try (case g1 => rfl)
  try (case o1 => rfl)
  try (case x1 => rfl)
  try (case c1 => rfl)
  intro gs w1 hgs hs1 hb1 hB1
  go_wp2_with (with_reducible refine wpList_alloc (o := ⟨some 2, .alloc 34, _, _, _, _⟩) ?g2 34 ?o2 (strmV ⟨0, 0, 0, 0, 0, 0, 0, 0⟩ (SM.zeros 64) 0) zeroS ?z2 ?c2 ?_)
  try (case g2 => rfl)
  try (case o2 => rfl)
  try (case z2 => exact Tryd.zero34)
  try (case c2 => rfl)
  intro gr w2 hgr hs2 hb2 hB2
  have hlt0 : w.heap.size ≤ gs := Nat.le_of_eq hgs.out.symm
  have hlt1 : gs < gr := by have := hs1.out; have := hgr.out; omega
  have hsz2 : gr < w2.heap.size := by have := hs2.out; omega
  have hb : Below w.heap.size w w2 := (hb1.mono hlt0).trans (hb2.mono (by omega))
  have hB1' := hB1.next hb2 hlt1
  clear hgs hgr hs1 hs2 hb1 hb2 hB1
  have HY2 := HY.next hb
  obtain ⟨d34, HD34, hd34⟩ := Tryd.under34
  go_wp2_with (first | (with_reducible refine wpList_get (o := ⟨some 4, .load 30 (.tmp 3), _, _, _, _⟩) ?g3 30 (.tmp 3) ?o3 gs 0 ?x3 hB1' (v.list.map W32) ?c3 (.array 8 29) ?u3 ?d3 ?i3 ?_) | (with_reducible refine wpList_get (o := ⟨some 6, .load 31 (.tmp 5), _, _, _, _⟩) ?g4 31 (.tmp 5) ?o4 gs 8 ?x4 hB1' (r.map B8) ?c4 (.array 64 5) ?u4 ?d4 ?i4 ?_))
  try (case x3 => rfl)
  try (case g3 => rfl)
  try (case o3 => rfl)
  try (case c3 => (exact strm_value v r n))
  try (case u3 => exact Tryd.underlying30)
  try (case d3 => first | rfl | assumption)
  try (case i3 => exact Tryd.size30)
  try (case x4 => rfl)
  try (case g4 => rfl)
  try (case o4 => rfl)
  try (case c4 => (exact strm_rest v r n))
  try (case u4 => exact Tryd.underlying31)
  try (case d4 => first | rfl | assumption)
  try (case i4 => (rw [List.length_map, HR.out]; exact Tryd.size31))
  (with_reducible refine (compress_raw v r _ HR.out HY2).mono ?_)
  rintro e w3 ⟨rfl, hb3⟩
  have hB1 := hB1'.next hb3 (by omega)
  have hBr := hB2.next hb3 hsz2
  have hbel := hb.trans (hb3.mono (by have := hb.size; omega))
  clear hB1' hB2 hb hb3 HY2
  obtain ⟨v', hv'⟩ : ∃ v', Hid (v' = SM.compress v r) := ⟨_, rfl⟩
  rw [← hv'.out]
  go_wp2_with (with_reducible refine wpList_put (o := ⟨none, .store 30 (.tmp 8) (.tmp 7), _, _, _, _⟩) ?g5 30 (.tmp 8) (.tmp 7) ?o5 gs 0 ?x5 (.agg (v'.list.map W32).toArray) ?y5 hB1 (v'.list.map W32) ?v5 ?i5 ?l5 ?q5 ?_)
  try (case y5 => rfl)
  try (case x5 => rfl)
  try (case g5 => rfl)
  try (case o5 => rfl)
  try (case v5 => rfl)
  try (case i5 => exact Tryd.size30)
  try (case l5 => (rw [strm_length _ _ _ HR.out]; exact of_decide_eq_true rfl))
  try (case q5 => exact W32_one _)
  intro w4 hu4 hB4
  rw [strm_setV] at hB4
  have hBr4 := hBr.upd hu4 (by omega)
  have hbel4 := hbel.trans (hu4.below (B := w.heap.size) (by omega))
  clear hB1 hBr hbel hu4
  go_wp2_with (first | (with_reducible refine wpList_build (o := ⟨some 9, .build 31 #[], _, _, _, _⟩) ?g6 31 #[] ?o6 #[] ?x6 (.agg ((SM.zeros 64).map B8).toArray) ?r6 ?_) | (with_reducible refine wpList_put (o := ⟨none, .store 31 (.tmp 10) (.tmp 9), _, _, _, _⟩) ?g7 31 (.tmp 10) (.tmp 9) ?o7 gs 8 ?x7 (.agg ((SM.zeros 64).map B8).toArray) ?y7 hB4 ((SM.zeros 64).map B8) ?v7 ?i7 ?l7 ?q7 ?_))
  try (case x6 => first | rfl | simp)
  try (case g6 => rfl)
  try (case o6 => rfl)
  try (case r6 => exact Tryd.build31)
  try (case y7 => rfl)
  try (case x7 => rfl)
  try (case g7 => rfl)
  try (case o7 => rfl)
  try (case v7 => rfl)
  try (case i7 => exact Tryd.size31)
  try (case l7 => (rw [strm_length _ _ _ HR.out]; exact of_decide_eq_true rfl))
  try (case q7 => exact B8_one _)
  intro w5 hu5 hB5
  rw [strm_setR _ _ _ _ (by rw [HR.out]; rfl)] at hB5
  have hBr5 := hBr4.upd hu5 (by omega)
  have hbel5 := hbel4.trans (hu5.below (B := w.heap.size) (by omega))
  clear hB4 hBr4 hbel4 hu5
  go_wp2_with (first | (with_reducible refine wpList_get (o := ⟨some 11, .load 34 (.tmp 1), _, _, _, _⟩) ?g8 34 (.tmp 1) ?o8 gs 0 ?x8 hB5 (strmC v' (SM.zeros 64) n) ?c8 d34 ?u8 ?d8 ?i8 ?_) | (with_reducible refine wpList_put (o := ⟨none, .store 34 (.tmp 2) (.tmp 11), _, _, _, _⟩) ?g9 34 (.tmp 2) (.tmp 11) ?o9 gr 0 ?x9 (.agg (strmC v' (SM.zeros 64) n).toArray) ?y9 hBr5 (strmC v' (SM.zeros 64) n) ?v9 ?i9 ?l9 ?q9 ?_))
  try (case x8 => rfl)
  try (case g8 => rfl)
  try (case o8 => rfl)
  try (case c8 => (exact cs_all _))
  try (case u8 => exact (HD34.out))
  try (case d8 => first | rfl | assumption)
  try (case i8 => (rw [strm_length _ _ _ rfl]; exact Tryd.size34))
  try (case y9 => rfl)
  try (case x9 => rfl)
  try (case g9 => rfl)
  try (case o9 => rfl)
  try (case v9 => rfl)
  try (case i9 => exact (by rw [strm_length _ _ _ rfl]; exact Tryd.size34))
  try (case l9 => (rw [strm_length _ _ _ rfl]; exact Nat.le_refl _))
  try (case q9 => exact strm_one _ _ _)
  intro w7 hu7 hB7
  rw [splice_all _ _ (by rw [strm_length _ _ _ rfl]; rfl)] at hB7
  have hbel7 := hbel5.trans (hu7.below (B := w.heap.size) (by omega))
  clear hB5 hBr5 hbel5 hu7
  go_wp2
  refine bodyPost_ret (results_cell_row rfl _ _ gr _ _ _ _ rfl hB7 Tryd.underlying34 rfl (by rw [List.size_toArray, strm_length _ _ _ rfl]; exact Tryd.size34)) rfl ⟨by rw [hv'.out], hbel7⟩
end Go.Proofs.YtnhnfdfjlagcjaaDoor
