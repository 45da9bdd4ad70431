/-
  Contracts of the walks over chapter 2's Stream.Sum. Conditions: a message of at most 10^9 bytes; the tables read as the document has them.
-/
import Derived.Test.YtnhnfdfjlagcjaaDoorHa
namespace Go.Proofs.YtnhnfdfjlagcjaaDoor
open Go.RowKit

theorem putWord_eq (g o n cap : Nat) (x : UInt32) (xi : Int) (hx : Hid (xi = (x.toNat : Int))) (w : World) (t : TypeId) (l : List Value) (hn : 4 ≤ n) (hb : Blk w g t l) (hl : o + 4 ≤ l.length) :
    Calls Tryd.prog 52 #[.slice (some ⟨g, o, none⟩) n cap, .int .u32 xi] w fun e w' => e = .returned (.tuple #[]) ∧ Upd g w w' ∧ Blk w' g t (splice l o ((SM.be4 x).map B8)) := by
  rw [hx.out]
  exact putWord_any g o n cap x w t l hn hb hl
theorem tail_bytes (q a b : List UInt8) (hq : q.length = 64) (ha : a.length = 4) (hb : b.length = 4) : splice (splice q 56 a) 60 b = q.take 56 ++ (a ++ b) := by
  rw [splice_splice q 56 a b (by omega) 60 (by omega)]
  unfold splice
  rw [List.drop_eq_nil_of_le (by rw [List.length_append]; omega), List.append_nil]
theorem hi_eq (m : List UInt8) (h : m.length ≤ 1000000000) : (m.length : Int) * 8 / 4294967296 = ((SM.hi m).toNat : Int) := by
  unfold SM.hi; rw [UInt32.toNat_ofNat']; omega
theorem lo_eq (m : List UInt8) : (m.length : Int) * 8 % 4294967296 = ((SM.lo m).toNat : Int) := by
  unfold SM.lo; rw [UInt32.toNat_ofNat']; omega

/-- The digest's bytes so far. -/
def outRow (v : SM.V) (k : Nat) : List Value := ((SM.out v).take (4 * k) ++ SM.zeros (32 - 4 * k)).map B8
theorem outRow_length (v : SM.V) (k : Nat) (h : k ≤ 8) : (outRow v k).length = 32 := by
  unfold outRow
  rw [List.length_map, List.length_append, List.length_take, SM.out_length, SM.zeros_length]; omega
theorem outRow_snoc (v : SM.V) (k : Nat) (h : k < 8) : splice (outRow v k) (4 * k) ((SM.be4 (v.list.getD k 0)).map B8) = outRow v (k + 1) := by
  match k, h with
  | 0, _ | 1, _ | 2, _ | 3, _ | 4, _ | 5, _ | 6, _ | 7, _ => rfl
theorem outRow_all (v : SM.V) : outRow v 8 = (SM.out v).map B8 := by
  unfold outRow
  rw [List.take_of_length_le (by rw [SM.out_length]; exact Nat.le_refl _)]
  simp [SM.zeros]
def zero32 : List Value := (SM.zeros 32).map B8
theorem Tryd.zero24 : (Tryd.prog.info? 24).map (·.zero) = some (some (aggB (SM.zeros 32))) := by kernel_rfl
theorem Tryd.size24 : (Tryd.prog.info? 24).map (·.size) = some 32 := by kernel_rfl
def OutRel (v : SM.V) (B gd gr : Nat) (w : World) (i : Value) (wr : World) : Prop :=
  ∃ k : Nat, k ≤ 8 ∧ i = .int .i64 k ∧ Blk wr gd 24 (outRow v k) ∧ Blk wr gr 24 zero32 ∧ Below B w wr

theorem q1_eq (m : List UInt8) : splice (SM.rest m ++ SM.zeros (64 - m.length % 64)) (m.length % 64) [128] = SM.rest m ++ 128 :: SM.zeros (63 - m.length % 64) := by
  have e := splice_tail (SM.rest m) (SM.zeros (64 - m.length % 64)) [128] (64 - m.length % 64) rfl (by simp; omega)
  rw [SM.rest_length] at e
  rw [e, List.append_assoc, show 64 - m.length % 64 - [(128 : UInt8)].length = 63 - m.length % 64 by simp; omega]
  rfl
theorem q1_length (m : List UInt8) : (SM.rest m ++ 128 :: SM.zeros (63 - m.length % 64)).length = 64 := by
  rw [List.length_append, SM.rest_length, List.length_cons, SM.zeros_length]; omega
theorem fin_one (m : List UInt8) (h : m.length % 64 < 56) : SM.out (SM.compress (SM.val m) ((SM.rest m ++ 128 :: SM.zeros (63 - m.length % 64)).take 56 ++ (SM.be4 (SM.hi m) ++ SM.be4 (SM.lo m)))) = SM.sum m := by
  rw [SM.sum_one m h]
  have e : (SM.rest m ++ 128 :: SM.zeros (63 - m.length % 64)).take 56 = SM.rest m ++ 128 :: SM.zeros (55 - m.length % 64) := by
    have hz : SM.zeros (63 - m.length % 64) = SM.zeros (55 - m.length % 64) ++ SM.zeros 8 := by
      unfold SM.zeros; rw [List.replicate_append_replicate]; congr 1; omega
    rw [hz, ← List.cons_append, ← List.append_assoc]
    exact List.take_left' (by rw [List.length_append, SM.rest_length, List.length_cons, SM.zeros_length]; omega)
  rw [e]
  rfl
theorem fin_two (m : List UInt8) (h : 56 ≤ m.length % 64) : SM.out (SM.compress (SM.compress (SM.val m) (SM.rest m ++ 128 :: SM.zeros (63 - m.length % 64))) ((SM.zeros 64).take 56 ++ (SM.be4 (SM.hi m) ++ SM.be4 (SM.lo m)))) = SM.sum m := by
  rw [SM.sum_two m h]
  rfl

theorem q1_set (m : List UInt8) (u : Nat) (hu : m.length % 64 = u) : splice (SVc m) (8 + u) [B8 128] = strmC (SM.val m) (SM.rest m ++ 128 :: SM.zeros (63 - m.length % 64)) m.length := by
  subst hu
  have := strm_mid (SM.val m) (SM.rest m ++ SM.zeros (64 - m.length % 64)) m.length (m.length % 64) [128] (by rw [pad_length]; simp; omega)
  rw [q1_eq] at this
  exact this
theorem strm_hi (v : SM.V) (q : List UInt8) (n : Nat) (p : List UInt8) (hq : q.length = 64) (hp : p.length = 4) : splice (strmC v q n) 64 (p.map B8) = strmC v (splice q 56 p) n := strm_mid v q n 56 p (by omega)
theorem strm_lo (v : SM.V) (q : List UInt8) (n : Nat) (p : List UInt8) (hq : q.length = 64) (hp : p.length = 4) : splice (strmC v q n) 68 (p.map B8) = strmC v (splice q 60 p) n := strm_mid v q n 60 p (by omega)

set_option maxRecDepth 100000 in
set_option maxHeartbeats 1600000 in
theorem ssum_any (m : List UInt8) (w : World) (hl : m.length ≤ 1000000000) (HY : Lay w) :
    Calls Tryd.prog 22 #[.agg (SVc m).toArray] w fun e w' => e = .returned (.agg ((SM.sum m).map B8).toArray) ∧ Below w.heap.size w w' := by
  go_enter Tryd.func22, Tryd.ntmps22
  go_wp2_with (with_reducible refine wpList_box (o := ⟨some 1, .box 34 (.tmp 0), _, _, _, _⟩) ?g1 34 (.tmp 0) ?o1 (.agg (SVc m).toArray) (SVc m) ?x1 ?c1 ?_)
  try (case g1 => rfl)
  try (case o1 => rfl)
  try (case x1 => rfl)
  try (case c1 => rfl)
  intro gs w1 hgs hs1 hb1 hB1
  go_wp2_with (with_reducible refine wpList_alloc (o := ⟨some 2, .alloc 24, _, _, _, _⟩) ?g2 24 ?o2 (aggB (SM.zeros 32)) zero32 ?z2 ?c2 ?_)
  try (case g2 => rfl)
  try (case o2 => rfl)
  try (case z2 => exact Tryd.zero24)
  try (case c2 => rfl)
  intro gr w2 hgr hs2 hb2 hB2
  have hlt0 : w.heap.size ≤ gs := Nat.le_of_eq hgs.out.symm
  have hlt1 : gs < gr := by have := hs1.out; have := hgr.out; omega
  have hsz2 : gr < w2.heap.size := by have := hs2.out; omega
  have hb : Below w.heap.size w w2 := (hb1.mono hlt0).trans (hb2.mono (by omega))
  have hBs := hB1.next hb2 hlt1
  clear hgs hgr hs1 hs2 hb1 hb2 hB1
  obtain ⟨d34, HD34, hd34⟩ := Tryd.under34
  obtain ⟨u, hu⟩ : ∃ u, Hid (m.length % 64 = u) := ⟨_, rfl⟩
  have hu64 : u < 64 := by have := hu.out; omega
  go_wp2_with (with_reducible refine wpList_get (o := ⟨some 8, .load 34 (.tmp 1), _, _, _, _⟩) ?g3 34 (.tmp 1) ?o3 gs 0 ?x3 hBs (SVc m) ?c3 d34 ?u3 ?d3 ?i3 ?_)
  try (case x3 => rfl)
  try (case g3 => rfl)
  try (case o3 => rfl)
  try (case c3 => (exact cs_all _))
  try (case u3 => exact HD34.out)
  try (case d3 => first | rfl | assumption)
  try (case i3 => (rw [SVc_length]; exact Tryd.size34))
  go_wp2_with fail
  (with_reducible refine (used_raw m _ hl u hu).mono ?_)
  rintro e w3 ⟨rfl, hb3⟩
  have hBs3 := hBs.next hb3 hBs.lt
  have hBr3 := hB2.next hb3 hB2.lt
  have hbel3 := hb.trans (hb3.mono hb.size)
  clear hBs hB2 hb hb3
  go_wp2_with (with_reducible refine wpList_put (o := ⟨none, .store 5 (.tmp 12) (.const (.int .u8 128)), _, _, _, _⟩) ?g4 5 (.tmp 12) (.const (.int .u8 128)) ?o4 gs (8 + u) ?x4 (B8 128) ?y4 hBs3 [B8 128] ?v4 ?i4 ?l4 ?q4 ?_)
  try (case y4 => rfl)
  try (case x4 => rfl)
  try (case g4 => rfl)
  try (case o4 => rfl)
  try (case v4 => rfl)
  try (case i4 => exact Tryd.size5)
  try (case l4 => (rw [SVc_length]; simp; omega))
  try (case q4 => exact one_cell1 rfl)
  intro w4 hu4 hB4
  have hBr4 := hBr3.upd hu4 (by omega)
  have hbel4 := hbel3.trans (hu4.below (B := w.heap.size) (by omega))
  clear hBs3 hBr3 hbel3 hu4
  have hm1 := Lib.hid (q1_set m u hu.out)
  rw [hm1.out] at hB4
  clear hm1
  obtain ⟨q1, hq1⟩ : ∃ q1, Hid (SM.rest m ++ 128 :: SM.zeros (63 - m.length % 64) = q1) := ⟨_, rfl⟩
  rw [hq1.out] at hB4
  have hq1l : Hid (q1.length = 64) := by have := q1_length m; rw [hq1.out] at this; exact this
  by_cases h56 : 56 ≤ u
  · have HY4 := HY.next hbel4
    go_wp2_with (with_reducible refine wpList_get (o := ⟨some 15, .load 34 (.tmp 1), _, _, _, _⟩) ?g5 34 (.tmp 1) ?o5 gs 0 ?x5 hB4 (strmC (SM.val m) q1 m.length) ?c5 d34 ?u5 ?d5 ?i5 ?_)
    try (case x5 => rfl)
    try (case g5 => rfl)
    try (case o5 => rfl)
    try (case c5 => (exact cs_all _))
    try (case u5 => exact HD34.out)
    try (case d5 => first | rfl | assumption)
    try (case i5 => (rw [strm_length _ _ _ hq1l.out]; exact Tryd.size34))
    go_wp2_with fail
    (with_reducible refine (compressed_any (SM.val m) q1 m.length _ hq1l.out HY4).mono ?_)
    rintro e w5 ⟨rfl, hb5⟩
    have hBs5 := hB4.next hb5 hB4.lt
    have hBr5 := hBr4.next hb5 hBr4.lt
    have hbel5 := hbel4.trans (hb5.mono hbel4.size)
    clear hB4 hBr4 hbel4 hb5 HY4
    obtain ⟨v2, hv2⟩ : ∃ v2, Hid (SM.compress (SM.val m) q1 = v2) := ⟨_, rfl⟩
    rw [hv2.out]
    obtain ⟨q2, hq2⟩ : ∃ q2, Hid (SM.zeros 64 = q2) := ⟨_, rfl⟩
    rw [hq2.out]
    have hq2l : Hid (q2.length = 64) := by have : (SM.zeros 64).length = 64 := rfl
                                           rw [hq2.out] at this; exact this
    have HF : Hid (SM.out (SM.compress v2 (q2.take 56 ++ (SM.be4 (SM.hi m) ++ SM.be4 (SM.lo m)))) = SM.sum m) := by
      have := fin_two m (by rw [hu.out]; exact h56)
      rw [hq1.out, hv2.out, hq2.out] at this; exact this
    go_wp2_with (with_reducible refine wpList_put (o := ⟨none, .store 34 (.tmp 1) (.tmp 16), _, _, _, _⟩) ?g6 34 (.tmp 1) (.tmp 16) ?o6 gs 0 ?x6 (.agg (strmC v2 q2 m.length).toArray) ?y6 hBs5 (strmC v2 q2 m.length) ?v6 ?i6 ?l6 ?q6 ?_)
    try (case y6 => rfl)
    try (case x6 => rfl)
    try (case g6 => rfl)
    try (case o6 => rfl)
    try (case v6 => rfl)
    try (case i6 => exact (by rw [strm_length _ _ _ hq2l.out]; exact Tryd.size34))
    try (case l6 => (rw [strm_length _ _ _ hq2l.out, strm_length _ _ _ hq1l.out]; exact Nat.le_refl _))
    try (case q6 => exact strm_one _ _ _)
    intro w6 hu6 hB6
    rw [splice_all _ _ (by rw [strm_length _ _ _ hq2l.out, strm_length _ _ _ hq1l.out])] at hB6
    have hBr6 := hBr5.upd hu6 (by omega)
    have hbel6 := hbel5.trans (hu6.below (B := w.heap.size) (by omega))
    clear hBs5 hBr5 hbel5 hu6
    have hc72 := hB6.cell (strm_len _ q2 _ hq2l.out)
    have hhi := Lib.hid (hi_eq m hl)
    have hlo := Lib.hid (lo_eq m)
    go_wp2_with (with_reducible refine wpList_cutL (o := ⟨some 21, .slice 31 (.tmp 20) (some (.const (.int .i64 56))) none none, _, _, _, _⟩) ?g7a 31 (.tmp 20) (.const (.int .i64 56)) ?o7a gs 8 ?x7a 56 ?y7a 64 5 ?u7a ?i7a ?k7a ?_)
    try (case x7a => rfl)
    try (case g7a => rfl)
    try (case o7a => rfl)
    try (case y7a => rfl)
    try (case u7a => exact Tryd.underlying31)
    try (case i7a => exact Tryd.size5)
    try (case k7a => decide)
    go_wp2_with fail
    (with_reducible refine (putWord_eq gs 64 8 8 (SM.hi m) _ hhi _ _ _ (by decide) hB6 (by rw [strm_length _ _ _ hq2l.out]; exact of_decide_eq_true rfl)).mono ?_)
    rintro e w7 ⟨rfl, hu7, hB7⟩
    rw [strm_hi _ _ _ _ hq2l.out rfl] at hB7
    have hBr7 := hBr6.upd hu7 (by omega)
    have hbel7 := hbel6.trans (hu7.below (B := w.heap.size) (by omega))
    have hq3l : Hid ((splice q2 56 (SM.be4 (SM.hi m))).length = 64) := by
      have : (splice q2 56 (SM.be4 (SM.hi m))).length = 64 := by rw [splice_len, hq2l.out]; rfl
      exact this
    clear hB6 hBr6 hbel6 hu7 hc72 hhi
    go_wp2_with (with_reducible refine wpList_cutL (o := ⟨some 27, .slice 31 (.tmp 26) (some (.const (.int .i64 60))) none none, _, _, _, _⟩) ?g8a 31 (.tmp 26) (.const (.int .i64 60)) ?o8a gs 8 ?x8a 60 ?y8a 64 5 ?u8a ?i8a ?k8a ?_)
    try (case x8a => rfl)
    try (case g8a => rfl)
    try (case o8a => rfl)
    try (case y8a => rfl)
    try (case u8a => exact Tryd.underlying31)
    try (case i8a => exact Tryd.size5)
    try (case k8a => decide)
    go_wp2_with fail
    (with_reducible refine (putWord_eq gs 68 4 4 (SM.lo m) _ hlo _ _ _ (by decide) hB7 (by rw [strm_length _ _ _ hq3l.out]; exact of_decide_eq_true rfl)).mono ?_)
    rintro e w8 ⟨rfl, hu8, hB8⟩
    rw [strm_lo _ _ _ _ hq3l.out rfl, tail_bytes _ _ _ hq2l.out rfl rfl] at hB8
    have hBr8 := hBr7.upd hu8 (by omega)
    have hbel8 := hbel7.trans (hu8.below (B := w.heap.size) (by omega))
    clear hB7 hBr7 hbel7 hu8 hlo
    obtain ⟨q4, hq4⟩ : ∃ q4, Hid (q2.take 56 ++ (SM.be4 (SM.hi m) ++ SM.be4 (SM.lo m)) = q4) := ⟨_, rfl⟩
    have hq4l : Hid (q4.length = 64) := by
      have : (q2.take 56 ++ (SM.be4 (SM.hi m) ++ SM.be4 (SM.lo m))).length = 64 := by rw [List.length_append, List.length_take, hq2l.out]; rfl
      rw [hq4.out] at this; exact this
    rw [hq4.out] at hB8 HF
    have HY8 := HY.next hbel8
    go_wp2_with (with_reducible refine wpList_get (o := ⟨some 31, .load 34 (.tmp 1), _, _, _, _⟩) ?g9a 34 (.tmp 1) ?o9a gs 0 ?x9a hB8 (strmC v2 q4 m.length) ?c9a d34 ?u9a ?d9a ?i9a ?_)
    try (case x9a => rfl)
    try (case g9a => rfl)
    try (case o9a => rfl)
    try (case c9a => (exact cs_all _))
    try (case u9a => exact HD34.out)
    try (case d9a => first | rfl | assumption)
    try (case i9a => (rw [strm_length _ _ _ hq4l.out]; exact Tryd.size34))
    go_wp2_with fail
    (with_reducible refine (compressed_any v2 q4 m.length _ hq4l.out HY8).mono ?_)
    rintro e w9 ⟨rfl, hb9⟩
    have hBs9 := hB8.next hb9 hB8.lt
    have hBr9 := hBr8.next hb9 hBr8.lt
    have hbel9 := hbel8.trans (hb9.mono hbel8.size)
    clear hB8 hBr8 hbel8 hb9 HY8
    obtain ⟨v5, hv5⟩ : ∃ v5, Hid (SM.compress v2 q4 = v5) := ⟨_, rfl⟩
    rw [hv5.out] at HF ⊢
    go_wp2_with (with_reducible refine wpList_put (o := ⟨none, .store 34 (.tmp 1) (.tmp 32), _, _, _, _⟩) ?g10a 34 (.tmp 1) (.tmp 32) ?o10a gs 0 ?x10a (.agg (strmC v5 (SM.zeros 64) m.length).toArray) ?y10a hBs9 (strmC v5 (SM.zeros 64) m.length) ?v10a ?i10a ?l10a ?q10a ?_)
    try (case y10a => rfl)
    try (case x10a => rfl)
    try (case g10a => rfl)
    try (case o10a => rfl)
    try (case v10a => rfl)
    try (case i10a => exact (by rw [strm_length _ _ _ rfl]; exact Tryd.size34))
    try (case l10a => (rw [strm_length _ _ _ rfl, strm_length _ _ _ hq4l.out]; exact Nat.le_refl _))
    try (case q10a => exact strm_one _ _ _)
    intro w10 hu10 hB10
    rw [splice_all _ _ (by rw [strm_length _ _ _ rfl, strm_length _ _ _ hq4l.out])] at hB10
    have hBr10 := hBr9.upd hu10 (by omega)
    have hbel10 := hbel9.trans (hu10.below (B := w.heap.size) (by omega))
    clear hBs9 hBr9 hbel9 hu10
    go_wp2_with (with_reducible refine wpList_alloc (o := ⟨some 5, .alloc 24, _, _, _, _⟩) ?g11a 24 ?o11a (aggB (SM.zeros 32)) zero32 ?z11a ?c11a ?_)
    try (case g11a => rfl)
    try (case o11a => rfl)
    try (case z11a => exact Tryd.zero24)
    try (case c11a => rfl)
    intro gd w11 hgd hs11 hb11 hB11
    have hlt3 : gr < gd := by have := hBr10.lt; have := hgd.out; omega
    have hBs11 := hB10.next hb11 (by omega)
    have hBr11 := hBr10.next hb11 hlt3
    have hbel11 := hbel10.trans (hb11.mono (by omega))
    clear hB10 hBr10 hbel10 hb11 hgd hs11
    go_wp2_with (with_reducible refine wpList_get (o := ⟨some 34, .load 30 (.tmp 33), _, _, _, _⟩) ?g12a 30 (.tmp 33) ?o12a gs 0 ?x12a hBs11 (v5.list.map W32) ?c12a (.array 8 29) ?u12a ?d12a ?i12a ?_)
    try (case x12a => rfl)
    try (case g12a => rfl)
    try (case o12a => rfl)
    try (case c12a => (exact strm_value _ _ _))
    try (case u12a => exact Tryd.underlying30)
    try (case d12a => first | rfl | assumption)
    try (case i12a => exact Tryd.size30)
    go_wp2
    go_loopw [35] (OutRel v5 w.heap.size gd gr w) (fun i _ => 8 - (intOf i).toNat)
    case atStart => exact ⟨0, by omega, rfl, hB11, hBr11, hbel11⟩
    case round =>
      obtain ⟨k, hk, rfl, hBd, hBr, hbel⟩ := hrel
      by_cases hk8 : k < 8
      · obtain ⟨dd, hd1, hd2⟩ := Tryd.under29
        have HD := Lib.hid hd1
        clear hd1
        have hl8 := Lib.hid (list_at v5 k hk8)
        have hsn := Lib.hid (outRow_snoc v5 k hk8)
        generalize hx : v5.list.getD k 0 = x at hl8 hsn
        have hx' := Lib.hid hx
        clear hx
        go_wp2_with (first | (with_reducible refine wpList_idx (o := ⟨some 38, .index 30 (.tmp 34) (.tmp 35), _, _, _, _⟩) ?g13a 30 (.tmp 34) (.tmp 35) ?o13a 29 8 k (v5.list.map W32) (.int .u32 (x.toNat : Int)) dd ?x13a ?y13a ?u13a ?i13a ?e13a ?d13a ?k13a ?l13a ?_) | (with_reducible refine wpList_cutL (o := ⟨some 41, .slice 24 (.tmp 5) (some (.tmp 40)) none none, _, _, _, _⟩) ?g14a 24 (.tmp 5) (.tmp 40) ?o14a gd 0 ?x14a (4 * k) ?y14a 32 5 ?u14a ?i14a ?k14a ?_))
        try (case x13a => rfl)
        try (case g13a => rfl)
        try (case o13a => rfl)
        try (case y13a => rfl)
        try (case u13a => exact Tryd.underlying30)
        try (case i13a => exact Tryd.size29)
        try (case e13a => exact HD.out)
        try (case d13a => first | rfl | assumption)
        try (case k13a => exact hk8)
        try (case l13a => exact hl8.out)
        try (case x14a => rfl)
        try (case g14a => rfl)
        try (case o14a => rfl)
        try (case y14a => (exact int_mul4 k))
        try (case u14a => exact Tryd.underlying24)
        try (case i14a => exact Tryd.size5)
        try (case k14a => omega)
        have hxx : Hid ((x.toNat : Int) = (x.toNat : Int)) := rfl
        (with_reducible refine (putWord_eq gd (4 * k) _ _ x _ hxx _ _ _ (by omega) hBd (by rw [outRow_length _ _ hk]; omega)).mono ?_)
        rintro e w12 ⟨rfl, hu12, hB12⟩
        rw [hsn.out] at hB12
        have hBr12 := hBr.upd hu12 (by omega)
        have hbel12 := hbel.trans (hu12.below (B := w.heap.size) (by omega))
        clear hBd hBr hbel hu12 hsn
        go_wp2
        go_roundw
        case rel => exact ⟨k + 1, by omega, by go_num, hB12, hBr12, hbel12⟩
        case measure => simp [intOf]; omega
      · obtain rfl : k = 8 := by omega
        rw [outRow_all, HF.out] at hBd
        have hsl : Hid (((SM.sum m).map B8).length = 32) := by have : ((SM.sum m).map B8).length = 32 := by rw [List.length_map, SM.sum_length]
                                                               exact this
        obtain ⟨S, hS⟩ : ∃ S, Hid (SM.sum m = S) := ⟨_, rfl⟩
        rw [hS.out] at hBd hsl
        clear HF
        go_wp2_with (first | (with_reducible refine wpList_get (o := ⟨some 45, .load 24 (.tmp 5), _, _, _, _⟩) ?g15a 24 (.tmp 5) ?o15a gd 0 ?x15a hBd (S.map B8) ?c15a (.array 32 5) ?u15a ?d15a ?i15a ?_) | (with_reducible refine wpList_put (o := ⟨none, .store 24 (.tmp 2) (.tmp 45), _, _, _, _⟩) ?g16a 24 (.tmp 2) (.tmp 45) ?o16a gr 0 ?x16a (.agg (S.map B8).toArray) ?y16a hBr (S.map B8) ?v16a ?i16a ?l16a ?q16a ?_))
        try (case x15a => rfl)
        try (case g15a => rfl)
        try (case o15a => rfl)
        try (case c15a => (exact cs_all _))
        try (case u15a => exact Tryd.underlying24)
        try (case d15a => first | rfl | assumption)
        try (case i15a => (rw [hsl.out]; exact Tryd.size24))
        try (case y16a => rfl)
        try (case x16a => rfl)
        try (case g16a => rfl)
        try (case o16a => rfl)
        try (case v16a => rfl)
        try (case i16a => exact (by rw [hsl.out]; exact Tryd.size24))
        try (case l16a => (rw [hsl.out]; exact Nat.le_refl _))
        try (case q16a => exact B8_one _)
        intro w13 hu13 hB13
        rw [splice_all _ _ (by rw [hsl.out]; rfl)] at hB13
        have hbel13 := hbel.trans (hu13.below (B := w.heap.size) (by omega))
        clear hBd hBr hbel hu13
        go_wp2
        refine bodyPost_ret (results_cell_row rfl _ _ gr _ _ _ _ rfl hB13 Tryd.underlying24 rfl (by rw [List.size_toArray, hsl.out]; exact Tryd.size24)) rfl ⟨by rw [hS.out], hbel13⟩
  · obtain ⟨v2, hv2⟩ : ∃ v2, Hid (SM.val m = v2) := ⟨_, rfl⟩
    rw [hv2.out] at hB4
    have HF : Hid (SM.out (SM.compress v2 (q1.take 56 ++ (SM.be4 (SM.hi m) ++ SM.be4 (SM.lo m)))) = SM.sum m) := by
      have := fin_one m (by rw [hu.out]; omega)
      rw [hq1.out, hv2.out] at this; exact this
    have hq2l := hq1l
    have hB6 := hB4
    have hBr6 := hBr4
    have hbel6 := hbel4
    clear hB4 hBr4 hbel4
    rename List UInt8 => q2
    have hc72 := hB6.cell (strm_len _ q2 _ hq2l.out)
    have hhi := Lib.hid (hi_eq m hl)
    have hlo := Lib.hid (lo_eq m)
    go_wp2_with (with_reducible refine wpList_cutL (o := ⟨some 21, .slice 31 (.tmp 20) (some (.const (.int .i64 56))) none none, _, _, _, _⟩) ?g7b 31 (.tmp 20) (.const (.int .i64 56)) ?o7b gs 8 ?x7b 56 ?y7b 64 5 ?u7b ?i7b ?k7b ?_)
    try (case x7b => rfl)
    try (case g7b => rfl)
    try (case o7b => rfl)
    try (case y7b => rfl)
    try (case u7b => exact Tryd.underlying31)
    try (case i7b => exact Tryd.size5)
    try (case k7b => decide)
    go_wp2_with fail
    (with_reducible refine (putWord_eq gs 64 8 8 (SM.hi m) _ hhi _ _ _ (by decide) hB6 (by rw [strm_length _ _ _ hq2l.out]; exact of_decide_eq_true rfl)).mono ?_)
    rintro e w7 ⟨rfl, hu7, hB7⟩
    rw [strm_hi _ _ _ _ hq2l.out rfl] at hB7
    have hBr7 := hBr6.upd hu7 (by omega)
    have hbel7 := hbel6.trans (hu7.below (B := w.heap.size) (by omega))
    have hq3l : Hid ((splice q2 56 (SM.be4 (SM.hi m))).length = 64) := by
      have : (splice q2 56 (SM.be4 (SM.hi m))).length = 64 := by rw [splice_len, hq2l.out]; rfl
      exact this
    clear hB6 hBr6 hbel6 hu7 hc72 hhi
    go_wp2_with (with_reducible refine wpList_cutL (o := ⟨some 27, .slice 31 (.tmp 26) (some (.const (.int .i64 60))) none none, _, _, _, _⟩) ?g8b 31 (.tmp 26) (.const (.int .i64 60)) ?o8b gs 8 ?x8b 60 ?y8b 64 5 ?u8b ?i8b ?k8b ?_)
    try (case x8b => rfl)
    try (case g8b => rfl)
    try (case o8b => rfl)
    try (case y8b => rfl)
    try (case u8b => exact Tryd.underlying31)
    try (case i8b => exact Tryd.size5)
    try (case k8b => decide)
    go_wp2_with fail
    (with_reducible refine (putWord_eq gs 68 4 4 (SM.lo m) _ hlo _ _ _ (by decide) hB7 (by rw [strm_length _ _ _ hq3l.out]; exact of_decide_eq_true rfl)).mono ?_)
    rintro e w8 ⟨rfl, hu8, hB8⟩
    rw [strm_lo _ _ _ _ hq3l.out rfl, tail_bytes _ _ _ hq2l.out rfl rfl] at hB8
    have hBr8 := hBr7.upd hu8 (by omega)
    have hbel8 := hbel7.trans (hu8.below (B := w.heap.size) (by omega))
    clear hB7 hBr7 hbel7 hu8 hlo
    obtain ⟨q4, hq4⟩ : ∃ q4, Hid (q2.take 56 ++ (SM.be4 (SM.hi m) ++ SM.be4 (SM.lo m)) = q4) := ⟨_, rfl⟩
    have hq4l : Hid (q4.length = 64) := by
      have : (q2.take 56 ++ (SM.be4 (SM.hi m) ++ SM.be4 (SM.lo m))).length = 64 := by rw [List.length_append, List.length_take, hq2l.out]; rfl
      rw [hq4.out] at this; exact this
    rw [hq4.out] at hB8 HF
    have HY8 := HY.next hbel8
    go_wp2_with (with_reducible refine wpList_get (o := ⟨some 31, .load 34 (.tmp 1), _, _, _, _⟩) ?g9b 34 (.tmp 1) ?o9b gs 0 ?x9b hB8 (strmC v2 q4 m.length) ?c9b d34 ?u9b ?d9b ?i9b ?_)
    try (case x9b => rfl)
    try (case g9b => rfl)
    try (case o9b => rfl)
    try (case c9b => (exact cs_all _))
    try (case u9b => exact HD34.out)
    try (case d9b => first | rfl | assumption)
    try (case i9b => (rw [strm_length _ _ _ hq4l.out]; exact Tryd.size34))
    go_wp2_with fail
    (with_reducible refine (compressed_any v2 q4 m.length _ hq4l.out HY8).mono ?_)
    rintro e w9 ⟨rfl, hb9⟩
    have hBs9 := hB8.next hb9 hB8.lt
    have hBr9 := hBr8.next hb9 hBr8.lt
    have hbel9 := hbel8.trans (hb9.mono hbel8.size)
    clear hB8 hBr8 hbel8 hb9 HY8
    obtain ⟨v5, hv5⟩ : ∃ v5, Hid (SM.compress v2 q4 = v5) := ⟨_, rfl⟩
    rw [hv5.out] at HF ⊢
    go_wp2_with (with_reducible refine wpList_put (o := ⟨none, .store 34 (.tmp 1) (.tmp 32), _, _, _, _⟩) ?g10b 34 (.tmp 1) (.tmp 32) ?o10b gs 0 ?x10b (.agg (strmC v5 (SM.zeros 64) m.length).toArray) ?y10b hBs9 (strmC v5 (SM.zeros 64) m.length) ?v10b ?i10b ?l10b ?q10b ?_)
    try (case y10b => rfl)
    try (case x10b => rfl)
    try (case g10b => rfl)
    try (case o10b => rfl)
    try (case v10b => rfl)
    try (case i10b => exact (by rw [strm_length _ _ _ rfl]; exact Tryd.size34))
    try (case l10b => (rw [strm_length _ _ _ rfl, strm_length _ _ _ hq4l.out]; exact Nat.le_refl _))
    try (case q10b => exact strm_one _ _ _)
    intro w10 hu10 hB10
    rw [splice_all _ _ (by rw [strm_length _ _ _ rfl, strm_length _ _ _ hq4l.out])] at hB10
    have hBr10 := hBr9.upd hu10 (by omega)
    have hbel10 := hbel9.trans (hu10.below (B := w.heap.size) (by omega))
    clear hBs9 hBr9 hbel9 hu10
    go_wp2_with (with_reducible refine wpList_alloc (o := ⟨some 5, .alloc 24, _, _, _, _⟩) ?g11b 24 ?o11b (aggB (SM.zeros 32)) zero32 ?z11b ?c11b ?_)
    try (case g11b => rfl)
    try (case o11b => rfl)
    try (case z11b => exact Tryd.zero24)
    try (case c11b => rfl)
    intro gd w11 hgd hs11 hb11 hB11
    have hlt3 : gr < gd := by have := hBr10.lt; have := hgd.out; omega
    have hBs11 := hB10.next hb11 (by omega)
    have hBr11 := hBr10.next hb11 hlt3
    have hbel11 := hbel10.trans (hb11.mono (by omega))
    clear hB10 hBr10 hbel10 hb11 hgd hs11
    go_wp2_with (with_reducible refine wpList_get (o := ⟨some 34, .load 30 (.tmp 33), _, _, _, _⟩) ?g12b 30 (.tmp 33) ?o12b gs 0 ?x12b hBs11 (v5.list.map W32) ?c12b (.array 8 29) ?u12b ?d12b ?i12b ?_)
    try (case x12b => rfl)
    try (case g12b => rfl)
    try (case o12b => rfl)
    try (case c12b => (exact strm_value _ _ _))
    try (case u12b => exact Tryd.underlying30)
    try (case d12b => first | rfl | assumption)
    try (case i12b => exact Tryd.size30)
    go_wp2
    go_loopw [35] (OutRel v5 w.heap.size gd gr w) (fun i _ => 8 - (intOf i).toNat)
    case atStart => exact ⟨0, by omega, rfl, hB11, hBr11, hbel11⟩
    case round =>
      obtain ⟨k, hk, rfl, hBd, hBr, hbel⟩ := hrel
      by_cases hk8 : k < 8
      · obtain ⟨dd, hd1, hd2⟩ := Tryd.under29
        have HD := Lib.hid hd1
        clear hd1
        have hl8 := Lib.hid (list_at v5 k hk8)
        have hsn := Lib.hid (outRow_snoc v5 k hk8)
        generalize hx : v5.list.getD k 0 = x at hl8 hsn
        have hx' := Lib.hid hx
        clear hx
        go_wp2_with (first | (with_reducible refine wpList_idx (o := ⟨some 38, .index 30 (.tmp 34) (.tmp 35), _, _, _, _⟩) ?g13b 30 (.tmp 34) (.tmp 35) ?o13b 29 8 k (v5.list.map W32) (.int .u32 (x.toNat : Int)) dd ?x13b ?y13b ?u13b ?i13b ?e13b ?d13b ?k13b ?l13b ?_) | (with_reducible refine wpList_cutL (o := ⟨some 41, .slice 24 (.tmp 5) (some (.tmp 40)) none none, _, _, _, _⟩) ?g14b 24 (.tmp 5) (.tmp 40) ?o14b gd 0 ?x14b (4 * k) ?y14b 32 5 ?u14b ?i14b ?k14b ?_))
        try (case x13b => rfl)
        try (case g13b => rfl)
        try (case o13b => rfl)
        try (case y13b => rfl)
        try (case u13b => exact Tryd.underlying30)
        try (case i13b => exact Tryd.size29)
        try (case e13b => exact HD.out)
        try (case d13b => first | rfl | assumption)
        try (case k13b => exact hk8)
        try (case l13b => exact hl8.out)
        try (case x14b => rfl)
        try (case g14b => rfl)
        try (case o14b => rfl)
        try (case y14b => (exact int_mul4 k))
        try (case u14b => exact Tryd.underlying24)
        try (case i14b => exact Tryd.size5)
        try (case k14b => omega)
        have hxx : Hid ((x.toNat : Int) = (x.toNat : Int)) := rfl
        (with_reducible refine (putWord_eq gd (4 * k) _ _ x _ hxx _ _ _ (by omega) hBd (by rw [outRow_length _ _ hk]; omega)).mono ?_)
        rintro e w12 ⟨rfl, hu12, hB12⟩
        rw [hsn.out] at hB12
        have hBr12 := hBr.upd hu12 (by omega)
        have hbel12 := hbel.trans (hu12.below (B := w.heap.size) (by omega))
        clear hBd hBr hbel hu12 hsn
        go_wp2
        go_roundw
        case rel => exact ⟨k + 1, by omega, by go_num, hB12, hBr12, hbel12⟩
        case measure => simp [intOf]; omega
      · obtain rfl : k = 8 := by omega
        rw [outRow_all, HF.out] at hBd
        have hsl : Hid (((SM.sum m).map B8).length = 32) := by have : ((SM.sum m).map B8).length = 32 := by rw [List.length_map, SM.sum_length]
                                                               exact this
        obtain ⟨S, hS⟩ : ∃ S, Hid (SM.sum m = S) := ⟨_, rfl⟩
        rw [hS.out] at hBd hsl
        clear HF
        go_wp2_with (first | (with_reducible refine wpList_get (o := ⟨some 45, .load 24 (.tmp 5), _, _, _, _⟩) ?g15b 24 (.tmp 5) ?o15b gd 0 ?x15b hBd (S.map B8) ?c15b (.array 32 5) ?u15b ?d15b ?i15b ?_) | (with_reducible refine wpList_put (o := ⟨none, .store 24 (.tmp 2) (.tmp 45), _, _, _, _⟩) ?g16b 24 (.tmp 2) (.tmp 45) ?o16b gr 0 ?x16b (.agg (S.map B8).toArray) ?y16b hBr (S.map B8) ?v16b ?i16b ?l16b ?q16b ?_))
        try (case x15b => rfl)
        try (case g15b => rfl)
        try (case o15b => rfl)
        try (case c15b => (exact cs_all _))
        try (case u15b => exact Tryd.underlying24)
        try (case d15b => first | rfl | assumption)
        try (case i15b => (rw [hsl.out]; exact Tryd.size24))
        try (case y16b => rfl)
        try (case x16b => rfl)
        try (case g16b => rfl)
        try (case o16b => rfl)
        try (case v16b => rfl)
        try (case i16b => exact (by rw [hsl.out]; exact Tryd.size24))
        try (case l16b => (rw [hsl.out]; exact Nat.le_refl _))
        try (case q16b => exact B8_one _)
        intro w13 hu13 hB13
        rw [splice_all _ _ (by rw [hsl.out]; rfl)] at hB13
        have hbel13 := hbel.trans (hu13.below (B := w.heap.size) (by omega))
        clear hBd hBr hbel hu13
        go_wp2
        refine bodyPost_ret (results_cell_row rfl _ _ gr _ _ _ _ rfl hB13 Tryd.underlying24 rfl (by rw [List.size_toArray, hsl.out]; exact Tryd.size24)) rfl ⟨by rw [hS.out], hbel13⟩
end Go.Proofs.YtnhnfdfjlagcjaaDoor
