/-
  Contracts of the walks over chapter 2's hash.schedule. Conditions: none.
-/
import Derived.Test.YtnhnfdfjlagcjaaDoorHp
import Derived.StillTailTactics
import Derived.IntWalk
import Derived.Deep.QuietTactic
namespace Go.Proofs.YtnhnfdfjlagcjaaDoor
open Go.RowKit

theorem B8_one (l : List UInt8) : ∀ u ∈ l.map B8, u.oneCell' = true := by
  intro u hu; simp only [List.mem_map] at hu; obtain ⟨c, _, rfl⟩ := hu; rfl
theorem W32_one (l : List UInt32) : ∀ u ∈ l.map W32, u.oneCell' = true := by
  intro u hu; simp only [List.mem_map] at hu; obtain ⟨c, _, rfl⟩ := hu; rfl
def aggB (l : List UInt8) : Value := .agg (l.map B8).toArray
def aggW (l : List UInt32) : Value := .agg (l.map W32).toArray
def zeroW : List Value := (List.replicate 64 0).map W32
theorem Tryd.zero54 : (Tryd.prog.info? 72).map (·.zero) = some (some (aggW (List.replicate 64 0))) := by kernel_rfl
theorem Tryd.size29 : (Tryd.prog.info? 29).map (·.size) = some 1 := by kernel_rfl
theorem Tryd.size54 : (Tryd.prog.info? 72).map (·.size) = some 64 := by kernel_rfl

/-- The words so far, in a row of 64. -/
def wordsRow (ws : List UInt32) : List Value := (ws ++ List.replicate (64 - ws.length) 0).map W32

/-- The first loop of schedule: the words of the block so far. -/
def ScRel1 (l : List UInt8) (B gb gr gw : Nat) (w : World) (i : Value) (wr : World) : Prop :=
  ∃ k : Nat, k ≤ 16 ∧ i = .int .i64 k ∧ Blk wr gw 72 (wordsRow (SM.first l k)) ∧ Blk wr gb 31 (l.map B8) ∧ Blk wr gr 72 zeroW ∧ Below B w wr

theorem wordsRow_length (ws : List UInt32) (h : ws.length ≤ 64) : (wordsRow ws).length = 64 := by unfold wordsRow; simp; omega
theorem wordsRow_snoc (ws : List UInt32) (x : UInt32) (h : ws.length < 64) : splice (wordsRow ws) ws.length [W32 x] = wordsRow (ws ++ [x]) := by
  have e : List.replicate (64 - ws.length) (0 : UInt32) = 0 :: List.replicate (64 - (ws.length + 1)) 0 := by
    rw [show 64 - ws.length = (64 - (ws.length + 1)) + 1 by omega, List.replicate_succ]
  unfold wordsRow splice
  rw [e, List.map_append, List.take_left' (by simp), List.map_cons, List.length_singleton, List.drop_append, List.drop_eq_nil_of_le (by simp)]
  simp
theorem wordsRow_set (l : List UInt8) (k : Nat) (h : k < 16) : splice (wordsRow (SM.first l k)) k [W32 (SM.wordAt l k)] = wordsRow (SM.first l (k + 1)) := by
  have := wordsRow_snoc (SM.first l k) (SM.wordAt l k) (by rw [SM.first_length]; omega)
  rw [SM.first_length] at this
  exact this
theorem _root_.Go.RowKit.Below.drewN {B : Nat} {a w : World} (h : Below B a w) (n : Nat) : Below B a (w.drewN n) := ⟨h.os, h.tape, h.output, h.size, h.block⟩
/-- The second loop: t words. -/
def ScRel2 (l : List UInt8) (B gr gw : Nat) (w : World) (i : Value) (wr : World) : Prop :=
  ∃ t : Nat, 16 ≤ t ∧ t ≤ 64 ∧ i = .int .i64 t ∧ Blk wr gw 72 (wordsRow (SM.more (SM.first l 16) (t - 16))) ∧ Blk wr gr 72 zeroW ∧ Below B w wr
theorem word_cell {w : World} {g : Nat} {t : TypeId} {ws : List UInt32} (hb : Blk w g t (wordsRow ws)) (i : Nat) (h : i < ws.length) : ∃ x, w.cell? ⟨g, i, none⟩ = some (W32 x) ∧ Hid (ws.getD i 0 = x) := by
  refine ⟨_, hb.cell ?_, rfl⟩
  unfold wordsRow
  rw [List.getElem?_map, List.getElem?_append_left h, List.getD_eq_getElem?_getD, List.getElem?_eq_getElem h]; rfl
theorem more_len (l : List UInt8) (t : Nat) (h : 16 ≤ t) : (SM.more (SM.first l 16) (t - 16)).length = t := by rw [SM.more_length, SM.first_length]; omega
theorem cell_drewN {w : World} {p : Addr} {v : Value} (h : w.cell? p = some v) (n : Nat) : (w.drewN n).cell? p = some v := h
theorem s0_raw (x : UInt32) : bits .xor .u32 (bits .xor .u32 ((SM.rot x 7).toNat : Int) ((SM.rot x 18).toNat : Int)) ((x.toNat : Int) / 8) = ((SM.s0 x).toNat : Int) := by
  have e : (x.toNat : Int) / (8 : Int) = ((x >>> 3).toNat : Int) := by rw [UInt32.toNat_shiftRight, Nat.shiftRight_eq_div_pow]; rfl
  rw [show (x.toNat : Int) / _ = _ from e, w_xor, w_xor]; rfl
theorem s1_raw (x : UInt32) : bits .xor .u32 (bits .xor .u32 ((SM.rot x 17).toNat : Int) ((SM.rot x 19).toNat : Int)) ((x.toNat : Int) / 1024) = ((SM.s1 x).toNat : Int) := by
  have e : (x.toNat : Int) / (1024 : Int) = ((x >>> 10).toNat : Int) := by rw [UInt32.toNat_shiftRight, Nat.shiftRight_eq_div_pow]; rfl
  rw [show (x.toNat : Int) / _ = _ from e, w_xor, w_xor]; rfl
theorem add3 (a b c d : UInt32) : Value.int .u32 (IntKind.u32.wrap (IntKind.u32.wrap (IntKind.u32.wrap ((a.toNat : Int) + (b.toNat : Int)) + (c.toNat : Int)) + (d.toNat : Int))) = W32 (a + b + c + d) := by
  rw [w_add, w_add, w_add]; rfl
theorem next_of {ws : List UInt32} {t : Nat} {x15 x2 x16 x7 : UInt32} (h15 : Hid (ws.getD (t - 15) 0 = x15)) (h2 : Hid (ws.getD (t - 2) 0 = x2)) (h16 : Hid (ws.getD (t - 16) 0 = x16)) (h7 : Hid (ws.getD (t - 7) 0 = x7)) (hl : Hid (ws.length = t)) :
    x16 + SM.s0 x15 + x7 + SM.s1 x2 = SM.next ws := by
  unfold SM.next
  rw [hl.out, h15.out, h2.out, h16.out, h7.out]
theorem more_snoc (l : List UInt8) (t : Nat) (h : 16 ≤ t) (h2 : t < 64) : splice (wordsRow (SM.more (SM.first l 16) (t - 16))) t [W32 (SM.next (SM.more (SM.first l 16) (t - 16)))] = wordsRow (SM.more (SM.first l 16) (t + 1 - 16)) := by
  have := wordsRow_snoc (SM.more (SM.first l 16) (t - 16)) (SM.next (SM.more (SM.first l 16) (t - 16))) (by rw [more_len l t h]; omega)
  rw [more_len l t h] at this
  rw [this, show t + 1 - 16 = (t - 16) + 1 by omega]
  rfl
theorem words_full (l : List UInt8) : wordsRow (SM.more (SM.first l 16) (64 - 16)) = (SM.words l).map W32 := by
  unfold wordsRow
  rw [more_len l 64 (by omega)]
  simp [SM.words]
theorem int_mul4 (k : Nat) : Value.int .i64 ((k : Int) * 4) = .int .i64 ((4 * k : Nat) : Int) := by congr 1; omega
theorem byte_get {l : List UInt8} {i : Nat} (h : i < l.length) : (l.map B8)[i]? = some (B8 (l.getD i 0)) := by
  rw [List.getElem?_map, List.getD_eq_getElem?_getD, List.getElem?_eq_getElem h]; rfl
theorem getWord_row {w : World} {g : Nat} {t : TypeId} {l : List UInt8} (hb : Blk w g t (l.map B8)) (o' o n cap : Nat) (he : o' = o) (HL : Hid (l.length = 64)) (ho : o + 4 ≤ 64) (hn : 4 ≤ n) :
    Calls Tryd.prog 94 #[.slice (some ⟨g, o', none⟩) n cap] w fun e w' => e = .returned (W32 (SM.word (l.getD o 0) (l.getD (o + 1) 0) (l.getD (o + 2) 0) (l.getD (o + 3) 0))) ∧ ∃ m, w' = w.drewN m := by
  have h := HL.out
  subst he
  exact getWord_any g o' n cap _ _ _ _ w (by omega) (hb.cell (byte_get (by omega))) (hb.cell (byte_get (by omega))) (hb.cell (byte_get (by omega))) (hb.cell (byte_get (by omega)))

theorem words_cells (l : List UInt8) : ((SM.words l).map W32).length = 64 := by rw [List.length_map, SM.words_length]
theorem cs_all (l : List Value) : (l.drop 0).take l.length = l := by simp

set_option maxRecDepth 100000 in
set_option maxHeartbeats 800000 in
theorem schedule_any (l : List UInt8) (w : World) (hl : l.length = 64) :
    Calls Tryd.prog 88 #[aggB l] w fun e w' => e = .returned (aggW (SM.words l)) ∧ Below w.heap.size w w' := by
  unfold aggB
  have HL := Lib.hid hl
  clear hl
  go_enter Tryd.func88, Tryd.ntmps88
  go_wp2_with (with_reducible refine wpList_box (o := ⟨some 1, .box 31 (.tmp 0), _, _, _, _⟩) ?g1 31 (.tmp 0) ?o1 (.agg (l.map B8).toArray) (l.map B8) ?x1 ?c1 ?_)
  try (case g1 => rfl)
  try (case o1 => rfl)
  try (case x1 => rfl)
  try (case c1 => rfl)
  intro gb w1 hgb hs1 hb1 hB1
  go_wp2_with (with_reducible refine wpList_alloc (o := ⟨some 2, .alloc 72, _, _, _, _⟩) ?g2 72 ?o2 (aggW (List.replicate 64 0)) zeroW ?z2 ?c2 ?_)
  try (case g2 => rfl)
  try (case o2 => rfl)
  try (case z2 => exact Tryd.zero54)
  try (case c2 => rfl)
  intro gr w2 hgr hs2 hb2 hB2
  go_wp2_with (with_reducible refine wpList_alloc (o := ⟨some 3, .alloc 72, _, _, _, _⟩) ?g3 72 ?o3 (aggW (List.replicate 64 0)) zeroW ?z3 ?c3 ?_)
  try (case g3 => rfl)
  try (case o3 => rfl)
  try (case z3 => exact Tryd.zero54)
  try (case c3 => rfl)
  intro gw w3 hgw hs3 hb3 hB3
  have hlt0 : w.heap.size ≤ gb := Nat.le_of_eq hgb.out.symm
  have hlt1 : gb < gr := by have := hs1.out; have := hgr.out; omega
  have hlt2 : gr < gw := by have := hs2.out; have := hgr.out; have := hgw.out; omega
  have hb : Below w.heap.size w w3 := (hb1.mono hlt0).trans ((hb2.mono (by omega)).trans (hb3.mono (by omega)))
  have hB1' := (hB1.next hb2 hlt1).next hb3 (by omega)
  have hB2' := hB2.next hb3 hlt2
  clear hgb hgr hgw hs1 hs2 hs3 hb1 hb2 hb3 hB1 hB2
  go_wp2
  go_loopw [8] (ScRel1 l w.heap.size gb gr gw w) (fun i _ => 16 - (intOf i).toNat)
  case atStart => exact ⟨0, by omega, rfl, hB3, hB1', hB2', hb⟩
  case round =>
    obtain ⟨k, hk, rfl, hBw, hBb, hBr, hbel⟩ := hrel
    clear hb hB1' hB2' hB3
    by_cases hlt : k < 16
    · go_wp2_with (with_reducible refine wpList_cutL (o := ⟨some 14, .slice 31 (.tmp 1) (some (.tmp 13)) none none, _, _, _, _⟩) ?g4 31 (.tmp 1) (.tmp 13) ?o4 gb 0 ?x4 (4 * k) ?y4 64 5 ?u4 ?i4 ?k4 ?_)
      try (case x4 => rfl)
      try (case g4 => rfl)
      try (case o4 => rfl)
      try (case y4 => (exact int_mul4 k))
      try (case u4 => exact Tryd.underlying31)
      try (case i4 => exact Tryd.size5)
      try (case k4 => omega)
      go_wp2_with fail
      (with_reducible refine (getWord_row hBb _ (4 * k) _ _ (by omega) HL (by omega) (by omega)).mono ?_)
      rintro e w4 ⟨rfl, m, rfl⟩
      have hBd := hBw.drewN m
      have hwd := Lib.hid (wordsRow_set l k hlt)
      go_wp2_with (with_reducible refine wpList_put (o := ⟨none, .store 29 (.tmp 16) (.tmp 15), _, _, _, _⟩) ?g5 29 (.tmp 16) (.tmp 15) ?o5 gw k ?x5 (W32 (SM.wordAt l k)) ?y5 hBd [W32 (SM.wordAt l k)] ?v5 ?i5 ?l5 ?q5 ?_)
      try (case y5 => rfl)
      try (case x5 => rfl)
      try (case g5 => rfl)
      try (case o5 => rfl)
      try (case v5 => rfl)
      try (case i5 => exact Tryd.size29)
      try (case l5 => (rw [wordsRow_length _ (by rw [SM.first_length]; omega)]; simp; omega))
      try (case q5 => exact one_cell1 rfl)
      intro w4 hu4 hB4
      have hBb4 := (hBb.drewN m).upd hu4 (by omega)
      have hBr4 := (hBr.drewN m).upd hu4 (by omega)
      have hbel4 : Below w.heap.size w w4 := (hbel.drewN m).trans (hu4.below (by omega))
      rw [hwd.out] at hB4
      clear hBb hBr hBw hBd hbel hu4 hwd
      go_wp2
      go_roundw
      case rel => exact ⟨k + 1, by omega, by go_num, hB4, hBb4, hBr4, hbel4⟩
      case measure => simp [intOf]; omega
    · have hk16 : k = 16 := by omega
      rw [hk16] at hBw
      clear hk16
      go_wp2
      clear hlt
      go_loopw [5] (ScRel2 l w.heap.size gr gw w) (fun i _ => 64 - (intOf i).toNat)
      case atStart => exact ⟨16, by omega, by omega, rfl, hBw, hBr, hbel⟩
      case round =>
        obtain ⟨t, ht1, ht2, rfl, hBw, hBr, hbel⟩ := hrel
        by_cases hlt : t < 64
        · have hwl := Lib.hid (more_len l t ht1)
          obtain ⟨x15, h15, HX15⟩ := word_cell hBw (t - 15) (by have := hwl.out; omega)
          obtain ⟨x2, h2, HX2⟩ := word_cell hBw (t - 2) (by have := hwl.out; omega)
          obtain ⟨x16, h16, HX16⟩ := word_cell hBw (t - 16) (by have := hwl.out; omega)
          obtain ⟨x7, h7, HX7⟩ := word_cell hBw (t - 7) (by have := hwl.out; omega)
          have n15 : ((t : Int) - 15).toNat = t - 15 := by omega
          have p15 : IntKind.i64.wrap ((t : Int) - 15) = (t : Int) - 15 := IntWalk.i64_in _ (by omega)
          have q15 : 15 ≤ (t : Int) := by omega
          have r15 : 0 ≤ (t : Int) - 15 := by omega
          have s15 : (t : Int) - 15 < 64 := by omega
          have n2 : ((t : Int) - 2).toNat = t - 2 := by omega
          have p2 : IntKind.i64.wrap ((t : Int) - 2) = (t : Int) - 2 := IntWalk.i64_in _ (by omega)
          have q2 : 2 ≤ (t : Int) := by omega
          have r2 : 0 ≤ (t : Int) - 2 := by omega
          have s2 : (t : Int) - 2 < 64 := by omega
          have n16 : ((t : Int) - 16).toNat = t - 16 := by omega
          have p16 : IntKind.i64.wrap ((t : Int) - 16) = (t : Int) - 16 := IntWalk.i64_in _ (by omega)
          have q16 : 16 ≤ (t : Int) := by omega
          have r16 : 0 ≤ (t : Int) - 16 := by omega
          have s16 : (t : Int) - 16 < 64 := by omega
          have n7 : ((t : Int) - 7).toNat = t - 7 := by omega
          have p7 : IntKind.i64.wrap ((t : Int) - 7) = (t : Int) - 7 := IntWalk.i64_in _ (by omega)
          have q7 : 7 ≤ (t : Int) := by omega
          have r7 : 0 ≤ (t : Int) - 7 := by omega
          have s7 : (t : Int) - 7 < 64 := by omega
          go_wp2
          unfold W32 at h15 h2 h16 h7
          go_quiet ((go_at_call 89; exact Calls.quiet_of_same (rotr_raw _ _ _ _ rfl rfl)))
          have h2' := cell_drewN h2 nq
          have h16' := cell_drewN h16 nq
          have h7' := cell_drewN h7 nq
          have hBw' := hBw.drewN nq
          have hBr' := hBr.drewN nq
          have hbel' := hbel.drewN nq
          clear h2 h16 h7 h15 hBw hBr hbel
          generalize wr.drewN nq = wq at h2' h16' h7' hBw' hBr' hbel' ⊢
          go_wp2
          go_quiet ((go_at_call 89; exact Calls.quiet_of_same (rotr_raw _ _ _ _ rfl rfl)))
          have h16 := cell_drewN h16' nq
          have h7 := cell_drewN h7' nq
          have hBw := hBw'.drewN nq
          have hBr := hBr'.drewN nq
          have hbel := hbel'.drewN nq
          clear h2' h16' h7' hBw' hBr' hbel'
          generalize wq.drewN nq = wz at h16 h7 hBw hBr hbel ⊢
          rw [s0_raw x15, s1_raw x2]
          go_wp2
          go_still_tail 15, (by kernel_rfl)
          have hBw' : Blk { wz with drawn := wz.drawn + 1 } gw 72 (wordsRow (SM.more (SM.first l 16) (t - 16))) := hBw
          have hBr' : Blk { wz with drawn := wz.drawn + 1 } gr 72 zeroW := hBr
          have hbel' : Below w.heap.size w { wz with drawn := wz.drawn + 1 } := hbel.drewN 1
          have hnx := Lib.hid (next_of HX15 HX2 HX16 HX7 hwl)
          have hsn := Lib.hid (more_snoc l t ht1 hlt)
          clear h16 h7 hBw hBr hbel
          go_wp2_with (with_reducible refine wpList_put (o := ⟨none, .store 29 (.tmp 70) (.tmp 69), _, _, _, _⟩) ?g6 29 (.tmp 70) (.tmp 69) ?o6 gw t ?x6 (W32 (x16 + SM.s0 x15 + x7 + SM.s1 x2)) ?y6 hBw' [W32 (x16 + SM.s0 x15 + x7 + SM.s1 x2)] ?v6 ?i6 ?l6 ?q6 ?_)
          try (case y6 => exact (add3 x16 (SM.s0 x15) x7 (SM.s1 x2)))
          try (case x6 => rfl)
          try (case g6 => rfl)
          try (case o6 => rfl)
          try (case v6 => rfl)
          try (case i6 => exact Tryd.size29)
          try (case l6 => (rw [wordsRow_length _ (by rw [hwl.out]; omega)]; simp; omega))
          try (case q6 => exact one_cell1 rfl)
          intro w4 hu4 hB4
          have hBr4 := hBr'.upd hu4 (by omega)
          have hbel4 : Below w.heap.size w w4 := hbel'.trans (hu4.below (by omega))
          rw [hnx.out, hsn.out] at hB4
          clear hBw' hBr' hbel' hu4 hnx hsn
          go_wp2
          go_roundw
          case rel => exact ⟨t + 1, by omega, by omega, by go_num, hB4, hBr4, hbel4⟩
          case measure => simp [intOf]; omega
        · obtain rfl : t = 64 := by omega
          have hfin := Lib.hid (words_full l)
          rw [hfin.out] at hBw
          go_wp2_with (first | (with_reducible refine wpList_get (o := ⟨some 71, .load 72 (.tmp 3), _, _, _, _⟩) ?g7 72 (.tmp 3) ?o7 gw 0 ?x7 hBw ((SM.words l).map W32) ?c7 (.array 64 29) ?u7 ?d7 ?i7 ?_) | (with_reducible refine wpList_put (o := ⟨none, .store 72 (.tmp 2) (.tmp 71), _, _, _, _⟩) ?g8 72 (.tmp 2) (.tmp 71) ?o8 gr 0 ?x8 (aggW (SM.words l)) ?y8 hBr ((SM.words l).map W32) ?v8 ?i8 ?l8 ?q8 ?_))
          try (case x7 => rfl)
          try (case g7 => rfl)
          try (case o7 => rfl)
          try (case c7 => (exact cs_all _))
          try (case u7 => exact Tryd.underlying72)
          try (case d7 => first | rfl | assumption)
          try (case i7 => (rw [words_cells]; exact Tryd.size54))
          try (case y8 => rfl)
          try (case x8 => rfl)
          try (case g8 => rfl)
          try (case o8 => rfl)
          try (case v8 => rfl)
          try (case i8 => exact (by rw [words_cells]; exact Tryd.size54))
          try (case l8 => (rw [words_cells]; exact Nat.le_refl _))
          try (case q8 => exact W32_one _)
          intro w5 hu5 hB5
          rw [splice_all _ _ (by rw [words_cells]; rfl)] at hB5
          go_wp2
          refine bodyPost_ret (results_cell_row rfl _ _ gr _ _ _ _ rfl hB5 Tryd.underlying72 rfl (by rw [List.size_toArray, words_cells]; exact Tryd.size54)) rfl ⟨rfl, ?_⟩
          exact hbel.trans (hu5.below (by omega))
theorem schedule_raw (l : List UInt8) (w : World) (hl : l.length = 64) :
    Calls Tryd.prog 88 #[.agg (l.map B8).toArray] w fun e w' => e = .returned (.agg ((SM.words l).map W32).toArray) ∧ Below w.heap.size w w' := schedule_any l w hl
end Go.Proofs.YtnhnfdfjlagcjaaDoor
