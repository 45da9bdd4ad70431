/-
  Contracts of the walks over the reference's words. Conditions: the slice holds 64 bytes.
-/
import Derived.Test.YtnhnfdfjlagcjaaDoorHs
namespace Go.Proofs.YtnhnfdfjlagcjaaDoor
open Go.RowKit

/-- The first loop of the reference's words. -/
def RwRel1 (l : List UInt8) (B gr gw : Nat) (w : World) (i : Value) (wr : World) : Prop :=
  ∃ k : Nat, k ≤ 16 ∧ i = .int .i64 k ∧ Blk wr gw 72 (wordsRow (SM.first l k)) ∧ Blk wr gr 72 zeroW ∧ Below B w wr

set_option maxRecDepth 100000 in
set_option maxHeartbeats 1600000 in
theorem words_any (g o cap n : Nat) (l : List UInt8) (w : World) (hl : l.length = 64) (hn : n = 64) (hh : ∀ i, i < 64 → w.cell? ⟨g, o + i, none⟩ = some (B8 (l.getD i 0))) :
    Calls Tryd.prog 48 #[.slice (some ⟨g, o, none⟩) n cap] w fun e w' => e = .returned (.agg ((SM.words l).map W32).toArray) ∧ Below w.heap.size w w' := by
  subst hn
  have HL := Lib.hid hl
  have HH := Lib.hid hh
  clear hl hh
  go_enter Tryd.func48, Tryd.ntmps48
  go_wp2_with (with_reducible refine wpList_alloc (o := ⟨some 2, .alloc 72, _, _, _, _⟩) ?g2 72 ?o2 (aggW (List.replicate 64 0)) zeroW ?z2 ?c2 ?_)
  try (case g2 => rfl)
  try (case o2 => rfl)
  try (case z2 => exact Tryd.zero54)
  try (case c2 => rfl)
  intro gr w2 hgr hs2 hb2 hB2
  go_wp2_with (with_reducible refine wpList_alloc (o := ⟨some 3, .alloc 72, _, _, _, _⟩) ?g3 72 ?o3 (aggW (List.replicate 64 0)) zeroW ?z3 ?c3 ?_)
  try (case g3 => rfl)
  try (case o3 => rfl)
  try (case z3 => exact Tryd.zero54)
  try (case c3 => rfl)
  intro gw w3 hgw hs3 hb3 hB3
  have hlt0 : w.heap.size ≤ gr := Nat.le_of_eq hgr.out.symm
  have hlt2 : gr < gw := by have := hs2.out; have := hgr.out; have := hgw.out; omega
  have hb : Below w.heap.size w w3 := (hb2.mono hlt0).trans (hb3.mono (by omega))
  have hB2' := hB2.next hb3 hlt2
  clear hgr hgw hs2 hs3 hb2 hb3 hB2
  go_wp2
  go_loopw [4] (RwRel1 l w.heap.size gr gw w) (fun i _ => 16 - (intOf i).toNat)
  case atStart => exact ⟨0, by omega, rfl, hB3, hB2', hb⟩
  case round =>
    clear hb hB2' hB3
    obtain ⟨k, hk, rfl, hBw, hBr, hbel⟩ := hrel
    by_cases hlt : k < 16
    · have hc : ∀ j, j < 4 → wr.cell? ⟨g, o + (4 * k + j), none⟩ = some (B8 (l.getD (4 * k + j) 0)) := fun j hj => by
        have h1 := HH.out (4 * k + j) (by omega)
        rw [hbel.cell (World.block_lt_of_cell? w _ h1)]; exact h1
      have h0 := hc 0 (by decide)
      have h1 := hc 1 (by decide)
      have h2 := hc 2 (by decide)
      have h3 := hc 3 (by decide)
      rw [Nat.add_zero] at h0
      have HW := Lib.hid (word_bits (l.getD (4 * k) 0) (l.getD (4 * k + 1) 0) (l.getD (4 * k + 2) 0) (l.getD (4 * k + 3) 0))
      have hwd := Lib.hid (wordsRow_set l k hlt)
      have hwa : Hid (SM.wordAt l k = SM.word (l.getD (4 * k) 0) (l.getD (4 * k + 1) 0) (l.getD (4 * k + 2) 0) (l.getD (4 * k + 3) 0)) := rfl
      rw [hwa.out] at hwd
      generalize l.getD (4 * k) 0 = c0 at h0 HW hwd
      generalize l.getD (4 * k + 1) 0 = c1 at h1 HW hwd
      generalize l.getD (4 * k + 2) 0 = c2 at h2 HW hwd
      generalize l.getD (4 * k + 3) 0 = c3 at h3 HW hwd
      unfold B8 at h0 h1 h2 h3
      have b0 : c0.toNat < 256 := c0.toNat_lt
      have b1 : c1.toNat < 256 := c1.toNat_lt
      have b2 : c2.toNat < 256 := c2.toNat_lt
      have b3 : c3.toNat < 256 := c3.toNat_lt
      have m0 : IntKind.i64.wrap (4 * (k : Int)) = 4 * (k : Int) := IntWalk.i64_in _ (by omega)
      have m1 : IntKind.i64.wrap (4 * (k : Int) + 1) = 4 * (k : Int) + 1 := IntWalk.i64_in _ (by omega)
      have m2 : IntKind.i64.wrap (4 * (k : Int) + 2) = 4 * (k : Int) + 2 := IntWalk.i64_in _ (by omega)
      have m3 : IntKind.i64.wrap (4 * (k : Int) + 3) = 4 * (k : Int) + 3 := IntWalk.i64_in _ (by omega)
      have n0 : (4 * (k : Int)).toNat = 4 * k := by omega
      have n1 : (4 * (k : Int) + 1).toNat = 4 * k + 1 := by omega
      have n2 : (4 * (k : Int) + 2).toNat = 4 * k + 2 := by omega
      have n3 : (4 * (k : Int) + 3).toNat = 4 * k + 3 := by omega
      have u0 : 0 ≤ 4 * (k : Int) := by omega
      have u1 : 0 ≤ 4 * (k : Int) + 1 := by omega
      have u2 : 0 ≤ 4 * (k : Int) + 2 := by omega
      have u3 : 0 ≤ 4 * (k : Int) + 3 := by omega
      have v0 : 4 * (k : Int) < 64 := by omega
      have v1 : 4 * (k : Int) + 1 < 64 := by omega
      have v2 : 4 * (k : Int) + 2 < 64 := by omega
      have v3 : 4 * (k : Int) + 3 < 64 := by omega
      have w0 : IntKind.u32.wrap (c0.toNat : Int) = (c0.toNat : Int) := IntWalk.u32_in _ (by omega)
      have w1 : IntKind.u32.wrap (c1.toNat : Int) = (c1.toNat : Int) := IntWalk.u32_in _ (by omega)
      have w2 : IntKind.u32.wrap (c2.toNat : Int) = (c2.toNat : Int) := IntWalk.u32_in _ (by omega)
      have w3 : IntKind.u32.wrap (c3.toNat : Int) = (c3.toNat : Int) := IntWalk.u32_in _ (by omega)
      have y0 : IntKind.u32.wrap ((c0.toNat : Int) * 16777216) = (c0.toNat : Int) * 16777216 := IntWalk.u32_in _ (by omega)
      have y1 : IntKind.u32.wrap ((c1.toNat : Int) * 65536) = (c1.toNat : Int) * 65536 := IntWalk.u32_in _ (by omega)
      have y2 : IntKind.u32.wrap ((c2.toNat : Int) * 256) = (c2.toNat : Int) * 256 := IntWalk.u32_in _ (by omega)
      have hk64 : (k : Int) < 64 := by omega
      have hk0 : (0 : Int) ≤ (k : Int) := by omega
      clear hc
      go_wp2
      go_still_tail 35, (by kernel_rfl)
      have hBw' : Blk { wr with drawn := wr.drawn + 1 } gw 72 (wordsRow (SM.first l k)) := hBw
      have hBr' : Blk { wr with drawn := wr.drawn + 1 } gr 72 zeroW := hBr
      have hbel' : Below w.heap.size w { wr with drawn := wr.drawn + 1 } := hbel.drewN 1
      clear h0 h1 h2 h3 hBw hBr hbel m0 m1 m2 m3
      go_wp2_with (with_reducible refine wpList_put (o := ⟨none, .store 29 (.tmp 46) (.tmp 45), _, _, _, _⟩) ?g5 29 (.tmp 46) (.tmp 45) ?o5 gw k ?x5 (W32 (SM.word c0 c1 c2 c3)) ?y5 hBw' [W32 (SM.word c0 c1 c2 c3)] ?v5 ?i5 ?l5 ?q5 ?_)
      try (case y5 => (show Value.int .u32 _ = W32 _; rw [HW.out]; rfl))
      try (case x5 => rfl)
      try (case g5 => rfl)
      try (case o5 => rfl)
      try (case v5 => rfl)
      try (case i5 => exact Tryd.size29)
      try (case l5 => (rw [wordsRow_length _ (by rw [SM.first_length]; omega)]; simp; omega))
      try (case q5 => exact one_cell1 rfl)
      intro w4 hu4 hB4
      have hBr4 := hBr'.upd hu4 (by omega)
      have hbel4 : Below w.heap.size w w4 := hbel'.trans (hu4.below (by omega))
      rw [hwd.out] at hB4
      clear hBr' hBw' hbel' hu4 hwd
      go_wp2
      go_roundw
      case rel => exact ⟨k + 1, by omega, by go_num, hB4, hBr4, hbel4⟩
      case measure => simp [intOf]; omega
    · have hk16 : k = 16 := by omega
      rw [hk16] at hBw
      clear hk16
      go_wp2
      clear hlt
      go_loopw [5] (ScRel2 l w.heap.size gr gw w) (fun i _ => 64 - (intOf i).toNat)
      case atStart => exact ⟨16, by omega, by omega, rfl, hBw, hBr, hbel⟩
      case round =>
        obtain ⟨t, ht1, ht2, rfl, hBw, hBr, hbel⟩ := hrel
        by_cases hlt : t < 64
        · have hwl := Lib.hid (more_len l t ht1)
          obtain ⟨x15, h15, HX15⟩ := word_cell hBw (t - 15) (by have := hwl.out; omega)
          obtain ⟨x2, h2, HX2⟩ := word_cell hBw (t - 2) (by have := hwl.out; omega)
          obtain ⟨x16, h16, HX16⟩ := word_cell hBw (t - 16) (by have := hwl.out; omega)
          obtain ⟨x7, h7, HX7⟩ := word_cell hBw (t - 7) (by have := hwl.out; omega)
          have n15 : ((t : Int) - 15).toNat = t - 15 := by omega
          have p15 : IntKind.i64.wrap ((t : Int) - 15) = (t : Int) - 15 := IntWalk.i64_in _ (by omega)
          have q15 : 15 ≤ (t : Int) := by omega
          have r15 : 0 ≤ (t : Int) - 15 := by omega
          have s15 : (t : Int) - 15 < 64 := by omega
          have n2 : ((t : Int) - 2).toNat = t - 2 := by omega
          have p2 : IntKind.i64.wrap ((t : Int) - 2) = (t : Int) - 2 := IntWalk.i64_in _ (by omega)
          have q2 : 2 ≤ (t : Int) := by omega
          have r2 : 0 ≤ (t : Int) - 2 := by omega
          have s2 : (t : Int) - 2 < 64 := by omega
          have n16 : ((t : Int) - 16).toNat = t - 16 := by omega
          have p16 : IntKind.i64.wrap ((t : Int) - 16) = (t : Int) - 16 := IntWalk.i64_in _ (by omega)
          have q16 : 16 ≤ (t : Int) := by omega
          have r16 : 0 ≤ (t : Int) - 16 := by omega
          have s16 : (t : Int) - 16 < 64 := by omega
          have n7 : ((t : Int) - 7).toNat = t - 7 := by omega
          have p7 : IntKind.i64.wrap ((t : Int) - 7) = (t : Int) - 7 := IntWalk.i64_in _ (by omega)
          have q7 : 7 ≤ (t : Int) := by omega
          have r7 : 0 ≤ (t : Int) - 7 := by omega
          have s7 : (t : Int) - 7 < 64 := by omega
          go_wp2
          unfold W32 at h15 h2 h16 h7
          go_quiet ((go_at_call 49; exact Calls.quiet_of (rrotr_raw _ _ _ _ rfl rfl)))
          have h2' := cell_drewN h2 nq
          have h16' := cell_drewN h16 nq
          have h7' := cell_drewN h7 nq
          have hBw' := hBw.drewN nq
          have hBr' := hBr.drewN nq
          have hbel' := hbel.drewN nq
          clear h2 h16 h7 h15 hBw hBr hbel
          generalize wr.drewN nq = wq at h2' h16' h7' hBw' hBr' hbel' ⊢
          go_wp2
          go_quiet ((go_at_call 49; exact Calls.quiet_of (rrotr_raw _ _ _ _ rfl rfl)))
          have h16 := cell_drewN h16' nq
          have h7 := cell_drewN h7' nq
          have hBw := hBw'.drewN nq
          have hBr := hBr'.drewN nq
          have hbel := hbel'.drewN nq
          clear h2' h16' h7' hBw' hBr' hbel'
          generalize wq.drewN nq = wz at h16 h7 hBw hBr hbel ⊢
          rw [s0_raw x15, s1_raw x2]
          go_wp2
          go_still_tail 15, (by kernel_rfl)
          have hBw' : Blk { wz with drawn := wz.drawn + 1 } gw 72 (wordsRow (SM.more (SM.first l 16) (t - 16))) := hBw
          have hBr' : Blk { wz with drawn := wz.drawn + 1 } gr 72 zeroW := hBr
          have hbel' : Below w.heap.size w { wz with drawn := wz.drawn + 1 } := hbel.drewN 1
          have hnx := Lib.hid (next_of HX15 HX2 HX16 HX7 hwl)
          have hsn := Lib.hid (more_snoc l t ht1 hlt)
          clear h16 h7 hBw hBr hbel
          go_wp2_with (with_reducible refine wpList_put (o := ⟨none, .store 29 (.tmp 99) (.tmp 98), _, _, _, _⟩) ?g6 29 (.tmp 99) (.tmp 98) ?o6 gw t ?x6 (W32 (x16 + SM.s0 x15 + x7 + SM.s1 x2)) ?y6 hBw' [W32 (x16 + SM.s0 x15 + x7 + SM.s1 x2)] ?v6 ?i6 ?l6 ?q6 ?_)
          try (case y6 => exact (add3 x16 (SM.s0 x15) x7 (SM.s1 x2)))
          try (case x6 => rfl)
          try (case g6 => rfl)
          try (case o6 => rfl)
          try (case v6 => rfl)
          try (case i6 => exact Tryd.size29)
          try (case l6 => (rw [wordsRow_length _ (by rw [hwl.out]; omega)]; simp; omega))
          try (case q6 => exact one_cell1 rfl)
          intro w4 hu4 hB4
          have hBr4 := hBr'.upd hu4 (by omega)
          have hbel4 : Below w.heap.size w w4 := hbel'.trans (hu4.below (by omega))
          rw [hnx.out, hsn.out] at hB4
          clear hBw' hBr' hbel' hu4 hnx hsn
          go_wp2
          go_roundw
          case rel => exact ⟨t + 1, by omega, by omega, by go_num, hB4, hBr4, hbel4⟩
          case measure => simp [intOf]; omega
        · obtain rfl : t = 64 := by omega
          have hfin := Lib.hid (words_full l)
          rw [hfin.out] at hBw
          go_wp2_with (first | (with_reducible refine wpList_get (o := ⟨some 100, .load 72 (.tmp 3), _, _, _, _⟩) ?g7 72 (.tmp 3) ?o7 gw 0 ?x7 hBw ((SM.words l).map W32) ?c7 (.array 64 29) ?u7 ?d7 ?i7 ?_) | (with_reducible refine wpList_put (o := ⟨none, .store 72 (.tmp 2) (.tmp 100), _, _, _, _⟩) ?g8 72 (.tmp 2) (.tmp 100) ?o8 gr 0 ?x8 (aggW (SM.words l)) ?y8 hBr ((SM.words l).map W32) ?v8 ?i8 ?l8 ?q8 ?_))
          try (case x7 => rfl)
          try (case g7 => rfl)
          try (case o7 => rfl)
          try (case c7 => (exact cs_all _))
          try (case u7 => exact Tryd.underlying72)
          try (case d7 => first | rfl | assumption)
          try (case i7 => (rw [words_cells]; exact Tryd.size54))
          try (case y8 => rfl)
          try (case x8 => rfl)
          try (case g8 => rfl)
          try (case o8 => rfl)
          try (case v8 => rfl)
          try (case i8 => exact (by rw [words_cells]; exact Tryd.size54))
          try (case l8 => (rw [words_cells]; exact Nat.le_refl _))
          try (case q8 => exact W32_one _)
          intro w5 hu5 hB5
          rw [splice_all _ _ (by rw [words_cells]; rfl)] at hB5
          go_wp2
          refine bodyPost_ret (results_cell_row rfl _ _ gr _ _ _ _ rfl hB5 Tryd.underlying72 rfl (by rw [List.size_toArray, words_cells]; exact Tryd.size54)) rfl ⟨rfl, ?_⟩
          exact hbel.trans (hu5.below (by omega))
end Go.Proofs.YtnhnfdfjlagcjaaDoor
