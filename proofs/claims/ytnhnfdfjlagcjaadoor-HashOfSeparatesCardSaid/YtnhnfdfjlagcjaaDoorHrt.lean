/-
  Contracts of the walks over the reference's Sum. Conditions: at most 10^8 bytes; its table reads as the document has it.
-/
import Derived.Test.YtnhnfdfjlagcjaaDoorHrs
import Derived.Deep.CutBlock
import Derived.Deep.DeepCutAuto
namespace Go.Proofs.YtnhnfdfjlagcjaaDoor
open Go.RowKit

/-- What all four loops keep. -/
structure RsKeep (p : List UInt8) (B gs go gm : Nat) (w : World) (wr : World) : Prop where
  o : Blk wr go 24 zero32
  row : RowAt wr gm p
  bel : Below B w wr
def RsRel (p : List UInt8) (B gs go gm : Nat) (w : World) (i : Value) (wr : World) : Prop :=
  ∃ n a : Nat, Hid (a = 64 * n) ∧ a ≤ p.length ∧ i = .int .i64 a ∧ Blk wr gs 30 ((SM.blocks n SM.start p).list.map W32) ∧ RsKeep p B gs go gm w wr
def RoRel (p : List UInt8) (s : SM.V) (ws : List UInt32) (B gs go gm gw gv : Nat) (w : World) (i : Value) (wr : World) : Prop :=
  ∃ n : Nat, n ≤ 64 ∧ i = .int .i64 n ∧ Blk wr gv 30 ((SM.rounds ws s n).list.map W32) ∧ Blk wr gw 72 (ws.map W32) ∧ Blk wr gs 30 (s.list.map W32) ∧ RsKeep p B gs go gm w wr
def RaRel (p : List UInt8) (s v : SM.V) (B gs go gm gv : Nat) (w : World) (i : Value) (wr : World) : Prop :=
  ∃ k : Nat, k ≤ 8 ∧ i = .int .i64 k ∧ Blk wr gs 30 ((mix s v k).map W32) ∧ Blk wr gv 30 (v.list.map W32) ∧ RsKeep p B gs go gm w wr
theorem sum5b (a b c d e : UInt32) : (((a.toNat : Int) + (b.toNat : Int) + (c.toNat : Int) + (d.toNat : Int)) % 4294967296 + (e.toNat : Int)) % 4294967296 = ((a + b + c + d + e).toNat : Int) := by
  rw [← sum5]; omega
def RbRel (S : List UInt8) (s : SM.V) (B gs go gb : Nat) (w : World) (i : Value) (wr : World) : Prop :=
  ∃ k : Nat, k ≤ 32 ∧ i = .int .i64 k ∧ Blk wr gb 24 (obRow S k) ∧ Blk wr gs 30 (s.list.map W32) ∧ Blk wr go 24 zero32 ∧ Below B w wr
theorem RsKeep.next {p : List UInt8} {B gs go gm : Nat} {w a b : World} (h : RsKeep p B gs go gm w a) (hb : Below a.heap.size a b) (hp : 0 < p.length) (hs : w.heap.size = B) : RsKeep p B gs go gm w b :=
  ⟨h.o.next hb h.o.lt, h.row.next hb (h.row.lt hp), h.bel.trans (hb.mono (by have := h.bel.size; omega))⟩
theorem RsKeep.upd {p : List UInt8} {B gs go gm g : Nat} {w a b : World} (h : RsKeep p B gs go gm w a) (hu : Upd g a b) (h1 : go ≠ g) (h2 : gm ≠ g) (h3 : B ≤ g) : RsKeep p B gs go gm w b :=
  ⟨h.o.upd hu h1, h.row.upd hu h2, h.bel.trans (hu.below h3)⟩
theorem RsKeep.drewN {p : List UInt8} {B gs go gm : Nat} {w a : World} (h : RsKeep p B gs go gm w a) (n : Nat) : RsKeep p B gs go gm w (a.drewN n) :=
  ⟨h.o.drewN n, h.row.drewN n, h.bel.drewN n⟩
set_option maxRecDepth 100000 in
set_option maxHeartbeats 3200000 in
theorem rsum_any (ad : Addr) (cap n : Nat) (l : List UInt8) (w : World) (hn : n = l.length) (hl : l.length ≤ 100000000) (hh : Holds w (some ad) (l.map B8)) (HC : LayC w) :
    Calls Tryd.prog 17 #[.slice (some ad) n cap] w fun e w' => e = .returned (.agg ((SM.sum l).map B8).toArray) ∧ Below w.heap.size w w' := by
  subst hn
  obtain ⟨S, hS⟩ : ∃ S, Hid (SM.sum l = S) := ⟨_, rfl⟩
  rw [hS.out]
  go_enter Tryd.func17, Tryd.ntmps17
  go_wp2_with (with_reducible refine wpList_alloc (o := ⟨some 2, .alloc 24, _, _, _, _⟩) ?g1 24 ?o1 (aggB (SM.zeros 32)) zero32 ?z1 ?c1 ?_)
  try (case g1 => rfl)
  try (case o1 => rfl)
  try (case z1 => exact Tryd.zero24)
  try (case c1 => rfl)
  intro go w1 hgo hs1 hb1 hB1
  go_wp2_with (with_reducible refine wpList_alloc (o := ⟨some 3, .alloc 30, _, _, _, _⟩) ?g3 30 ?o3 (aggW (List.replicate 8 0)) zeroV ?z3 ?c3 ?_)
  try (case g3 => rfl)
  try (case o3 => rfl)
  try (case z3 => exact Tryd.zero30)
  try (case c3 => rfl)
  intro gs w2 hgs hs2 hb2 hB2
  have hlt0 : w.heap.size ≤ go := Nat.le_of_eq hgo.out.symm
  have hlt1 : go < gs := by have := hs1.out; have := hgs.out; omega
  have hsz2 : gs < w2.heap.size := by have := hs2.out; omega
  have hb : Below w.heap.size w w2 := (hb1.mono hlt0).trans (hb2.mono (by omega))
  have hBo := hB1.next hb2 hlt1
  clear hgo hgs hs1 hs2 hb1 hb2 hB1
  go_wp2_with (with_reducible refine wpList_put (o := ⟨none, .store 30 (.tmp 3) (.tmp 14), _, _, _, _⟩) ?g4 30 (.tmp 3) (.tmp 14) ?o4 gs 0 ?x4 (aggW SM.start.list) ?y4 hB2 (SM.start.list.map W32) ?v4 ?i4 ?l4 ?q4 ?_)
  try (case y4 => rfl)
  try (case x4 => rfl)
  try (case g4 => rfl)
  try (case o4 => rfl)
  try (case v4 => rfl)
  try (case i4 => exact Tryd.size30)
  try (case l4 => exact Nat.le_refl _)
  try (case q4 => exact W32_one _)
  intro w3 hu3 hB3
  rw [splice_all zeroV (SM.start.list.map W32) (by rfl)] at hB3
  have hBo3 := hBo.upd hu3 (by omega)
  have hbel3 := hb.trans (hu3.below (B := w.heap.size) (by omega))
  have hsz3 := hu3.size
  have hh3 := hh.next hbel3
  have hC3 := HC.next hbel3
  clear hB2 hBo hb hu3 hh
  go_wp2_with fail
  (with_reducible refine (padded_any ad cap l.length l _ rfl hl hh3).mono ?_)
  rintro e w4 ⟨v4, rfl, hown, hb4⟩
  obtain ⟨hpl, hp0⟩ := pad_len l
  obtain ⟨gm, mcap, rfl, hcm⟩ := own_some hown hp0
  have hgm : w3.heap.size ≤ gm := (hown.lt gm rfl).1
  have hgm4 : gm < w4.heap.size := (hown.lt gm rfl).2
  have hmc : (SM.pad l).length ≤ mcap := by
    obtain ⟨_, _, e', hle, _⟩ := holds_own hown
    cases e'; exact hle
  have hrow := rowAt_of hcm
  have hpm := pad_mod l
  have hsum : Unit → S = SM.out (SM.blocks ((SM.pad l).length / 64) SM.start (SM.pad l)) := fun _ => hS.out.symm
  obtain ⟨p, hp⟩ : ∃ p, Hid (SM.pad l = p) := ⟨_, rfl⟩
  rw [hp.out] at hsum hpm hrow hpl hp0 hmc ⊢
  have hBs4 := hB3.next hb4 hB3.lt
  have hK4 : RsKeep p w.heap.size gs go gm w w4 := ⟨hBo3.next hb4 hBo3.lt, hrow, hbel3.trans (hb4.mono hbel3.size)⟩
  clear hB3 hBo3 hbel3 hb4 hrow hcm hown hh3 hC3
  have hplb : p.length ≤ 100000072 := by omega
  have hgsm : gs < gm := by omega
  clear hgm hgm4 hsz3 hsz2 hS hp hl hpl
  have HCH := Lib.hid HC
  clear HC
  have HPM := Lib.hid hpm
  clear hpm
  go_wp2
  go_loopw [5] (RsRel p w.heap.size gs go gm w) (fun i _ => p.length - (intOf i).toNat)
  case atStart => exact ⟨0, 0, rfl, Nat.zero_le _, rfl, hBs4, hK4⟩
  case round =>
    clear hBs4 hK4
    obtain ⟨n, a, ha, hap, rfl, hBs, hK⟩ := hrel
    by_cases hlt : a < p.length
    · have ha64 : a + 64 ≤ p.length := by have := ha.out; have := HPM.out; omega
      have hblk := hK.row.block a ha64
      have hl64 : ((p.drop a).take 64).length = 64 := by rw [List.length_take, List.length_drop]; omega
      have hsn : Unit → SM.blocks (n + 1) SM.start p = SM.compress (SM.blocks n SM.start p) ((p.drop (64 * n)).take 64) := fun _ => SM.blocks_snoc n SM.start p
      rw [← ha.out] at hsn
      have HL64 := Lib.hid hl64
      have HBLK := Lib.hid hblk
      generalize SM.blocks n SM.start p = s at hBs hsn
      generalize (p.drop a).take 64 = blk at HBLK HL64 hsn
      clear hl64 hblk
      go_wp2_with fail
      (with_reducible refine (words_any gm a _ 64 blk _ HL64.out rfl HBLK.out).mono ?_)
      rintro e w5 ⟨rfl, hb5⟩
      have hwl := Lib.hid (SM.words_length blk)
      obtain ⟨ws, hws⟩ : ∃ ws, (Unit → SM.words blk = ws) := ⟨_, fun _ => rfl⟩
      rw [hws ()] at hwl ⊢
      have hwc : Hid ((ws.map W32).length = 64) := by
        have : (ws.map W32).length = 64 := by rw [List.length_map]; exact hwl.out
        exact this
      have hK5 := hK.next hb5 hp0 rfl
      have hBs5 := hBs.next hb5 hBs.lt
      have hsz5 := hK5.bel.size
      clear hK hBs hb5 HBLK
      go_wp2_with (first | (with_reducible refine wpList_alloc (o := ⟨some 6, .alloc 72, _, _, _, _⟩) ?g5 72 ?o5 (aggW (List.replicate 64 0)) zeroW ?z5 ?c5 ?_) | (with_reducible refine wpList_alloc (o := ⟨some 7, .alloc 30, _, _, _, _⟩) ?g6 30 ?o6 (aggW (List.replicate 8 0)) zeroV ?z6 ?c6 ?_))
      try (case g5 => rfl)
      try (case o5 => rfl)
      try (case z5 => exact Tryd.zero54)
      try (case c5 => rfl)
      intro gw w6 hgw hs6 hb6 hB6
      have hwlt : gs < gw := by have := hBs5.lt; have := hgw.out; omega
      have hmlt : gm < gw := by have := hK5.row.lt hp0; have := hgw.out; omega
      have hK6 : RsKeep p w.heap.size gs go gm w w6 := hK5.next (hb6.mono (Nat.le_of_eq hgw.out.symm)) hp0 rfl
      have hBs6 := hBs5.next hb6 hwlt
      have hgwB : w.heap.size ≤ gw := by omega
      clear hK5 hBs5 hb6 hgw hs6 hsz5
      go_wp2_with (with_reducible refine wpList_put (o := ⟨none, .store 72 (.tmp 6) (.tmp 28), _, _, _, _⟩) ?g7 72 (.tmp 6) (.tmp 28) ?o7 gw 0 ?x7 (aggW ws) ?y7 hB6 (ws.map W32) ?v7 ?i7 ?l7 ?q7 ?_)
      try (case y7 => rfl)
      try (case x7 => rfl)
      try (case g7 => rfl)
      try (case o7 => rfl)
      try (case v7 => rfl)
      try (case i7 => exact (by rw [hwc.out]; exact Tryd.size54))
      try (case l7 => (rw [hwc.out]; exact Nat.le_refl _))
      try (case q7 => exact W32_one _)
      intro w7 hu7 hB7
      rw [splice_all _ _ (by rw [hwc.out]; rfl)] at hB7
      have hK7 := hK6.upd hu7 (by omega) (by omega) hgwB
      have hBs7 := hBs6.upd hu7 (by omega)
      clear hK6 hBs6 hB6 hu7
      go_wp2_with (first | (with_reducible refine wpList_get (o := ⟨some 29, .load 30 (.tmp 3), _, _, _, _⟩) ?g8 30 (.tmp 3) ?o8 gs 0 ?x8 hBs7 (s.list.map W32) ?c8 (.array 8 29) ?u8 ?d8 ?i8 ?_) | (with_reducible refine wpList_alloc (o := ⟨some 7, .alloc 30, _, _, _, _⟩) ?g9 30 ?o9 (aggW (List.replicate 8 0)) zeroV ?z9 ?c9 ?_))
      try (case x8 => rfl)
      try (case g8 => rfl)
      try (case o8 => rfl)
      try (case c8 => (exact cs_all _))
      try (case u8 => exact Tryd.underlying30)
      try (case d8 => first | rfl | assumption)
      try (case i8 => exact Tryd.size30)
      try (case g9 => rfl)
      try (case o9 => rfl)
      try (case z9 => exact Tryd.zero30)
      try (case c9 => rfl)
      intro gv w8 hgv hs8 hb8 hB8
      have hvlt : gw < gv := by have := hB7.lt; have := hgv.out; omega
      have hvw : gv = w7.heap.size := hgv.out
      have hK8 : RsKeep p w.heap.size gs go gm w w8 := hK7.next (hb8.mono (Nat.le_of_eq hgv.out.symm)) hp0 rfl
      have hBs8 := hBs7.next hb8 (by omega)
      have hBw8 := hB7.next hb8 hvlt
      clear hK7 hBs7 hB7 hb8 hgv hs8 hvw
      go_wp2_with (with_reducible refine wpList_put (o := ⟨none, .store 30 (.tmp 7) (.tmp 29), _, _, _, _⟩) ?g10 30 (.tmp 7) (.tmp 29) ?o10 gv 0 ?x10 (aggW s.list) ?y10 hB8 (s.list.map W32) ?v10 ?i10 ?l10 ?q10 ?_)
      try (case y10 => rfl)
      try (case x10 => rfl)
      try (case g10 => rfl)
      try (case o10 => rfl)
      try (case v10 => rfl)
      try (case i10 => exact Tryd.size30)
      try (case l10 => exact Nat.le_refl _)
      try (case q10 => exact W32_one _)
      intro w9 hu9 hB9
      rw [splice_all zeroV (s.list.map W32) (by rfl)] at hB9
      have hK9 := hK8.upd hu9 (by omega) (by omega) (by omega)
      have hBs9 := hBs8.upd hu9 (by omega)
      have hBw9 := hBw8.upd hu9 (by omega)
      clear hK8 hBs8 hBw8 hB8 hu9
      go_wp2
      go_loopw [8] (RoRel p s ws w.heap.size gs go gm gw gv w) (fun i _ => 64 - (intOf i).toNat)
      case atStart => exact ⟨0, by omega, rfl, hB9, hBw9, hBs9, hK9⟩
      case round =>
        clear hB9 hBw9 hBs9 hK9
        obtain ⟨t, ht, rfl, hBv, hBw, hBs, hK⟩ := hrel
        by_cases ht64 : t < 64
        · have hC := Lib.hid ((HCH.out.next hK.bel) t ht64)
          have hKc := hC.out
          have hwt := hBw.cell (k := t) (v := W32 (ws.getD t 0)) (by rw [List.getElem?_map, List.getD_eq_getElem?_getD, List.getElem?_eq_getElem (by have := hwl.out; omega)]; rfl)
          have HST : Unit → SM.rounds ws s (t + 1) = SM.step (SM.rounds ws s t) (SM.K.getD t 0) (ws.getD t 0) := fun _ => rfl
          generalize SM.K.getD t 0 = kk at hKc HST
          generalize ws.getD t 0 = ww at hwt HST
          generalize SM.rounds ws s t = v at HST hBv
          unfold W32 at hKc hwt
          have c0 := hBv.cell (k := 0) (v := .int .u32 (v.a.toNat : Int)) rfl
          have c1 := hBv.cell (k := 1) (v := .int .u32 (v.b.toNat : Int)) rfl
          have c2 := hBv.cell (k := 2) (v := .int .u32 (v.c.toNat : Int)) rfl
          have c3 := hBv.cell (k := 3) (v := .int .u32 (v.d.toNat : Int)) rfl
          have c4 := hBv.cell (k := 4) (v := .int .u32 (v.e.toNat : Int)) rfl
          have c5 := hBv.cell (k := 5) (v := .int .u32 (v.f.toNat : Int)) rfl
          have c6 := hBv.cell (k := 6) (v := .int .u32 (v.g.toNat : Int)) rfl
          have c7 := hBv.cell (k := 7) (v := .int .u32 (v.h.toNat : Int)) rfl
          have HCS := Lib.hid (And.intro c0 (And.intro c1 (And.intro c2 c3)))
          have HB := Lib.hid (And.intro hBv (And.intro hBw (And.intro hBs hK)))
          have HW := Lib.hid (And.intro hlt0 (And.intro hlt1 (And.intro hgsm (And.intro hwlt (And.intro hmlt (And.intro hvlt hgwB))))))
          clear hC c0 c1 c2 c3 hBv hBw hBs hK hlt0 hlt1 hgsm hwlt hmlt hvlt hgwB ha64 hap hlt hplb hmc hp0 ht
          go_wp2
          go_quiet ((go_at_call 49; exact Calls.quiet_of (rrotr_raw _ _ _ _ rfl rfl)))
          rw [S1_raw, ch_raw2, sum5b]
          obtain ⟨c0, c1, c2, c3⟩ := HCS.out
          obtain ⟨hBv, hBw, hBs, hK⟩ := HB.out
          have c0' := cell_drewN c0 nq
          have c1' := cell_drewN c1 nq
          have c2' := cell_drewN c2 nq
          have c3' := cell_drewN c3 nq
          have c4' := cell_drewN c4 nq
          have c5' := cell_drewN c5 nq
          have c6' := cell_drewN c6 nq
          have hBv' := hBv.drewN nq
          have hBw' := hBw.drewN nq
          have hBs' := hBs.drewN nq
          have hK' := hK.drewN nq
          clear c0 c1 c2 c3 c4 c5 c6 c7 hBv hBw hBs hK HCS HB hKc hwt
          generalize wr.drewN nq = wq at c0' c1' c2' c3' c4' c5' c6' hBv' hBw' hBs' hK' ⊢
          have HST2 : Unit → (SM.rounds ws s (t + 1)).list = [(v.h + SM.S1 v.e + SM.ch v.e v.f v.g + kk + ww) + SM.ty v, v.a, v.b, v.c, v.d + (v.h + SM.S1 v.e + SM.ch v.e v.f v.g + kk + ww), v.e, v.f, v.g] := fun _ => by rw [HST ()]; rfl
          generalize v.h + SM.S1 v.e + SM.ch v.e v.f v.g + kk + ww = X at HST2 ⊢
          have HB := Lib.hid (And.intro hBv' (And.intro hBw' (And.intro hBs' hK')))
          have HCS := Lib.hid (And.intro c3' (And.intro c4' (And.intro c5' c6')))
          clear hBv' hBw' hBs' hK' c3' c4' c5' c6' HST
          go_wp2
          go_quiet ((go_at_call 49; exact Calls.quiet_of (rrotr_raw _ _ _ _ rfl rfl)))
          rw [S0_raw, maj_raw, sum2]
          obtain ⟨c3, c4, c5, c6⟩ := HCS.out
          obtain ⟨hBv, hBw, hBs, hK⟩ := HB.out
          have d0 := cell_drewN c0' nq
          have d1 := cell_drewN c1' nq
          have d2 := cell_drewN c2' nq
          have d3 := cell_drewN c3 nq
          have d4 := cell_drewN c4 nq
          have d5 := cell_drewN c5 nq
          have d6 := cell_drewN c6 nq
          have hBv' := hBv.drewN nq
          have hBw' := hBw.drewN nq
          have hBs' := hBs.drewN nq
          have hK' := hK.drewN nq
          clear c0' c1' c2' c3 c4 c5 c6 hBv hBw hBs hK HCS HB
          generalize wq.drewN nq = wz at d0 d1 d2 d3 d4 d5 d6 hBv' hBw' hBs' hK' ⊢
          have HST : Unit → (SM.rounds ws s (t + 1)).list = [X + (SM.S0 v.a + SM.maj v.a v.b v.c), v.a, v.b, v.c, v.d + X, v.e, v.f, v.g] := fun _ => HST2 ()
          clear HST2
          generalize SM.S0 v.a + SM.maj v.a v.b v.c = Y at HST ⊢
          go_wp2_with (with_reducible refine wpList_put (o := ⟨none, .store 30 (.tmp 7) (.tmp 117), _, _, _, _⟩) ?g11 30 (.tmp 7) (.tmp 117) ?o11 gv 0 ?x11 (aggW [X + Y, v.a, v.b, v.c, v.d + X, v.e, v.f, v.g]) ?y11 hBv' ([X + Y, v.a, v.b, v.c, v.d + X, v.e, v.f, v.g].map W32) ?v11 ?i11 ?l11 ?q11 ?_)
          try (case y11 => (show Value.agg #[Value.int .u32 (((X.toNat : Int) + (Y.toNat : Int)) % 4294967296), Value.int .u32 (v.a.toNat : Int), Value.int .u32 (v.b.toNat : Int), Value.int .u32 (v.c.toNat : Int), Value.int .u32 (((v.d.toNat : Int) + (X.toNat : Int)) % 4294967296), Value.int .u32 (v.e.toNat : Int), Value.int .u32 (v.f.toNat : Int), Value.int .u32 (v.g.toNat : Int)] = _; rw [sum2, sum2]; rfl))
          try (case x11 => rfl)
          try (case g11 => rfl)
          try (case o11 => rfl)
          try (case v11 => rfl)
          try (case i11 => exact Tryd.size30)
          try (case l11 => exact Nat.le_refl _)
          try (case q11 => exact W32_one _)
          intro w10 hu10 hB10
          have hB10' : Blk w10 gv 30 ((SM.rounds ws s (t + 1)).list.map W32) := by rw [HST ()]; exact hB10.eq (splice_all (v.list.map W32) _ (by rfl))
          obtain ⟨hlt0, hlt1, hgsm, hwlt, hmlt, hvlt, hgwB⟩ := HW.out
          have hBw10 := hBw'.upd hu10 (by omega)
          have hBs10 := hBs'.upd hu10 (by omega)
          have hK10 := hK'.upd hu10 (by omega) (by omega) (by omega)
          have HR : Hid (RoRel p s ws w.heap.size gs go gm gw gv w (.int .i64 ((t : Int) + 1)) w10) := ⟨t + 1, by omega, by go_num, hB10', hBw10, hBs10, hK10⟩
          clear d0 d1 d2 d3 d4 d5 d6 hBv' hBw' hBs' hK' hu10 hB10 hB10' hBw10 hBs10 hK10 hlt0 hlt1 hgsm hwlt hmlt hvlt hgwB HST
          go_wp2
          go_roundw
          case rel => exact HR.out
          case measure => simp [intOf]; omega
        · have hcomp : Unit → SM.compress s blk = SM.addV s (SM.rounds ws s t) := fun _ => by
            rw [show t = 64 by omega, ← hws ()]; rfl
          generalize SM.rounds ws s t = v at hBv hcomp
          go_wp2
          clear hBw
          go_loopw [11] (RaRel p s v w.heap.size gs go gm gv w) (fun i _ => 8 - (intOf i).toNat)
          case atStart => exact ⟨0, by omega, rfl, hBs, hBv, hK⟩
          case round =>
            clear hBs hBv hK
            obtain ⟨k, hk, rfl, hBs, hBv, hK⟩ := hrel
            by_cases hk8 : k < 8
            · have h1 := hBs.cell (k := k) (mix_at s v k hk8)
              have h2 := hBv.cell (k := k) (list_at v k hk8)
              have hm := Lib.hid (mix_snoc s v k hk8)
              unfold W32 at h1 h2
              generalize s.list.getD k 0 = x at h1 hm
              generalize v.list.getD k 0 = y at h2 hm
              go_upto_region 17 with fail
              go_still_tail 9, (by kernel_rfl)
              have hBs' : Blk { wr with drawn := wr.drawn + 1 } gs 30 ((mix s v k).map W32) := hBs
              have hBv' : Blk { wr with drawn := wr.drawn + 1 } gv 30 (v.list.map W32) := hBv
              have hK' : RsKeep p w.heap.size gs go gm w { wr with drawn := wr.drawn + 1 } := hK.drewN 1
              clear h1 h2 hBs hBv hK
              go_wp2_with (with_reducible refine wpList_put (o := ⟨none, .store 29 (.tmp 130) (.tmp 129), _, _, _, _⟩) ?g12 29 (.tmp 130) (.tmp 129) ?o12 gs k ?x12 (W32 (x + y)) ?y12 hBs' [W32 (x + y)] ?v12 ?i12 ?l12 ?q12 ?_)
              try (case y12 => exact (add1 x y))
              try (case x12 => rfl)
              try (case g12 => rfl)
              try (case o12 => rfl)
              try (case v12 => rfl)
              try (case i12 => exact Tryd.size29)
              try (case l12 => (rw [mix_length]; simp; omega))
              try (case q12 => exact one_cell1 rfl)
              intro w11 hu11 hB11
              rw [hm.out] at hB11
              have hBv11 := hBv'.upd hu11 (by omega)
              have hK11 := hK'.upd hu11 (by omega) (by omega) (by omega)
              clear hBs' hBv' hK' hu11 hm
              go_wp2
              go_roundw
              case rel => exact ⟨k + 1, by omega, by go_num, hB11, hBv11, hK11⟩
              case measure => simp [intOf]; omega
            · obtain rfl : k = 8 := by omega
              rw [mix_all, ← hcomp (), ← hsn ()] at hBs
              clear hBv
              go_wp2
              go_roundw
              case rel => exact ⟨n + 1, a + 64, (by have := ha.out; omega : a + 64 = 64 * (n + 1)), ha64, by go_num, hBs, hK⟩
              case measure => simp [intOf]; omega
    · have hae : n = p.length / 64 := by have := ha.out; have := HPM.out; omega
      have hS2 : Unit → S = SM.out (SM.blocks n SM.start p) := fun _ => by rw [hae]; exact hsum ()
      generalize SM.blocks n SM.start p = s at hBs hS2
      clear hae
      have hO := hK.o
      have hbel := hK.bel
      clear hK
      go_wp2_with (with_reducible refine wpList_alloc (o := ⟨some 12, .alloc 24, _, _, _, _⟩) ?g13 24 ?o13 (aggB (SM.zeros 32)) zero32 ?z13 ?c13 ?_)
      try (case g13 => rfl)
      try (case o13 => rfl)
      try (case z13 => exact Tryd.zero24)
      try (case c13 => rfl)
      intro gb w12 hgb hs12 hb12 hB12
      have hO12 := hO.next hb12 (by have := hO.lt; have := hgb.out; omega)
      have hBs12 := hBs.next hb12 (by have := hBs.lt; have := hgb.out; omega)
      have hbel12 : Below w.heap.size w w12 := hbel.trans (hb12.mono (by have := hbel.size; have := hgb.out; omega))
      have hgbs : gs < gb := by have := hBs.lt; have := hgb.out; omega
      have hSl : S.length = 32 := by rw [hS2 ()]; rfl
      have hB12' : Blk w12 gb 24 (obRow S 0) := by unfold obRow; rw [hSl]; exact hB12
      clear hO hBs hbel hb12 hgb hs12 hB12
      go_wp2
      go_loopw [13] (RbRel S s w.heap.size gs go gb w) (fun i _ => 32 - (intOf i).toNat)
      case atStart => exact ⟨0, by omega, rfl, hB12', hBs12, hO12, hbel12⟩
      case round =>
        clear hB12' hBs12 hO12 hbel12
        obtain ⟨k, hk, rfl, hB, hBs, hO, hbel⟩ := hrel
        by_cases hk32 : k < 32
        · have hob : Unit → B8 (S.getD k 0) = .int .u8 (((s.list.getD (k / 4) 0).toNat : Int) / 2 ^ (24 - 8 * (k % 4)) % 256) := fun _ => by rw [hS2 ()]; exact out_at s k hk32
          have h1 := hBs.cell (k := k / 4) (list_at s (k / 4) (by omega))
          have hsc := obRow_snoc S k (by omega)
          generalize S.getD k 0 = bb at hob hsc
          have HSC := Lib.hid hsc
          clear hsc
          unfold W32 at h1
          generalize s.list.getD (k / 4) 0 = x at h1 hob
          go_wp2_with (with_reducible refine wpList_put (o := ⟨none, .store 5 (.tmp 146) (.tmp 145), _, _, _, _⟩) ?g14 5 (.tmp 146) (.tmp 145) ?o14 gb k ?x14 (B8 bb) ?y14 hB [B8 bb] ?v14 ?i14 ?l14 ?q14 ?_)
          try (case y14 => exact (hob ()).symm)
          try (case x14 => rfl)
          try (case g14 => rfl)
          try (case o14 => rfl)
          try (case v14 => rfl)
          try (case i14 => exact Tryd.size5)
          try (case l14 => (rw [obRow_length S k (by omega)]; simp; omega))
          try (case q14 => exact one_cell1 rfl)
          intro w14 hu14 hB14
          have hB14' : Blk w14 gb 24 (obRow S (k + 1)) := by rw [← HSC.out]; exact hB14
          have hBs14 := hBs.upd hu14 (by omega)
          have hO14 := hO.upd hu14 (by omega)
          have hbel14 := hbel.trans (hu14.below (B := w.heap.size) (by omega))
          clear hB hBs hO hbel hu14 hB14 h1 hob HSC
          go_wp2
          go_roundw
          case rel => exact ⟨k + 1, by omega, by go_num, hB14', hBs14, hO14, hbel14⟩
          case measure => simp [intOf]; omega
        · obtain rfl : k = 32 := by omega
          have hob : Unit → obRow S 32 = S.map B8 := fun _ => by have := obRow_all S; rw [hSl] at this; exact this
          rw [hob ()] at hB
          have hSc : (S.map B8).length = 32 := by rw [List.length_map]; exact hSl
          clear hob
          go_wp2_with (first | (with_reducible refine wpList_get (o := ⟨some 147, .load 24 (.tmp 12), _, _, _, _⟩) ?g15 24 (.tmp 12) ?o15 gb 0 ?x15 hB (S.map B8) ?c15 (.array 32 5) ?u15 ?d15 ?i15 ?_) | (with_reducible refine wpList_put (o := ⟨none, .store 24 (.tmp 2) (.tmp 147), _, _, _, _⟩) ?g16 24 (.tmp 2) (.tmp 147) ?o16 go 0 ?x16 (.agg (S.map B8).toArray) ?y16 hO (S.map B8) ?v16 ?i16 ?l16 ?q16 ?_))
          try (case x15 => rfl)
          try (case g15 => rfl)
          try (case o15 => rfl)
          try (case c15 => (exact cs_all _))
          try (case u15 => exact Tryd.underlying24)
          try (case d15 => first | rfl | assumption)
          try (case i15 => (rw [hSc]; exact Tryd.size24))
          try (case y16 => rfl)
          try (case x16 => rfl)
          try (case g16 => rfl)
          try (case o16 => rfl)
          try (case v16 => rfl)
          try (case i16 => exact (by rw [hSc]; exact Tryd.size24))
          try (case l16 => (rw [hSc]; exact Nat.le_refl _))
          try (case q16 => exact B8_one _)
          intro w13 hu13 hB13
          rw [splice_all _ _ (by rw [hSc]; rfl)] at hB13
          go_wp2
          refine bodyPost_ret (results_cell_row rfl _ _ go _ _ _ _ rfl hB13 Tryd.underlying24 rfl (by rw [List.size_toArray, hSc]; exact Tryd.size24)) rfl ⟨rfl, hbel.trans (hu13.below (by omega))⟩
end Go.Proofs.YtnhnfdfjlagcjaaDoor
