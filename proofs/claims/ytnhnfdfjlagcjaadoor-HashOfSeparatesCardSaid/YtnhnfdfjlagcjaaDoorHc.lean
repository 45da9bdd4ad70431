/-
  Contracts of the walks over chapter 2's hash.compress. Conditions: the table of the round constants reads as the document has it.
-/
import Derived.Test.YtnhnfdfjlagcjaaDoorHs
namespace Go.Proofs.YtnhnfdfjlagcjaaDoor
open Go.RowKit

/-- The tables of the program: the first hash value, the round constants. -/
structure Lay (w : World) : Prop where
  start : ∀ k, k < 8 → w.cell? ⟨1, k, none⟩ = some (W32 (SM.start.list.getD k 0))
  K : ∀ k, k < 64 → w.cell? ⟨2, k, none⟩ = some (W32 (SM.K.getD k 0))
theorem Lay.next {w w' : World} (h : Lay w) (hb : Below w.heap.size w w') : Lay w' :=
  ⟨fun k hk => by rw [hb.cell (World.block_lt_of_cell? w _ (h.start k hk))]; exact h.start k hk, fun k hk => by rw [hb.cell (World.block_lt_of_cell? w _ (h.K k hk))]; exact h.K k hk⟩
theorem Lay.low {w : World} (h : Lay w) : 2 < w.heap.size := World.block_lt_of_cell? w _ (h.K 0 (by decide))

theorem w_not' (a : UInt32) : bits .xor .u32 4294967295 (a.toNat : Int) = ((~~~ a).toNat : Int) := w_not a
def zeroV : List Value := (List.replicate 8 0).map W32
theorem Tryd.zero30 : (Tryd.prog.info? 30).map (·.zero) = some (some (aggW (List.replicate 8 0))) := by kernel_rfl
theorem Tryd.size30 : (Tryd.prog.info? 30).map (·.size) = some 8 := by kernel_rfl

/-- The rounds. -/
def CoRel (v : SM.V) (ws : List UInt32) (B gv gr : Nat) (w : World) (a b c d e f g h i : Value) (wr : World) : Prop :=
  ∃ n : Nat, n ≤ 64 ∧ i = .int .i64 n ∧ a = .int .u32 ((SM.rounds ws v n).a.toNat : Int) ∧ b = .int .u32 ((SM.rounds ws v n).b.toNat : Int) ∧ c = .int .u32 ((SM.rounds ws v n).c.toNat : Int) ∧ d = .int .u32 ((SM.rounds ws v n).d.toNat : Int) ∧ e = .int .u32 ((SM.rounds ws v n).e.toNat : Int) ∧ f = .int .u32 ((SM.rounds ws v n).f.toNat : Int) ∧ g = .int .u32 ((SM.rounds ws v n).g.toNat : Int) ∧ h = .int .u32 ((SM.rounds ws v n).h.toNat : Int) ∧
    Blk wr gv 30 (v.list.map W32) ∧ Blk wr gr 30 zeroV ∧ Below B w wr

theorem Tryd.size31 : (Tryd.prog.info? 31).map (·.size) = some 64 := by kernel_rfl
theorem Tryd.under29 : ∃ d, Tryd.prog.underlying 29 = some d ∧ d.isRow = false := ⟨_, Tryd.underlying29, rfl⟩
theorem idx_words (ws : List UInt32) (hl : Hid (ws.length = 64)) : ∀ n : Nat, n < 64 → ∀ w : World, (Instr.index 72 (.agg (ws.map W32).toArray) (.int .i64 (n : Int))).run Tryd.prog w = .ok (.int .u32 ((ws.getD n 0).toNat : Int)) w := fun n hn w => by
  obtain ⟨d, h1, h2⟩ := Tryd.under29
  have h := hl.out
  refine run_index_row w 72 29 64 n (ws.map W32) _ d Tryd.underlying72 Tryd.size29 h1 h2 hn ?_
  rw [List.getElem?_map, List.getD_eq_getElem?_getD, List.getElem?_eq_getElem (by omega)]
  rfl

theorem S1_raw (e : UInt32) : bits .xor .u32 (bits .xor .u32 ((SM.rot e 6).toNat : Int) ((SM.rot e 11).toNat : Int)) ((SM.rot e 25).toNat : Int) = ((SM.S1 e).toNat : Int) := by rw [w_xor, w_xor]; rfl
theorem S0_raw (e : UInt32) : bits .xor .u32 (bits .xor .u32 ((SM.rot e 2).toNat : Int) ((SM.rot e 13).toNat : Int)) ((SM.rot e 22).toNat : Int) = ((SM.S0 e).toNat : Int) := by rw [w_xor, w_xor]; rfl
theorem ch_raw (e f g : UInt32) : bits .xor .u32 (bits .and .u32 (e.toNat : Int) (f.toNat : Int)) (bits .and .u32 (bits .xor .u32 (if IntKind.u32.signed = true then -1 else IntKind.u32.max) (e.toNat : Int)) (g.toNat : Int)) = ((SM.ch e f g).toNat : Int) := by
  rw [show (if IntKind.u32.signed = true then (-1 : Int) else IntKind.u32.max) = IntKind.u32.max from rfl, w_not, w_and, w_and, w_xor]; rfl
theorem maj_raw (a b c : UInt32) : bits .xor .u32 (bits .xor .u32 (bits .and .u32 (a.toNat : Int) (b.toNat : Int)) (bits .and .u32 (a.toNat : Int) (c.toNat : Int))) (bits .and .u32 (b.toNat : Int) (c.toNat : Int)) = ((SM.maj a b c).toNat : Int) := by
  rw [w_and, w_and, w_and, w_xor, w_xor]; rfl
theorem sum2 (a b : UInt32) : ((a.toNat : Int) + (b.toNat : Int)) % 4294967296 = ((a + b).toNat : Int) := by rw [UInt32.toNat_add]; omega
theorem sum5 (a b c d e : UInt32) : ((a.toNat : Int) + (b.toNat : Int) + (c.toNat : Int) + (d.toNat : Int) + (e.toNat : Int)) % 4294967296 = ((a + b + c + d + e).toNat : Int) := by
  rw [UInt32.toNat_add, UInt32.toNat_add, UInt32.toNat_add, UInt32.toNat_add]; omega
/-- The first k words with their sums. -/
def mix (v s : SM.V) (k : Nat) : List UInt32 := (List.zipWith (· + ·) v.list s.list).take k ++ v.list.drop k
theorem mix_at (v s : SM.V) (k : Nat) (h : k < 8) : ((mix v s k).map W32)[k]? = some (W32 (v.list.getD k 0)) := by
  match k, h with
  | 0, _ | 1, _ | 2, _ | 3, _ | 4, _ | 5, _ | 6, _ | 7, _ => rfl
theorem mix_snoc (v s : SM.V) (k : Nat) (h : k < 8) : splice ((mix v s k).map W32) k [W32 (v.list.getD k 0 + s.list.getD k 0)] = (mix v s (k + 1)).map W32 := by
  match k, h with
  | 0, _ | 1, _ | 2, _ | 3, _ | 4, _ | 5, _ | 6, _ | 7, _ => rfl
theorem list_at (s : SM.V) (k : Nat) (h : k < 8) : (s.list.map W32)[k]? = some (W32 (s.list.getD k 0)) := by
  match k, h with
  | 0, _ | 1, _ | 2, _ | 3, _ | 4, _ | 5, _ | 6, _ | 7, _ => rfl
theorem mix_length (v s : SM.V) (k : Nat) : ((mix v s k).map W32).length = 8 := by
  unfold mix SM.V.list; simp; omega
theorem mix_all (v s : SM.V) : mix v s 8 = (SM.addV v s).list := rfl
theorem add1 (a b : UInt32) : Value.int .u32 (IntKind.u32.wrap ((a.toNat : Int) + (b.toNat : Int))) = W32 (a + b) := by rw [w_add]; rfl
def AdRel (v s : SM.V) (B gv gr : Nat) (w : World) (i : Value) (wr : World) : Prop :=
  ∃ k : Nat, k ≤ 8 ∧ i = .int .i64 k ∧ Blk wr gv 30 ((mix v s k).map W32) ∧ Blk wr gr 30 zeroV ∧ Below B w wr

set_option maxRecDepth 100000 in
set_option maxHeartbeats 1600000 in
theorem compress_any (v : SM.V) (l : List UInt8) (w : World) (hl : l.length = 64) (HY : Lay w) :
    Calls Tryd.prog 75 #[aggW v.list, aggB l] w fun e w' => e = .returned (aggW (SM.compress v l).list) ∧ Below w.heap.size w w' := by
  unfold aggB
  have HL := Lib.hid hl
  clear hl
  go_enter Tryd.func75, Tryd.ntmps75
  go_wp2_with (with_reducible refine wpList_box (o := ⟨some 2, .box 30 (.tmp 0), _, _, _, _⟩) ?g1 30 (.tmp 0) ?o1 (aggW v.list) (v.list.map W32) ?x1 ?c1 ?_)
  try (case g1 => rfl)
  try (case o1 => rfl)
  try (case x1 => rfl)
  try (case c1 => rfl)
  intro gv w1 hgv hs1 hb1 hB1
  go_wp2_with (with_reducible refine wpList_box (o := ⟨some 3, .box 31 (.tmp 1), _, _, _, _⟩) ?g2 31 (.tmp 1) ?o2 (.agg (l.map B8).toArray) (l.map B8) ?x2 ?c2 ?_)
  try (case g2 => rfl)
  try (case o2 => rfl)
  try (case x2 => rfl)
  try (case c2 => rfl)
  intro gb w2 hgb hs2 hb2 hB2
  go_wp2_with (with_reducible refine wpList_alloc (o := ⟨some 4, .alloc 30, _, _, _, _⟩) ?g3 30 ?o3 (aggW (List.replicate 8 0)) zeroV ?z3 ?c3 ?_)
  try (case g3 => rfl)
  try (case o3 => rfl)
  try (case z3 => exact Tryd.zero30)
  try (case c3 => rfl)
  intro gr w3 hgr hs3 hb3 hB3
  have hlt0 : w.heap.size ≤ gv := Nat.le_of_eq hgv.out.symm
  have hlt1 : gv < gb := by have := hs1.out; have := hgb.out; omega
  have hlt2 : gb < gr := by have := hs2.out; have := hgr.out; omega
  have hsz3 : gr < w3.heap.size := by have := hs3.out; omega
  have hb : Below w.heap.size w w3 := (hb1.mono hlt0).trans ((hb2.mono (by omega)).trans (hb3.mono (by omega)))
  have hB1' := (hB1.next hb2 hlt1).next hb3 (by omega)
  have hB2' := hB2.next hb3 hlt2
  clear hgb hgr hgv hs1 hs2 hs3 hb1 hb2 hb3 hB1 hB2
  have c0 := hB1'.cell (k := 0) (v := W32 v.a) rfl
  have c1 := hB1'.cell (k := 1) (v := W32 v.b) rfl
  have c2 := hB1'.cell (k := 2) (v := W32 v.c) rfl
  have c3 := hB1'.cell (k := 3) (v := W32 v.d) rfl
  have c4 := hB1'.cell (k := 4) (v := W32 v.e) rfl
  have c5 := hB1'.cell (k := 5) (v := W32 v.f) rfl
  have c6 := hB1'.cell (k := 6) (v := W32 v.g) rfl
  have c7 := hB1'.cell (k := 7) (v := W32 v.h) rfl
  go_wp2
  go_quiet (fail)
  have c4' := cell_drewN c4 nq
  have c5' := cell_drewN c5 nq
  have c6' := cell_drewN c6 nq
  have c7' := cell_drewN c7 nq
  have hBv := hB1'.drewN nq
  have hBb := hB2'.drewN nq
  have hBr := hB3.drewN nq
  have hbel := hb.drewN nq
  clear c0 c1 c2 c3 c4 c5 c6 c7 hB1' hB2' hB3 hb
  generalize w3.drewN nq = wq at c4' c5' c6' c7' hBv hBb hBr hbel ⊢
  go_wp2
  go_quiet (fail)
  have hBv' := hBv.drewN nq
  have hBb' := hBb.drewN nq
  have hBr' := hBr.drewN nq
  have hbel' := hbel.drewN nq
  clear c4' c5' c6' c7' hBv hBb hBr hbel
  generalize wq.drewN nq = wz at hBv' hBb' hBr' hbel' ⊢
  unfold W32
  go_wp2_with (with_reducible refine wpList_get (o := ⟨some 35, .load 31 (.tmp 3), _, _, _, _⟩) ?g4 31 (.tmp 3) ?o4 gb 0 ?x4 hBb' (l.map B8) ?c4 (.array 64 5) ?u4 ?d4 ?i4 ?_)
  try (case x4 => rfl)
  try (case g4 => rfl)
  try (case o4 => rfl)
  try (case c4 => (exact cs_all _))
  try (case u4 => exact Tryd.underlying31)
  try (case d4 => first | rfl | assumption)
  try (case i4 => (rw [List.length_map, HL.out]; exact Tryd.size31))
  go_wp2_with fail
  (with_reducible refine (schedule_raw l _ HL.out).mono ?_)
  rintro e w5 ⟨rfl, hb5⟩
  have hBv := hBv'.next hb5 (by have := hBr'.lt; omega)
  have hBr := hBr'.next hb5 hBr'.lt
  have hbel := hbel'.trans (hb5.mono (by have := hbel'.size; omega))
  clear hBv' hBr' hbel' hBb' hb5
  have hwl := Lib.hid (SM.words_length l)
  obtain ⟨ws, hws⟩ : ∃ ws, Hid (ws = SM.words l) := ⟨_, rfl⟩
  rw [← hws.out] at hwl ⊢
  have hidx := idx_words ws hwl
  go_wp2
  go_loopw [5, 6, 7, 8, 9, 10, 11, 12, 37] (CoRel v ws w.heap.size gv gr w) (fun _ _ _ _ _ _ _ _ i _ => 64 - (intOf i).toNat)
  case atStart => exact ⟨0, by omega, rfl, rfl, rfl, rfl, rfl, rfl, rfl, rfl, rfl, hBv, hBr, hbel⟩
  case round =>
    obtain ⟨n, hn, rfl, rfl, rfl, rfl, rfl, rfl, rfl, rfl, rfl, hBv, hBr, hbel⟩ := hrel
    have HYr := HY.next hbel
    by_cases hlt : n < 64
    · have hK := HYr.K n hlt
      have HST : Hid (SM.rounds ws v (n + 1) = SM.step (SM.rounds ws v n) (SM.K.getD n 0) (ws.getD n 0)) := rfl
      have hin := hidx n hlt
      unfold W32 at hK
      generalize SM.K.getD n 0 = kk at hK HST
      generalize ws.getD n 0 = ww at hin HST
      generalize SM.rounds ws v n = s at HST ⊢
      clear hidx HYr
      go_wp2
      go_quiet ((go_at_call 89; exact Calls.quiet_of_same (rotr_raw _ _ _ _ rfl rfl)))
      have hBv' := hBv.drewN nq
      have hBr' := hBr.drewN nq
      have hbel' := hbel.drewN nq
      clear hBv hBr hbel hK
      generalize wr.drewN nq = wq at hBv' hBr' hbel' ⊢
      go_wp2_with (go_at_call 89; refine (rotr_raw _ _ _ _ rfl rfl).mono ?_; rintro e w' ⟨rfl, rfl⟩)
      go_roundw
      case rel => exact ⟨n + 1, by omega, by go_num, by rw [HST.out, S1_raw, ch_raw, S0_raw, maj_raw, sum5, sum2, sum2]; rfl, by rw [HST.out]; rfl, by rw [HST.out]; rfl, by rw [HST.out]; rfl, by rw [HST.out, S1_raw, ch_raw, sum5, sum2]; rfl, by rw [HST.out]; rfl, by rw [HST.out]; rfl, by rw [HST.out]; rfl, hBv', hBr', hbel'⟩
      case measure => simp [intOf]; omega
    · have hn64 : n = 64 := by omega
      have HS : Hid (SM.compress v l = SM.addV v (SM.rounds ws v n)) := by
        have : SM.compress v l = SM.addV v (SM.rounds ws v n) := by rw [hn64, hws.out]; rfl
        exact Lib.hid this
      clear hn64 hidx HYr
      generalize SM.rounds ws v n = s at HS ⊢
      go_wp2
      go_loopw [108] (AdRel v s w.heap.size gv gr w) (fun i _ => 8 - (intOf i).toNat)
      case atStart => exact ⟨0, by omega, rfl, hBv, hBr, hbel⟩
      case round =>
        obtain ⟨k, hk, rfl, hBv, hBr, hbel⟩ := hrel
        by_cases hk8 : k < 8
        · have hc := hBv.cell (k := k) (mix_at v s k hk8)
          have hm := Lib.hid (mix_snoc v s k hk8)
          obtain ⟨dd, hd1, hd2⟩ := Tryd.under29
          have HD := Lib.hid hd1
          clear hd1
          have hl8 := Lib.hid (list_at s k hk8)
          unfold W32 at hc
          generalize hu : v.list.getD k 0 = u at hc hm
          generalize hx : s.list.getD k 0 = x at hl8 hm
          have hu' := Lib.hid hu
          have hx' := Lib.hid hx
          clear hu hx
          go_wp2_with (first | (with_reducible refine wpList_idx (o := ⟨some 111, .index 30 (.tmp 107) (.tmp 108), _, _, _, _⟩) ?g5 30 (.tmp 107) (.tmp 108) ?o5 29 8 k (s.list.map W32) (.int .u32 (x.toNat : Int)) dd ?x5 ?y5 ?u5 ?i5 ?e5 ?d5 ?k5 ?l5 ?_) | (with_reducible refine wpList_put (o := ⟨none, .store 29 (.tmp 117) (.tmp 116), _, _, _, _⟩) ?g6 29 (.tmp 117) (.tmp 116) ?o6 gv k ?x6 (W32 (u + x)) ?y6 hBv [W32 (u + x)] ?v6 ?i6 ?l6 ?q6 ?_))
          try (case x5 => rfl)
          try (case g5 => rfl)
          try (case o5 => rfl)
          try (case y5 => rfl)
          try (case u5 => exact Tryd.underlying30)
          try (case i5 => exact Tryd.size29)
          try (case e5 => exact HD.out)
          try (case d5 => first | rfl | assumption)
          try (case k5 => exact hk8)
          try (case l5 => exact hl8.out)
          try (case y6 => exact (add1 u x))
          try (case x6 => rfl)
          try (case g6 => rfl)
          try (case o6 => rfl)
          try (case v6 => rfl)
          try (case i6 => exact Tryd.size29)
          try (case l6 => (rw [mix_length]; simp; omega))
          try (case q6 => exact one_cell1 rfl)
          intro w6 hu6 hB6
          have hBr6 := hBr.upd hu6 (by omega)
          have hbel6 := hbel.trans (hu6.below (B := w.heap.size) (by omega))
          rw [hm.out] at hB6
          clear hBv hBr hbel hu6 hm hc
          go_wp2
          go_roundw
          case rel => exact ⟨k + 1, by omega, by go_num, hB6, hBr6, hbel6⟩
          case measure => simp [intOf]; omega
        · obtain rfl : k = 8 := by omega
          obtain ⟨R, hR, hRl⟩ : ∃ R : List UInt32, Hid (R = (SM.compress v l).list) ∧ Hid ((R.map W32).length = 8) := ⟨_, rfl, rfl⟩
          rw [mix_all, ← HS.out, ← hR.out] at hBv
          clear HS hk8
          go_wp2_with (first | (with_reducible refine wpList_get (o := ⟨some 119, .load 30 (.tmp 2), _, _, _, _⟩) ?g7 30 (.tmp 2) ?o7 gv 0 ?x7 hBv (R.map W32) ?c7 (.array 8 29) ?u7 ?d7 ?i7 ?_) | (with_reducible refine wpList_put (o := ⟨none, .store 30 (.tmp 4) (.tmp 119), _, _, _, _⟩) ?g8 30 (.tmp 4) (.tmp 119) ?o8 gr 0 ?x8 (aggW R) ?y8 hBr (R.map W32) ?v8 ?i8 ?l8 ?q8 ?_))
          try (case x7 => rfl)
          try (case g7 => rfl)
          try (case o7 => rfl)
          try (case c7 => (exact cs_all _))
          try (case u7 => exact Tryd.underlying30)
          try (case d7 => first | rfl | assumption)
          try (case i7 => (rw [hRl.out]; exact Tryd.size30))
          try (case y8 => rfl)
          try (case x8 => rfl)
          try (case g8 => rfl)
          try (case o8 => rfl)
          try (case v8 => rfl)
          try (case i8 => exact (by rw [hRl.out]; exact Tryd.size30))
          try (case l8 => (rw [hRl.out]; exact Nat.le_refl _))
          try (case q8 => exact W32_one _)
          intro w7 hu7 hB7
          rw [splice_all _ _ (by rw [hRl.out]; rfl)] at hB7
          have hbel7 := hbel.trans (hu7.below (B := w.heap.size) (by omega))
          clear hBv hBr hbel hu7
          go_wp2
          refine bodyPost_ret (results_cell_row rfl _ _ gr _ _ _ _ rfl hB7 Tryd.underlying30 rfl (by rw [List.size_toArray, hRl.out]; exact Tryd.size30)) rfl ⟨?_, hbel7⟩
          rw [hR.out]; rfl
theorem compress_raw (v : SM.V) (l : List UInt8) (w : World) (hl : l.length = 64) (HY : Lay w) :
    Calls Tryd.prog 75 #[.agg (v.list.map W32).toArray, .agg (l.map B8).toArray] w fun e w' => e = .returned (.agg ((SM.compress v l).list.map W32).toArray) ∧ Below w.heap.size w w' := compress_any v l w hl HY
end Go.Proofs.YtnhnfdfjlagcjaaDoor
