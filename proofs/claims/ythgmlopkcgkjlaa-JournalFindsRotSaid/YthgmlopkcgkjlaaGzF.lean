/-
  Contracts of the functions that the statement calls, part 32 of 37 (merged texts: Jk6). Conditions: as the head of each part says.
-/
import Derived.Test.YthgmlopkcgkjlaaGzE
import Derived.StillTailTactics
import Derived.RangeFuncCalls

/-
  Contract of the walk over the journal's fill. Conditions: the record, the disk and the records lie there.
-/
namespace Go.Proofs.Ythgmlopkcgkjlaa
open Go.RowKit Go.Shelf

attribute [local go_sem] Oper.semAt_some
theorem Try.zeroI26 : (Try.prog.info? 26).map (·.zero) = some (some (.int .i64 0)) := by kernel_rfl
theorem Try.zero150 : (Try.prog.info? 150).map (·.zero) = some (some .nilFunc) := by kernel_rfl
theorem Try.sz66 : (Try.prog.info? 66).map (·.size) = some 1 := by kernel_rfl
theorem Try.szB8 : (Try.prog.info? 5).map (·.size) = some 1 := by kernel_rfl
theorem Try.sz26 : (Try.prog.info? 26).map (·.size) = some 1 := by kernel_rfl
theorem Try.sz150 : (Try.prog.info? 150).map (·.size) = some 1 := by kernel_rfl
theorem wpIn_cut {F : Fence} {n : Nat} {P : Program} {c : Code} {Q : Exit → Act → World → Prop} {a : Act} {w : World} {R : Act → World → Prop} (h : c.wpIn F n P (EndsIn R) a w) (hr : ∀ a w, R a w → Q .normal a w) : c.wpIn F n P Q a w :=
  wpIn_mono h fun e a w q => by cases e <;> first | exact hr _ _ q | exact q.elim
theorem wp_new {P : Program} {o : Oper} {a : Act} {w : World} {K : Act → World → Prop} {Q : Exit → Act → World → Prop} (ty : TypeId) (ho : o.op = .alloc ty) (z : Value) (cs : List Value)
    (hz : (P.info? ty).map (·.zero) = some (some z)) (hc : z.cells = cs.toArray)
    (h : ∀ g w', g = w.heap.size → Below w.heap.size w w' → Blk w' g ty cs → K (a.put o.dst (.pointer (some ⟨g, 0, none⟩))) w') : Oper.wp P o a w K Q := by
  cases hq : P.info? ty with
  | none => simp [hq] at hz
  | some i =>
    have hz' : i.zero = some z := by simpa [hq] using hz
    unfold Oper.wp execOp
    simp [ho, Instr.alloc, newVar, newRow, zeroValue, typeInfo, hq, hz', hc]
    exact h _ _ rfl (below_new w _) (blk_new w ty cs)
theorem fill_down {M : DM} {f x m : Nat} {S : List UInt8} (h : (JM.fillTo M f S m).up = false) (hm : m ≤ JM.pcs S) : JM.fillM M f x S = JM.fillTo M f S m := by
  obtain ⟨d, hd⟩ : ∃ d, JM.pcs S = m + d := ⟨JM.pcs S - m, by omega⟩
  have e := JM.fillTo_down h d
  unfold JM.fillM JM.headM
  rw [hd, e, (write_down h).2, (flush_down h).2]
theorem fill_leave {R : Ending → World → Prop} {tmps : Array Value} {D g6 : Nat} {W : World} {u : Value} (h6 : tmps.getD 6 undef = .pointer (some ⟨g6, 0, none⟩)) (hB : Blk W g6 26 [u]) (hD : W.heap[D]? = some (.deferred (some []))) (hne : g6 ≠ D) (hR : R (.returned u) (W.putObj D (.deferred none))) :
    NoPanic (bodyPostM Fence.wide 5 Try.prog Try.f98 R) .ret { tmps := tmps, defers := [{ target := .collected D, args := #[] }] } W :=
  ⟨by simp, .inl ⟨_, _, rfl, run_takeDeferred hD, ⟨u, results_cell1 rfl _ _ h6 (hB.same (World.putObj_heap_other hne)), hR⟩⟩⟩
theorem run_cutH {P : Program} (ty e : TypeId) (n : Nat) (hu : P.underlying ty = some (.array n e)) (hs : (P.info? e).map (·.size) = some 1) (hn : n ≠ 0) (g : Nat) (w : World) :
    (Instr.sliceAt ty (.pointer (some ⟨g, 0, none⟩)) none none none).run P w = .ok (.slice (some ⟨g, 0, none⟩) n n) w := by
  obtain ⟨e1, e2⟩ := arrayLen_of hu
  have hrun := run_sliceAt_array_all (P := P) w ty ⟨g, 0, none⟩ (by rw [e1, e2]; exact hu)
  cases hq : P.info? e with
  | none => simp [hq] at hs
  | some i =>
    have hz : i.size = 1 := by simpa [hq] using hs
    rw [e1, e2] at hrun
    simpa [sizeOf, typeInfo, hq, hz, slicedAt, addr_mid, hn] using hrun
/-- Between two rounds of fill. -/
structure FlI (gj gd gp gm g3 g6 g7 g8 g9 gs cp k f : Nat) (jl : List Value) (A2 : Option Addr) (rs : List ByteArray) (Y : List Value) (M : DM) (S : List UInt8) (w6 : World) (j : Nat) (W : World) : Prop where
  pr : PRep W gd gp gm cp Y (JM.fillTo M f S j) (k + j)
  bj : Blk W gj 118 jl
  b3 : Blk W g3 66 [.pointer (some ⟨gj, 0, none⟩)]
  b7 : Blk W g7 150 [.func (.func 133) #[] #[.pointer (some ⟨gs, 0, none⟩)]]
  b6 : Blk W g6 26 [.int .i64 0]
  b8 : Blk W g8 152 [.int .u64 (JM.sumF 0 (S.take (128 * j)) : Nat)]
  bs : Blk W gs 152 [.int .u64 (JM.sumF 0 (S.take (128 * j)) : Nat)]
  b9 : Blk W g9 3 [.int .i64 ((f + j : Nat) : Int)]
  row : RowAt W A2 (rs.map Value.string)
  ko : Only [gd, gm, gs, g6, g8, g9] w6 W
structure FlX (gd gp gm g6 g8 g9 gs cp k f : Nat) (Y : List Value) (M : DM) (S : List UInt8) (w6 : World) (j : Nat) (W : World) : Prop where
  pr : PRep W gd gp gm cp Y (JM.fillTo M f S (j + 1)) (k + j + 1)
  b6 : Blk W g6 26 [.int .i64 13]
  ko : Only [gd, gm, gs, g6, g8, g9] w6 W
theorem FlI.later {gj gd gp gm g3 g6 g7 g8 g9 gs cp k f : Nat} {jl : List Value} {A2 : Option Addr} {rs : List ByteArray} {Y : List Value} {M : DM} {S : List UInt8} {w6 W W' : World} {j : Nat} (h : FlI gj gd gp gm g3 g6 g7 g8 g9 gs cp k f jl A2 rs Y M S w6 j W)
    (hlt : ∀ g ∈ [gj, gd, gp, gm, g3, g6, g7, g8, g9, gs], g < w6.heap.size) (hA : ∀ g, A2 = some ⟨g, 0, none⟩ → g < w6.heap.size) (hb : Below w6.heap.size W W') : FlI gj gd gp gm g3 g6 g7 g8 g9 gs cp k f jl A2 rs Y M S w6 j W' :=
  have e : ∀ g ∈ [gj, gd, gp, gm, g3, g6, g7, g8, g9, gs], W'.heap[g]? = W.heap[g]? := fun g hg => hb.block g (hlt g hg)
  ⟨h.pr.same (e gd (by simp)) (e gp (by simp)) (e gm (by simp)), h.bj.same (e gj (by simp)), h.b3.same (e g3 (by simp)), h.b7.same (e g7 (by simp)), h.b6.same (e g6 (by simp)), h.b8.same (e g8 (by simp)), h.bs.same (e gs (by simp)), h.b9.same (e g9 (by simp)), h.row.same (fun g hg => hb.block g (hA g hg)), only_below h.ko hb (Nat.le_refl _)⟩
theorem FlX.later {gd gp gm g6 g8 g9 gs cp k f : Nat} {Y : List Value} {M : DM} {S : List UInt8} {w6 W W' : World} {j : Nat} (h : FlX gd gp gm g6 g8 g9 gs cp k f Y M S w6 j W)
    (hlt : ∀ g ∈ [gd, gp, gm, g6], g < w6.heap.size) (hb : Below w6.heap.size W W') : FlX gd gp gm g6 g8 g9 gs cp k f Y M S w6 j W' :=
  have e : ∀ g ∈ [gd, gp, gm, g6], W'.heap[g]? = W.heap[g]? := fun g hg => hb.block g (hlt g hg)
  ⟨h.pr.same (e gd (by simp)) (e gp (by simp)) (e gm (by simp)), h.b6.same (e g6 (by simp)), only_below h.ko hb (Nat.le_refl _)⟩
set_option maxRecDepth 100000 in
set_option maxHeartbeats 32000000 in
theorem fill_any (gj half x : Nat) (A A2 : Option Addr) (c c2 : Nat) (l rs : List ByteArray) (cl : Bool) (gd gp gm k cp : Nat) (Y : List Value) (M : DM) (n : Nat) (w : World) (hx : x ≤ 1) (hM : M.ok) (hn : M.ps.length = n) (h4 : 4 ≤ n) (h40 : n ≤ 40) (hk : k ≤ 800000) (hu : JM.useR rs ≤ capOf n) (hr8 : ∀ r ∈ rs, r.size ≤ 8000)
    (hjd : gj ∉ [gd, gp, gm]) (hA2 : ∀ g, A2 = some ⟨g, 0, none⟩ → g ∉ [gd, gp, gm]) (hAl : ∀ g, A = some ⟨g, 0, none⟩ → g < w.heap.size) (hA2l : ∀ g, A2 = some ⟨g, 0, none⟩ → g < w.heap.size) (hR : RowAt w A2 (rs.map Value.string)) (h : PRep w gd gp gm cp Y M k) (hj : JRec w gj gd half A c l cl) :
    Calls Try.prog 98 #[.pointer (some ⟨gj, 0, none⟩), .int .i64 (x : Int), .slice A2 rs.length c2] w fun e w' => e = .returned (.int .i64 (upE (JM.fillM M (2 + x * hpOf n) x (JM.stream rs)))) ∧ PRep w' gd gp gm cp Y (JM.fillM M (2 + x * hpOf n) x (JM.stream rs)) (k + 40) ∧ Only [gd, gp, gm] w w' := by
  have c0 := hj.d.cell (k := 0) rfl
  have HM := Lib.hid hM
  have hgjl : gj < w.heap.size := hj.d.lt
  obtain ⟨f, hf⟩ : ∃ f, Hid (2 + x * hpOf n = f) := ⟨_, rfl⟩
  obtain ⟨S, hSS⟩ : ∃ S, Hid (JM.stream rs = S) := ⟨_, rfl⟩
  rw [hf.out, hSS.out]
  refine callsIn_wide.1 (callsIn_of_wp_marks (n := 5) Try.func98 rfl trivial (wpIn_wide.2 (wp_calm ?_)) rfl)
  simp only [Try.ntmps98, List.size_toArray, List.length_cons, List.length_nil, Nat.reduceAdd, Nat.reduceSub, Array.replicate_succ, Array.replicate_zero, List.push_toArray, List.append_toArray, List.nil_append, List.cons_append]
  go_wp2_with (first | (with_reducible refine wpList_box (o := ⟨some 3, .box 66 (.tmp 0), _, _, _, _⟩) ?g1 66 (.tmp 0) ?o1 (.pointer (some ⟨gj, 0, none⟩)) [.pointer (some ⟨gj, 0, none⟩)] ?x1 ?c1 ?_) | (with_reducible refine wpList_alloc (o := ⟨some 6, .alloc 26, _, _, _, _⟩) (by with_unfolding_all rfl) 26 (by with_unfolding_all rfl) (.int .i64 0) [.int .i64 0] (by exact Try.zeroI26) (by with_unfolding_all rfl) ?_))
  try (case g1 => rfl)
  try (case o1 => rfl)
  try (case x1 => rfl)
  try (case c1 => rfl)
  intro g3 w1 hg3 hs1 hb1 hB1
  have hle3 : w.heap.size ≤ g3 := Nat.le_of_eq hg3.out.symm
  have hbe1 : Below w.heap.size w w1 := hb1.mono hle3
  clear hb1 hs1
  go_wp2_with (with_reducible refine wpList_alloc (o := ⟨some 6, .alloc 26, _, _, _, _⟩) (by with_unfolding_all rfl) 26 (by with_unfolding_all rfl) (.int .i64 0) [.int .i64 0] (by exact Try.zeroI26) (by with_unfolding_all rfl) ?_)
  intro g6 w2 hg6 hs2 hb2 hB6
  have hle6 : w.heap.size ≤ g6 := by rw [hg6.out]; exact hbe1.size
  have hne36 : g3 ≠ g6 := fun e => by have := hB1.lt; have := hg6.out; omega
  have hB3 := hB1.next (hb2.mono (Nat.le_of_eq hg6.out.symm)) hB1.lt
  have hbe2 := hbe1.trans (hb2.mono hle6)
  clear hb2 hs2 hB1 hbe1
  go_wp2_with fail
  (with_reducible refine (summer_any _).mono ?_)
  rintro e w3 ⟨gs, rfl, hS, hb3, hgs⟩
  have hles : w.heap.size ≤ gs := Nat.le_trans hbe2.size hgs
  have hne3s : g3 ≠ gs := fun e => by have := hB3.lt; omega
  have hne6s : g6 ≠ gs := fun e => by have := hB6.lt; omega
  have hB3' := hB3.next hb3 hB3.lt
  have hB6' := hB6.next hb3 hB6.lt
  have hbe3 := below_join hbe2 hb3
  clear hb3 hgs hB3 hB6 hbe2
  go_wp2_with (with_reducible refine wpList_alloc (o := ⟨some 7, .alloc 150, _, _, _, _⟩) (by with_unfolding_all rfl) 150 (by with_unfolding_all rfl) .nilFunc [.nilFunc] (by exact Try.zero150) (by with_unfolding_all rfl) ?_)
  intro g7 w4 hg7 hs4 hb4 hB7
  have hle7 : w.heap.size ≤ g7 := by rw [hg7.out]; exact hbe3.size
  have hne37 : g3 ≠ g7 := fun e => by have := hB3'.lt; have := hg7.out; omega
  have hne67 : g6 ≠ g7 := fun e => by have := hB6'.lt; have := hg7.out; omega
  have hnes7 : gs ≠ g7 := fun e => by have := hS.lt; have := hg7.out; omega
  have hb4' := hb4.mono (Nat.le_of_eq hg7.out.symm)
  have hB3 := hB3'.next hb4' hB3'.lt
  have hB6 := hB6'.next hb4' hB6'.lt
  have hS4 := hS.next hb4' hS.lt
  have hbe4 := hbe3.trans (hb4.mono hle7)
  clear hb4 hb4' hs4 hB3' hB6' hS hbe3
  go_wp2_with (with_reducible refine wpList_put (o := ⟨none, .store 150 (.tmp 7) (.tmp 14), _, _, _, _⟩) (by with_unfolding_all rfl) 150 (.tmp 7) (.tmp 14) (by with_unfolding_all rfl) g7 0 (by with_unfolding_all rfl) (.func (.func 133) #[] #[.pointer (some ⟨gs, 0, none⟩)]) (by with_unfolding_all rfl) hB7 [(.func (.func 133) #[] #[.pointer (some ⟨gs, 0, none⟩)])] (by with_unfolding_all rfl) (by with_unfolding_all exact Try.sz150) (by with_unfolding_all simp) (by with_unfolding_all exact one_cell1 rfl) ?_)
  intro w5 hu5 hB75
  have hB75' : Blk w5 g7 150 [.func (.func 133) #[] #[.pointer (some ⟨gs, 0, none⟩)]] := hB75
  have hB35 := hB3.upd hu5 hne37
  have hB65 := hB6.upd hu5 hne67
  have hS5 := hS4.upd hu5 hnes7
  have hbe5 := hbe4.trans (hu5.below (B := w.heap.size) hle7)
  clear hB7 hB75 hB3 hB6 hS4 hu5 hbe4 hg3 hg6 hg7
  have hP5 := h.next hbe5
  have hJ5 := hj.next hbe5
  have hbd5 := below_drew w5
  have hPd := hP5.next hbd5
  have hJd := hJ5.next hbd5
  have hSd := hS5.next hbd5 hS5.lt
  have c3d := (hB35.next hbd5 hB35.lt).cell (k := 0) rfl
  have c7d := (hB75'.next hbd5 hB75'.lt).cell (k := 0) rfl
  have hgd5 : gs ≠ gd ∧ gs ≠ gp ∧ gs ≠ gm ∧ gs ≠ gj := by
    have e1 := h.d.lt
    have e2 := h.p.lt
    have e3 := h.m.lt
    exact ⟨by omega, by omega, by omega, by omega⟩
  have hAgs : Hid (∀ g, A = some ⟨g, 0, none⟩ → g ∉ [gs]) := by
    have : ∀ g, A = some ⟨g, 0, none⟩ → g ∉ [gs] := fun g hg => by
      have := hAl g hg
      simp; omega
    exact this
  go_upto_region 2 with fail
  refine wp_cut (R := fun a3 wx => ∃ g8 g9 u15 u16 u17 u18 u19, a3 = ({ tmps := #[.pointer (some ⟨gj, 0, none⟩), .int .i64 (x : Int), .slice A2 rs.length c2, .pointer (some ⟨g3, 0, none⟩), undef, undef, .pointer (some ⟨g6, 0, none⟩), .pointer (some ⟨g7, 0, none⟩), .pointer (some ⟨g8, 0, none⟩), .pointer (some ⟨g9, 0, none⟩), undef, undef, undef, undef, .func (.func 133) #[] #[.pointer (some ⟨gs, 0, none⟩)], u15, u16, u17, u18, u19, undef, undef, undef, undef, undef, undef, undef, undef, undef, undef, undef, undef, undef, undef, undef, undef, undef, undef, undef, undef, undef, undef, undef, undef, undef, undef, undef, undef, undef, undef, undef, undef, undef, undef, undef, undef, undef, undef, undef], defers := [] } : Act) ∧ Blk wx g8 152 [.int .u64 ((0 : Nat) : Int)] ∧ Blk wx g9 3 [.int .i64 (f : Int)] ∧ Blk wx gs 152 [.int .u64 ((0 : Nat) : Int)] ∧ Only [gs] w5 wx ∧ w5.heap.size ≤ g8 ∧ w5.heap.size ≤ g9 ∧ g8 ≠ g9) ?first ?rest
  case first =>
    refine wp_region_held_drew (S := fun w' => w'.cell? ⟨g3, 0, none⟩ = some (.pointer (some ⟨gj, 0, none⟩)) ∧ w'.cell? ⟨g7, 0, none⟩ = some (.func (.func 133) #[] #[.pointer (some ⟨gs, 0, none⟩)])) (by kernel_rfl) ⟨c3d, c7d⟩ (fun hHeld => ?_)
    have hPc := hPd
    have hJc := hJd
    have hSc := hSd
    have h3c := hB35.next hbd5 hB35.lt
    have h7c := hB75'.next hbd5 hB75'.lt
    have hOc : Only [gs] w5 w5.drew := Only.of_below hbd5
    have hg3l := hB35.lt
    have hg7l := hB75'.lt
    have hgsl := hS5.lt
    clear c3d c7d hPd hJd hSd hbd5
    generalize w5.drew = wc at hPc hJc hSc h3c h7c hOc hHeld ⊢
    refine wpAnyH_take (i := 0) (v := ?vv0) rfl (by kernel_rfl) (by kernel_rfl) (by kernel_rfl) (fun _ _ _ h => h) (Or.inl ⟨by rfl, ?yv0⟩) (by assumption) ?rv0
    case yv0 => intro w hSw; (try dsimp only at hSw); go_simp <;> (try with_reducible rfl)
    (try simp only [List.getElem_toArray, List.getElem_cons_zero, Act.put, List.setIfInBounds_toArray, List.set_cons_zero, List.set_cons_succ])
    refine wpAnyH_take (i := 2) (v := ?vv2) rfl (by kernel_rfl) (by kernel_rfl) (by kernel_rfl) (fun _ _ _ h => h) (Or.inl ⟨by rfl, ?yv2⟩) (by assumption) ?rv2
    case yv2 => intro w hSw; (try dsimp only at hSw); go_simp <;> (try with_reducible rfl)
    (try simp only [List.getElem_toArray, List.getElem_cons_succ, List.getElem_cons_zero, Act.put, List.setIfInBounds_toArray, List.set_cons_zero, List.set_cons_succ])
    refine wpAnyH_take (i := 3) (v := ?vv3) rfl (by kernel_rfl) (by kernel_rfl) (by kernel_rfl) (fun _ _ _ h => h) (Or.inl ⟨by rfl, ?yv3⟩) (by assumption) ?rv3
    case yv3 => intro w hSw; (try dsimp only at hSw); go_simp <;> (try with_reducible rfl)
    (try simp only [List.getElem_toArray, List.getElem_cons_succ, List.getElem_cons_zero, Act.put, List.setIfInBounds_toArray, List.set_cons_zero, List.set_cons_succ])
    refine wpAnyH_ready (rs := [1, 5, 6]) (by kernel_rfl) (by simp) ?_
    refine (AllReadyH.cons rfl (fun K hK => ?_) (AllReadyH.cons rfl (fun K hK => ?_) (AllReadyH.cons rfl (fun K hK => ?_) AllReadyH.nil)))
    · go_simp
      go_wp2_with fail
      (with_reducible refine (summer1_any gs 0 ⟨#[]⟩ _ (by decide) hSc).mono ?_)
      rintro e wv1 ⟨rfl, hSn, hoS⟩
      have hzz : JM.sumF 0 (⟨#[]⟩ : ByteArray).data.toList = 0 := rfl
      rw [hzz] at hSn ⊢
      replace hPc := hPc.only hoS (by simp; omega) (by simp; omega) (by simp; omega)
      replace hJc := hJc.only hoS (by simp; omega) hAgs.out
      replace h3c := h3c.only hoS (by simp; omega)
      replace h7c := h7c.only hoS (by simp; omega)
      replace hOc := hOc.trans hoS
      clear hSc
      have hSc : Blk wv1 gs 152 [.int .u64 ((0 : Nat) : Int)] := hSn
      refine hK.out _ _ ⟨h3c.cell (k := 0) rfl, h7c.cell (k := 0) rfl⟩ (fun hHeld => ?_)
      clear hK K hSn hoS hzz
      refine wpAnyH_ready (rs := [4, 5, 6]) (by kernel_rfl) (by simp) ?_
      refine (AllReadyH.cons rfl (fun K hK => ?_) (AllReadyH.cons rfl (fun K hK => ?_) (AllReadyH.cons rfl (fun K hK => ?_) AllReadyH.nil)))
      · go_simp
        go_wp2_with fail
        (with_reducible refine (jfirst_any gj half A c l cl gd gp gm k cp Y M n x _ hx hn h4 h40 hPc hJc).mono ?_)
        rintro e wS ⟨rfl, rfl⟩
        rw [hf.out]
        refine hK.out _ _ ⟨h3c.cell (k := 0) rfl, h7c.cell (k := 0) rfl⟩ (fun hHeld => ?_)
        clear hK K
        refine wpAnyH_ready (rs := [5, 6]) (by kernel_rfl) (by simp) ?_
        refine (AllReadyH.cons rfl (fun K hK => ?_) (AllReadyH.cons rfl (fun K hK => ?_) AllReadyH.nil))
        · go_simp
          have hbn := below_new wv1 (.cells #[.int .u64 0] 152)
          have hng8 : gs ≠ wv1.heap.size := fun e => by have := hSc.lt; omega
          have hlg8 : w5.heap.size ≤ wv1.heap.size := hOc.size
          have hBg8 := blk_new wv1 152 [.int .u64 0]
          replace hPc := hPc.next hbn
          replace hJc := hJc.next hbn
          replace h3c := h3c.next hbn h3c.lt
          replace h7c := h7c.next hbn h7c.lt
          replace hSc := hSc.next hbn hSc.lt
          replace hOc := hOc.trans (Only.of_below hbn)
          refine hK.out _ _ ⟨h3c.cell (k := 0) rfl, h7c.cell (k := 0) rfl⟩ (fun hHeld => ?_)
          clear hK K hbn
          generalize wv1.heap.size = g8 at hng8 hlg8 hBg8 ⊢
          generalize wv1.alloc _ = wv145 at hPc hJc h3c h7c hSc hOc hBg8 hHeld ⊢
          refine wpAnyH_ready (rs := [6]) (by kernel_rfl) (by simp) ?_
          refine (AllReadyH.cons rfl (fun K hK => ?_) AllReadyH.nil)
          go_simp
          have hbn := below_new wv145 (.cells #[.int .i64 0] 3)
          have hng9 : gs ≠ wv145.heap.size := fun e => by have := hSc.lt; omega
          have hlg9 : w5.heap.size ≤ wv145.heap.size := hOc.size
          have hn89 : g8 ≠ wv145.heap.size := fun e => by have := hBg8.lt; omega
          have hBg9 := blk_new wv145 3 [.int .i64 0]
          replace hPc := hPc.next hbn
          replace hJc := hJc.next hbn
          replace h3c := h3c.next hbn h3c.lt
          replace h7c := h7c.next hbn h7c.lt
          replace hSc := hSc.next hbn hSc.lt
          replace hOc := hOc.trans (Only.of_below hbn)
          replace hBg8 := hBg8.next hbn hBg8.lt
          refine hK.out _ _ ⟨h3c.cell (k := 0) rfl, h7c.cell (k := 0) rfl⟩ (fun hHeld => ?_)
          clear hK K hbn
          generalize wv145.heap.size = g9 at hng9 hlg9 hBg9 hn89 ⊢
          generalize wv145.alloc _ = wv1456 at hPc hJc h3c h7c hSc hOc hBg9 hBg8 hHeld ⊢
          refine wpAnyH_ready (rs := [7]) (by kernel_rfl) (by simp) ?_
          refine AllReadyH.cons rfl (fun K hK => ?_) AllReadyH.nil
          rw [if_pos (by rfl)]
          refine wp_put 152 (.tmp 8) (.tmp 16) rfl g8 0 rfl (.int .u64 ((0 : Nat) : Int)) rfl hBg8 [.int .u64 ((0 : Nat) : Int)] rfl (by exact Try.szU) (by simp) (one_cell1 rfl) ?_
          intro w7 hu7 hB87
          refine hK.out _ _ ⟨(h3c.upd hu7 (by omega)).cell (k := 0) rfl, (h7c.upd hu7 (by omega)).cell (k := 0) rfl⟩ (fun hHeld => ?_)
          clear hK K
          refine wpAnyH_ready (rs := [8]) (by kernel_rfl) (by simp) ?_
          refine AllReadyH.cons rfl (fun K hK => ?_) AllReadyH.nil
          rw [if_pos (by rfl)]
          refine wp_put 3 (.tmp 9) (.tmp 19) rfl g9 0 rfl (.int .i64 (f : Int)) rfl (hBg9.upd hu7 (by omega)) [.int .i64 (f : Int)] rfl (by exact Try.sz3) (by simp) (one_cell1 rfl) ?_
          intro w8 hu8 hB98
          refine hK.out _ _ ⟨((h3c.upd hu7 (by omega)).upd hu8 (by omega)).cell (k := 0) rfl, ((h7c.upd hu7 (by omega)).upd hu8 (by omega)).cell (k := 0) rfl⟩ (fun hHeld => ?_)
          clear hK K
          refine wpAnyH_done (by kernel_rfl) ?_ _
          exact ⟨g8, g9, _, _, _, _, _, rfl, hB87.upd hu8 (by omega), hB98, (hSc.upd hu7 hng8).upd hu8 hng9, only_new (only_new hOc hu7 hlg8) hu8 hlg9, hlg8, hlg9, by omega⟩
        · go_simp
          have hbn := below_new wv1 (.cells #[.int .i64 0] 3)
          have hng9 : gs ≠ wv1.heap.size := fun e => by have := hSc.lt; omega
          have hlg9 : w5.heap.size ≤ wv1.heap.size := hOc.size
          have hBg9 := blk_new wv1 3 [.int .i64 0]
          replace hPc := hPc.next hbn
          replace hJc := hJc.next hbn
          replace h3c := h3c.next hbn h3c.lt
          replace h7c := h7c.next hbn h7c.lt
          replace hSc := hSc.next hbn hSc.lt
          replace hOc := hOc.trans (Only.of_below hbn)
          refine hK.out _ _ ⟨h3c.cell (k := 0) rfl, h7c.cell (k := 0) rfl⟩ (fun hHeld => ?_)
          clear hK K hbn
          generalize wv1.heap.size = g9 at hng9 hlg9 hBg9 ⊢
          generalize wv1.alloc _ = wv146 at hPc hJc h3c h7c hSc hOc hBg9 hHeld ⊢
          refine wpAnyH_ready (rs := [5]) (by kernel_rfl) (by simp) ?_
          refine (AllReadyH.cons rfl (fun K hK => ?_) AllReadyH.nil)
          go_simp
          have hbn := below_new wv146 (.cells #[.int .u64 0] 152)
          have hng8 : gs ≠ wv146.heap.size := fun e => by have := hSc.lt; omega
          have hlg8 : w5.heap.size ≤ wv146.heap.size := hOc.size
          have hn89 : g9 ≠ wv146.heap.size := fun e => by have := hBg9.lt; omega
          have hBg8 := blk_new wv146 152 [.int .u64 0]
          replace hPc := hPc.next hbn
          replace hJc := hJc.next hbn
          replace h3c := h3c.next hbn h3c.lt
          replace h7c := h7c.next hbn h7c.lt
          replace hSc := hSc.next hbn hSc.lt
          replace hOc := hOc.trans (Only.of_below hbn)
          replace hBg9 := hBg9.next hbn hBg9.lt
          refine hK.out _ _ ⟨h3c.cell (k := 0) rfl, h7c.cell (k := 0) rfl⟩ (fun hHeld => ?_)
          clear hK K hbn
          generalize wv146.heap.size = g8 at hng8 hlg8 hBg8 hn89 ⊢
          generalize wv146.alloc _ = wv1465 at hPc hJc h3c h7c hSc hOc hBg8 hBg9 hHeld ⊢
          refine wpAnyH_ready (rs := [7]) (by kernel_rfl) (by simp) ?_
          refine AllReadyH.cons rfl (fun K hK => ?_) AllReadyH.nil
          rw [if_pos (by rfl)]
          refine wp_put 152 (.tmp 8) (.tmp 16) rfl g8 0 rfl (.int .u64 ((0 : Nat) : Int)) rfl hBg8 [.int .u64 ((0 : Nat) : Int)] rfl (by exact Try.szU) (by simp) (one_cell1 rfl) ?_
          intro w7 hu7 hB87
          refine hK.out _ _ ⟨(h3c.upd hu7 (by omega)).cell (k := 0) rfl, (h7c.upd hu7 (by omega)).cell (k := 0) rfl⟩ (fun hHeld => ?_)
          clear hK K
          refine wpAnyH_ready (rs := [8]) (by kernel_rfl) (by simp) ?_
          refine AllReadyH.cons rfl (fun K hK => ?_) AllReadyH.nil
          rw [if_pos (by rfl)]
          refine wp_put 3 (.tmp 9) (.tmp 19) rfl g9 0 rfl (.int .i64 (f : Int)) rfl (hBg9.upd hu7 (by omega)) [.int .i64 (f : Int)] rfl (by exact Try.sz3) (by simp) (one_cell1 rfl) ?_
          intro w8 hu8 hB98
          refine hK.out _ _ ⟨((h3c.upd hu7 (by omega)).upd hu8 (by omega)).cell (k := 0) rfl, ((h7c.upd hu7 (by omega)).upd hu8 (by omega)).cell (k := 0) rfl⟩ (fun hHeld => ?_)
          clear hK K
          refine wpAnyH_done (by kernel_rfl) ?_ _
          exact ⟨g8, g9, _, _, _, _, _, rfl, hB87.upd hu8 (by omega), hB98, (hSc.upd hu7 hng8).upd hu8 hng9, only_new (only_new hOc hu7 hlg8) hu8 hlg9, hlg8, hlg9, by omega⟩
      · go_simp
        have hbn := below_new wv1 (.cells #[.int .u64 0] 152)
        have hng8 : gs ≠ wv1.heap.size := fun e => by have := hSc.lt; omega
        have hlg8 : w5.heap.size ≤ wv1.heap.size := hOc.size
        have hBg8 := blk_new wv1 152 [.int .u64 0]
        replace hPc := hPc.next hbn
        replace hJc := hJc.next hbn
        replace h3c := h3c.next hbn h3c.lt
        replace h7c := h7c.next hbn h7c.lt
        replace hSc := hSc.next hbn hSc.lt
        replace hOc := hOc.trans (Only.of_below hbn)
        refine hK.out _ _ ⟨h3c.cell (k := 0) rfl, h7c.cell (k := 0) rfl⟩ (fun hHeld => ?_)
        clear hK K hbn
        generalize wv1.heap.size = g8 at hng8 hlg8 hBg8 ⊢
        generalize wv1.alloc _ = wv15 at hPc hJc h3c h7c hSc hOc hBg8 hHeld ⊢
        refine wpAnyH_ready (rs := [4, 6]) (by kernel_rfl) (by simp) ?_
        refine (AllReadyH.cons rfl (fun K hK => ?_) (AllReadyH.cons rfl (fun K hK => ?_) AllReadyH.nil))
        · go_simp
          go_wp2_with fail
          (with_reducible refine (jfirst_any gj half A c l cl gd gp gm k cp Y M n x _ hx hn h4 h40 hPc hJc).mono ?_)
          rintro e wS ⟨rfl, rfl⟩
          rw [hf.out]
          refine hK.out _ _ ⟨h3c.cell (k := 0) rfl, h7c.cell (k := 0) rfl⟩ (fun hHeld => ?_)
          clear hK K
          refine wpAnyH_ready (rs := [6]) (by kernel_rfl) (by simp) ?_
          refine (AllReadyH.cons rfl (fun K hK => ?_) AllReadyH.nil)
          go_simp
          have hbn := below_new wv15 (.cells #[.int .i64 0] 3)
          have hng9 : gs ≠ wv15.heap.size := fun e => by have := hSc.lt; omega
          have hlg9 : w5.heap.size ≤ wv15.heap.size := hOc.size
          have hn89 : g8 ≠ wv15.heap.size := fun e => by have := hBg8.lt; omega
          have hBg9 := blk_new wv15 3 [.int .i64 0]
          replace hPc := hPc.next hbn
          replace hJc := hJc.next hbn
          replace h3c := h3c.next hbn h3c.lt
          replace h7c := h7c.next hbn h7c.lt
          replace hSc := hSc.next hbn hSc.lt
          replace hOc := hOc.trans (Only.of_below hbn)
          replace hBg8 := hBg8.next hbn hBg8.lt
          refine hK.out _ _ ⟨h3c.cell (k := 0) rfl, h7c.cell (k := 0) rfl⟩ (fun hHeld => ?_)
          clear hK K hbn
          generalize wv15.heap.size = g9 at hng9 hlg9 hBg9 hn89 ⊢
          generalize wv15.alloc _ = wv1546 at hPc hJc h3c h7c hSc hOc hBg9 hBg8 hHeld ⊢
          refine wpAnyH_ready (rs := [7]) (by kernel_rfl) (by simp) ?_
          refine AllReadyH.cons rfl (fun K hK => ?_) AllReadyH.nil
          rw [if_pos (by rfl)]
          refine wp_put 152 (.tmp 8) (.tmp 16) rfl g8 0 rfl (.int .u64 ((0 : Nat) : Int)) rfl hBg8 [.int .u64 ((0 : Nat) : Int)] rfl (by exact Try.szU) (by simp) (one_cell1 rfl) ?_
          intro w7 hu7 hB87
          refine hK.out _ _ ⟨(h3c.upd hu7 (by omega)).cell (k := 0) rfl, (h7c.upd hu7 (by omega)).cell (k := 0) rfl⟩ (fun hHeld => ?_)
          clear hK K
          refine wpAnyH_ready (rs := [8]) (by kernel_rfl) (by simp) ?_
          refine AllReadyH.cons rfl (fun K hK => ?_) AllReadyH.nil
          rw [if_pos (by rfl)]
          refine wp_put 3 (.tmp 9) (.tmp 19) rfl g9 0 rfl (.int .i64 (f : Int)) rfl (hBg9.upd hu7 (by omega)) [.int .i64 (f : Int)] rfl (by exact Try.sz3) (by simp) (one_cell1 rfl) ?_
          intro w8 hu8 hB98
          refine hK.out _ _ ⟨((h3c.upd hu7 (by omega)).upd hu8 (by omega)).cell (k := 0) rfl, ((h7c.upd hu7 (by omega)).upd hu8 (by omega)).cell (k := 0) rfl⟩ (fun hHeld => ?_)
          clear hK K
          refine wpAnyH_done (by kernel_rfl) ?_ _
          exact ⟨g8, g9, _, _, _, _, _, rfl, hB87.upd hu8 (by omega), hB98, (hSc.upd hu7 hng8).upd hu8 hng9, only_new (only_new hOc hu7 hlg8) hu8 hlg9, hlg8, hlg9, by omega⟩
        · go_simp
          have hbn := below_new wv15 (.cells #[.int .i64 0] 3)
          have hng9 : gs ≠ wv15.heap.size := fun e => by have := hSc.lt; omega
          have hlg9 : w5.heap.size ≤ wv15.heap.size := hOc.size
          have hn89 : g8 ≠ wv15.heap.size := fun e => by have := hBg8.lt; omega
          have hBg9 := blk_new wv15 3 [.int .i64 0]
          replace hPc := hPc.next hbn
          replace hJc := hJc.next hbn
          replace h3c := h3c.next hbn h3c.lt
          replace h7c := h7c.next hbn h7c.lt
          replace hSc := hSc.next hbn hSc.lt
          replace hOc := hOc.trans (Only.of_below hbn)
          replace hBg8 := hBg8.next hbn hBg8.lt
          refine hK.out _ _ ⟨h3c.cell (k := 0) rfl, h7c.cell (k := 0) rfl⟩ (fun hHeld => ?_)
          clear hK K hbn
          generalize wv15.heap.size = g9 at hng9 hlg9 hBg9 hn89 ⊢
          generalize wv15.alloc _ = wv156 at hPc hJc h3c h7c hSc hOc hBg9 hBg8 hHeld ⊢
          refine wpAnyH_ready (rs := [4]) (by kernel_rfl) (by simp) ?_
          refine (AllReadyH.cons rfl (fun K hK => ?_) AllReadyH.nil)
          go_simp
          go_wp2_with fail
          (with_reducible refine (jfirst_any gj half A c l cl gd gp gm k cp Y M n x _ hx hn h4 h40 hPc hJc).mono ?_)
          rintro e wS ⟨rfl, rfl⟩
          rw [hf.out]
          refine hK.out _ _ ⟨h3c.cell (k := 0) rfl, h7c.cell (k := 0) rfl⟩ (fun hHeld => ?_)
          clear hK K
          refine wpAnyH_ready (rs := [7]) (by kernel_rfl) (by simp) ?_
          refine AllReadyH.cons rfl (fun K hK => ?_) AllReadyH.nil
          rw [if_pos (by rfl)]
          refine wp_put 152 (.tmp 8) (.tmp 16) rfl g8 0 rfl (.int .u64 ((0 : Nat) : Int)) rfl hBg8 [.int .u64 ((0 : Nat) : Int)] rfl (by exact Try.szU) (by simp) (one_cell1 rfl) ?_
          intro w7 hu7 hB87
          refine hK.out _ _ ⟨(h3c.upd hu7 (by omega)).cell (k := 0) rfl, (h7c.upd hu7 (by omega)).cell (k := 0) rfl⟩ (fun hHeld => ?_)
          clear hK K
          refine wpAnyH_ready (rs := [8]) (by kernel_rfl) (by simp) ?_
          refine AllReadyH.cons rfl (fun K hK => ?_) AllReadyH.nil
          rw [if_pos (by rfl)]
          refine wp_put 3 (.tmp 9) (.tmp 19) rfl g9 0 rfl (.int .i64 (f : Int)) rfl (hBg9.upd hu7 (by omega)) [.int .i64 (f : Int)] rfl (by exact Try.sz3) (by simp) (one_cell1 rfl) ?_
          intro w8 hu8 hB98
          refine hK.out _ _ ⟨((h3c.upd hu7 (by omega)).upd hu8 (by omega)).cell (k := 0) rfl, ((h7c.upd hu7 (by omega)).upd hu8 (by omega)).cell (k := 0) rfl⟩ (fun hHeld => ?_)
          clear hK K
          refine wpAnyH_done (by kernel_rfl) ?_ _
          exact ⟨g8, g9, _, _, _, _, _, rfl, hB87.upd hu8 (by omega), hB98, (hSc.upd hu7 hng8).upd hu8 hng9, only_new (only_new hOc hu7 hlg8) hu8 hlg9, hlg8, hlg9, by omega⟩
      · go_simp
        have hbn := below_new wv1 (.cells #[.int .i64 0] 3)
        have hng9 : gs ≠ wv1.heap.size := fun e => by have := hSc.lt; omega
        have hlg9 : w5.heap.size ≤ wv1.heap.size := hOc.size
        have hBg9 := blk_new wv1 3 [.int .i64 0]
        replace hPc := hPc.next hbn
        replace hJc := hJc.next hbn
        replace h3c := h3c.next hbn h3c.lt
        replace h7c := h7c.next hbn h7c.lt
        replace hSc := hSc.next hbn hSc.lt
        replace hOc := hOc.trans (Only.of_below hbn)
        refine hK.out _ _ ⟨h3c.cell (k := 0) rfl, h7c.cell (k := 0) rfl⟩ (fun hHeld => ?_)
        clear hK K hbn
        generalize wv1.heap.size = g9 at hng9 hlg9 hBg9 ⊢
        generalize wv1.alloc _ = wv16 at hPc hJc h3c h7c hSc hOc hBg9 hHeld ⊢
        refine wpAnyH_ready (rs := [4, 5]) (by kernel_rfl) (by simp) ?_
        refine (AllReadyH.cons rfl (fun K hK => ?_) (AllReadyH.cons rfl (fun K hK => ?_) AllReadyH.nil))
        · go_simp
          go_wp2_with fail
          (with_reducible refine (jfirst_any gj half A c l cl gd gp gm k cp Y M n x _ hx hn h4 h40 hPc hJc).mono ?_)
          rintro e wS ⟨rfl, rfl⟩
          rw [hf.out]
          refine hK.out _ _ ⟨h3c.cell (k := 0) rfl, h7c.cell (k := 0) rfl⟩ (fun hHeld => ?_)
          clear hK K
          refine wpAnyH_ready (rs := [5]) (by kernel_rfl) (by simp) ?_
          refine (AllReadyH.cons rfl (fun K hK => ?_) AllReadyH.nil)
          go_simp
          have hbn := below_new wv16 (.cells #[.int .u64 0] 152)
          have hng8 : gs ≠ wv16.heap.size := fun e => by have := hSc.lt; omega
          have hlg8 : w5.heap.size ≤ wv16.heap.size := hOc.size
          have hn89 : g9 ≠ wv16.heap.size := fun e => by have := hBg9.lt; omega
          have hBg8 := blk_new wv16 152 [.int .u64 0]
          replace hPc := hPc.next hbn
          replace hJc := hJc.next hbn
          replace h3c := h3c.next hbn h3c.lt
          replace h7c := h7c.next hbn h7c.lt
          replace hSc := hSc.next hbn hSc.lt
          replace hOc := hOc.trans (Only.of_below hbn)
          replace hBg9 := hBg9.next hbn hBg9.lt
          refine hK.out _ _ ⟨h3c.cell (k := 0) rfl, h7c.cell (k := 0) rfl⟩ (fun hHeld => ?_)
          clear hK K hbn
          generalize wv16.heap.size = g8 at hng8 hlg8 hBg8 hn89 ⊢
          generalize wv16.alloc _ = wv1645 at hPc hJc h3c h7c hSc hOc hBg8 hBg9 hHeld ⊢
          refine wpAnyH_ready (rs := [7]) (by kernel_rfl) (by simp) ?_
          refine AllReadyH.cons rfl (fun K hK => ?_) AllReadyH.nil
          rw [if_pos (by rfl)]
          refine wp_put 152 (.tmp 8) (.tmp 16) rfl g8 0 rfl (.int .u64 ((0 : Nat) : Int)) rfl hBg8 [.int .u64 ((0 : Nat) : Int)] rfl (by exact Try.szU) (by simp) (one_cell1 rfl) ?_
          intro w7 hu7 hB87
          refine hK.out _ _ ⟨(h3c.upd hu7 (by omega)).cell (k := 0) rfl, (h7c.upd hu7 (by omega)).cell (k := 0) rfl⟩ (fun hHeld => ?_)
          clear hK K
          refine wpAnyH_ready (rs := [8]) (by kernel_rfl) (by simp) ?_
          refine AllReadyH.cons rfl (fun K hK => ?_) AllReadyH.nil
          rw [if_pos (by rfl)]
          refine wp_put 3 (.tmp 9) (.tmp 19) rfl g9 0 rfl (.int .i64 (f : Int)) rfl (hBg9.upd hu7 (by omega)) [.int .i64 (f : Int)] rfl (by exact Try.sz3) (by simp) (one_cell1 rfl) ?_
          intro w8 hu8 hB98
          refine hK.out _ _ ⟨((h3c.upd hu7 (by omega)).upd hu8 (by omega)).cell (k := 0) rfl, ((h7c.upd hu7 (by omega)).upd hu8 (by omega)).cell (k := 0) rfl⟩ (fun hHeld => ?_)
          clear hK K
          refine wpAnyH_done (by kernel_rfl) ?_ _
          exact ⟨g8, g9, _, _, _, _, _, rfl, hB87.upd hu8 (by omega), hB98, (hSc.upd hu7 hng8).upd hu8 hng9, only_new (only_new hOc hu7 hlg8) hu8 hlg9, hlg8, hlg9, by omega⟩
        · go_simp
          have hbn := below_new wv16 (.cells #[.int .u64 0] 152)
          have hng8 : gs ≠ wv16.heap.size := fun e => by have := hSc.lt; omega
          have hlg8 : w5.heap.size ≤ wv16.heap.size := hOc.size
          have hn89 : g9 ≠ wv16.heap.size := fun e => by have := hBg9.lt; omega
          have hBg8 := blk_new wv16 152 [.int .u64 0]
          replace hPc := hPc.next hbn
          replace hJc := hJc.next hbn
          replace h3c := h3c.next hbn h3c.lt
          replace h7c := h7c.next hbn h7c.lt
          replace hSc := hSc.next hbn hSc.lt
          replace hOc := hOc.trans (Only.of_below hbn)
          replace hBg9 := hBg9.next hbn hBg9.lt
          refine hK.out _ _ ⟨h3c.cell (k := 0) rfl, h7c.cell (k := 0) rfl⟩ (fun hHeld => ?_)
          clear hK K hbn
          generalize wv16.heap.size = g8 at hng8 hlg8 hBg8 hn89 ⊢
          generalize wv16.alloc _ = wv165 at hPc hJc h3c h7c hSc hOc hBg8 hBg9 hHeld ⊢
          refine wpAnyH_ready (rs := [4]) (by kernel_rfl) (by simp) ?_
          refine (AllReadyH.cons rfl (fun K hK => ?_) AllReadyH.nil)
          go_simp
          go_wp2_with fail
          (with_reducible refine (jfirst_any gj half A c l cl gd gp gm k cp Y M n x _ hx hn h4 h40 hPc hJc).mono ?_)
          rintro e wS ⟨rfl, rfl⟩
          rw [hf.out]
          refine hK.out _ _ ⟨h3c.cell (k := 0) rfl, h7c.cell (k := 0) rfl⟩ (fun hHeld => ?_)
          clear hK K
          refine wpAnyH_ready (rs := [7]) (by kernel_rfl) (by simp) ?_
          refine AllReadyH.cons rfl (fun K hK => ?_) AllReadyH.nil
          rw [if_pos (by rfl)]
          refine wp_put 152 (.tmp 8) (.tmp 16) rfl g8 0 rfl (.int .u64 ((0 : Nat) : Int)) rfl hBg8 [.int .u64 ((0 : Nat) : Int)] rfl (by exact Try.szU) (by simp) (one_cell1 rfl) ?_
          intro w7 hu7 hB87
          refine hK.out _ _ ⟨(h3c.upd hu7 (by omega)).cell (k := 0) rfl, (h7c.upd hu7 (by omega)).cell (k := 0) rfl⟩ (fun hHeld => ?_)
          clear hK K
          refine wpAnyH_ready (rs := [8]) (by kernel_rfl) (by simp) ?_
          refine AllReadyH.cons rfl (fun K hK => ?_) AllReadyH.nil
          rw [if_pos (by rfl)]
          refine wp_put 3 (.tmp 9) (.tmp 19) rfl g9 0 rfl (.int .i64 (f : Int)) rfl (hBg9.upd hu7 (by omega)) [.int .i64 (f : Int)] rfl (by exact Try.sz3) (by simp) (one_cell1 rfl) ?_
          intro w8 hu8 hB98
          refine hK.out _ _ ⟨((h3c.upd hu7 (by omega)).upd hu8 (by omega)).cell (k := 0) rfl, ((h7c.upd hu7 (by omega)).upd hu8 (by omega)).cell (k := 0) rfl⟩ (fun hHeld => ?_)
          clear hK K
          refine wpAnyH_done (by kernel_rfl) ?_ _
          exact ⟨g8, g9, _, _, _, _, _, rfl, hB87.upd hu8 (by omega), hB98, (hSc.upd hu7 hng8).upd hu8 hng9, only_new (only_new hOc hu7 hlg8) hu8 hlg9, hlg8, hlg9, by omega⟩
    · go_simp
      have hbn := below_new wc (.cells #[.int .u64 0] 152)
      have hng8 : gs ≠ wc.heap.size := fun e => by have := hSc.lt; omega
      have hlg8 : w5.heap.size ≤ wc.heap.size := hOc.size
      have hBg8 := blk_new wc 152 [.int .u64 0]
      replace hPc := hPc.next hbn
      replace hJc := hJc.next hbn
      replace h3c := h3c.next hbn h3c.lt
      replace h7c := h7c.next hbn h7c.lt
      replace hSc := hSc.next hbn hSc.lt
      replace hOc := hOc.trans (Only.of_below hbn)
      refine hK.out _ _ ⟨h3c.cell (k := 0) rfl, h7c.cell (k := 0) rfl⟩ (fun hHeld => ?_)
      clear hK K hbn
      generalize wc.heap.size = g8 at hng8 hlg8 hBg8 ⊢
      generalize wc.alloc _ = wv5 at hPc hJc h3c h7c hSc hOc hBg8 hHeld ⊢
      refine wpAnyH_ready (rs := [1, 6]) (by kernel_rfl) (by simp) ?_
      refine (AllReadyH.cons rfl (fun K hK => ?_) (AllReadyH.cons rfl (fun K hK => ?_) AllReadyH.nil))
      · go_simp
        go_wp2_with fail
        (with_reducible refine (summer1_any gs 0 ⟨#[]⟩ _ (by decide) hSc).mono ?_)
        rintro e wv51 ⟨rfl, hSn, hoS⟩
        have hzz : JM.sumF 0 (⟨#[]⟩ : ByteArray).data.toList = 0 := rfl
        rw [hzz] at hSn ⊢
        replace hPc := hPc.only hoS (by simp; omega) (by simp; omega) (by simp; omega)
        replace hJc := hJc.only hoS (by simp; omega) hAgs.out
        replace h3c := h3c.only hoS (by simp; omega)
        replace h7c := h7c.only hoS (by simp; omega)
        replace hOc := hOc.trans hoS
        replace hBg8 := hBg8.only hoS (by simp; omega)
        clear hSc
        have hSc : Blk wv51 gs 152 [.int .u64 ((0 : Nat) : Int)] := hSn
        refine hK.out _ _ ⟨h3c.cell (k := 0) rfl, h7c.cell (k := 0) rfl⟩ (fun hHeld => ?_)
        clear hK K hSn hoS hzz
        refine wpAnyH_ready (rs := [4, 6]) (by kernel_rfl) (by simp) ?_
        refine (AllReadyH.cons rfl (fun K hK => ?_) (AllReadyH.cons rfl (fun K hK => ?_) AllReadyH.nil))
        · go_simp
          go_wp2_with fail
          (with_reducible refine (jfirst_any gj half A c l cl gd gp gm k cp Y M n x _ hx hn h4 h40 hPc hJc).mono ?_)
          rintro e wS ⟨rfl, rfl⟩
          rw [hf.out]
          refine hK.out _ _ ⟨h3c.cell (k := 0) rfl, h7c.cell (k := 0) rfl⟩ (fun hHeld => ?_)
          clear hK K
          refine wpAnyH_ready (rs := [6]) (by kernel_rfl) (by simp) ?_
          refine (AllReadyH.cons rfl (fun K hK => ?_) AllReadyH.nil)
          go_simp
          have hbn := below_new wv51 (.cells #[.int .i64 0] 3)
          have hng9 : gs ≠ wv51.heap.size := fun e => by have := hSc.lt; omega
          have hlg9 : w5.heap.size ≤ wv51.heap.size := hOc.size
          have hn89 : g8 ≠ wv51.heap.size := fun e => by have := hBg8.lt; omega
          have hBg9 := blk_new wv51 3 [.int .i64 0]
          replace hPc := hPc.next hbn
          replace hJc := hJc.next hbn
          replace h3c := h3c.next hbn h3c.lt
          replace h7c := h7c.next hbn h7c.lt
          replace hSc := hSc.next hbn hSc.lt
          replace hOc := hOc.trans (Only.of_below hbn)
          replace hBg8 := hBg8.next hbn hBg8.lt
          refine hK.out _ _ ⟨h3c.cell (k := 0) rfl, h7c.cell (k := 0) rfl⟩ (fun hHeld => ?_)
          clear hK K hbn
          generalize wv51.heap.size = g9 at hng9 hlg9 hBg9 hn89 ⊢
          generalize wv51.alloc _ = wv5146 at hPc hJc h3c h7c hSc hOc hBg9 hBg8 hHeld ⊢
          refine wpAnyH_ready (rs := [7]) (by kernel_rfl) (by simp) ?_
          refine AllReadyH.cons rfl (fun K hK => ?_) AllReadyH.nil
          rw [if_pos (by rfl)]
          refine wp_put 152 (.tmp 8) (.tmp 16) rfl g8 0 rfl (.int .u64 ((0 : Nat) : Int)) rfl hBg8 [.int .u64 ((0 : Nat) : Int)] rfl (by exact Try.szU) (by simp) (one_cell1 rfl) ?_
          intro w7 hu7 hB87
          refine hK.out _ _ ⟨(h3c.upd hu7 (by omega)).cell (k := 0) rfl, (h7c.upd hu7 (by omega)).cell (k := 0) rfl⟩ (fun hHeld => ?_)
          clear hK K
          refine wpAnyH_ready (rs := [8]) (by kernel_rfl) (by simp) ?_
          refine AllReadyH.cons rfl (fun K hK => ?_) AllReadyH.nil
          rw [if_pos (by rfl)]
          refine wp_put 3 (.tmp 9) (.tmp 19) rfl g9 0 rfl (.int .i64 (f : Int)) rfl (hBg9.upd hu7 (by omega)) [.int .i64 (f : Int)] rfl (by exact Try.sz3) (by simp) (one_cell1 rfl) ?_
          intro w8 hu8 hB98
          refine hK.out _ _ ⟨((h3c.upd hu7 (by omega)).upd hu8 (by omega)).cell (k := 0) rfl, ((h7c.upd hu7 (by omega)).upd hu8 (by omega)).cell (k := 0) rfl⟩ (fun hHeld => ?_)
          clear hK K
          refine wpAnyH_done (by kernel_rfl) ?_ _
          exact ⟨g8, g9, _, _, _, _, _, rfl, hB87.upd hu8 (by omega), hB98, (hSc.upd hu7 hng8).upd hu8 hng9, only_new (only_new hOc hu7 hlg8) hu8 hlg9, hlg8, hlg9, by omega⟩
        · go_simp
          have hbn := below_new wv51 (.cells #[.int .i64 0] 3)
          have hng9 : gs ≠ wv51.heap.size := fun e => by have := hSc.lt; omega
          have hlg9 : w5.heap.size ≤ wv51.heap.size := hOc.size
          have hn89 : g8 ≠ wv51.heap.size := fun e => by have := hBg8.lt; omega
          have hBg9 := blk_new wv51 3 [.int .i64 0]
          replace hPc := hPc.next hbn
          replace hJc := hJc.next hbn
          replace h3c := h3c.next hbn h3c.lt
          replace h7c := h7c.next hbn h7c.lt
          replace hSc := hSc.next hbn hSc.lt
          replace hOc := hOc.trans (Only.of_below hbn)
          replace hBg8 := hBg8.next hbn hBg8.lt
          refine hK.out _ _ ⟨h3c.cell (k := 0) rfl, h7c.cell (k := 0) rfl⟩ (fun hHeld => ?_)
          clear hK K hbn
          generalize wv51.heap.size = g9 at hng9 hlg9 hBg9 hn89 ⊢
          generalize wv51.alloc _ = wv516 at hPc hJc h3c h7c hSc hOc hBg9 hBg8 hHeld ⊢
          refine wpAnyH_ready (rs := [4]) (by kernel_rfl) (by simp) ?_
          refine (AllReadyH.cons rfl (fun K hK => ?_) AllReadyH.nil)
          go_simp
          go_wp2_with fail
          (with_reducible refine (jfirst_any gj half A c l cl gd gp gm k cp Y M n x _ hx hn h4 h40 hPc hJc).mono ?_)
          rintro e wS ⟨rfl, rfl⟩
          rw [hf.out]
          refine hK.out _ _ ⟨h3c.cell (k := 0) rfl, h7c.cell (k := 0) rfl⟩ (fun hHeld => ?_)
          clear hK K
          refine wpAnyH_ready (rs := [7]) (by kernel_rfl) (by simp) ?_
          refine AllReadyH.cons rfl (fun K hK => ?_) AllReadyH.nil
          rw [if_pos (by rfl)]
          refine wp_put 152 (.tmp 8) (.tmp 16) rfl g8 0 rfl (.int .u64 ((0 : Nat) : Int)) rfl hBg8 [.int .u64 ((0 : Nat) : Int)] rfl (by exact Try.szU) (by simp) (one_cell1 rfl) ?_
          intro w7 hu7 hB87
          refine hK.out _ _ ⟨(h3c.upd hu7 (by omega)).cell (k := 0) rfl, (h7c.upd hu7 (by omega)).cell (k := 0) rfl⟩ (fun hHeld => ?_)
          clear hK K
          refine wpAnyH_ready (rs := [8]) (by kernel_rfl) (by simp) ?_
          refine AllReadyH.cons rfl (fun K hK => ?_) AllReadyH.nil
          rw [if_pos (by rfl)]
          refine wp_put 3 (.tmp 9) (.tmp 19) rfl g9 0 rfl (.int .i64 (f : Int)) rfl (hBg9.upd hu7 (by omega)) [.int .i64 (f : Int)] rfl (by exact Try.sz3) (by simp) (one_cell1 rfl) ?_
          intro w8 hu8 hB98
          refine hK.out _ _ ⟨((h3c.upd hu7 (by omega)).upd hu8 (by omega)).cell (k := 0) rfl, ((h7c.upd hu7 (by omega)).upd hu8 (by omega)).cell (k := 0) rfl⟩ (fun hHeld => ?_)
          clear hK K
          refine wpAnyH_done (by kernel_rfl) ?_ _
          exact ⟨g8, g9, _, _, _, _, _, rfl, hB87.upd hu8 (by omega), hB98, (hSc.upd hu7 hng8).upd hu8 hng9, only_new (only_new hOc hu7 hlg8) hu8 hlg9, hlg8, hlg9, by omega⟩
      · go_simp
        have hbn := below_new wv5 (.cells #[.int .i64 0] 3)
        have hng9 : gs ≠ wv5.heap.size := fun e => by have := hSc.lt; omega
        have hlg9 : w5.heap.size ≤ wv5.heap.size := hOc.size
        have hn89 : g8 ≠ wv5.heap.size := fun e => by have := hBg8.lt; omega
        have hBg9 := blk_new wv5 3 [.int .i64 0]
        replace hPc := hPc.next hbn
        replace hJc := hJc.next hbn
        replace h3c := h3c.next hbn h3c.lt
        replace h7c := h7c.next hbn h7c.lt
        replace hSc := hSc.next hbn hSc.lt
        replace hOc := hOc.trans (Only.of_below hbn)
        replace hBg8 := hBg8.next hbn hBg8.lt
        refine hK.out _ _ ⟨h3c.cell (k := 0) rfl, h7c.cell (k := 0) rfl⟩ (fun hHeld => ?_)
        clear hK K hbn
        generalize wv5.heap.size = g9 at hng9 hlg9 hBg9 hn89 ⊢
        generalize wv5.alloc _ = wv56 at hPc hJc h3c h7c hSc hOc hBg9 hBg8 hHeld ⊢
        refine wpAnyH_ready (rs := [1]) (by kernel_rfl) (by simp) ?_
        refine (AllReadyH.cons rfl (fun K hK => ?_) AllReadyH.nil)
        go_simp
        go_wp2_with fail
        (with_reducible refine (summer1_any gs 0 ⟨#[]⟩ _ (by decide) hSc).mono ?_)
        rintro e wv561 ⟨rfl, hSn, hoS⟩
        have hzz : JM.sumF 0 (⟨#[]⟩ : ByteArray).data.toList = 0 := rfl
        rw [hzz] at hSn ⊢
        replace hPc := hPc.only hoS (by simp; omega) (by simp; omega) (by simp; omega)
        replace hJc := hJc.only hoS (by simp; omega) hAgs.out
        replace h3c := h3c.only hoS (by simp; omega)
        replace h7c := h7c.only hoS (by simp; omega)
        replace hOc := hOc.trans hoS
        replace hBg8 := hBg8.only hoS (by simp; omega)
        replace hBg9 := hBg9.only hoS (by simp; omega)
        clear hSc
        have hSc : Blk wv561 gs 152 [.int .u64 ((0 : Nat) : Int)] := hSn
        refine hK.out _ _ ⟨h3c.cell (k := 0) rfl, h7c.cell (k := 0) rfl⟩ (fun hHeld => ?_)
        clear hK K hSn hoS hzz
        refine wpAnyH_ready (rs := [4]) (by kernel_rfl) (by simp) ?_
        refine (AllReadyH.cons rfl (fun K hK => ?_) AllReadyH.nil)
        go_simp
        go_wp2_with fail
        (with_reducible refine (jfirst_any gj half A c l cl gd gp gm k cp Y M n x _ hx hn h4 h40 hPc hJc).mono ?_)
        rintro e wS ⟨rfl, rfl⟩
        rw [hf.out]
        refine hK.out _ _ ⟨h3c.cell (k := 0) rfl, h7c.cell (k := 0) rfl⟩ (fun hHeld => ?_)
        clear hK K
        refine wpAnyH_ready (rs := [7]) (by kernel_rfl) (by simp) ?_
        refine AllReadyH.cons rfl (fun K hK => ?_) AllReadyH.nil
        rw [if_pos (by rfl)]
        refine wp_put 152 (.tmp 8) (.tmp 16) rfl g8 0 rfl (.int .u64 ((0 : Nat) : Int)) rfl hBg8 [.int .u64 ((0 : Nat) : Int)] rfl (by exact Try.szU) (by simp) (one_cell1 rfl) ?_
        intro w7 hu7 hB87
        refine hK.out _ _ ⟨(h3c.upd hu7 (by omega)).cell (k := 0) rfl, (h7c.upd hu7 (by omega)).cell (k := 0) rfl⟩ (fun hHeld => ?_)
        clear hK K
        refine wpAnyH_ready (rs := [8]) (by kernel_rfl) (by simp) ?_
        refine AllReadyH.cons rfl (fun K hK => ?_) AllReadyH.nil
        rw [if_pos (by rfl)]
        refine wp_put 3 (.tmp 9) (.tmp 19) rfl g9 0 rfl (.int .i64 (f : Int)) rfl (hBg9.upd hu7 (by omega)) [.int .i64 (f : Int)] rfl (by exact Try.sz3) (by simp) (one_cell1 rfl) ?_
        intro w8 hu8 hB98
        refine hK.out _ _ ⟨((h3c.upd hu7 (by omega)).upd hu8 (by omega)).cell (k := 0) rfl, ((h7c.upd hu7 (by omega)).upd hu8 (by omega)).cell (k := 0) rfl⟩ (fun hHeld => ?_)
        clear hK K
        refine wpAnyH_done (by kernel_rfl) ?_ _
        exact ⟨g8, g9, _, _, _, _, _, rfl, hB87.upd hu8 (by omega), hB98, (hSc.upd hu7 hng8).upd hu8 hng9, only_new (only_new hOc hu7 hlg8) hu8 hlg9, hlg8, hlg9, by omega⟩
    · go_simp
      have hbn := below_new wc (.cells #[.int .i64 0] 3)
      have hng9 : gs ≠ wc.heap.size := fun e => by have := hSc.lt; omega
      have hlg9 : w5.heap.size ≤ wc.heap.size := hOc.size
      have hBg9 := blk_new wc 3 [.int .i64 0]
      replace hPc := hPc.next hbn
      replace hJc := hJc.next hbn
      replace h3c := h3c.next hbn h3c.lt
      replace h7c := h7c.next hbn h7c.lt
      replace hSc := hSc.next hbn hSc.lt
      replace hOc := hOc.trans (Only.of_below hbn)
      refine hK.out _ _ ⟨h3c.cell (k := 0) rfl, h7c.cell (k := 0) rfl⟩ (fun hHeld => ?_)
      clear hK K hbn
      generalize wc.heap.size = g9 at hng9 hlg9 hBg9 ⊢
      generalize wc.alloc _ = wv6 at hPc hJc h3c h7c hSc hOc hBg9 hHeld ⊢
      refine wpAnyH_ready (rs := [1, 5]) (by kernel_rfl) (by simp) ?_
      refine (AllReadyH.cons rfl (fun K hK => ?_) (AllReadyH.cons rfl (fun K hK => ?_) AllReadyH.nil))
      · go_simp
        go_wp2_with fail
        (with_reducible refine (summer1_any gs 0 ⟨#[]⟩ _ (by decide) hSc).mono ?_)
        rintro e wv61 ⟨rfl, hSn, hoS⟩
        have hzz : JM.sumF 0 (⟨#[]⟩ : ByteArray).data.toList = 0 := rfl
        rw [hzz] at hSn ⊢
        replace hPc := hPc.only hoS (by simp; omega) (by simp; omega) (by simp; omega)
        replace hJc := hJc.only hoS (by simp; omega) hAgs.out
        replace h3c := h3c.only hoS (by simp; omega)
        replace h7c := h7c.only hoS (by simp; omega)
        replace hOc := hOc.trans hoS
        replace hBg9 := hBg9.only hoS (by simp; omega)
        clear hSc
        have hSc : Blk wv61 gs 152 [.int .u64 ((0 : Nat) : Int)] := hSn
        refine hK.out _ _ ⟨h3c.cell (k := 0) rfl, h7c.cell (k := 0) rfl⟩ (fun hHeld => ?_)
        clear hK K hSn hoS hzz
        refine wpAnyH_ready (rs := [4, 5]) (by kernel_rfl) (by simp) ?_
        refine (AllReadyH.cons rfl (fun K hK => ?_) (AllReadyH.cons rfl (fun K hK => ?_) AllReadyH.nil))
        · go_simp
          go_wp2_with fail
          (with_reducible refine (jfirst_any gj half A c l cl gd gp gm k cp Y M n x _ hx hn h4 h40 hPc hJc).mono ?_)
          rintro e wS ⟨rfl, rfl⟩
          rw [hf.out]
          refine hK.out _ _ ⟨h3c.cell (k := 0) rfl, h7c.cell (k := 0) rfl⟩ (fun hHeld => ?_)
          clear hK K
          refine wpAnyH_ready (rs := [5]) (by kernel_rfl) (by simp) ?_
          refine (AllReadyH.cons rfl (fun K hK => ?_) AllReadyH.nil)
          go_simp
          have hbn := below_new wv61 (.cells #[.int .u64 0] 152)
          have hng8 : gs ≠ wv61.heap.size := fun e => by have := hSc.lt; omega
          have hlg8 : w5.heap.size ≤ wv61.heap.size := hOc.size
          have hn89 : g9 ≠ wv61.heap.size := fun e => by have := hBg9.lt; omega
          have hBg8 := blk_new wv61 152 [.int .u64 0]
          replace hPc := hPc.next hbn
          replace hJc := hJc.next hbn
          replace h3c := h3c.next hbn h3c.lt
          replace h7c := h7c.next hbn h7c.lt
          replace hSc := hSc.next hbn hSc.lt
          replace hOc := hOc.trans (Only.of_below hbn)
          replace hBg9 := hBg9.next hbn hBg9.lt
          refine hK.out _ _ ⟨h3c.cell (k := 0) rfl, h7c.cell (k := 0) rfl⟩ (fun hHeld => ?_)
          clear hK K hbn
          generalize wv61.heap.size = g8 at hng8 hlg8 hBg8 hn89 ⊢
          generalize wv61.alloc _ = wv6145 at hPc hJc h3c h7c hSc hOc hBg8 hBg9 hHeld ⊢
          refine wpAnyH_ready (rs := [7]) (by kernel_rfl) (by simp) ?_
          refine AllReadyH.cons rfl (fun K hK => ?_) AllReadyH.nil
          rw [if_pos (by rfl)]
          refine wp_put 152 (.tmp 8) (.tmp 16) rfl g8 0 rfl (.int .u64 ((0 : Nat) : Int)) rfl hBg8 [.int .u64 ((0 : Nat) : Int)] rfl (by exact Try.szU) (by simp) (one_cell1 rfl) ?_
          intro w7 hu7 hB87
          refine hK.out _ _ ⟨(h3c.upd hu7 (by omega)).cell (k := 0) rfl, (h7c.upd hu7 (by omega)).cell (k := 0) rfl⟩ (fun hHeld => ?_)
          clear hK K
          refine wpAnyH_ready (rs := [8]) (by kernel_rfl) (by simp) ?_
          refine AllReadyH.cons rfl (fun K hK => ?_) AllReadyH.nil
          rw [if_pos (by rfl)]
          refine wp_put 3 (.tmp 9) (.tmp 19) rfl g9 0 rfl (.int .i64 (f : Int)) rfl (hBg9.upd hu7 (by omega)) [.int .i64 (f : Int)] rfl (by exact Try.sz3) (by simp) (one_cell1 rfl) ?_
          intro w8 hu8 hB98
          refine hK.out _ _ ⟨((h3c.upd hu7 (by omega)).upd hu8 (by omega)).cell (k := 0) rfl, ((h7c.upd hu7 (by omega)).upd hu8 (by omega)).cell (k := 0) rfl⟩ (fun hHeld => ?_)
          clear hK K
          refine wpAnyH_done (by kernel_rfl) ?_ _
          exact ⟨g8, g9, _, _, _, _, _, rfl, hB87.upd hu8 (by omega), hB98, (hSc.upd hu7 hng8).upd hu8 hng9, only_new (only_new hOc hu7 hlg8) hu8 hlg9, hlg8, hlg9, by omega⟩
        · go_simp
          have hbn := below_new wv61 (.cells #[.int .u64 0] 152)
          have hng8 : gs ≠ wv61.heap.size := fun e => by have := hSc.lt; omega
          have hlg8 : w5.heap.size ≤ wv61.heap.size := hOc.size
          have hn89 : g9 ≠ wv61.heap.size := fun e => by have := hBg9.lt; omega
          have hBg8 := blk_new wv61 152 [.int .u64 0]
          replace hPc := hPc.next hbn
          replace hJc := hJc.next hbn
          replace h3c := h3c.next hbn h3c.lt
          replace h7c := h7c.next hbn h7c.lt
          replace hSc := hSc.next hbn hSc.lt
          replace hOc := hOc.trans (Only.of_below hbn)
          replace hBg9 := hBg9.next hbn hBg9.lt
          refine hK.out _ _ ⟨h3c.cell (k := 0) rfl, h7c.cell (k := 0) rfl⟩ (fun hHeld => ?_)
          clear hK K hbn
          generalize wv61.heap.size = g8 at hng8 hlg8 hBg8 hn89 ⊢
          generalize wv61.alloc _ = wv615 at hPc hJc h3c h7c hSc hOc hBg8 hBg9 hHeld ⊢
          refine wpAnyH_ready (rs := [4]) (by kernel_rfl) (by simp) ?_
          refine (AllReadyH.cons rfl (fun K hK => ?_) AllReadyH.nil)
          go_simp
          go_wp2_with fail
          (with_reducible refine (jfirst_any gj half A c l cl gd gp gm k cp Y M n x _ hx hn h4 h40 hPc hJc).mono ?_)
          rintro e wS ⟨rfl, rfl⟩
          rw [hf.out]
          refine hK.out _ _ ⟨h3c.cell (k := 0) rfl, h7c.cell (k := 0) rfl⟩ (fun hHeld => ?_)
          clear hK K
          refine wpAnyH_ready (rs := [7]) (by kernel_rfl) (by simp) ?_
          refine AllReadyH.cons rfl (fun K hK => ?_) AllReadyH.nil
          rw [if_pos (by rfl)]
          refine wp_put 152 (.tmp 8) (.tmp 16) rfl g8 0 rfl (.int .u64 ((0 : Nat) : Int)) rfl hBg8 [.int .u64 ((0 : Nat) : Int)] rfl (by exact Try.szU) (by simp) (one_cell1 rfl) ?_
          intro w7 hu7 hB87
          refine hK.out _ _ ⟨(h3c.upd hu7 (by omega)).cell (k := 0) rfl, (h7c.upd hu7 (by omega)).cell (k := 0) rfl⟩ (fun hHeld => ?_)
          clear hK K
          refine wpAnyH_ready (rs := [8]) (by kernel_rfl) (by simp) ?_
          refine AllReadyH.cons rfl (fun K hK => ?_) AllReadyH.nil
          rw [if_pos (by rfl)]
          refine wp_put 3 (.tmp 9) (.tmp 19) rfl g9 0 rfl (.int .i64 (f : Int)) rfl (hBg9.upd hu7 (by omega)) [.int .i64 (f : Int)] rfl (by exact Try.sz3) (by simp) (one_cell1 rfl) ?_
          intro w8 hu8 hB98
          refine hK.out _ _ ⟨((h3c.upd hu7 (by omega)).upd hu8 (by omega)).cell (k := 0) rfl, ((h7c.upd hu7 (by omega)).upd hu8 (by omega)).cell (k := 0) rfl⟩ (fun hHeld => ?_)
          clear hK K
          refine wpAnyH_done (by kernel_rfl) ?_ _
          exact ⟨g8, g9, _, _, _, _, _, rfl, hB87.upd hu8 (by omega), hB98, (hSc.upd hu7 hng8).upd hu8 hng9, only_new (only_new hOc hu7 hlg8) hu8 hlg9, hlg8, hlg9, by omega⟩
      · go_simp
        have hbn := below_new wv6 (.cells #[.int .u64 0] 152)
        have hng8 : gs ≠ wv6.heap.size := fun e => by have := hSc.lt; omega
        have hlg8 : w5.heap.size ≤ wv6.heap.size := hOc.size
        have hn89 : g9 ≠ wv6.heap.size := fun e => by have := hBg9.lt; omega
        have hBg8 := blk_new wv6 152 [.int .u64 0]
        replace hPc := hPc.next hbn
        replace hJc := hJc.next hbn
        replace h3c := h3c.next hbn h3c.lt
        replace h7c := h7c.next hbn h7c.lt
        replace hSc := hSc.next hbn hSc.lt
        replace hOc := hOc.trans (Only.of_below hbn)
        replace hBg9 := hBg9.next hbn hBg9.lt
        refine hK.out _ _ ⟨h3c.cell (k := 0) rfl, h7c.cell (k := 0) rfl⟩ (fun hHeld => ?_)
        clear hK K hbn
        generalize wv6.heap.size = g8 at hng8 hlg8 hBg8 hn89 ⊢
        generalize wv6.alloc _ = wv65 at hPc hJc h3c h7c hSc hOc hBg8 hBg9 hHeld ⊢
        refine wpAnyH_ready (rs := [1]) (by kernel_rfl) (by simp) ?_
        refine (AllReadyH.cons rfl (fun K hK => ?_) AllReadyH.nil)
        go_simp
        go_wp2_with fail
        (with_reducible refine (summer1_any gs 0 ⟨#[]⟩ _ (by decide) hSc).mono ?_)
        rintro e wv651 ⟨rfl, hSn, hoS⟩
        have hzz : JM.sumF 0 (⟨#[]⟩ : ByteArray).data.toList = 0 := rfl
        rw [hzz] at hSn ⊢
        replace hPc := hPc.only hoS (by simp; omega) (by simp; omega) (by simp; omega)
        replace hJc := hJc.only hoS (by simp; omega) hAgs.out
        replace h3c := h3c.only hoS (by simp; omega)
        replace h7c := h7c.only hoS (by simp; omega)
        replace hOc := hOc.trans hoS
        replace hBg8 := hBg8.only hoS (by simp; omega)
        replace hBg9 := hBg9.only hoS (by simp; omega)
        clear hSc
        have hSc : Blk wv651 gs 152 [.int .u64 ((0 : Nat) : Int)] := hSn
        refine hK.out _ _ ⟨h3c.cell (k := 0) rfl, h7c.cell (k := 0) rfl⟩ (fun hHeld => ?_)
        clear hK K hSn hoS hzz
        refine wpAnyH_ready (rs := [4]) (by kernel_rfl) (by simp) ?_
        refine (AllReadyH.cons rfl (fun K hK => ?_) AllReadyH.nil)
        go_simp
        go_wp2_with fail
        (with_reducible refine (jfirst_any gj half A c l cl gd gp gm k cp Y M n x _ hx hn h4 h40 hPc hJc).mono ?_)
        rintro e wS ⟨rfl, rfl⟩
        rw [hf.out]
        refine hK.out _ _ ⟨h3c.cell (k := 0) rfl, h7c.cell (k := 0) rfl⟩ (fun hHeld => ?_)
        clear hK K
        refine wpAnyH_ready (rs := [7]) (by kernel_rfl) (by simp) ?_
        refine AllReadyH.cons rfl (fun K hK => ?_) AllReadyH.nil
        rw [if_pos (by rfl)]
        refine wp_put 152 (.tmp 8) (.tmp 16) rfl g8 0 rfl (.int .u64 ((0 : Nat) : Int)) rfl hBg8 [.int .u64 ((0 : Nat) : Int)] rfl (by exact Try.szU) (by simp) (one_cell1 rfl) ?_
        intro w7 hu7 hB87
        refine hK.out _ _ ⟨(h3c.upd hu7 (by omega)).cell (k := 0) rfl, (h7c.upd hu7 (by omega)).cell (k := 0) rfl⟩ (fun hHeld => ?_)
        clear hK K
        refine wpAnyH_ready (rs := [8]) (by kernel_rfl) (by simp) ?_
        refine AllReadyH.cons rfl (fun K hK => ?_) AllReadyH.nil
        rw [if_pos (by rfl)]
        refine wp_put 3 (.tmp 9) (.tmp 19) rfl g9 0 rfl (.int .i64 (f : Int)) rfl (hBg9.upd hu7 (by omega)) [.int .i64 (f : Int)] rfl (by exact Try.sz3) (by simp) (one_cell1 rfl) ?_
        intro w8 hu8 hB98
        refine hK.out _ _ ⟨((h3c.upd hu7 (by omega)).upd hu8 (by omega)).cell (k := 0) rfl, ((h7c.upd hu7 (by omega)).upd hu8 (by omega)).cell (k := 0) rfl⟩ (fun hHeld => ?_)
        clear hK K
        refine wpAnyH_done (by kernel_rfl) ?_ _
        exact ⟨g8, g9, _, _, _, _, _, rfl, hB87.upd hu8 (by omega), hB98, (hSc.upd hu7 hng8).upd hu8 hng9, only_new (only_new hOc hu7 hlg8) hu8 hlg9, hlg8, hlg9, by omega⟩
  case rest =>
    clear c3d c7d hPd hJd hSd hbd5
    rintro a3 wx ⟨g8, g9, u15, u16, u17, u18, u19, rfl, hB8, hB9, hSx, hOx, hl8, hl9, hn89⟩
    simp only [Exit.then]
    have hs5 := hbe5.size
    have hBj := (hJ5.d).only hOx (by simp; omega)
    have hB3x := hB35.only hOx (by simpa using hne3s)
    have hB6x := hB65.only hOx (by simpa using hne6s)
    have hB7x := hB75'.only hOx (by simpa using Ne.symm hnes7)
    have hPx := hP5.only hOx (by simp; omega) (by simp; omega) (by simp; omega)
    have hRx : RowAt wx A2 (rs.map Value.string) := (hR.next hbe5).only hOx (fun g hg => by have := hA2l g hg; simp; omega)
    have hOw : Only [gd, gp, gm] w wx := (Only.of_below hbe5).drop hOx (by simp; omega)
    have h3l : g3 < w5.heap.size := hB35.lt
    have h6l : g6 < w5.heap.size := hB65.lt
    have h7l : g7 < w5.heap.size := hB75'.lt
    have hsl : gs < w5.heap.size := hS5.lt
    have hjl5 : gj < w5.heap.size := by omega
    have hgx : ∀ g ∈ [gd, gm, gs, g6, g8, g9], g < wx.heap.size := by
      have e1 := hPx.d.lt
      have e3 := hPx.m.lt
      have e6 := hB6x.lt
      have e8 := hB8.lt
      have e9 := hB9.lt
      have e10 := hSx.lt
      intro g hg
      simp only [List.mem_cons, List.not_mem_nil, or_false] at hg
      rcases hg with rfl | rfl | rfl | rfl | rfl | rfl <;> assumption
    have hdl := h.d.lt
    have hpl := h.p.lt
    have hml := h.m.lt
    have hle8 : w.heap.size ≤ g8 := Nat.le_trans hs5 hl8
    have hle9 : w.heap.size ≤ g9 := Nat.le_trans hs5 hl9
    have hne78 : g7 ≠ g8 := fun e => by omega
    clear hP5 hJ5 hB35 hB65 hB75' hS5 hOx hbe5 h hj hR c0
    go_wp2_with fail
    (with_reducible refine (parts_any A2 rs.length c2 _).mono ?_)
    rintro e w6 ⟨gb, rfl, hBb, hb6, hgb⟩
    replace hBj := hBj.next hb6 hBj.lt
    replace hB3x := hB3x.next hb6 hB3x.lt
    replace hB6x := hB6x.next hb6 hB6x.lt
    replace hB7x := hB7x.next hb6 hB7x.lt
    replace hB8 := hB8.next hb6 hB8.lt
    replace hB9 := hB9.next hb6 hB9.lt
    replace hSx := hSx.next hb6 hSx.lt
    replace hPx := hPx.next hb6
    replace hRx := hRx.next hb6
    replace hOw := hOw.trans (Only.of_below hb6)
    have hbl : gb < w6.heap.size := hBb.lt
    have hlt6 : ∀ g ∈ [gj, gd, gp, gm, g3, g6, g7, g8, g9, gs], g < w6.heap.size := by
      have e1 := hPx.d.lt
      have e2 := hPx.p.lt
      have e3 := hPx.m.lt
      have e4 := hBj.lt
      have e5 := hB3x.lt
      have e6 := hB6x.lt
      have e7 := hB7x.lt
      have e8 := hB8.lt
      have e9 := hB9.lt
      have e10 := hSx.lt
      intro g hg
      simp only [List.mem_cons, List.not_mem_nil, or_false] at hg
      rcases hg with rfl | rfl | rfl | rfl | rfl | rfl | rfl | rfl | rfl | rfl <;> assumption
    have hA6 : ∀ g, A2 = some ⟨g, 0, none⟩ → g < w6.heap.size := fun g hg => Nat.lt_of_lt_of_le (hA2l g hg) hOw.size
    obtain ⟨jl, hjl⟩ : ∃ jl : List Value, Hid ([Value.pointer (some ⟨gd, 0, none⟩), Value.int .i64 (half : Int), Value.slice A l.length c, Value.bool cl] = jl) := ⟨_, rfl⟩
    have hj0 : Hid (jl[0]? = some (Value.pointer (some ⟨gd, 0, none⟩))) := by
      have : jl[0]? = some (Value.pointer (some ⟨gd, 0, none⟩)) := by rw [← hjl.out]; rfl
      exact this
    rw [hjl.out] at hBj
    have hI0 : FlI gj gd gp gm g3 g6 g7 g8 g9 gs cp k f jl A2 rs Y M S w6 0 w6 := ⟨hPx, hBj, hB3x, hB7x, hB6x, hB8, hSx, hB9, hRx, Only.refl _ _⟩
    have hgbL : gb ∉ (w6.heap.size + 1) :: [gd, gm, gs, g6, g8, g9] := by
      intro hm
      rcases List.mem_cons.1 hm with e | e
      · omega
      · have := hgx gb e
        omega
    clear hb6 hPx hBj hB3x hB7x hB6x hB8 hSx hB9 hRx
    go_wp2_with fail
    refine wpIn_wide.1 (range_walk (n := 4) (gf := 134) (lb := #[.pointer (some ⟨gb, 0, none⟩)]) rfl (enters_of Try.func134 (by kernel_rfl) rfl) (encs := encP) (fun _ => rfl) [gd, gm, gs, g6, g8, g9] ?hL (JM.rows S (JM.pcs S))
      (fun pre W => ∃ j, pre = JM.rows S j ∧ FlI gj gd gp gm g3 g6 g7 g8 g9 gs cp k f jl A2 rs Y M S w6 j W) (fun co pre W => co = .ret ∧ ∃ j, j < JM.pcs S ∧ (JM.fillTo M f S (j + 1)).up = false ∧ FlX gd gp gm g6 g8 g9 gs cp k f Y M S w6 j W) ?hI ?hIx ⟨0, rfl, hI0⟩
      (fun y => { tmps := #[.pointer (some ⟨gj, 0, none⟩), .int .i64 (x : Int), .slice A2 rs.length c2, .pointer (some ⟨g3, 0, none⟩), undef, undef, .pointer (some ⟨g6, 0, none⟩), .pointer (some ⟨g7, 0, none⟩), .pointer (some ⟨g8, 0, none⟩), .pointer (some ⟨g9, 0, none⟩), .string ⟨y.toArray⟩, undef, undef, undef, .func (.func 133) #[] #[.pointer (some ⟨gs, 0, none⟩)], u15, u16, u17, u18, u19, .slice A2 rs.length c2, .func (.func 134) #[] #[.pointer (some ⟨gb, 0, none⟩)], .string ⟨y.toArray⟩, undef, undef, undef, undef, undef, undef, undef, undef, undef, undef, undef, undef, undef, undef, undef, undef, undef, undef, undef, undef, undef, undef, undef, undef, undef, undef, undef, undef, undef, undef, undef, undef, undef, undef, undef, undef], defers := [] }) ?assign ?body ?iter ?done ?stop)
    case hL => intro g hg; exact hlt6 g (by simp at hg ⊢; omega)
    case hI => rintro s W W' ⟨j, rfl, hi⟩ _ hb; exact ⟨j, rfl, hi.later hlt6 hA6 hb⟩
    case hIx => rintro co s W W' ⟨rfl, j, hj, hd, hi⟩ _ hb; exact ⟨rfl, j, hj, hd, hi.later (fun g hg => hlt6 g (by simp at hg ⊢; omega)) hb⟩
    case assign =>
      intro l' y W K hK
      dsimp only [encP]
      gi_wp2
      exact hK
    case iter =>
      intro W1 hb1 hs1
      rw [← hSS.out]
      refine parts1_in 3 _ gb c2 A2 rs _ W1 (by have : capOf n ≤ 2432 := by unfold capOf; omega
                                                omega) (fun r hr => by have := hr8 r hr; omega) (hBb.next hb1 hBb.lt) (hI0.row.next hb1) hgbL ?_ ?_
      · intro g hg hm
        have e1 := hA2l g hg
        have e2 := hA2 g hg
        have e3 := hOw.size
        rcases List.mem_cons.1 hm with e | e
        · omega
        · simp at e e2
          omega
      · intro g hg
        rcases List.mem_cons.1 hg with e | e
        · omega
        · have := hlt6 g (by simp at e ⊢; omega)
          omega
    case body =>
      rintro l' pre y W ⟨j, rfl, hi⟩ hWs hpx
      obtain ⟨hjm, rfl⟩ := rows_elem hpx
      have hpcn := pcs_le (S := S) (n := n) (by rw [← hSS.out, JM.stream_length]; exact hu)
      have hfj : f + j < n := by
        have e1 := hf.out
        have e2 : hpOf n * 2 + 2 ≤ n := by unfold hpOf; omega
        rcases (by omega : x = 0 ∨ x = 1) with rfl | rfl <;> omega
      have hjn : j ≤ 40 := by omega
      have okj := JM.fillTo_ok HM.out f S j
      have hlen : (JM.fillTo M f S j).ps.length = n := by rw [JM.fillTo_len]; exact hn
      have hps := JM.piece_size S j
      have hwE : (JM.fillTo M f S j).writeE ((f + j : Nat) : Int) 0 (JM.piece S j) = upE (JM.fillTo M f S (j + 1)) := write_upE (both_in (a := 0) (by omega) (by omega))
      have hwM : (JM.fillTo M f S j).write ((f + j : Nat) : Int) 0 (JM.piece S j) = JM.fillTo M f S (j + 1) := rfl
      rw [Int.natCast_add] at hwE hwM
      have hbd := below_drew W
      have hPd := hi.pr.next hbd
      have c3 := (hi.b3.next hbd hi.b3.lt).cell (k := 0) rfl
      have cj := (hi.bj.next hbd hi.bj.lt).cell (k := 0) hj0.out
      have c9 := (hi.b9.next hbd hi.b9.lt).cell (k := 0) rfl
      have hmx : Try.prog.follows .mixedOrders = true := by kernel_rfl
      have hcall := CallsIn.inRound l' ((callsIn_wide (n := 1)).2 (write_any gd gp gm (k + j) cp Y (JM.fillTo M f S j) ((f : Int) + (j : Int)) 0 ⟨(JM.piece S j).toArray⟩ W.drew okj (by rw [str_size]; omega) (by omega) hPd))
      have hcall2 : CallsIn (Fence.wide.inRound l') 1 Try.prog 26 #[.pointer (some ⟨gd, 0, none⟩), .int .i64 ((f : Int) + (j : Int)), .int .i64 0, .string ⟨(JM.piece S j).toArray⟩] W.drew fun e w' => e = .returned (.int .i64 (upE (JM.fillTo M f S (j + 1)))) ∧ PRep w' gd gp gm cp Y (JM.fillTo M f S (j + 1)) (k + j + 1) ∧ Only [gd, gm] W.drew w' := by
        refine hcall.mono ?_
        rintro e w' ⟨rfl, hPn, hOn⟩
        rw [str_toList, hwM] at hPn
        rw [str_toList, hwE]
        exact ⟨rfl, hPn, hOn⟩
      clear hcall
      have HWE := Lib.hid hwE
      have HWM := Lib.hid hwM
      clear hwE hwM hpx
      obtain ⟨E, hE⟩ : ∃ E, Hid (upE (JM.fillTo M f S (j + 1)) = E) := ⟨_, rfl⟩
      rw [hE.out] at hcall2
      gi_wp2
      refine wpIn_cut (R := fun a3 wx => ∃ v23 v24 v25 v26 v27 v28 v29, a3 = ({ tmps := #[.pointer (some ⟨gj, 0, none⟩), .int .i64 (x : Int), .slice A2 rs.length c2, .pointer (some ⟨g3, 0, none⟩), undef, undef, .pointer (some ⟨g6, 0, none⟩), .pointer (some ⟨g7, 0, none⟩), .pointer (some ⟨g8, 0, none⟩), .pointer (some ⟨g9, 0, none⟩), .string ⟨(JM.piece S j).toArray⟩, .int .i64 E, undef, undef, .func (.func 133) #[] #[.pointer (some ⟨gs, 0, none⟩)], u15, u16, u17, u18, u19, .slice A2 rs.length c2, .func (.func 134) #[] #[.pointer (some ⟨gb, 0, none⟩)], .string ⟨(JM.piece S j).toArray⟩, v23, v24, v25, v26, v27, v28, v29, undef, undef, undef, undef, undef, undef, undef, undef, undef, undef, undef, undef, undef, undef, undef, undef, undef, undef, undef, undef, undef, undef, undef, undef, undef, undef, undef, undef, undef], defers := [] } : Act) ∧ PRep wx gd gp gm cp Y (JM.fillTo M f S (j + 1)) (k + j + 1) ∧ Only [gd, gm] W wx) ?first ?rest
      case first =>
        gi_region_with_o (refine ⟨trivial, hcall2.mono ?_⟩; rintro e w' ⟨rfl, hPn, hOn⟩)
        all_goals exact ⟨_, _, _, _, _, _, _, rfl, hPn, (Only.of_below hbd).trans hOn⟩
      case rest =>
        rintro a3 w' ⟨v23, v24, v25, v26, v27, v28, v29, rfl, hPn, hOw'⟩
        simp only [Exit.then]
        have h7n := hi.b7.only hOw' (by simp; omega)
        have hsn := hi.bs.only hOw' (by simp; omega)
        have h8n := hi.b8.only hOw' (by simp; omega)
        have h9n := hi.b9.only hOw' (by simp; omega)
        have h6n := hi.b6.only hOw' (by simp; omega)
        have h3n := hi.b3.only hOw' (by simp; omega)
        have hjn2 := hi.bj.only hOw' (by simp at hjd ⊢; omega)
        have hrn := hi.row.only hOw' (fun g hg => by have := hA2 g hg; simp at this ⊢; omega)
        have hkn := hi.ko.trans (hOw'.mono (by simp))
        have c7 := h7n.cell (k := 0) rfl
        have c9n := h9n.cell (k := 0) rfl
        cases hup : (JM.fillTo M f S (j + 1)).up with
        | true =>
          have he := upE_up hup
          rw [hE.out] at he
          subst he
          clear hi hPd c3 cj c9 hcall2
          gi_wp2_with fail
          refine ⟨trivial, (CallsIn.inRound l' ((callsIn_wide (n := 1)).2 (summer1_any gs _ ⟨(JM.piece S j).toArray⟩ _ (by rw [str_size]; omega) hsn))).mono ?_⟩
          rintro e wS ⟨rfl, hSn, hoS⟩
          have hv : JM.sumF (JM.sumF 0 (S.take (128 * j))) (⟨(JM.piece S j).toArray⟩ : ByteArray).data.toList = JM.sumF 0 (S.take (128 * (j + 1))) := by rw [str_toList, JM.take_pieces, JM.sumF_append]
          rw [hv] at hSn ⊢
          have c9S := (h9n.only hoS (by simp; omega)).cell (k := 0) rfl
          have h8S := h8n.only hoS (by simp; omega)
          have h9S := h9n.only hoS (by simp; omega)
          gi_wp2_with (with_reducible refine wpListIn_put (o := ⟨none, .store 152 (.tmp 8) (.tmp 35), _, _, _, _⟩) (by with_unfolding_all rfl) 152 (.tmp 8) (.tmp 35) (by with_unfolding_all rfl) g8 0 (by with_unfolding_all rfl) (.int .u64 (JM.sumF 0 (S.take (128 * (j + 1))) : Nat)) (by with_unfolding_all rfl) h8S [.int .u64 (JM.sumF 0 (S.take (128 * (j + 1))) : Nat)] (by with_unfolding_all rfl) (by with_unfolding_all exact Try.szU) (by with_unfolding_all simp) (by with_unfolding_all exact one_cell1 rfl) ?_)
          intro w8 hu8 hB8n
          have c9u := (h9S.upd hu8 (by omega)).cell (k := 0) rfl
          have h9u := h9S.upd hu8 (by omega)
          clear c7 c9n c9S
          gi_wp2_with (with_reducible refine wpListIn_put (o := ⟨none, .store 3 (.tmp 9) (.tmp 37), _, _, _, _⟩) (by with_unfolding_all rfl) 3 (.tmp 9) (.tmp 37) (by with_unfolding_all rfl) g9 0 (by with_unfolding_all rfl) (.int .i64 ((f : Int) + (j : Int) + 1)) (by with_unfolding_all rfl) h9u [.int .i64 ((f : Int) + (j : Int) + 1)] (by with_unfolding_all rfl) (by with_unfolding_all exact Try.sz3) (by with_unfolding_all simp) (by with_unfolding_all exact one_cell1 rfl) ?_)
          intro w9 hu9 hB9n
          have hB9' : Blk w9 g9 3 [.int .i64 ((f + (j + 1) : Nat) : Int)] := by
            have e : ((f : Int) + (j : Int) + 1) = ((f + (j + 1) : Nat) : Int) := by omega
            rw [← e]; exact hB9n
          have hB8' : Blk w9 g8 152 [.int .u64 (JM.sumF 0 (S.take (128 * (j + 1))) : Nat)] := by
            have : Blk w8 g8 152 [.int .u64 (JM.sumF 0 (S.take (128 * (j + 1))) : Nat)] := hB8n
            exact this.upd hu9 (by omega)
          have hoT : Only [gs, g8, g9] w' w9 := ((hoS.mono (by simp)).trans (Only.of_upd hu8 (by simp))).trans (Only.of_upd hu9 (by simp))
          have hI' : FlI gj gd gp gm g3 g6 g7 g8 g9 gs cp k f jl A2 rs Y M S w6 (j + 1) w9 :=
            ⟨hPn.only hoT (by simp; omega) (by simp; omega) (by simp; omega), hjn2.only hoT (by simp; omega), h3n.only hoT (by simp; omega), h7n.only hoT (by simp; omega), h6n.only hoT (by simp; omega), hB8', (hSn.upd hu8 (by omega)).upd hu9 (by omega), hB9', hrn.only hoT (fun g hg => by have := hA2l g hg; simp; omega), hkn.trans (hoT.mono (by simp))⟩
          have hoW : Only [gd, gm, gs, g6, g8, g9] W w9 := (hOw'.mono (by simp)).trans (hoT.mono (by simp))
          clear hB8n hB9n hu8 hu9 h8S h9S h9u c9u
          gi_wp2
          exact ⟨hoW, j + 1, JM.rows_next _ _, hI'⟩
        | false =>
          have he := upE_down hup
          rw [hE.out] at he
          subst he
          clear hi hPd c3 cj c9 hcall2
          gi_wp2_with (with_reducible refine wpListIn_put (o := ⟨none, .store 26 (.tmp 6) (.tmp 32), _, _, _, _⟩) (by with_unfolding_all rfl) 26 (.tmp 6) (.tmp 32) (by with_unfolding_all rfl) g6 0 (by with_unfolding_all rfl) (.int .i64 13) (by with_unfolding_all rfl) h6n [.int .i64 13] (by with_unfolding_all rfl) (by with_unfolding_all exact Try.sz26) (by with_unfolding_all simp) (by with_unfolding_all exact one_cell1 rfl) ?_)
          intro w9 hu9 hB6n
          have hX : FlX gd gp gm g6 g8 g9 gs cp k f Y M S w6 j w9 := ⟨hPn.only (Only.of_upd (L := [g6]) hu9 (by simp)) (by simp; omega) (by simp; omega) (by simp; omega), hB6n, hkn.trans (Only.of_upd hu9 (by simp))⟩
          have hoW : Only [gd, gm, gs, g6, g8, g9] W w9 := (hOw'.mono (by simp)).trans (Only.of_upd hu9 (by simp))
          gi_wp2
          exact ⟨hoW, rfl, j, hjm, hup, hX⟩
    case done =>
      rintro W ⟨j, hjr, hi⟩ hWs hD
      have hjp : JM.pcs S = j := by
        have := congrArg List.length hjr
        rw [JM.rows_length, JM.rows_length] at this
        exact this
      simp only
      have hu2 : capOf n ≤ 2432 := by unfold capOf; omega
      have hu6 : JM.useR rs ≤ 1000000 := by omega
      obtain ⟨U, hU⟩ : ∃ U, Hid (JM.useR rs = U) := ⟨_, rfl⟩
      have hUl : Hid (S.length = U) := by
        have : S.length = U := by rw [← hSS.out, JM.stream_length]; exact hU.out
        exact this
      have hUb : U ≤ 2432 := by rw [← hU.out]; omega
      have hpl2 : S.take (128 * j) = S := by
        rw [← hjp]
        refine List.take_of_length_le ?_
        unfold JM.pcs
        omega
      have h8 := hi.b8
      rw [hpl2] at h8
      have hsmb : JM.sumF 0 S < 18446744073709551616 := JM.sumF_lt S 0 JM.W_pos
      obtain ⟨sm, hsm⟩ : ∃ sm, Hid (JM.sumF 0 S = sm) := ⟨_, rfl⟩
      rw [hsm.out] at h8 hsmb
      obtain ⟨HB, hHB⟩ : ∃ HB, Hid (JM.headB U sm = HB) := ⟨_, rfl⟩
      have hHBl : Hid ((HB.map B8).length = 16) := by
        have : (HB.map B8).length = 16 := by rw [List.length_map, ← hHB.out]; exact JM.headB_length U sm
        exact this
      obtain ⟨ZH, hZH⟩ : ∃ ZH, Hid (H16 = ZH) := ⟨_, rfl⟩
      have hZl : Hid (ZH.length = 16) := by
        have : ZH.length = 16 := by rw [← hZH.out]; exact H16_length
        exact this
      have hbd := below_drew W
      have hWs2 : W.heap.size ≤ W.heap.size := Nat.le_refl _
      go_wp2_with fail
      refine wp_cut (R := fun a3 wx => ∃ g12 v38 v39 v40 v41, a3 = ({ tmps := #[.pointer (some ⟨gj, 0, none⟩), .int .i64 (x : Int), .slice A2 rs.length c2, .pointer (some ⟨g3, 0, none⟩), undef, undef, .pointer (some ⟨g6, 0, none⟩), .pointer (some ⟨g7, 0, none⟩), .pointer (some ⟨g8, 0, none⟩), .pointer (some ⟨g9, 0, none⟩), undef, undef, .pointer (some ⟨g12, 0, none⟩), undef, .func (.func 133) #[] #[.pointer (some ⟨gs, 0, none⟩)], u15, u16, u17, u18, u19, .slice A2 rs.length c2, .func (.func 134) #[] #[.pointer (some ⟨gb, 0, none⟩)], undef, undef, undef, undef, undef, undef, undef, undef, undef, undef, undef, undef, undef, undef, undef, undef, v38, v39, v40, v41, undef, undef, undef, undef, undef, undef, undef, undef, undef, undef, undef, undef, undef, undef, undef, undef, undef], defers := [{ target := .collected w6.heap.size, args := #[] }] } : Act) ∧ Blk wx g12 149 (HB.map B8) ∧ Only [] W wx ∧ W.heap.size ≤ g12) ?first ?rest
      case first =>
        refine wp_region_held_drew (S := fun w' => w'.cell? ⟨g8, 0, none⟩ = some (.int .u64 (sm : Int))) (by kernel_rfl) ((h8.next hbd h8.lt).cell (k := 0) rfl) (fun hHeld => ?_)
        have hbc := hbd
        have hrc := hi.row.next hbd
        have h8c := h8.next hbd h8.lt
        have h8l : g8 < W.heap.size := h8.lt
        clear hbd
        generalize W.drew = wd at hbc hrc h8c hHeld ⊢
        refine wpAnyH_take (i := 0) (v := ?vz0) rfl (by kernel_rfl) (by kernel_rfl) (by kernel_rfl) (fun _ _ _ h => h) (Or.inl ⟨by rfl, ?yz0⟩) (by assumption) ?rz0
        case yz0 => intro w hSw; (try dsimp only at hSw); go_simp <;> (try with_reducible rfl)
        (try simp only [List.getElem_toArray, List.getElem_cons_zero, Act.put, List.setIfInBounds_toArray, List.set_cons_zero, List.set_cons_succ])
        refine wpAnyH_take (i := 2) (v := ?vz2) rfl (by kernel_rfl) (by kernel_rfl) (by kernel_rfl) (fun _ _ _ h => h) (Or.inl ⟨by rfl, ?yz2⟩) (by assumption) ?rz2
        case yz2 => intro w hSw; (try dsimp only at hSw); go_simp <;> (try with_reducible rfl)
        (try simp only [List.getElem_toArray, List.getElem_cons_succ, List.getElem_cons_zero, Act.put, List.setIfInBounds_toArray, List.set_cons_zero, List.set_cons_succ])
        --region10 begin
        refine wpAnyH_ready (rs := [1, 4]) (by kernel_rfl) (by simp) ?_
        refine (AllReadyH.cons rfl (fun K hK => ?_) (AllReadyH.cons rfl (fun K hK => ?_) AllReadyH.nil))
        · go_simp
          go_wp2_with fail
          (with_reducible refine (use_any A2 c2 rs _ hu6 hrc).mono ?_)
          rintro e wu ⟨rfl, rfl⟩
          rw [hU.out]
          refine hK.out _ _ (h8c.cell (k := 0) rfl) (fun hHeld => ?_)
          clear hK K
          refine wpAnyH_ready (rs := [3, 4]) (by kernel_rfl) (by simp) ?_
          refine (AllReadyH.cons rfl (fun K hK => ?_) (AllReadyH.cons rfl (fun K hK => ?_) AllReadyH.nil))
          · go_simp
            go_wp2_with fail
            (with_reducible refine (headOf_any _ _ _ (by omega) hsmb).mono ?_)
            rintro e wd3 ⟨rfl, hbn⟩
            rw [hHB.out]
            replace hbc := below_join hbc hbn
            replace hrc := hrc.next hbn
            replace h8c := h8c.next hbn h8c.lt
            clear hbn
            refine hK.out _ _ (h8c.cell (k := 0) rfl) (fun hHeld => ?_)
            clear hK K
            refine wpAnyH_ready (rs := [4]) (by kernel_rfl) (by simp) ?_
            refine (AllReadyH.cons rfl (fun K hK => ?_) AllReadyH.nil)
            rw [if_pos (by rfl)]
            refine wp_new 149 rfl (.agg H16.toArray) H16 (by exact Try.zeroH) rfl ?_
            intro g12 wd34 hg12 hbn hB12
            rw [hZH.out] at hB12
            have hl12 : W.heap.size ≤ g12 := by rw [hg12]; exact hbc.size
            replace hbc := below_join hbc hbn
            replace hrc := hrc.next hbn
            replace h8c := h8c.next hbn h8c.lt
            clear hbn hg12
            refine hK.out _ _ (h8c.cell (k := 0) rfl) (fun hHeld => ?_)
            clear hK K
            refine wpAnyH_ready (rs := [5]) (by kernel_rfl) (by simp) ?_
            refine AllReadyH.cons rfl (fun K hK => ?_) AllReadyH.nil
            rw [if_pos (by rfl)]
            refine wp_put 149 (.tmp 12) (.tmp 41) rfl g12 0 rfl (.agg (HB.map B8).toArray) rfl hB12 (HB.map B8) rfl (by rw [hHBl.out]; exact Try.sizeH) (by rw [hHBl.out, hZl.out]; exact Nat.le_refl _) (B8_one _) ?_
            intro w7 hu7 hB7
            rw [splice_all _ _ (by rw [hHBl.out, hZl.out])] at hB7
            refine hK.out _ _ ((h8c.upd hu7 (by omega)).cell (k := 0) rfl) (fun hHeld => ?_)
            refine wpAnyH_done (by kernel_rfl) ?_ _
            exact ⟨g12, _, _, _, _, rfl, hB7, only_new (L := []) (Only.of_below (hbc.mono hWs2)) hu7 hl12, hl12⟩
          · rw [if_pos (by rfl)]
            refine wp_new 149 rfl (.agg H16.toArray) H16 (by exact Try.zeroH) rfl ?_
            intro g12 wd4 hg12 hbn hB12
            rw [hZH.out] at hB12
            have hl12 : W.heap.size ≤ g12 := by rw [hg12]; exact hbc.size
            replace hbc := below_join hbc hbn
            replace hrc := hrc.next hbn
            replace h8c := h8c.next hbn h8c.lt
            clear hbn hg12
            refine hK.out _ _ (h8c.cell (k := 0) rfl) (fun hHeld => ?_)
            clear hK K
            refine wpAnyH_ready (rs := [3]) (by kernel_rfl) (by simp) ?_
            refine (AllReadyH.cons rfl (fun K hK => ?_) AllReadyH.nil)
            go_simp
            go_wp2_with fail
            (with_reducible refine (headOf_any _ _ _ (by omega) hsmb).mono ?_)
            rintro e wd43 ⟨rfl, hbn⟩
            rw [hHB.out]
            replace hbc := below_join hbc hbn
            replace hrc := hrc.next hbn
            replace h8c := h8c.next hbn h8c.lt
            replace hB12 := hB12.next hbn hB12.lt
            clear hbn
            refine hK.out _ _ (h8c.cell (k := 0) rfl) (fun hHeld => ?_)
            clear hK K
            refine wpAnyH_ready (rs := [5]) (by kernel_rfl) (by simp) ?_
            refine AllReadyH.cons rfl (fun K hK => ?_) AllReadyH.nil
            rw [if_pos (by rfl)]
            refine wp_put 149 (.tmp 12) (.tmp 41) rfl g12 0 rfl (.agg (HB.map B8).toArray) rfl hB12 (HB.map B8) rfl (by rw [hHBl.out]; exact Try.sizeH) (by rw [hHBl.out, hZl.out]; exact Nat.le_refl _) (B8_one _) ?_
            intro w7 hu7 hB7
            rw [splice_all _ _ (by rw [hHBl.out, hZl.out])] at hB7
            refine hK.out _ _ ((h8c.upd hu7 (by omega)).cell (k := 0) rfl) (fun hHeld => ?_)
            refine wpAnyH_done (by kernel_rfl) ?_ _
            exact ⟨g12, _, _, _, _, rfl, hB7, only_new (L := []) (Only.of_below (hbc.mono hWs2)) hu7 hl12, hl12⟩
        · rw [if_pos (by rfl)]
          refine wp_new 149 rfl (.agg H16.toArray) H16 (by exact Try.zeroH) rfl ?_
          intro g12 wd4 hg12 hbn hB12
          rw [hZH.out] at hB12
          have hl12 : W.heap.size ≤ g12 := by rw [hg12]; exact hbc.size
          replace hbc := below_join hbc hbn
          replace hrc := hrc.next hbn
          replace h8c := h8c.next hbn h8c.lt
          clear hbn hg12
          refine hK.out _ _ (h8c.cell (k := 0) rfl) (fun hHeld => ?_)
          clear hK K
          refine wpAnyH_ready (rs := [1]) (by kernel_rfl) (by simp) ?_
          refine (AllReadyH.cons rfl (fun K hK => ?_) AllReadyH.nil)
          go_simp
          go_wp2_with fail
          (with_reducible refine (use_any A2 c2 rs _ hu6 hrc).mono ?_)
          rintro e wu ⟨rfl, rfl⟩
          rw [hU.out]
          refine hK.out _ _ (h8c.cell (k := 0) rfl) (fun hHeld => ?_)
          clear hK K
          refine wpAnyH_ready (rs := [3]) (by kernel_rfl) (by simp) ?_
          refine (AllReadyH.cons rfl (fun K hK => ?_) AllReadyH.nil)
          go_simp
          go_wp2_with fail
          (with_reducible refine (headOf_any _ _ _ (by omega) hsmb).mono ?_)
          rintro e wd43 ⟨rfl, hbn⟩
          rw [hHB.out]
          replace hbc := below_join hbc hbn
          replace hrc := hrc.next hbn
          replace h8c := h8c.next hbn h8c.lt
          replace hB12 := hB12.next hbn hB12.lt
          clear hbn
          refine hK.out _ _ (h8c.cell (k := 0) rfl) (fun hHeld => ?_)
          clear hK K
          refine wpAnyH_ready (rs := [5]) (by kernel_rfl) (by simp) ?_
          refine AllReadyH.cons rfl (fun K hK => ?_) AllReadyH.nil
          rw [if_pos (by rfl)]
          refine wp_put 149 (.tmp 12) (.tmp 41) rfl g12 0 rfl (.agg (HB.map B8).toArray) rfl hB12 (HB.map B8) rfl (by rw [hHBl.out]; exact Try.sizeH) (by rw [hHBl.out, hZl.out]; exact Nat.le_refl _) (B8_one _) ?_
          intro w7 hu7 hB7
          rw [splice_all _ _ (by rw [hHBl.out, hZl.out])] at hB7
          refine hK.out _ _ ((h8c.upd hu7 (by omega)).cell (k := 0) rfl) (fun hHeld => ?_)
          refine wpAnyH_done (by kernel_rfl) ?_ _
          exact ⟨g12, _, _, _, _, rfl, hB7, only_new (L := []) (Only.of_below (hbc.mono hWs2)) hu7 hl12, hl12⟩
        --region10 end
      case rest =>
        rintro a3 wx ⟨g12, v38, v39, v40, v41, rfl, hB12, hOx, hl12⟩
        simp only [Exit.then]
        have hP1 := hi.pr.only hOx (by simp) (by simp) (by simp)
        have hB6 := hi.b6.only hOx (by simp)
        have hO6 : Only [gd, gm, gs, g6, g8, g9] w6 wx := hi.ko.trans (hOx.mono (by simp))
        have hDx : wx.heap[w6.heap.size]? = some (.deferred (some [])) := (hOx.block _ (Array.getElem?_eq_some_iff.1 hD).1 (by simp)).trans hD
        have hbx := below_drew wx
        have c3 := ((hi.b3.only hOx (by simp)).next hbx (hi.b3.only hOx (by simp)).lt).cell (k := 0) rfl
        have cj := ((hi.bj.only hOx (by simp)).next hbx (hi.bj.only hOx (by simp)).lt).cell (k := 0) hj0.out
        have hb31 := hi.b3.only hOx (by simp)
        have hbj1 := hi.bj.only hOx (by simp)
        have hPd := hP1.next hbx
        have hcut := run_cutH (P := Try.prog) 149 5 16 Try.underlying149 Try.szB8 (by decide) g12 wx.drew
        have hHB16 : HB.length = 16 := by have := hHBl.out; rw [List.length_map] at this; exact this
        have hcv := run_conv_at wx.drew (some ⟨g12, 0, none⟩) 16 16 HB hHB16.symm (fun q u hu => ⟨_, rfl, by rw [addr_mid, Nat.zero_add]; exact (hB12.next hbx hB12.lt).cell hu⟩)
        obtain ⟨q, hq⟩ : ∃ q, x * 16 = q := ⟨_, rfl⟩
        have hqi : (x : Int) * 16 = (q : Int) := by omega
        have hq16 : q ≤ 16 := by omega
        have okj := JM.fillTo_ok HM.out f S j
        have hlen : (JM.fillTo M f S j).ps.length = n := by rw [JM.fillTo_len]; exact hn
        have hwb : ((JM.fillTo M f S j).okP ((1 : Nat) : Int) && DM.fits ((q : Nat) : Int) HB.length) = true := both_in (by omega) (by omega)
        have hhM : (JM.fillTo M f S j).write 1 (q : Int) HB = JM.headM M f x S := by
          unfold JM.headM
          rw [hjp, hUl.out, hsm.out, hHB.out, hq]
        have hhE : (JM.fillTo M f S j).writeE 1 (q : Int) HB = upE (JM.headM M f x S) := by rw [← hhM]; exact write_upE hwb
        clear hi
        go_wp2_with fail
        go_still_tail 8, (by kernel_rfl)
        have hkj2 : k + j + 1 ≤ k + 40 := by
          have hpn := pcs_le (S := S) (n := n) (by rw [← hSS.out, JM.stream_length]; exact hu)
          have hhp : hpOf n ≤ 20 := by unfold hpOf; omega
          omega
        have hkj : k + j ≤ 900000 := by
          have hpn := pcs_le (S := S) (n := n) (by rw [← hSS.out, JM.stream_length]; exact hu)
          have hhp : hpOf n ≤ 20 := by unfold hpOf; omega
          omega
        go_wp2_with fail
        (with_reducible refine (write_any gd gp gm (k + j) cp Y (JM.fillTo M f S j) 1 (q : Int) ⟨HB.toArray⟩ _ okj (by rw [str_size]; omega) (by omega) hPd).mono ?_)
        rintro e w2 ⟨rfl, hP2, hO2⟩
        rw [str_toList, hhM] at hP2
        rw [str_toList, hhE]
        have hO2' : Only [gd, gm] wx w2 := (Only.of_below hbx).trans hO2
        have hB62 := hB6.only hO2' (by simp; omega)
        have hDo : w2.heap[w6.heap.size]? = some (.deferred (some [])) := (hO2'.block _ (Array.getElem?_eq_some_iff.1 hDx).1 (by simp; have := hlt6 gd (by simp); have := hlt6 gm (by simp); omega)).trans hDx
        have hO62 : Only [gd, gm, gs, g6, g8, g9] w6 w2 := hO6.trans (hO2'.mono (by simp))
        clear hPd c3 cj hcut hcv hP1 hB6 hO6 hDx hbx hwb hhE hhM
        cases hup : (JM.headM M f x S).up with
        | false =>
          have he := upE_down hup
          rw [he]
          have hFM : JM.fillM M f x S = JM.headM M f x S := (flush_down hup).2
          go_wp2_with (with_reducible refine wpList_put (o := ⟨none, .store 26 (.tmp 6) (.tmp 53), _, _, _, _⟩) (by with_unfolding_all rfl) 26 (.tmp 6) (.tmp 53) (by with_unfolding_all rfl) g6 0 (by with_unfolding_all rfl) (.int .i64 13) (by with_unfolding_all rfl) hB62 [.int .i64 13] (by with_unfolding_all rfl) (by with_unfolding_all exact Try.sz26) (by with_unfolding_all simp) (by with_unfolding_all exact one_cell1 rfl) ?_)
          intro w3 hu3 hB63
          have hB63' : Blk w3 g6 26 [.int .i64 13] := hB63
          have hg6D : g6 ≠ w6.heap.size := by have := hlt6 g6 (by simp); omega
          have hD3 := (hu3.block _ (Ne.symm hg6D)).trans hDo
          have hP3 := hP2.only (Only.of_upd (L := [g6]) hu3 (by simp)) (by simp; omega) (by simp; omega) (by simp; omega)
          have hO3 : Only [gd, gm, gs, g6, g8, g9] w6 w3 := hO62.trans (Only.of_upd hu3 (by simp))
          clear hB63 hu3 hDo hB62 hP2 hO62
          go_wp2
          refine fill_leave (g6 := g6) rfl hB63' hD3 hg6D ⟨?_, ?_, ?_⟩
          · rw [hFM, he]
          · rw [hFM]
            have e1 := hlt6 gd (by simp)
            have e2 := hlt6 gp (by simp)
            have e3 := hlt6 gm (by simp)
            exact (hP3.same (World.putObj_heap_other (by omega)) (World.putObj_heap_other (by omega)) (World.putObj_heap_other (by omega))).mono hkj2
          · exact (hOw.drop hO3 (by intro g hg; simp at hg ⊢; omega)).drop (only_put w6.heap.size w3 _) (by intro g hg; simp at hg; have := hOw.size; right; omega)
        | true =>
          have he := upE_up hup
          rw [he]
          have hbj2 := hbj1.only hO2' (by simp at hjd ⊢; omega)
          have hb32 := hb31.only hO2' (by simp; omega)
          have c32 := hb32.cell (k := 0) rfl
          have cj2 := hbj2.cell (k := 0) hj0.out
          have okH := JM.headM_ok HM.out f x S
          go_wp2_with fail
          (with_reducible refine (flush_any gd gp gm (k + j + 1) cp Y (JM.headM M f x S) _ okH hP2).mono ?_)
          rintro e w3 ⟨rfl, hP3, hO3⟩
          rw [flush_upE]
          have hFM : JM.fillM M f x S = (JM.headM M f x S).flush := rfl
          rw [← hFM] at hP3 ⊢
          have hB63 := hB62.only hO3 (by simp; omega)
          have hD3 := (hO3.block _ (Array.getElem?_eq_some_iff.1 hDo).1 (by have := hlt6 gd (by simp); have := hlt6 gp (by simp); have := hlt6 gm (by simp); simp; omega)).trans hDo
          have hO63 : Only [gd, gm, gs, g6, g8, g9, gp] w6 w3 := (hO62.mono (by simp)).trans (hO3.mono (by simp))
          obtain ⟨EE, hEE⟩ : ∃ EE, Hid (upE (JM.fillM M f x S) = EE) := ⟨_, rfl⟩
          rw [hEE.out]
          clear hP2 hO3 hDo hO62 hB62 c32 cj2
          go_wp2_with (with_reducible refine wpList_put (o := ⟨none, .store 26 (.tmp 6) (.tmp 58), _, _, _, _⟩) (by with_unfolding_all rfl) 26 (.tmp 6) (.tmp 58) (by with_unfolding_all rfl) g6 0 (by with_unfolding_all rfl) (.int .i64 EE) (by with_unfolding_all rfl) hB63 [.int .i64 EE] (by with_unfolding_all rfl) (by with_unfolding_all exact Try.sz26) (by with_unfolding_all simp) (by with_unfolding_all exact one_cell1 rfl) ?_)
          intro w4 hu4 hB64
          have hB64' : Blk w4 g6 26 [.int .i64 EE] := hB64
          have hg6D : g6 ≠ w6.heap.size := by have := hlt6 g6 (by simp); omega
          have hD4 := (hu4.block _ (Ne.symm hg6D)).trans hD3
          have hP4 := hP3.only (Only.of_upd (L := [g6]) hu4 (by simp)) (by simp; omega) (by simp; omega) (by simp; omega)
          have hO4 : Only [gd, gm, gs, g6, g8, g9, gp] w6 w4 := hO63.trans (Only.of_upd hu4 (by simp))
          clear hB64 hu4 hD3 hB63 hP3 hO63
          go_wp2
          refine fill_leave (g6 := g6) rfl hB64' hD4 hg6D ⟨?_, ?_, ?_⟩
          · rw [hEE.out]
          · have e1 := hlt6 gd (by simp)
            have e2 := hlt6 gp (by simp)
            have e3 := hlt6 gm (by simp)
            exact (hP4.same (World.putObj_heap_other (by omega)) (World.putObj_heap_other (by omega)) (World.putObj_heap_other (by omega))).mono hkj2
          · exact (hOw.drop hO4 (by intro g hg; simp at hg ⊢; omega)).drop (only_put w6.heap.size w4 _) (by intro g hg; simp at hg; have := hOw.size; right; omega)
    case stop =>
      rintro co pre W hpre ⟨rfl, j, hj, hd, hx⟩ hWs hD
      have hFM := fill_down (x := x) hd hj
      gi_wp2
      refine fill_leave (g6 := g6) rfl hx.b6 hD (by have := hlt6 g6 (by simp); omega) ⟨?_, ?_, ?_⟩
      · rw [hFM, upE_down hd]
      · rw [hFM]
        have hpn := pcs_le (S := S) (n := n) (by rw [← hSS.out, JM.stream_length]; exact hu)
        have hhp : hpOf n ≤ 20 := by unfold hpOf; omega
        have e1 := hlt6 gd (by simp)
        have e2 := hlt6 gp (by simp)
        have e3 := hlt6 gm (by simp)
        exact (hx.pr.same (World.putObj_heap_other (by omega)) (World.putObj_heap_other (by omega)) (World.putObj_heap_other (by omega))).mono (by omega)
      · exact (hOw.drop hx.ko (by intro g hg; simp at hg ⊢; omega)).drop (only_put w6.heap.size W _) (by intro g hg; simp at hg; have := hOw.size; right; omega)
end Go.Proofs.Ythgmlopkcgkjlaa
