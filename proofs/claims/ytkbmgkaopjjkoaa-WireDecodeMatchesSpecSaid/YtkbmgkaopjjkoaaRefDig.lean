/-
  Contract of the walk over the reference's decoding of a list of digests. Conditions: at most 10^9 bytes.
-/
import Derived.Test.YtkbmgkaopjjkoaaRefStr
namespace Go.Proofs.Ytkbmgkaopjjkoaa
open Go.RowKit

/-- What the array holds when k of its bytes are copied. -/
def cut16 (d : List UInt8) (k : Nat) : List Value := (d.take k).map B8 ++ List.replicate (16 - k) (Value.int .u8 0)
theorem cut16_length {d : List UInt8} (hd : d.length = 16) {k : Nat} (hk : k ≤ 16) : (cut16 d k).length = 16 := by
  simp [cut16]; omega
theorem cut16_zero (d : List UInt8) : cut16 d 0 = List.replicate 16 (Value.int .u8 0) := rfl
theorem cut16_all {d : List UInt8} (hd : d.length = 16) : cut16 d 16 = d.map B8 := by
  unfold cut16; rw [List.take_of_length_le (by omega)]; simp
theorem cut16_set {d : List UInt8} (hd : d.length = 16) {k : Nat} (hk : k < 16) : (cut16 d k).set k (B8 (d.getD k 0)) = cut16 d (k + 1) := by
  apply List.ext_getElem?
  intro j
  have hl := cut16_length hd (k := k) (by omega)
  rw [List.getElem?_set]
  unfold cut16 at *
  by_cases hj : k = j
  · subst hj
    rw [if_pos rfl, if_pos (by omega), List.getElem?_append_left (by simp; omega)]
    simp [List.getElem?_take, List.getElem?_eq_getElem (show k < d.length by omega)]
  · rw [if_neg hj]
    rcases Nat.lt_or_ge j k with h | h
    · rw [List.getElem?_append_left (by simp; omega), List.getElem?_append_left (by simp; omega)]
      simp [List.getElem?_take, h, show j < k + 1 by omega]
    · rw [List.getElem?_append_right (by simp; omega), List.getElem?_append_right (by simp; omega)]
      simp only [List.getElem?_replicate, List.length_map, List.length_take]
      by_cases h16 : j < 16
      · rw [if_pos (by omega), if_pos (by omega)]
      · rw [if_neg (by omega), if_neg (by omega)]

theorem wpList_put57 {ops : Array Oper} {rest : List Oper} {o : Oper} {a : Act} {W : World} {Q : Exit → Act → World → Prop} (hgd : o.guard = none) (x y : Operand) (ho : o.op = .store 5 x y)
    (cs : List Value) (i : Nat) (v : Value) (hx : a.eval x = .pointer (some ⟨W.heap.size, i, none⟩)) (hy : a.eval y = v) (hv : ∃ c, v = .int .u8 c) (hi : i < cs.length)
    (h : wpList Try.prog ops Q rest (a.put o.dst undef) (W.alloc (.cells (cs.set i v).toArray 57))) : wpList Try.prog ops Q (o :: rest) a (W.alloc (.cells cs.toArray 57)) := by
  obtain ⟨c, rfl⟩ := hv
  refine wpList_plain hgd fun K hK => ?_
  obtain ⟨i0, hif, _, hz1, _⟩ := info_parts Try.info8
  have hst := run_storeCells_at Try.prog W.heap.size i 57 [.int .u8 c] 0 cs.toArray (W.alloc (.cells cs.toArray 57)) (heap_alloc_new W _) (by simp; omega) (by intro u hu; simp at hu; subst hu; rfl)
  rw [World.setRow_alloc_new] at hst
  have e : (cs.toArray.toList.take (i + 0) ++ [Value.int .u8 c] ++ cs.toArray.toList.drop (i + 0 + [Value.int .u8 c].length)) = cs.set i (.int .u8 c) := by
    simp [List.set_eq_take_append_cons_drop, hi]
  rw [e] at hst
  have hrun : (storeVar 5 ⟨W.heap.size, i, none⟩ (.int .u8 c)).run Try.prog (W.alloc (.cells cs.toArray 57)) = .ok () (W.alloc (.cells (cs.set i (.int .u8 c)).toArray 57)) := by
    simp [storeVar, sizeOf, typeInfo, hif, Value.cells, hz1, hst]
  unfold Oper.wp execOp
  simp only [ho, hx, hy, Instr.storeAt, Instr.sureAddr, Sem.run_bind, Sem.run_pure, Result.andThen_ok, hrun]
  exact hK _ _ h

theorem run_slice57 (W : World) : ∀ (l : List Value), l.length = 16 →
    (Instr.buildSlice 24 1 #[(0, .agg l.toArray)]).run Try.prog W = .ok (.slice (some ⟨W.heap.size, 0, none⟩) 1 1) (W.alloc (.cells l.toArray 57))
  | [_, _, _, _, _, _, _, _, _, _, _, _, _, _, _, _], _ => by kernel_rfl

theorem wpList_slice57 {ops : Array Oper} {rest : List Oper} {o : Oper} {a : Act} {W : World} {Q : Exit → Act → World → Prop} (hgd : o.guard = none) (x : Operand) (ho : o.op = .buildSlice 24 1 #[(0, x)])
    (l : List Value) (hx : a.eval x = .agg l.toArray) (hl : l.length = 16)
    (h : wpList Try.prog ops Q rest (a.put o.dst (.slice (some ⟨W.heap.size, 0, none⟩) 1 1)) (W.alloc (.cells l.toArray 57))) : wpList Try.prog ops Q (o :: rest) a W := by
  refine wpList_plain hgd fun K hK => ?_
  have hrun := run_slice57 W l hl
  unfold Oper.wp execOp
  simp only [ho, List.map_toArray, List.map_cons, List.map_nil, hx, Sem.run_bind, Sem.run_pure, Result.andThen_ok, hrun]
  exact hK _ _ h

/-- What the loop of the list's decoding has done after k rounds. -/
def RefManyD (l : List UInt8) (n u : Nat) (w : World) (at_ out i : Value) (wr : World) : Prop :=
  ∃ (k p : Nat) (acc : List (List UInt8)), k ≤ n ∧ i = .int .i64 k ∧ at_ = .int .i64 (p : Int) ∧ acc.length = k ∧ p = u + k * 16 ∧ (∀ x ∈ acc, x.length = 16) ∧
    WM.getMany WM.getD n (l.drop u) = comb acc (k * 16) (WM.getMany WM.getD (n - k) ((l.drop u).drop (k * 16))) ∧
    wr.ownsRow w.heap.size 57 16 out acc.length (digCells acc) ∧ Below w.heap.size w wr
/-- What the loop that copies the bytes has done. -/
def RefCopy (d : List UInt8) (w1 : World) (i : Value) (wr : World) : Prop :=
  ∃ k : Nat, k ≤ 16 ∧ i = .int .i64 k ∧ wr = w1.alloc (.cells (cut16 d k).toArray 57)

set_option maxRecDepth 100000 in
set_option maxHeartbeats 1600000 in
theorem refGetDigests_any (A : Option Addr) (cap : Nat) (l : List UInt8) (w : World) (hl : l.length ≤ 1000000000) (hcap : l.length ≤ cap) (hh : Holds w A (l.map B8)) :
    Calls Try.prog 35 #[.slice A l.length cap] w (DigPost (WM.getAll WM.getD 16 l) w) := by
  obtain ⟨i0, hi, hz0, hz1, hz2⟩ := info_parts Try.info57
  have hL := refLen_any A cap l 16 w hl (by omega) (by omega) hh
  by_cases h0 : (WM.getL l 16).2.2 = 0
  · have hB : WM.getAll WM.getD 16 l = comb [] (WM.getL l 16).2.1 (WM.getMany WM.getD (WM.getL l 16).1 (l.drop (WM.getL l 16).2.1)) := by
      unfold WM.getAll comb; rw [if_pos h0]; rfl
    obtain ⟨_, h1, _, h2⟩ := WM.getL_ok (l := l) (s := 16) (n := (WM.getL l 16).1) (u := (WM.getL l 16).2.1) (by rw [← h0])
    rw [hB]; clear hB
    rw [h0] at hL
    generalize (WM.getL l 16).1 = n at hL h2 ⊢
    generalize (WM.getL l 16).2.1 = u at hL h1 ⊢ h2
    clear h0
    have h2 : n * 16 ≤ l.length - u := (Nat.le_div_iff_mul_le (by omega)).1 h2
    have HL := Lib.hid hL
    clear hL
    go_enter Try.func35, Try.ntmps35
    go_wp2_with (go_at_call 47; refine HL.out.mono ?_; rintro e w' ⟨rfl, rfl⟩)
    go_loopw [6, 8, 9] (RefManyD l n u w) (fun _ _ i _ => n - (intOf i).toNat)
    case atStart =>
      refine ⟨0, u, [], by omega, rfl, rfl, rfl, by omega, by simp, comb_start _ _ (fun h => ?_), World.ownsRow_nil _ _ _ _, Below.refl _ _⟩
      have := WM.many_errs WM.codeD n (l.drop u) h; exact ⟨this.1, this.2.1⟩
    case round =>
      obtain ⟨k, p, acc, hk, rfl, rfl, hacc, hp, hall, hM, hown, hb⟩ := hrel
      have hsz := hb.size
      by_cases hlt : k < n
      · have HM := Lib.hid hM
        have HA := Lib.hid hacc
        have HO := Lib.hid hown
        have HW := Lib.hid hall
        have HP := Lib.hid hp
        have hpl : p + 16 ≤ l.length := by omega
        have hlt3 := hown.lt
        have hal : acc.length ≤ 1000000000 := by omega
        have hh2 := hh.keep (Keeps.of hb)
        clear hM hacc hown hall hp
        have hdl : ((l.drop p).take 16).length = 16 := by simp; omega
        obtain ⟨ad, rfl, _⟩ := hh2.byte (k := p) (by omega)
        have hX : WM.getD (l.drop p) = ((l.drop p).take 16, 16, 0) := by unfold WM.getD; rw [if_neg (by simp; omega)]
        have hc16 : ∀ j, j < 16 → wr.cell? (ad.add (p + j)) = some (.int .u8 ((((l.drop p).take 16).getD j 0).toNat : Int)) := fun j hj => by
          obtain ⟨ad', e, hc⟩ := hh2.byte (k := p + j) (by omega)
          cases e
          rw [hc]
          simp [List.getElem?_take, hj]
        generalize (l.drop p).take 16 = d at hdl hX hc16
        have HX := Lib.hid hX
        have HC := Lib.hid hc16
        have HD := Lib.hid hdl
        have HH := Lib.hid hh
        clear hX hc16 hdl hh2 hh
        obtain ⟨w1, hw1⟩ : ∃ w1, w1 = wr := ⟨_, rfl⟩
        subst hw1
        go_wp2_with fail
        go_loopw [11] (RefCopy d w1) (fun i _ => 16 - (intOf i).toNat)
        case atStart => exact ⟨0, by omega, rfl, rfl⟩
        case round =>
          obtain ⟨j, hj, rfl, rfl⟩ := hrel
          by_cases hlt2 : j < 16
          · have hcj := HC.out j hlt2
            have HN := Lib.hid (cut16_set HD.out hlt2)
            have hcl := cut16_length HD.out hj
            have h255 : (d.getD j 0).toNat < 256 := (d.getD j 0).toNat_lt
            unfold B8 at HN
            generalize (d.getD j 0).toNat = c at hcj HN h255
            generalize hcs1 : cut16 d (j + 1) = cs1 at HN
            have HC1 := Lib.hid hcs1
            clear hcs1
            generalize cut16 d j = cs at HN hcl
            have hcj := Keeps.of ((Below.refl _ _).alloc (Nat.le_refl _) (.cells cs.toArray 57)) _ _ hcj
            go_wp2_with (with_reducible refine wpList_put57 (o := ⟨none, .store 5 (.tmp 37) (.tmp 36), _, _, _, _⟩) ?g1 (.tmp 37) (.tmp 36) ?o1 cs j (.int .u8 (c : Int)) ?x1 ?y1 ⟨_, rfl⟩ ?v1 ?_)
            case g1 => rfl
            case o1 => rfl
            case x1 => show Value.pointer _ = _; simp
            case y1 => rfl
            case v1 => omega
            rw [HN.out]
            go_wp2_with fail
            go_roundw
            case rel => exact ⟨j + 1, by omega, by go_num, by rw [HC1.out]⟩
            case measure => simp [intOf]; omega
          · have hj16 : j = 16 := by omega
            subst hj16
            rw [cut16_all HD.out]
            have hdm : (d.map B8).length = 16 := by rw [List.length_map]; exact HD.out
            have HDM := Lib.hid hdm
            clear hdm
            go_wp2_with (first | (with_reducible refine wpList_load57 (o := ⟨some 39, _, _, _, _, _⟩) ?g3 (.tmp 10) ?o3 ⟨w1.heap.size, 0, none⟩ ?x3 (d.map B8) ?l4 ?c3 ?_) | (with_reducible refine wpList_slice57 (o := ⟨some 40, _, _, _, _, _⟩) ?g6 (.tmp 39) ?o6 (d.map B8) ?x6 ?l6 ?_) | (at_builtin; refine wpList_append_own _ rfl _ _ 24 rfl w.heap.size 57 i0 _ 16 16 Try.underlying24 hi hz0 hz1 hz2 rfl (by decide) _ _ _ rfl ((HO.out.alloc _).alloc _) ⟨w1.heap.size + 1, 0, none⟩ 1 1 (d.map B8) ?x5 ?l5 ?c5 ?o5 ?m5 ?n5 ?b5 ?_))
            case g3 => rfl
            case o3 => rfl
            case x3 => rfl
            case l4 => exact HDM.out
            case c3 => exact fun j u hu => block_cells rfl hu
            case g6 => rfl
            case o6 => rfl
            case l6 => exact HDM.out
            case l5 => rw [HDM.out]
            case c5 =>
              intro j v hv
              have h := block_cells (w := w1.alloc (.cells (d.map B8).toArray 57)) (t := 57) (cs := (d.map B8).toArray) rfl hv
              simpa using h
            case o5 => exact B8_one d
            case m5 => unfold maxLen; omega
            case n5 => omega
            case b5 => simp; omega
            intro v4 w4 hown4 hgrow _
            have hb4 := ((hb.alloc (by omega) (.cells (d.map B8).toArray 57)).alloc (by simp; omega) (.cells (d.map B8).toArray 57)).grown hgrow (by simp; omega) (fun k hk => (hlt3 k hk).1)
            have HO4 := Lib.hid hown4
            clear hgrow hown4
            go_wp2_with fail
            go_roundw
            case rel =>
              refine ⟨k + 1, p + 16, acc ++ [d], by omega, by go_num, by go_num, by simp [HA.out], by have := HP.out; omega, ?_, ?_, ?_, hb4⟩
              · intro y hy
                rcases List.mem_append.1 hy with hy | hy
                · exact HW.out y hy
                · rw [List.mem_singleton.1 hy]; exact HD.out
              · have e1 := HM.out
                rw [show n - k = (n - (k + 1)) + 1 by omega] at e1
                have e2 := comb_step e1 (by rw [List.drop_drop, ← HP.out]; exact HX.out)
                rw [show k * 16 + 16 = (k + 1) * 16 by omega] at e2
                exact e2
              · rw [List.length_append, digCells_snoc]
                exact HO4.out
            case measure => simp [intOf]; omega
      · have hkn : k = n := by omega
        go_wp2_with fail
        go_ret3
        subst hkn hp
        exact DigPost.row (comb_done hM) hb hown rfl rfl
  · have hB : WM.getAll WM.getD 16 l = ([], 0, (WM.getL l 16).2.2) := by unfold WM.getAll; rw [if_neg h0]
    rw [hB]; clear hB
    have b0 : ((WM.getL l 16).2.2 != 0) = true := by rw [bne_iff_ne]; exact h0
    generalize (WM.getL l 16).1 = n at hL
    generalize (WM.getL l 16).2.1 = u at hL
    generalize (WM.getL l 16).2.2 = x at hL b0 ⊢
    clear h0
    have HL := Lib.hid hL
    clear hL hh
    go_enter Try.func35, Try.ntmps35
    go_wp2_with (go_at_call 47; refine HL.out.mono ?_; rintro e w' ⟨rfl, rfl⟩)
    go_ret3
    exact DigPost.nil rfl (Below.refl _ _) rfl rfl rfl
end Go.Proofs.Ytkbmgkaopjjkoaa
