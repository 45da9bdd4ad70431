/-
  Contracts of the walks over chapter 1's digests: wire.addDigest, wire.list[api.Digest], wire.Digests. Conditions: the encoding has at most 10^9 bytes.
-/
import Derived.Test.YtkbmgkaopjjkoaaGetInts
import Derived.Deep.WholeRow
import Derived.Deep.MidRow
namespace Go.Proofs.Ytkbmgkaopjjkoaa
open Go.RowKit

def digV (d : List UInt8) : Value := .agg (d.map B8).toArray

theorem block_cells {w : World} {cs : Array Value} {t : TypeId} {l : List Value} (h : cs = l.toArray) {j : Nat} {u : Value} (hu : l[j]? = some u) : (w.alloc (.cells cs t)).cell? ((⟨w.heap.size, 0, none⟩ : Addr).add j) = some u := by
  subst h
  have hadd : (⟨w.heap.size, 0, none⟩ : Addr).add j = ⟨w.heap.size, j, none⟩ := by unfold Addr.add; split <;> simp_all
  rw [hadd, cell_of_row _ _ _ _ _ _ (heap_alloc_new w _)]
  simpa using hu

set_option maxRecDepth 100000 in
set_option maxHeartbeats 800000 in
theorem addDigest_cells (base : Nat) (v : Value) (m : Nat) (xs : List Value) (d : List UInt8) (cs : Array Value) (hcs : Hid (cs = (d.map B8).toArray)) (w : World) (hd : d.length = 16)
    (hown : w.ownsRow base 5 1 v m xs) (hb : base ≤ w.heap.size) (hm : m ≤ 1000000000) :
    Calls Try.prog 43 #[v, .agg cs] w fun e w' =>
      ∃ v', e = .returned v' ∧ w'.ownsRow base 5 1 v' (m + d.length) (xs ++ d.map B8) ∧ Below base w w' := by
  obtain ⟨i0, hi, hz0, hz1, hz2⟩ := info_parts Try.info8
  have hlt := hown.lt
  have HD := Lib.hid hd
  clear hd
  go_enter Try.func43, Try.ntmps43
  go_wp2_with (at_builtin; refine wpList_append_own _ rfl _ _ 28 rfl base 5 i0 (.int .u8 0) 1 1 Try.underlying28 hi hz0 hz1 hz2 rfl (by decide) _ _ _ rfl (hown.alloc _) ⟨w.heap.size, 0, none⟩ 16 16 (d.map B8) rfl ?c0 ?c1 ?c2 ?c3 ?c4 ?c5 ?_)
  case c0 => rw [List.length_map, HD.out]
  case c1 => exact fun j u hu => block_cells hcs.out hu
  case c2 => exact B8_one d
  case c3 => unfold maxLen; omega
  case c4 => omega
  case c5 => simp; omega
  intro v' w1 hown' hgrow _
  clear hown
  go_wp2
  go_ret
  exact ⟨_, rfl, by rw [HD.out]; exact hown', ((Below.refl _ _).alloc hb _).grown hgrow (by simp; omega) (fun k hk => (hlt k hk).1)⟩
theorem addDigest_any (base : Nat) (v : Value) (m : Nat) (xs : List Value) (d : List UInt8) (w : World) (hd : d.length = 16)
    (hown : w.ownsRow base 5 1 v m xs) (hb : base ≤ w.heap.size) (hm : m ≤ 1000000000) :
    Calls Try.prog 43 #[v, digV d] w fun e w' =>
      ∃ v', e = .returned v' ∧ w'.ownsRow base 5 1 v' (m + d.length) (xs ++ d.map B8) ∧ Below base w w' :=
  addDigest_cells base v m xs d _ (Lib.hid rfl) w hd hown hb hm

/-- The cells of a list of digests. -/
def digCells (xs : List (List UInt8)) : List Value := xs.flatMap fun d => d.map B8
theorem digCells_get : ∀ (xs : List (List UInt8)) (h : ∀ d ∈ xs, d.length = 16) (k : Nat) (hk : k < xs.length) (j : Nat) (u : Value), (xs[k].map B8)[j]? = some u → (digCells xs)[k * 16 + j]? = some u
  | d :: xs, h, 0, _, j, u, hu => by
    simp only [digCells, List.flatMap_cons, Nat.zero_mul, Nat.zero_add]
    rw [List.getElem?_append_left]
    · exact hu
    · rcases Nat.lt_or_ge j (d.map B8).length with hl | hl
      · exact hl
      · rw [List.getElem_cons_zero, List.getElem?_eq_none hl] at hu; cases hu
  | d :: xs, h, k + 1, hk, j, u, hu => by
    have ih := digCells_get xs (fun x hx => h x (by simp [hx])) k (by simpa using hk) j u (by simpa using hu)
    have hd : (d.map B8).length = 16 := by rw [List.length_map]; exact h d (by simp)
    simp only [digCells, List.flatMap_cons]
    rw [List.getElem?_append_right (by omega), show (k + 1) * 16 + j - (d.map B8).length = k * 16 + j by omega]
    exact ih

theorem Try.info57 : (Try.prog.info? 57).map (fun i => (i.zero, i.size, i.bytes)) = some (some (.agg ((List.replicate 16 (Value.int .u8 0)).toArray)), 16, 16) := by kernel_rfl
theorem Try.arr57 : (match Try.prog.underlying 57 with | some (.array _ _) => true | _ => false) = true := by kernel_rfl

theorem run_load57 (w : World) (a0 : Addr) (l : List Value) (hl : l.length = 16) (hc : ∀ j u, l[j]? = some u → w.cell? (a0.add j) = some u) :
    (loadVar 57 a0).run Try.prog w = .ok (.agg l.toArray) w := by
  obtain ⟨i0, hi, _, hz1, _⟩ := info_parts Try.info57
  have hcells : (loadCells a0 16).run Try.prog w = .ok l.toArray w := by
    have := run_loadCells_list (P := Try.prog) w a0 l (fun j v hv => hc j v hv)
    rwa [hl] at this
  have harr := Try.arr57
  cases hu : Try.prog.underlying 57 with
  | none => rw [hu] at harr; cases harr
  | some dsc =>
    rw [hu] at harr
    have hagg : (isAgg 57).run Try.prog w = .ok true w := by
      unfold isAgg
      rw [Sem.run_bind, run_underlying hu w]
      cases dsc <;> simp_all
    simp [loadVar, Sem.run_bind, hagg, sizeOf, typeInfo, hi, hz1, hcells]

theorem wpList_load57 {ops : Array Oper} {rest : List Oper} {o : Oper} {a : Act} {w : World} {Q : Exit → Act → World → Prop} (hgd : o.guard = none) (x : Operand) (ho : o.op = .load 57 x)
    (a0 : Addr) (hx : a.eval x = .pointer (some a0)) (l : List Value) (hl : l.length = 16) (hc : ∀ j u, l[j]? = some u → w.cell? (a0.add j) = some u)
    (h : wpList Try.prog ops Q rest (a.put o.dst (.agg l.toArray)) w) : wpList Try.prog ops Q (o :: rest) a w := by
  refine wpList_plain hgd fun K hK => ?_
  have hrun := run_load57 w a0 l hl hc
  unfold Oper.wp execOp
  simp only [ho, hx, Instr.loadAt, Instr.sureAddr, Sem.run_bind, Sem.run_pure, Result.andThen_ok, hrun]
  exact hK _ _ h

theorem wpList_load57g {ops : Array Oper} {rest : List Oper} {o : Oper} {a : Act} {w : World} {Q : Exit → Act → World → Prop} (hw : Region.wanted o (yielded ops a.tmps) = true) (x : Operand) (ho : o.op = .load 57 x)
    (a0 : Addr) (hx : a.eval x = .pointer (some a0)) (l : List Value) (hl : l.length = 16) (hc : ∀ j u, l[j]? = some u → w.cell? (a0.add j) = some u)
    (h : wpList Try.prog ops Q rest (a.put o.dst (.agg l.toArray)) w) : wpList Try.prog ops Q (o :: rest) a w := by
  refine BigFrame.wpList_want hw fun K hK => ?_
  have hrun := run_load57 w a0 l hl hc
  unfold Oper.wp execOp
  simp only [ho, hx, Instr.loadAt, Instr.sureAddr, Sem.run_bind, Sem.run_pure, Result.andThen_ok, hrun]
  exact hK _ _ h

theorem Try.size57 : (Try.prog.info? 57).map (·.size) = some 16 := by kernel_rfl
theorem wpList_new57 {ops : Array Oper} {rest : List Oper} {o : Oper} {a : Act} {W : World} {Q : Exit → Act → World → Prop} (hgd : o.guard = none) (x y : Operand) (ho : o.op = .store 57 x y)
    (old cs : Array Value) (hx : a.eval x = .pointer (some ⟨W.heap.size, 0, none⟩)) (hy : a.eval y = .agg cs) (hold : old.size = 16) (hcs : cs.size = 16) (h1 : cs.all (·.oneCell') = true)
    (h : wpList Try.prog ops Q rest (a.put o.dst undef) (W.alloc (.cells cs 57))) : wpList Try.prog ops Q (o :: rest) a (W.alloc (.cells old 57)) := by
  refine wpList_plain hgd fun K hK => ?_
  have hrun := run_storeVar_new (P := Try.prog) W 57 old cs (by rw [Try.size57, hcs]) (by rw [hold, hcs]) h1
  unfold Oper.wp execOp
  simp only [ho, hx, hy, Instr.storeAt, Instr.sureAddr, Sem.run_bind, Sem.run_pure, Result.andThen_ok, hrun]
  exact hK _ _ h
theorem B8_all (d : List UInt8) : (d.map B8).toArray.all (·.oneCell') = true := all_oneCell_toArray (B8_one d)

set_option maxRecDepth 100000 in
set_option maxHeartbeats 800000 in
theorem listDigests_any (A : Option Addr) (cap : Nat) (xs : List (List UInt8)) (w : World) (hok : ∀ x ∈ xs, WM.okD x) (hl : (WM.encAll (fun d => d) xs).length ≤ 1000000000) (hn : xs.length ≤ 1000000000) (hh : Holds w A (digCells xs)) :
    Calls Try.prog 42 #[.slice A xs.length cap, .func (.func 43) #[] #[]] w (PutPost (WM.encAll (fun d => d) xs) w) := by
  go_enter Try.func42, Try.ntmps42
  go_wp2_with fail
  refine (int_any (xs.length : Int) _ (by omega) (by omega)).mono ?_
  rintro e w1 ⟨v1, rfl, hown1, hb1⟩
  go_wp2_with fail
  go_loopw [5, 13] (PutRel (fun d => d) xs w) (fun _ i _ => xs.length - (intOf i).toNat)
  case atStart => exact ⟨0, by omega, rfl, by rw [partI_zero]; exact hown1, hb1⟩
  case round =>
    obtain ⟨k, hk, rfl, hown, hb⟩ := hrel
    have hsz := hb.size
    by_cases hlt : k < xs.length
    · have hcells := fun j u (hu : (xs[k].map B8)[j]? = some u) => (hh.keep (Keeps.of hb)) _ _ (digCells_get xs hok k hlt j u hu)
      have hd := hok xs[k] (List.getElem_mem hlt)
      obtain ⟨ad, rfl, _⟩ := hcells 0 (B8 (xs[k].getD 0 0)) (by unfold WM.okD at hd; simp [hd])
      have hc2 : ∀ j u, (xs[k].map B8)[j]? = some u → wr.cell? ((ad.add (k * 16)).add j) = some u := fun j u hu => by
        obtain ⟨ad', e, hc⟩ := hcells j u hu
        cases e
        rw [add_add]; exact hc
      have HP := Lib.hid (partI_succ xs.length (fun d => d) xs k hlt)
      have hpl := partI_le (fun d => d) xs k
      generalize xs[k] = d at hd hc2 HP
      have HC := Lib.hid hc2
      have hdl : (d.map B8).length = 16 := by rw [List.length_map]; exact hd
      have HD := Lib.hid hdl
      have HD2 := Lib.hid hd
      clear hc2 hcells hd hdl
      go_wp2_with (first | (with_reducible refine wpList_new57 (o := ⟨none, .store 57 (.tmp 7) (.tmp 16), _, _, _, _⟩) ?g2 (.tmp 7) (.tmp 16) ?o2 _ (d.map B8).toArray ?x2 ?y2 ?l2 ?l3 (B8_all d) ?_) | with_reducible refine wpList_load57 (o := ⟨some 16, _, _, _, _, _⟩) ?g1 (.tmp 15) ?o1 (ad.add (k * 16)) ?x1 (d.map B8) ?l1 ?c1 ?_ | with_reducible refine wpList_load57 (o := ⟨some 19, _, _, _, _, _⟩) ?g3 (.tmp 7) ?o3 ⟨wr.heap.size, 0, none⟩ ?x3 (d.map B8) ?l4 ?c3 ?_)
      case g1 => rfl
      case o1 => rfl
      case x1 => rfl
      case g2 => rfl
      case o2 => rfl
      case x2 => rfl
      case y2 => rfl
      case l2 => rfl
      case l3 => simpa using HD.out
      case g3 => rfl
      case o3 => rfl
      case x3 => rfl
      case l4 => exact HD.out
      case c3 => exact fun j u hu => block_cells rfl hu
      case l1 => exact HD.out
      case c1 => exact HC.out
      have hown2 := hown.alloc (.cells (d.map B8).toArray 57)
      clear hown
      refine (addDigest_any w.heap.size _ _ _ d _ HD2.out hown2 (by simp; omega) (by omega)).mono ?_
      rintro e w2 ⟨v2, rfl, hown3, hb2⟩
      clear hown2
      go_wp2_with fail
      go_roundw
      case rel => exact ⟨k + 1, by omega, by go_num, by rw [HP.out, List.length_append, List.map_append]; exact hown3, (hb.alloc (by omega) _).trans hb2⟩
      case measure => simp [intOf]; omega
    · go_wp2_with fail
      go_ret
      have hkn : k = xs.length := by omega
      subst hkn
      rw [partI_all] at hown
      exact ⟨_, rfl, hown, hb⟩

/-- The contract of Digests. -/
theorem digests_any (A : Option Addr) (cap : Nat) (xs : List (List UInt8)) (w : World) (hok : ∀ x ∈ xs, WM.okD x) (hl : (WM.encAll (fun d => d) xs).length ≤ 1000000000) (hn : xs.length ≤ 1000000000) (hh : Holds w A (digCells xs)) :
    Calls Try.prog 22 #[.slice A xs.length cap] w (PutPost (WM.encAll (fun d => d) xs) w) := by
  go_enter Try.func22, Try.ntmps22
  go_wp2_with fail
  refine (listDigests_any A cap xs w hok hl hn hh).mono ?_
  rintro e w1 ⟨v1, rfl, hown1, hb1⟩
  go_wp2_with fail
  go_ret
  exact ⟨_, rfl, hown1, hb1⟩
end Go.Proofs.Ytkbmgkaopjjkoaa
