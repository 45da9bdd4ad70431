/-
  Contracts of the functions that the statements of layer 3 call, part 4 of 10 (merged texts: Harr, Hsane, Hrow, Hpad, Hrw, Hrs, Hrt, Hin, Hstr, Hsumlaw, Hshort, Heqlaw, Hkeys). Conditions: as the head of each part says.
-/
import Derived.Test.YtkakiepaffhhjaaDoorJC
import Derived.Laws.StructEq
import Derived.Lib.SlBytesConst
import Derived.Test.YtkakiepaffhhjaaDoorJA
import Derived.ProofKit
import Derived.OpenShut
import Derived.ShutString
import Derived.ChangeOld
import Derived.SizedLaws
import Derived.Stop.Joined
import Derived.Laws.AppendOwnNone
import Derived.Test.YtkakiepaffhhjaaDoorJB
import Derived.Deep.CutBlock
import Derived.Deep.DeepCutAuto
import Derived.Lib.ConvBytes
import Derived.Deep.RegionHeld

/-
  Comparison of arrays of bytes, and a guarded reading of one. Conditions: none.
-/
namespace Go.Proofs.YtkakiepaffhhjaaDoor
open Go.RowKit

theorem Tryd.cells5 : Tryd.prog.cellsOf 5 = 1 := by kernel_rfl
theorem Tryd.plain5 : Tryd.prog.plainKey 5 = true := by kernel_rfl
theorem eqItems_dec (w : World) (l r : List UInt8) (hlr : l.length = r.length) : ∀ (is : List Nat), (∀ i ∈ is, i < l.length) →
    (Op.eqItems 9999 5 1 (l.map B8).toArray (r.map B8).toArray is).run Tryd.prog w = .ok (is.all fun i => l.getD i 0 == r.getD i 0) w
  | [], _ => by simp [Op.eqItems]
  | i :: is, h => by
    have hi := h i (by simp)
    have hi2 : i < r.length := by omega
    have ih := eqItems_dec w l r hlr is (fun j hj => h j (by simp [hj]))
    have hx : (l.map B8).toArray[i * 1]? = some (B8 (l.getD i 0)) := by simp [List.getElem?_eq_getElem hi]
    have hy : (r.map B8).toArray[i * 1]? = some (B8 (r.getD i 0)) := by simp [List.getElem?_eq_getElem hi2]
    have hp := run_part_plain (P := Tryd.prog) (w := w) Tryd.plain5 hx
    have hq := run_part_plain (P := Tryd.prog) (w := w) Tryd.plain5 hy
    have he : (Op.equalIn 9999 5 (B8 (l.getD i 0)) (B8 (r.getD i 0))).run Tryd.prog w = .ok (l.getD i 0 == r.getD i 0) w := by
      have := run_equalIn_int (P := Tryd.prog) w 9998 5 .u8 .u8 ((l.getD i 0).toNat : Int) ((r.getD i 0).toNat : Int) Tryd.underlying5
      rw [show (((l.getD i 0).toNat : Int) == ((r.getD i 0).toNat : Int)) = (l.getD i 0 == r.getD i 0) by
        rw [Bool.eq_iff_iff, beq_iff_eq, beq_iff_eq]
        constructor
        · intro h; exact UInt8.toNat_inj.1 (by omega)
        · intro h; rw [h]] at this
      exact this
    simp only [Op.eqItems, Sem.run_bind, hp, hq, Result.andThen_ok, he, List.all_cons]
    cases hb : (l.getD i 0 == r.getD i 0)
    · simp
    · simpa using ih
theorem all_range_eq (l r : List UInt8) (h : l.length = r.length) : ((List.range l.length).all fun i => l.getD i 0 == r.getD i 0) = decide (l = r) := by
  rw [Bool.eq_iff_iff, List.all_eq_true, decide_eq_true_eq]
  constructor
  · intro ha
    apply List.ext_getElem h
    intro i h1 h2
    have := ha i (List.mem_range.2 h1)
    rw [beq_iff_eq, List.getD_eq_getElem?_getD, List.getD_eq_getElem?_getD, List.getElem?_eq_getElem h1, List.getElem?_eq_getElem h2] at this
    exact this
  · intro e i _
    rw [e]; exact beq_self_eq_true _
theorem eql_arr (w : World) (ty : TypeId) (n : Nat) (hu : Tryd.prog.underlying ty = some (.array n 5)) (l r : List UInt8) (hl : l.length = n) (hr : r.length = n) :
    (binOp .eql ty (.agg (l.map B8).toArray) (.agg (r.map B8).toArray)).run Tryd.prog w = .ok (.bool (decide (l = r))) w := by
  obtain ⟨i0, hi, _, _, _⟩ := info_parts Tryd.info8
  rw [run_eql_struct, run_equalIn_array (P := Tryd.prog) (w := w) 9999 _ _ hu hi, Tryd.cells5, eqItems_dec w l r (by omega) _ (fun i h => by have := List.mem_range.1 h; omega), ← hl, all_range_eq l r (by omega)]
  rfl
theorem wpList_eqArr {ops : Array Oper} {rest : List Oper} {o : Oper} {a : Act} {w : World} {Q : Exit → Act → World → Prop} (hw : Region.wanted o (yielded ops a.tmps) = true) (ty : TypeId) (x y : Operand) (ho : o.op = .binOp .eql ty x y ty)
    (n : Nat) (hu : Tryd.prog.underlying ty = some (.array n 5)) (hg : Tryd.prog.eqGuardType Tryd.prog.depth ty = false)
    (l r : List UInt8) (hx : a.eval x = .agg (l.map B8).toArray) (hy : a.eval y = .agg (r.map B8).toArray) (hl : l.length = n) (hr : r.length = n)
    (h : wpList Tryd.prog ops Q rest (a.put o.dst (.bool (decide (l = r)))) w) : wpList Tryd.prog ops Q (o :: rest) a w := by
  refine BigFrame.wpList_want hw fun K hK => ?_
  have hrun := eql_arr w ty n hu l r hl hr
  unfold Oper.wp execOp
  simp only [ho, hx, hy, Sem.run_bind, Sem.run_pure, run_eqGuard_agg (P := Tryd.prog) w _ _ _ _ _ _ hg, Result.andThen_ok, hrun]
  exact hK _ _ h
theorem wpList_getg {P : Program} {ops : Array Oper} {rest : List Oper} {o : Oper} {a : Act} {w : World} {Q : Exit → Act → World → Prop} (hw : Region.wanted o (yielded ops a.tmps) = true) (ty : TypeId) (x : Operand) (ho : o.op = .load ty x)
    (g k : Nat) (hx : a.eval x = .pointer (some ⟨g, k, none⟩)) {t : TypeId} {l : List Value} (hb : Blk w g t l) (cs : List Value) (hcs : (l.drop k).take cs.length = cs) (d : TypeDesc)
    (hu : P.underlying ty = some d) (hd : d.isRow = true) (hi : (P.info? ty).map (·.size) = some cs.length)
    (h : wpList P ops Q rest (a.put o.dst (.agg cs.toArray)) w) : wpList P ops Q (o :: rest) a w := by
  refine BigFrame.wpList_want hw fun K hK => ?_
  unfold Oper.wp execOp
  simp only [ho, hx, Instr.loadAt, Instr.sureAddr, Sem.run_bind, Sem.run_pure, Result.andThen_ok, run_get w g k t ty l cs hb hcs d hu hd hi]
  exact hK _ _ h
theorem Tryd.guard24 : Tryd.prog.eqGuardType Tryd.prog.depth 76 = false := by kernel_rfl
theorem Tryd.guard44 : Tryd.prog.eqGuardType Tryd.prog.depth 23 = false := by kernel_rfl
end Go.Proofs.YtkakiepaffhhjaaDoor

/-
  Contract of the walk over the statements' own sanity: it returns true. Conditions: the tables read as the document has them.
-/
namespace Go.Proofs.YtkakiepaffhhjaaDoor
open Go.RowKit

theorem holds_alloc (w : World) (cs : List Value) (t : TypeId) (fr : Nat × Nat) : Holds (w.alloc (.cells cs.toArray t fr)) (some ⟨w.heap.size, 0, none⟩) cs := fun j u hu => ⟨_, rfl, by
  rw [addr_mid, Nat.zero_add, cell_of_row _ _ j cs.toArray t fr (heap_alloc_new w _)]
  simpa using hu⟩
theorem sum_3 (A : Option Addr) (cap : Nat) (w : World) (HY : Lay w) (hh : Holds w A (([97, 98, 99] : List UInt8).map B8)) :
    Calls Tryd.prog 56 #[.slice A 3 cap] w fun e w' => e = .returned (.agg ((SM.sum [97, 98, 99]).map B8).toArray) ∧ Below w.heap.size w w' := sum_any A cap 3 [97, 98, 99] w rfl (by decide) HY hh

theorem add_bc (w : World) (HY : Lay w) :
    Calls Tryd.prog 65 #[.agg (SVc (({ data := #[97] } : ByteArray).data.toList)).toArray, .string { data := #[98, 99] }] w fun e w' => e = .returned (.agg (SVc [97, 98, 99]).toArray) ∧ Below w.heap.size w w' := add_any [97] { data := #[98, 99] } w (by decide) HY

def H1L : List UInt8 := [98, 97, 55, 56, 49, 54, 98, 102, 56, 102, 48, 49, 99, 102, 101, 97, 52, 49, 52, 49, 52, 48, 100, 101, 53, 100, 97, 101, 50, 50, 50, 51, 98, 48, 48, 51, 54, 49, 97, 51, 57, 54, 49, 55, 55, 97, 57, 99, 98, 52, 49, 48, 102, 102, 54, 49, 102, 50, 48, 48, 49, 53, 97, 100]
def H2L : List UInt8 := [53, 98, 100, 99, 99, 49, 52, 54, 98, 102, 54, 48, 55, 53, 52, 101, 54, 97, 48, 52, 50, 52, 50, 54, 48, 56, 57, 53, 55, 53, 99, 55, 53, 97, 48, 48, 51, 102, 48, 56, 57, 100, 50, 55, 51, 57, 56, 51, 57, 100, 101, 99, 53, 56, 98, 57, 54, 52, 101, 99, 51, 56, 52, 51]
def H3L : List UInt8 := [102, 97, 49, 53, 52, 98, 97, 53, 97, 52, 100, 50, 54, 54, 102, 49, 98, 54, 52, 99, 56, 50, 54, 99, 101, 101, 100, 99, 97, 99, 98, 55]
theorem of_2 (A : Option Addr) (cap : Nat) (w : World) (HY : Lay w) (hh : Holds w A ([sA, sE].map Value.string)) :
    Calls Tryd.prog 37 #[.int .i64 8, .slice A 2 cap] w fun e w' => e = .returned (.agg (((SM.sum (ofIn 8 [sA, sE])).take 16).map B8).toArray) ∧ Below w.heap.size w w' := of_any A cap 2 8 [sA, sE] w rfl (by decide) (by rw [ev_in]; decide) HY hh
theorem mac_1 (w : World) (HY : Lay w) :
    Calls Tryd.prog 52 #[.string { data := #[74, 101, 102, 101] }, .string { data := #[119, 104, 97, 116, 32, 100, 111, 32, 121, 97, 32, 119, 97, 110, 116, 32, 102, 111, 114, 32, 110, 111, 116, 104, 105, 110, 103, 63] }] w fun e w' => e = .returned (.string ⟨(mac jefe.data.toList what.data.toList).toArray⟩) ∧ Below w.heap.size w w' := mac_any jefe what w (by decide) (by decide) HY






































































































































































































































































end Go.Proofs.YtkakiepaffhhjaaDoor

/-
  What the rows' last steps of layer 2 have in common. Conditions: none.
-/
namespace Go.Proofs.YtkakiepaffhhjaaDoor
open Go.ChangeShapes Go.WideShapes Go.ChangeAt Go.RowKit

theorem Tryd.own : ownKnob Tryd.prog.godebug = none := by kernel_rfl
theorem Tryd.laidOut : laidOutB Tryd.prog = true := by kernel_rfl
theorem door_met2 (os : Os) (args : Array Value) : laidMetH Tryd.prog [("interlace/hash.start", Rows.laid_interlace_hash_start), ("interlace/hash.roundConstants", Rows.laid_interlace_hash_roundConstants)] ((World.doorLaid Tryd.prog 400 os).forCall (fun _ _ => 0) ⟨#[], args, []⟩).memory :=
  laidMetH_of_parts3 (fuel := 8) (laidMet_of_run' 8 (by kernel_rfl) (by kernel_rfl)) (by kernel_rfl) (by kernel_rfl)
theorem door_met3 (os : Os) (args : Array Value) : laidMetH Tryd.prog [("interlace/interlaceref02.constants", Rows.laid_interlace_interlaceref02_constants), ("interlace/hash.start", Rows.laid_interlace_hash_start), ("interlace/hash.roundConstants", Rows.laid_interlace_hash_roundConstants)] ((World.doorLaid Tryd.prog 400 os).forCall (fun _ _ => 0) ⟨#[], args, []⟩).memory :=
  laidMetH_of_parts3 (fuel := 8) (laidMet_of_run' 8 (by kernel_rfl) (by kernel_rfl)) (by kernel_rfl) (by kernel_rfl)
end Go.Proofs.YtkakiepaffhhjaaDoor

/-
  Contracts of the walks over the reference's padded. Conditions: at most 10^9 bytes.
-/
namespace Go.Proofs.YtkakiepaffhhjaaDoor
open Go.RowKit

theorem holds_cells {w : World} {ad : Addr} {xs : List Value} (h : Holds w (some ad) xs) : ∀ j u, xs[j]? = some u → w.cell? (ad.add j) = some u := fun j u hu => by
  obtain ⟨ad', e, hc⟩ := h j u hu
  cases e
  exact hc
def lenOfV : Value → Nat
  | .slice _ n _ => n
  | _ => 0
theorem own_len {w : World} {base : Nat} {v : Value} {n : Nat} {xs : List Value} (h : w.ownsRow base 5 1 v n xs) : lenOfV v = n := by
  obtain ⟨A, c, rfl, _⟩ := holds_own h; rfl
/-- The message, the end mark and j zero bytes. -/
def padTo (l : List UInt8) (j : Nat) : List UInt8 := l ++ 128 :: SM.zeros j
theorem padTo_length (l : List UInt8) (j : Nat) : (padTo l j).length = l.length + 1 + j := by unfold padTo; rw [List.length_append, List.length_cons, SM.zeros_length]; omega
theorem padTo_succ (l : List UInt8) (j : Nat) : padTo l (j + 1) = padTo l j ++ [0] := by
  unfold padTo SM.zeros
  rw [List.replicate_succ', List.append_assoc]
  rfl
def padZ (l : List UInt8) : Nat := (119 - l.length % 64) % 64
theorem pad_eq (l : List UInt8) : SM.pad l = padTo l (padZ l) ++ SM.len8 l := rfl
theorem hi_toNat (l : List UInt8) (hl : l.length ≤ 100000000) : (SM.hi l).toNat = 0 := by
  unfold SM.hi; rw [UInt32.toNat_ofNat', Nat.div_eq_of_lt (by omega)]
theorem lo_toNat (l : List UInt8) (hl : l.length ≤ 100000000) : (SM.lo l).toNat = 8 * l.length := by
  unfold SM.lo; rw [UInt32.toNat_ofNat', Nat.mod_eq_of_lt (by omega)]
theorem len8_at (l : List UInt8) (hl : l.length ≤ 100000000) (k : Nat) (hk : k < 8) : ∃ b, (SM.len8 l)[k]? = some b ∧ B8 b = .int .u8 (8 * (l.length : Int) / 2 ^ (56 - 8 * k) % 256) := by
  have h0 := hi_toNat l hl
  have h1 := lo_toNat l hl
  have e : k = 0 ∨ k = 1 ∨ k = 2 ∨ k = 3 ∨ k = 4 ∨ k = 5 ∨ k = 6 ∨ k = 7 := by omega
  rcases e with rfl | rfl | rfl | rfl | rfl | rfl | rfl | rfl
  · refine ⟨_, rfl, ?_⟩; rw [b24, h0, show (2 : Int) ^ (56 - 8 * 0) = 72057594037927936 from rfl]; congr 1; omega
  · refine ⟨_, rfl, ?_⟩; rw [b16, h0, show (2 : Int) ^ (56 - 8 * 1) = 281474976710656 from rfl]; congr 1; omega
  · refine ⟨_, rfl, ?_⟩; rw [b8, h0, show (2 : Int) ^ (56 - 8 * 2) = 1099511627776 from rfl]; congr 1; omega
  · refine ⟨_, rfl, ?_⟩; rw [b0, h0, show (2 : Int) ^ (56 - 8 * 3) = 4294967296 from rfl]; congr 1; omega
  · refine ⟨_, rfl, ?_⟩; rw [b24, h1, show (2 : Int) ^ (56 - 8 * 4) = 16777216 from rfl]; congr 1; omega
  · refine ⟨_, rfl, ?_⟩; rw [b16, h1, show (2 : Int) ^ (56 - 8 * 5) = 65536 from rfl]; rfl
  · refine ⟨_, rfl, ?_⟩; rw [b8, h1, show (2 : Int) ^ (56 - 8 * 6) = 256 from rfl]; rfl
  · refine ⟨_, rfl, ?_⟩; rw [b0, h1, show (2 : Int) ^ (56 - 8 * 7) = 1 from rfl]; congr 1; omega
def PdRel1 (l : List UInt8) (w : World) (v : Value) (wr : World) : Prop :=
  ∃ j : Nat, j ≤ padZ l ∧ wr.ownsRow w.heap.size 5 1 v (padTo l j).length ((padTo l j).map B8) ∧ Below w.heap.size w wr
def PdRel2 (l : List UInt8) (w : World) (v i : Value) (wr : World) : Prop :=
  ∃ k : Nat, k ≤ 8 ∧ i = .int .i64 k ∧ wr.ownsRow w.heap.size 5 1 v ((padTo l (padZ l)).length + k) (((padTo l (padZ l)) ++ (SM.len8 l).take k).map B8) ∧ Below w.heap.size w wr

set_option maxRecDepth 100000 in
set_option maxHeartbeats 1600000 in
theorem padded_any (ad : Addr) (cap n : Nat) (l : List UInt8) (w : World) (hn : n = l.length) (hl : l.length ≤ 100000000) (hh : Holds w (some ad) (l.map B8)) :
    Calls Tryd.prog 78 #[.slice (some ad) n cap] w (PutPost (SM.pad l) w) := by
  obtain ⟨i0, hi, hz0, hz1, hz2⟩ := info_parts Tryd.info8
  have HN := Lib.hid hn
  have hn1 : n ≤ l.length := Nat.le_of_eq hn
  have hn2 : l.length ≤ n := Nat.le_of_eq hn.symm
  clear hn
  go_enter Tryd.func78, Tryd.ntmps78
  have hown0 := World.ownsRow_lit (base := w.heap.size) (e := 5) (size := 1) w #[] 0 (Nat.le_refl _) (by decide) rfl
  have hh0 := hh.next (below_new w (.cells #[] 5))
  go_wp2_with (at_builtin; refine wpList_append_own _ rfl _ _ 43 rfl w.heap.size 5 i0 (.int .u8 0) 1 1 Tryd.underlying43 hi hz0 hz1 hz2 rfl (by decide) _ _ _ rfl hown0 ad n cap (l.map B8) rfl ?c1 ?c2 ?c3 ?c4 ?c5 ?c6 ?_)
  case c1 => omega
  case c2 => exact fun j a ha => holds_cells hh0 j _ (by simp [ha])
  case c3 => exact fun a _ => rfl
  case c4 => unfold maxLen; omega
  case c5 => omega
  try (case c6 => exact (below_new w _).size)
  intro v1 w1 hown1 hgrow1 _
  have hlt0 := hown0.lt
  have hbel1 := (below_new w (.cells #[] 5)).grown hgrow1 (below_new w _).size (fun j hj => (hlt0 j hj).1)
  have hsz1 := hbel1.size
  have hlt1 := hown1.lt
  clear hown0 hlt0 hgrow1 hh0
  go_wp2_with (at_builtin; refine wpList_append_own _ rfl _ _ 43 rfl w.heap.size 5 i0 (.int .u8 0) 1 1 Tryd.underlying43 hi hz0 hz1 hz2 rfl (by decide) _ _ _ rfl (hown1.alloc _) ⟨w1.heap.size, 0, none⟩ 1 1 [.int .u8 128] rfl ?d1 ?d2 ?d3 ?d4 ?d5 ?d6 ?_)
  case d1 => rfl
  case d2 => exact fun j u hu => one_cellB hu
  case d3 => exact one_cell1 rfl
  case d4 => unfold maxLen; omega
  case d5 => omega
  case d6 => simp; omega
  intro v2 w2 hown2 hgrow2 _
  have hbel2 := (hbel1.alloc hsz1 (.cells #[Value.int .u8 128] 5)).grown hgrow2 (by simp; omega) (fun j hj => (hlt1 j hj).1)
  have hown2' : w2.ownsRow w.heap.size 5 1 v2 (padTo l 0).length ((padTo l 0).map B8) := by
    have e : (padTo l 0).length = 0 + n + 1 := by rw [padTo_length, HN.out]; omega
    have e2 : (padTo l 0).map B8 = l.map B8 ++ [.int .u8 128] := by unfold padTo; rw [List.map_append]; rfl
    rw [e, e2, Nat.zero_add]; exact hown2
  clear hown1 hown2 hlt1 hgrow2 hbel1 hsz1
  go_wp2
  go_loopw [3] (PdRel1 l w) (fun v _ => l.length + 65 - lenOfV v)
  case atStart => exact ⟨0, Nat.zero_le _, hown2', hbel2⟩
  case round =>
    clear hown2' hbel2
    obtain ⟨j, hj, hown, hbel⟩ := hrel
    have hpl := padTo_length l j
    have hzb : padZ l < 64 := by unfold padZ; omega
    have hsz := hbel.size
    have hlen := own_len hown
    obtain ⟨A, c, hv, _, _⟩ := holds_own hown
    obtain ⟨N, hN⟩ : ∃ N, Hid ((padTo l j).length = N) := ⟨_, rfl⟩
    have hNl : Hid (N = l.length + 1 + j) := by rw [← hN.out]; exact hpl
    rw [hN.out] at hv hlen hown
    have hNb : N ≤ 100000100 := by have := hNl.out; omega
    have hlt := hown.lt
    subst hv
    clear hpl
    by_cases hjz : j = padZ l
    · have ht : ((N : Int) % 64 == 56) = true := by
        have := hNl.out
        rw [beq_iff_eq]; unfold padZ at hjz; omega
      have ht2 : ((N : Int) % 64 != 56) = false := by rw [bne, ht]; rfl
      have hjz' := Lib.hid hjz
      clear hjz
      go_wp2
      go_loopw [3, 5] (PdRel2 l w) (fun _ i _ => 8 - (intOf i).toNat)
      case atStart =>
        refine ⟨0, by omega, rfl, ?_, hbel⟩
        rw [← hjz'.out, List.take_zero, List.append_nil, hN.out]
        exact hown
      case round =>
        clear hown hlt hlen hbel hsz
        obtain ⟨k, hk, rfl, hown, hbel⟩ := hrel
        have hsz := hbel.size
        have hlt := hown.lt
        have hpz : (padTo l (padZ l)).length ≤ 100000100 := by rw [padTo_length]; omega
        by_cases hk8 : k < 8
        · obtain ⟨P, hP⟩ : ∃ P, Hid ((padTo l (padZ l)).length = P) := ⟨_, rfl⟩
          rw [hP.out] at hown hpz
          obtain ⟨A2, c2, rfl, _, _⟩ := holds_own hown
          go_wp2_with (at_builtin; refine wpList_append_own _ rfl _ _ 43 rfl w.heap.size 5 i0 (.int .u8 0) 1 1 Tryd.underlying43 hi hz0 hz1 hz2 rfl (by decide) _ _ _ rfl (hown.alloc _) ⟨wr.heap.size, 0, none⟩ 1 1 [.int .u8 (8 * (n : Int) / 2 ^ (56 - 8 * k) % 256)] rfl ?f1 ?f2 ?f3 ?f4 ?f5 ?f6 ?_)
          case f1 => rfl
          case f2 => exact fun j u hu => one_cellB hu
          case f3 => exact one_cell1 rfl
          case f4 => unfold maxLen; omega
          case f5 => omega
          case f6 => simp; omega
          intro v3 w3 hown3 hgrow3 _
          have hbel3 := (hbel.alloc hsz (.cells #[Value.int .u8 (8 * (n : Int) / 2 ^ (56 - 8 * k) % 256)] 5)).grown hgrow3 (by simp; omega) (fun j hj => (hlt j hj).1)
          have hown3' : w3.ownsRow w.heap.size 5 1 v3 ((padTo l (padZ l)).length + (k + 1)) (((padTo l (padZ l)) ++ (SM.len8 l).take (k + 1)).map B8) := by
            obtain ⟨b, hb, hbe⟩ := len8_at l hl k hk8
            rw [← HN.out] at hbe
            rw [hP.out, List.take_add_one, hb, List.map_append, List.map_append, List.map_take, ← Nat.add_assoc]
            show w3.ownsRow _ _ _ _ _ (_ ++ (_ ++ [B8 b]))
            rw [hbe]
            exact hown3
          clear hown hlt hown3 hgrow3 hbel
          go_wp2
          go_roundw
          case rel => exact ⟨k + 1, by omega, rfl, hown3', hbel3⟩
          case measure => show 8 - (k + 1) < 8 - k; omega
        · have hke : k = 8 := by omega
          subst hke
          obtain ⟨A2, c2, rfl, _, _⟩ := holds_own hown
          go_wp2
          go_ret
          refine ⟨_, rfl, ?_, hbel⟩
          have e : (SM.pad l).length = (padTo l (padZ l)).length + 8 := by rw [pad_eq, List.length_append]; rfl
          rw [e, pad_eq, ← List.take_of_length_le (i := 8) (l := SM.len8 l) (Nat.le_of_eq (SM.len8_length l))]
          exact hown
    · have ht : ((N : Int) % 64 == 56) = false := by
        have := hNl.out
        rw [beq_eq_false_iff_ne]; unfold padZ at hj hjz; omega
      have ht2 : ((N : Int) % 64 != 56) = true := by rw [bne, ht]; rfl
      have hsc := Lib.hid (padTo_succ l j)
      go_wp2_with (at_builtin; refine wpList_append_own _ rfl _ _ 43 rfl w.heap.size 5 i0 (.int .u8 0) 1 1 Tryd.underlying43 hi hz0 hz1 hz2 rfl (by decide) _ _ _ rfl (hown.alloc _) ⟨wr.heap.size, 0, none⟩ 1 1 [.int .u8 0] rfl ?e1 ?e2 ?e3 ?e4 ?e5 ?e6 ?_)
      case e1 => rfl
      case e2 => exact fun j u hu => one_cellB hu
      case e3 => exact one_cell1 rfl
      case e4 => unfold maxLen; omega
      case e5 => omega
      case e6 => simp; omega
      intro v3 w3 hown3 hgrow3 _
      have hbel3 := (hbel.alloc hsz (.cells #[Value.int .u8 0] 5)).grown hgrow3 (by simp; omega) (fun j hj => (hlt j hj).1)
      have hown3' : w3.ownsRow w.heap.size 5 1 v3 (padTo l (j + 1)).length ((padTo l (j + 1)).map B8) := by
        rw [hsc.out, List.length_append, hN.out, List.map_append]; exact hown3
      have hl3 := own_len hown3
      clear hown hlt hown3 hgrow3 hbel
      go_wp2
      go_roundw
      case rel => exact ⟨j + 1, by omega, hown3', hbel3⟩
      case measure => rw [hl3]; show _ < l.length + 65 - N; have := hNl.out; omega
end Go.Proofs.YtkakiepaffhhjaaDoor

/-
  Contracts of the walks over the reference's words. Conditions: the slice holds 64 bytes.
-/
namespace Go.Proofs.YtkakiepaffhhjaaDoor
open Go.RowKit

/-- The first loop of the reference's words. -/
def RwRel1 (l : List UInt8) (B gr gw : Nat) (w : World) (i : Value) (wr : World) : Prop :=
  ∃ k : Nat, k ≤ 16 ∧ i = .int .i64 k ∧ Blk wr gw 100 (wordsRow (SM.first l k)) ∧ Blk wr gr 100 zeroW ∧ Below B w wr

set_option maxRecDepth 100000 in
set_option maxHeartbeats 1600000 in
theorem words_any (g o cap n : Nat) (l : List UInt8) (w : World) (hl : l.length = 64) (hn : n = 64) (hh : ∀ i, i < 64 → w.cell? ⟨g, o + i, none⟩ = some (B8 (l.getD i 0))) :
    Calls Tryd.prog 79 #[.slice (some ⟨g, o, none⟩) n cap] w fun e w' => e = .returned (.agg ((SM.words l).map W32).toArray) ∧ Below w.heap.size w w' := by
  subst hn
  have HL := Lib.hid hl
  have HH := Lib.hid hh
  clear hl hh
  go_enter Tryd.func79, Tryd.ntmps79
  go_wp2_with (with_reducible refine wpList_alloc (o := ⟨some 2, .alloc 100, _, _, _, _⟩) ?g2 100 ?o2 (aggW (List.replicate 64 0)) zeroW ?z2 ?c2 ?_)
  try (case g2 => rfl)
  try (case o2 => rfl)
  try (case z2 => exact Tryd.zero54)
  try (case c2 => rfl)
  intro gr w2 hgr hs2 hb2 hB2
  go_wp2_with (with_reducible refine wpList_alloc (o := ⟨some 3, .alloc 100, _, _, _, _⟩) ?g3 100 ?o3 (aggW (List.replicate 64 0)) zeroW ?z3 ?c3 ?_)
  try (case g3 => rfl)
  try (case o3 => rfl)
  try (case z3 => exact Tryd.zero54)
  try (case c3 => rfl)
  intro gw w3 hgw hs3 hb3 hB3
  have hlt0 : w.heap.size ≤ gr := Nat.le_of_eq hgr.out.symm
  have hlt2 : gr < gw := by have := hs2.out; have := hgr.out; have := hgw.out; omega
  have hb : Below w.heap.size w w3 := (hb2.mono hlt0).trans (hb3.mono (by omega))
  have hB2' := hB2.next hb3 hlt2
  clear hgr hgw hs2 hs3 hb2 hb3 hB2
  go_wp2
  go_loopw [4] (RwRel1 l w.heap.size gr gw w) (fun i _ => 16 - (intOf i).toNat)
  case atStart => exact ⟨0, by omega, rfl, hB3, hB2', hb⟩
  case round =>
    clear hb hB2' hB3
    obtain ⟨k, hk, rfl, hBw, hBr, hbel⟩ := hrel
    by_cases hlt : k < 16
    · have hc : ∀ j, j < 4 → wr.cell? ⟨g, o + (4 * k + j), none⟩ = some (B8 (l.getD (4 * k + j) 0)) := fun j hj => by
        have h1 := HH.out (4 * k + j) (by omega)
        rw [hbel.cell (World.block_lt_of_cell? w _ h1)]; exact h1
      have h0 := hc 0 (by decide)
      have h1 := hc 1 (by decide)
      have h2 := hc 2 (by decide)
      have h3 := hc 3 (by decide)
      rw [Nat.add_zero] at h0
      have HW := Lib.hid (word_bits (l.getD (4 * k) 0) (l.getD (4 * k + 1) 0) (l.getD (4 * k + 2) 0) (l.getD (4 * k + 3) 0))
      have hwd := Lib.hid (wordsRow_set l k hlt)
      have hwa : Hid (SM.wordAt l k = SM.word (l.getD (4 * k) 0) (l.getD (4 * k + 1) 0) (l.getD (4 * k + 2) 0) (l.getD (4 * k + 3) 0)) := rfl
      rw [hwa.out] at hwd
      generalize l.getD (4 * k) 0 = c0 at h0 HW hwd
      generalize l.getD (4 * k + 1) 0 = c1 at h1 HW hwd
      generalize l.getD (4 * k + 2) 0 = c2 at h2 HW hwd
      generalize l.getD (4 * k + 3) 0 = c3 at h3 HW hwd
      unfold B8 at h0 h1 h2 h3
      have b0 : c0.toNat < 256 := c0.toNat_lt
      have b1 : c1.toNat < 256 := c1.toNat_lt
      have b2 : c2.toNat < 256 := c2.toNat_lt
      have b3 : c3.toNat < 256 := c3.toNat_lt
      have m0 : IntKind.i64.wrap (4 * (k : Int)) = 4 * (k : Int) := IntWalk.i64_in _ (by omega)
      have m1 : IntKind.i64.wrap (4 * (k : Int) + 1) = 4 * (k : Int) + 1 := IntWalk.i64_in _ (by omega)
      have m2 : IntKind.i64.wrap (4 * (k : Int) + 2) = 4 * (k : Int) + 2 := IntWalk.i64_in _ (by omega)
      have m3 : IntKind.i64.wrap (4 * (k : Int) + 3) = 4 * (k : Int) + 3 := IntWalk.i64_in _ (by omega)
      have n0 : (4 * (k : Int)).toNat = 4 * k := by omega
      have n1 : (4 * (k : Int) + 1).toNat = 4 * k + 1 := by omega
      have n2 : (4 * (k : Int) + 2).toNat = 4 * k + 2 := by omega
      have n3 : (4 * (k : Int) + 3).toNat = 4 * k + 3 := by omega
      have u0 : 0 ≤ 4 * (k : Int) := by omega
      have u1 : 0 ≤ 4 * (k : Int) + 1 := by omega
      have u2 : 0 ≤ 4 * (k : Int) + 2 := by omega
      have u3 : 0 ≤ 4 * (k : Int) + 3 := by omega
      have v0 : 4 * (k : Int) < 64 := by omega
      have v1 : 4 * (k : Int) + 1 < 64 := by omega
      have v2 : 4 * (k : Int) + 2 < 64 := by omega
      have v3 : 4 * (k : Int) + 3 < 64 := by omega
      have w0 : IntKind.u32.wrap (c0.toNat : Int) = (c0.toNat : Int) := IntWalk.u32_in _ (by omega)
      have w1 : IntKind.u32.wrap (c1.toNat : Int) = (c1.toNat : Int) := IntWalk.u32_in _ (by omega)
      have w2 : IntKind.u32.wrap (c2.toNat : Int) = (c2.toNat : Int) := IntWalk.u32_in _ (by omega)
      have w3 : IntKind.u32.wrap (c3.toNat : Int) = (c3.toNat : Int) := IntWalk.u32_in _ (by omega)
      have y0 : IntKind.u32.wrap ((c0.toNat : Int) * 16777216) = (c0.toNat : Int) * 16777216 := IntWalk.u32_in _ (by omega)
      have y1 : IntKind.u32.wrap ((c1.toNat : Int) * 65536) = (c1.toNat : Int) * 65536 := IntWalk.u32_in _ (by omega)
      have y2 : IntKind.u32.wrap ((c2.toNat : Int) * 256) = (c2.toNat : Int) * 256 := IntWalk.u32_in _ (by omega)
      have hk64 : (k : Int) < 64 := by omega
      have hk0 : (0 : Int) ≤ (k : Int) := by omega
      clear hc
      go_wp2
      go_still_tail 35, (by kernel_rfl)
      have hBw' : Blk { wr with drawn := wr.drawn + 1 } gw 100 (wordsRow (SM.first l k)) := hBw
      have hBr' : Blk { wr with drawn := wr.drawn + 1 } gr 100 zeroW := hBr
      have hbel' : Below w.heap.size w { wr with drawn := wr.drawn + 1 } := hbel.drewN 1
      clear h0 h1 h2 h3 hBw hBr hbel m0 m1 m2 m3
      go_wp2_with (with_reducible refine wpList_put (o := ⟨none, .store 85 (.tmp 46) (.tmp 45), _, _, _, _⟩) ?g5 85 (.tmp 46) (.tmp 45) ?o5 gw k ?x5 (W32 (SM.word c0 c1 c2 c3)) ?y5 hBw' [W32 (SM.word c0 c1 c2 c3)] ?v5 ?i5 ?l5 ?q5 ?_)
      try (case y5 => (show Value.int .u32 _ = W32 _; rw [HW.out]; rfl))
      try (case x5 => rfl)
      try (case g5 => rfl)
      try (case o5 => rfl)
      try (case v5 => rfl)
      try (case i5 => exact Tryd.size29)
      try (case l5 => (rw [wordsRow_length _ (by rw [SM.first_length]; omega)]; simp; omega))
      try (case q5 => exact one_cell1 rfl)
      intro w4 hu4 hB4
      have hBr4 := hBr'.upd hu4 (by omega)
      have hbel4 : Below w.heap.size w w4 := hbel'.trans (hu4.below (by omega))
      rw [hwd.out] at hB4
      clear hBr' hBw' hbel' hu4 hwd
      go_wp2
      go_roundw
      case rel => exact ⟨k + 1, by omega, by go_num, hB4, hBr4, hbel4⟩
      case measure => simp [intOf]; omega
    · have hk16 : k = 16 := by omega
      rw [hk16] at hBw
      clear hk16
      go_wp2
      clear hlt
      go_loopw [5] (ScRel2 l w.heap.size gr gw w) (fun i _ => 64 - (intOf i).toNat)
      case atStart => exact ⟨16, by omega, by omega, rfl, hBw, hBr, hbel⟩
      case round =>
        obtain ⟨t, ht1, ht2, rfl, hBw, hBr, hbel⟩ := hrel
        by_cases hlt : t < 64
        · have hwl := Lib.hid (more_len l t ht1)
          obtain ⟨x15, h15, HX15⟩ := word_cell hBw (t - 15) (by have := hwl.out; omega)
          obtain ⟨x2, h2, HX2⟩ := word_cell hBw (t - 2) (by have := hwl.out; omega)
          obtain ⟨x16, h16, HX16⟩ := word_cell hBw (t - 16) (by have := hwl.out; omega)
          obtain ⟨x7, h7, HX7⟩ := word_cell hBw (t - 7) (by have := hwl.out; omega)
          have n15 : ((t : Int) - 15).toNat = t - 15 := by omega
          have p15 : IntKind.i64.wrap ((t : Int) - 15) = (t : Int) - 15 := IntWalk.i64_in _ (by omega)
          have q15 : 15 ≤ (t : Int) := by omega
          have r15 : 0 ≤ (t : Int) - 15 := by omega
          have s15 : (t : Int) - 15 < 64 := by omega
          have n2 : ((t : Int) - 2).toNat = t - 2 := by omega
          have p2 : IntKind.i64.wrap ((t : Int) - 2) = (t : Int) - 2 := IntWalk.i64_in _ (by omega)
          have q2 : 2 ≤ (t : Int) := by omega
          have r2 : 0 ≤ (t : Int) - 2 := by omega
          have s2 : (t : Int) - 2 < 64 := by omega
          have n16 : ((t : Int) - 16).toNat = t - 16 := by omega
          have p16 : IntKind.i64.wrap ((t : Int) - 16) = (t : Int) - 16 := IntWalk.i64_in _ (by omega)
          have q16 : 16 ≤ (t : Int) := by omega
          have r16 : 0 ≤ (t : Int) - 16 := by omega
          have s16 : (t : Int) - 16 < 64 := by omega
          have n7 : ((t : Int) - 7).toNat = t - 7 := by omega
          have p7 : IntKind.i64.wrap ((t : Int) - 7) = (t : Int) - 7 := IntWalk.i64_in _ (by omega)
          have q7 : 7 ≤ (t : Int) := by omega
          have r7 : 0 ≤ (t : Int) - 7 := by omega
          have s7 : (t : Int) - 7 < 64 := by omega
          go_wp2
          unfold W32 at h15 h2 h16 h7
          go_quiet ((go_at_call 80; exact Calls.quiet_of (rrotr_raw _ _ _ _ rfl rfl)))
          have h2' := cell_drewN h2 nq
          have h16' := cell_drewN h16 nq
          have h7' := cell_drewN h7 nq
          have hBw' := hBw.drewN nq
          have hBr' := hBr.drewN nq
          have hbel' := hbel.drewN nq
          clear h2 h16 h7 h15 hBw hBr hbel
          generalize wr.drewN nq = wq at h2' h16' h7' hBw' hBr' hbel' ⊢
          go_wp2
          go_quiet ((go_at_call 80; exact Calls.quiet_of (rrotr_raw _ _ _ _ rfl rfl)))
          have h16 := cell_drewN h16' nq
          have h7 := cell_drewN h7' nq
          have hBw := hBw'.drewN nq
          have hBr := hBr'.drewN nq
          have hbel := hbel'.drewN nq
          clear h2' h16' h7' hBw' hBr' hbel'
          generalize wq.drewN nq = wz at h16 h7 hBw hBr hbel ⊢
          rw [s0_raw x15, s1_raw x2]
          go_wp2
          go_still_tail 15, (by kernel_rfl)
          have hBw' : Blk { wz with drawn := wz.drawn + 1 } gw 100 (wordsRow (SM.more (SM.first l 16) (t - 16))) := hBw
          have hBr' : Blk { wz with drawn := wz.drawn + 1 } gr 100 zeroW := hBr
          have hbel' : Below w.heap.size w { wz with drawn := wz.drawn + 1 } := hbel.drewN 1
          have hnx := Lib.hid (next_of HX15 HX2 HX16 HX7 hwl)
          have hsn := Lib.hid (more_snoc l t ht1 hlt)
          clear h16 h7 hBw hBr hbel
          go_wp2_with (with_reducible refine wpList_put (o := ⟨none, .store 85 (.tmp 99) (.tmp 98), _, _, _, _⟩) ?g6 85 (.tmp 99) (.tmp 98) ?o6 gw t ?x6 (W32 (x16 + SM.s0 x15 + x7 + SM.s1 x2)) ?y6 hBw' [W32 (x16 + SM.s0 x15 + x7 + SM.s1 x2)] ?v6 ?i6 ?l6 ?q6 ?_)
          try (case y6 => exact (add3 x16 (SM.s0 x15) x7 (SM.s1 x2)))
          try (case x6 => rfl)
          try (case g6 => rfl)
          try (case o6 => rfl)
          try (case v6 => rfl)
          try (case i6 => exact Tryd.size29)
          try (case l6 => (rw [wordsRow_length _ (by rw [hwl.out]; omega)]; simp; omega))
          try (case q6 => exact one_cell1 rfl)
          intro w4 hu4 hB4
          have hBr4 := hBr'.upd hu4 (by omega)
          have hbel4 : Below w.heap.size w w4 := hbel'.trans (hu4.below (by omega))
          rw [hnx.out, hsn.out] at hB4
          clear hBw' hBr' hbel' hu4 hnx hsn
          go_wp2
          go_roundw
          case rel => exact ⟨t + 1, by omega, by omega, by go_num, hB4, hBr4, hbel4⟩
          case measure => simp [intOf]; omega
        · obtain rfl : t = 64 := by omega
          have hfin := Lib.hid (words_full l)
          rw [hfin.out] at hBw
          go_wp2_with (first | (with_reducible refine wpList_get (o := ⟨some 100, .load 100 (.tmp 3), _, _, _, _⟩) ?g7 100 (.tmp 3) ?o7 gw 0 ?x7 hBw ((SM.words l).map W32) ?c7 (.array 64 85) ?u7 ?d7 ?i7 ?_) | (with_reducible refine wpList_put (o := ⟨none, .store 100 (.tmp 2) (.tmp 100), _, _, _, _⟩) ?g8 100 (.tmp 2) (.tmp 100) ?o8 gr 0 ?x8 (aggW (SM.words l)) ?y8 hBr ((SM.words l).map W32) ?v8 ?i8 ?l8 ?q8 ?_))
          try (case x7 => rfl)
          try (case g7 => rfl)
          try (case o7 => rfl)
          try (case c7 => (exact cs_all _))
          try (case u7 => exact Tryd.underlying100)
          try (case d7 => first | rfl | assumption)
          try (case i7 => (rw [words_cells]; exact Tryd.size54))
          try (case y8 => rfl)
          try (case x8 => rfl)
          try (case g8 => rfl)
          try (case o8 => rfl)
          try (case v8 => rfl)
          try (case i8 => exact (by rw [words_cells]; exact Tryd.size54))
          try (case l8 => (rw [words_cells]; exact Nat.le_refl _))
          try (case q8 => exact W32_one _)
          intro w5 hu5 hB5
          rw [splice_all _ _ (by rw [words_cells]; rfl)] at hB5
          go_wp2
          refine bodyPost_ret (results_cell_row rfl _ _ gr _ _ _ _ rfl hB5 Tryd.underlying100 rfl (by rw [List.size_toArray, words_cells]; exact Tryd.size54)) rfl ⟨rfl, ?_⟩
          exact hbel.trans (hu5.below (by omega))
end Go.Proofs.YtkakiepaffhhjaaDoor

/-
  Contracts of the walks over the reference's Sum. Conditions: at most 10^8 bytes; its table reads as the document has it.
-/
namespace Go.Proofs.YtkakiepaffhhjaaDoor
open Go.RowKit

/-- The reference's table reads as the document has it. -/
def LayC (w : World) : Prop := ∀ k, k < 64 → w.cell? ⟨1, k, none⟩ = some (W32 (SM.K.getD k 0))
theorem LayC.next {w w' : World} (h : LayC w) (hb : Below w.heap.size w w') : LayC w' := fun k hk => by rw [hb.cell (World.block_lt_of_cell? w _ (h k hk))]; exact h k hk
/-- Block g begins with these bytes. -/
def RowAt (w : World) (g : Nat) (p : List UInt8) : Prop := ∀ j, j < p.length → w.cell? ⟨g, j, none⟩ = some (B8 (p.getD j 0))
theorem RowAt.lt {w : World} {g : Nat} {p : List UInt8} (h : RowAt w g p) (hp : 0 < p.length) : g < w.heap.size := World.block_lt_of_cell? w _ (h 0 hp)
theorem RowAt.next {w w' : World} {B g : Nat} {p : List UInt8} (h : RowAt w g p) (hb : Below B w w') (hg : g < B) : RowAt w' g p := fun j hj => by rw [hb.cell (p := ⟨g, j, none⟩) hg]; exact h j hj
theorem RowAt.upd {w w' : World} {g g' : Nat} {p : List UInt8} (h : RowAt w g p) (hu : Upd g' w w') (hne : g ≠ g') : RowAt w' g p := fun j hj => by
  have := h j hj
  unfold World.cell? at this ⊢
  simp only [hu.block g hne]
  exact this
theorem RowAt.drewN {w : World} {g : Nat} {p : List UInt8} (h : RowAt w g p) (n : Nat) : RowAt (w.drewN n) g p := h
theorem RowAt.block {w : World} {g : Nat} {p : List UInt8} (h : RowAt w g p) (a : Nat) (ha : a + 64 ≤ p.length) : ∀ i, i < 64 → w.cell? ⟨g, a + i, none⟩ = some (B8 (((p.drop a).take 64).getD i 0)) := fun i hi => by
  rw [h (a + i) (by omega), List.getD_eq_getElem?_getD, List.getD_eq_getElem?_getD, List.getElem?_take, if_pos hi, List.getElem?_drop]
theorem rowAt_of {w : World} {g : Nat} {p : List UInt8} (h : ∀ j u, (p.map B8)[j]? = some u → w.cell? ((⟨g, 0, none⟩ : Addr).add j) = some u) : RowAt w g p := fun j hj => by
  have := h j (B8 (p.getD j 0)) (by rw [List.getElem?_map, List.getD_eq_getElem?_getD, List.getElem?_eq_getElem hj]; rfl)
  rw [addr_mid, Nat.zero_add] at this
  exact this
theorem pad_mod (l : List UInt8) : (SM.pad l).length % 64 = 0 := by
  rw [pad_eq, List.length_append, padTo_length, SM.len8_length]; unfold padZ; omega
theorem pad_len (l : List UInt8) : (SM.pad l).length ≤ l.length + 72 ∧ 0 < (SM.pad l).length := by
  rw [pad_eq, List.length_append, padTo_length, SM.len8_length]; unfold padZ; omega

theorem w_not2 (a : UInt32) : bits .xor .u32 (a.toNat : Int) 4294967295 = ((~~~ a).toNat : Int) := by
  have h := w_xor a 4294967295
  rw [show ((4294967295 : UInt32).toNat : Int) = 4294967295 from rfl] at h
  rw [h, show a ^^^ 4294967295 = ~~~ a from UInt32.toBitVec_inj.1 (by rw [UInt32.toBitVec_xor, UInt32.toBitVec_not]; exact BitVec.xor_allOnes)]
theorem ch_raw2 (e f g : UInt32) : bits .xor .u32 (bits .and .u32 (e.toNat : Int) (f.toNat : Int)) (bits .and .u32 (bits .xor .u32 (e.toNat : Int) 4294967295) (g.toNat : Int)) = ((SM.ch e f g).toNat : Int) := by
  rw [w_not2, w_and, w_and, w_xor]; rfl

theorem splice_at {α : Type} (A T : List α) (x y : α) (n : Nat) (hn : n = A.length) : splice (A ++ x :: T) n [y] = A ++ y :: T := by subst hn; unfold splice; simp
/-- The first n bytes of a digest. -/
def obRow (o : List UInt8) (n : Nat) : List Value := (o.take n ++ SM.zeros (o.length - n)).map B8
theorem obRow_length (o : List UInt8) (n : Nat) (h : n ≤ o.length) : (obRow o n).length = o.length := by unfold obRow; rw [List.length_map, List.length_append, List.length_take, SM.zeros_length]; omega
theorem obRow_snoc (o : List UInt8) (n : Nat) (h : n < o.length) : splice (obRow o n) n [B8 (o.getD n 0)] = obRow o (n + 1) := by
  have hz : SM.zeros (o.length - n) = 0 :: SM.zeros (o.length - (n + 1)) := by
    unfold SM.zeros; rw [← List.replicate_succ]; congr 1; omega
  have ht : o.take (n + 1) = o.take n ++ [o.getD n 0] := by rw [List.take_add_one, List.getD_eq_getElem?_getD, List.getElem?_eq_getElem h]; rfl
  unfold obRow
  rw [hz, ht]
  simp only [List.map_append, List.map_cons, List.append_assoc]
  rw [splice_at _ _ _ _ n (by simp; omega)]
  rfl
theorem obRow_all (o : List UInt8) : obRow o o.length = o.map B8 := by unfold obRow; rw [List.take_length, Nat.sub_self]; simp [SM.zeros]
theorem be_at (x : UInt32) (r : Nat) (h : r < 4) : B8 ((SM.be4 x).getD r 0) = .int .u8 ((x.toNat : Int) / 2 ^ (24 - 8 * r) % 256) := by
  have hx : x.toNat < 4294967296 := x.toNat_lt
  match r, h with
  | 0, _ => exact (b24 x).trans (by congr 1; rw [show (2 : Int) ^ (24 - 8 * 0) = 16777216 from rfl]; omega)
  | 1, _ => exact b16 x
  | 2, _ => exact b8 x
  | 3, _ => exact (b0 x).trans (by congr 1; rw [show (2 : Int) ^ (24 - 8 * 3) = 1 from rfl]; omega)
theorem out_split (v : SM.V) (q r : Nat) (hq : q < 8) (hr : r < 4) : (SM.out v).getD (4 * q + r) 0 = (SM.be4 (v.list.getD q 0)).getD r 0 := by
  match q, r, hq, hr with
  | 0, 0, _, _ | 0, 1, _, _ | 0, 2, _, _ | 0, 3, _, _ | 1, 0, _, _ | 1, 1, _, _ | 1, 2, _, _ | 1, 3, _, _ => rfl
  | 2, 0, _, _ | 2, 1, _, _ | 2, 2, _, _ | 2, 3, _, _ | 3, 0, _, _ | 3, 1, _, _ | 3, 2, _, _ | 3, 3, _, _ => rfl
  | 4, 0, _, _ | 4, 1, _, _ | 4, 2, _, _ | 4, 3, _, _ | 5, 0, _, _ | 5, 1, _, _ | 5, 2, _, _ | 5, 3, _, _ => rfl
  | 6, 0, _, _ | 6, 1, _, _ | 6, 2, _, _ | 6, 3, _, _ | 7, 0, _, _ | 7, 1, _, _ | 7, 2, _, _ | 7, 3, _, _ => rfl
theorem out_at (v : SM.V) (n : Nat) (h : n < 32) : B8 ((SM.out v).getD n 0) = .int .u8 (((v.list.getD (n / 4) 0).toNat : Int) / 2 ^ (24 - 8 * (n % 4)) % 256) := by
  rw [← be_at _ _ (Nat.mod_lt _ (by decide)), ← out_split v (n / 4) (n % 4) (by omega) (Nat.mod_lt _ (by decide)), Nat.div_add_mod]
end Go.Proofs.YtkakiepaffhhjaaDoor

/-
  Contracts of the walks over the reference's Sum. Conditions: at most 10^8 bytes; its table reads as the document has it.
-/
namespace Go.Proofs.YtkakiepaffhhjaaDoor
open Go.RowKit

/-- What all four loops keep. -/
structure RsKeep (p : List UInt8) (B gs go gm : Nat) (w : World) (wr : World) : Prop where
  o : Blk wr go 76 zero32
  row : RowAt wr gm p
  bel : Below B w wr
def RsRel (p : List UInt8) (B gs go gm : Nat) (w : World) (i : Value) (wr : World) : Prop :=
  ∃ n a : Nat, Hid (a = 64 * n) ∧ a ≤ p.length ∧ i = .int .i64 a ∧ Blk wr gs 86 ((SM.blocks n SM.start p).list.map W32) ∧ RsKeep p B gs go gm w wr
def RoRel (p : List UInt8) (s : SM.V) (ws : List UInt32) (B gs go gm gw gv : Nat) (w : World) (i : Value) (wr : World) : Prop :=
  ∃ n : Nat, n ≤ 64 ∧ i = .int .i64 n ∧ Blk wr gv 86 ((SM.rounds ws s n).list.map W32) ∧ Blk wr gw 100 (ws.map W32) ∧ Blk wr gs 86 (s.list.map W32) ∧ RsKeep p B gs go gm w wr
def RaRel (p : List UInt8) (s v : SM.V) (B gs go gm gv : Nat) (w : World) (i : Value) (wr : World) : Prop :=
  ∃ k : Nat, k ≤ 8 ∧ i = .int .i64 k ∧ Blk wr gs 86 ((mix s v k).map W32) ∧ Blk wr gv 86 (v.list.map W32) ∧ RsKeep p B gs go gm w wr
theorem sum5b (a b c d e : UInt32) : (((a.toNat : Int) + (b.toNat : Int) + (c.toNat : Int) + (d.toNat : Int)) % 4294967296 + (e.toNat : Int)) % 4294967296 = ((a + b + c + d + e).toNat : Int) := by
  rw [← sum5]; omega
def RbRel (S : List UInt8) (s : SM.V) (B gs go gb : Nat) (w : World) (i : Value) (wr : World) : Prop :=
  ∃ k : Nat, k ≤ 32 ∧ i = .int .i64 k ∧ Blk wr gb 76 (obRow S k) ∧ Blk wr gs 86 (s.list.map W32) ∧ Blk wr go 76 zero32 ∧ Below B w wr
theorem RsKeep.next {p : List UInt8} {B gs go gm : Nat} {w a b : World} (h : RsKeep p B gs go gm w a) (hb : Below a.heap.size a b) (hp : 0 < p.length) (hs : w.heap.size = B) : RsKeep p B gs go gm w b :=
  ⟨h.o.next hb h.o.lt, h.row.next hb (h.row.lt hp), h.bel.trans (hb.mono (by have := h.bel.size; omega))⟩
theorem RsKeep.upd {p : List UInt8} {B gs go gm g : Nat} {w a b : World} (h : RsKeep p B gs go gm w a) (hu : Upd g a b) (h1 : go ≠ g) (h2 : gm ≠ g) (h3 : B ≤ g) : RsKeep p B gs go gm w b :=
  ⟨h.o.upd hu h1, h.row.upd hu h2, h.bel.trans (hu.below h3)⟩
theorem RsKeep.drewN {p : List UInt8} {B gs go gm : Nat} {w a : World} (h : RsKeep p B gs go gm w a) (n : Nat) : RsKeep p B gs go gm w (a.drewN n) :=
  ⟨h.o.drewN n, h.row.drewN n, h.bel.drewN n⟩
set_option maxRecDepth 100000 in
set_option maxHeartbeats 3200000 in
theorem rsum_any (ad : Addr) (cap n : Nat) (l : List UInt8) (w : World) (hn : n = l.length) (hl : l.length ≤ 100000000) (hh : Holds w (some ad) (l.map B8)) (HC : LayC w) :
    Calls Tryd.prog 70 #[.slice (some ad) n cap] w fun e w' => e = .returned (.agg ((SM.sum l).map B8).toArray) ∧ Below w.heap.size w w' := by
  subst hn
  obtain ⟨S, hS⟩ : ∃ S, Hid (SM.sum l = S) := ⟨_, rfl⟩
  rw [hS.out]
  go_enter Tryd.func70, Tryd.ntmps70
  go_wp2_with (with_reducible refine wpList_alloc (o := ⟨some 2, .alloc 76, _, _, _, _⟩) ?g1 76 ?o1 (aggB (SM.zeros 32)) zero32 ?z1 ?c1 ?_)
  try (case g1 => rfl)
  try (case o1 => rfl)
  try (case z1 => exact Tryd.zero24)
  try (case c1 => rfl)
  intro go w1 hgo hs1 hb1 hB1
  go_wp2_with (with_reducible refine wpList_alloc (o := ⟨some 3, .alloc 86, _, _, _, _⟩) ?g3 86 ?o3 (aggW (List.replicate 8 0)) zeroV ?z3 ?c3 ?_)
  try (case g3 => rfl)
  try (case o3 => rfl)
  try (case z3 => exact Tryd.zero30)
  try (case c3 => rfl)
  intro gs w2 hgs hs2 hb2 hB2
  have hlt0 : w.heap.size ≤ go := Nat.le_of_eq hgo.out.symm
  have hlt1 : go < gs := by have := hs1.out; have := hgs.out; omega
  have hsz2 : gs < w2.heap.size := by have := hs2.out; omega
  have hb : Below w.heap.size w w2 := (hb1.mono hlt0).trans (hb2.mono (by omega))
  have hBo := hB1.next hb2 hlt1
  clear hgo hgs hs1 hs2 hb1 hb2 hB1
  go_wp2_with (with_reducible refine wpList_put (o := ⟨none, .store 86 (.tmp 3) (.tmp 14), _, _, _, _⟩) ?g4 86 (.tmp 3) (.tmp 14) ?o4 gs 0 ?x4 (aggW SM.start.list) ?y4 hB2 (SM.start.list.map W32) ?v4 ?i4 ?l4 ?q4 ?_)
  try (case y4 => rfl)
  try (case x4 => rfl)
  try (case g4 => rfl)
  try (case o4 => rfl)
  try (case v4 => rfl)
  try (case i4 => exact Tryd.size30)
  try (case l4 => exact Nat.le_refl _)
  try (case q4 => exact W32_one _)
  intro w3 hu3 hB3
  rw [splice_all zeroV (SM.start.list.map W32) (by rfl)] at hB3
  have hBo3 := hBo.upd hu3 (by omega)
  have hbel3 := hb.trans (hu3.below (B := w.heap.size) (by omega))
  have hsz3 := hu3.size
  have hh3 := hh.next hbel3
  have hC3 := HC.next hbel3
  clear hB2 hBo hb hu3 hh
  go_wp2_with fail
  (with_reducible refine (padded_any ad cap l.length l _ rfl hl hh3).mono ?_)
  rintro e w4 ⟨v4, rfl, hown, hb4⟩
  obtain ⟨hpl, hp0⟩ := pad_len l
  obtain ⟨gm, mcap, rfl, hcm⟩ := own_some hown hp0
  have hgm : w3.heap.size ≤ gm := (hown.lt gm rfl).1
  have hgm4 : gm < w4.heap.size := (hown.lt gm rfl).2
  have hmc : (SM.pad l).length ≤ mcap := by
    obtain ⟨_, _, e', hle, _⟩ := holds_own hown
    cases e'; exact hle
  have hrow := rowAt_of hcm
  have hpm := pad_mod l
  have hsum : Unit → S = SM.out (SM.blocks ((SM.pad l).length / 64) SM.start (SM.pad l)) := fun _ => hS.out.symm
  obtain ⟨p, hp⟩ : ∃ p, Hid (SM.pad l = p) := ⟨_, rfl⟩
  rw [hp.out] at hsum hpm hrow hpl hp0 hmc ⊢
  have hBs4 := hB3.next hb4 hB3.lt
  have hK4 : RsKeep p w.heap.size gs go gm w w4 := ⟨hBo3.next hb4 hBo3.lt, hrow, hbel3.trans (hb4.mono hbel3.size)⟩
  clear hB3 hBo3 hbel3 hb4 hrow hcm hown hh3 hC3
  have hplb : p.length ≤ 100000072 := by omega
  have hgsm : gs < gm := by omega
  clear hgm hgm4 hsz3 hsz2 hS hp hl hpl
  have HCH := Lib.hid HC
  clear HC
  have HPM := Lib.hid hpm
  clear hpm
  go_wp2
  go_loopw [5] (RsRel p w.heap.size gs go gm w) (fun i _ => p.length - (intOf i).toNat)
  case atStart => exact ⟨0, 0, rfl, Nat.zero_le _, rfl, hBs4, hK4⟩
  case round =>
    clear hBs4 hK4
    obtain ⟨n, a, ha, hap, rfl, hBs, hK⟩ := hrel
    by_cases hlt : a < p.length
    · have ha64 : a + 64 ≤ p.length := by have := ha.out; have := HPM.out; omega
      have hblk := hK.row.block a ha64
      have hl64 : ((p.drop a).take 64).length = 64 := by rw [List.length_take, List.length_drop]; omega
      have hsn : Unit → SM.blocks (n + 1) SM.start p = SM.compress (SM.blocks n SM.start p) ((p.drop (64 * n)).take 64) := fun _ => SM.blocks_snoc n SM.start p
      rw [← ha.out] at hsn
      have HL64 := Lib.hid hl64
      have HBLK := Lib.hid hblk
      generalize SM.blocks n SM.start p = s at hBs hsn
      generalize (p.drop a).take 64 = blk at HBLK HL64 hsn
      clear hl64 hblk
      go_wp2_with fail
      (with_reducible refine (words_any gm a _ 64 blk _ HL64.out rfl HBLK.out).mono ?_)
      rintro e w5 ⟨rfl, hb5⟩
      have hwl := Lib.hid (SM.words_length blk)
      obtain ⟨ws, hws⟩ : ∃ ws, (Unit → SM.words blk = ws) := ⟨_, fun _ => rfl⟩
      rw [hws ()] at hwl ⊢
      have hwc : Hid ((ws.map W32).length = 64) := by
        have : (ws.map W32).length = 64 := by rw [List.length_map]; exact hwl.out
        exact this
      have hK5 := hK.next hb5 hp0 rfl
      have hBs5 := hBs.next hb5 hBs.lt
      have hsz5 := hK5.bel.size
      clear hK hBs hb5 HBLK
      go_wp2_with (first | (with_reducible refine wpList_alloc (o := ⟨some 6, .alloc 100, _, _, _, _⟩) ?g5 100 ?o5 (aggW (List.replicate 64 0)) zeroW ?z5 ?c5 ?_) | (with_reducible refine wpList_alloc (o := ⟨some 7, .alloc 86, _, _, _, _⟩) ?g6 86 ?o6 (aggW (List.replicate 8 0)) zeroV ?z6 ?c6 ?_))
      try (case g5 => rfl)
      try (case o5 => rfl)
      try (case z5 => exact Tryd.zero54)
      try (case c5 => rfl)
      intro gw w6 hgw hs6 hb6 hB6
      have hwlt : gs < gw := by have := hBs5.lt; have := hgw.out; omega
      have hmlt : gm < gw := by have := hK5.row.lt hp0; have := hgw.out; omega
      have hK6 : RsKeep p w.heap.size gs go gm w w6 := hK5.next (hb6.mono (Nat.le_of_eq hgw.out.symm)) hp0 rfl
      have hBs6 := hBs5.next hb6 hwlt
      have hgwB : w.heap.size ≤ gw := by omega
      clear hK5 hBs5 hb6 hgw hs6 hsz5
      go_wp2_with (with_reducible refine wpList_put (o := ⟨none, .store 100 (.tmp 6) (.tmp 28), _, _, _, _⟩) ?g7 100 (.tmp 6) (.tmp 28) ?o7 gw 0 ?x7 (aggW ws) ?y7 hB6 (ws.map W32) ?v7 ?i7 ?l7 ?q7 ?_)
      try (case y7 => rfl)
      try (case x7 => rfl)
      try (case g7 => rfl)
      try (case o7 => rfl)
      try (case v7 => rfl)
      try (case i7 => exact (by rw [hwc.out]; exact Tryd.size54))
      try (case l7 => (rw [hwc.out]; exact Nat.le_refl _))
      try (case q7 => exact W32_one _)
      intro w7 hu7 hB7
      rw [splice_all _ _ (by rw [hwc.out]; rfl)] at hB7
      have hK7 := hK6.upd hu7 (by omega) (by omega) hgwB
      have hBs7 := hBs6.upd hu7 (by omega)
      clear hK6 hBs6 hB6 hu7
      go_wp2_with (first | (with_reducible refine wpList_get (o := ⟨some 29, .load 86 (.tmp 3), _, _, _, _⟩) ?g8 86 (.tmp 3) ?o8 gs 0 ?x8 hBs7 (s.list.map W32) ?c8 (.array 8 85) ?u8 ?d8 ?i8 ?_) | (with_reducible refine wpList_alloc (o := ⟨some 7, .alloc 86, _, _, _, _⟩) ?g9 86 ?o9 (aggW (List.replicate 8 0)) zeroV ?z9 ?c9 ?_))
      try (case x8 => rfl)
      try (case g8 => rfl)
      try (case o8 => rfl)
      try (case c8 => (exact cs_all _))
      try (case u8 => exact Tryd.underlying86)
      try (case d8 => first | rfl | assumption)
      try (case i8 => exact Tryd.size30)
      try (case g9 => rfl)
      try (case o9 => rfl)
      try (case z9 => exact Tryd.zero30)
      try (case c9 => rfl)
      intro gv w8 hgv hs8 hb8 hB8
      have hvlt : gw < gv := by have := hB7.lt; have := hgv.out; omega
      have hvw : gv = w7.heap.size := hgv.out
      have hK8 : RsKeep p w.heap.size gs go gm w w8 := hK7.next (hb8.mono (Nat.le_of_eq hgv.out.symm)) hp0 rfl
      have hBs8 := hBs7.next hb8 (by omega)
      have hBw8 := hB7.next hb8 hvlt
      clear hK7 hBs7 hB7 hb8 hgv hs8 hvw
      go_wp2_with (with_reducible refine wpList_put (o := ⟨none, .store 86 (.tmp 7) (.tmp 29), _, _, _, _⟩) ?g10 86 (.tmp 7) (.tmp 29) ?o10 gv 0 ?x10 (aggW s.list) ?y10 hB8 (s.list.map W32) ?v10 ?i10 ?l10 ?q10 ?_)
      try (case y10 => rfl)
      try (case x10 => rfl)
      try (case g10 => rfl)
      try (case o10 => rfl)
      try (case v10 => rfl)
      try (case i10 => exact Tryd.size30)
      try (case l10 => exact Nat.le_refl _)
      try (case q10 => exact W32_one _)
      intro w9 hu9 hB9
      rw [splice_all zeroV (s.list.map W32) (by rfl)] at hB9
      have hK9 := hK8.upd hu9 (by omega) (by omega) (by omega)
      have hBs9 := hBs8.upd hu9 (by omega)
      have hBw9 := hBw8.upd hu9 (by omega)
      clear hK8 hBs8 hBw8 hB8 hu9
      go_wp2
      go_loopw [8] (RoRel p s ws w.heap.size gs go gm gw gv w) (fun i _ => 64 - (intOf i).toNat)
      case atStart => exact ⟨0, by omega, rfl, hB9, hBw9, hBs9, hK9⟩
      case round =>
        clear hB9 hBw9 hBs9 hK9
        obtain ⟨t, ht, rfl, hBv, hBw, hBs, hK⟩ := hrel
        by_cases ht64 : t < 64
        · have hC := Lib.hid ((HCH.out.next hK.bel) t ht64)
          have hKc := hC.out
          have hwt := hBw.cell (k := t) (v := W32 (ws.getD t 0)) (by rw [List.getElem?_map, List.getD_eq_getElem?_getD, List.getElem?_eq_getElem (by have := hwl.out; omega)]; rfl)
          have HST : Unit → SM.rounds ws s (t + 1) = SM.step (SM.rounds ws s t) (SM.K.getD t 0) (ws.getD t 0) := fun _ => rfl
          generalize SM.K.getD t 0 = kk at hKc HST
          generalize ws.getD t 0 = ww at hwt HST
          generalize SM.rounds ws s t = v at HST hBv
          unfold W32 at hKc hwt
          have c0 := hBv.cell (k := 0) (v := .int .u32 (v.a.toNat : Int)) rfl
          have c1 := hBv.cell (k := 1) (v := .int .u32 (v.b.toNat : Int)) rfl
          have c2 := hBv.cell (k := 2) (v := .int .u32 (v.c.toNat : Int)) rfl
          have c3 := hBv.cell (k := 3) (v := .int .u32 (v.d.toNat : Int)) rfl
          have c4 := hBv.cell (k := 4) (v := .int .u32 (v.e.toNat : Int)) rfl
          have c5 := hBv.cell (k := 5) (v := .int .u32 (v.f.toNat : Int)) rfl
          have c6 := hBv.cell (k := 6) (v := .int .u32 (v.g.toNat : Int)) rfl
          have c7 := hBv.cell (k := 7) (v := .int .u32 (v.h.toNat : Int)) rfl
          have HCS := Lib.hid (And.intro c0 (And.intro c1 (And.intro c2 c3)))
          have HB := Lib.hid (And.intro hBv (And.intro hBw (And.intro hBs hK)))
          have HW := Lib.hid (And.intro hlt0 (And.intro hlt1 (And.intro hgsm (And.intro hwlt (And.intro hmlt (And.intro hvlt hgwB))))))
          clear hC c0 c1 c2 c3 hBv hBw hBs hK hlt0 hlt1 hgsm hwlt hmlt hvlt hgwB ha64 hap hlt hplb hmc hp0 ht
          go_wp2
          go_quiet ((go_at_call 80; exact Calls.quiet_of (rrotr_raw _ _ _ _ rfl rfl)))
          rw [S1_raw, ch_raw2, sum5b]
          obtain ⟨c0, c1, c2, c3⟩ := HCS.out
          obtain ⟨hBv, hBw, hBs, hK⟩ := HB.out
          have c0' := cell_drewN c0 nq
          have c1' := cell_drewN c1 nq
          have c2' := cell_drewN c2 nq
          have c3' := cell_drewN c3 nq
          have c4' := cell_drewN c4 nq
          have c5' := cell_drewN c5 nq
          have c6' := cell_drewN c6 nq
          have hBv' := hBv.drewN nq
          have hBw' := hBw.drewN nq
          have hBs' := hBs.drewN nq
          have hK' := hK.drewN nq
          clear c0 c1 c2 c3 c4 c5 c6 c7 hBv hBw hBs hK HCS HB hKc hwt
          generalize wr.drewN nq = wq at c0' c1' c2' c3' c4' c5' c6' hBv' hBw' hBs' hK' ⊢
          have HST2 : Unit → (SM.rounds ws s (t + 1)).list = [(v.h + SM.S1 v.e + SM.ch v.e v.f v.g + kk + ww) + SM.ty v, v.a, v.b, v.c, v.d + (v.h + SM.S1 v.e + SM.ch v.e v.f v.g + kk + ww), v.e, v.f, v.g] := fun _ => by rw [HST ()]; rfl
          generalize v.h + SM.S1 v.e + SM.ch v.e v.f v.g + kk + ww = X at HST2 ⊢
          have HB := Lib.hid (And.intro hBv' (And.intro hBw' (And.intro hBs' hK')))
          have HCS := Lib.hid (And.intro c3' (And.intro c4' (And.intro c5' c6')))
          clear hBv' hBw' hBs' hK' c3' c4' c5' c6' HST
          go_wp2
          go_quiet ((go_at_call 80; exact Calls.quiet_of (rrotr_raw _ _ _ _ rfl rfl)))
          rw [S0_raw, maj_raw, sum2]
          obtain ⟨c3, c4, c5, c6⟩ := HCS.out
          obtain ⟨hBv, hBw, hBs, hK⟩ := HB.out
          have d0 := cell_drewN c0' nq
          have d1 := cell_drewN c1' nq
          have d2 := cell_drewN c2' nq
          have d3 := cell_drewN c3 nq
          have d4 := cell_drewN c4 nq
          have d5 := cell_drewN c5 nq
          have d6 := cell_drewN c6 nq
          have hBv' := hBv.drewN nq
          have hBw' := hBw.drewN nq
          have hBs' := hBs.drewN nq
          have hK' := hK.drewN nq
          clear c0' c1' c2' c3 c4 c5 c6 hBv hBw hBs hK HCS HB
          generalize wq.drewN nq = wz at d0 d1 d2 d3 d4 d5 d6 hBv' hBw' hBs' hK' ⊢
          have HST : Unit → (SM.rounds ws s (t + 1)).list = [X + (SM.S0 v.a + SM.maj v.a v.b v.c), v.a, v.b, v.c, v.d + X, v.e, v.f, v.g] := fun _ => HST2 ()
          clear HST2
          generalize SM.S0 v.a + SM.maj v.a v.b v.c = Y at HST ⊢
          go_wp2_with (with_reducible refine wpList_put (o := ⟨none, .store 86 (.tmp 7) (.tmp 117), _, _, _, _⟩) ?g11 86 (.tmp 7) (.tmp 117) ?o11 gv 0 ?x11 (aggW [X + Y, v.a, v.b, v.c, v.d + X, v.e, v.f, v.g]) ?y11 hBv' ([X + Y, v.a, v.b, v.c, v.d + X, v.e, v.f, v.g].map W32) ?v11 ?i11 ?l11 ?q11 ?_)
          try (case y11 => (show Value.agg #[Value.int .u32 (((X.toNat : Int) + (Y.toNat : Int)) % 4294967296), Value.int .u32 (v.a.toNat : Int), Value.int .u32 (v.b.toNat : Int), Value.int .u32 (v.c.toNat : Int), Value.int .u32 (((v.d.toNat : Int) + (X.toNat : Int)) % 4294967296), Value.int .u32 (v.e.toNat : Int), Value.int .u32 (v.f.toNat : Int), Value.int .u32 (v.g.toNat : Int)] = _; rw [sum2, sum2]; rfl))
          try (case x11 => rfl)
          try (case g11 => rfl)
          try (case o11 => rfl)
          try (case v11 => rfl)
          try (case i11 => exact Tryd.size30)
          try (case l11 => exact Nat.le_refl _)
          try (case q11 => exact W32_one _)
          intro w10 hu10 hB10
          have hB10' : Blk w10 gv 86 ((SM.rounds ws s (t + 1)).list.map W32) := by rw [HST ()]; exact hB10.eq (splice_all (v.list.map W32) _ (by rfl))
          obtain ⟨hlt0, hlt1, hgsm, hwlt, hmlt, hvlt, hgwB⟩ := HW.out
          have hBw10 := hBw'.upd hu10 (by omega)
          have hBs10 := hBs'.upd hu10 (by omega)
          have hK10 := hK'.upd hu10 (by omega) (by omega) (by omega)
          have HR : Hid (RoRel p s ws w.heap.size gs go gm gw gv w (.int .i64 ((t : Int) + 1)) w10) := ⟨t + 1, by omega, by go_num, hB10', hBw10, hBs10, hK10⟩
          clear d0 d1 d2 d3 d4 d5 d6 hBv' hBw' hBs' hK' hu10 hB10 hB10' hBw10 hBs10 hK10 hlt0 hlt1 hgsm hwlt hmlt hvlt hgwB HST
          go_wp2
          go_roundw
          case rel => exact HR.out
          case measure => simp [intOf]; omega
        · have hcomp : Unit → SM.compress s blk = SM.addV s (SM.rounds ws s t) := fun _ => by
            rw [show t = 64 by omega, ← hws ()]; rfl
          generalize SM.rounds ws s t = v at hBv hcomp
          go_wp2
          clear hBw
          go_loopw [11] (RaRel p s v w.heap.size gs go gm gv w) (fun i _ => 8 - (intOf i).toNat)
          case atStart => exact ⟨0, by omega, rfl, hBs, hBv, hK⟩
          case round =>
            clear hBs hBv hK
            obtain ⟨k, hk, rfl, hBs, hBv, hK⟩ := hrel
            by_cases hk8 : k < 8
            · have h1 := hBs.cell (k := k) (mix_at s v k hk8)
              have h2 := hBv.cell (k := k) (list_at v k hk8)
              have hm := Lib.hid (mix_snoc s v k hk8)
              unfold W32 at h1 h2
              generalize s.list.getD k 0 = x at h1 hm
              generalize v.list.getD k 0 = y at h2 hm
              go_upto_region 17 with fail
              go_still_tail 9, (by kernel_rfl)
              have hBs' : Blk { wr with drawn := wr.drawn + 1 } gs 86 ((mix s v k).map W32) := hBs
              have hBv' : Blk { wr with drawn := wr.drawn + 1 } gv 86 (v.list.map W32) := hBv
              have hK' : RsKeep p w.heap.size gs go gm w { wr with drawn := wr.drawn + 1 } := hK.drewN 1
              clear h1 h2 hBs hBv hK
              go_wp2_with (with_reducible refine wpList_put (o := ⟨none, .store 85 (.tmp 130) (.tmp 129), _, _, _, _⟩) ?g12 85 (.tmp 130) (.tmp 129) ?o12 gs k ?x12 (W32 (x + y)) ?y12 hBs' [W32 (x + y)] ?v12 ?i12 ?l12 ?q12 ?_)
              try (case y12 => exact (add1 x y))
              try (case x12 => rfl)
              try (case g12 => rfl)
              try (case o12 => rfl)
              try (case v12 => rfl)
              try (case i12 => exact Tryd.size29)
              try (case l12 => (rw [mix_length]; simp; omega))
              try (case q12 => exact one_cell1 rfl)
              intro w11 hu11 hB11
              rw [hm.out] at hB11
              have hBv11 := hBv'.upd hu11 (by omega)
              have hK11 := hK'.upd hu11 (by omega) (by omega) (by omega)
              clear hBs' hBv' hK' hu11 hm
              go_wp2
              go_roundw
              case rel => exact ⟨k + 1, by omega, by go_num, hB11, hBv11, hK11⟩
              case measure => simp [intOf]; omega
            · obtain rfl : k = 8 := by omega
              rw [mix_all, ← hcomp (), ← hsn ()] at hBs
              clear hBv
              go_wp2
              go_roundw
              case rel => exact ⟨n + 1, a + 64, (by have := ha.out; omega : a + 64 = 64 * (n + 1)), ha64, by go_num, hBs, hK⟩
              case measure => simp [intOf]; omega
    · have hae : n = p.length / 64 := by have := ha.out; have := HPM.out; omega
      have hS2 : Unit → S = SM.out (SM.blocks n SM.start p) := fun _ => by rw [hae]; exact hsum ()
      generalize SM.blocks n SM.start p = s at hBs hS2
      clear hae
      have hO := hK.o
      have hbel := hK.bel
      clear hK
      go_wp2_with (with_reducible refine wpList_alloc (o := ⟨some 12, .alloc 76, _, _, _, _⟩) ?g13 76 ?o13 (aggB (SM.zeros 32)) zero32 ?z13 ?c13 ?_)
      try (case g13 => rfl)
      try (case o13 => rfl)
      try (case z13 => exact Tryd.zero24)
      try (case c13 => rfl)
      intro gb w12 hgb hs12 hb12 hB12
      have hO12 := hO.next hb12 (by have := hO.lt; have := hgb.out; omega)
      have hBs12 := hBs.next hb12 (by have := hBs.lt; have := hgb.out; omega)
      have hbel12 : Below w.heap.size w w12 := hbel.trans (hb12.mono (by have := hbel.size; have := hgb.out; omega))
      have hgbs : gs < gb := by have := hBs.lt; have := hgb.out; omega
      have hSl : S.length = 32 := by rw [hS2 ()]; rfl
      have hB12' : Blk w12 gb 76 (obRow S 0) := by unfold obRow; rw [hSl]; exact hB12
      clear hO hBs hbel hb12 hgb hs12 hB12
      go_wp2
      go_loopw [13] (RbRel S s w.heap.size gs go gb w) (fun i _ => 32 - (intOf i).toNat)
      case atStart => exact ⟨0, by omega, rfl, hB12', hBs12, hO12, hbel12⟩
      case round =>
        clear hB12' hBs12 hO12 hbel12
        obtain ⟨k, hk, rfl, hB, hBs, hO, hbel⟩ := hrel
        by_cases hk32 : k < 32
        · have hob : Unit → B8 (S.getD k 0) = .int .u8 (((s.list.getD (k / 4) 0).toNat : Int) / 2 ^ (24 - 8 * (k % 4)) % 256) := fun _ => by rw [hS2 ()]; exact out_at s k hk32
          have h1 := hBs.cell (k := k / 4) (list_at s (k / 4) (by omega))
          have hsc := obRow_snoc S k (by omega)
          generalize S.getD k 0 = bb at hob hsc
          have HSC := Lib.hid hsc
          clear hsc
          unfold W32 at h1
          generalize s.list.getD (k / 4) 0 = x at h1 hob
          go_wp2_with (with_reducible refine wpList_put (o := ⟨none, .store 5 (.tmp 146) (.tmp 145), _, _, _, _⟩) ?g14 5 (.tmp 146) (.tmp 145) ?o14 gb k ?x14 (B8 bb) ?y14 hB [B8 bb] ?v14 ?i14 ?l14 ?q14 ?_)
          try (case y14 => exact (hob ()).symm)
          try (case x14 => rfl)
          try (case g14 => rfl)
          try (case o14 => rfl)
          try (case v14 => rfl)
          try (case i14 => exact Tryd.size5)
          try (case l14 => (rw [obRow_length S k (by omega)]; simp; omega))
          try (case q14 => exact one_cell1 rfl)
          intro w14 hu14 hB14
          have hB14' : Blk w14 gb 76 (obRow S (k + 1)) := by rw [← HSC.out]; exact hB14
          have hBs14 := hBs.upd hu14 (by omega)
          have hO14 := hO.upd hu14 (by omega)
          have hbel14 := hbel.trans (hu14.below (B := w.heap.size) (by omega))
          clear hB hBs hO hbel hu14 hB14 h1 hob HSC
          go_wp2
          go_roundw
          case rel => exact ⟨k + 1, by omega, by go_num, hB14', hBs14, hO14, hbel14⟩
          case measure => simp [intOf]; omega
        · obtain rfl : k = 32 := by omega
          have hob : Unit → obRow S 32 = S.map B8 := fun _ => by have := obRow_all S; rw [hSl] at this; exact this
          rw [hob ()] at hB
          have hSc : (S.map B8).length = 32 := by rw [List.length_map]; exact hSl
          clear hob
          go_wp2_with (first | (with_reducible refine wpList_get (o := ⟨some 147, .load 76 (.tmp 12), _, _, _, _⟩) ?g15 76 (.tmp 12) ?o15 gb 0 ?x15 hB (S.map B8) ?c15 (.array 32 5) ?u15 ?d15 ?i15 ?_) | (with_reducible refine wpList_put (o := ⟨none, .store 76 (.tmp 2) (.tmp 147), _, _, _, _⟩) ?g16 76 (.tmp 2) (.tmp 147) ?o16 go 0 ?x16 (.agg (S.map B8).toArray) ?y16 hO (S.map B8) ?v16 ?i16 ?l16 ?q16 ?_))
          try (case x15 => rfl)
          try (case g15 => rfl)
          try (case o15 => rfl)
          try (case c15 => (exact cs_all _))
          try (case u15 => exact Tryd.underlying76)
          try (case d15 => first | rfl | assumption)
          try (case i15 => (rw [hSc]; exact Tryd.size24))
          try (case y16 => rfl)
          try (case x16 => rfl)
          try (case g16 => rfl)
          try (case o16 => rfl)
          try (case v16 => rfl)
          try (case i16 => exact (by rw [hSc]; exact Tryd.size24))
          try (case l16 => (rw [hSc]; exact Nat.le_refl _))
          try (case q16 => exact B8_one _)
          intro w13 hu13 hB13
          rw [splice_all _ _ (by rw [hSc]; rfl)] at hB13
          go_wp2
          refine bodyPost_ret (results_cell_row rfl _ _ go _ _ _ _ rfl hB13 Tryd.underlying76 rfl (by rw [List.size_toArray, hSc]; exact Tryd.size24)) rfl ⟨rfl, hbel.trans (hu13.below (by omega))⟩
end Go.Proofs.YtkakiepaffhhjaaDoor

/-
  Contracts of the walks over the reference's Few and Input. Conditions: what comes in is at most 2^47 bytes.
-/
namespace Go.Proofs.YtkakiepaffhhjaaDoor
open Go.RowKit

def fewB (xs : List ByteArray) : Bool := decide (xs.length ≤ 12) && xs.all fun s => decide (s.size ≤ 400)
def FewRel (xs : List ByteArray) (w : World) (i : Value) (wr : World) : Prop :=
  ∃ k : Nat, k ≤ xs.length ∧ i = .int .i64 k ∧ Hid ((xs.take k).all (fun s => decide (s.size ≤ 400)) = true) ∧ Below w.heap.size w wr
theorem few_step (xs : List ByteArray) (k : Nat) (h : k < xs.length) (ha : (xs.take k).all (fun s => decide (s.size ≤ 400)) = true) (hs : xs[k].size ≤ 400) : (xs.take (k + 1)).all (fun s => decide (s.size ≤ 400)) = true := by
  rw [List.take_succ_eq_append_getElem h, List.all_append, ha]
  simp [hs]
theorem few_no (xs : List ByteArray) (k : Nat) (h : k < xs.length) (hs : ¬ xs[k].size ≤ 400) : fewB xs = false := by
  unfold fewB
  rw [Bool.and_eq_false_iff]
  right
  rw [List.all_eq_false]
  exact ⟨xs[k], List.getElem_mem h, by simpa using hs⟩

















































def InRel (t : Int) (xs : List ByteArray) (w : World) (v i : Value) (wr : World) : Prop :=
  ∃ k : Nat, k ≤ xs.length ∧ i = .int .i64 k ∧ wr.ownsRow w.heap.size 5 1 v (ofTo t xs k).length ((ofTo t xs k).map B8) ∧ Below w.heap.size w wr
set_option maxRecDepth 100000 in
set_option maxHeartbeats 1600000 in
theorem input_any (A : Option Addr) (cap n : Nat) (t : Int) (xs : List ByteArray) (w : World) (hn : n = xs.length) (hn1 : n ≤ 1000000) (hl : (ofIn t xs).length ≤ 1000000000) (hh : Holds w A (xs.map Value.string)) :
    Calls Tryd.prog 58 #[.int .i64 t, .slice A n cap] w (PutPost (ofIn t xs) w) := by
  obtain ⟨i0, hi, hz0, hz1, hz2⟩ := info_parts Tryd.info8
  have HN := Lib.hid hn
  clear hn
  have htb := Lib.hid (tagB_eq t)
  go_enter Tryd.func58, Tryd.ntmps58
  go_wp2
  go_loopw [5, 6] (InRel t xs w) (fun _ i _ => xs.length - (intOf i).toNat)
  case atStart =>
    refine ⟨0, Nat.zero_le _, rfl, ?_, below_new w _⟩
    have := World.ownsRow_lit (base := w.heap.size) (e := 5) (size := 1) w #[Value.int .u8 (t % 256)] 1 (Nat.le_refl _) (by decide) rfl
    rw [← htb.out] at this ⊢
    exact this
  case round =>
    obtain ⟨k, hk, rfl, hown, hbel⟩ := hrel
    have hN1 : n ≤ xs.length := Nat.le_of_eq HN.out
    have hN2 : xs.length ≤ n := Nat.le_of_eq HN.out.symm
    by_cases hlt : k < xs.length
    · obtain ⟨ad, rfl, hcell⟩ := str_at (hh.next hbel) hlt
      have hbig := encB_big xs[k] t xs k hlt rfl
      have hsz := encB_size xs[k]
      have hps := encB_pos xs[k].data.toList
      have hsn := Lib.hid (ofTo_succ t xs k hlt)
      generalize xs[k] = sk at hcell hbig hsz hps hsn
      have hb2 := hbel.size
      go_wp2_with fail
      (with_reducible refine (refBytes_any sk _ (by omega)).mono ?_)
      rintro e w2 ⟨v2, rfl, hown2, hbw⟩
      obtain ⟨g2, c2, rfl, hcs2⟩ := own_some hown2 hps
      have hown' := own_next hown hbw
      have hbel2 := hbel.trans (hbw.mono hb2)
      have hb3 := hbw.size
      have hlt2 := hown'.lt
      clear hown hbel hbw hown2
      go_wp2_with (at_builtin; refine wpList_append_own _ rfl _ _ 43 rfl w.heap.size 5 i0 (.int .u8 0) 1 1 Tryd.underlying43 hi hz0 hz1 hz2 rfl (by decide) _ _ _ rfl hown' ⟨g2, 0, none⟩ (WM.encB sk.data.toList).length c2 ((WM.encB sk.data.toList).map B8) rfl ?c1 ?c2 ?c3 ?c4 ?c5 ?c6 ?_)
      case c1 => rw [List.length_map, Nat.mul_one]
      case c2 => exact hcs2
      case c3 => exact B8_one _
      case c4 => unfold maxLen; omega
      case c5 => omega
      case c6 => omega
      intro v3 w3 hown3 hgrow _
      have hbel3 := hbel2.grown hgrow (by omega) (fun j hj => (hlt2 j hj).1)
      rw [← List.map_append, ← List.length_append, ← hsn.out] at hown3
      clear hown' hlt2 hcs2 hgrow hbel2
      go_wp2
      go_roundw
      case rel => exact ⟨k + 1, by omega, by go_num, hown3, hbel3⟩
      case measure => simp [intOf]; omega
    · have hke : k = xs.length := by omega
      rw [hke, ofTo_all] at hown
      clear hke
      go_wp2
      go_ret
      exact ⟨_, rfl, hown, hbel⟩
end Go.Proofs.YtkakiepaffhhjaaDoor

/-
  A string turned into a slice of bytes. Conditions: none.
-/
namespace Go.Proofs.YtkakiepaffhhjaaDoor
open Go.RowKit

theorem below_bytesWorld (w : World) (e : TypeId) (s : ByteArray) : Below w.heap.size w (Lib.bytesWorld w e s) :=
  ⟨rfl, rfl, rfl, by rw [Lib.bytesWorld_size]; omega, fun k hk => Lib.bytesWorld_at_old w e s k hk⟩
theorem holds_bytesWorld (w : World) (e : TypeId) (s : ByteArray) : Holds (Lib.bytesWorld w e s) (some ⟨w.heap.size, 0, none⟩) (s.data.toList.map B8) := fun j u hu => by
  refine ⟨_, rfl, ?_⟩
  have hj : j < s.size := by
    have := (List.getElem?_eq_some_iff.1 hu).1
    rw [List.length_map, Array.length_toList] at this
    exact this
  rw [Addr.add_mid, Nat.zero_add, Lib.bytesWorld_cell w e s j hj, ← hu, List.getElem?_map, List.getD_eq_getElem?_getD, List.getElem?_eq_getElem (by rw [Array.length_toList]; exact hj)]
  rfl
theorem wpList_bytesOf {ops : Array Oper} {rest : List Oper} {o : Oper} {a : Act} {w : World} {Q : Exit → Act → World → Prop} (hgd : o.guard = none) (x : Operand) (ho : o.op = .convert 9 43 x) (s : ByteArray) (hx : a.eval x = .string s)
    (h : ∀ A cap w', Below w.heap.size w w' → Holds w' A (s.data.toList.map B8) → wpList Tryd.prog ops Q rest (a.put o.dst (.slice A s.size cap)) w') : wpList Tryd.prog ops Q (o :: rest) a w := by
  refine wpList_plain hgd fun K hK => ?_
  have hrun := Lib.run_convert_string_bytes (P := Tryd.prog) w 9 43 5 s Tryd.underlying9 Tryd.underlying43 Tryd.underlying5
  unfold Oper.wp execOp
  simp [ho, hx, hrun]
  exact hK _ _ (h _ _ _ (below_bytesWorld w _ s) (holds_bytesWorld w _ s))
end Go.Proofs.YtkakiepaffhhjaaDoor

/-
  The walk over the statement on Sum. Conditions: the tables read as the document has them.
-/
namespace Go.Proofs.YtkakiepaffhhjaaDoor
open Go.RowKit

theorem eqIn_arr (l : List UInt8) (hl : l.length = 32) : ∀ w : World, (Op.equalIn 10000 76 (.agg (l.map B8).toArray) (.agg (l.map B8).toArray)).run Tryd.prog w = .ok true w := fun w => by
  obtain ⟨i0, hi, _, _, _⟩ := info_parts Tryd.info8
  rw [run_equalIn_array (P := Tryd.prog) (w := w) 9999 _ _ Tryd.underlying76 hi, Tryd.cells5, eqItems_dec w l l rfl _ (fun i h => by have := List.mem_range.1 h; omega), ← hl, all_range_eq l l rfl]
  simp
theorem sum_toS (A : Option Addr) (cap n : Nat) (l S : List UInt8) (w : World) (hS : Unit → SM.sum l = S) (hn : n = l.length) (hl : l.length ≤ 1000000000) (HY : Lay w) (hh : Holds w A (l.map B8)) :
    Calls Tryd.prog 56 #[.slice A n cap] w fun e w' => e = .returned (.agg (S.map B8).toArray) ∧ Below w.heap.size w w' := by
  rw [← hS ()]; exact sum_any A cap n l w hn hl HY hh
theorem rsum_toS (w1 : World) (e : TypeId) (b n : Nat) (l S : List UInt8) (cap : Nat) (hS : Unit → SM.sum l = S) (hb : b = w1.heap.size) (hn : n = l.length) (hl : l.length ≤ 100000000) (HC : LayC w1) :
    Calls Tryd.prog 70 #[.slice (some ⟨b, 0, none⟩) n cap] (Lib.bytesWorld w1 e ⟨l.toArray⟩) fun e w' => e = .returned (.agg (S.map B8).toArray) ∧ Below w1.heap.size w1 w' := by
  subst hb
  rw [← hS ()]
  have hb := below_bytesWorld w1 e ⟨l.toArray⟩
  have hh := holds_bytesWorld w1 e ⟨l.toArray⟩
  rw [str_toList] at hh
  refine (rsum_any _ cap _ l _ hn hl hh (HC.next hb)).mono ?_
  rintro e w' ⟨rfl, hb'⟩
  exact ⟨rfl, hb.trans (hb'.mono hb.size)⟩





































































end Go.Proofs.YtkakiepaffhhjaaDoor

/-
  Contracts of the walks over the reference's Short and Of. Conditions: at most 10^8 bytes; its table reads as the document has it.
-/
namespace Go.Proofs.YtkakiepaffhhjaaDoor
open Go.RowKit

theorem Tryd.build44 (w : World) : (Instr.build 23 #[]).run Tryd.prog w = .ok (.agg ((SM.zeros 16).map B8).toArray) w := by kernel_rfl
theorem take_getD (S D : List UInt8) (k : Nat) (hD : D = S.take 16) (h : k < 16) : D.getD k 0 = S.getD k 0 := by
  rw [hD, List.getD_eq_getElem?_getD, List.getD_eq_getElem?_getD, List.getElem?_take, if_pos h]
def ShRel (D S : List UInt8) (gr gs go : Nat) (w : World) (i : Value) (wr : World) : Prop :=
  ∃ k : Nat, k ≤ 16 ∧ i = .int .i64 k ∧ Blk wr go 23 (obRow D k) ∧ Blk wr gs 76 (S.map B8) ∧ Blk wr gr 23 zero16 ∧ Below w.heap.size w wr
theorem rsum_at (ad : Addr) (cap n : Nat) (l S : List UInt8) (w : World) (hS : Unit → SM.sum l = S) (hn : n = l.length) (hl : l.length ≤ 100000000) (hh : Holds w (some ad) (l.map B8)) (HC : LayC w) :
    Calls Tryd.prog 70 #[.slice (some ad) n cap] w fun e w' => e = .returned (.agg (S.map B8).toArray) ∧ Below w.heap.size w w' := by
  rw [← hS ()]; exact rsum_any ad cap n l w hn hl hh HC

set_option maxRecDepth 100000 in
set_option maxHeartbeats 800000 in
theorem short_any (ad : Addr) (cap n : Nat) (l D : List UInt8) (w : World) (hD : Unit → (SM.sum l).take 16 = D) (hn : n = l.length) (hl : l.length ≤ 100000000) (hh : Holds w (some ad) (l.map B8)) (HC : LayC w) :
    Calls Tryd.prog 57 #[.slice (some ad) n cap] w fun e w' => e = .returned (.agg (D.map B8).toArray) ∧ Below w.heap.size w w' := by
  obtain ⟨S, hS⟩ : ∃ S, (Unit → SM.sum l = S) := ⟨_, fun _ => rfl⟩
  have hSl : Hid (S.length = 32) := by rw [← hS ()]; exact SM.sum_length _
  have hDS : Unit → D = S.take 16 := fun _ => by rw [← hD (), hS ()]
  have hDl : Hid (D.length = 16) := by
    have : D.length = 16 := by rw [hDS (), List.length_take, hSl.out]; rfl
    exact this
  have HN := Lib.hid hn
  clear hD hn
  go_enter Tryd.func57, Tryd.ntmps57
  go_wp2_with (with_reducible refine wpList_alloc (o := ⟨some 2, .alloc 23, _, _, _, _⟩) ?g1 23 ?o1 (aggB (SM.zeros 16)) zero16 ?z1 ?c1 ?_)
  try (case g1 => rfl)
  try (case o1 => rfl)
  try (case z1 => exact Tryd.zero44)
  try (case c1 => rfl)
  intro gr w1 hgr hs1 hb1 hB1
  have hlt0 : w.heap.size ≤ gr := Nat.le_of_eq hgr.out.symm
  have hbel1 : Below w.heap.size w w1 := hb1.mono hlt0
  have hh1 := hh.next hbel1
  have HC1 := HC.next hbel1
  clear hgr hs1 hb1 hh HC
  go_wp2_with fail
  (with_reducible refine (rsum_at ad cap n l S _ hS HN.out hl hh1 HC1).mono ?_)
  rintro e w2 ⟨rfl, hb2⟩
  have hB2 := hB1.next hb2 hB1.lt
  have hbel2 := below_join hbel1 hb2
  clear hB1 hb2 hbel1 hh1 HC1
  go_wp2_with (with_reducible refine wpList_alloc (o := ⟨some 3, .alloc 76, _, _, _, _⟩) ?g2 76 ?o2 (aggB (SM.zeros 32)) zero32 ?z2 ?c2 ?_)
  try (case g2 => rfl)
  try (case o2 => rfl)
  try (case z2 => exact Tryd.zero24)
  try (case c2 => rfl)
  intro gs w3 hgs hs3 hb3 hB3
  have hlt1 : gr < gs := by have := hB2.lt; have := hgs.out; omega
  have hBr3 := hB2.next hb3 hlt1
  have hbel3 := hbel2.trans (hb3.mono (by have := hbel2.size; have := hgs.out; omega))
  clear hB2 hbel2 hb3 hgs hs3
  go_wp2_with (with_reducible refine wpList_put (o := ⟨none, .store 76 (.tmp 3) (.tmp 7), _, _, _, _⟩) ?g3 76 (.tmp 3) (.tmp 7) ?o3 gs 0 ?x3 (.agg (S.map B8).toArray) ?y3 hB3 (S.map B8) ?v3 ?i3 ?l3 ?q3 ?_)
  try (case y3 => rfl)
  try (case x3 => rfl)
  try (case g3 => rfl)
  try (case o3 => rfl)
  try (case v3 => rfl)
  try (case i3 => exact (by rw [List.length_map, hSl.out]; exact Tryd.size24))
  try (case l3 => (rw [List.length_map, hSl.out]; exact Nat.le_refl _))
  try (case q3 => exact B8_one _)
  intro w4 hu4 hB4
  rw [splice_all _ _ (by rw [List.length_map, hSl.out]; rfl)] at hB4
  have hBr4 := hBr3.upd hu4 (by omega)
  have hbel4 := hbel3.trans (hu4.below (B := w.heap.size) (by omega))
  clear hBr3 hbel3 hB3 hu4
  go_wp2_with (first | (with_reducible refine wpList_build (o := ⟨some 8, .build 23 #[], _, _, _, _⟩) ?g4 23 #[] ?o4 #[] ?x4 (.agg ((SM.zeros 16).map B8).toArray) ?r4 ?_) | (with_reducible refine wpList_alloc (o := ⟨some 4, .alloc 23, _, _, _, _⟩) ?g5 23 ?o5 (aggB (SM.zeros 16)) zero16 ?z5 ?c5 ?_))
  try (case x4 => first | rfl | simp)
  try (case g4 => rfl)
  try (case o4 => rfl)
  try (case r4 => exact Tryd.build44)
  try (case g5 => rfl)
  try (case o5 => rfl)
  try (case z5 => exact Tryd.zero44)
  try (case c5 => rfl)
  intro go w5 hgo hs5 hb5 hB5
  have hlt2 : gs < go := by have := hB4.lt; have := hgo.out; omega
  have hBr5 := hBr4.next hb5 (by omega)
  have hBs5 := hB4.next hb5 hlt2
  have hbel5 := hbel4.trans (hb5.mono (by have := hbel4.size; have := hgo.out; omega))
  clear hBr4 hB4 hbel4 hb5 hgo hs5
  go_wp2_with (with_reducible refine wpList_put (o := ⟨none, .store 23 (.tmp 4) (.tmp 8), _, _, _, _⟩) ?g6 23 (.tmp 4) (.tmp 8) ?o6 go 0 ?x6 (.agg ((SM.zeros 16).map B8).toArray) ?y6 hB5 ((SM.zeros 16).map B8) ?v6 ?i6 ?l6 ?q6 ?_)
  try (case y6 => rfl)
  try (case x6 => rfl)
  try (case g6 => rfl)
  try (case o6 => rfl)
  try (case v6 => rfl)
  try (case i6 => exact Tryd.size44)
  try (case l6 => exact Nat.le_refl _)
  try (case q6 => exact B8_one _)
  intro w6 hu6 hB6
  rw [splice_all _ _ (by rfl)] at hB6
  have hBr6 := hBr5.upd hu6 (by omega)
  have hBs6 := hBs5.upd hu6 (by omega)
  have hbel6 := hbel5.trans (hu6.below (B := w.heap.size) (by omega))
  have hB6' : Blk w6 go 23 (obRow D 0) := by unfold obRow; rw [hDl.out]; exact hB6
  clear hBr5 hBs5 hbel5 hB5 hu6 hB6
  go_wp2
  go_loopw [5] (ShRel D S gr gs go w) (fun i _ => 16 - (intOf i).toNat)
  case atStart => exact ⟨0, by omega, rfl, hB6', hBs6, hBr6, hbel6⟩
  case round =>
    clear hB6' hBs6 hBr6 hbel6
    obtain ⟨k, hk, rfl, hB, hBs, hBr, hbel⟩ := hrel
    by_cases hk16 : k < 16
    · have hsc := Lib.hid (obRow_snoc D k (by rw [hDl.out]; exact hk16))
      have hc := hBs.cell (k := k) (v := B8 (S.getD k 0)) (by rw [List.getElem?_map, List.getD_eq_getElem?_getD, List.getElem?_eq_getElem (by rw [hSl.out]; omega)]; rfl)
      have hgd : Unit → D.getD k 0 = S.getD k 0 := fun _ => take_getD S D k (hDS ()) hk16
      rw [hgd ()] at hsc
      clear hgd
      generalize S.getD k 0 = c at hc hsc
      unfold B8 at hc
      go_wp2_with (with_reducible refine wpList_put (o := ⟨none, .store 5 (.tmp 17) (.tmp 16), _, _, _, _⟩) ?g7 5 (.tmp 17) (.tmp 16) ?o7 go k ?x7 (B8 c) ?y7 hB [B8 c] ?v7 ?i7 ?l7 ?q7 ?_)
      try (case y7 => rfl)
      try (case x7 => rfl)
      try (case g7 => rfl)
      try (case o7 => rfl)
      try (case v7 => rfl)
      try (case i7 => exact Tryd.size5)
      try (case l7 => (rw [obRow_length D k (by rw [hDl.out]; omega), hDl.out]; simp; omega))
      try (case q7 => exact one_cell1 rfl)
      intro w7 hu7 hB7
      have hB7' : Blk w7 go 23 (obRow D (k + 1)) := by rw [← hsc.out]; exact hB7
      have hBs7 := hBs.upd hu7 (by omega)
      have hBr7 := hBr.upd hu7 (by omega)
      have hbel7 := hbel.trans (hu7.below (B := w.heap.size) (by omega))
      clear hB hBs hBr hbel hu7 hB7 hc hsc
      go_wp2
      go_roundw
      case rel => exact ⟨k + 1, by omega, by go_num, hB7', hBs7, hBr7, hbel7⟩
      case measure => simp [intOf]; omega
    · obtain rfl : k = 16 := by omega
      have hob : Unit → obRow D 16 = D.map B8 := fun _ => by have := obRow_all D; rw [hDl.out] at this; exact this
      rw [hob ()] at hB
      have hDc : (D.map B8).length = 16 := by rw [List.length_map]; exact hDl.out
      clear hob
      go_wp2_with (first | (with_reducible refine wpList_get (o := ⟨some 18, .load 23 (.tmp 4), _, _, _, _⟩) ?g8 23 (.tmp 4) ?o8 go 0 ?x8 hB (D.map B8) ?c8 (.array 16 5) ?u8 ?d8 ?i8 ?_) | (with_reducible refine wpList_put (o := ⟨none, .store 23 (.tmp 2) (.tmp 18), _, _, _, _⟩) ?g9 23 (.tmp 2) (.tmp 18) ?o9 gr 0 ?x9 (.agg (D.map B8).toArray) ?y9 hBr (D.map B8) ?v9 ?i9 ?l9 ?q9 ?_))
      try (case x8 => rfl)
      try (case g8 => rfl)
      try (case o8 => rfl)
      try (case c8 => (exact cs_all _))
      try (case u8 => exact Tryd.underlying23)
      try (case d8 => first | rfl | assumption)
      try (case i8 => (rw [hDc]; exact Tryd.size44))
      try (case y9 => rfl)
      try (case x9 => rfl)
      try (case g9 => rfl)
      try (case o9 => rfl)
      try (case v9 => rfl)
      try (case i9 => exact (by rw [hDc]; exact Tryd.size44))
      try (case l9 => (rw [hDc]; exact Nat.le_refl _))
      try (case q9 => exact B8_one _)
      intro w9 hu9 hB9
      rw [splice_all _ _ (by rw [hDc]; rfl)] at hB9
      go_wp2
      refine bodyPost_ret (results_cell_row rfl _ _ gr _ _ _ _ rfl hB9 Tryd.underlying23 rfl (by rw [List.size_toArray, hDc]; exact Tryd.size44)) rfl ⟨rfl, hbel.trans (hu9.below (by omega))⟩

/-- The digest that Of returns. -/
def ofD (t : Int) (xs : List ByteArray) : List UInt8 := (SM.sum (ofIn t xs)).take 16
theorem ofD_length (t : Int) (xs : List ByteArray) : (ofD t xs).length = 16 := by unfold ofD; rw [List.length_take, SM.sum_length]; rfl
theorem short_own (w1 : World) (base : Nat) (v : Value) (n : Nat) (l D : List UInt8) (hD : Unit → (SM.sum l).take 16 = D) (hown : w1.ownsRow base 5 1 v n (l.map B8)) (hn : n = l.length) (hl : l.length ≤ 100000000) (h0 : 0 < l.length) (HC : LayC w1) :
    Calls Tryd.prog 57 #[v] w1 fun e w' => e = .returned (.agg (D.map B8).toArray) ∧ Below w1.heap.size w1 w' := by
  obtain ⟨g2, c2, rfl, hcs2⟩ := own_some hown (by omega)
  exact short_any _ c2 n l D w1 hD hn hl (fun j u hu => ⟨_, rfl, hcs2 j u hu⟩) HC

set_option maxRecDepth 100000 in
set_option maxHeartbeats 800000 in
theorem rof_any (A : Option Addr) (cap n : Nat) (t : Int) (xs : List ByteArray) (D : List UInt8) (w : World) (hD : Unit → ofD t xs = D) (hn : n = xs.length) (hn1 : n ≤ 1000000) (hl : (ofIn t xs).length ≤ 100000000) (HC : LayC w) (hh : Holds w A (xs.map Value.string)) :
    Calls Tryd.prog 39 #[.int .i64 t, .slice A n cap] w fun e w' => e = .returned (.agg (D.map B8).toArray) ∧ Below w.heap.size w w' := by
  have hDl : (D.map B8).length = 16 := by rw [List.length_map, ← hD (), ofD_length]
  have h0 : 0 < (ofIn t xs).length := by unfold ofIn; simp
  obtain ⟨L, hL⟩ : ∃ L, Hid (ofIn t xs = L) := ⟨_, rfl⟩
  have hDL : Unit → (SM.sum L).take 16 = D := fun _ => by rw [← hD (), ← hL.out]; rfl
  have hin := fun w1 (h1 : Holds w1 A (xs.map Value.string)) => input_any A cap n t xs w1 hn hn1 (by omega) h1
  rw [hL.out] at hl h0 hin
  clear hD hn
  go_enter Tryd.func39, Tryd.ntmps39
  go_wp2_with (with_reducible refine wpList_alloc (o := ⟨some 4, .alloc 23, _, _, _, _⟩) ?g1 23 ?o1 (aggB (SM.zeros 16)) zero16 ?z1 ?c1 ?_)
  try (case g1 => rfl)
  try (case o1 => rfl)
  try (case z1 => exact Tryd.zero44)
  try (case c1 => rfl)
  intro gr w1 hgr hs1 hb1 hB1
  have hlt0 : w.heap.size ≤ gr := Nat.le_of_eq hgr.out.symm
  have hbel1 : Below w.heap.size w w1 := hb1.mono hlt0
  have hh1 := hh.next hbel1
  clear hgr hs1 hb1 hh
  go_wp2_with fail
  (with_reducible refine (hin _ hh1).mono ?_)
  rintro e w2 ⟨v2, rfl, hown2, hb2⟩
  have hB2 := hB1.next hb2 hB1.lt
  have hbel2 := below_join hbel1 hb2
  have HC2 := HC.next hbel2
  clear hB1 hb2 hbel1 hh1 hin HC
  go_wp2_with fail
  (with_reducible refine (short_own _ _ _ _ L D hDL hown2 rfl hl h0 HC2).mono ?_)
  rintro e w3 ⟨rfl, hb3⟩
  have hB3 := hB2.next hb3 hB2.lt
  have hbel3 := below_join hbel2 hb3
  clear hB2 hb3 hbel2 hown2 HC2
  go_wp2_with (with_reducible refine wpList_put (o := ⟨none, .store 23 (.tmp 4) (.tmp 8), _, _, _, _⟩) ?g2 23 (.tmp 4) (.tmp 8) ?o2 gr 0 ?x2 (.agg (D.map B8).toArray) ?y2 hB3 (D.map B8) ?v2 ?i2 ?l2 ?q2 ?_)
  try (case y2 => rfl)
  try (case x2 => rfl)
  try (case g2 => rfl)
  try (case o2 => rfl)
  try (case v2 => rfl)
  try (case i2 => exact (by rw [hDl]; exact Tryd.size44))
  try (case l2 => (rw [hDl]; exact Nat.le_refl _))
  try (case q2 => exact B8_one _)
  intro w4 hu4 hB4
  rw [splice_all _ _ (by rw [hDl]; rfl)] at hB4
  go_wp2
  refine bodyPost_ret (results_cell_row rfl _ _ gr _ _ _ _ rfl hB4 Tryd.underlying23 rfl (by rw [List.size_toArray, hDl]; exact Tryd.size44)) rfl ⟨rfl, hbel3.trans (hu4.below (by omega))⟩
end Go.Proofs.YtkakiepaffhhjaaDoor

/-
  The walk over the statement on Equal. Conditions: the tables read as the document has them.
-/
namespace Go.Proofs.YtkakiepaffhhjaaDoor
open Go.RowKit












theorem toList_inj {a b : ByteArray} (h : a.toList = b.toList) : a = b := by
  rw [ByteArray.toList_eq, ByteArray.toList_eq] at h
  exact ByteArray.ext (Array.toList_inj.1 h)
theorem cat_empty (a : ByteArray) : a ++ ({ data := #[] } : ByteArray) = a := by
  apply ByteArray.ext
  rw [ByteArray.data_append]
  simp




























end Go.Proofs.YtkakiepaffhhjaaDoor

/-
  The walk over the statement on the keys of Mac. Conditions: the tables read as the document has them.
-/
namespace Go.Proofs.YtkakiepaffhhjaaDoor
open Go.RowKit

theorem keyBlk_sum (key : List UInt8) (h : 64 < key.length) : keyBlk (SM.sum key) = keyBlk key := by
  unfold keyBlk
  rw [if_pos h, if_neg (by rw [SM.sum_length]; decide)]
  rfl
theorem keyBlk_zero (key : List UInt8) (h : key.length < 64) : keyBlk (key ++ [0]) = keyBlk key := by
  unfold keyBlk
  have h2 : (key ++ [0]).length = key.length + 1 := by simp
  rw [if_neg (by rw [h2]; omega), if_neg (by omega), List.append_assoc, h2]
  congr 1
  show 0 :: SM.zeros (64 - (key.length + 1)) = SM.zeros (64 - key.length)
  unfold SM.zeros
  rw [show 64 - key.length = (64 - (key.length + 1)) + 1 by omega, List.replicate_succ]
theorem mac_key {k1 k2 : List UInt8} (t : List UInt8) (h : keyBlk k1 = keyBlk k2) : mac k1 t = mac k2 t := by unfold mac; rw [h]
theorem mac_length (k t : List UInt8) : (mac k t).length = 32 := SM.sum_length _
theorem mac_to (key text : ByteArray) (M : List UInt8) (w : World) (hM : Hid (mac key.data.toList text.data.toList = M)) (hk : key.size ≤ 900000000) (ht : text.size ≤ 900000000) (HY : Lay w) :
    Calls Tryd.prog 52 #[.string key, .string text] w fun e w' => e = .returned (.string ⟨M.toArray⟩) ∧ Below w.heap.size w w' := by
  rw [← hM.out]; exact mac_any key text w hk ht HY
theorem sum_str (A : Option Addr) (cap : Nat) (s : ByteArray) (S : List UInt8) (w : World) (hS : Hid (SM.sum s.data.toList = S)) (hl : s.size ≤ 1000000000) (HY : Lay w) (hh : Holds w A (s.data.toList.map B8)) :
    Calls Tryd.prog 56 #[.slice A s.size cap] w fun e w' => e = .returned (.agg (S.map B8).toArray) ∧ Below w.heap.size w w' := by
  rw [← hS.out]; exact sum_any A cap s.size s.data.toList w (bytes_size s).symm (by rw [bytes_size]; exact hl) HY hh









































































































end Go.Proofs.YtkakiepaffhhjaaDoor
