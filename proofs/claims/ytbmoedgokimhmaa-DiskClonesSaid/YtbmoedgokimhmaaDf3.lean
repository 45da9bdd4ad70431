/-
  Contracts of the walks over disk.New and Write. Conditions: the record holds the disk.
-/
import Derived.Test.YtbmoedgokimhmaaDf2
import Derived.OwnWalk
namespace Go.Proofs.Ytbmoedgokimhmaa
open Go.RowKit

theorem made_rep (m n : Nat) (v : Value) (hm : 0 < m) : (madeCells (List.replicate m v).toArray n).toList = List.replicate n v := by
  apply List.ext_getElem?
  intro j
  by_cases hj : j < n
  · have hjm : j % m < m := Nat.mod_lt _ hm
    simp only [madeCells, List.size_toArray, List.length_replicate, Array.toList_map, List.getElem?_map, Array.toList_range, List.getElem?_range hj, Option.map_some, List.getElem?_replicate, if_pos hj]
    simp [hjm]
  · rw [List.getElem?_eq_none (by simp [madeCells]; omega), List.getElem?_eq_none (by simp; omega)]
theorem pgCells_zeros : ∀ n, pgCells (List.replicate n Z128) = List.replicate (n * 128) (Value.int .u8 0)
  | 0 => rfl
  | n + 1 => by
    have ih := pgCells_zeros n
    have e : pgCells (List.replicate (n + 1) Z128) = Z128.map B8 ++ pgCells (List.replicate n Z128) := by unfold pgCells; rw [List.replicate_succ, List.flatMap_cons]
    rw [e, ih, show Z128.map B8 = List.replicate 128 (Value.int .u8 0) from rfl, List.replicate_append_replicate]
    congr 1
    omega
theorem Try.infoP : (Try.prog.info? 108).map (fun i => (i.zero, i.size, i.bytes)) = some (some (.agg (List.replicate 128 (Value.int .u8 0)).toArray), 128, 128) := by kernel_rfl
theorem make_image (n : Nat) : (DM.make n).image = List.replicate n Z128 := by unfold DM.image DM.make; rw [List.map_replicate]
theorem new_bad (n : Int) (w : World) (h : n < 1 ∨ 4096 < n) :
    Calls Try.prog 16 #[.int .i64 n] w fun e w' => e = .returned (.tuple #[.pointer none, .int .i64 1]) ∧ w = w' := by
  by_cases h1 : n < 1
  · clear h
    go_enter Try.func16, Try.ntmps16
    go_wp2
    go_ret2
    exact ⟨rfl, rfl⟩
  · have h2 : 4096 < n := by omega
    clear h h1
    go_enter Try.func16, Try.ntmps16
    go_wp2
    go_ret2
    exact ⟨rfl, rfl⟩
set_option maxRecDepth 100000 in
set_option maxHeartbeats 1600000 in
theorem new_any (n : Nat) (w : World) (h1 : 1 ≤ n) (h2 : n ≤ 4096) :
    Calls Try.prog 16 #[.int .i64 (n : Int)] w fun e w' => ∃ gd gp gm, e = .returned (.tuple #[.pointer (some ⟨gd, 0, none⟩), .int .i64 0]) ∧ PRep w' gd gp gm n [] (DM.make n) 0 ∧ Below w.heap.size w w' ∧ w.heap.size ≤ gd ∧ w.heap.size ≤ gp ∧ w.heap.size ≤ gm := by
  obtain ⟨i0, hi, hz0, hz1, hz2⟩ := info_parts Try.infoP
  have hmm := @run_makeMap Try.prog
  go_enter Try.func16, Try.ntmps16
  go_wp2_with (at_make; refine wpList_make_full _ rfl _ _ 102 rfl w.heap.size 108 i0 _ 128 Try.underlying102 hi hz0 hz1 _ _ _ _ n rfl rfl rfl rfl ?b2 ?b3 ?b4 ?_)
  case b2 => rw [hz2]; omega
  case b3 => unfold maxLen; omega
  case b4 => omega
  intro w1 hown1 hg1
  have hB1 : Blk w1 w.heap.size 108 (pgCells (List.replicate n Z128)) := by
    have hown2 : w1.ownsRow w.heap.size 108 128 (.slice (some ⟨w.heap.size, 0, none⟩) n n) n (madeCells (List.replicate 128 (Value.int .u8 0)).toArray (n * 128)).toList := hown1
    rw [made_rep 128 _ _ (by decide), ← pgCells_zeros] at hown2
    exact own_blk hown2
  have hbel1 := (Below.refl w.heap.size w).grown hg1 (Nat.le_refl _) (fun k hk => by cases hk)
  have hlt1 := hB1.lt
  clear hown1 hg1
  go_wp2_with (with_reducible refine wpList_box (o := ⟨some 14, .box 105 (.tmp 13), _, _, _, _⟩) ?g2 105 (.tmp 13) ?o2 (.agg #[.slice (some ⟨w.heap.size, 0, none⟩) n n, .map (some w1.heap.size), .bool true, .int .i64 (-1)]) [.slice (some ⟨w.heap.size, 0, none⟩) n n, .map (some w1.heap.size), .bool true, .int .i64 (-1)] ?x2 ?c2 ?_)
  try (case g2 => rfl)
  try (case o2 => rfl)
  try (case x2 => rfl)
  try (case c2 => rfl)
  intro gd w3 hgd hs3 hb3 hB3
  have hgd' : gd = w1.heap.size + 1 := hgd.out
  have hb2 : Below w1.heap.size w1 (w1.alloc (.map #[] 0)) := below_new w1 _
  have hm2 := MapOK.made w1 n
  have hb23 : Below (w1.alloc (.map #[] 0)).heap.size (w1.alloc (.map #[] 0)) w3 := hb3.mono (by simp; omega)
  have hb13 := below_join hb2 hb23
  have hBp := hB1.next hb13 hB1.lt
  have hm3 := hm2.only (Only.of_below (L := []) hb23) (by simp)
  have hbel3 := below_join hbel1 hb13
  have hsz := hbel1.size
  go_wp2
  go_ret2
  refine ⟨gd, w.heap.size, w1.heap.size, rfl, ⟨?_, ?_, hm3, ?_, ?_, ?_⟩, hbel3, ?_, Nat.le_refl _, hsz⟩
  · have e : (DM.make n).ps.length = n := by unfold DM.make; simp
    rw [e]; exact hB3
  · rw [make_image, List.append_nil]; exact hBp
  · omega
  · omega
  · omega
  · omega
def offP (k : Nat) : Nat := if k = 128 then 0 else k
/-- 'p[at:]' of a page that is a variable. -/
theorem wpList_cutP {ops : Array Oper} {rest : List Oper} {o : Oper} {a : Act} {w : World} {Q : Exit → Act → World → Prop} (hgd : o.guard = none) (x lo : Operand) (ho : o.op = .slice 108 x (some lo) none none)
    (g b : Nat) (hx : a.eval x = .pointer (some ⟨g, b, none⟩)) (k : Nat) (hlo : a.eval lo = .int .i64 (k : Int)) (hk : k ≤ 128)
    (h : wpList Try.prog ops Q rest (a.put o.dst (.slice (some ⟨g, b + offP k, none⟩) (128 - k) (128 - k))) w) : wpList Try.prog ops Q (o :: rest) a w := by
  refine wpList_plain hgd fun K hK => ?_
  obtain ⟨e1, e2⟩ := arrayLen_of (P := Try.prog) Try.underlying108
  have hrun := run_sliceAt_array_l (P := Try.prog) w 108 ⟨g, b, none⟩ (by rw [e1, e2]; exact Try.underlying108) .i64 (k : Int) (by omega) (by rw [e1]; omega)
  have hs := Try.sz5
  cases hq : Try.prog.info? 5 with
  | none => simp [hq] at hs
  | some i =>
    have hz : i.size = 1 := by simpa [hq] using hs
    rw [e1, e2] at hrun
    have hr2 : (Instr.sliceAt 108 (.pointer (some ⟨g, b, none⟩)) (some (.int .i64 (k : Int))) none none).run Try.prog w = .ok (.slice (some ⟨g, b + offP k, none⟩) (128 - k) (128 - k)) w := by
      rw [hrun]
      unfold offP
      by_cases h128 : k = 128
      · subst h128
        simp [sizeOf, typeInfo, hq, hz, slicedAt]
      · have : ¬ (128 = k) := fun e => h128 e.symm
        simp [sizeOf, typeInfo, hq, hz, slicedAt, addr_mid, h128, this]
    unfold Oper.wp execOp
    simp [ho, hx, hlo, hr2]
    exact hK _ _ h
theorem byteCells_B8 (l : List UInt8) : Lib.byteCells l = l.map B8 := rfl
theorem put_splice (l s : List UInt8) (k : Nat) (_hl : l.length = 128) (hs : k + s.length ≤ 128) : splice (l.map B8) (0 + offP k) (Lib.byteCells (s.take (128 - k))) = (DM.put l k s).map B8 := by
  rw [List.take_of_length_le (by omega), byteCells_B8]
  unfold splice DM.put offP
  by_cases h : k = 128
  · have hs0 : s = [] := List.eq_nil_of_length_eq_zero (by omega)
    subst hs0
    rw [if_pos h, h]
    simp
  · rw [if_neg h]
    simp
theorem wp_mapUpdate {o : Oper} {a : Act} {w : World} {K : Act → World → Prop} {Q : Exit → Act → World → Prop} (m x v : Operand) (t : TypeId) (hop : o.op = Op.mapUpdate t m x v) {mv kv vv : Value} (hm : a.eval m = mv) (hx : a.eval x = kv) (hv : a.eval v = vv)
    {w' : World} (hrun : (Instr.mapUpdate t mv kv vv).run Try.prog w = .ok () w') (h : K (a.put o.dst undef) w') : Oper.wp Try.prog o a w K Q := by
  unfold Oper.wp
  simp [execOp, hop, hm, hx, hv, hrun, Result.andThen]
  exact h
end Go.Proofs.Ytbmoedgokimhmaa
