/-
  Contracts of the functions that the statement calls, part 11 of 37 (merged texts: Rq2, Rq3, Rq4, Rq5). Conditions: as the head of each part says.
-/
import Derived.Test.YthgmlopkcgkjlaaGJ
import Derived.Test.YthgmlopkcgkjlaaGG
import Derived.Laws.AppendOwn

/-
  Contracts of the walks over the reference's zeros, Image and Pending. Conditions: the record holds the disk.
-/
namespace Go.Proofs.Ythgmlopkcgkjlaa
open Go.RowKit

theorem one_cellV {w : World} {u : Value} {x : Value} {t : TypeId} {j : Nat} (h : [x][j]? = some u) : (w.alloc (.cells #[x] t)).cell? ((⟨w.heap.size, 0, none⟩ : Addr).add j) = some u := by
  match j, h with
  | 0, h => simp at h; subst h; simp [Addr.add]
theorem own_shape {w : World} {base size : Nat} {E : TypeId} {v : Value} {n : Nat} {xs : List Value} (h : w.ownsRow base E size v n xs) : ∃ A cap, v = .slice A n cap := by
  rcases h.2 with ⟨rfl, rfl⟩ | ⟨g, cap, cur, rfl, _⟩
  · exact ⟨none, 0, rfl⟩
  · exact ⟨_, cap, rfl⟩
theorem take_next {α β : Type} (f : α → β) (L : List α) (j : Nat) (x : α) (h : L[j]? = some x) : (L.take j).map f ++ [f x] = (L.take (j + 1)).map f := by
  rw [List.take_add_one, h, List.map_append]; rfl
theorem Try.infoI : (Try.prog.info? 3).map (fun i => (i.zero, i.size, i.bytes)) = some (some (.int .i64 0), 1, 8) := by kernel_rfl
def natOf : Value → Nat
  | .int _ q => q.toNat
  | _ => 0
def RImRel (L : List (List UInt8)) (n : Nat) (w1 : World) (v i : Value) (wr : World) : Prop :=
  ∃ j : Nat, j ≤ n ∧ i = .int .i64 j ∧ wr.ownsRow w1.heap.size 9 1 v j ((L.take j).map S8) ∧ Below w1.heap.size w1 wr
set_option maxRecDepth 100000 in
set_option maxHeartbeats 1600000 in
theorem rimage_any (gr ga cap : Nat) (X : List Value) (M : DM) (w : World) (hn4 : M.ps.length ≤ 4096) (h : RRep w gr ga cap X M) :
    Calls Try.prog 65 #[.pointer (some ⟨gr, 0, none⟩)] w fun e w' => ∃ v, e = .returned v ∧ w'.ownsRow w.heap.size 9 1 v M.ps.length (M.image.map S8) ∧ Below w.heap.size w w' := by
  obtain ⟨i0, hi, hz0, hz1, hz2⟩ := info_parts Try.infoS
  obtain ⟨n, hn⟩ : ∃ n, M.ps.length = n := ⟨_, rfl⟩
  obtain ⟨L, hL⟩ : ∃ L, M.image = L := ⟨_, rfl⟩
  have hLn : Hid (L.length = n) := by
    have : L.length = n := by rw [← hL, ← hn]; unfold DM.image; rw [List.length_map]
    exact this
  have hb : Hid (∀ w', Below w.heap.size w w' → w'.cell? ⟨gr, 0, none⟩ = some (.slice (some ⟨ga, 0, none⟩) n cap) ∧ ∀ j l, L[j]? = some l → w'.cell? ⟨ga, j * 3, none⟩ = some (S8 l)) := by
    have : ∀ w', Below w.heap.size w w' → w'.cell? ⟨gr, 0, none⟩ = some (.slice (some ⟨ga, 0, none⟩) n cap) ∧ ∀ j l, L[j]? = some l → w'.cell? ⟨ga, j * 3, none⟩ = some (S8 l) := fun w' hw => by
      have h' := h.next hw
      have c0 := h'.d.cell (k := 0) rfl
      rw [hn] at c0
      refine ⟨c0, fun j l hl => ?_⟩
      have hj : j < M.ps.length := by rw [hn, ← hLn.out]; exact (List.getElem?_eq_some_iff.1 hl).1
      have := h'.q0 hj
      rw [← hL, image_at hj] at hl
      injection hl with hl
      rw [← hl]; exact this
    exact this
  rw [hn, hL]
  rw [hn] at hn4
  clear hn hL h
  go_enter Try.func65, Try.ntmps65
  go_wp2
  go_loopw [3, 4] (RImRel L n w) (fun _ i _ => n - natOf i)
  case atStart => exact ⟨0, Nat.zero_le _, rfl, World.ownsRow_nil _ _ _ _, Below.refl _ _⟩
  case round =>
    obtain ⟨j, hj, rfl, hown, hbel⟩ := hrel
    obtain ⟨A, c, rfl⟩ := own_shape hown
    have c0 := (hb.out wr hbel).1
    have hsz := hbel.size
    have hlt := hown.lt
    by_cases hjn : j < n
    · obtain ⟨l, hl⟩ : ∃ l, L[j]? = some l := ⟨_, List.getElem?_eq_getElem (by rw [hLn.out]; exact hjn)⟩
      have q0 : wr.cell? ⟨ga, j * 3, none⟩ = some (.string ⟨l.toArray⟩) := (hb.out wr hbel).2 j l hl
      have hji : (j : Int) < (n : Int) := by omega
      have hnx : Hid ((L.take j).map S8 ++ [Value.string ⟨l.toArray⟩] = (L.take (j + 1)).map S8) := take_next S8 L j l hl
      obtain ⟨XS, hXS⟩ : ∃ XS, Hid ((L.take j).map S8 = XS) := ⟨_, rfl⟩
      rw [hXS.out] at hown hnx
      clear hl hj hXS
      go_wp2_with (at_builtin; refine wpList_append_own _ rfl _ _ 43 rfl w.heap.size 9 i0 _ 1 16 Try.underlying43 hi hz0 hz1 hz2 rfl (by decide) _ _ _ rfl (hown.alloc _) ⟨wr.heap.size, 0, none⟩ 1 1 [.string ⟨l.toArray⟩] rfl (by with_unfolding_all rfl) (fun j u hu => one_cellV hu) (one_cell1 rfl) (by unfold maxLen; omega) (by omega) (by with_unfolding_all (simp; omega)) ?_)
      intro v3 w3 hown3 hgrow3 _
      have hbel3 := (hbel.alloc hsz (.cells #[.string ⟨l.toArray⟩] 9)).grown hgrow3 (by simp; omega) (fun j hj => (hlt j hj).1)
      rw [hnx.out] at hown3
      clear hown hlt hgrow3 hbel c0 q0
      go_wp2
      go_roundw
      case rel => exact ⟨j + 1, by omega, rfl, hown3, hbel3⟩
      case measure => simp [natOf]; omega
    · obtain rfl : j = n := by omega
      clear hjn hj
      go_wp2
      go_ret
      refine ⟨_, rfl, ?_, hbel⟩
      rw [List.take_of_length_le (Nat.le_of_eq hLn.out)] at hown
      exact hown
theorem pendZ_length (M : DM) : (pendZ M).length = M.pending.length := by unfold pendZ; rw [List.length_map]
def pendTo (M : DM) (j : Nat) : List Int := ((List.range j).filter fun i => (M.page i).pend).map Int.ofNat
theorem pendTo_all (M : DM) : pendTo M M.ps.length = pendZ M := rfl
theorem pendTo_yes (M : DM) (j : Nat) (h : (M.page j).pend = true) : pendTo M (j + 1) = pendTo M j ++ [(j : Int)] := by
  unfold pendTo
  rw [List.range_succ, List.filter_append, List.map_append, List.filter_cons_of_pos (by simpa using h)]
  rfl
theorem pendTo_no (M : DM) (j : Nat) (h : (M.page j).pend = false) : pendTo M (j + 1) = pendTo M j := by
  unfold pendTo
  rw [List.range_succ, List.filter_append, List.filter_cons_of_neg (by simp [h]), List.filter_nil, List.append_nil]
theorem pendTo_le (M : DM) (j : Nat) : (pendTo M j).length ≤ j := by
  unfold pendTo
  rw [List.length_map]
  exact Nat.le_trans (List.length_filter_le _ _) (Nat.le_of_eq List.length_range)
def Z8 (x : Int) : Value := .int .i64 x
def RPeRel (M : DM) (n : Nat) (w1 : World) (v i : Value) (wr : World) : Prop :=
  ∃ j : Nat, j ≤ n ∧ i = .int .i64 j ∧ wr.ownsRow w1.heap.size 3 1 v (pendTo M j).length ((pendTo M j).map Z8) ∧ Below w1.heap.size w1 wr
set_option maxRecDepth 100000 in
set_option maxHeartbeats 1600000 in
theorem rpending_any (gr ga cap : Nat) (X : List Value) (M : DM) (w : World) (hn4 : M.ps.length ≤ 4096) (h : RRep w gr ga cap X M) :
    Calls Try.prog 66 #[.pointer (some ⟨gr, 0, none⟩)] w fun e w' => ∃ v, e = .returned v ∧ w'.ownsRow w.heap.size 3 1 v (pendZ M).length ((pendZ M).map Z8) ∧ Below w.heap.size w w' := by
  obtain ⟨i0, hi, hz0, hz1, hz2⟩ := info_parts Try.infoI
  obtain ⟨n, hn⟩ : ∃ n, M.ps.length = n := ⟨_, rfl⟩
  have hall : Hid (pendTo M n = pendZ M) := by
    have : pendTo M n = pendZ M := by rw [← hn]; rfl
    exact this
  have hb : Hid (∀ w', Below w.heap.size w w' → w'.cell? ⟨gr, 0, none⟩ = some (.slice (some ⟨ga, 0, none⟩) n cap) ∧ ∀ j, j < n → w'.cell? ⟨ga, j * 3 + 2, none⟩ = some (.bool (M.page j).pend)) := by
    have : ∀ w', Below w.heap.size w w' → w'.cell? ⟨gr, 0, none⟩ = some (.slice (some ⟨ga, 0, none⟩) n cap) ∧ ∀ j, j < n → w'.cell? ⟨ga, j * 3 + 2, none⟩ = some (.bool (M.page j).pend) := fun w' hw => by
      have h' := h.next hw
      have c0 := h'.d.cell (k := 0) rfl
      rw [hn] at c0
      exact ⟨c0, fun j hj => h'.q2 (by rw [hn]; exact hj)⟩
    exact this
  rw [← hall.out]
  rw [hn] at hn4
  clear hn h
  go_enter Try.func66, Try.ntmps66
  go_wp2
  go_loopw [3, 4] (RPeRel M n w) (fun _ i _ => n - natOf i)
  case atStart => exact ⟨0, Nat.zero_le _, rfl, World.ownsRow_nil _ _ _ _, Below.refl _ _⟩
  case round =>
    obtain ⟨j, hj, rfl, hown, hbel⟩ := hrel
    have c0 := (hb.out wr hbel).1
    have hsz := hbel.size
    have hlt := hown.lt
    have hpl := pendTo_le M j
    by_cases hjn : j < n
    · have q2 := (hb.out wr hbel).2 j hjn
      have hji : (j : Int) < (n : Int) := by omega
      obtain ⟨b, hpb⟩ : ∃ b, (M.page j).pend = b := ⟨_, rfl⟩
      rw [hpb] at q2
      have HJ := Lib.hid hj
      cases b with
      | false =>
        have hnx := Lib.hid (pendTo_no M j hpb)
        clear hpb hj
        go_wp2
        go_roundw
        case rel => exact ⟨j + 1, by omega, rfl, by rw [hnx.out]; exact hown, hbel⟩
        case measure => simp [natOf]; omega
      | true =>
        have hnx := pendTo_yes M j hpb
        have hnx1 : Hid ((pendTo M j).map Z8 ++ [Value.int .i64 (j : Int)] = (pendTo M (j + 1)).map Z8) := by
          have : (pendTo M j).map Z8 ++ [Value.int .i64 (j : Int)] = (pendTo M (j + 1)).map Z8 := by rw [hnx, List.map_append]; rfl
          exact this
        have hnx2 : Hid ((pendTo M j).length + 1 = (pendTo M (j + 1)).length) := by
          have : (pendTo M j).length + 1 = (pendTo M (j + 1)).length := by rw [hnx, List.length_append]; rfl
          exact this
        obtain ⟨N, hN⟩ : ∃ N, Hid ((pendTo M j).length = N) := ⟨_, rfl⟩
        rw [hN.out] at hown hpl hnx2
        obtain ⟨A, c, rfl⟩ := own_shape hown
        obtain ⟨XS, hXS⟩ : ∃ XS, Hid ((pendTo M j).map Z8 = XS) := ⟨_, rfl⟩
        rw [hXS.out] at hown hnx1
        clear hpb hj hnx hXS
        go_wp2_with (at_builtin; refine wpList_append_own _ rfl _ _ 32 rfl w.heap.size 3 i0 _ 1 8 Try.underlying32 hi hz0 hz1 hz2 rfl (by decide) _ _ _ rfl (hown.alloc _) ⟨wr.heap.size, 0, none⟩ 1 1 [.int .i64 (j : Int)] rfl (by with_unfolding_all rfl) (fun j u hu => one_cellV hu) (one_cell1 rfl) (by unfold maxLen; omega) (by omega) (by with_unfolding_all (simp; omega)) ?_)
        intro v3 w3 hown3 hgrow3 _
        have hbel3 := (hbel.alloc hsz (.cells #[.int .i64 (j : Int)] 3)).grown hgrow3 (by simp; omega) (fun j hj => (hlt j hj).1)
        rw [hnx1.out, hnx2.out] at hown3
        clear hown hlt hgrow3 hbel c0 q2
        go_wp2
        go_roundw
        case rel => exact ⟨j + 1, by omega, rfl, hown3, hbel3⟩
        case measure => simp [natOf]; omega
    · obtain rfl : j = n := by omega
      clear hjn hj
      go_wp2
      go_ret
      exact ⟨_, rfl, hown, hbel⟩
end Go.Proofs.Ythgmlopkcgkjlaa

/-
  Contract of the walk over the reference's settle. Conditions: the record holds the disk.
-/
namespace Go.Proofs.Ythgmlopkcgkjlaa
open Go.RowKit
variable {P : Program}

theorem set_page {M : DM} {i : Nat} (hi : i < M.ps.length) : M.set i (M.page i) = M := by
  unfold DM.set
  have : M.ps.set i (M.page i) = M.ps := by
    apply List.ext_getElem?
    intro j
    by_cases e : i = j
    · subst e
      rw [List.getElem?_set_self hi, DM.page_at hi]
    · rw [List.getElem?_set_ne e]
  rw [this]
theorem settle_bytes (l o : List UInt8) (c : Nat) (ho : o.length = 128) : (⟨l.toArray⟩ : ByteArray).extract 0 c ++ (⟨o.toArray⟩ : ByteArray).extract c 128 = ⟨(l.take c ++ o.drop c).toArray⟩ := by
  apply ByteArray.ext
  apply Array.ext'
  simp [ByteArray.data_extract, ByteArray.data_append]
  rw [List.take_of_length_le (by rw [List.length_drop]; omega)]
theorem one_cell3 {a b c : Value} (ha : a.oneCell' = true) (hb : b.oneCell' = true) (hc : c.oneCell' = true) : ∀ u ∈ [a, b, c], u.oneCell' = true := by
  intro u hu
  simp only [List.mem_cons, List.not_mem_nil, or_false] at hu
  rcases hu with rfl | rfl | rfl
  · exact ha
  · exact hb
  · exact hc
theorem wpList_maxZ {ops : Array Oper} {rest : List Oper} {o : Oper} {a : Act} {w : World} {Q : Exit → Act → World → Prop} (hgd : o.guard = none) (x y : Operand) (t u : TypeId)
    (ho : o.op = .call { callee := .builtin .max, args := #[x, y], argTypes := #[t, u] }) (p q m : Int) (hx : a.eval x = .int .i64 p) (hy : a.eval y = .int .i64 q) (hm : max p q = m)
    (h : wpList P ops Q rest (a.put o.dst (.int .i64 m)) w) : wpList P ops Q (o :: rest) a w := by
  refine wpList_plain hgd fun K hK => ?_
  have hrun : (Builtin.max_ #[t, u] o.type #[.int .i64 p, .int .i64 q]).run P w = .ok (.int .i64 m) w := by
    rw [run_max_int2, ← hm]
    congr 2
    split <;> omega
  unfold Oper.wp
  simp [execOp, ho, resolve, invoke, builtin, hx, hy, hrun, Result.andThen]
  exact hK _ _ h
theorem wpList_minZ {ops : Array Oper} {rest : List Oper} {o : Oper} {a : Act} {w : World} {Q : Exit → Act → World → Prop} (hgd : o.guard = none) (x y : Operand) (t u : TypeId)
    (ho : o.op = .call { callee := .builtin .min, args := #[x, y], argTypes := #[t, u] }) (p q m : Int) (hx : a.eval x = .int .i64 p) (hy : a.eval y = .int .i64 q) (hm : min p q = m)
    (h : wpList P ops Q rest (a.put o.dst (.int .i64 m)) w) : wpList P ops Q (o :: rest) a w := by
  refine wpList_plain hgd fun K hK => ?_
  have hrun : (Builtin.min_ #[t, u] o.type #[.int .i64 p, .int .i64 q]).run P w = .ok (.int .i64 m) w := by
    rw [run_min_int2, ← hm]
    congr 2
    split <;> omega
  unfold Oper.wp
  simp [execOp, ho, resolve, invoke, builtin, hx, hy, hrun, Result.andThen]
  exact hK _ _ h
def clampN (p : Int) : Nat := (min (max p 0) 128).toNat
set_option maxRecDepth 100000 in
set_option maxHeartbeats 1600000 in
theorem rsettle_any (gr ga cap : Nat) (X : List Value) (M : DM) (i c : Nat) (p : Int) (w : World) (hi : i < M.ps.length) (hcp : clampN p = c) (hM : M.ok) (h : RRep w gr ga cap X M) :
    Calls Try.prog 87 #[.pointer (some ⟨gr, 0, none⟩), .int .i64 (i : Int), .int .i64 p] w fun e w' => e = .returned (.tuple #[]) ∧ RRep w' gr ga cap X (M.set i ((M.page i).settle c)) ∧ Only [ga] w w' := by
  have hc : c ≤ 128 := by unfold clampN at hcp; omega
  obtain ⟨m, hm⟩ : ∃ m, Hid (max p 0 = m) := ⟨_, rfl⟩
  have hmc : Hid (min m 128 = (c : Int)) := by
    have : min m 128 = (c : Int) := by have := hm.out; unfold clampN at hcp; omega
    exact this
  clear hcp
  have c0 := h.d.cell (k := 0) rfl
  have hpk := DM.page_ok hM hi
  have hpa := DM.page_at hi
  have hself := set_page hi
  obtain ⟨n, hn⟩ : ∃ n, M.ps.length = n := ⟨_, rfl⟩
  have hin : (i : Int) < (n : Int) := by omega
  rw [hn] at c0
  have q2 := h.q2 hi
  obtain ⟨pg, hp⟩ : ∃ pg, M.page i = pg := ⟨_, rfl⟩
  rw [hp] at q2 hpk hself hpa ⊢
  obtain ⟨o, nw⟩ := pg
  cases nw with
  | none =>
    have e1 : Pg.settle ⟨o, none⟩ c = ⟨o, none⟩ := rfl
    have q2' : w.cell? ⟨ga, i * 3 + 2, none⟩ = some (.bool false) := q2
    rw [e1, hself]
    have HH := Lib.hid h
    clear h hn hi hM hpk hpa hp hself e1 q2
    go_enter Try.func87, Try.ntmps87
    go_wp2
    refine bodyPost_ret (results_none rfl _ _ _) rfl ?_
    exact ⟨rfl, HH.out, Only.refl _ _⟩
  | some l =>
    have q2' : w.cell? ⟨ga, i * 3 + 2, none⟩ = some (.bool true) := q2
    have hol : o.length = 128 := hpk.1
    have hll : l.length = 128 := hpk.2 l rfl
    have HP := Lib.hid hp
    have HH := Lib.hid h
    have HI := Lib.hid hi
    have HPA := Lib.hid hpa
    have HN := Lib.hid hn
    have hdd := below_drew w
    have hd := HH.out.next hdd
    have q0 := hd.q0 HI.out
    have q1 := hd.q1 HI.out
    rw [HP.out] at q0 q1
    obtain ⟨so, hso⟩ : ∃ so : ByteArray, (⟨o.toArray⟩ : ByteArray) = so := ⟨_, rfl⟩
    obtain ⟨sl, hsl⟩ : ∃ sl : ByteArray, (⟨l.toArray⟩ : ByteArray) = sl := ⟨_, rfl⟩
    have q0' : w.drew.cell? ⟨ga, i * 3, none⟩ = some (.string so) := by rw [← hso]; exact q0
    have q1' : w.drew.cell? ⟨ga, i * 3 + 1, none⟩ = some (.string sl) := by rw [← hsl]; exact q1
    have hzo : so.size = 128 := by rw [← hso]; exact hol
    have hzl : sl.size = 128 := by rw [← hsl]; exact hll
    have hsp : Hid (splice (pgRow M.ps ++ X) (i * 3 + 0) [.string (sl.extract 0 c ++ so.extract c 128), .string ⟨#[]⟩, .bool false] = pgRow (M.ps.set i (Pg.settle ⟨o, some l⟩ c)) ++ X) := by
      have : splice (pgRow M.ps ++ X) (i * 3 + 0) [.string (sl.extract 0 c ++ so.extract c 128), .string ⟨#[]⟩, .bool false] = pgRow (M.ps.set i (Pg.settle ⟨o, some l⟩ c)) ++ X := by
        refine pgRow_splice hpa X 0 _ _ ?_ (by simp)
        rw [splice_all (pg3 ⟨o, some l⟩) [.string (sl.extract 0 c ++ so.extract c 128), .string ⟨#[]⟩, .bool false] rfl, ← hso, ← hsl]
        have e : (⟨l.toArray⟩ : ByteArray).extract 0 c ++ (⟨o.toArray⟩ : ByteArray).extract c 128 = ⟨(l.take c ++ o.drop c).toArray⟩ := settle_bytes l o c hol
        rw [e]; rfl
      exact this
    have hci : (c : Int) ≤ 128 := by omega
    have hlen : (pgRow M.ps ++ X).length = M.ps.length * 3 + X.length := by rw [List.length_append, pgRow_length]
    rw [hn] at hlen
    have HLEN := Lib.hid hlen
    have hS := hd.d.cell (k := 0) rfl
    rw [hn] at hS
    clear hn hi hM hpk hself q0 q1 q2 hp hpa h hso hsl hlen
    go_enter Try.func87, Try.ntmps87
    go_wp2_with (first | (with_reducible refine wpList_maxZ (o := ⟨some 16, .call ⟨.builtin .max, #[.tmp 15, .const (.int .i64 0)], #[3, 3]⟩, _, _, _, _⟩) (by with_unfolding_all rfl) (.tmp 15) (.const (.int .i64 0)) 3 3 (by with_unfolding_all rfl) p 0 m (by with_unfolding_all rfl) (by with_unfolding_all rfl) hm.out ?_) | (with_reducible refine wpList_minZ (o := ⟨some 17, .call ⟨.builtin .min, #[.tmp 16, .const (.int .i64 128)], #[3, 3]⟩, _, _, _, _⟩) (by with_unfolding_all rfl) (.tmp 16) (.const (.int .i64 128)) 3 3 (by with_unfolding_all rfl) m 128 (c : Int) (by with_unfolding_all rfl) (by with_unfolding_all rfl) hmc.out ?_))
    refine wp_region_held_drew (S := fun w' => w'.cell? ⟨gr, 0, none⟩ = some (.slice (some ⟨ga, 0, none⟩) n cap)) (by kernel_rfl) hS (fun hHeld => ?_)
    generalize w.drew = wd at hdd hHeld hS hd q0' q1' ⊢
    refine wpAnyH_take (i := 0) (v := ?vv0) rfl (by kernel_rfl) (by kernel_rfl) (by kernel_rfl) (fun _ _ _ h => h) (Or.inl ⟨by rfl, ?yv0⟩) (by assumption) ?rv0
    case yv0 => intro w hSw; (try dsimp only at hSw); go_simp <;> (try with_reducible rfl)
    (try simp only [List.getElem_toArray, List.getElem_cons_zero, Act.put, List.setIfInBounds_toArray, List.set_cons_zero, List.set_cons_succ])
    refine wpAnyH_take (i := 1) (v := ?vv1) rfl (by kernel_rfl) (by kernel_rfl) (by kernel_rfl) (fun _ _ _ h => h) (Or.inl ⟨by rfl, ?yv1⟩) (by assumption) ?rv1
    case yv1 => intro w hSw; (try dsimp only at hSw); go_simp <;> (try with_reducible rfl)
    (try simp only [List.getElem_toArray, List.getElem_cons_succ, List.getElem_cons_zero, Act.put, List.setIfInBounds_toArray, List.set_cons_zero, List.set_cons_succ])
    refine wpAnyH_take (i := 2) (v := ?vv2) rfl (by kernel_rfl) (by kernel_rfl) (by kernel_rfl) (fun _ _ _ h => h) (Or.inl ⟨by rfl, ?yv2⟩) (by assumption) ?rv2
    case yv2 => intro w hSw; (try dsimp only at hSw); go_simp <;> (try with_reducible rfl)
    (try simp only [List.getElem_toArray, List.getElem_cons_succ, List.getElem_cons_zero, Act.put, List.setIfInBounds_toArray, List.set_cons_zero, List.set_cons_succ])
    refine wpAnyH_take (i := 3) (v := ?vv3) rfl (by kernel_rfl) (by kernel_rfl) (by kernel_rfl) (fun _ _ _ h => h) (Or.inl ⟨by rfl, ?yv3⟩) (by assumption) ?rv3
    case yv3 => intro w hSw; (try dsimp only at hSw); go_simp <;> (try with_reducible rfl)
    (try simp only [List.getElem_toArray, List.getElem_cons_succ, List.getElem_cons_zero, Act.put, List.setIfInBounds_toArray, List.set_cons_zero, List.set_cons_succ])
    refine wpAnyH_take (i := 4) (v := ?vv4) rfl (by kernel_rfl) (by kernel_rfl) (by kernel_rfl) (fun _ _ _ h => h) (Or.inl ⟨by rfl, ?yv4⟩) (by assumption) ?rv4
    case yv4 => intro w hSw; (try dsimp only at hSw); go_simp <;> (try with_reducible rfl)
    (try simp only [List.getElem_toArray, List.getElem_cons_succ, List.getElem_cons_zero, Act.put, List.setIfInBounds_toArray, List.set_cons_zero, List.set_cons_succ])
    refine wpAnyH_take (i := 5) (v := ?vv5) rfl (by kernel_rfl) (by kernel_rfl) (by kernel_rfl) (fun _ _ _ h => h) (Or.inl ⟨by rfl, ?yv5⟩) (by assumption) ?rv5
    case yv5 => intro w hSw; (try dsimp only at hSw); go_simp <;> (try with_reducible rfl)
    (try simp only [List.getElem_toArray, List.getElem_cons_succ, List.getElem_cons_zero, Act.put, List.setIfInBounds_toArray, List.set_cons_zero, List.set_cons_succ])
    refine wpAnyH_take (i := 6) (v := ?vv6) rfl (by kernel_rfl) (by kernel_rfl) (by kernel_rfl) (fun _ _ _ h => h) (Or.inl ⟨by rfl, ?yv6⟩) (by assumption) ?rv6
    case yv6 => intro w hSw; (try dsimp only at hSw); go_simp <;> (try with_reducible rfl)
    (try simp only [List.getElem_toArray, List.getElem_cons_succ, List.getElem_cons_zero, Act.put, List.setIfInBounds_toArray, List.set_cons_zero, List.set_cons_succ])
    refine wpAnyH_take (i := 7) (v := ?vv7) rfl (by kernel_rfl) (by kernel_rfl) (by kernel_rfl) (fun _ _ _ h => h) (Or.inl ⟨by rfl, ?yv7⟩) (by assumption) ?rv7
    case yv7 => intro w hSw; (try dsimp only at hSw); go_simp <;> (try with_reducible rfl)
    (try simp only [List.getElem_toArray, List.getElem_cons_succ, List.getElem_cons_zero, Act.put, List.setIfInBounds_toArray, List.set_cons_zero, List.set_cons_succ])
    refine wpAnyH_take (i := 8) (v := ?vv8) rfl (by kernel_rfl) (by kernel_rfl) (by kernel_rfl) (fun _ _ _ h => h) (Or.inl ⟨by rfl, ?yv8⟩) (by assumption) ?rv8
    case yv8 => intro w hSw; (try dsimp only at hSw); go_simp <;> (try with_reducible rfl)
    (try simp only [List.getElem_toArray, List.getElem_cons_succ, List.getElem_cons_zero, Act.put, List.setIfInBounds_toArray, List.set_cons_zero, List.set_cons_succ])
    refine wpAnyH_take (i := 9) (v := ?vv9) rfl (by kernel_rfl) (by kernel_rfl) (by kernel_rfl) (fun _ _ _ h => h) (Or.inl ⟨by rfl, ?yv9⟩) (by assumption) ?rv9
    case yv9 => intro w hSw; (try dsimp only at hSw); go_simp <;> (try with_reducible rfl)
    (try simp only [List.getElem_toArray, List.getElem_cons_succ, List.getElem_cons_zero, Act.put, List.setIfInBounds_toArray, List.set_cons_zero, List.set_cons_succ])
    refine wpAnyH_take (i := 10) (v := ?vv10) rfl (by kernel_rfl) (by kernel_rfl) (by kernel_rfl) (fun _ _ _ h => h) (Or.inl ⟨by rfl, ?yv10⟩) (by assumption) ?rv10
    case yv10 => intro w hSw; (try dsimp only at hSw); go_simp <;> (try with_reducible rfl)
    (try simp only [List.getElem_toArray, List.getElem_cons_succ, List.getElem_cons_zero, Act.put, List.setIfInBounds_toArray, List.set_cons_zero, List.set_cons_succ])
    refine wpAnyH_take (i := 11) (v := ?vv11) rfl (by kernel_rfl) (by kernel_rfl) (by kernel_rfl) (fun _ _ _ h => h) (Or.inl ⟨by rfl, ?yv11⟩) (by assumption) ?rv11
    case yv11 => intro w hSw; (try dsimp only at hSw); go_simp <;> (try with_reducible rfl)
    (try simp only [List.getElem_toArray, List.getElem_cons_succ, List.getElem_cons_zero, Act.put, List.setIfInBounds_toArray, List.set_cons_zero, List.set_cons_succ])
    refine wpAnyH_take (i := 13) (v := ?vv13) rfl (by kernel_rfl) (by kernel_rfl) (by kernel_rfl) (fun _ _ _ h => h) (Or.inl ⟨by rfl, ?yv13⟩) (by assumption) ?rv13
    case yv13 => intro w hSw; (try dsimp only at hSw); go_simp <;> (try with_reducible rfl)
    (try simp only [List.getElem_toArray, List.getElem_cons_succ, List.getElem_cons_zero, Act.put, List.setIfInBounds_toArray, List.set_cons_zero, List.set_cons_succ])
    refine wpAnyH_take (i := 15) (v := ?vv15) rfl (by kernel_rfl) (by kernel_rfl) (by kernel_rfl) (fun _ _ _ h => h) (Or.inl ⟨by rfl, ?yv15⟩) (by assumption) ?rv15
    case yv15 => intro w hSw; (try dsimp only at hSw); go_simp <;> (try with_reducible rfl)
    (try simp only [List.getElem_toArray, List.getElem_cons_succ, List.getElem_cons_zero, Act.put, List.setIfInBounds_toArray, List.set_cons_zero, List.set_cons_succ])
    refine wpAnyH_take (i := 16) (v := ?vv16) rfl (by kernel_rfl) (by kernel_rfl) (by kernel_rfl) (fun _ _ _ h => h) (Or.inl ⟨by rfl, ?yv16⟩) (by assumption) ?rv16
    case yv16 => intro w hSw; (try dsimp only at hSw); go_simp <;> (try with_reducible rfl)
    (try simp only [List.getElem_toArray, List.getElem_cons_succ, List.getElem_cons_zero, Act.put, List.setIfInBounds_toArray, List.set_cons_zero, List.set_cons_succ])
    refine wpAnyH_take (i := 17) (v := ?vv17) rfl (by kernel_rfl) (by kernel_rfl) (by kernel_rfl) (fun _ _ _ h => h) (Or.inl ⟨by rfl, ?yv17⟩) (by assumption) ?rv17
    case yv17 => intro w hSw; (try dsimp only at hSw); go_simp <;> (try with_reducible rfl)
    (try simp only [List.getElem_toArray, List.getElem_cons_succ, List.getElem_cons_zero, Act.put, List.setIfInBounds_toArray, List.set_cons_zero, List.set_cons_succ])
    refine wpAnyH_take (i := 18) (v := ?vv18) rfl (by kernel_rfl) (by kernel_rfl) (by kernel_rfl) (fun _ _ _ h => h) (Or.inl ⟨by rfl, ?yv18⟩) (by assumption) ?rv18
    case yv18 => intro w hSw; (try dsimp only at hSw); go_simp <;> (try with_reducible rfl)
    (try simp only [List.getElem_toArray, List.getElem_cons_succ, List.getElem_cons_zero, Act.put, List.setIfInBounds_toArray, List.set_cons_zero, List.set_cons_succ])
    refine wpAnyH_take (i := 19) (v := ?vv19) rfl (by kernel_rfl) (by kernel_rfl) (by kernel_rfl) (fun _ _ _ h => h) (Or.inl ⟨by rfl, ?yv19⟩) (by assumption) ?rv19
    case yv19 => intro w hSw; (try dsimp only at hSw); go_simp <;> (try with_reducible rfl)
    (try simp only [List.getElem_toArray, List.getElem_cons_succ, List.getElem_cons_zero, Act.put, List.setIfInBounds_toArray, List.set_cons_zero, List.set_cons_succ])
    refine wpAnyH_take (i := 20) (v := ?vv20) rfl (by kernel_rfl) (by kernel_rfl) (by kernel_rfl) (fun _ _ _ h => h) (Or.inl ⟨by rfl, ?yv20⟩) (by assumption) ?rv20
    case yv20 => intro w hSw; (try dsimp only at hSw); go_simp <;> (try with_reducible rfl)
    (try simp only [List.getElem_toArray, List.getElem_cons_succ, List.getElem_cons_zero, Act.put, List.setIfInBounds_toArray, List.set_cons_zero, List.set_cons_succ])
    refine wpAnyH_take (i := 21) (v := ?vv21) rfl (by kernel_rfl) (by kernel_rfl) (by kernel_rfl) (fun _ _ _ h => h) (Or.inl ⟨by rfl, ?yv21⟩) (by assumption) ?rv21
    case yv21 => intro w hSw; (try dsimp only at hSw); go_simp <;> (try with_reducible rfl)
    (try simp only [List.getElem_toArray, List.getElem_cons_succ, List.getElem_cons_zero, Act.put, List.setIfInBounds_toArray, List.set_cons_zero, List.set_cons_succ])
    refine wpAnyH_take (i := 23) (v := ?vv23) rfl (by kernel_rfl) (by kernel_rfl) (by kernel_rfl) (fun _ _ _ h => h) (Or.inl ⟨by rfl, ?yv23⟩) (by assumption) ?rv23
    case yv23 => intro w hSw; (try dsimp only at hSw); go_simp <;> (try with_reducible rfl)
    (try simp only [List.getElem_toArray, List.getElem_cons_succ, List.getElem_cons_zero, Act.put, List.setIfInBounds_toArray, List.set_cons_zero, List.set_cons_succ])
    refine wpAnyH_ready (rs := [12, 22]) (by kernel_rfl) (by simp) ?_
    refine AllReadyH.cons rfl (fun K hK => ?_) (AllReadyH.cons rfl (fun K hK => ?_) AllReadyH.nil)
    · go_simp
      refine hK.out _ _ hHeld (fun hHeld => ?_)
      clear hK K
      refine wpAnyH_take (i := 14) (v := ?vv14) rfl (by kernel_rfl) (by kernel_rfl) (by kernel_rfl) (fun _ _ _ h => h) (Or.inl ⟨by rfl, ?yv14⟩) (by assumption) ?rv14
      case yv14 => intro w hSw; (try dsimp only at hSw); go_simp <;> (try with_reducible rfl)
      (try simp only [List.getElem_toArray, List.getElem_cons_succ, List.getElem_cons_zero, Act.put, List.setIfInBounds_toArray, List.set_cons_zero, List.set_cons_succ])
      refine wpAnyH_ready (rs := [22]) (by kernel_rfl) (by simp) ?_
      refine AllReadyH.cons rfl (fun K hK => ?_) AllReadyH.nil
      go_simp
      refine hK.out _ _ hHeld (fun hHeld => ?_)
      clear hK K
      refine wpAnyH_take (i := 24) (v := ?vv24) rfl (by kernel_rfl) (by kernel_rfl) (by kernel_rfl) (fun _ _ _ h => h) (Or.inl ⟨by rfl, ?yv24⟩) (by assumption) ?rv24
      case yv24 => intro w hSw; (try dsimp only at hSw); go_simp <;> (try with_reducible rfl)
      (try simp only [List.getElem_toArray, List.getElem_cons_succ, List.getElem_cons_zero, Act.put, List.setIfInBounds_toArray, List.set_cons_zero, List.set_cons_succ])
      refine wpAnyH_take (i := 25) (v := ?vv25) rfl (by kernel_rfl) (by kernel_rfl) (by kernel_rfl) (fun _ _ _ h => h) (Or.inl ⟨by rfl, ?yv25⟩) (by assumption) ?rv25
      case yv25 => intro w hSw; (try dsimp only at hSw); go_simp <;> (try with_reducible rfl)
      (try simp only [List.getElem_toArray, List.getElem_cons_succ, List.getElem_cons_zero, Act.put, List.setIfInBounds_toArray, List.set_cons_zero, List.set_cons_succ])
      refine wpAnyH_take (i := 26) (v := ?vv26) rfl (by kernel_rfl) (by kernel_rfl) (by kernel_rfl) (fun _ _ _ h => h) (Or.inl ⟨by rfl, ?yv26⟩) (by assumption) ?rv26
      case yv26 => intro w hSw; (try dsimp only at hSw); go_simp <;> (try with_reducible rfl)
      (try simp only [List.getElem_toArray, List.getElem_cons_succ, List.getElem_cons_zero, Act.put, List.setIfInBounds_toArray, List.set_cons_zero, List.set_cons_succ])
      refine wpAnyH_take (i := 27) (v := ?vv27) rfl (by kernel_rfl) (by kernel_rfl) (by kernel_rfl) (fun _ _ _ h => h) (Or.inl ⟨by rfl, ?yv27⟩) (by assumption) ?rv27
      case yv27 => intro w hSw; (try dsimp only at hSw); go_simp <;> (try with_reducible rfl)
      (try simp only [List.getElem_toArray, List.getElem_cons_succ, List.getElem_cons_zero, Act.put, List.setIfInBounds_toArray, List.set_cons_zero, List.set_cons_succ])
      refine wpAnyH_ready (rs := [28]) (by kernel_rfl) (by simp) ?_
      refine AllReadyH.cons rfl (fun K hK => ?_) AllReadyH.nil
      rw [if_pos (by rfl)]
      refine wp_put 53 (.tmp 45) (.tmp 44) rfl ga (i * 3) rfl (.agg #[.string (sl.extract 0 c ++ so.extract c 128), .string ⟨#[]⟩, .bool false]) rfl hd.p [.string (sl.extract 0 c ++ so.extract c 128), .string ⟨#[]⟩, .bool false] rfl (by exact Try.szRP) (by rw [HLEN.out]; simp; omega) (one_cell3 rfl rfl rfl) ?_
      intro w7 hu7 hB7
      rw [show i * 3 = i * 3 + 0 from rfl, hsp.out] at hB7
      have ho7 : Only [ga] wd w7 := Only.of_upd hu7 (by simp)
      have h7 : RRep w7 gr ga cap X (M.set i (Pg.settle ⟨o, some l⟩ c)) := ⟨by rw [DM.set_len]; exact hd.d.only ho7 (by simpa using hd.n1), hB7, hd.n1⟩
      have ho8 := (Only.of_below (L := [ga]) hdd).trans ho7
      refine hK.out _ _ (by have := h7.d.cell (k := 0) rfl; rw [DM.set_len, HN.out] at this; exact this) (fun hHeld => ?_)
      clear hK K hHeld
      refine wpAnyH_done (by kernel_rfl) ?_ _
      go_wp2
      go_end0
      exact ⟨rfl, h7, ho8⟩
    · go_simp
      refine hK.out _ _ hHeld (fun hHeld => ?_)
      clear hK K
      refine wpAnyH_take (i := 24) (v := ?vu24) rfl (by kernel_rfl) (by kernel_rfl) (by kernel_rfl) (fun _ _ _ h => h) (Or.inl ⟨by rfl, ?yu24⟩) (by assumption) ?ru24
      case yu24 => intro w hSw; (try dsimp only at hSw); go_simp <;> (try with_reducible rfl)
      (try simp only [List.getElem_toArray, List.getElem_cons_succ, List.getElem_cons_zero, Act.put, List.setIfInBounds_toArray, List.set_cons_zero, List.set_cons_succ])
      refine wpAnyH_ready (rs := [12]) (by kernel_rfl) (by simp) ?_
      refine AllReadyH.cons rfl (fun K hK => ?_) AllReadyH.nil
      go_simp
      refine hK.out _ _ hHeld (fun hHeld => ?_)
      clear hK K
      refine wpAnyH_take (i := 14) (v := ?vu14) rfl (by kernel_rfl) (by kernel_rfl) (by kernel_rfl) (fun _ _ _ h => h) (Or.inl ⟨by rfl, ?yu14⟩) (by assumption) ?ru14
      case yu14 => intro w hSw; (try dsimp only at hSw); go_simp <;> (try with_reducible rfl)
      (try simp only [List.getElem_toArray, List.getElem_cons_succ, List.getElem_cons_zero, Act.put, List.setIfInBounds_toArray, List.set_cons_zero, List.set_cons_succ])
      refine wpAnyH_take (i := 25) (v := ?vu25) rfl (by kernel_rfl) (by kernel_rfl) (by kernel_rfl) (fun _ _ _ h => h) (Or.inl ⟨by rfl, ?yu25⟩) (by assumption) ?ru25
      case yu25 => intro w hSw; (try dsimp only at hSw); go_simp <;> (try with_reducible rfl)
      (try simp only [List.getElem_toArray, List.getElem_cons_succ, List.getElem_cons_zero, Act.put, List.setIfInBounds_toArray, List.set_cons_zero, List.set_cons_succ])
      refine wpAnyH_take (i := 26) (v := ?vu26) rfl (by kernel_rfl) (by kernel_rfl) (by kernel_rfl) (fun _ _ _ h => h) (Or.inl ⟨by rfl, ?yu26⟩) (by assumption) ?ru26
      case yu26 => intro w hSw; (try dsimp only at hSw); go_simp <;> (try with_reducible rfl)
      (try simp only [List.getElem_toArray, List.getElem_cons_succ, List.getElem_cons_zero, Act.put, List.setIfInBounds_toArray, List.set_cons_zero, List.set_cons_succ])
      refine wpAnyH_take (i := 27) (v := ?vu27) rfl (by kernel_rfl) (by kernel_rfl) (by kernel_rfl) (fun _ _ _ h => h) (Or.inl ⟨by rfl, ?yu27⟩) (by assumption) ?ru27
      case yu27 => intro w hSw; (try dsimp only at hSw); go_simp <;> (try with_reducible rfl)
      (try simp only [List.getElem_toArray, List.getElem_cons_succ, List.getElem_cons_zero, Act.put, List.setIfInBounds_toArray, List.set_cons_zero, List.set_cons_succ])
      refine wpAnyH_ready (rs := [28]) (by kernel_rfl) (by simp) ?_
      refine AllReadyH.cons rfl (fun K hK => ?_) AllReadyH.nil
      rw [if_pos (by rfl)]
      refine wp_put 53 (.tmp 45) (.tmp 44) rfl ga (i * 3) rfl (.agg #[.string (sl.extract 0 c ++ so.extract c 128), .string ⟨#[]⟩, .bool false]) rfl hd.p [.string (sl.extract 0 c ++ so.extract c 128), .string ⟨#[]⟩, .bool false] rfl (by exact Try.szRP) (by rw [HLEN.out]; simp; omega) (one_cell3 rfl rfl rfl) ?_
      intro w7 hu7 hB7
      rw [show i * 3 = i * 3 + 0 from rfl, hsp.out] at hB7
      have ho7 : Only [ga] wd w7 := Only.of_upd hu7 (by simp)
      have h7 : RRep w7 gr ga cap X (M.set i (Pg.settle ⟨o, some l⟩ c)) := ⟨by rw [DM.set_len]; exact hd.d.only ho7 (by simpa using hd.n1), hB7, hd.n1⟩
      have ho8 := (Only.of_below (L := [ga]) hdd).trans ho7
      refine hK.out _ _ (by have := h7.d.cell (k := 0) rfl; rw [DM.set_len, HN.out] at this; exact this) (fun hHeld => ?_)
      clear hK K hHeld
      refine wpAnyH_done (by kernel_rfl) ?_ _
      go_wp2
      go_end0
      exact ⟨rfl, h7, ho8⟩
end Go.Proofs.Ythgmlopkcgkjlaa

/-
  Contract of the walk over the reference's Flush. Conditions: the record holds the disk.
-/
namespace Go.Proofs.Ythgmlopkcgkjlaa
open Go.RowKit

def upTo (N : DM) (j : Nat) : DM := { N with ps := (N.ps.take j).map (fun p => p.settle 128) ++ N.ps.drop j }
theorem upTo_zero (N : DM) : upTo N 0 = N := by unfold upTo; simp
theorem upTo_all (N : DM) : upTo N N.ps.length = N.settled := by
  unfold upTo DM.settled
  rw [List.take_of_length_le (Nat.le_refl _), List.drop_eq_nil_of_le (Nat.le_refl _), List.append_nil]
theorem upTo_len (N : DM) (j : Nat) : (upTo N j).ps.length = N.ps.length := by
  unfold upTo
  simp only [List.length_append, List.length_map, List.length_take, List.length_drop]
  omega
theorem upTo_at (N : DM) {j : Nat} (hj : j < N.ps.length) : (upTo N j).page j = N.page j := by
  have hl : ((N.ps.take j).map (fun p => p.settle 128)).length = j := by rw [List.length_map, List.length_take]; omega
  unfold DM.page upTo
  rw [List.getD_eq_getElem?_getD, List.getElem?_append_right (by omega), hl, Nat.sub_self, List.getElem?_drop, Nat.add_zero, List.getD_eq_getElem?_getD]
theorem upTo_next (N : DM) {j : Nat} (hj : j < N.ps.length) : (upTo N j).set j ((N.page j).settle 128) = upTo N (j + 1) := by
  have hl : ((N.ps.take j).map (fun p => p.settle 128)).length = j := by rw [List.length_map, List.length_take]; omega
  have hd : N.ps.drop j = N.page j :: N.ps.drop (j + 1) := by
    rw [List.drop_eq_getElem_cons hj]
    congr 1
    have := DM.page_at hj
    rw [List.getElem?_eq_getElem hj] at this
    injection this
  have ht : N.ps.take (j + 1) = N.ps.take j ++ [N.page j] := by rw [List.take_add_one, DM.page_at hj]; rfl
  unfold DM.set upTo
  congr 1
  show ((N.ps.take j).map _ ++ N.ps.drop j).set j _ = _
  rw [List.set_append_right _ _ (by omega), hl, Nat.sub_self, hd, List.set_cons_zero, ht, List.map_append, List.append_assoc]
  rfl
theorem upTo_ok {N : DM} (h : N.ok) (j : Nat) : (upTo N j).ok := by
  refine ⟨fun p hp => ?_, h.2.1, h.2.2.1, by rw [upTo_len]; exact h.2.2.2⟩
  rcases List.mem_append.1 hp with hp | hp
  · obtain ⟨q, hq, rfl⟩ := List.mem_map.1 hp
    exact Pg.settle_ok (h.1 q (List.mem_of_mem_take hq)) 128
  · exact h.1 p (List.mem_of_mem_drop hp)
theorem clampN_128 : clampN 128 = 128 := by decide
def RFlRel (N : DM) (gr ga cap : Nat) (X : List Value) (w : World) (i : Value) (wr : World) : Prop :=
  ∃ j : Nat, j ≤ N.ps.length ∧ i = .int .i64 j ∧ RRep wr gr ga cap X (upTo N j) ∧ Only [gr, ga] w wr
set_option maxRecDepth 100000 in
set_option maxHeartbeats 1600000 in
theorem rflush_any (gr ga cap : Nat) (X : List Value) (M : DM) (w : World) (hM : M.ok) (h : RRep w gr ga cap X M) :
    Calls Try.prog 59 #[.pointer (some ⟨gr, 0, none⟩)] w fun x w' => x = .returned (.int .i64 M.flushE) ∧ RRep w' gr ga cap X M.flush ∧ Only [gr, ga] w w' := by
  have c1 := h.d.cell (k := 1) rfl
  obtain ⟨u, hu⟩ : ∃ u, M.up = u := ⟨_, rfl⟩
  rw [hu] at c1
  cases u with
  | false =>
    obtain ⟨e1, e2⟩ := flush_down hu
    rw [e1, e2]
    have HH := Lib.hid h
    clear e1 e2 hu h hM
    go_enter Try.func59, Try.ntmps59
    go_wp2
    go_ret
    exact ⟨rfl, HH.out, Only.refl _ _⟩
  | true =>
    have HUP := Lib.hid hu
    by_cases hst : M.step.up = true
    · obtain ⟨e1, e2⟩ := flush_good hu hst
      rw [e1, e2]
      have HST := Lib.hid hst
      have hMs := DM.step_ok hM
      obtain ⟨N, hN⟩ : ∃ N, M.step = N := ⟨_, rfl⟩
      have HN := Lib.hid hN
      rw [hN] at hMs ⊢
      have hn4 : N.ps.length ≤ 4096 := hMs.2.2.2
      have HMS := Lib.hid hMs
      have HM := Lib.hid hM
      clear e1 e2 hu hst hN hMs hM
      go_enter Try.func59, Try.ntmps59
      go_wp2_with fail
      (with_reducible refine (rstep_any gr ga cap X M _ HUP.out HM.out h).mono ?_)
      rintro e w1 ⟨rfl, h1, ho1⟩
      rw [HST.out, if_pos rfl]
      rw [HN.out] at h1
      have ho1' : Only [gr, ga] w w1 := ho1.mono (by simp)
      clear c1 h HUP HST HM HN ho1
      obtain ⟨n, hn⟩ : ∃ n, Hid (N.ps.length = n) := ⟨_, rfl⟩
      rw [hn.out] at hn4
      go_wp2
      go_loopw [4] (RFlRel N gr ga cap X w) (fun i _ => n - natOf i)
      case atStart => exact ⟨0, Nat.zero_le _, rfl, by rw [upTo_zero]; exact h1, ho1'⟩
      case round =>
        clear h1 ho1'
        obtain ⟨j, hj, rfl, hR, ho⟩ := hrel
        have c0 := hR.d.cell (k := 0) rfl
        rw [upTo_len, hn.out] at c0
        rw [hn.out] at hj
        by_cases hjn : j < n
        · have hjl : Hid (j < N.ps.length) := by
            have : j < N.ps.length := by rw [hn.out]; exact hjn
            exact this
          have hji : (j : Int) < (n : Int) := by omega
          have HO := Lib.hid (upTo_ok HMS.out j)
          go_wp2_with fail
          (with_reducible refine (rsettle_any gr ga cap X (upTo N j) j 128 128 _ (by rw [upTo_len]; exact hjl.out) clampN_128 HO.out hR).mono ?_)
          rintro e w2 ⟨rfl, h2, ho2⟩
          rw [upTo_at N hjl.out, upTo_next N hjl.out] at h2
          have ho3 := ho.trans (ho2.mono (by simp))
          clear c0 hR ho ho2 HO
          go_wp2
          go_roundw
          case rel => exact ⟨j + 1, hjl.out, by go_num, h2, ho3⟩
          case measure => simp [natOf]; omega
        · obtain rfl : j = n := by omega
          have hR' := hR
          rw [← hn.out, upTo_all] at hR'
          clear hR hjn hj
          go_wp2
          go_ret
          exact ⟨rfl, hR', ho⟩
    · have hsf : M.step.up = false := by simpa using hst
      obtain ⟨e1, e2⟩ := flush_trip hu hsf
      rw [e1, e2]
      have HSF := Lib.hid hsf
      clear e1 e2 hu hst hsf
      go_enter Try.func59, Try.ntmps59
      go_wp2_with fail
      (with_reducible refine (rstep_any gr ga cap X M _ HUP.out hM h).mono ?_)
      rintro e w1 ⟨rfl, h1, ho1⟩
      rw [HSF.out]
      have ho1' : Only [gr, ga] w w1 := ho1.mono (by simp)
      clear c1 h HUP HSF hM ho1
      go_wp2
      go_ret
      exact ⟨rfl, h1, ho1'⟩
end Go.Proofs.Ythgmlopkcgkjlaa

/-
  Contract of the walk over the reference's Mount. Conditions: the record holds the disk, the picks lie elsewhere.
-/
namespace Go.Proofs.Ythgmlopkcgkjlaa
open Go.RowKit

def mtTo (M : DM) (picks : List Int) (j : Nat) : DM := { M with ps := DM.mountTo M.ps M.pending picks j }
theorem mtTo_len (M : DM) (picks : List Int) : ∀ j, (mtTo M picks j).ps.length = M.ps.length
  | 0 => rfl
  | j + 1 => by
    have := mtTo_len M picks j
    unfold mtTo at this ⊢
    simp only [DM.mountTo, List.length_set]
    exact this
theorem mtTo_next (M : DM) (picks : List Int) (j i : Nat) (h : M.pending[j]? = some i) : (mtTo M picks j).set i (((mtTo M picks j).page i).settle (DM.pick picks j)) = mtTo M picks (j + 1) := by
  have e : M.pending.getD j 0 = i := by rw [List.getD_eq_getElem?_getD, h]; rfl
  unfold mtTo DM.set DM.page
  simp only [DM.mountTo, e]
theorem mtTo_ok {M : DM} (hM : M.ok) (picks : List Int) : ∀ j, j ≤ M.pending.length → (mtTo M picks j).ok
  | 0, _ => hM
  | j + 1, hj => by
    have ih := mtTo_ok hM picks j (by omega)
    obtain ⟨i, hi⟩ : ∃ i, M.pending[j]? = some i := ⟨_, List.getElem?_eq_getElem (by omega)⟩
    rw [← mtTo_next M picks j i hi]
    refine DM.set_ok ih i (Pg.settle_ok (DM.page_ok ih ?_) _)
    rw [mtTo_len]
    exact pending_lt (List.mem_of_getElem? hi)
theorem pick_at (picks : List Int) (k : Nat) (x : Int) (h : picks[k]? = some x) : clampN x = DM.pick picks k := by unfold DM.pick clampN; rw [h]
theorem pick_past (picks : List Int) (k : Nat) (h : picks.length ≤ k) : clampN 128 = DM.pick picks k := by
  unfold DM.pick
  rw [List.getElem?_eq_none h]
  decide
theorem own_only {L : List Nat} {w w' : World} {base size n : Nat} {E : TypeId} {v : Value} {xs : List Value} (h : w.ownsRow base E size v n xs) (ho : Only L w w') (hL : ∀ k ∈ L, k < base) : w'.ownsRow base E size v n xs := by
  refine ⟨h.1, ?_⟩
  rcases h.2 with hn | ⟨g, cap, cur, rfl, hb, hgg, rest⟩
  · exact .inl hn
  · refine .inr ⟨g, cap, cur, rfl, hb, ?_, rest⟩
    rw [ho.block g (Array.getElem?_eq_some_iff.1 hgg).1 (fun hm => by have := hL g hm; omega)]
    exact hgg
theorem own_cell {w : World} {base n c : Nat} {E : TypeId} {A : Option Addr} {xs : List Value} (h : w.ownsRow base E 1 (.slice A n c) n xs) {j : Nat} {u : Value} (hu : xs[j]? = some u) : ∃ g, A = some ⟨g, 0, none⟩ ∧ w.cell? ⟨g, j, none⟩ = some u := by
  have hl := h.1
  have hj : j < xs.length := (List.getElem?_eq_some_iff.1 hu).1
  rcases h.2 with ⟨hv, h0⟩ | ⟨g, cap, cur, hv, _⟩
  · omega
  · injection hv with e1 e2 e3
    subst e1
    have := h.cells rfl j u hu
    refine ⟨g, rfl, ?_⟩
    rw [show (⟨g, 0, none⟩ : Addr).add j = ⟨g, j, none⟩ by simp [Addr.add]; omega] at this
    exact this
/-- Where the picks are held. -/
def PkAt (w : World) (A : Option Addr) (picks : List Int) : Prop := ∀ k x, picks[k]? = some x → ∃ p : Addr, A = some p ∧ w.cell? (p.add k) = some (.int .i64 x)
def RMtRel (M : DM) (picks : List Int) (gr ga cap : Nat) (X : List Value) (w : World) (i : Value) (wr : World) : Prop :=
  ∃ j : Nat, j ≤ M.pending.length ∧ i = .int .i64 j ∧ RRep wr gr ga cap X (mtTo M picks j) ∧ Only [gr, ga] w wr
set_option maxRecDepth 100000 in
set_option maxHeartbeats 1600000 in
theorem rmount_any (gr ga cap : Nat) (X : List Value) (M : DM) (A : Option Addr) (pc : Nat) (picks : List Int) (w : World) (hM : M.ok) (h : RRep w gr ga cap X M) (hpl : picks.length ≤ 1000000) (hpk : ∀ w', Only [gr, ga] w w' → PkAt w' A picks) :
    Calls Try.prog 61 #[.pointer (some ⟨gr, 0, none⟩), .slice A picks.length pc] w fun x w' => x = .returned (.tuple #[]) ∧ RRep w' gr ga cap X (M.mount picks) ∧ Only [gr, ga] w w' := by
  have hn4 : M.ps.length ≤ 4096 := hM.2.2.2
  have hple := pending_le M
  have hgl := h.d.lt
  have hal := h.p.lt
  have HPK := Lib.hid hpk
  have HM := Lib.hid hM
  obtain ⟨q, hq⟩ : ∃ q, Hid (picks.length = q) := ⟨_, rfl⟩
  rw [hq.out] at hpl ⊢
  clear hpk hM
  go_enter Try.func61, Try.ntmps61
  go_wp2_with fail
  (with_reducible refine (rpending_any gr ga cap X M _ hn4 h).mono ?_)
  rintro e w1 ⟨v, rfl, hown, hb1⟩
  rw [pendZ_length] at hown
  obtain ⟨N, hN⟩ : ∃ N, Hid (M.pending.length = N) := ⟨_, rfl⟩
  rw [hN.out] at hown hple
  have h1 := h.next hb1
  have ho1 : Only [gr, ga] w w1 := Only.of_below hb1
  obtain ⟨B, c, rfl⟩ := own_shape hown
  obtain ⟨base, hbase⟩ : ∃ base, Hid (w.heap.size = base) := ⟨_, rfl⟩
  rw [hbase.out] at hown hgl hal
  have hoz : Hid (∀ w', Only [gr, ga] w1 w' → w'.ownsRow base 3 1 (.slice B N c) N ((pendZ M).map Z8)) := by
    have : ∀ w', Only [gr, ga] w1 w' → w'.ownsRow base 3 1 (.slice B N c) N ((pendZ M).map Z8) := fun w' ho => own_only hown ho (by simp; omega)
    exact this
  clear h hown hb1
  go_wp2
  go_loopw [5] (fun i wr => RMtRel M picks gr ga cap X w i wr ∧ Only [gr, ga] w1 wr) (fun i _ => N - natOf i)
  case atStart => exact ⟨⟨0, Nat.zero_le _, rfl, h1, ho1⟩, Only.refl _ _⟩
  case round =>
    clear h1 ho1
    obtain ⟨⟨j, hj, rfl, hR, ho⟩, ho1⟩ := hrel
    rw [hN.out] at hj
    by_cases hjn : j < N
    · obtain ⟨i, hi⟩ : ∃ i, M.pending[j]? = some i := ⟨_, List.getElem?_eq_getElem (by rw [hN.out]; exact hjn)⟩
      have hil := pending_lt (List.mem_of_getElem? hi)
      obtain ⟨g, rfl, hcell⟩ := own_cell (hoz.out wr ho1) (j := j) (u := .int .i64 (i : Int)) (by unfold pendZ; rw [List.map_map, List.getElem?_map, hi]; rfl)
      have hji : (j : Int) < (N : Int) := by omega
      have hnx := Lib.hid (mtTo_next M picks j i hi)
      have HIL : Hid (i < (mtTo M picks j).ps.length) := by
        have : i < (mtTo M picks j).ps.length := by rw [mtTo_len]; exact hil
        exact this
      have HO := Lib.hid (mtTo_ok HM.out picks j (by rw [hN.out]; exact hj))
      have HJ := Lib.hid hj
      clear hi hil hj
      by_cases hjq : j < q
      · obtain ⟨x, hx⟩ : ∃ x, picks[j]? = some x := ⟨_, List.getElem?_eq_getElem (by rw [hq.out]; exact hjq)⟩
        obtain ⟨pa, rfl, hpc⟩ := HPK.out wr ho j x hx
        have hjqi : (j : Int) < (q : Int) := by omega
        have HX := Lib.hid (pick_at picks j x hx)
        clear hx
        go_wp2_with fail
        (with_reducible refine (rsettle_any gr ga cap X (mtTo M picks j) i _ x _ HIL.out HX.out HO.out hR).mono ?_)
        rintro e w2 ⟨rfl, h2, ho2⟩
        rw [hnx.out] at h2
        have ho3 := ho.trans (ho2.mono (by simp))
        have ho4 := ho1.trans (ho2.mono (by simp))
        clear hR ho ho1 ho2 HO hcell hpc
        go_wp2
        go_roundw
        case rel => exact ⟨⟨j + 1, by rw [hN.out]; omega, by go_num, h2, ho3⟩, ho4⟩
        case measure => simp [natOf]; omega
      · have hjqi : (q : Int) ≤ (j : Int) := by omega
        have HX := Lib.hid (pick_past picks j (by rw [hq.out]; omega))
        go_wp2_with fail
        (with_reducible refine (rsettle_any gr ga cap X (mtTo M picks j) i _ 128 _ HIL.out HX.out HO.out hR).mono ?_)
        rintro e w2 ⟨rfl, h2, ho2⟩
        rw [hnx.out] at h2
        have ho3 := ho.trans (ho2.mono (by simp))
        have ho4 := ho1.trans (ho2.mono (by simp))
        clear hR ho ho1 ho2 HO hcell
        go_wp2
        go_roundw
        case rel => exact ⟨⟨j + 1, by rw [hN.out]; omega, by go_num, h2, ho3⟩, ho4⟩
        case measure => simp [natOf]; omega
    · obtain rfl : j = N := by omega
      have hB := hR.d
      have hP := hR.p
      have hne := hR.n1
      rw [mtTo_len] at hB
      have hfin : Hid ((mtTo M picks j).ps = (M.mount picks).ps) := by
        have : (mtTo M picks j).ps = (M.mount picks).ps := by rw [← hN.out]; rfl
        exact this
      rw [hfin.out] at hP
      have hml : Hid (M.ps.length = (M.mount picks).ps.length) := by
        have : M.ps.length = (M.mount picks).ps.length := by rw [← hfin.out, mtTo_len]
        exact this
      rw [hml.out] at hB
      obtain ⟨s, hs⟩ : ∃ s, Hid ((M.mount picks).ps.length = s) := ⟨_, rfl⟩
      rw [hs.out] at hB
      obtain ⟨u, hu⟩ : ∃ u, (mtTo M picks j).up = u := ⟨_, rfl⟩
      obtain ⟨t, ht⟩ : ∃ t, (mtTo M picks j).trip = t := ⟨_, rfl⟩
      rw [hu, ht] at hB
      clear hR hjn hj hoz hu ht ho1
      go_wp2_with (with_reducible refine wpList_put (o := ⟨none, .store 4 (.tmp 32) (.const (.bool false)), _, _, _, _⟩) (by with_unfolding_all rfl) 4 (.tmp 32) (.const (.bool false)) (by with_unfolding_all rfl) gr 1 (by with_unfolding_all rfl) (.bool false) (by with_unfolding_all rfl) hB [(.bool false)] (by with_unfolding_all rfl) (by with_unfolding_all exact Try.sz4) (by with_unfolding_all simp) (by with_unfolding_all exact one_cell1 rfl) ?_)
      intro w2 hu2 hB2
      have hB2' : Blk w2 gr 56 [.slice (some ⟨ga, 0, none⟩) s cap, .bool false, .int .i64 t] := hB2
      clear hB hB2
      go_wp2_with (with_reducible refine wpList_put (o := ⟨none, .store 3 (.tmp 35) (.const (.int .i64 (-1))), _, _, _, _⟩) (by with_unfolding_all rfl) 3 (.tmp 35) (.const (.int .i64 (-1))) (by with_unfolding_all rfl) gr 2 (by with_unfolding_all rfl) (.int .i64 (-1)) (by with_unfolding_all rfl) hB2' [(.int .i64 (-1))] (by with_unfolding_all rfl) (by with_unfolding_all exact Try.sz3) (by with_unfolding_all simp) (by with_unfolding_all exact one_cell1 rfl) ?_)
      intro w3 hu3 hB3
      have hou := hu2.trans hu3
      have h3 : RRep w3 gr ga cap X (M.mount picks) := ⟨by rw [hs.out]; exact hB3, hP.upd hou hne.symm, hne⟩
      have ho3 := ho.trans (Only.of_upd (L := [gr, ga]) hou (by simp))
      clear hB2' hB3 hP hu2 hu3 hou ho
      go_wp2
      go_end0
      exact ⟨rfl, h3, ho3⟩
end Go.Proofs.Ythgmlopkcgkjlaa
