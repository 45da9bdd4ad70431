/-
  How the reference holds a disk: its record and its list of pages, of which each has three cells. Conditions: none.
-/
import Derived.Test.YtbmoedgokimhmaaDf6
namespace Go.Proofs.Ytbmoedgokimhmaa
open Go.RowKit

def pg3 (p : Pg) : List Value := [S8 p.old, S8 (p.new.getD []), .bool p.pend]
def pgRow (ps : List Pg) : List Value := ps.flatMap pg3
theorem pgRow_length : ∀ (ps : List Pg), (pgRow ps).length = ps.length * 3
  | [] => rfl
  | p :: ps => by
    have e : pgRow (p :: ps) = pg3 p ++ pgRow ps := by unfold pgRow; rw [List.flatMap_cons]
    rw [e, List.length_append, pgRow_length ps, List.length_cons]
    show 3 + _ = _
    omega
theorem pgRow_split : ∀ (ps : List Pg) (i : Nat) (p : Pg), ps[i]? = some p → ∃ A B, pgRow ps = A ++ pg3 p ++ B ∧ A.length = i * 3 ∧ ∀ q : Pg, pgRow (ps.set i q) = A ++ pg3 q ++ B
  | [], _, _, h => by cases h
  | x :: ps, 0, p, h => by
    cases h
    exact ⟨[], pgRow ps, by simp [pgRow], rfl, fun q => by simp [pgRow]⟩
  | x :: ps, i + 1, p, h => by
    obtain ⟨A, B, h1, h2, h3⟩ := pgRow_split ps i p (by simpa using h)
    refine ⟨pg3 x ++ A, B, ?_, ?_, fun q => ?_⟩
    · show (x :: ps).flatMap _ = _
      rw [List.flatMap_cons]
      show pg3 x ++ pgRow ps = _
      rw [h1]; simp
    · rw [List.length_append, h2]
      show 3 + _ = _
      omega
    · show ((x :: ps).set (i + 1) q).flatMap _ = _
      rw [List.set_cons_succ, List.flatMap_cons]
      show pg3 x ++ pgRow (ps.set i q) = _
      rw [h3]; simp
theorem pgRow_get {ps : List Pg} {i : Nat} {p : Pg} (h : ps[i]? = some p) (X : List Value) {j : Nat} {u : Value} (hu : (pg3 p)[j]? = some u) : (pgRow ps ++ X)[i * 3 + j]? = some u := by
  obtain ⟨A, B, h1, h2, _⟩ := pgRow_split ps i p h
  have hj : j < (pg3 p).length := (List.getElem?_eq_some_iff.1 hu).1
  rw [h1, List.append_assoc, List.append_assoc, List.getElem?_append_right (by omega), h2, show i * 3 + j - i * 3 = j by omega, List.getElem?_append_left hj]
  exact hu
theorem splice_mid (A P C cs : List Value) (j : Nat) (hj : j + cs.length ≤ P.length) : splice (A ++ (P ++ C)) (A.length + j) cs = A ++ (splice P j cs ++ C) := by
  unfold splice
  have h1 : (A ++ (P ++ C)).take (A.length + j) = A ++ P.take j := by rw [List.take_length_add_append, List.take_append_of_le_length (by omega)]
  have h2 : (A ++ (P ++ C)).drop (A.length + j + cs.length) = P.drop (j + cs.length) ++ C := by rw [Nat.add_assoc, List.drop_length_add_append, List.drop_append_of_le_length (by omega)]
  rw [h1, h2]
  simp
theorem pgRow_splice {ps : List Pg} {i : Nat} {p : Pg} (h : ps[i]? = some p) (X : List Value) (j : Nat) (cs : List Value) (q : Pg) (hq : splice (pg3 p) j cs = pg3 q) (hj : j + cs.length ≤ 3) : splice (pgRow ps ++ X) (i * 3 + j) cs = pgRow (ps.set i q) ++ X := by
  obtain ⟨A, B, h1, h2, h3⟩ := pgRow_split ps i p h
  rw [h1, h3 q, ← hq, ← h2]
  have e := splice_mid A (pg3 p) (B ++ X) cs j hj
  simp only [List.append_assoc]
  exact e
/-- The record and the list; behind the pages lies X. -/
structure RRep (w : World) (gr ga cap : Nat) (X : List Value) (M : DM) : Prop where
  d : Blk w gr 56 [.slice (some ⟨ga, 0, none⟩) M.ps.length cap, .bool (!M.up), .int .i64 M.trip]
  p : Blk w ga 53 (pgRow M.ps ++ X)
  n1 : gr ≠ ga
theorem RRep.q0 {w : World} {gr ga cap : Nat} {X : List Value} {M : DM} (h : RRep w gr ga cap X M) {i : Nat} (hi : i < M.ps.length) : w.cell? ⟨ga, i * 3, none⟩ = some (S8 (M.page i).old) := h.p.cell (pgRow_get (DM.page_at hi) X (j := 0) rfl)
theorem RRep.q1 {w : World} {gr ga cap : Nat} {X : List Value} {M : DM} (h : RRep w gr ga cap X M) {i : Nat} (hi : i < M.ps.length) : w.cell? ⟨ga, i * 3 + 1, none⟩ = some (S8 ((M.page i).new.getD [])) := h.p.cell (pgRow_get (DM.page_at hi) X (j := 1) rfl)
theorem RRep.q2 {w : World} {gr ga cap : Nat} {X : List Value} {M : DM} (h : RRep w gr ga cap X M) {i : Nat} (hi : i < M.ps.length) : w.cell? ⟨ga, i * 3 + 2, none⟩ = some (.bool (M.page i).pend) := h.p.cell (pgRow_get (DM.page_at hi) X (j := 2) rfl)
theorem RRep.only {L : List Nat} {w w' : World} {gr ga cap : Nat} {X : List Value} {M : DM} (h : RRep w gr ga cap X M) (ho : Only L w w') (h1 : gr ∉ L) (h2 : ga ∉ L) : RRep w' gr ga cap X M := ⟨h.d.only ho h1, h.p.only ho h2, h.n1⟩
theorem RRep.next {w w' : World} {gr ga cap : Nat} {X : List Value} {M : DM} (h : RRep w gr ga cap X M) (hb : Below w.heap.size w w') : RRep w' gr ga cap X M := h.only (Only.of_below (L := []) hb) (by simp) (by simp)
theorem RRep.turn {w w' : World} {gr ga cap : Nat} {X : List Value} {M M' : DM} (h : RRep w gr ga cap X M) (hu : Upd gr w w') (hps : M'.ps = M.ps) (hd : Blk w' gr 56 [.slice (some ⟨ga, 0, none⟩) M.ps.length cap, .bool (!M'.up), .int .i64 M'.trip]) : RRep w' gr ga cap X M' := by
  have ho := Only.of_upd (L := [gr]) hu (by simp)
  exact ⟨by rw [hps]; exact hd, by rw [hps]; exact h.p.only ho (by simpa using h.n1.symm), h.n1⟩
theorem Try.szRP : (Try.prog.info? 53).map (·.size) = some 3 := by kernel_rfl
end Go.Proofs.Ytbmoedgokimhmaa
