/-
  Scripts of operations in plain words, and that what they leave is a disk. Conditions: none.
-/
import Derived.Test.YtbmoedgokimhmaaDn5
namespace Go.Proofs.Ytbmoedgokimhmaa
open Go.RowKit

theorem DM.page_mem {M : DM} {i : Nat} (h : i < M.ps.length) : M.page i ∈ M.ps := List.mem_of_getElem? (DM.page_at h)
theorem DM.write_ok {M : DM} (hM : M.ok) (i a : Int) (s : List UInt8) : (M.write i a s).ok := by
  unfold DM.write
  split
  · split
    · rename_i hf
      have hs := DM.step_ok hM
      split
      · obtain ⟨h1, h2⟩ := Bool.and_eq_true_iff.1 hf
        obtain ⟨k, rfl, hk⟩ := DM.okP_nat h1
        have hp := DM.page_ok hM hk
        refine DM.set_ok hs _ ⟨hp.1, fun l hl => ?_⟩
        injection hl with hl
        have h3 := of_decide_eq_true h2
        rw [← hl, DM.put_length]
        · exact Pg.now_length hp
        · have h4 := Pg.now_length hp
          rw [Int.toNat_natCast, h4]; omega
      · exact hs
    · exact hM
  · exact hM
theorem DM.flush_ok {M : DM} (hM : M.ok) : M.flush.ok := by
  unfold DM.flush
  have hs := DM.step_ok hM
  split
  · split
    · refine ⟨fun p hp => ?_, hs.2.1, hs.2.2.1, ?_⟩
      · obtain ⟨q, hq, rfl⟩ := List.mem_map.1 hp
        exact Pg.settle_ok (hM.1 q hq) 128
      · show (M.ps.map fun p => p.settle 128).length ≤ 4096
        rw [List.length_map]; exact hM.2.2.2
    · exact hs
  · exact hM
theorem DM.tripTo_ok {M : DM} (hM : M.ok) {n : Int} (hn : inI n) : (M.tripTo n).ok := by
  have h1 := hn.lo
  have h2 := hn.hi
  refine ⟨hM.1, ?_, ?_, hM.2.2.2⟩
  · show -1 ≤ max n (-1); omega
  · show max n (-1) ≤ 9223372036854775807; omega
theorem DM.mount_ok {M : DM} (hM : M.ok) (picks : List Int) : (M.mount picks).ok := by
  have h := mtTo_ok hM picks M.pending.length (Nat.le_refl _)
  exact ⟨h.1, by show (-1 : Int) ≤ -1; omega, by show (-1 : Int) ≤ 9223372036854775807; omega, h.2.2.2⟩
theorem DM.rot_ok {M : DM} (hM : M.ok) (i b : Int) : (M.rot i b).ok := by
  unfold DM.rot
  split
  · rename_i hf
    obtain ⟨h1, _⟩ := Bool.and_eq_true_iff.1 hf
    obtain ⟨k, rfl, hk⟩ := DM.okP_nat h1
    have hp := DM.page_ok hM hk
    refine DM.set_ok hM _ ⟨?_, hp.2⟩
    show (DM.flip _ _).length = 128
    unfold DM.flip
    rw [List.length_set]; exact hp.1
  · exact hM
theorem DM.doM_ok {M : DM} (hM : M.ok) (x : OpM) (hi : inI x.i) : (M.doM x).ok := by
  unfold DM.doM
  split
  · exact DM.write_ok hM _ _ _
  · split
    · exact DM.flush_ok hM
    · split
      · exact DM.tripTo_ok hM hi
      · split
        · exact DM.mount_ok hM _
        · split
          · exact DM.rot_ok hM _ _
          · exact hM
theorem DM.step_len (M : DM) : M.step.ps.length = M.ps.length := by rw [DM.step_ps]
theorem DM.write_len (M : DM) (i a : Int) (s : List UInt8) : (M.write i a s).ps.length = M.ps.length := by
  unfold DM.write
  split
  · split
    · split
      · rw [DM.set_len, DM.step_len]
      · exact DM.step_len M
    · rfl
  · rfl
theorem DM.flush_len (M : DM) : M.flush.ps.length = M.ps.length := by
  unfold DM.flush
  split
  · split
    · exact List.length_map _
    · exact DM.step_len M
  · rfl
theorem DM.mount_len (M : DM) (picks : List Int) : (M.mount picks).ps.length = M.ps.length := mtTo_len M picks M.pending.length
theorem DM.rot_len (M : DM) (i b : Int) : (M.rot i b).ps.length = M.ps.length := by
  unfold DM.rot
  split
  · exact DM.set_len M _ _
  · rfl
theorem DM.doM_len (M : DM) (x : OpM) : (M.doM x).ps.length = M.ps.length := by
  unfold DM.doM
  split
  · exact DM.write_len M _ _ _
  · split
    · exact DM.flush_len M
    · split
      · rfl
      · split
        · exact DM.mount_len M _
        · split
          · exact DM.rot_len M _ _
          · rfl
/-- An operation whose integers are such, whose text and picks are not long. -/
structure OpM.fine (x : OpM) : Prop where
  i : inI x.i
  a : inI x.at_
  t : x.text.size ≤ 300
  p : x.picks.length ≤ 70
def DM.run (M : DM) (l : List OpM) : DM := l.foldl DM.doM M
theorem DM.run_next (M : DM) (l : List OpM) (j : Nat) (x : OpM) (h : l[j]? = some x) : M.run (l.take (j + 1)) = (M.run (l.take j)).doM x := by
  unfold DM.run
  rw [List.take_add_one, h, List.foldl_append]; rfl
theorem DM.run_all (M : DM) (l : List OpM) : M.run (l.take l.length) = M.run l := by rw [List.take_length]
theorem DM.run_ok : ∀ (l : List OpM) {M : DM}, M.ok → (∀ x ∈ l, x.fine) → (M.run l).ok
  | [], _, hM, _ => hM
  | x :: l, _, hM, h => DM.run_ok l (DM.doM_ok hM x (h x List.mem_cons_self).i) (fun y hy => h y (List.mem_cons_of_mem _ hy))
theorem DM.run_len : ∀ (l : List OpM) (M : DM), (M.run l).ps.length = M.ps.length
  | [], _ => rfl
  | x :: l, M => (DM.run_len l (M.doM x)).trans (DM.doM_len M x)
theorem DM.make_len (n : Nat) : (DM.make n).ps.length = n := by unfold DM.make; simp
/-- An operation's five cells. -/
def opRow (x : OpM) (pa : Option Addr) (pc : Nat) : List Value := [.int .i64 x.kind, .int .i64 x.i, .int .i64 x.at_, .string x.text, .slice pa x.picks.length pc]
/-- How a script lies in memory: five cells an operation, wherever the blocks below n0 are those of w. -/
def ScriptAt (n0 : Nat) (w : World) (A : Option Addr) (xs : List OpM) : Prop :=
  ∀ (j : Nat) (x : OpM), xs[j]? = some x → ∃ (p : Addr) (pa : Option Addr) (pc : Nat), A = some p ∧ ∀ w', Below n0 w w' →
    (∀ (q : Nat) (u : Value), (opRow x pa pc)[q]? = some u → w'.cell? ((p.add (j * 5)).add q) = some u) ∧ PkAt w' pa x.picks
theorem ScriptAt.next {n0 : Nat} {w w1 : World} {A : Option Addr} {xs : List OpM} (h : ScriptAt n0 w A xs) (hb : Below n0 w w1) : ScriptAt n0 w1 A xs := fun j x hx => by
  obtain ⟨p, pa, pc, e, hc⟩ := h j x hx
  exact ⟨p, pa, pc, e, fun w' hw => hc w' (hb.trans hw)⟩
theorem ScriptAt.up {n0 : Nat} {w : World} {A : Option Addr} {xs : List OpM} (h : ScriptAt n0 w A xs) (hs : n0 ≤ w.heap.size) : ScriptAt w.heap.size w A xs := fun j x hx => by
  obtain ⟨p, pa, pc, e, hc⟩ := h j x hx
  exact ⟨p, pa, pc, e, fun w' hw => hc w' (hw.mono hs)⟩
theorem below_only {n : Nat} {L : List Nat} {a b c : World} (h : Below n a b) (ho : Only L b c) (hL : ∀ k ∈ L, n ≤ k) (hn : n ≤ b.heap.size) : Below n a c :=
  ⟨ho.os.trans h.os, ho.tape.trans h.tape, ho.output.trans h.output, Nat.le_trans h.size ho.size, fun k hk => (ho.block k (by omega) (fun hm => by have := hL k hm; omega)).trans (h.block k hk)⟩
end Go.Proofs.Ytbmoedgokimhmaa
