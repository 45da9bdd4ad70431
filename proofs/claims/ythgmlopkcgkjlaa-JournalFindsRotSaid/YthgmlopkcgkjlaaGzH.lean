/-
  Contracts of the functions that the statement calls, part 34 of 37 (merged texts: Jl2, Jl3, Jl4, Jl5). Conditions: as the head of each part says.
-/
import Derived.Test.YthgmlopkcgkjlaaGzG

/-
  Calls that succeed, calls that fail, and what a Mount leaves of a journal's disk. Conditions: the disk and the record lie there.
-/
namespace Go.Proofs.Ythgmlopkcgkjlaa
open Go.RowKit Go.Shelf

theorem append_ok (n0 : Nat) (gj half : Nat) (A : Option Addr) (c : Nat) (l : List ByteArray) (r : ByteArray) (gd gp gm k cp : Nat) (Y : List Value) (M : DM) (n : Nat) (w : World) (s : JSt M n half l) (ht : M.trip = -1) (h4 : 4 ≤ n) (h40 : n ≤ 40) (hk : k ≤ 800000) (hr : r.size ≤ 8000) (hfit : JM.useR l + 2 + r.size ≤ capOf n) (hn0 : n0 ≤ w.heap.size)
    (h : PJ n0 w gj gd gp gm cp Y half k A c M l false) :
    Calls Try.prog 50 #[.pointer (some ⟨gj, 0, none⟩), .string r] w fun e w' => e = .returned (.tuple #[.int .i64 (l.length : Int), .int .i64 0]) ∧ (∃ h' A' c' M', PJ n0 w' gj gd gp gm cp Y h' (k + 41) A' c' M' (l ++ [r]) false ∧ JSt M' n h' (l ++ [r]) ∧ M'.trip = -1 ∧ FreshA A w.heap.size A') ∧ Only [gj, gd, gp, gm] w w' := by
  have hcb : capOf n ≤ 2432 := by unfold capOf; omega
  obtain ⟨s', t', e1, e2, e3⟩ := jst_free (rs := l ++ [r]) s h4 ht
  have hl : longIn (l ++ [r]) = false := by rw [long_snoc s.big]; exact decide_eq_false (by omega)
  have hf : ¬ capOf n < JM.useR (l ++ [r]) := by rw [use_snoc]; omega
  rw [hl, if_neg hf] at e2 e3
  refine (append_any n0 gj half A c l r false gd gp gm k cp Y M n w s.h1 s.ok s.len h4 h40 hk (by omega) (by omega) hn0 h).mono ?_
  rintro e w' ⟨rfl, ⟨A', c', hp, hF⟩, ho⟩
  rw [e1, e3] at hp
  rw [e3] at s'
  refine ⟨?_, ⟨_, A', c', _, hp, s', t', hF⟩, ho⟩
  unfold jN
  rw [e2]; rfl
theorem append_full (n0 : Nat) (gj half : Nat) (A : Option Addr) (c : Nat) (l : List ByteArray) (r : ByteArray) (gd gp gm k cp : Nat) (Y : List Value) (M : DM) (n : Nat) (w : World) (s : JSt M n half l) (ht : M.trip = -1) (h4 : 4 ≤ n) (h40 : n ≤ 40) (hk : k ≤ 800000) (hr : r.size ≤ 8000) (hfit : capOf n < JM.useR l + 2 + r.size) (hn0 : n0 ≤ w.heap.size)
    (h : PJ n0 w gj gd gp gm cp Y half k A c M l false) :
    Calls Try.prog 50 #[.pointer (some ⟨gj, 0, none⟩), .string r] w fun e w' => e = .returned (.tuple #[.int .i64 0, .int .i64 12]) ∧ (∃ h' A' c' M', PJ n0 w' gj gd gp gm cp Y h' (k + 41) A' c' M' l false ∧ JSt M' n h' l ∧ M'.trip = -1 ∧ FreshA A w.heap.size A') ∧ Only [gj, gd, gp, gm] w w' := by
  have hcb : capOf n ≤ 2432 := by unfold capOf; omega
  have hu := s.use
  obtain ⟨s', t', e1, e2, e3⟩ := jst_free (rs := l ++ [r]) s h4 ht
  have hl : longIn (l ++ [r]) = false := by rw [long_snoc s.big]; exact decide_eq_false (by omega)
  have hf : capOf n < JM.useR (l ++ [r]) := by rw [use_snoc]; omega
  rw [hl, if_pos hf] at e2 e3
  refine (append_any n0 gj half A c l r false gd gp gm k cp Y M n w s.h1 s.ok s.len h4 h40 hk (by omega) (by omega) hn0 h).mono ?_
  rintro e w' ⟨rfl, ⟨A', c', hp, hF⟩, ho⟩
  rw [e1, e3] at hp
  rw [e3] at s'
  refine ⟨?_, ⟨_, A', c', _, hp, s', t', hF⟩, ho⟩
  unfold jN
  rw [e2]; rfl
theorem replace_ok (n0 : Nat) (gj half : Nat) (A B : Option Addr) (c cB : Nat) (l rs : List ByteArray) (gd gp gm k cp : Nat) (Y : List Value) (M : DM) (n : Nat) (w : World) (s : JSt M n half l) (ht : M.trip = -1) (h4 : 4 ≤ n) (h40 : n ≤ 40) (hk : k ≤ 800000) (hr : longIn rs = false) (hfit : JM.useR rs ≤ capOf n) (hn0 : n0 ≤ w.heap.size) (hB : RowAt w B (rs.map Value.string)) (hBo : OwnA B)
    (h : PJ n0 w gj gd gp gm cp Y half k A c M l false) :
    Calls Try.prog 53 #[.pointer (some ⟨gj, 0, none⟩), .slice B rs.length cB] w fun e w' => e = .returned (.int .i64 0) ∧ (∃ h' A' c' M', PJ n0 w' gj gd gp gm cp Y h' (k + 41) A' c' M' rs false ∧ JSt M' n h' rs ∧ M'.trip = -1 ∧ FreshA A w.heap.size A') ∧ Only [gj, gd, gp, gm] w w' := by
  have hcb : capOf n ≤ 2432 := by unfold capOf; omega
  obtain ⟨s', t', e1, e2, e3⟩ := jst_free (rs := rs) s h4 ht
  have hf : ¬ capOf n < JM.useR rs := by omega
  rw [hr, if_neg hf] at e2 e3
  refine (replace_any n0 gj half A B c cB l rs false gd gp gm k cp Y M n w s.h1 s.ok s.len h4 h40 hk (by omega) hn0 hB hBo h).mono ?_
  rintro e w' ⟨rfl, ⟨A', c', hp, hF⟩, ho⟩
  rw [e1, e3] at hp
  rw [e3] at s'
  exact ⟨by rw [e2]; rfl, ⟨_, A', c', _, hp, s', t', hF⟩, ho⟩
theorem torn_mount (M : DM) (picks : List Int) (i : Nat) : Torn (M.page i) ((M.mount picks).page i).old := by
  by_cases hi : i < M.ps.length
  · cases hp : (M.page i).pend with
    | true =>
      rw [mount_page_yes (pending_at hi hp)]
      exact ⟨_, rfl⟩
    | false =>
      rw [mount_page_no hi hp]
      refine ⟨0, ?_⟩
      rw [settle_clean]
      unfold Pg.pend at hp
      cases hn : (M.page i).new with
      | none => rfl
      | some l => rw [hn] at hp; cases hp
  · rw [page_out (by omega), page_out (by rw [DM.mount_len]; omega)]
    exact ⟨0, rfl⟩
theorem mount_clean (M : DM) (picks : List Int) : Clean (M.mount picks) := fun i => by
  by_cases hi : i < (M.mount picks).ps.length
  · exact mount_none M picks _ (DM.page_mem hi)
  · rw [page_out (by omega)]
theorem mount_jst {M : DM} {n h : Nat} {l : List ByteArray} {picks : List Int} (hM : M.ok) (hn : M.ps.length = n) (h1 : h ≤ 1) (hu : JM.useR l ≤ capOf n) (hb : longIn l = false) (J : JDc (fun i => ((M.mount picks).page i).old) n h l) : JSt (M.mount picks) n h l :=
  ⟨DM.mount_ok hM picks, by rw [DM.mount_len]; exact hn, mount_clean M picks, rfl, J, h1, hu, hb⟩
/-- Whenever the power fails during a call, a Mount leaves what was before it, or what it makes. -/
theorem survive {M : DM} {n h : Nat} {l rs : List ByteArray} (s : JSt M n h l) (h4 : 4 ≤ n) (picks : List Int) : JSt ((jM M n h rs false).mount picks) n h l ∨ (canDo n rs false = true ∧ JSt ((jM M n h rs false).mount picks) n (1 - h) rs) := by
  cases hc : canDo n rs false with
  | true =>
    obtain ⟨hb, hus⟩ := canDo_parts hc
    have h1 := s.h1
    have e : jM M n h rs false = JM.keepM M (2 + (1 - h) * hpOf n) (1 - h) (JM.stream rs) := by unfold jM; rw [hc]; rfl
    have ok := JM.keepM_ok s.ok (2 + (1 - h) * hpOf n) (1 - h) (JM.stream rs)
    have len : (JM.keepM M (2 + (1 - h) * hpOf n) (1 - h) (JM.stream rs)).ps.length = n := by rw [JM.keepM_len]; exact s.len
    rw [e]
    rcases keep_torn (x := 1 - h) (b := fun i => (((JM.keepM M (2 + (1 - h) * hpOf n) (1 - h) (JM.stream rs)).mount picks).page i).old) s.ok s.clean s.len h4 (by omega) (by omega) s.use hus s.d (fun i _ => torn_mount _ _ i) with J | J
    · exact .inl (mount_jst ok len h1 s.use s.big J)
    · exact .inr ⟨rfl, mount_jst ok len (by omega) hus hb J⟩
  | false =>
    have e : jM M n h rs false = M := by unfold jM; rw [hc]; rfl
    rw [e]
    refine .inl (mount_jst s.ok s.len s.h1 s.use s.big (jdc_same s.use s.d ?_ ?_ ?_))
    · rw [torn_none (s.clean 0) (torn_mount M picks 0)]
    · intro i _; rw [torn_none (s.clean 1) (torn_mount M picks 1)]
    · intro j _; exact torn_none (s.clean _) (torn_mount M picks _)
/-- The same for a call that was done. -/
theorem survive_done {M : DM} {n h : Nat} {l : List ByteArray} (s : JSt M n h l) (picks : List Int) : JSt (M.mount picks) n h l := by
  refine mount_jst s.ok s.len s.h1 s.use s.big (jdc_same s.use s.d ?_ ?_ ?_)
  · rw [torn_none (s.clean 0) (torn_mount M picks 0)]
  · intro i _; rw [torn_none (s.clean 1) (torn_mount M picks 1)]
  · intro j _; exact torn_none (s.clean _) (torn_mount M picks _)
theorem step_zero {M : DM} (ht : M.trip = 0) : M.step.up = false := by
  unfold DM.step
  rw [if_pos ht]
theorem keep_zero {M : DM} {n f x : Nat} {S : List UInt8} (ht : M.trip = 0) (hu : M.up = true) (hn : M.ps.length = n) (h4 : 4 ≤ n) (hx : x ≤ 1) (hf : f + JM.pcs S ≤ n) : JM.keepM M f x S = M.step := by
  have hd := step_zero ht
  have hw : ∀ (i a : Nat) (s : List UInt8), i < n → a + s.length ≤ 128 → M.write (i : Int) (a : Int) s = M.step := fun i a s hi ha => (write_trip hu (both_in (by omega) ha) hd).2
  have hH : JM.headM M f x S = M.step := by
    have hhl := JM.headB_length S.length (JM.sumF 0 S)
    unfold JM.headM
    by_cases h0 : JM.pcs S = 0
    · rw [h0]
      exact hw 1 (x * 16) _ (by omega) (by omega)
    · have h1 : JM.fillTo M f S 1 = M.step := hw (f + 0) 0 (JM.piece S 0) (by omega) (by have := JM.piece_size S 0; omega)
      have hp : JM.fillTo M f S (JM.pcs S) = M.step := by
        rw [show JM.pcs S = 1 + (JM.pcs S - 1) by omega, JM.fillTo_down (by rw [h1]; exact hd), h1]
      rw [hp, (write_down hd).2]
  unfold JM.keepM JM.markM JM.fillM
  rw [hH, (flush_down hd).2, (write_down hd).2, (flush_down hd).2]
theorem append_trip0 (n0 : Nat) (gj half : Nat) (A : Option Addr) (c : Nat) (l : List ByteArray) (r : ByteArray) (gd gp gm k cp : Nat) (Y : List Value) (M : DM) (n : Nat) (w : World) (s : JSt M n half l) (ht : M.trip = 0) (h4 : 4 ≤ n) (h40 : n ≤ 40) (hk : k ≤ 800000) (hr : r.size ≤ 8000) (hfit : JM.useR l + 2 + r.size ≤ capOf n) (hn0 : n0 ≤ w.heap.size)
    (h : PJ n0 w gj gd gp gm cp Y half k A c M l false) :
    Calls Try.prog 50 #[.pointer (some ⟨gj, 0, none⟩), .string r] w fun e w' => e = .returned (.tuple #[.int .i64 0, .int .i64 13]) ∧ (∃ A' c', PJ n0 w' gj gd gp gm cp Y half (k + 41) A' c' M.step l true ∧ FreshA A w.heap.size A') ∧ Only [gj, gd, gp, gm] w w' := by
  have hcb : capOf n ≤ 2432 := by unfold capOf; omega
  have hh := s.h1
  have hl : longIn (l ++ [r]) = false := by rw [long_snoc s.big]; exact decide_eq_false (by omega)
  have hus : JM.useR (l ++ [r]) ≤ capOf n := by rw [use_snoc]; omega
  have hc : canDo n (l ++ [r]) false = true := by unfold canDo; rw [hl, decide_eq_true hus]; rfl
  have hpc := pcs_le (S := JM.stream (l ++ [r])) (n := n) (by rw [JM.stream_length]; exact hus)
  have hhp : hpOf n * 2 + 2 ≤ n := by unfold hpOf; omega
  have hxh : (1 - half) * hpOf n ≤ hpOf n := by rcases (by omega : half = 0 ∨ half = 1) with rfl | rfl <;> simp
  have e : jM M n half (l ++ [r]) false = M.step := by
    unfold jM
    rw [hc]
    exact keep_zero ht s.up s.len h4 (by omega) (by omega)
  have hd := step_zero ht
  have eW : jW M n half (l ++ [r]) false = false := by unfold jW; rw [hc, e, hd]; rfl
  have e1 : jH M n half (l ++ [r]) false = half := by unfold jH; rw [eW]; rfl
  have e2 : jL M n half l (l ++ [r]) false = l := by unfold jL; rw [eW]; rfl
  have e3 : jC M n half (l ++ [r]) false = true := by unfold jC; rw [hc, e, hd]; rfl
  have hnf : ¬ capOf n < JM.useR (l ++ [r]) := by omega
  have e4 : jE M n half (l ++ [r]) false = 13 := by unfold jE; rw [hl, if_neg hnf, e, upE_down hd]; rfl
  refine (append_any n0 gj half A c l r false gd gp gm k cp Y M n w s.h1 s.ok s.len h4 h40 hk (by omega) (by omega) hn0 h).mono ?_
  rintro x w' ⟨rfl, ⟨A', c', hp, hF⟩, ho⟩
  rw [e, e1, e2, e3] at hp
  refine ⟨?_, ⟨A', c', hp, hF⟩, ho⟩
  unfold jN
  rw [e4]; rfl
theorem append_closed (n0 : Nat) (gj half : Nat) (A : Option Addr) (c : Nat) (l : List ByteArray) (r : ByteArray) (gd gp gm k cp : Nat) (Y : List Value) (M : DM) (n : Nat) (w : World) (hM : M.ok) (hn : M.ps.length = n) (hh : half ≤ 1) (hu : JM.useR l ≤ capOf n) (h4 : 4 ≤ n) (h40 : n ≤ 40) (hk : k ≤ 800000) (hr : r.size ≤ 8000) (hn0 : n0 ≤ w.heap.size)
    (h : PJ n0 w gj gd gp gm cp Y half k A c M l true) :
    Calls Try.prog 50 #[.pointer (some ⟨gj, 0, none⟩), .string r] w fun e w' => e = .returned (.tuple #[.int .i64 0, .int .i64 13]) ∧ (∃ A' c', PJ n0 w' gj gd gp gm cp Y half (k + 41) A' c' M l true ∧ FreshA A w.heap.size A') ∧ Only [gj, gd, gp, gm] w w' := by
  have hcb : capOf n ≤ 2432 := by unfold capOf; omega
  refine (append_any n0 gj half A c l r true gd gp gm k cp Y M n w hh hM hn h4 h40 hk (by omega) (by omega) hn0 h).mono ?_
  rintro x w' ⟨rfl, ⟨A', c', hp, hF⟩, ho⟩
  exact ⟨rfl, ⟨A', c', hp, hF⟩, ho⟩
theorem replace_closed (n0 : Nat) (gj half : Nat) (A B : Option Addr) (c cB : Nat) (l rs : List ByteArray) (gd gp gm k cp : Nat) (Y : List Value) (M : DM) (n : Nat) (w : World) (hM : M.ok) (hn : M.ps.length = n) (hh : half ≤ 1) (h4 : 4 ≤ n) (h40 : n ≤ 40) (hk : k ≤ 800000) (hu : JM.useR rs ≤ 1000000) (hn0 : n0 ≤ w.heap.size) (hB : RowAt w B (rs.map Value.string)) (hBo : OwnA B)
    (h : PJ n0 w gj gd gp gm cp Y half k A c M l true) :
    Calls Try.prog 53 #[.pointer (some ⟨gj, 0, none⟩), .slice B rs.length cB] w fun e w' => e = .returned (.int .i64 13) ∧ (∃ A' c', PJ n0 w' gj gd gp gm cp Y half (k + 41) A' c' M l true ∧ FreshA A w.heap.size A') ∧ Only [gj, gd, gp, gm] w w' := by
  refine (replace_any n0 gj half A B c cB l rs true gd gp gm k cp Y M n w hh hM hn h4 h40 hk hu hn0 hB hBo h).mono ?_
  rintro x w' ⟨rfl, ⟨A', c', hp, hF⟩, ho⟩
  exact ⟨rfl, ⟨A', c', hp, hF⟩, ho⟩
end Go.Proofs.Ythgmlopkcgkjlaa

/-
  A journal on a disk that does not fail, from a law's start on: its calls. Conditions: the journal lies there.
-/
namespace Go.Proofs.Ythgmlopkcgkjlaa
open Go.RowKit Go.Shelf

/-- The journal with its disk, made since block n0. -/
def JW (n0 n : Nat) (w v : World) (gj gd gp gm cp : Nat) (Y : List Value) (k : Nat) (l : List ByteArray) (A : Option Addr) : Prop :=
  ∃ h c M, PJ n0 v gj gd gp gm cp Y h k A c M l false ∧ JSt M n h l ∧ M.trip = -1 ∧ Below n0 w v ∧ (n0 ≤ gj ∧ n0 ≤ gd ∧ n0 ≤ gp ∧ n0 ≤ gm) ∧ n0 ≤ v.heap.size
section
variable {n0 n : Nat} {w v : World} {gj gd gp gm cp : Nat} {Y : List Value} {k : Nat} {l : List ByteArray} {A : Option Addr}
theorem JW.next (h : JW n0 n w v gj gd gp gm cp Y k l A) {v' : World} (hb : Below v.heap.size v v') : JW n0 n w v' gj gd gp gm cp Y k l A := by
  obtain ⟨x, c, M, p, s, t, b, g, z⟩ := h
  exact ⟨x, c, M, p.next hb, s, t, b.trans (hb.mono z), g, Nat.le_trans z hb.size⟩
theorem JW.big (h : JW n0 n w v gj gd gp gm cp Y k l A) : n0 ≤ v.heap.size := by
  obtain ⟨x, c, M, p, s, t, b, g, z⟩ := h
  exact z
theorem JW.use (h : JW n0 n w v gj gd gp gm cp Y k l A) : JM.useR l ≤ capOf n := by
  obtain ⟨x, c, M, p, s, t, b, g, z⟩ := h
  exact s.use
theorem JW.lt (h : JW n0 n w v gj gd gp gm cp Y k l A) : gj < v.heap.size ∧ gd < v.heap.size ∧ gp < v.heap.size ∧ gm < v.heap.size := by
  obtain ⟨x, c, M, p, s, t, b, g, z⟩ := h
  exact ⟨p.j.d.lt, p.p.d.lt, p.p.p.lt, p.p.m.lt⟩
theorem JW.after {v' : World} {h' k' : Nat} {A' : Option Addr} {c' : Nat} {M' : DM} {l' : List ByteArray} (h : JW n0 n w v gj gd gp gm cp Y k l A) (p' : PJ n0 v' gj gd gp gm cp Y h' k' A' c' M' l' false) (s' : JSt M' n h' l') (t' : M'.trip = -1) (ho : Only [gj, gd, gp, gm] v v') : JW n0 n w v' gj gd gp gm cp Y k' l' A' := by
  obtain ⟨x, c, M, p, s, t, b, g, z⟩ := h
  exact ⟨h', c', M', p', s', t', below_only b ho (by intro q hq; simp at hq; omega) z, g, Nat.le_trans z ho.size⟩
theorem jw_append (r : ByteArray) (h : JW n0 n w v gj gd gp gm cp Y k l A) (h4 : 4 ≤ n) (h40 : n ≤ 40) (hk : k ≤ 800000) (hr : r.size ≤ 8000) (hfit : JM.useR l + 2 + r.size ≤ capOf n) :
    Calls Try.prog 50 #[.pointer (some ⟨gj, 0, none⟩), .string r] v fun e v' => e = .returned (.tuple #[.int .i64 (l.length : Int), .int .i64 0]) ∧ (∃ A', JW n0 n w v' gj gd gp gm cp Y (k + 41) (l ++ [r]) A' ∧ FreshA A v.heap.size A') ∧ Only [gj, gd, gp, gm] v v' := by
  have hJ := h
  obtain ⟨x, c, M, p, s, t, b, g, z⟩ := h
  refine (append_ok n0 gj x A c l r gd gp gm k cp Y M n v s t h4 h40 hk hr hfit z p).mono ?_
  rintro e v' ⟨rfl, ⟨h', A', c', M', p', s', t', hF⟩, ho⟩
  exact ⟨rfl, ⟨A', hJ.after p' s' t' ho, hF⟩, ho⟩
theorem jw_full (r : ByteArray) (h : JW n0 n w v gj gd gp gm cp Y k l A) (h4 : 4 ≤ n) (h40 : n ≤ 40) (hk : k ≤ 800000) (hr : r.size ≤ 8000) (hfit : capOf n < JM.useR l + 2 + r.size) :
    Calls Try.prog 50 #[.pointer (some ⟨gj, 0, none⟩), .string r] v fun e v' => e = .returned (.tuple #[.int .i64 0, .int .i64 12]) ∧ (∃ A', JW n0 n w v' gj gd gp gm cp Y (k + 41) l A' ∧ FreshA A v.heap.size A') ∧ Only [gj, gd, gp, gm] v v' := by
  have hJ := h
  obtain ⟨x, c, M, p, s, t, b, g, z⟩ := h
  refine (append_full n0 gj x A c l r gd gp gm k cp Y M n v s t h4 h40 hk hr hfit z p).mono ?_
  rintro e v' ⟨rfl, ⟨h', A', c', M', p', s', t', hF⟩, ho⟩
  exact ⟨rfl, ⟨A', hJ.after p' s' t' ho, hF⟩, ho⟩
theorem jw_replace (B : Option Addr) (cB : Nat) (rs : List ByteArray) (h : JW n0 n w v gj gd gp gm cp Y k l A) (h4 : 4 ≤ n) (h40 : n ≤ 40) (hk : k ≤ 800000) (hr : longIn rs = false) (hfit : JM.useR rs ≤ capOf n) (hB : RowAt v B (rs.map Value.string)) (hBo : OwnA B) :
    Calls Try.prog 53 #[.pointer (some ⟨gj, 0, none⟩), .slice B rs.length cB] v fun e v' => e = .returned (.int .i64 0) ∧ (∃ A', JW n0 n w v' gj gd gp gm cp Y (k + 41) rs A' ∧ FreshA A v.heap.size A') ∧ Only [gj, gd, gp, gm] v v' := by
  have hJ := h
  obtain ⟨x, c, M, p, s, t, b, g, z⟩ := h
  refine (replace_ok n0 gj x A B c cB l rs gd gp gm k cp Y M n v s t h4 h40 hk hr hfit z hB hBo p).mono ?_
  rintro e v' ⟨rfl, ⟨h', A', c', M', p', s', t', hF⟩, ho⟩
  exact ⟨rfl, ⟨A', hJ.after p' s' t' ho, hF⟩, ho⟩
theorem jw_len (h : JW n0 n w v gj gd gp gm cp Y k l A) : Calls Try.prog 43 #[.pointer (some ⟨gj, 0, none⟩)] v fun e v' => e = .returned (.int .i64 (l.length : Int)) ∧ v' = v := by
  obtain ⟨x, c, M, p, s, t, b, g, z⟩ := h
  exact jlen_any gj gd x A c l false v p.j
theorem jw_used (h : JW n0 n w v gj gd gp gm cp Y k l A) : Calls Try.prog 44 #[.pointer (some ⟨gj, 0, none⟩)] v fun e v' => e = .returned (.int .i64 (JM.useR l : Int)) ∧ v' = v := by
  obtain ⟨x, c, M, p, s, t, b, g, z⟩ := h
  have hl := s.len
  have hu := s.use
  have h4096 := s.ok.2.2.2
  exact jused_any gj gd x A c l false v (by unfold capOf at hu; omega) p.j
theorem jw_room (h : JW n0 n w v gj gd gp gm cp Y k l A) (h4 : 4 ≤ n) (h40 : n ≤ 40) : Calls Try.prog 46 #[.pointer (some ⟨gj, 0, none⟩)] v fun e v' => e = .returned (.int .i64 ((capOf n : Int) - (JM.useR l : Int))) ∧ v' = v := by
  obtain ⟨x, c, M, p, s, t, b, g, z⟩ := h
  have hu := s.use
  exact jroom_any gj x A c l false gd gp gm k cp Y M n v s.len h4 h40 (by unfold capOf at hu; omega) p.p p.j
theorem jw_record (i : Nat) (r : ByteArray) (h : JW n0 n w v gj gd gp gm cp Y k l A) (hi : l[i]? = some r) (h40 : n ≤ 40) : Calls Try.prog 47 #[.pointer (some ⟨gj, 0, none⟩), .int .i64 (i : Int)] v fun e v' => e = .returned (.tuple #[.string r, .bool true]) ∧ v' = v := by
  obtain ⟨x, c, M, p, s, t, b, g, z⟩ := h
  have hu := s.use
  have hc := JM.useR_count l
  exact jrecord_at gj gd x A c l false i r v hi (by unfold capOf at hu; omega) p.j
theorem jw_none (i : Int) (h : JW n0 n w v gj gd gp gm cp Y k l A) (hi : i < 0 ∨ (l.length : Int) ≤ i) : Calls Try.prog 47 #[.pointer (some ⟨gj, 0, none⟩), .int .i64 i] v fun e v' => e = .returned (.tuple #[.string { data := #[] }, .bool false]) ∧ v' = v := by
  obtain ⟨x, c, M, p, s, t, b, g, z⟩ := h
  exact jrecord_no gj gd x A c l false i v hi p.j
theorem jw_records (h : JW n0 n w v gj gd gp gm cp Y k l A) (h40 : n ≤ 40) : Calls Try.prog 42 #[.pointer (some ⟨gj, 0, none⟩)] v fun e v' => ∃ A' c', e = .returned (.slice A' l.length c') ∧ RowAt v' A' (l.map Value.string) ∧ OwnC v.heap.size A' l.length c' ∧ (∀ q, A' = some ⟨q, 0, none⟩ → q < v'.heap.size) ∧ JW n0 n w v' gj gd gp gm cp Y k l A ∧ Below v.heap.size v v' := by
  have hJ := h
  obtain ⟨x, c, M, p, s, t, b, g, z⟩ := h
  have hu := s.use
  have hc := JM.useR_count l
  refine (jrecords_any gj gd x A c l false v (by unfold capOf at hu; omega) p.o.own p.j).mono ?_
  rintro e v' ⟨u, rfl, hown, hb⟩
  obtain ⟨A', c', rfl⟩ := own_shape hown
  exact ⟨A', c', rfl, (own_new hown).1, own_c hown, fun q hq => (hown.lt q (by rw [hq]; rfl)).2, hJ.next hb, hb⟩
theorem jw_open (h : JW n0 n w v gj gd gp gm cp Y k l A) (h4 : 4 ≤ n) (h40 : n ≤ 40) : Calls Try.prog 51 #[.pointer (some ⟨gd, 0, none⟩)] v fun e v' => ∃ gj' A', e = .returned (.tuple #[.pointer (some ⟨gj', 0, none⟩), .bool true]) ∧ JW n0 n w v' gj' gd gp gm cp Y k l A' ∧ Below v.heap.size v v' ∧ v.heap.size ≤ gj' ∧ (∀ q, A' = some ⟨q, 0, none⟩ → v.heap.size ≤ q) := by
  obtain ⟨x, c, M, p, s, t, b, g, z⟩ := h
  refine (openlaw_any n0 x l gd gp gm k cp Y M n v s h4 h40 z p.p).mono ?_
  rintro e v' ⟨gj', A', c', rfl, p', hle, hlo, hb⟩
  exact ⟨gj', A', rfl, ⟨x, c', M, p', s, t, b.trans (hb.mono z), ⟨by omega, g.2⟩, Nat.le_trans z hb.size⟩, hb, hle, hlo⟩
theorem jw_fresh (n : Nat) (w v : World) (n0 : Nat) (h4 : 4 ≤ n) (h40 : n ≤ 40) (hb : Below n0 w v) (hs : n0 ≤ v.heap.size) :
    Calls Try.prog 48 #[.int .i64 (n : Int)] v fun e v' => ∃ gd gp gm gj A, e = .returned (.tuple #[.pointer (some ⟨gd, 0, none⟩), .pointer (some ⟨gj, 0, none⟩), .bool true]) ∧ JW n0 n w v' gj gd gp gm n [] 0 [] A ∧ Below v.heap.size v v' := by
  refine (fresh_any n0 n v h4 h40 hs).mono ?_
  rintro e v' ⟨gd, gp, gm, gj, A, c, rfl, p, g, hb'⟩
  exact ⟨gd, gp, gm, gj, A, rfl, ⟨0, c, DM.make n, p, jst_make h4 h40, rfl, hb.trans (hb'.mono hs), g, Nat.le_trans hs hb'.size⟩, hb'⟩
end
theorem own_keep {L : List Nat} {w w' : World} {base size n c : Nat} {E : TypeId} {A : Option Addr} {xs : List Value} (h : w.ownsRow base E size (.slice A n c) n xs) (ho : Only L w w') (hA : ∀ q, A = some ⟨q, 0, none⟩ → q ∉ L) : w'.ownsRow base E size (.slice A n c) n xs := by
  obtain ⟨h1, h2⟩ := h
  refine ⟨h1, ?_⟩
  rcases h2 with ⟨e1, e2⟩ | ⟨g, cap, cur, e1, e2, e3, e4⟩
  · exact .inl ⟨e1, e2⟩
  · refine .inr ⟨g, cap, cur, e1, e2, ?_, e4⟩
    injection e1 with e1 _ _
    rw [ho.block g (Array.getElem?_eq_some_iff.1 e3).1 (hA g e1)]
    exact e3
end Go.Proofs.Ythgmlopkcgkjlaa

/-
  The law package's sanity returns true. Conditions: none.
-/
namespace Go.Proofs.Ythgmlopkcgkjlaa
open Go.RowKit Go.Shelf

theorem mount_step {M : DM} {n h : Nat} {l : List ByteArray} (s : JSt M n h l) (picks : List Int) : JSt (M.step.mount picks) n h l := by
  have hc : Clean M.step := fun i => by rw [DM.page_step]; exact s.clean i
  refine mount_jst (DM.step_ok s.ok) (by rw [DM.step_ps]; exact s.len) s.h1 s.use s.big (jdc_same s.use s.d ?_ ?_ ?_)
  · rw [torn_none (hc 0) (torn_mount M.step picks 0), DM.page_step]
  · intro i _; rw [torn_none (hc 1) (torn_mount M.step picks 1), DM.page_step]
  · intro j _; rw [torn_none (hc _) (torn_mount M.step picks _), DM.page_step]
def sX : ByteArray := ⟨#[120]⟩
set_option maxRecDepth 100000 in
set_option maxHeartbeats 6400000 in
theorem jsanity_any (w : World) : Calls Try.prog 36 #[] w fun e w' => e = .returned (.bool true) ∧ Below w.heap.size w w' := by
  obtain ⟨n0, hn0⟩ : ∃ n0, Hid (w.heap.size = n0) := ⟨_, rfl⟩
  have hfin : Hid (∀ w', Below n0 w w' → Below w.heap.size w w') := by
    have : ∀ w', Below n0 w w' → Below w.heap.size w w' := fun w' h => by rw [hn0.out]; exact h
    exact this
  have hb0 : Below n0 w w := Below.refl _ _
  have hs0 : n0 ≤ w.heap.size := Nat.le_of_eq hn0.out.symm
  have hcap : Hid (capOf 6 = 256) := by
    have : capOf 6 = 256 := rfl
    exact this
  go_enter Try.func36, Try.ntmps36
  go_wp2_with fail
  have hf : Calls Try.prog 48 #[.int .i64 6] w _ := jw_fresh 6 w w n0 (by omega) (by omega) hb0 hs0
  (with_reducible refine hf.mono ?_)
  rintro e v1 ⟨gd, gp, gm, gj, _, rfl, h1, _⟩
  clear hf hb0 hs0
  go_wp2_with fail
  (with_reducible refine (jw_len h1).mono ?_)
  rintro e v1 ⟨rfl, rfl⟩
  rw [show ((([] : List ByteArray).length : Nat) : Int) = 0 from rfl]
  go_wp2_with fail
  (with_reducible refine (jw_room h1 (by omega) (by omega)).mono ?_)
  rintro e v1 ⟨rfl, rfl⟩
  rw [hcap.out, show ((256 : Nat) : Int) - (JM.useR [] : Int) = 256 from rfl]
  go_wp2_with fail
  (with_reducible refine (jw_append ⟨#[97, 98, 99]⟩ h1 (by omega) (by omega) (by omega) (by decide) (by rw [hcap.out]; decide)).mono ?_)
  rintro e v2 ⟨rfl, ⟨_, h2, _⟩, _⟩
  rw [show ((([] : List ByteArray).length : Nat) : Int) = 0 from rfl]
  have u2 : Hid (JM.useR ([] ++ [(⟨#[97, 98, 99]⟩ : ByteArray)]) = 5) := by
    have : JM.useR ([] ++ [(⟨#[97, 98, 99]⟩ : ByteArray)]) = 5 := rfl
    exact this
  have n2 : Hid (([] ++ [(⟨#[97, 98, 99]⟩ : ByteArray)]).length = 1) := by
    have : ([] ++ [(⟨#[97, 98, 99]⟩ : ByteArray)]).length = 1 := rfl
    exact this
  generalize ([] ++ [(⟨#[97, 98, 99]⟩ : ByteArray)]) = l2 at h2 u2 n2
  clear h1
  go_wp2_with fail
  (with_reducible refine (jw_append ⟨#[]⟩ h2 (by omega) (by omega) (by omega) (by decide) (by rw [hcap.out, u2.out]; decide)).mono ?_)
  rintro e v3 ⟨rfl, ⟨_, h3, _⟩, _⟩
  rw [n2.out]
  have u3 : Hid (JM.useR (l2 ++ [(⟨#[]⟩ : ByteArray)]) = 7) := by
    have : JM.useR (l2 ++ [(⟨#[]⟩ : ByteArray)]) = 7 := by rw [use_snoc, u2.out]; rfl
    exact this
  have n3 : Hid ((l2 ++ [(⟨#[]⟩ : ByteArray)]).length = 2) := by
    have : (l2 ++ [(⟨#[]⟩ : ByteArray)]).length = 2 := by rw [List.length_append, n2.out]; rfl
    exact this
  generalize (l2 ++ [(⟨#[]⟩ : ByteArray)]) = l3 at h3 u3 n3
  clear h2 u2 n2
  go_wp2_with fail
  (with_reducible refine (jw_used h3).mono ?_)
  rintro e v3 ⟨rfl, rfl⟩
  rw [u3.out]
  obtain ⟨Z, hZ⟩ : ∃ Z, Hid ((⟨0, 247, 0, 122⟩ : OpJ).text = Z) := ⟨_, rfl⟩
  have hZs : Hid (Z.size = 247) := by
    have : Z.size = 247 := by rw [← hZ.out, text_size]; rfl
    exact this
  go_wp2_with fail
  have ht : Calls Try.prog 49 #[.agg #[.int .i64 0, .int .i64 247, .int .i64 0, .int .u8 122]] v3 _ := text_any 0 247 0 122 Z v3 (by omega) hZ.out
  (with_reducible refine ht.mono ?_)
  rintro e v4 ⟨rfl, hb4⟩
  have h4 := h3.next hb4
  clear h3 hb4 ht
  go_wp2_with fail
  (with_reducible refine (jw_append Z h4 (by omega) (by omega) (by omega) (by rw [hZs.out]; decide) (by rw [hcap.out, u3.out, hZs.out]; decide)).mono ?_)
  rintro e v5 ⟨rfl, ⟨_, h5, _⟩, _⟩
  rw [n3.out]
  have u5 : Hid (JM.useR (l3 ++ [Z]) = 256) := by
    have : JM.useR (l3 ++ [Z]) = 256 := by rw [use_snoc, u3.out, hZs.out]
    exact this
  have n5 : Hid ((l3 ++ [Z]).length = 3) := by
    have : (l3 ++ [Z]).length = 3 := by rw [List.length_append, n3.out]; rfl
    exact this
  generalize (l3 ++ [Z]) = l5 at h5 u5 n5
  clear h4 u3 n3
  go_wp2_with fail
  (with_reducible refine (jw_full ⟨#[]⟩ h5 (by omega) (by omega) (by omega) (by decide) (by rw [hcap.out, u5.out]; decide)).mono ?_)
  rintro e v6 ⟨rfl, ⟨_, h6, _⟩, _⟩
  clear h5
  go_wp2_with fail
  (with_reducible refine (jw_room h6 (by omega) (by omega)).mono ?_)
  rintro e v6 ⟨rfl, rfl⟩
  rw [hcap.out, u5.out, show ((256 : Nat) : Int) - ((256 : Nat) : Int) = 0 from rfl]
  go_wp2_with fail
  (with_reducible refine (jw_len h6).mono ?_)
  rintro e v6 ⟨rfl, rfl⟩
  rw [n5.out]
  clear u5 n5
  go_wp2_with fail
  have hB7 := blk_new v6 9 [.string ⟨#[120]⟩]
  have h7 := h6.next (below_new v6 (.cells #[.string ⟨#[120]⟩] 9))
  have hR7 : RowAt (v6.alloc (.cells #[.string ⟨#[120]⟩] 9)) (some ⟨v6.heap.size, 0, none⟩) ([sX].map Value.string) := fun q u hu => ⟨_, rfl, hB7.cell hu⟩
  have hrp : Calls Try.prog 53 #[.pointer (some ⟨gj, 0, none⟩), .slice (some ⟨v6.heap.size, 0, none⟩) 1 1] (v6.alloc (.cells #[.string ⟨#[120]⟩] 9)) _ := jw_replace (some ⟨v6.heap.size, 0, none⟩) 1 [sX] h7 (by omega) (by omega) (by omega) rfl (by rw [hcap.out]; decide) hR7 (.inr ⟨_, rfl⟩)
  (with_reducible refine hrp.mono ?_)
  rintro e v8 ⟨rfl, ⟨_, h8, _⟩, _⟩
  clear h6 h7 hB7 hR7 hrp
  go_wp2_with fail
  (with_reducible refine (jw_open h8 (by omega) (by omega)).mono ?_)
  rintro e v9 ⟨g9, _, rfl, h9, _⟩
  clear h8
  go_wp2_with fail
  (with_reducible refine (jw_records h9 (by omega)).mono ?_)
  rintro e va ⟨Aa, ca, rfl, hRa, _, _, ha, _⟩
  clear h9
  go_wp2_with fail
  have hbn := below_new va (.cells #[.string ⟨#[120]⟩] 9)
  have hBb := blk_new va 9 [.string ⟨#[120]⟩]
  have hRb : RowAt (va.alloc (.cells #[.string ⟨#[120]⟩] 9)) (some ⟨va.heap.size, 0, none⟩) ([sX].map Value.string) := fun q u hu => ⟨_, rfl, hBb.cell hu⟩
  have hsm : Calls Try.prog 41 #[.slice Aa 1 ca, .slice (some ⟨va.heap.size, 0, none⟩) 1 1] (va.alloc (.cells #[.string ⟨#[120]⟩] 9)) _ := same2_any Aa (some ⟨va.heap.size, 0, none⟩) ca 1 [sX] [sX] _ (by decide) (hRa.next hbn) hRb
  (with_reducible refine hsm.mono ?_)
  rintro e vb ⟨rfl, hbb⟩
  rw [show decide ([sX] = [sX]) = true from decide_eq_true rfl]
  have hb := (ha.next hbn).next hbb
  clear ha hRa hbn hBb hRb hsm hbb
  obtain ⟨x, c, M, p, s, t, b, g, z⟩ := hb
  go_wp2_with fail
  (with_reducible refine (trip_any gd gp gm _ 6 [] M 0 _ (by omega) (by omega) p.p).mono ?_)
  rintro e vc ⟨rfl, hpc, hoc⟩
  have sC := s.trip (t := 0) (by omega) (by omega)
  have bC := below_only b hoc (by simp; omega) z
  have pC : PJ n0 vc g9 gd gp gm 6 [] x _ _ c (M.tripTo 0) [sX] false := ⟨hpc, p.j.only hoc (by have := p.dj; simp at this ⊢; omega) (fun q hq => by have := p.ad q hq; simp at this ⊢; omega), p.o, fun q hq => Nat.lt_of_lt_of_le (p.al q hq) hoc.size, p.dj, p.ad⟩
  have zC := Nat.le_trans z hoc.size
  clear hpc hoc p s b z t
  have tC : (M.tripTo 0).trip = 0 := rfl
  generalize M.tripTo 0 = MC at pC sC tC
  clear M
  go_wp2_with fail
  (with_reducible refine (append_trip0 n0 g9 x _ c [sX] ⟨#[121]⟩ gd gp gm _ 6 [] MC 6 _ sC tC (by omega) (by omega) (by omega) (by decide) (by rw [hcap.out]; decide) zC pC).mono ?_)
  rintro e vd ⟨rfl, ⟨Ad, cd, pD, _⟩, hod⟩
  have bD := below_only bC hod (by simp; omega) zC
  have zD := Nat.le_trans zC hod.size
  clear pC hod bC zC
  go_wp2_with fail
  (with_reducible refine (append_closed n0 g9 x Ad cd [sX] ⟨#[121]⟩ gd gp gm _ 6 [] MC.step 6 _ (DM.step_ok sC.ok) (by rw [DM.step_ps]; exact sC.len) sC.h1 sC.use (by omega) (by omega) (by omega) (by decide) zD pD).mono ?_)
  rintro e ve ⟨rfl, ⟨Ae, ce, pE, _⟩, hoe⟩
  have bE := below_only bD hoe (by simp; omega) zD
  have zE := Nat.le_trans zD hoe.size
  clear pD hoe bD zD
  go_wp2_with fail
  have hmt : Calls Try.prog 27 #[.pointer (some ⟨gd, 0, none⟩), .slice none 0 0] ve _ := mount_any gd gp gm _ 6 [] MC.step none 0 [] ve (DM.step_ok sC.ok) pE.p (by decide) (fun w' _ q u hu => by cases hu)
  (with_reducible refine hmt.mono ?_)
  rintro e vf ⟨rfl, hpf, hof⟩
  have sF := mount_step sC []
  have bF := below_only bE hof (by simp; omega) zE
  have zF := Nat.le_trans zE hof.size
  clear pE hof bE zE hmt sC tC
  generalize MC.step.mount [] = MF at hpf sF
  clear MC
  go_wp2_with fail
  (with_reducible refine (openlaw_any n0 x [sX] gd gp gm _ 6 [] MF 6 _ sF (by omega) (by omega) zF hpf).mono ?_)
  rintro e vg ⟨gg, Ag, cg, rfl, pG, hleg, _, hbg⟩
  have bG := bF.trans (hbg.mono zF)
  have zG := Nat.le_trans zF hbg.size
  clear hpf hbg bF zF sF
  go_wp2_with fail
  have hr0 : Calls Try.prog 47 #[.pointer (some ⟨gg, 0, none⟩), .int .i64 0] vg _ := jrecord_at gg gd x Ag cg [sX] false 0 sX vg rfl (by decide) pG.j
  (with_reducible refine hr0.mono ?_)
  rintro e vg ⟨rfl, rfl⟩
  clear hr0
  rw [show sX = ⟨#[120]⟩ from rfl]
  go_wp2_with fail
  (with_reducible refine (jrecord_no gg gd x Ag cg [sX] false 1 _ (.inr (by decide)) pG.j).mono ?_)
  rintro e vg ⟨rfl, rfl⟩
  go_wp2_with fail
  have hnw : Calls Try.prog 16 #[.int .i64 3] vg _ := new_any 3 vg (by omega) (by omega)
  (with_reducible refine hnw.mono ?_)
  rintro e vh ⟨hd, hp, hm, rfl, pH, hbh, _, _, _⟩
  have bH := bG.trans (hbh.mono zG)
  have pG' := pG.next hbh
  clear hnw pG hbh bG
  go_wp2_with fail
  (with_reducible refine (open_few hd hp hm 0 3 [] (DM.make 3) 3 _ (by simp [DM.make]) (by omega) pH).mono ?_)
  rintro e vh ⟨rfl, rfl⟩
  go_wp2_with fail
  (with_reducible refine (jlen_any gg gd x Ag cg [sX] false _ pG'.j).mono ?_)
  rintro e vh ⟨rfl, rfl⟩
  rw [show (([sX].length : Nat) : Int) = 1 from rfl]
  clear pG' pH
  go_wp2
  go_ret
  exact ⟨rfl, hfin.out _ bH⟩
end Go.Proofs.Ythgmlopkcgkjlaa

/-
  The walk of the law JournalFillsUp. Conditions: none.
-/
namespace Go.Proofs.Ythgmlopkcgkjlaa
open Go.RowKit Go.Shelf

def sliceLen : Value → Nat
  | .slice _ n _ => n
  | _ => 0
def Apart (A B : Option Addr) : Prop := ∀ q, A = some ⟨q, 0, none⟩ → B ≠ some ⟨q, 0, none⟩
theorem own_low {w : World} {b b' size n : Nat} {E : TypeId} {v : Value} {xs : List Value} (h : w.ownsRow b E size v n xs) (hb : b' ≤ b) : w.ownsRow b' E size v n xs := by
  obtain ⟨h1, h2⟩ := h
  refine ⟨h1, ?_⟩
  rcases h2 with h2 | ⟨g, cap, cur, e1, e2, e3⟩
  · exact .inl h2
  · exact .inr ⟨g, cap, cur, e1, Nat.le_trans hb e2, e3⟩
theorem JW.only {L : List Nat} {n0 n : Nat} {w v v' : World} {gj gd gp gm cp : Nat} {Y : List Value} {k : Nat} {l : List ByteArray} {B : Option Addr} (h : JW n0 n w v gj gd gp gm cp Y k l B) (ho : Only L v v') (hL : ∀ q ∈ L, n0 ≤ q ∧ q ∉ [gj, gd, gp, gm] ∧ B ≠ some ⟨q, 0, none⟩) : JW n0 n w v' gj gd gp gm cp Y k l B := by
  obtain ⟨x, c, M, p, s, t, b, g, z⟩ := h
  have hn : ∀ q, q ∈ [gj, gd, gp, gm] → q ∉ L := fun q hq hm => (hL q hm).2.1 hq
  exact ⟨x, c, M, p.only ho (hn gj (by simp)) (hn gd (by simp)) (hn gp (by simp)) (hn gm (by simp)) (fun q hq hm => (hL q hm).2.2 hq), s, t, below_only b ho (fun q hq => (hL q hq).1) z, g, Nat.le_trans z ho.size⟩
theorem JW.addr {n0 n : Nat} {w v : World} {gj gd gp gm cp : Nat} {Y : List Value} {k : Nat} {l : List ByteArray} {B : Option Addr} (h : JW n0 n w v gj gd gp gm cp Y k l B) : ∀ q, B = some ⟨q, 0, none⟩ → q < v.heap.size := by
  obtain ⟨x, c, M, p, s, t, b, g, z⟩ := h
  exact p.al
def FuRel (n0 n : Nat) (w : World) (gj gd gp gm : Nat) (v : Value) (wr : World) : Prop :=
  ∃ (l : List ByteArray) (k : Nat) (A : Option Addr) (c : Nat) (B : Option Addr), v = .slice A l.length c ∧ wr.ownsRow n0 9 1 v l.length (l.map Value.string) ∧ (∀ q, A = some ⟨q, 0, none⟩ → q ∉ [gj, gd, gp, gm]) ∧ Apart A B ∧ k ≤ 41 * l.length ∧ JW n0 n w wr gj gd gp gm n [] k l B
set_option maxRecDepth 100000 in
set_option maxHeartbeats 6400000 in
theorem fillsLaw_any (p : Int) (sz : Nat) (fill : UInt8) (w : World) (hsz : sz < 65536) :
    Calls Try.prog 10 #[.int .i64 p, .int .u16 (sz : Int), .int .u8 (fill.toNat : Int)] w fun e w' => e = .returned (.bool true) ∧ Below w.heap.size w w' := by
  obtain ⟨i0, hi, hz0, hz1, hz2⟩ := info_parts Try.infoS
  by_cases hlo : p < 4
  · go_enter Try.func10, Try.ntmps10
    go_wp2_with fail
    (with_reducible refine (jsanity_any _).mono ?_)
    rintro e w' ⟨rfl, hb⟩
    go_wp2
    go_ret
    exact ⟨rfl, hb⟩
  · by_cases hhi : 40 < p
    · have hlo2 : 4 ≤ p := by omega
      go_enter Try.func10, Try.ntmps10
      go_wp2_with fail
      (with_reducible refine (jsanity_any _).mono ?_)
      rintro e w' ⟨rfl, hb⟩
      go_wp2
      go_ret
      exact ⟨rfl, hb⟩
    · obtain ⟨n, rfl⟩ : ∃ n : Nat, p = (n : Int) := ⟨p.toNat, by omega⟩
      have h4 : 4 ≤ n := by omega
      have h40 : n ≤ 40 := by omega
      have h4i : (4 : Int) ≤ (n : Int) := by omega
      have h40i : (n : Int) ≤ 40 := by omega
      obtain ⟨n0, hn0⟩ : ∃ n0, Hid (w.heap.size = n0) := ⟨_, rfl⟩
      have hfin : Hid (∀ w', Below n0 w w' → Below w.heap.size w w') := by
        have : ∀ w', Below n0 w w' → Below w.heap.size w w' := fun w' h => by rw [hn0.out]; exact h
        exact this
      have hb0 : Below n0 w w := Below.refl _ _
      have hs0 : n0 ≤ w.heap.size := Nat.le_of_eq hn0.out.symm
      obtain ⟨m, hm⟩ : ∃ m : Nat, ((sz : Int)).tmod 301 = (m : Int) := ⟨sz % 301, by rw [Int.tmod_eq_emod_of_nonneg (by omega)]; omega⟩
      have hm3 : m ≤ 300 := by rw [Int.tmod_eq_emod_of_nonneg (by omega)] at hm; omega
      have hwz : IntKind.i64.wrap (sz : Int) = (sz : Int) := IntWalk.i64_in _ ⟨by omega, by omega⟩
      clear hlo hhi
      obtain ⟨C, hC⟩ : ∃ C, capOf n = C := ⟨_, rfl⟩
      have hCb : C ≤ 2432 := by rw [← hC]; unfold capOf; omega
      have HC := Lib.hid hC
      have hCn : Hid ((((n : Int) - 2).tdiv 2) * 128 = (C : Int)) := by
        have : (((n : Int) - 2).tdiv 2) * 128 = (C : Int) := by rw [← hC, Int.tdiv_eq_ediv_of_nonneg (by omega)]; unfold capOf; omega
        exact this
      clear hC
      go_enter Try.func10, Try.ntmps10
      go_wp2_with fail
      (with_reducible refine (jw_fresh n w w n0 h4 h40 hb0 hs0).mono ?_)
      rintro e w1 ⟨gd, gp, gm, gj, B1, rfl, h1, _⟩
      clear hb0 hs0
      go_wp2_with fail
      go_loopw [10] (FuRel n0 n w gj gd gp gm) (fun v _ => 5000 - sliceLen v)
      case atStart => exact ⟨[], 0, none, 0, B1, rfl, World.ownsRow_nil _ _ _ _, fun q hq => (by cases hq), fun q hq => (by cases hq), Nat.zero_le _, h1⟩
      case round =>
        clear h1
        obtain ⟨l, k, A, c, B, rfl, hown, hA, hap, hk, h⟩ := hrel
        have hcnt := JM.useR_count l
        have huse := h.use
        rw [HC.out] at huse
        obtain ⟨U, hU⟩ : ∃ U, Hid (JM.useR l = U) := ⟨_, rfl⟩
        obtain ⟨N, hN⟩ : ∃ N, Hid (l.length = N) := ⟨_, rfl⟩
        rw [hU.out] at huse hcnt
        rw [hN.out] at hcnt hk hown
        go_wp2_with fail
        (with_reducible refine (jw_room h h4 h40).mono ?_)
        rintro e wr ⟨rfl, rfl⟩
        rw [HC.out, hU.out, hN.out]
        by_cases hroom : U + 2 ≤ C
        · have hri : (2 : Int) ≤ (C : Int) - (U : Int) := by omega
          go_wp2_with fail
          (with_reducible refine (jw_room h h4 h40).mono ?_)
          rintro e wr ⟨rfl, rfl⟩
          rw [HC.out, hU.out]
          obtain ⟨q, hq⟩ : ∃ q : Nat, min (m : Int) ((C : Int) - (U : Int) - 2) = (q : Int) := ⟨min m (C - U - 2), by omega⟩
          have hq1 : q ≤ 300 := by omega
          have hq2 : U + 2 + q ≤ C := by omega
          obtain ⟨X, hX⟩ : ∃ X, Hid ((⟨0, (q : Int), 0, fill⟩ : OpJ).text = X) := ⟨_, rfl⟩
          have hXs : Hid (X.size = q) := by
            have : X.size = q := by rw [← hX.out, text_size]; show ((q : Int)).toNat = q; omega
            exact this
          have hf : Calls Try.prog 49 #[.agg #[.int .i64 0, .int .i64 (q : Int), .int .i64 0, .int .u8 (fill.toNat : Int)]] wr _ := text_any 0 q 0 fill X wr (by omega) hX.out
          go_wp2_with fail
          (with_reducible refine hf.mono ?_)
          rintro e w2 ⟨rfl, hb2⟩
          have h2 := h.next hb2
          have hown2 := own_only hown (Only.of_below (L := []) hb2) (by simp)
          clear h hown hb2 hf
          go_wp2_with fail
          (with_reducible refine (jw_append X h2 h4 h40 (by omega) (by rw [hXs.out]; omega) (by rw [HC.out, hU.out, hXs.out]; exact hq2)).mono ?_)
          rintro e w3 ⟨rfl, ⟨B3, h3, hF3⟩, ho3⟩
          rw [hN.out]
          have hown3 := own_keep hown2 ho3 hA
          have hlt2 := hown2.lt
          have hap3 : Apart A B3 := fun q hq hB => by
            have h5 := (hlt2 q (by rw [hq]; rfl)).2
            rcases hF3 q hB with e | e
            · exact hap q hq e
            · omega
          have hnx : Hid (l.map Value.string ++ [Value.string X] = (l ++ [X]).map Value.string) := by
            have : l.map Value.string ++ [Value.string X] = (l ++ [X]).map Value.string := by simp
            exact this
          have hln : Hid ((l ++ [X]).length = N + 1) := by
            have : (l ++ [X]).length = N + 1 := by rw [List.length_append, hN.out]; rfl
            exact this
          have hg3 := h3.lt
          have hn03 : n0 ≤ w3.heap.size := h3.big
          have hB3l := h3.addr
          obtain ⟨XS, hXS⟩ : ∃ XS, Hid (l.map Value.string = XS) := ⟨_, rfl⟩
          rw [hXS.out] at hown3 hnx
          clear h2 hown2 ho3 hlt2 hap hF3
          have hbn := below_new w3 (.cells #[.string X] 9)
          have h3a := h3.next hbn
          have hcells : ∀ (j : Nat) (u : Value), [Value.string X][j]? = some u → (w3.alloc (.cells #[.string X] 9)).cell? ((⟨w3.heap.size, 0, none⟩ : Addr).add j) = some u := fun j u hu => by
            rw [addr_mid, Nat.zero_add]
            exact (blk_new w3 9 [.string X]).cell hu
          have hown3a := own_only hown3 (Only.of_below (L := []) hbn) (by simp)
          have hlm : Hid (XS.length = N * 1) := by
            have : XS.length = N * 1 := by rw [← hXS.out, List.length_map, hN.out, Nat.mul_one]
            exact this
          have hcellsA : ∀ b, A = some b → ∀ (j : Nat) (u : Value), XS[j]? = some u → (w3.alloc (.cells #[.string X] 9)).cell? (b.add j) = some u := fun b hb j u hu => by
            have hown3b := hown3a
            rw [← hXS.out] at hown3b hu
            obtain ⟨g, eA, hc⟩ := (own_new hown3b).1 j u hu
            rw [hb] at eA
            injection eA with eA
            subst eA
            rw [addr_mid, Nat.zero_add]
            exact hc
          by_cases hroomc : N + 1 ≤ c
          · obtain ⟨g, rfl⟩ : ∃ g, A = some ⟨g, 0, none⟩ := by
              rcases hown3.2 with ⟨e1, _⟩ | ⟨g, cap, cur, e1, _⟩
              · injection e1 with _ _ e3; omega
              · injection e1 with e1 _ _; exact ⟨g, e1⟩
            have hgn0 : n0 ≤ g := (hown3.lt g rfl).1
            have hgA := hA g rfl
            have hgB := hap3 g rfl
            clear hown3 h3 hbn
            go_wp2_with (at_builtin; refine wpList_append_fits _ rfl _ _ 43 rfl n0 9 i0 1 Try.underlying43 hi hz1 g N c XS rfl hown3a ⟨w3.heap.size, 0, none⟩ 1 1 [.string X] rfl (by with_unfolding_all rfl) hcells (one_cell1 rfl) hroomc ?_)
            intro w4 hown4 hgrow4
            rw [hnx.out] at hown4
            have ho4 : Only [g] (w3.alloc (.cells #[.string X] 9)) w4 := Only.of_grown hgrow4 (by simp)
            have h4' := h3a.only ho4 (by intro q hq; simp only [List.mem_singleton] at hq; subst hq; exact ⟨hgn0, hgA, hgB⟩)
            clear h3a hgrow4 hown3a hcells ho4
            go_wp2
            go_roundw
            case rel => exact ⟨l ++ [X], k + 41, some ⟨g, 0, none⟩, c, B3, by rw [hln.out], by rw [hln.out]; exact hown4, hA, hap3, by rw [hln.out]; omega, h4'⟩
            case measure => simp only [sliceLen, hN.out]; omega
          · have hNc : N ≤ c := (own_c hown3).cap
            have hz3 := (own_c hown3).zero
            go_wp2_with (at_builtin; refine wpList_append_grows _ rfl _ _ 43 rfl 9 i0 _ 1 16 Try.underlying43 hi hz0 hz1 hz2 rfl (by decide) A N c XS rfl hz3 hlm.out hcellsA ⟨w3.heap.size, 0, none⟩ 1 1 [.string X] rfl (by with_unfolding_all rfl) hcells (one_cell1 rfl) (by omega) (by unfold maxLen; omega) (by omega) ?_)
            intro v4 w4 hown4 hgrow4
            rw [hnx.out] at hown4
            obtain ⟨A4, c4, rfl⟩ := own_shape hown4
            have hlo4 := (own_c hown4).lo
            have hb4 : Below (w3.alloc (.cells #[.string X] 9)).heap.size (w3.alloc (.cells #[.string X] 9)) w4 := (Below.refl _ _).grown hgrow4 (Nat.le_refl _) (fun k hk => by cases hk)
            have h4' := h3a.next hb4
            have hA4 : ∀ q, A4 = some ⟨q, 0, none⟩ → q ∉ [gj, gd, gp, gm] := fun q hq => by have := hlo4 q hq; simp; omega
            have hap4 : Apart A4 B3 := fun q hq hB => by
              have e1 := hlo4 q hq
              have e2 := hB3l q hB
              omega
            have hown4' := own_low hown4 (b' := n0) (by omega)
            clear h3a hgrow4 hown3a hcells hb4 hown4
            go_wp2
            go_roundw
            case rel => exact ⟨l ++ [X], k + 41, A4, c4, B3, by rw [hln.out], by rw [hln.out]; exact hown4', hA4, hap4, by rw [hln.out]; omega, h4'⟩
            case measure => simp only [sliceLen, hN.out]; omega
        · have hri : (C : Int) - (U : Int) < 2 := by omega
          have hown1 := hown
          go_wp2_with fail
          have hcU : C < U + 2 + (⟨#[]⟩ : ByteArray).size := by
            have : (⟨#[]⟩ : ByteArray).size = 0 := by decide
            omega
          (with_reducible refine (jw_full ⟨#[]⟩ h h4 h40 (by omega) (by decide) (by rw [HC.out, hU.out]; exact hcU)).mono ?_)
          rintro e w2 ⟨rfl, ⟨B2, h2, hF2⟩, ho2⟩
          have hown2 := own_keep hown1 ho2 hA
          clear h hown hown1 ho2
          go_wp2_with fail
          (with_reducible refine (jw_open h2 h4 h40).mono ?_)
          rintro e w3 ⟨g3, B3, rfl, h3, hb3, _, _⟩
          have hold3 := h2.next hb3
          have hown3 := own_only hown2 (Only.of_below (L := []) hb3) (by simp)
          clear h2 hown2 hb3
          go_wp2_with fail
          (with_reducible refine (jsanity_any _).mono ?_)
          rintro e w4 ⟨rfl, hb4⟩
          have h4' := h3.next hb4
          have hold4 := hold3.next hb4
          have hown4 := own_only hown3 (Only.of_below (L := []) hb4) (by simp)
          clear h3 hold3 hown3 hb4
          go_wp2_with fail
          (with_reducible refine (jw_records h4' h40).mono ?_)
          rintro e w5 ⟨A5, c5, rfl, hR5, _, _, h5, hb5⟩
          have hold5 := hold4.next hb5
          have hown5 := own_only hown4 (Only.of_below (L := []) hb5) (by simp)
          clear h4' hold4 hown4 hb5
          have hsame : Calls Try.prog 41 #[.slice A5 N c5, .slice A N c] w5 fun e w' => e = .returned (.bool true) ∧ Below w5.heap.size w5 w' := by
            have hx := same2_any A5 A c5 c l l w5 (by rw [hN.out]; omega) hR5 (own_new hown5).1
            rw [hN.out, decide_eq_true rfl] at hx
            exact hx
          rw [hN.out]
          go_wp2_with fail
          (with_reducible refine hsame.mono ?_)
          rintro e w6 ⟨rfl, hb6⟩
          have h6 := h5.next hb6
          have hold6 := hold5.next hb6
          have hown6 := own_only hown5 (Only.of_below (L := []) hb6) (by simp)
          clear h5 hold5 hown5 hb6 hsame hR5
          have husd : Calls Try.prog 45 #[.slice A N c] w6 fun e w' => e = .returned (.int .i64 (U : Int)) ∧ w6 = w' := by
            have hx := rused_any A c l w6 (by rw [hU.out]; omega) (own_new hown6).1
            rw [hN.out, hU.out] at hx
            exact hx
          go_wp2_with fail
          (with_reducible refine husd.mono ?_)
          rintro e w6 ⟨rfl, rfl⟩
          go_wp2_with fail
          (with_reducible refine (jw_room hold6 h4 h40).mono ?_)
          rintro e w6 ⟨rfl, rfl⟩
          rw [HC.out, hU.out]
          obtain ⟨_, _, _, _, _, _, bz, _, _⟩ := h6
          have hsum : (U : Int) + ((C : Int) - (U : Int)) = (C : Int) := by omega
          have hCn' := hCn.out
          clear hold6 hown6 husd
          go_wp2
          go_ret
          exact ⟨rfl, hfin.out _ bz⟩
end Go.Proofs.Ythgmlopkcgkjlaa
