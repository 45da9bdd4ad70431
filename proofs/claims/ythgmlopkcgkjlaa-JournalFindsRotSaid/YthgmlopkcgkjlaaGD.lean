/-
  Contracts of the functions that the statement calls, part 4 of 37 (merged texts: Dp, Df1, Df2). Conditions: as the head of each part says.
-/
import Derived.Test.YthgmlopkcgkjlaaGC
import Derived.Maps.Own
import Derived.Maps.OwnSet
import Derived.Maps.Views
import Derived.Maps.RangeWalk

/-
  How the program holds a disk: its record, its pages, its map of pending pages; what lookups, stores and clear do with it. Conditions: none.
-/
namespace Go.Proofs.Ythgmlopkcgkjlaa
open Go.RowKit Go.ChangeMaps Go.MapKept
open Go.WideElems (Fit)
open Go.Maps (Keyed)

theorem B8_inj : ∀ {l r : List UInt8}, l.map B8 = r.map B8 → l = r
  | [], [], _ => rfl
  | [], _ :: _, h => by cases h
  | _ :: _, [], h => by cases h
  | a :: l, b :: r, h => by
    simp only [List.map_cons, List.cons.injEq] at h
    have h1 : a = b := by
      have := h.1
      unfold B8 at this
      injection this with _ h2
      exact UInt8.toNat_inj.1 (by omega)
    rw [h1, B8_inj h.2]
open Classical in
/-- How a page reads that is an element of the map. -/
noncomputable def pageR (v : Value) : Option (DataW Unit × List MemPlace) := if h : ∃ l : List UInt8, v = .agg (l.map B8).toArray then some (.lit (.string h.choose), []) else none
theorem agg_inj {l r : List UInt8} (h : Value.agg (l.map B8).toArray = .agg (r.map B8).toArray) : l = r := by
  injection h with h
  exact B8_inj (by simpa using congrArg Array.toList h)
theorem pageR_mk (l : List UInt8) : pageR (.agg (l.map B8).toArray) = some (.lit (.string l), []) := by
  have h : ∃ r : List UInt8, Value.agg (l.map B8).toArray = .agg (r.map B8).toArray := ⟨l, rfl⟩
  unfold pageR
  rw [dif_pos h]
  rw [← agg_inj h.choose_spec]
theorem pageR_inv {v : Value} {y : DataW Unit × List MemPlace} (h : pageR v = some y) : ∃ l : List UInt8, v = .agg (l.map B8).toArray ∧ y = (.lit (.string l), []) := by
  unfold pageR at h
  split at h
  · rename_i hv
    injection h with h
    exact ⟨hv.choose, hv.choose_spec, h.symm⟩
  · cases h
def kInt (i : Nat) : Lit := .int .i64 (i : Int)
theorem kInt_inj {i j : Nat} (h : kInt i = kInt j) : i = j := by unfold kInt at h; injection h with _ h; omega
theorem wf_int {i : Nat} (h : i < 9223372036854775808) : (Lit.int .i64 (i : Int)).wf = true := by
  have h1 : IntKind.i64.min = -9223372036854775808 := rfl
  have h2 : IntKind.i64.max = 9223372036854775807 := rfl
  simp only [Lit.wf, Bool.and_eq_true, decide_eq_true_eq]
  omega
theorem key_int {i : Nat} (h : i < 9223372036854775808) : keyOf Try.prog 3 (.int .i64 (i : Int)) = some (kInt i) := by
  have hw := wf_int h
  unfold keyOf
  rw [Try.underlying3]
  unfold mapKey
  rw [Try.underlying3]
  simp only [hw, and_self, if_true]
  rfl
theorem keyedI : Keyed Try.prog 3 := Maps.int_keyed Try.underlying3
theorem zero_page (w : World) : (zeroValue 108).run Try.prog w = .ok (.agg (Z128.map B8).toArray) w := by kernel_rfl
def MapOK (w : World) (gm k : Nat) (ps : List Pg) : Prop :=
  ∃ D : DataW Unit, w.ownsMap Try.prog 3 pageR gm k D ∧ Maps.IsMap D ∧ (∀ i p, ps[i]? = some p → (∀ l, p.new = some l → ∀ z, D.atKey (kInt i) z = .lit (.string l)) ∧ (p.new = none → Maps.has D (kInt i) = false)) ∧ (∀ kl, Maps.has D kl = true → ∃ i : Nat, i < ps.length ∧ kl = kInt i)
theorem MapOK.mono {w : World} {gm k k' : Nat} {ps : List Pg} (h : MapOK w gm k ps) (hk : k ≤ k') : MapOK w gm k' ps := by
  obtain ⟨D, h1, h2⟩ := h
  exact ⟨D, h1.mono hk, h2⟩
theorem MapOK.lt {w : World} {gm k : Nat} {ps : List Pg} (h : MapOK w gm k ps) : gm < w.heap.size := by
  obtain ⟨D, h1, _⟩ := h
  exact h1.lt
theorem MapOK.only {L : List Nat} {w w' : World} {gm k : Nat} {ps : List Pg} (h : MapOK w gm k ps) (ho : Only L w w') (hg : gm ∉ L) : MapOK w' gm k ps := by
  obtain ⟨D, h1, h2⟩ := h
  have hlt := h1.lt
  obtain ⟨es, clock, hb, F, hs, hD⟩ := h1
  exact ⟨D, ⟨es, clock, (ho.block gm hlt hg).trans hb, F, hs, hD⟩, h2⟩
theorem MapOK.made (w : World) (n : Nat) : MapOK (w.alloc (.map #[] 0)) w.heap.size 0 (List.replicate n ⟨Z128, none⟩) := by
  refine ⟨.map [], World.ownsMap_made w _ _ _, Maps.isMap_empty, fun i p hp => ?_, fun kl h => by cases h⟩
  have : p = ⟨Z128, none⟩ := List.eq_of_mem_replicate (List.mem_of_getElem? hp)
  subst this
  exact ⟨fun l h => (by cases h), fun _ => rfl⟩
theorem run_look {w : World} {gm k : Nat} {ps : List Pg} (h : MapOK w gm k ps) {i : Nat} {p : Pg} (hp : ps[i]? = some p) (hi : i < 9223372036854775808) (c : Bool) :
    (Instr.lookup 103 (.map (some gm)) (.int .i64 (i : Int)) c).run Try.prog w = .ok (if c then .tuple #[.agg ((p.new.getD Z128).map B8).toArray, .bool p.pend] else .agg ((p.new.getD Z128).map B8).toArray) w := by
  obtain ⟨D, ⟨es, clock, hb, F, _, hD⟩, hM, hp1, _⟩ := h
  obtain ⟨ha, hn⟩ := hp1 i p hp
  rcases Maps.fit_look c keyedI Try.underlying103 (zero_page w) hb F (key_int hi) with ⟨hrun, _, hat⟩ | ⟨e0, y, _, _, hrun, hRv, hat, _⟩
  · rw [← hD] at hat
    cases hpn : p.new with
    | none =>
      rw [hrun]
      unfold Pg.pend
      rw [hpn]; rfl
    | some l =>
      have h1 := ha l hpn .nil
      rw [hat] at h1
      cases h1
  · rw [← hD] at hat
    obtain ⟨l, hv, hy⟩ := pageR_inv hRv
    cases hpn : p.new with
    | none =>
      have h1 := Maps.atKey_of_not_has (hn hpn) (.nil : DataW Unit)
      rw [hat, hy] at h1
      cases h1
    | some l' =>
      have h1 := ha l' hpn .nil
      rw [hat, hy] at h1
      have h2 := Lit.string.inj (DataW.lit.inj h1)
      rw [hrun, hv, h2]
      unfold Pg.pend
      rw [hpn]; rfl
set_option maxRecDepth 100000 in
theorem MapOK.update {w : World} {gm k : Nat} {ps : List Pg} (h : MapOK w gm k ps) {i : Nat} {p : Pg} (hp : ps[i]? = some p) (hi : i < 9223372036854775808) (hk : k < maxLen) (l : List UInt8) :
    ∃ w', (Instr.mapUpdate 103 (.map (some gm)) (.int .i64 (i : Int)) (.agg (l.map B8).toArray)).run Try.prog w = .ok () w' ∧ MapOK w' gm (k + 1) (ps.set i ⟨p.old, some l⟩) ∧ w.grownBy w' (some gm) := by
  obtain ⟨D, hown, hM, hp1, hp2⟩ := h
  obtain ⟨w', hrun, hown', hgr⟩ := hown.update keyedI Try.underlying103 hk (key_int hi) (pageR_mk l)
  have hil : i < ps.length := (List.getElem?_eq_some_iff.1 hp).1
  have hkl : WideAt.IsKeyLit (kInt i) := keyedI.key (key_int hi)
  refine ⟨w', hrun, ⟨D.put (kInt i) (.lit (.string l)), hown', hM.put _ _, fun j q hq => ?_, fun kl hkl2 => ?_⟩, hgr⟩
  · by_cases hji : j = i
    · subst hji
      rw [List.getElem?_set_self hil] at hq
      injection hq with hq
      subst hq
      exact ⟨(fun l' hl' z => by cases hl'; exact Maps.atKey_put_same hM hkl _ _), (fun h => by cases h)⟩
    · rw [List.getElem?_set_ne (fun e => hji e.symm)] at hq
      have hne : kInt j ≠ kInt i := fun e => hji (kInt_inj e)
      obtain ⟨ha, hn⟩ := hp1 j q hq
      exact ⟨fun l' hl' z => by rw [Maps.atKey_put_other hne]; exact ha l' hl' z, fun hq0 => by rw [Maps.has_put_other hne]; exact hn hq0⟩
  · rw [List.length_set]
    by_cases hki : kl = kInt i
    · exact ⟨i, hil, hki⟩
    · rw [Maps.has_put_other hki] at hkl2
      exact hp2 kl hkl2
theorem run_clear {w : World} {gm k : Nat} {ps : List Pg} (h : MapOK w gm k ps) (ty : TypeId) :
    ∃ w', (Builtin.clear_ #[103] ty #[.map (some gm)]).run Try.prog w = .ok (.tuple #[]) w' ∧ (∀ qs : List Pg, (∀ q ∈ qs, q.new = none) → MapOK w' gm 0 qs) ∧ w.grownBy w' (some gm) := by
  obtain ⟨D, ⟨es, clock, hb, F, _, hD⟩, _⟩ := h
  refine ⟨setBlock w gm (.map #[] clock), ?_, fun qs hqs => ⟨.map [], ⟨#[], clock, heap_setBlock_same hb _, ⟨by simp, stamped_empty clock, by simp⟩, by simp, rfl⟩, Maps.isMap_empty, fun i p hp => ?_, fun kl h => by cases h⟩, ⟨rfl, rfl, rfl, by simp [setBlock], fun i _ hi => heap_setBlock_other hb _ (fun e => hi (by rw [e]))⟩⟩
  · simp [Builtin.clear_, run_underlying Try.underlying103, MapKept.run_getObj_map hb, run_setObj_map _ hb, Result.andThen, setBlock]
  · have := hqs p (List.mem_of_getElem? hp)
    exact ⟨(fun l h => by rw [this] at h; cases h), (fun _ => rfl)⟩
def pgCells (L : List (List UInt8)) : List Value := L.flatMap fun l => l.map B8
theorem pgCells_length : ∀ (L : List (List UInt8)), (∀ l ∈ L, l.length = 128) → (pgCells L).length = L.length * 128
  | [], _ => rfl
  | l :: L, h => by
    have e : pgCells (l :: L) = l.map B8 ++ pgCells L := by unfold pgCells; rw [List.flatMap_cons]
    rw [e, List.length_append, pgCells_length L (fun x hx => h x (List.mem_cons_of_mem _ hx)), List.length_map, h l List.mem_cons_self, List.length_cons]
    omega
theorem pgCells_split : ∀ (L : List (List UInt8)), (∀ l ∈ L, l.length = 128) → ∀ (i : Nat) (l : List UInt8), L[i]? = some l → ∃ A B, pgCells L = A ++ l.map B8 ++ B ∧ A.length = i * 128 ∧ ∀ r : List UInt8, pgCells (L.set i r) = A ++ r.map B8 ++ B
  | [], _, _, _, h => by cases h
  | x :: L, hL, 0, l, h => by
    cases h
    exact ⟨[], pgCells L, by simp [pgCells], rfl, fun r => by simp [pgCells]⟩
  | x :: L, hL, i + 1, l, h => by
    obtain ⟨A, B, h1, h2, h3⟩ := pgCells_split L (fun y hy => hL y (List.mem_cons_of_mem _ hy)) i l (by simpa using h)
    have hx := hL x List.mem_cons_self
    refine ⟨x.map B8 ++ A, B, ?_, ?_, fun r => ?_⟩
    · show (x :: L).flatMap _ = _
      rw [List.flatMap_cons]
      show x.map B8 ++ pgCells L = _
      rw [h1]; simp
    · rw [List.length_append, List.length_map, hx, h2]; omega
    · show ((x :: L).set (i + 1) r).flatMap _ = _
      rw [List.set_cons_succ, List.flatMap_cons]
      show x.map B8 ++ pgCells (L.set i r) = _
      rw [h3]; simp
theorem pgCells_get (L : List (List UInt8)) (hL : ∀ l ∈ L, l.length = 128) (i : Nat) (l : List UInt8) (h : L[i]? = some l) {j : Nat} {u : Value} (hu : (l.map B8)[j]? = some u) : (pgCells L)[i * 128 + j]? = some u := by
  obtain ⟨A, B, h1, h2, _⟩ := pgCells_split L hL i l h
  have hj : j < (l.map B8).length := (List.getElem?_eq_some_iff.1 hu).1
  rw [h1, List.append_assoc, List.getElem?_append_right (by omega), h2, show i * 128 + j - i * 128 = j by omega, List.getElem?_append_left hj]
  exact hu
theorem pgCells_splice (L : List (List UInt8)) (hL : ∀ l ∈ L, l.length = 128) (i : Nat) (l r : List UInt8) (h : L[i]? = some l) (hr : r.length = 128) : splice (pgCells L) (i * 128) (r.map B8) = pgCells (L.set i r) := by
  obtain ⟨A, B, h1, h2, h3⟩ := pgCells_split L hL i l h
  have hl := hL l (List.mem_of_getElem? h)
  rw [h3, h1]
  unfold splice
  rw [List.append_assoc, List.take_append_of_le_length (by omega), List.take_of_length_le (by omega), List.length_map, hr]
  simp only [List.append_assoc]
  congr 1
  congr 1
  rw [List.drop_append, List.drop_eq_nil_of_le (by omega), List.nil_append, h2, List.drop_append, List.length_map, hl, List.drop_eq_nil_of_le (by rw [List.length_map, hl]; omega), List.nil_append, show i * 128 + 128 - i * 128 - 128 = 0 by omega, List.drop_zero]
theorem image_128 {M : DM} (hM : M.ok) : ∀ l ∈ M.image, l.length = 128 := by
  intro l hl
  obtain ⟨p, hp, rfl⟩ := List.mem_map.1 hl
  exact (hM.1 p hp).1
theorem image_at {M : DM} {i : Nat} (h : i < M.ps.length) : M.image[i]? = some (M.page i).old := by unfold DM.image; rw [List.getElem?_map, DM.page_at h]; rfl
theorem get_app {L Y : List Value} {i : Nat} {u : Value} (h : L[i]? = some u) : (L ++ Y)[i]? = some u := by
  rw [List.getElem?_append_left (List.getElem?_eq_some_iff.1 h).1]; exact h
theorem splice_tail {A B cs : List Value} {o : Nat} (Y : List Value) (h : splice A o cs = B) (hl : o + cs.length ≤ A.length) : splice (A ++ Y) o cs = B ++ Y := by
  rw [← h]
  unfold splice
  rw [List.take_append_of_le_length (by omega), List.drop_append_of_le_length hl]
  simp only [List.append_assoc]
/-- The program's disk at a record gd, pages gp and a map gm; behind the pages lies Y. -/
structure PRep (w : World) (gd gp gm cp : Nat) (Y : List Value) (M : DM) (k : Nat) : Prop where
  d : Blk w gd 105 [.slice (some ⟨gp, 0, none⟩) M.ps.length cp, .map (some gm), .bool M.up, .int .i64 M.trip]
  p : Blk w gp 108 (pgCells M.image ++ Y)
  m : MapOK w gm k M.ps
  n1 : gd ≠ gp
  n2 : gd ≠ gm
  n3 : gp ≠ gm
theorem PRep.only {L : List Nat} {w w' : World} {gd gp gm cp : Nat} {Y : List Value} {M : DM} {k : Nat} (h : PRep w gd gp gm cp Y M k) (ho : Only L w w') (h1 : gd ∉ L) (h2 : gp ∉ L) (h3 : gm ∉ L) : PRep w' gd gp gm cp Y M k :=
  ⟨h.d.only ho h1, h.p.only ho h2, h.m.only ho h3, h.n1, h.n2, h.n3⟩
theorem PRep.next {w w' : World} {gd gp gm cp : Nat} {Y : List Value} {M : DM} {k : Nat} (h : PRep w gd gp gm cp Y M k) (hb : Below w.heap.size w w') : PRep w' gd gp gm cp Y M k := h.only (Only.of_below (L := []) hb) (by simp) (by simp) (by simp)
theorem PRep.mono {w : World} {gd gp gm cp : Nat} {Y : List Value} {M : DM} {k k' : Nat} (h : PRep w gd gp gm cp Y M k) (hk : k ≤ k') : PRep w gd gp gm cp Y M k' := ⟨h.d, h.p, h.m.mono hk, h.n1, h.n2, h.n3⟩
theorem PRep.row {w : World} {gd gp gm cp : Nat} {Y : List Value} {M : DM} {k : Nat} (h : PRep w gd gp gm cp Y M k) (hM : M.ok) {i : Nat} (hi : i < M.ps.length) : w.rangeAt gp (i * 128) ((M.page i).old.map B8) := fun _j _u hu => h.p.cell (get_app (pgCells_get M.image (image_128 hM) i _ (image_at hi) hu))
end Go.Proofs.Ythgmlopkcgkjlaa

/-
  Contracts of the walks over disk.Len, Up, has, step and Trip. Conditions: the record holds the disk.
-/
namespace Go.Proofs.Ythgmlopkcgkjlaa
open Go.RowKit

theorem Try.sz3 : (Try.prog.info? 3).map (·.size) = some 1 := by kernel_rfl
theorem Try.sz4 : (Try.prog.info? 4).map (·.size) = some 1 := by kernel_rfl
theorem len_any (gd gp gm k cp : Nat) (Y : List Value) (M : DM) (w : World) (h : PRep w gd gp gm cp Y M k) :
    Calls Try.prog 55 #[.pointer (some ⟨gd, 0, none⟩)] w fun e w' => e = .returned (.int .i64 (M.ps.length : Int)) ∧ w = w' := by
  have c0 := h.d.cell (k := 0) rfl
  clear h
  go_enter Try.func55, Try.ntmps55
  go_wp2
  go_ret
  exact ⟨rfl, rfl⟩
theorem up_any (gd gp gm k cp : Nat) (Y : List Value) (M : DM) (w : World) (h : PRep w gd gp gm cp Y M k) :
    Calls Try.prog 25 #[.pointer (some ⟨gd, 0, none⟩)] w fun e w' => e = .returned (.bool M.up) ∧ w = w' := by
  have c2 := h.d.cell (k := 2) rfl
  clear h
  go_enter Try.func25, Try.ntmps25
  go_wp2
  go_ret
  exact ⟨rfl, rfl⟩
theorem has_any (gd gp gm k cp : Nat) (Y : List Value) (M : DM) (i : Int) (b : Bool) (w : World) (hb : M.okP i = b) (h : PRep w gd gp gm cp Y M k) :
    Calls Try.prog 67 #[.pointer (some ⟨gd, 0, none⟩), .int .i64 i] w fun e w' => e = .returned (.bool b) ∧ w = w' := by
  have c0 := h.d.cell (k := 0) rfl
  obtain ⟨n, hn⟩ : ∃ n, M.ps.length = n := ⟨_, rfl⟩
  unfold DM.okP at hb
  rw [hn] at hb c0
  clear h hn
  by_cases h0 : 0 ≤ i
  · by_cases h1 : i < (n : Int)
    · have hbt : b = true := by rw [← hb]; exact decide_eq_true ⟨h0, h1⟩
      subst hbt
      clear hb
      go_enter Try.func67, Try.ntmps67
      go_wp2
      go_ret
      exact ⟨rfl, rfl⟩
    · have hbf : b = false := by rw [← hb]; exact decide_eq_false (fun h => h1 h.2)
      subst hbf
      clear hb
      go_enter Try.func67, Try.ntmps67
      go_wp2
      go_ret
      exact ⟨rfl, rfl⟩
  · have hbf : b = false := by rw [← hb]; exact decide_eq_false (fun h => h0 h.1)
    subst hbf
    clear hb
    go_enter Try.func67, Try.ntmps67
    go_wp2
    go_ret
    exact ⟨rfl, rfl⟩
theorem PRep.turn {w w' : World} {gd gp gm cp : Nat} {Y : List Value} {M M' : DM} {k : Nat} (h : PRep w gd gp gm cp Y M k) (hu : Upd gd w w') (hps : M'.ps = M.ps) (hd : Blk w' gd 105 [.slice (some ⟨gp, 0, none⟩) M.ps.length cp, .map (some gm), .bool M'.up, .int .i64 M'.trip]) : PRep w' gd gp gm cp Y M' k := by
  have ho := Only.of_upd (L := [gd]) hu (by simp)
  exact ⟨by rw [hps]; exact hd, by unfold DM.image; rw [hps]; exact h.p.only ho (by simpa using h.n1.symm), by rw [hps]; exact h.m.only ho (by simpa using h.n2.symm), h.n1, h.n2, h.n3⟩
set_option maxRecDepth 100000 in
theorem step_any (gd gp gm k cp : Nat) (Y : List Value) (M : DM) (w : World) (hup : M.up = true) (hM : M.ok) (h : PRep w gd gp gm cp Y M k) :
    Calls Try.prog 69 #[.pointer (some ⟨gd, 0, none⟩)] w fun e w' => e = .returned (.bool M.step.up) ∧ PRep w' gd gp gm cp Y M.step k ∧ Only [gd] w w' := by
  have c2 := h.d.cell (k := 2) rfl
  have c3 := h.d.cell (k := 3) rfl
  have hB := h.d
  have hR := fun w1 => h.turn (w' := w1) (M' := M.step)
  obtain ⟨n, hn⟩ : ∃ n, M.ps.length = n := ⟨_, rfl⟩
  obtain ⟨t, ht⟩ : ∃ t, M.trip = t := ⟨_, rfl⟩
  rw [hn] at hB hR
  rw [ht] at hB c3
  rw [hup] at hB c2
  have ht1 : -1 ≤ t := by rw [← ht]; exact hM.2.1
  have ht2 : t ≤ 9223372036854775807 := by rw [← ht]; exact hM.2.2.1
  have hps : M.step.ps = M.ps := by unfold DM.step; split <;> (try split) <;> rfl
  by_cases h0 : t = 0
  · have e1 : M.step = { M with up := false } := by unfold DM.step; rw [if_pos (ht.trans h0)]
    have e2 : M.step.up = false := by rw [e1]
    have e3 : M.step.trip = 0 := by rw [e1]; exact ht.trans h0
    rw [e2, e3] at hR
    rw [e2]
    subst h0
    have HR := Lib.hid hR
    have HPS := Lib.hid hps
    clear hR hps e1 e2 e3 h hM hup hn ht
    go_enter Try.func69, Try.ntmps69
    go_wp2_with (with_reducible refine wpList_put (o := ⟨none, .store 4 (.tmp 11) (.const (.bool false)), _, _, _, _⟩) (by with_unfolding_all rfl) 4 (.tmp 11) (.const (.bool false)) (by with_unfolding_all rfl) gd 2 (by with_unfolding_all rfl) (.bool false) (by with_unfolding_all rfl) hB [(.bool false)] (by with_unfolding_all rfl) (by with_unfolding_all exact Try.sz4) (by with_unfolding_all simp) (by with_unfolding_all exact one_cell1 rfl) ?_)
    intro w1 hu1 hB1
    have c2' := hB1.cell (k := 2) (v := .bool false) rfl
    clear c2 c3
    go_wp2
    go_ret
    exact ⟨rfl, HR.out _ hu1 HPS.out hB1, Only.of_upd hu1 (by simp)⟩
  · by_cases h1 : t = -1
    · have e1 : M.step = M := by unfold DM.step; rw [if_neg (fun e => h0 (ht.symm.trans e)), if_pos (ht.trans h1)]
      rw [e1, hup]
      subst h1
      have HH := Lib.hid h
      clear hR hps e1 h hM hup hn ht h0
      go_enter Try.func69, Try.ntmps69
      go_wp2
      go_ret
      exact ⟨rfl, HH.out, Only.refl _ _⟩
    · have e1 : M.step = { M with trip := M.trip - 1 } := by unfold DM.step; rw [if_neg (fun e => h0 (ht.symm.trans e)), if_neg (fun e => h1 (ht.symm.trans e))]
      have e2 : M.step.up = true := by rw [e1]; exact hup
      have e3 : M.step.trip = t - 1 := by rw [e1]; show M.trip - 1 = _; rw [ht]
      rw [e2, e3] at hR
      rw [e2]
      have hb0 : (t == 0) = false := beq_eq_false_iff_ne.2 h0
      have hb1 : (t != -1) = true := bne_iff_ne.2 h1
      have ht0 : 1 ≤ t := by omega
      have HR := Lib.hid hR
      have HPS := Lib.hid hps
      clear hR hps e1 e2 e3 h hM hup hn ht h0 h1 ht1
      go_enter Try.func69, Try.ntmps69
      go_wp2_with (with_reducible refine wpList_put (o := ⟨none, .store 3 (.tmp 24) (.tmp 22), _, _, _, _⟩) (by with_unfolding_all rfl) 3 (.tmp 24) (.tmp 22) (by with_unfolding_all rfl) gd 3 (by with_unfolding_all rfl) (.int .i64 (t - 1)) (by with_unfolding_all rfl) hB [(.int .i64 (t - 1))] (by with_unfolding_all rfl) (by with_unfolding_all exact Try.sz3) (by with_unfolding_all simp) (by with_unfolding_all exact one_cell1 rfl) ?_)
      intro w1 hu1 hB1
      have c2' := hB1.cell (k := 2) (v := .bool true) rfl
      clear c2 c3
      go_wp2
      go_ret
      exact ⟨rfl, HR.out _ hu1 HPS.out hB1, Only.of_upd hu1 (by simp)⟩
set_option maxRecDepth 100000 in
theorem trip_any (gd gp gm k cp : Nat) (Y : List Value) (M : DM) (n : Int) (w : World) (hn1 : -9223372036854775808 ≤ n) (hn2 : n ≤ 9223372036854775807) (h : PRep w gd gp gm cp Y M k) :
    Calls Try.prog 22 #[.pointer (some ⟨gd, 0, none⟩), .int .i64 n] w fun e w' => e = .returned (.tuple #[]) ∧ PRep w' gd gp gm cp Y (M.tripTo n) k ∧ Only [gd] w w' := by
  have hB := h.d
  have hR := fun w1 => h.turn (w' := w1) (M' := M.tripTo n)
  obtain ⟨m, hm⟩ : ∃ m, M.ps.length = m := ⟨_, rfl⟩
  have c3 := h.d.cell (k := 3) rfl
  rw [hm] at hB hR
  have e3 : (M.tripTo n).trip = max n (-1) := rfl
  have e2 : (M.tripTo n).up = M.up := rfl
  rw [e2, e3] at hR
  by_cases hlt : n < -1
  · rw [show max n (-1) = -1 by omega] at hR
    have HR := Lib.hid hR
    clear hR h hm e2 e3
    go_enter Try.func22, Try.ntmps22
    go_wp2_with (with_reducible refine wpList_put (o := ⟨none, .store 3 (.tmp 8) (.tmp 6), _, _, _, _⟩) (by with_unfolding_all rfl) 3 (.tmp 8) (.tmp 6) (by with_unfolding_all rfl) gd 3 (by with_unfolding_all rfl) (.int .i64 (-1)) (by with_unfolding_all rfl) hB [(.int .i64 (-1))] (by with_unfolding_all rfl) (by with_unfolding_all exact Try.sz3) (by with_unfolding_all simp) (by with_unfolding_all exact one_cell1 rfl) ?_)
    intro w1 hu1 hB1
    go_wp2
    go_end0
    exact ⟨rfl, HR.out _ hu1 rfl hB1, Only.of_upd hu1 (by simp)⟩
  · have hge : -1 ≤ n := by omega
    rw [show max n (-1) = n by omega] at hR
    have HR := Lib.hid hR
    clear hR h hm e2 e3 hlt
    go_enter Try.func22, Try.ntmps22
    go_wp2_with (with_reducible refine wpList_put (o := ⟨none, .store 3 (.tmp 8) (.tmp 6), _, _, _, _⟩) (by with_unfolding_all rfl) 3 (.tmp 8) (.tmp 6) (by with_unfolding_all rfl) gd 3 (by with_unfolding_all rfl) (.int .i64 n) (by with_unfolding_all rfl) hB [(.int .i64 n)] (by with_unfolding_all rfl) (by with_unfolding_all exact Try.sz3) (by with_unfolding_all simp) (by with_unfolding_all exact one_cell1 rfl) ?_)
    intro w1 hu1 hB1
    go_wp2
    go_end0
    exact ⟨rfl, HR.out _ hu1 rfl hB1, Only.of_upd hu1 (by simp)⟩
end Go.Proofs.Ythgmlopkcgkjlaa

/-
  Contracts of the walks over disk.latest and Read. Conditions: the record holds the disk.
-/
namespace Go.Proofs.Ythgmlopkcgkjlaa
open Go.RowKit

theorem Try.zeroP : (Try.prog.info? 108).map (·.zero) = some (some (.agg (Z128.map B8).toArray)) := by kernel_rfl
theorem Try.sizeP : (Try.prog.info? 108).map (·.size) = some 128 := by kernel_rfl
theorem Try.sz5 : (Try.prog.info? 5).map (·.size) = some 1 := by kernel_rfl
theorem Z128_length : (Z128.map B8).length = 128 := by rfl
set_option maxRecDepth 100000 in
set_option maxHeartbeats 1600000 in
theorem latest_any (gd gp gm k cp : Nat) (Y : List Value) (M : DM) (i : Nat) (R : List UInt8) (w : World) (hi : i < M.ps.length) (hM : M.ok) (hR : (M.page i).now = R) (h : PRep w gd gp gm cp Y M k) :
    Calls Try.prog 68 #[.pointer (some ⟨gd, 0, none⟩), .int .i64 (i : Int)] w fun e w' => e = .returned (.agg (R.map B8).toArray) ∧ Below w.heap.size w w' := by
  have hRl : Hid (R.length = 128) := by rw [← hR]; exact Pg.now_length (DM.page_ok hM hi)
  have hi63 : i < 9223372036854775808 := by have := hM.2.2.2; omega
  obtain ⟨p, hp⟩ : ∃ p, M.page i = p := ⟨_, rfl⟩
  have hpa := DM.page_at hi
  rw [hp] at hpa hR
  obtain ⟨X, hX⟩ : ∃ X, p.new.getD Z128 = X := ⟨_, rfl⟩
  have hpk : p.ok := hp ▸ DM.page_ok hM hi
  have hXl : Hid ((X.map B8).length = 128) := by
    have : (X.map B8).length = 128 := by
      rw [List.length_map, ← hX]
      cases hn : p.new with
      | none => rfl
      | some l => exact hpk.2 l hn
    exact this
  obtain ⟨b, hb⟩ : ∃ b, p.pend = b := ⟨_, rfl⟩
  have hcase : (b = true ∧ R = X) ∨ (b = false ∧ R = p.old) := by
    rw [← hb, ← hX, ← hR]
    unfold Pg.pend Pg.now
    cases p.new with
    | none => exact Or.inr ⟨rfl, rfl⟩
    | some l => exact Or.inl ⟨rfl, rfl⟩
  have hol : Hid ((p.old.map B8).length = 128) := by
    have : (p.old.map B8).length = 128 := by rw [List.length_map]; exact hpk.1
    exact this
  have hRN : Hid ((R.map B8).length = 128) := by
    have : (R.map B8).length = 128 := by rw [List.length_map]; exact hRl.out
    exact this
  have HH := h
  have HM := hM
  have HI := Lib.hid hi
  have HPA := Lib.hid hpa
  have HX := Lib.hid hX
  have HBP := Lib.hid hb
  have HPP := Lib.hid hp
  obtain ⟨n, hn⟩ : ∃ n, Hid (M.ps.length = n) := ⟨_, rfl⟩
  have hin : (i : Int) < (n : Int) := by have := hn.out; omega
  clear hR hpa hX hb hp h hM hpk hi
  go_enter Try.func68, Try.ntmps68
  go_wp2_with (with_reducible refine wpList_alloc (o := ⟨some 4, .alloc 108, _, _, _, _⟩) (by with_unfolding_all rfl) 108 (by with_unfolding_all rfl) (.agg (Z128.map B8).toArray) (Z128.map B8) (by exact Try.zeroP) (by with_unfolding_all rfl) ?_)
  intro g4 w1 hg4 hs1 hb1 hB4
  have hle : w.heap.size ≤ g4 := Nat.le_of_eq hg4.out.symm
  have hbel1 : Below w.heap.size w w1 := hb1.mono hle
  have h1 := HH.next hbel1
  have c0 := h1.d.cell (k := 0) rfl
  have c1 := h1.d.cell (k := 1) rfl
  rw [hn.out] at c0
  have hl := run_look h1.m HPA.out hi63 true
  rw [HX.out, HBP.out] at hl
  simp only [if_true] at hl
  clear hg4 hs1 hb1
  go_wp2_with (with_reducible refine wpList_alloc (o := ⟨some 5, .alloc 108, _, _, _, _⟩) (by with_unfolding_all rfl) 108 (by with_unfolding_all rfl) (.agg (Z128.map B8).toArray) (Z128.map B8) (by exact Try.zeroP) (by with_unfolding_all rfl) ?_)
  intro g5 w2 hg5 hs2 hb2 hB5
  have hle5 : w1.heap.size ≤ g5 := Nat.le_of_eq hg5.out.symm
  clear hl c0 c1
  go_wp2_with (with_reducible refine wpList_put (o := ⟨none, .store 108 (.tmp 5) (.tmp 14), _, _, _, _⟩) (by with_unfolding_all rfl) 108 (.tmp 5) (.tmp 14) (by with_unfolding_all rfl) g5 0 (by with_unfolding_all rfl) (.agg (X.map B8).toArray) (by with_unfolding_all rfl) hB5 (X.map B8) (by with_unfolding_all rfl) (by rw [hXl.out]; exact Try.sizeP) (by with_unfolding_all (rw [hXl.out, Z128_length]; exact Nat.le_refl _)) (B8_one _) ?_)
  intro w3 hu3 hB53
  rw [splice_all _ _ (by rw [hXl.out, Z128_length])] at hB53
  have hb3 : Below w1.heap.size w1 w3 := (hb2.mono hle5).trans (hu3.below (B := w1.heap.size) hle5)
  have hB43 := hB4.next hb3 hB4.lt
  have h3 := h1.next hb3
  have hbel3 := below_join hbel1 hb3
  clear hB4 hb2 hB5 hu3 hb3 h1 hbel1 hg5 hs2
  rcases hcase with ⟨rfl, rfl⟩ | ⟨rfl, rfl⟩
  · go_wp2_with (first | (with_reducible refine wpList_get (o := ⟨some 17, .load 108 (.tmp 5), _, _, _, _⟩) (by with_unfolding_all rfl) 108 (.tmp 5) (by with_unfolding_all rfl) g5 0 (by with_unfolding_all rfl) hB53 (R.map B8) (cs_all _) (.array 128 5) (by exact Try.underlying108) (by with_unfolding_all rfl) (by rw [hXl.out]; exact Try.sizeP) ?_) | (with_reducible refine wpList_put (o := ⟨none, .store 108 (.tmp 4) (.tmp 17), _, _, _, _⟩) (by with_unfolding_all rfl) 108 (.tmp 4) (.tmp 17) (by with_unfolding_all rfl) g4 0 (by with_unfolding_all rfl) (.agg (R.map B8).toArray) (by with_unfolding_all rfl) hB43 (R.map B8) (by with_unfolding_all rfl) (by rw [hXl.out]; exact Try.sizeP) (by with_unfolding_all (rw [hXl.out, Z128_length]; exact Nat.le_refl _)) (B8_one _) ?_))
    intro w4 hu4 hB44
    rw [splice_all _ _ (by rw [hXl.out, Z128_length])] at hB44
    have hbel4 := hbel3.trans (hu4.below (B := w.heap.size) hle)
    go_wp2
    refine bodyPost_ret (results_cell_row rfl _ _ g4 _ _ _ _ rfl hB44 Try.underlying108 rfl (by rw [List.size_toArray, hXl.out]; exact Try.sizeP)) rfl ⟨rfl, hbel4⟩
  · have c0 := h3.d.cell (k := 0) rfl
    rw [hn.out] at c0
    have hrow := h3.row HM HI.out
    rw [HPP.out] at hrow
    have hun := Try.underlying108
    have hz : (Try.prog.info? 108).map (·.size) = some (p.old.map B8).length := by rw [hol.out]; exact Try.sizeP
    go_wp2_with (first | (with_reducible refine wpList_load_mid (op := ⟨some 24, .load 108 (.tmp 23), _, _, _, _⟩) (by with_unfolding_all rfl) 108 (.tmp 23) (by with_unfolding_all rfl) gp (i * 128) (by with_unfolding_all rfl) (p.old.map B8) (.array 128 5) hrow hun (by with_unfolding_all rfl) hz ?_) | (with_reducible refine wpList_put (o := ⟨none, .store 108 (.tmp 4) (.tmp 24), _, _, _, _⟩) (by with_unfolding_all rfl) 108 (.tmp 4) (.tmp 24) (by with_unfolding_all rfl) g4 0 (by with_unfolding_all rfl) (.agg (p.old.map B8).toArray) (by with_unfolding_all rfl) hB43 (p.old.map B8) (by with_unfolding_all rfl) (by rw [hol.out]; exact Try.sizeP) (by with_unfolding_all (rw [hol.out, Z128_length]; exact Nat.le_refl _)) (B8_one _) ?_))
    intro w4 hu4 hB44
    rw [splice_all _ _ (by rw [hol.out, Z128_length])] at hB44
    have hbel4 := hbel3.trans (hu4.below (B := w.heap.size) hle)
    go_wp2
    refine bodyPost_ret (results_cell_row rfl _ _ g4 _ _ _ _ rfl hB44 Try.underlying108 rfl (by rw [List.size_toArray, hol.out]; exact Try.sizeP)) rfl ⟨rfl, hbel4⟩
set_option maxRecDepth 100000 in
set_option maxHeartbeats 1600000 in
theorem read_any (gd gp gm k cp : Nat) (Y : List Value) (M : DM) (i : Int) (R : List UInt8) (e : Int) (w : World) (hM : M.ok) (hR : M.readS i = R) (he : M.readE i = e) (h : PRep w gd gp gm cp Y M k) :
    Calls Try.prog 23 #[.pointer (some ⟨gd, 0, none⟩), .int .i64 i] w fun x w' => x = .returned (.tuple #[.string ⟨R.toArray⟩, .int .i64 e]) ∧ Below w.heap.size w w' := by
  have c2 := h.d.cell (k := 2) rfl
  obtain ⟨u, hu⟩ : ∃ u, M.up = u := ⟨_, rfl⟩
  rw [hu] at c2
  unfold DM.readS at hR
  unfold DM.readE at he
  rw [hu] at hR he
  cases u with
  | false =>
    simp only [Bool.false_eq_true, if_false] at hR he
    subst hR he
    clear h hM hu
    go_enter Try.func23, Try.ntmps23
    go_wp2
    go_ret2
    exact ⟨rfl, Below.refl _ _⟩
  | true =>
    simp only [if_true] at hR he
    by_cases hp : M.okP i = true
    · rw [if_pos hp] at hR he
      obtain ⟨j, rfl, hj⟩ := DM.okP_nat hp
      rw [Int.toNat_natCast] at hR
      subst he
      have hRl : Hid (R.length = 128) := by rw [← hR]; exact Pg.now_length (DM.page_ok hM hj)
      have hRN : Hid ((R.map B8).length = 128) := by
        have : (R.map B8).length = 128 := by rw [List.length_map]; exact hRl.out
        exact this
      have HR := Lib.hid hR
      have HP := Lib.hid hp
      clear hR hp hu
      go_enter Try.func23, Try.ntmps23
      go_wp2_with fail
      (with_reducible refine (has_any gd gp gm k cp Y M _ true _ HP.out h).mono ?_)
      rintro e w' ⟨rfl, rfl⟩
      go_wp2_with fail
      (with_reducible refine (latest_any gd gp gm k cp Y M j R _ hj hM HR.out h).mono ?_)
      rintro e w1 ⟨rfl, hb1⟩
      clear c2
      go_wp2_with (with_reducible refine wpList_alloc (o := ⟨some 6, .alloc 108, _, _, _, _⟩) (by with_unfolding_all rfl) 108 (by with_unfolding_all rfl) (.agg (Z128.map B8).toArray) (Z128.map B8) (by exact Try.zeroP) (by with_unfolding_all rfl) ?_)
      intro g6 w2 hg6 hs2 hb2 hB6
      have hle : w1.heap.size ≤ g6 := Nat.le_of_eq hg6.out.symm
      go_wp2_with (with_reducible refine wpList_put (o := ⟨none, .store 108 (.tmp 6) (.tmp 20), _, _, _, _⟩) (by with_unfolding_all rfl) 108 (.tmp 6) (.tmp 20) (by with_unfolding_all rfl) g6 0 (by with_unfolding_all rfl) (.agg (R.map B8).toArray) (by with_unfolding_all rfl) hB6 (R.map B8) (by with_unfolding_all rfl) (by rw [hRN.out]; exact Try.sizeP) (by with_unfolding_all (rw [hRN.out, Z128_length]; exact Nat.le_refl _)) (B8_one _) ?_)
      intro w3 hu3 hB63
      rw [splice_all _ _ (by rw [hRN.out, Z128_length])] at hB63
      have hbel3 := below_join hb1 ((hb2.mono hle).trans (hu3.below (B := w1.heap.size) hle))
      have hcv := run_conv_at w3 (some ⟨g6, 0, none⟩) 128 128 R hRl.out.symm (fun j u hu => ⟨_, rfl, by rw [addr_mid, Nat.zero_add]; exact hB63.cell hu⟩)
      clear hb1 hb2 hB6 hu3 hg6 hs2
      go_wp2_with (with_reducible refine wpList_cutA (o := ⟨some 21, .slice 108 (.tmp 6) none none none, _, _, _, _⟩) (by with_unfolding_all rfl) 108 (.tmp 6) (by with_unfolding_all rfl) g6 0 (by with_unfolding_all rfl) 128 5 Try.underlying108 Try.sz5 (by decide) ?_)
      go_ret2
      exact ⟨rfl, hbel3⟩
    · have hpf : M.okP i = false := by simpa using hp
      rw [if_neg hp] at hR he
      subst hR he
      have HP := Lib.hid hpf
      clear hp hpf hu
      go_enter Try.func23, Try.ntmps23
      go_wp2_with fail
      (with_reducible refine (has_any gd gp gm k cp Y M _ false _ HP.out h).mono ?_)
      rintro e w' ⟨rfl, rfl⟩
      go_wp2
      go_ret2
      exact ⟨rfl, Below.refl _ _⟩
end Go.Proofs.Ythgmlopkcgkjlaa
