/-
  How the program holds a disk: its record, its pages, its map of pending pages; what lookups, stores and clear do with it. Conditions: none.
-/
import Derived.Test.YtbmoedgokimhmaaDm
import Derived.Maps.Own
import Derived.Maps.OwnSet
import Derived.Maps.Views
import Derived.Maps.RangeWalk
namespace Go.Proofs.Ytbmoedgokimhmaa
open Go.RowKit Go.ChangeMaps Go.MapKept
open Go.WideElems (Fit)
open Go.Maps (Keyed)

theorem B8_inj : ∀ {l r : List UInt8}, l.map B8 = r.map B8 → l = r
  | [], [], _ => rfl
  | [], _ :: _, h => by cases h
  | _ :: _, [], h => by cases h
  | a :: l, b :: r, h => by
    simp only [List.map_cons, List.cons.injEq] at h
    have h1 : a = b := by
      have := h.1
      unfold B8 at this
      injection this with _ h2
      exact UInt8.toNat_inj.1 (by omega)
    rw [h1, B8_inj h.2]
open Classical in
/-- How a page reads that is an element of the map. -/
noncomputable def pageR (v : Value) : Option (DataW Unit × List MemPlace) := if h : ∃ l : List UInt8, v = .agg (l.map B8).toArray then some (.lit (.string h.choose), []) else none
theorem agg_inj {l r : List UInt8} (h : Value.agg (l.map B8).toArray = .agg (r.map B8).toArray) : l = r := by
  injection h with h
  exact B8_inj (by simpa using congrArg Array.toList h)
theorem pageR_mk (l : List UInt8) : pageR (.agg (l.map B8).toArray) = some (.lit (.string l), []) := by
  have h : ∃ r : List UInt8, Value.agg (l.map B8).toArray = .agg (r.map B8).toArray := ⟨l, rfl⟩
  unfold pageR
  rw [dif_pos h]
  rw [← agg_inj h.choose_spec]
theorem pageR_inv {v : Value} {y : DataW Unit × List MemPlace} (h : pageR v = some y) : ∃ l : List UInt8, v = .agg (l.map B8).toArray ∧ y = (.lit (.string l), []) := by
  unfold pageR at h
  split at h
  · rename_i hv
    injection h with h
    exact ⟨hv.choose, hv.choose_spec, h.symm⟩
  · cases h
def kInt (i : Nat) : Lit := .int .i64 (i : Int)
theorem kInt_inj {i j : Nat} (h : kInt i = kInt j) : i = j := by unfold kInt at h; injection h with _ h; omega
theorem wf_int {i : Nat} (h : i < 9223372036854775808) : (Lit.int .i64 (i : Int)).wf = true := by
  have h1 : IntKind.i64.min = -9223372036854775808 := rfl
  have h2 : IntKind.i64.max = 9223372036854775807 := rfl
  simp only [Lit.wf, Bool.and_eq_true, decide_eq_true_eq]
  omega
theorem key_int {i : Nat} (h : i < 9223372036854775808) : keyOf Try.prog 3 (.int .i64 (i : Int)) = some (kInt i) := by
  have hw := wf_int h
  unfold keyOf
  rw [Try.underlying3]
  unfold mapKey
  rw [Try.underlying3]
  simp only [hw, and_self, if_true]
  rfl
theorem keyedI : Keyed Try.prog 3 := Maps.int_keyed Try.underlying3
theorem zero_page (w : World) : (zeroValue 108).run Try.prog w = .ok (.agg (Z128.map B8).toArray) w := by kernel_rfl
def MapOK (w : World) (gm k : Nat) (ps : List Pg) : Prop :=
  ∃ D : DataW Unit, w.ownsMap Try.prog 3 pageR gm k D ∧ Maps.IsMap D ∧ (∀ i p, ps[i]? = some p → (∀ l, p.new = some l → ∀ z, D.atKey (kInt i) z = .lit (.string l)) ∧ (p.new = none → Maps.has D (kInt i) = false)) ∧ (∀ kl, Maps.has D kl = true → ∃ i : Nat, i < ps.length ∧ kl = kInt i)
theorem MapOK.mono {w : World} {gm k k' : Nat} {ps : List Pg} (h : MapOK w gm k ps) (hk : k ≤ k') : MapOK w gm k' ps := by
  obtain ⟨D, h1, h2⟩ := h
  exact ⟨D, h1.mono hk, h2⟩
theorem MapOK.lt {w : World} {gm k : Nat} {ps : List Pg} (h : MapOK w gm k ps) : gm < w.heap.size := by
  obtain ⟨D, h1, _⟩ := h
  exact h1.lt
theorem MapOK.only {L : List Nat} {w w' : World} {gm k : Nat} {ps : List Pg} (h : MapOK w gm k ps) (ho : Only L w w') (hg : gm ∉ L) : MapOK w' gm k ps := by
  obtain ⟨D, h1, h2⟩ := h
  have hlt := h1.lt
  obtain ⟨es, clock, hb, F, hs, hD⟩ := h1
  exact ⟨D, ⟨es, clock, (ho.block gm hlt hg).trans hb, F, hs, hD⟩, h2⟩
theorem MapOK.made (w : World) (n : Nat) : MapOK (w.alloc (.map #[] 0)) w.heap.size 0 (List.replicate n ⟨Z128, none⟩) := by
  refine ⟨.map [], World.ownsMap_made w _ _ _, Maps.isMap_empty, fun i p hp => ?_, fun kl h => by cases h⟩
  have : p = ⟨Z128, none⟩ := List.eq_of_mem_replicate (List.mem_of_getElem? hp)
  subst this
  exact ⟨fun l h => (by cases h), fun _ => rfl⟩
theorem run_look {w : World} {gm k : Nat} {ps : List Pg} (h : MapOK w gm k ps) {i : Nat} {p : Pg} (hp : ps[i]? = some p) (hi : i < 9223372036854775808) (c : Bool) :
    (Instr.lookup 103 (.map (some gm)) (.int .i64 (i : Int)) c).run Try.prog w = .ok (if c then .tuple #[.agg ((p.new.getD Z128).map B8).toArray, .bool p.pend] else .agg ((p.new.getD Z128).map B8).toArray) w := by
  obtain ⟨D, ⟨es, clock, hb, F, _, hD⟩, hM, hp1, _⟩ := h
  obtain ⟨ha, hn⟩ := hp1 i p hp
  rcases Maps.fit_look c keyedI Try.underlying103 (zero_page w) hb F (key_int hi) with ⟨hrun, _, hat⟩ | ⟨e0, y, _, _, hrun, hRv, hat, _⟩
  · rw [← hD] at hat
    cases hpn : p.new with
    | none =>
      rw [hrun]
      unfold Pg.pend
      rw [hpn]; rfl
    | some l =>
      have h1 := ha l hpn .nil
      rw [hat] at h1
      cases h1
  · rw [← hD] at hat
    obtain ⟨l, hv, hy⟩ := pageR_inv hRv
    cases hpn : p.new with
    | none =>
      have h1 := Maps.atKey_of_not_has (hn hpn) (.nil : DataW Unit)
      rw [hat, hy] at h1
      cases h1
    | some l' =>
      have h1 := ha l' hpn .nil
      rw [hat, hy] at h1
      have h2 := Lit.string.inj (DataW.lit.inj h1)
      rw [hrun, hv, h2]
      unfold Pg.pend
      rw [hpn]; rfl
set_option maxRecDepth 100000 in
theorem MapOK.update {w : World} {gm k : Nat} {ps : List Pg} (h : MapOK w gm k ps) {i : Nat} {p : Pg} (hp : ps[i]? = some p) (hi : i < 9223372036854775808) (hk : k < maxLen) (l : List UInt8) :
    ∃ w', (Instr.mapUpdate 103 (.map (some gm)) (.int .i64 (i : Int)) (.agg (l.map B8).toArray)).run Try.prog w = .ok () w' ∧ MapOK w' gm (k + 1) (ps.set i ⟨p.old, some l⟩) ∧ w.grownBy w' (some gm) := by
  obtain ⟨D, hown, hM, hp1, hp2⟩ := h
  obtain ⟨w', hrun, hown', hgr⟩ := hown.update keyedI Try.underlying103 hk (key_int hi) (pageR_mk l)
  have hil : i < ps.length := (List.getElem?_eq_some_iff.1 hp).1
  have hkl : WideAt.IsKeyLit (kInt i) := keyedI.key (key_int hi)
  refine ⟨w', hrun, ⟨D.put (kInt i) (.lit (.string l)), hown', hM.put _ _, fun j q hq => ?_, fun kl hkl2 => ?_⟩, hgr⟩
  · by_cases hji : j = i
    · subst hji
      rw [List.getElem?_set_self hil] at hq
      injection hq with hq
      subst hq
      exact ⟨(fun l' hl' z => by cases hl'; exact Maps.atKey_put_same hM hkl _ _), (fun h => by cases h)⟩
    · rw [List.getElem?_set_ne (fun e => hji e.symm)] at hq
      have hne : kInt j ≠ kInt i := fun e => hji (kInt_inj e)
      obtain ⟨ha, hn⟩ := hp1 j q hq
      exact ⟨fun l' hl' z => by rw [Maps.atKey_put_other hne]; exact ha l' hl' z, fun hq0 => by rw [Maps.has_put_other hne]; exact hn hq0⟩
  · rw [List.length_set]
    by_cases hki : kl = kInt i
    · exact ⟨i, hil, hki⟩
    · rw [Maps.has_put_other hki] at hkl2
      exact hp2 kl hkl2
theorem run_clear {w : World} {gm k : Nat} {ps : List Pg} (h : MapOK w gm k ps) (ty : TypeId) :
    ∃ w', (Builtin.clear_ #[103] ty #[.map (some gm)]).run Try.prog w = .ok (.tuple #[]) w' ∧ (∀ qs : List Pg, (∀ q ∈ qs, q.new = none) → MapOK w' gm 0 qs) ∧ w.grownBy w' (some gm) := by
  obtain ⟨D, ⟨es, clock, hb, F, _, hD⟩, _⟩ := h
  refine ⟨setBlock w gm (.map #[] clock), ?_, fun qs hqs => ⟨.map [], ⟨#[], clock, heap_setBlock_same hb _, ⟨by simp, stamped_empty clock, by simp⟩, by simp, rfl⟩, Maps.isMap_empty, fun i p hp => ?_, fun kl h => by cases h⟩, ⟨rfl, rfl, rfl, by simp [setBlock], fun i _ hi => heap_setBlock_other hb _ (fun e => hi (by rw [e]))⟩⟩
  · simp [Builtin.clear_, run_underlying Try.underlying103, MapKept.run_getObj_map hb, run_setObj_map _ hb, Result.andThen, setBlock]
  · have := hqs p (List.mem_of_getElem? hp)
    exact ⟨(fun l h => by rw [this] at h; cases h), (fun _ => rfl)⟩
def pgCells (L : List (List UInt8)) : List Value := L.flatMap fun l => l.map B8
theorem pgCells_length : ∀ (L : List (List UInt8)), (∀ l ∈ L, l.length = 128) → (pgCells L).length = L.length * 128
  | [], _ => rfl
  | l :: L, h => by
    have e : pgCells (l :: L) = l.map B8 ++ pgCells L := by unfold pgCells; rw [List.flatMap_cons]
    rw [e, List.length_append, pgCells_length L (fun x hx => h x (List.mem_cons_of_mem _ hx)), List.length_map, h l List.mem_cons_self, List.length_cons]
    omega
theorem pgCells_split : ∀ (L : List (List UInt8)), (∀ l ∈ L, l.length = 128) → ∀ (i : Nat) (l : List UInt8), L[i]? = some l → ∃ A B, pgCells L = A ++ l.map B8 ++ B ∧ A.length = i * 128 ∧ ∀ r : List UInt8, pgCells (L.set i r) = A ++ r.map B8 ++ B
  | [], _, _, _, h => by cases h
  | x :: L, hL, 0, l, h => by
    cases h
    exact ⟨[], pgCells L, by simp [pgCells], rfl, fun r => by simp [pgCells]⟩
  | x :: L, hL, i + 1, l, h => by
    obtain ⟨A, B, h1, h2, h3⟩ := pgCells_split L (fun y hy => hL y (List.mem_cons_of_mem _ hy)) i l (by simpa using h)
    have hx := hL x List.mem_cons_self
    refine ⟨x.map B8 ++ A, B, ?_, ?_, fun r => ?_⟩
    · show (x :: L).flatMap _ = _
      rw [List.flatMap_cons]
      show x.map B8 ++ pgCells L = _
      rw [h1]; simp
    · rw [List.length_append, List.length_map, hx, h2]; omega
    · show ((x :: L).set (i + 1) r).flatMap _ = _
      rw [List.set_cons_succ, List.flatMap_cons]
      show x.map B8 ++ pgCells (L.set i r) = _
      rw [h3]; simp
theorem pgCells_get (L : List (List UInt8)) (hL : ∀ l ∈ L, l.length = 128) (i : Nat) (l : List UInt8) (h : L[i]? = some l) {j : Nat} {u : Value} (hu : (l.map B8)[j]? = some u) : (pgCells L)[i * 128 + j]? = some u := by
  obtain ⟨A, B, h1, h2, _⟩ := pgCells_split L hL i l h
  have hj : j < (l.map B8).length := (List.getElem?_eq_some_iff.1 hu).1
  rw [h1, List.append_assoc, List.getElem?_append_right (by omega), h2, show i * 128 + j - i * 128 = j by omega, List.getElem?_append_left hj]
  exact hu
theorem pgCells_splice (L : List (List UInt8)) (hL : ∀ l ∈ L, l.length = 128) (i : Nat) (l r : List UInt8) (h : L[i]? = some l) (hr : r.length = 128) : splice (pgCells L) (i * 128) (r.map B8) = pgCells (L.set i r) := by
  obtain ⟨A, B, h1, h2, h3⟩ := pgCells_split L hL i l h
  have hl := hL l (List.mem_of_getElem? h)
  rw [h3, h1]
  unfold splice
  rw [List.append_assoc, List.take_append_of_le_length (by omega), List.take_of_length_le (by omega), List.length_map, hr]
  simp only [List.append_assoc]
  congr 1
  congr 1
  rw [List.drop_append, List.drop_eq_nil_of_le (by omega), List.nil_append, h2, List.drop_append, List.length_map, hl, List.drop_eq_nil_of_le (by rw [List.length_map, hl]; omega), List.nil_append, show i * 128 + 128 - i * 128 - 128 = 0 by omega, List.drop_zero]
theorem image_128 {M : DM} (hM : M.ok) : ∀ l ∈ M.image, l.length = 128 := by
  intro l hl
  obtain ⟨p, hp, rfl⟩ := List.mem_map.1 hl
  exact (hM.1 p hp).1
theorem image_at {M : DM} {i : Nat} (h : i < M.ps.length) : M.image[i]? = some (M.page i).old := by unfold DM.image; rw [List.getElem?_map, DM.page_at h]; rfl
theorem get_app {L Y : List Value} {i : Nat} {u : Value} (h : L[i]? = some u) : (L ++ Y)[i]? = some u := by
  rw [List.getElem?_append_left (List.getElem?_eq_some_iff.1 h).1]; exact h
theorem splice_tail {A B cs : List Value} {o : Nat} (Y : List Value) (h : splice A o cs = B) (hl : o + cs.length ≤ A.length) : splice (A ++ Y) o cs = B ++ Y := by
  rw [← h]
  unfold splice
  rw [List.take_append_of_le_length (by omega), List.drop_append_of_le_length hl]
  simp only [List.append_assoc]
/-- The program's disk at a record gd, pages gp and a map gm; behind the pages lies Y. -/
structure PRep (w : World) (gd gp gm cp : Nat) (Y : List Value) (M : DM) (k : Nat) : Prop where
  d : Blk w gd 105 [.slice (some ⟨gp, 0, none⟩) M.ps.length cp, .map (some gm), .bool M.up, .int .i64 M.trip]
  p : Blk w gp 108 (pgCells M.image ++ Y)
  m : MapOK w gm k M.ps
  n1 : gd ≠ gp
  n2 : gd ≠ gm
  n3 : gp ≠ gm
theorem PRep.only {L : List Nat} {w w' : World} {gd gp gm cp : Nat} {Y : List Value} {M : DM} {k : Nat} (h : PRep w gd gp gm cp Y M k) (ho : Only L w w') (h1 : gd ∉ L) (h2 : gp ∉ L) (h3 : gm ∉ L) : PRep w' gd gp gm cp Y M k :=
  ⟨h.d.only ho h1, h.p.only ho h2, h.m.only ho h3, h.n1, h.n2, h.n3⟩
theorem PRep.next {w w' : World} {gd gp gm cp : Nat} {Y : List Value} {M : DM} {k : Nat} (h : PRep w gd gp gm cp Y M k) (hb : Below w.heap.size w w') : PRep w' gd gp gm cp Y M k := h.only (Only.of_below (L := []) hb) (by simp) (by simp) (by simp)
theorem PRep.mono {w : World} {gd gp gm cp : Nat} {Y : List Value} {M : DM} {k k' : Nat} (h : PRep w gd gp gm cp Y M k) (hk : k ≤ k') : PRep w gd gp gm cp Y M k' := ⟨h.d, h.p, h.m.mono hk, h.n1, h.n2, h.n3⟩
theorem PRep.row {w : World} {gd gp gm cp : Nat} {Y : List Value} {M : DM} {k : Nat} (h : PRep w gd gp gm cp Y M k) (hM : M.ok) {i : Nat} (hi : i < M.ps.length) : w.rangeAt gp (i * 128) ((M.page i).old.map B8) := fun _j _u hu => h.p.cell (get_app (pgCells_get M.image (image_128 hM) i _ (image_at hi) hu))
end Go.Proofs.Ytbmoedgokimhmaa
