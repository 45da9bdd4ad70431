/-
  Contracts of the walks over chapter 2's Mac. Conditions: at most 10^9 bytes less 100; the tables read as the document has them.
-/
import Derived.Test.YtnhnfdfjlagcjaaDoorHsumb
import Derived.Deep.RegionHeld3
import Derived.Deep.WholeRow
namespace Go.Proofs.YtnhnfdfjlagcjaaDoor
open Go.RowKit

/-- The key of a code, of 64 bytes. -/
def keyBlk (key : List UInt8) : List UInt8 := if 64 < key.length then SM.sum key ++ SM.zeros 32 else key ++ SM.zeros (64 - key.length)
def mac (key text : List UInt8) : List UInt8 := SM.sum ((keyBlk key).map (· ^^^ 92) ++ SM.sum ((keyBlk key).map (· ^^^ 54) ++ text))
theorem keyBlk_length (key : List UInt8) : (keyBlk key).length = 64 := by
  unfold keyBlk
  split
  · rfl
  · rw [List.length_append, SM.zeros_length]; omega
theorem Tryd.zero31 : (Tryd.prog.info? 31).map (·.zero) = some (some (aggB (SM.zeros 64))) := by kernel_rfl
def zero64 : List Value := (SM.zeros 64).map B8
theorem add_raw (m l : List UInt8) (w : World) (hl : m.length + l.length ≤ 1000000000) (HY : Lay w) :
    Calls Tryd.prog 20 #[.agg (SVc m).toArray, .string ⟨l.toArray⟩] w fun e w' => e = .returned (.agg (SVc (m ++ l)).toArray) ∧ Below w.heap.size w w' := by
  have := add_any m ⟨l.toArray⟩ w (by rw [str_size]; exact hl) HY
  rw [str_toList] at this
  exact this
theorem add_start (s : ByteArray) (w : World) (hl : s.size ≤ 1000000000) (HY : Lay w) :
    Calls Tryd.prog 20 #[.agg (strmC SM.start (SM.zeros 64) 0).toArray, .string s] w fun e w' => e = .returned (.agg (SVc s.data.toList).toArray) ∧ Below w.heap.size w w' := by
  have := add_any [] s w (by simpa using hl) HY
  rw [List.nil_append] at this
  exact this

theorem add_text (m : List UInt8) (s : ByteArray) (w : World) (hl : m.length + s.size ≤ 1000000000) (HY : Lay w) :
    Calls Tryd.prog 20 #[.agg (SVc m).toArray, .string s] w fun e w' => e = .returned (.agg (SVc (m ++ s.data.toList)).toArray) ∧ Below w.heap.size w w' := add_any m s w hl HY
theorem keyed_to (l : List UInt8) (p : UInt8) (pi : Int) (r : List UInt8) (w : World) (hp : pi = (p.toNat : Int)) (hr : Hid (l.map (· ^^^ p) = r)) (hl : l.length = 64) (HY : Lay w) :
    Calls Tryd.prog 53 #[.agg (l.map B8).toArray, .int .u8 pi] w fun e w' => e = .returned (.agg (SVc r).toArray) ∧ Below w.heap.size w w' := by
  subst hp; rw [← hr.out]; exact keyed_any l p w hl HY
theorem run_loadRow {P : Program} (g : Nat) (t ty : TypeId) (d : TypeDesc) (l : List Value) (n : Nat) (hu : P.underlying ty = some d) (hd : d.isRow = true) (hi : (P.info? ty).map (·.size) = some n) (hn : l.length = n) (w0 : World) (hg : g < w0.heap.size) (hb : Blk w0 g t l) :
    ∀ w, Below w0.heap.size w0 w → (Instr.loadAt ty (.pointer (some ⟨g, 0, none⟩))).run P w = .ok (.agg l.toArray) w := fun w hw => by
  have hb' := hb.next hw hg
  exact run_loadAt_mid w g 0 ty l d (fun j v hv => by rw [Nat.zero_add]; exact hb'.cell hv) hu hd (by rw [hn]; exact hi)
theorem blk_range {w : World} {g : Nat} {t : TypeId} {l : List Value} (h : Blk w g t l) : w.rangeAt g 0 l := fun j v hv => by rw [Nat.zero_add]; exact h.cell hv
theorem below_alloc {a b : World} (h : Below a.heap.size a b) (o : Obj) : Below a.heap.size a (b.alloc o) := h.alloc h.size o
theorem below_setCells {B : Nat} {a : World} (g : Nat) (hg : B ≤ g) : ∀ (vs : List Value) (o : Nat) {b : World}, Below B a b → Below B a (b.setCells g o vs)
  | [], _, _, h => h
  | v :: r, o, _, h => below_setCells g hg r (o + 1) (h.setCell (p := ⟨g, o, none⟩) hg v)
theorem below_newset {a b : World} (h : Below a.heap.size a b) (o : Obj) (vs : List Value) : Below a.heap.size a ((b.alloc o).setCells b.heap.size 0 vs) := below_setCells _ h.size vs 0 (below_alloc h o)
theorem there_new (w : World) (F : List UInt8) (hF : F.length = 32) (t : TypeId) : (w.alloc (.cells #[Value.int IntKind.u8 0, Value.int IntKind.u8 0, Value.int IntKind.u8 0, Value.int IntKind.u8 0, Value.int IntKind.u8 0, Value.int IntKind.u8 0, Value.int IntKind.u8 0, Value.int IntKind.u8 0, Value.int IntKind.u8 0, Value.int IntKind.u8 0, Value.int IntKind.u8 0, Value.int IntKind.u8 0, Value.int IntKind.u8 0, Value.int IntKind.u8 0, Value.int IntKind.u8 0, Value.int IntKind.u8 0, Value.int IntKind.u8 0, Value.int IntKind.u8 0, Value.int IntKind.u8 0, Value.int IntKind.u8 0, Value.int IntKind.u8 0, Value.int IntKind.u8 0, Value.int IntKind.u8 0, Value.int IntKind.u8 0, Value.int IntKind.u8 0, Value.int IntKind.u8 0, Value.int IntKind.u8 0, Value.int IntKind.u8 0, Value.int IntKind.u8 0, Value.int IntKind.u8 0, Value.int IntKind.u8 0, Value.int IntKind.u8 0] t)).there w.heap.size 0 (List.map B8 F).length := fun j hj => by
  rw [List.length_map, hF] at hj
  have hb := blk_new w t (List.replicate 32 (Value.int IntKind.u8 0))
  have hg : (List.replicate 32 (Value.int IntKind.u8 0))[j]? = some (Value.int IntKind.u8 0) := by rw [List.getElem?_replicate, if_pos hj]
  rw [Nat.zero_add]
  exact ⟨by rw [show (w.alloc (.cells #[Value.int IntKind.u8 0, Value.int IntKind.u8 0, Value.int IntKind.u8 0, Value.int IntKind.u8 0, Value.int IntKind.u8 0, Value.int IntKind.u8 0, Value.int IntKind.u8 0, Value.int IntKind.u8 0, Value.int IntKind.u8 0, Value.int IntKind.u8 0, Value.int IntKind.u8 0, Value.int IntKind.u8 0, Value.int IntKind.u8 0, Value.int IntKind.u8 0, Value.int IntKind.u8 0, Value.int IntKind.u8 0, Value.int IntKind.u8 0, Value.int IntKind.u8 0, Value.int IntKind.u8 0, Value.int IntKind.u8 0, Value.int IntKind.u8 0, Value.int IntKind.u8 0, Value.int IntKind.u8 0, Value.int IntKind.u8 0, Value.int IntKind.u8 0, Value.int IntKind.u8 0, Value.int IntKind.u8 0, Value.int IntKind.u8 0, Value.int IntKind.u8 0, Value.int IntKind.u8 0, Value.int IntKind.u8 0, Value.int IntKind.u8 0] t)).cell? ⟨w.heap.size, j, none⟩ = some _ from hb.cell hg]; rfl, hb.frozen j⟩
theorem there_next {w w' : World} {g n : Nat} (h : w.there g 0 n) (hb : Below w.heap.size w w') : w'.there g 0 n := fun j hj => by
  obtain ⟨h1, h2⟩ := h j hj
  obtain ⟨v, hv⟩ := Option.isSome_iff_exists.1 h1
  have hg := World.block_lt_of_cell? w _ hv
  exact ⟨by rw [hb.cell hg]; exact h1, by rw [hb.frozen hg]; exact h2⟩
theorem there_call {w w' : World} (F : List UInt8) (hF : F.length = 32) {t : TypeId} (hb : Below (w.alloc (.cells #[Value.int IntKind.u8 0, Value.int IntKind.u8 0, Value.int IntKind.u8 0, Value.int IntKind.u8 0, Value.int IntKind.u8 0, Value.int IntKind.u8 0, Value.int IntKind.u8 0, Value.int IntKind.u8 0, Value.int IntKind.u8 0, Value.int IntKind.u8 0, Value.int IntKind.u8 0, Value.int IntKind.u8 0, Value.int IntKind.u8 0, Value.int IntKind.u8 0, Value.int IntKind.u8 0, Value.int IntKind.u8 0, Value.int IntKind.u8 0, Value.int IntKind.u8 0, Value.int IntKind.u8 0, Value.int IntKind.u8 0, Value.int IntKind.u8 0, Value.int IntKind.u8 0, Value.int IntKind.u8 0, Value.int IntKind.u8 0, Value.int IntKind.u8 0, Value.int IntKind.u8 0, Value.int IntKind.u8 0, Value.int IntKind.u8 0, Value.int IntKind.u8 0, Value.int IntKind.u8 0, Value.int IntKind.u8 0, Value.int IntKind.u8 0] t)).heap.size (w.alloc (.cells #[Value.int IntKind.u8 0, Value.int IntKind.u8 0, Value.int IntKind.u8 0, Value.int IntKind.u8 0, Value.int IntKind.u8 0, Value.int IntKind.u8 0, Value.int IntKind.u8 0, Value.int IntKind.u8 0, Value.int IntKind.u8 0, Value.int IntKind.u8 0, Value.int IntKind.u8 0, Value.int IntKind.u8 0, Value.int IntKind.u8 0, Value.int IntKind.u8 0, Value.int IntKind.u8 0, Value.int IntKind.u8 0, Value.int IntKind.u8 0, Value.int IntKind.u8 0, Value.int IntKind.u8 0, Value.int IntKind.u8 0, Value.int IntKind.u8 0, Value.int IntKind.u8 0, Value.int IntKind.u8 0, Value.int IntKind.u8 0, Value.int IntKind.u8 0, Value.int IntKind.u8 0, Value.int IntKind.u8 0, Value.int IntKind.u8 0, Value.int IntKind.u8 0, Value.int IntKind.u8 0, Value.int IntKind.u8 0, Value.int IntKind.u8 0] t)) w') : w'.there w.heap.size 0 (List.map B8 F).length := there_next (there_new w F hF t) hb
theorem there_callD {w w' : World} (F : List UInt8) (hF : F.length = 32) {t : TypeId} (hb : Below (w.drew.alloc (.cells #[Value.int IntKind.u8 0, Value.int IntKind.u8 0, Value.int IntKind.u8 0, Value.int IntKind.u8 0, Value.int IntKind.u8 0, Value.int IntKind.u8 0, Value.int IntKind.u8 0, Value.int IntKind.u8 0, Value.int IntKind.u8 0, Value.int IntKind.u8 0, Value.int IntKind.u8 0, Value.int IntKind.u8 0, Value.int IntKind.u8 0, Value.int IntKind.u8 0, Value.int IntKind.u8 0, Value.int IntKind.u8 0, Value.int IntKind.u8 0, Value.int IntKind.u8 0, Value.int IntKind.u8 0, Value.int IntKind.u8 0, Value.int IntKind.u8 0, Value.int IntKind.u8 0, Value.int IntKind.u8 0, Value.int IntKind.u8 0, Value.int IntKind.u8 0, Value.int IntKind.u8 0, Value.int IntKind.u8 0, Value.int IntKind.u8 0, Value.int IntKind.u8 0, Value.int IntKind.u8 0, Value.int IntKind.u8 0, Value.int IntKind.u8 0] t)).heap.size (w.drew.alloc (.cells #[Value.int IntKind.u8 0, Value.int IntKind.u8 0, Value.int IntKind.u8 0, Value.int IntKind.u8 0, Value.int IntKind.u8 0, Value.int IntKind.u8 0, Value.int IntKind.u8 0, Value.int IntKind.u8 0, Value.int IntKind.u8 0, Value.int IntKind.u8 0, Value.int IntKind.u8 0, Value.int IntKind.u8 0, Value.int IntKind.u8 0, Value.int IntKind.u8 0, Value.int IntKind.u8 0, Value.int IntKind.u8 0, Value.int IntKind.u8 0, Value.int IntKind.u8 0, Value.int IntKind.u8 0, Value.int IntKind.u8 0, Value.int IntKind.u8 0, Value.int IntKind.u8 0, Value.int IntKind.u8 0, Value.int IntKind.u8 0, Value.int IntKind.u8 0, Value.int IntKind.u8 0, Value.int IntKind.u8 0, Value.int IntKind.u8 0, Value.int IntKind.u8 0, Value.int IntKind.u8 0, Value.int IntKind.u8 0, Value.int IntKind.u8 0] t)) w') : w'.there w.heap.size 0 (List.map B8 F).length := there_call (w := w.drew) F hF hb
theorem new_ge {a b b' : World} {o : Obj} (h : Below a.heap.size a b) (_hb : Below (b.alloc o).heap.size (b.alloc o) b') : a.heap.size ≤ b.heap.size := h.size
theorem below_put {a b : World} {g : Nat} (h : Below a.heap.size a b) (hg : a.heap.size ≤ g) (vs : List Value) : Below a.heap.size a (b.setCells g 0 vs) := below_setCells g hg vs 0 h
theorem run_storeNew {P : Program} (t : TypeId) (c : Array Value) (F : List UInt8) (hF : F.length = 32) (hi : (P.info? t).map (·.size) = some F.length) (hc : c.size = 32) :
    ∀ w : World, (storeCells ⟨w.heap.size, 0, none⟩ (F.map B8)).run P (w.alloc (.cells c t)) = .ok () (w.alloc (.cells (F.map B8).toArray t)) := fun w => by
  have := run_storeCells_new (P := P) w t c (F.map B8).toArray (by simpa using hi) (by simp; omega) (all_oneCell_toArray (B8_one F))
  simpa using this
theorem ssum_to (l F : List UInt8) (w : World) (hF : Hid (SM.sum l = F)) (hl : l.length ≤ 1000000000) (HY : Lay w) :
    Calls Tryd.prog 22 #[.agg (SVc l).toArray] w fun e w' => e = .returned (.agg (F.map B8).toArray) ∧ Below w.heap.size w w' := by
  rw [← hF.out]; exact ssum_any l w hl HY
theorem run_copy_blk (w : World) (gk gs n m : Nat) {t t' : TypeId} {l cs : List Value} (hk : Blk w gk t l) (hs : Blk w gs t' cs) (hm : cs.length = m) (hn : m ≤ n) (hl : m ≤ l.length) (h1 : ∀ u ∈ cs, u.oneCell' = true) :
    (Builtin.copy_ #[22, 22] 3 #[.slice (some ⟨gk, 0, none⟩) n n, .slice (some ⟨gs, 0, none⟩) m m]).run Tryd.prog w = .ok (goInt cs.length) (w.setRow gk (splice l 0 cs).toArray) := by
  have := run_copy_row (P := Tryd.prog) w 22 22 3 5 gk 0 n n ⟨gs, 0, none⟩ m m l.toArray t cs Tryd.underlying22 Tryd.size5 hk (by rw [hm]; exact (Nat.min_eq_left hn).symm) (fun j v hv => by rw [addr_mid, Nat.zero_add]; exact hs.cell hv) (by simp; omega) h1
  rw [this]
  simp [splice]
theorem copy_row (S : List UInt8) (h : S.length = 32) : splice zero64 0 (S.map B8) = (S ++ SM.zeros 32).map B8 := by
  have e := splice_tail [] (SM.zeros 64) S 64 rfl (by omega)
  rw [List.nil_append, List.length_nil, List.nil_append, h] at e
  rw [← e]
  unfold splice zero64; simp [List.map_drop]
theorem fin_eq {a X W : World} {g : Nat} {vs : List Value} (hW : X.setCells g 0 vs = W) (ht : X.there g 0 vs.length) (hb : Below a.heap.size a X) (hg : a.heap.size ≤ g) : Holds W (some ⟨g, 0, none⟩) vs ∧ Below a.heap.size a W := by
  subst hW
  refine ⟨fun j u hu => ⟨_, rfl, ?_⟩, below_put hb hg vs⟩
  rw [addr_mid]
  exact World.rangeAt_setCells_same X g 0 vs ht j u hu
theorem keyed_lit (l : List UInt8) (p : UInt8) (pi : Int) (w : World) (hp : pi = (p.toNat : Int)) (hl : l.length = 64) (HY : Lay w) :
    Calls Tryd.prog 53 #[.agg (l.map B8).toArray, .int .u8 pi] w fun e w' => e = .returned (.agg (SVc (l.map (· ^^^ p))).toArray) ∧ Below w.heap.size w w' := by
  subst hp; exact keyed_any l p w hl HY

set_option maxRecDepth 100000 in
set_option maxHeartbeats 1600000 in
theorem mac_any (key text : ByteArray) (w : World) (hk : key.size ≤ 900000000) (ht : text.size ≤ 900000000) (HY : Lay w) :
    Calls Tryd.prog 23 #[.string key, .string text] w fun e w' => e = .returned (.string ⟨(mac key.data.toList text.data.toList).toArray⟩) ∧ Below w.heap.size w w' := by
  have hkl : Hid (key.data.toList.length = key.size) := bytes_size key
  have htl : Hid (text.data.toList.length = text.size) := bytes_size text
  go_enter Tryd.func23, Tryd.ntmps23
  go_wp2_with (with_reducible refine wpList_alloc (o := ⟨some 5, .alloc 31, _, _, _, _⟩) ?g1 31 ?o1 (aggB (SM.zeros 64)) zero64 ?z1 ?c1 ?_)
  try (case g1 => rfl)
  try (case o1 => rfl)
  try (case z1 => exact Tryd.zero31)
  try (case c1 => rfl)
  intro gk w1 hgk hs1 hb1 hB1
  have hlt0 : w.heap.size ≤ gk := Nat.le_of_eq hgk.out.symm
  have hb : Below w.heap.size w w1 := hb1.mono hlt0
  have HY1 := HY.next hb
  clear hgk hs1 hb1
  by_cases h64 : 64 < key.size
  · go_wp2_with fail
    (with_reducible refine (begin_any _ HY1).mono ?_)
    rintro e w2 ⟨rfl, hb2⟩
    have hBk2 := hB1.next hb2 hB1.lt
    have hbel2 := hb.trans (hb2.mono hb.size)
    have HY2 := HY1.next hb2
    clear hB1 hb hb2 HY1
    go_wp2_with fail
    (with_reducible refine (add_start key _ (by omega) HY2).mono ?_)
    rintro e w3 ⟨rfl, hb3⟩
    have hBk3 := hBk2.next hb3 hBk2.lt
    have hbel3 := hbel2.trans (hb3.mono hbel2.size)
    have HY3 := HY2.next hb3
    clear hBk2 hbel2 hb3 HY2
    go_wp2_with fail
    (with_reducible refine (ssum_any key.data.toList _ (by rw [hkl.out]; omega) HY3).mono ?_)
    rintro e w4 ⟨rfl, hb4⟩
    have hBk4 := hBk3.next hb4 hBk3.lt
    have hbel4 := hbel3.trans (hb4.mono hbel3.size)
    clear hBk3 hbel3 hb4 HY3
    have hKB : Hid (keyBlk key.data.toList = SM.sum key.data.toList ++ SM.zeros 32) := by
      have : keyBlk key.data.toList = SM.sum key.data.toList ++ SM.zeros 32 := by unfold keyBlk; rw [if_pos (by rw [hkl.out]; exact h64)]
      exact this
    obtain ⟨S, hS⟩ : ∃ S, Hid (SM.sum key.data.toList = S) := ⟨_, rfl⟩
    have hSl : Hid (S.length = 32) := by rw [← hS.out]; rfl
    rw [hS.out] at hKB ⊢
    go_wp2_with (first | (with_reducible refine wpList_alloc (o := ⟨some 6, .alloc 24, _, _, _, _⟩) ?g2 24 ?o2 (aggB (SM.zeros 32)) zero32 ?z2 ?c2 ?_))
    try (case g2 => rfl)
    try (case o2 => rfl)
    try (case z2 => exact Tryd.zero24)
    try (case c2 => rfl)
    intro gs w5 hgs hs5 hb5 hB5
    have hlt1 : gk < gs := by have := hBk4.lt; have := hgs.out; omega
    have hBk5 := hBk4.next hb5 hlt1
    have hbel5 := hbel4.trans (hb5.mono (by have := hbel4.size; have := hgs.out; omega))
    clear hBk4 hbel4 hb5 hgs hs5
    go_wp2_with (with_reducible refine wpList_put (o := ⟨none, .store 24 (.tmp 6) (.tmp 15), _, _, _, _⟩) ?g3 24 (.tmp 6) (.tmp 15) ?o3 gs 0 ?x3 (.agg (S.map B8).toArray) ?y3 hB5 (S.map B8) ?v3 ?i3 ?l3 ?q3 ?_)
    try (case y3 => rfl)
    try (case x3 => rfl)
    try (case g3 => rfl)
    try (case o3 => rfl)
    try (case v3 => rfl)
    try (case i3 => exact (by rw [List.length_map, hSl.out]; exact Tryd.size24))
    try (case l3 => (rw [List.length_map, hSl.out]; exact Nat.le_refl _))
    try (case q3 => exact B8_one _)
    intro w6 hu6 hB6
    rw [splice_all _ _ (by rw [List.length_map, hSl.out]; rfl)] at hB6
    have hBk6 := hBk5.upd hu6 (by omega)
    have hbel6 := hbel5.trans (hu6.below (B := w.heap.size) (by omega))
    clear hBk5 hbel5 hu6 hB5
    have hcut := run_cutAll (P := Tryd.prog) 31 5 64 Tryd.underlying31 Tryd.size5 (by decide) gk 0
    have hcut2 := run_cutAll (P := Tryd.prog) 24 5 32 Tryd.underlying24 Tryd.size5 (by decide) gs 0
    have hcopy := run_copy_blk w6.drew gk gs 64 32 hBk6 hB6 (by rw [List.length_map, hSl.out]) (by decide) (by decide) (B8_one _)
    rw [copy_row S hSl.out, List.length_map, hSl.out] at hcopy
    obtain ⟨X, hX⟩ : ∃ X, Hid (S ++ SM.zeros 32 = X) := ⟨_, rfl⟩
    rw [hX.out] at hcopy hKB
    go_wp2
    go_region_with (fail)
    have hB7 := blk_setRow (w := w6.drew) (t := 31) (l := zero64) hBk6 (X.map B8)
    have hbel7 : Below w.heap.size w (w6.drew.setRow gk (X.map B8).toArray) := (hbel6.trans (Below.refl _ _).drew).trans ((upd_setRow w6.drew gk _).below hlt0)
    generalize w6.drew.setRow gk (X.map B8).toArray = w7 at hB7 hbel7 ⊢
    rw [← hKB.out] at hB7
    clear hcut hcut2 hcopy hBk6 hbel6 hB6
    have HY7 := HY.next hbel7
    obtain ⟨q, hq⟩ : ∃ q, Hid (keyBlk key.data.toList = q) := ⟨_, rfl⟩
    have hql : Hid (q.length = 64) := by rw [← hq.out]; exact keyBlk_length _
    rw [hq.out] at hB7
    go_wp2_with (with_reducible refine wpList_get (o := ⟨some 22, .load 31 (.tmp 5), _, _, _, _⟩) ?g6a 31 (.tmp 5) ?o6a gk 0 ?x6a hB7 (q.map B8) ?c6a (.array 64 5) ?u6a ?d6a ?i6a ?_)
    try (case x6a => rfl)
    try (case g6a => rfl)
    try (case o6a => rfl)
    try (case c6a => (exact cs_all _))
    try (case u6a => exact Tryd.underlying31)
    try (case d6a => first | rfl | assumption)
    try (case i6a => (rw [List.length_map, hql.out]; exact Tryd.size31))
    go_wp2_with fail
    (with_reducible refine (keyed_lit q 54 54 _ rfl hql.out HY7).mono ?_)
    rintro e w8 ⟨rfl, hb8⟩
    have hB8' := hB7.next hb8 hB7.lt
    have hbel8 := hbel7.trans (hb8.mono hbel7.size)
    have HY8 := HY7.next hb8
    clear hB7 hbel7 hb8 HY7
    obtain ⟨i1, hi1⟩ : ∃ i1 : List UInt8, Hid (q.map (fun x : UInt8 => x ^^^ 54) = i1) := ⟨_, rfl⟩
    have hi1l : Hid (i1.length = 64) := by rw [← hi1.out]; rw [List.length_map]; exact hql
    rw [hi1.out]
    go_wp2_with fail
    (with_reducible refine (add_text i1 text _ (by rw [hi1l.out]; omega) HY8).mono ?_)
    rintro e w9 ⟨rfl, hb9⟩
    have hB9 := hB8'.next hb9 hB8'.lt
    have hbel9 := hbel8.trans (hb9.mono hbel8.size)
    have HY9 := HY8.next hb9
    clear hB8' hbel8 hb9 HY8
    have hml : (i1 ++ text.data.toList).length ≤ 1000000000 := by rw [List.length_append, hi1l.out, htl.out]; omega
    go_wp2_with fail
    (with_reducible refine (ssum_any (i1 ++ text.data.toList) _ hml HY9).mono ?_)
    rintro e w10 ⟨rfl, hb10⟩
    have hB10 := hB9.next hb10 hB9.lt
    have hbel10 := hbel9.trans (hb10.mono hbel9.size)
    have HY10 := HY9.next hb10
    clear hB9 hbel9 hb10 HY9 hml
    obtain ⟨T, hT⟩ : ∃ T, Hid (SM.sum (i1 ++ text.data.toList) = T) := ⟨_, rfl⟩
    have hTl : Hid (T.length = 32) := by rw [← hT.out]; rfl
    rw [hT.out]
    go_wp2_with (with_reducible refine wpList_alloc (o := ⟨some 7, .alloc 24, _, _, _, _⟩) ?g7a 24 ?o7a (aggB (SM.zeros 32)) zero32 ?z7a ?c7a ?_)
    try (case g7a => rfl)
    try (case o7a => rfl)
    try (case z7a => exact Tryd.zero24)
    try (case c7a => rfl)
    intro gt w11 hgt hs11 hb11 hB11
    have hlt11 : gk < gt := by have := hB10.lt; have := hgt.out; omega
    have hBk11 := hB10.next hb11 hlt11
    have hbel11 := hbel10.trans (hb11.mono (by have := hbel10.size; have := hgt.out; omega))
    clear hB10 hbel10 hb11 hgt hs11
    go_wp2_with (with_reducible refine wpList_put (o := ⟨none, .store 24 (.tmp 7) (.tmp 26), _, _, _, _⟩) ?g8a 24 (.tmp 7) (.tmp 26) ?o8a gt 0 ?x8a (.agg (T.map B8).toArray) ?y8a hB11 (T.map B8) ?v8a ?i8a ?l8a ?q8a ?_)
    try (case y8a => rfl)
    try (case x8a => rfl)
    try (case g8a => rfl)
    try (case o8a => rfl)
    try (case v8a => rfl)
    try (case i8a => exact (by rw [List.length_map, hTl.out]; exact Tryd.size24))
    try (case l8a => (rw [List.length_map, hTl.out]; exact Nat.le_refl _))
    try (case q8a => exact B8_one _)
    intro w12 hu12 hB12
    rw [splice_all _ _ (by rw [List.length_map, hTl.out]; rfl)] at hB12
    have hBk12 := hBk11.upd hu12 (by omega)
    have hbel12 := hbel11.trans (hu12.below (B := w.heap.size) (by omega))
    clear hBk11 hbel11 hu12 hB11 HY10
    have HY12 := HY.next hbel12
    have hcutT := run_cutAll (P := Tryd.prog) 24 5 32 Tryd.underlying24 Tryd.size5 (by decide) gt 0
    have hcvT := run_conv_later w12 (some ⟨gt, 0, none⟩) 32 32 T hTl.out.symm (blk_holds hB12)
    have hld := run_loadRow (P := Tryd.prog) gk 31 31 _ (q.map B8) 64 Tryd.underlying31 rfl Tryd.size31 (by rw [List.length_map]; exact hql.out) w12 hBk12.lt hBk12
    have hd := below_drew w12
    obtain ⟨o1, ho1⟩ : ∃ o1 : List UInt8, Hid (q.map (fun x : UInt8 => x ^^^ 92) = o1) := ⟨_, rfl⟩
    have ho1l : Hid (o1.length = 64) := by rw [← ho1.out]; rw [List.length_map]; exact hql
    have hol : o1.length + T.length ≤ 1000000000 := by rw [ho1l.out, hTl.out]; decide
    have hol2 : (o1 ++ T).length ≤ 1000000000 := by rw [List.length_append]; exact hol
    go_wp2
    have hsz31 : (Tryd.prog.info? 31).map (·.size) = some (q.map B8).length := by rw [List.length_map, hql.out]; exact Tryd.size31
    have hun31 := Tryd.underlying31
    obtain ⟨F, hF⟩ : ∃ F, Hid (SM.sum (o1 ++ T) = F) := ⟨_, rfl⟩
    have hFl : F.length = 32 := by rw [← hF.out]; rfl
    have hnew := run_storeNew (P := Tryd.prog) 24 (List.replicate 32 (Value.int .u8 0)).toArray F hFl (by rw [hFl]; exact Tryd.size24) rfl
    have hone := B8_one F
    have hthG := Lib.hid (fun w : World => there_new w F hFl 24)
    have hsz24 : (Tryd.prog.info? 24).map (·.size) = some (List.map B8 F).length := by rw [List.length_map, hFl]; exact Tryd.size24
    have hrg : ∀ w', Below w12.heap.size w12 w' → w'.rangeAt gk 0 (q.map B8) := fun w' hw => blk_range (hBk12.next hw hBk12.lt)
    go_region_held3 (fun w' => Below w12.heap.size w12 w' ∧ w'.rangeAt gk 0 (q.map B8))
      (first | assumption | exact ⟨by (first | assumption | exact below_newset (by assumption) _ _ | exact below_put (by assumption) (by assumption) _ | exact below_alloc (by assumption) _ | exact (Below.refl _ _).drew | exact below_alloc (below_drew _) _ | exact Below.refl _ _), hrg _ (by (first | assumption | exact below_newset (by assumption) _ _ | exact below_put (by assumption) (by assumption) _ | exact below_alloc (by assumption) _ | exact (Below.refl _ _).drew | exact below_alloc (below_drew _) _ | exact Below.refl _ _))⟩)
      (first
      | (go_at_call 53; refine (keyed_to q 92 92 o1 _ rfl ho1 hql.out (HY12.next (by (first | assumption | exact below_newset (by assumption) _ _ | exact below_put (by assumption) (by assumption) _ | exact below_alloc (by assumption) _ | exact (Below.refl _ _).drew | exact below_alloc (below_drew _) _ | exact Below.refl _ _)))).mono ?_; rintro e w13 ⟨rfl, hb13⟩; have hk13 : Below w12.heap.size w12 w13 := below_join (by (first | assumption | exact below_newset (by assumption) _ _ | exact below_put (by assumption) (by assumption) _ | exact below_alloc (by assumption) _ | exact (Below.refl _ _).drew | exact below_alloc (below_drew _) _ | exact Below.refl _ _)) hb13; (first | (have hth13 := there_callD F hFl hb13; have hge13 : w12.heap.size ≤ w12.heap.size := Nat.le_refl _) | (have hth13 := there_call F hFl hb13; have hge13 := new_ge (by first | assumption | exact below_drew _) hb13) | (have hth13 := there_next (by assumption) hb13) | skip); clear hb13)
      | (go_at_call 20; refine (add_raw o1 T _ hol (HY12.next (by (first | assumption | exact below_newset (by assumption) _ _ | exact below_put (by assumption) (by assumption) _ | exact below_alloc (by assumption) _ | exact (Below.refl _ _).drew | exact below_alloc (below_drew _) _ | exact Below.refl _ _)))).mono ?_; rintro e w14 ⟨rfl, hb14⟩; have hk14 : Below w12.heap.size w12 w14 := below_join (by (first | assumption | exact below_newset (by assumption) _ _ | exact below_put (by assumption) (by assumption) _ | exact below_alloc (by assumption) _ | exact (Below.refl _ _).drew | exact below_alloc (below_drew _) _ | exact Below.refl _ _)) hb14; (first | (have hth14 := there_callD F hFl hb14; have hge14 : w12.heap.size ≤ w12.heap.size := Nat.le_refl _) | (have hth14 := there_call F hFl hb14; have hge14 := new_ge (by first | assumption | exact below_drew _) hb14) | (have hth14 := there_next (by assumption) hb14) | skip); clear hb14)
      | (go_at_call 22; refine (ssum_to (o1 ++ T) F _ hF hol2 (HY12.next (by (first | assumption | exact below_newset (by assumption) _ _ | exact below_put (by assumption) (by assumption) _ | exact below_alloc (by assumption) _ | exact (Below.refl _ _).drew | exact below_alloc (below_drew _) _ | exact Below.refl _ _)))).mono ?_; rintro e w15 ⟨rfl, hb15⟩; have hk15 : Below w12.heap.size w12 w15 := below_join (by (first | assumption | exact below_newset (by assumption) _ _ | exact below_put (by assumption) (by assumption) _ | exact below_alloc (by assumption) _ | exact (Below.refl _ _).drew | exact below_alloc (below_drew _) _ | exact Below.refl _ _)) hb15; have hth0 := hthG.out w15; (first | (have hth15 := there_callD F hFl hb15; have hge15 : w12.heap.size ≤ w12.heap.size := Nat.le_refl _) | (have hth15 := there_call F hFl hb15; have hge15 := new_ge (by first | assumption | exact below_drew _) hb15) | (have hth15 := there_next (by assumption) hb15) | skip); clear hb15))
    have hcutG : ∀ (g : Nat) (w : World), (Instr.sliceAt 24 (.pointer (some ⟨g, 0, none⟩)) none none none).run Tryd.prog w = .ok (.slice (some ⟨g, 0, none⟩) 32 32) w := fun g => run_cutAll (P := Tryd.prog) 24 5 32 Tryd.underlying24 Tryd.size5 (by decide) g 0
    all_goals
      generalize hW : World.setCells _ _ _ _ = W
      have hW' := Lib.hid hW
      clear hW
      obtain ⟨hH, hBW⟩ := fin_eq hW'.out (by assumption) (show Below w12.heap.size w12 _ by (first | assumption | exact below_alloc (by assumption) _)) (by first | assumption | exact Below.size (by assumption))
      have hcvW := run_conv_later W _ 32 32 F hFl.symm hH W (Below.refl _ _)
      have hbelW := hbel12.trans (hBW.mono hbel12.size)
      have HFin : Hid (mac key.data.toList text.data.toList = F) := by
        have : mac key.data.toList text.data.toList = F := by unfold mac; rw [hq.out, hi1.out, ho1.out, hT.out, hF.out]
        exact this
      clear hBW hH hbel12 hB12 hBk12 HY12 hcutT hcvT hld hd hrg hone hthG hnew
      go_wp2
      go_ret
      exact ⟨by rw [HFin.out]; rfl, hbelW⟩
  · have hcut := run_cutAll (P := Tryd.prog) 31 5 64 Tryd.underlying31 Tryd.size5 (by decide) gk 0
    have hp : Hid (key.data.toList.take 64 = key.data.toList) := by
      have : key.data.toList.take 64 = key.data.toList := List.take_of_length_le (by rw [hkl.out]; omega)
      exact this
    have hKB : Hid (splice zero64 0 (key.data.toList.map B8) = (keyBlk key.data.toList).map B8) := by
      have : splice zero64 0 (key.data.toList.map B8) = (keyBlk key.data.toList).map B8 := by
        unfold keyBlk
        rw [if_neg (by rw [hkl.out]; exact h64)]
        have e := splice_tail [] (SM.zeros 64) key.data.toList 64 rfl (by rw [hkl.out]; omega)
        rw [List.nil_append, List.length_nil, List.nil_append] at e
        rw [← e]
        unfold splice zero64; simp [List.map_drop]
      exact this
    go_wp2_with (first | (with_reducible refine wpList_cutA (o := ⟨some 19, .slice 31 (.tmp 5) none none none, _, _, _, _⟩) ?g4 31 (.tmp 5) ?o4 gk 0 ?x4 64 5 ?u4 ?i4 ?m4 ?_) | (with_reducible refine wpList_copyP (o := ⟨some 21, .call ⟨.builtin .copy, #[.tmp 19, .tmp 20], #[22, 9]⟩, _, _, _, _⟩) ?g5 (.tmp 19) (.tmp 20) 22 9 ?o5 5 ?u5 ?i5 gk 0 64 64 ?x5 key ?y5 hB1 ?l5 key.data.toList hp ?_))
    try (case x4 => rfl)
    try (case g4 => rfl)
    try (case o4 => rfl)
    try (case u4 => exact Tryd.underlying31)
    try (case i4 => exact Tryd.size5)
    try (case m4 => decide)
    case g5 => rfl
    case o5 => rfl
    try (case x5 => rfl)
    try (case y5 => rfl)
    case u5 => exact Tryd.underlying22
    case i5 => exact Tryd.size5
    case l5 => exact Nat.le_refl _
    intro w7 hu7 hB7
    rw [hKB.out] at hB7
    have hbel7 := hb.trans (hu7.below hlt0)
    clear hB1 hb hu7 hcut hKB
    have HY7 := HY.next hbel7
    obtain ⟨q, hq⟩ : ∃ q, Hid (keyBlk key.data.toList = q) := ⟨_, rfl⟩
    have hql : Hid (q.length = 64) := by rw [← hq.out]; exact keyBlk_length _
    rw [hq.out] at hB7
    go_wp2_with (with_reducible refine wpList_get (o := ⟨some 22, .load 31 (.tmp 5), _, _, _, _⟩) ?g6b 31 (.tmp 5) ?o6b gk 0 ?x6b hB7 (q.map B8) ?c6b (.array 64 5) ?u6b ?d6b ?i6b ?_)
    try (case x6b => rfl)
    try (case g6b => rfl)
    try (case o6b => rfl)
    try (case c6b => (exact cs_all _))
    try (case u6b => exact Tryd.underlying31)
    try (case d6b => first | rfl | assumption)
    try (case i6b => (rw [List.length_map, hql.out]; exact Tryd.size31))
    go_wp2_with fail
    (with_reducible refine (keyed_lit q 54 54 _ rfl hql.out HY7).mono ?_)
    rintro e w8 ⟨rfl, hb8⟩
    have hB8' := hB7.next hb8 hB7.lt
    have hbel8 := hbel7.trans (hb8.mono hbel7.size)
    have HY8 := HY7.next hb8
    clear hB7 hbel7 hb8 HY7
    obtain ⟨i1, hi1⟩ : ∃ i1 : List UInt8, Hid (q.map (fun x : UInt8 => x ^^^ 54) = i1) := ⟨_, rfl⟩
    have hi1l : Hid (i1.length = 64) := by rw [← hi1.out]; rw [List.length_map]; exact hql
    rw [hi1.out]
    go_wp2_with fail
    (with_reducible refine (add_text i1 text _ (by rw [hi1l.out]; omega) HY8).mono ?_)
    rintro e w9 ⟨rfl, hb9⟩
    have hB9 := hB8'.next hb9 hB8'.lt
    have hbel9 := hbel8.trans (hb9.mono hbel8.size)
    have HY9 := HY8.next hb9
    clear hB8' hbel8 hb9 HY8
    have hml : (i1 ++ text.data.toList).length ≤ 1000000000 := by rw [List.length_append, hi1l.out, htl.out]; omega
    go_wp2_with fail
    (with_reducible refine (ssum_any (i1 ++ text.data.toList) _ hml HY9).mono ?_)
    rintro e w10 ⟨rfl, hb10⟩
    have hB10 := hB9.next hb10 hB9.lt
    have hbel10 := hbel9.trans (hb10.mono hbel9.size)
    have HY10 := HY9.next hb10
    clear hB9 hbel9 hb10 HY9 hml
    obtain ⟨T, hT⟩ : ∃ T, Hid (SM.sum (i1 ++ text.data.toList) = T) := ⟨_, rfl⟩
    have hTl : Hid (T.length = 32) := by rw [← hT.out]; rfl
    rw [hT.out]
    go_wp2_with (with_reducible refine wpList_alloc (o := ⟨some 7, .alloc 24, _, _, _, _⟩) ?g7b 24 ?o7b (aggB (SM.zeros 32)) zero32 ?z7b ?c7b ?_)
    try (case g7b => rfl)
    try (case o7b => rfl)
    try (case z7b => exact Tryd.zero24)
    try (case c7b => rfl)
    intro gt w11 hgt hs11 hb11 hB11
    have hlt11 : gk < gt := by have := hB10.lt; have := hgt.out; omega
    have hBk11 := hB10.next hb11 hlt11
    have hbel11 := hbel10.trans (hb11.mono (by have := hbel10.size; have := hgt.out; omega))
    clear hB10 hbel10 hb11 hgt hs11
    go_wp2_with (with_reducible refine wpList_put (o := ⟨none, .store 24 (.tmp 7) (.tmp 26), _, _, _, _⟩) ?g8b 24 (.tmp 7) (.tmp 26) ?o8b gt 0 ?x8b (.agg (T.map B8).toArray) ?y8b hB11 (T.map B8) ?v8b ?i8b ?l8b ?q8b ?_)
    try (case y8b => rfl)
    try (case x8b => rfl)
    try (case g8b => rfl)
    try (case o8b => rfl)
    try (case v8b => rfl)
    try (case i8b => exact (by rw [List.length_map, hTl.out]; exact Tryd.size24))
    try (case l8b => (rw [List.length_map, hTl.out]; exact Nat.le_refl _))
    try (case q8b => exact B8_one _)
    intro w12 hu12 hB12
    rw [splice_all _ _ (by rw [List.length_map, hTl.out]; rfl)] at hB12
    have hBk12 := hBk11.upd hu12 (by omega)
    have hbel12 := hbel11.trans (hu12.below (B := w.heap.size) (by omega))
    clear hBk11 hbel11 hu12 hB11 HY10
    have HY12 := HY.next hbel12
    have hcutT := run_cutAll (P := Tryd.prog) 24 5 32 Tryd.underlying24 Tryd.size5 (by decide) gt 0
    have hcvT := run_conv_later w12 (some ⟨gt, 0, none⟩) 32 32 T hTl.out.symm (blk_holds hB12)
    have hld := run_loadRow (P := Tryd.prog) gk 31 31 _ (q.map B8) 64 Tryd.underlying31 rfl Tryd.size31 (by rw [List.length_map]; exact hql.out) w12 hBk12.lt hBk12
    have hd := below_drew w12
    obtain ⟨o1, ho1⟩ : ∃ o1 : List UInt8, Hid (q.map (fun x : UInt8 => x ^^^ 92) = o1) := ⟨_, rfl⟩
    have ho1l : Hid (o1.length = 64) := by rw [← ho1.out]; rw [List.length_map]; exact hql
    have hol : o1.length + T.length ≤ 1000000000 := by rw [ho1l.out, hTl.out]; decide
    have hol2 : (o1 ++ T).length ≤ 1000000000 := by rw [List.length_append]; exact hol
    go_wp2
    have hsz31 : (Tryd.prog.info? 31).map (·.size) = some (q.map B8).length := by rw [List.length_map, hql.out]; exact Tryd.size31
    have hun31 := Tryd.underlying31
    obtain ⟨F, hF⟩ : ∃ F, Hid (SM.sum (o1 ++ T) = F) := ⟨_, rfl⟩
    have hFl : F.length = 32 := by rw [← hF.out]; rfl
    have hnew := run_storeNew (P := Tryd.prog) 24 (List.replicate 32 (Value.int .u8 0)).toArray F hFl (by rw [hFl]; exact Tryd.size24) rfl
    have hone := B8_one F
    have hthG := Lib.hid (fun w : World => there_new w F hFl 24)
    have hsz24 : (Tryd.prog.info? 24).map (·.size) = some (List.map B8 F).length := by rw [List.length_map, hFl]; exact Tryd.size24
    have hrg : ∀ w', Below w12.heap.size w12 w' → w'.rangeAt gk 0 (q.map B8) := fun w' hw => blk_range (hBk12.next hw hBk12.lt)
    go_region_held3 (fun w' => Below w12.heap.size w12 w' ∧ w'.rangeAt gk 0 (q.map B8))
      (first | assumption | exact ⟨by (first | assumption | exact below_newset (by assumption) _ _ | exact below_put (by assumption) (by assumption) _ | exact below_alloc (by assumption) _ | exact (Below.refl _ _).drew | exact below_alloc (below_drew _) _ | exact Below.refl _ _), hrg _ (by (first | assumption | exact below_newset (by assumption) _ _ | exact below_put (by assumption) (by assumption) _ | exact below_alloc (by assumption) _ | exact (Below.refl _ _).drew | exact below_alloc (below_drew _) _ | exact Below.refl _ _))⟩)
      (first
      | (go_at_call 53; refine (keyed_to q 92 92 o1 _ rfl ho1 hql.out (HY12.next (by (first | assumption | exact below_newset (by assumption) _ _ | exact below_put (by assumption) (by assumption) _ | exact below_alloc (by assumption) _ | exact (Below.refl _ _).drew | exact below_alloc (below_drew _) _ | exact Below.refl _ _)))).mono ?_; rintro e w13 ⟨rfl, hb13⟩; have hk13 : Below w12.heap.size w12 w13 := below_join (by (first | assumption | exact below_newset (by assumption) _ _ | exact below_put (by assumption) (by assumption) _ | exact below_alloc (by assumption) _ | exact (Below.refl _ _).drew | exact below_alloc (below_drew _) _ | exact Below.refl _ _)) hb13; (first | (have hth13 := there_callD F hFl hb13; have hge13 : w12.heap.size ≤ w12.heap.size := Nat.le_refl _) | (have hth13 := there_call F hFl hb13; have hge13 := new_ge (by first | assumption | exact below_drew _) hb13) | (have hth13 := there_next (by assumption) hb13) | skip); clear hb13)
      | (go_at_call 20; refine (add_raw o1 T _ hol (HY12.next (by (first | assumption | exact below_newset (by assumption) _ _ | exact below_put (by assumption) (by assumption) _ | exact below_alloc (by assumption) _ | exact (Below.refl _ _).drew | exact below_alloc (below_drew _) _ | exact Below.refl _ _)))).mono ?_; rintro e w14 ⟨rfl, hb14⟩; have hk14 : Below w12.heap.size w12 w14 := below_join (by (first | assumption | exact below_newset (by assumption) _ _ | exact below_put (by assumption) (by assumption) _ | exact below_alloc (by assumption) _ | exact (Below.refl _ _).drew | exact below_alloc (below_drew _) _ | exact Below.refl _ _)) hb14; (first | (have hth14 := there_callD F hFl hb14; have hge14 : w12.heap.size ≤ w12.heap.size := Nat.le_refl _) | (have hth14 := there_call F hFl hb14; have hge14 := new_ge (by first | assumption | exact below_drew _) hb14) | (have hth14 := there_next (by assumption) hb14) | skip); clear hb14)
      | (go_at_call 22; refine (ssum_to (o1 ++ T) F _ hF hol2 (HY12.next (by (first | assumption | exact below_newset (by assumption) _ _ | exact below_put (by assumption) (by assumption) _ | exact below_alloc (by assumption) _ | exact (Below.refl _ _).drew | exact below_alloc (below_drew _) _ | exact Below.refl _ _)))).mono ?_; rintro e w15 ⟨rfl, hb15⟩; have hk15 : Below w12.heap.size w12 w15 := below_join (by (first | assumption | exact below_newset (by assumption) _ _ | exact below_put (by assumption) (by assumption) _ | exact below_alloc (by assumption) _ | exact (Below.refl _ _).drew | exact below_alloc (below_drew _) _ | exact Below.refl _ _)) hb15; have hth0 := hthG.out w15; (first | (have hth15 := there_callD F hFl hb15; have hge15 : w12.heap.size ≤ w12.heap.size := Nat.le_refl _) | (have hth15 := there_call F hFl hb15; have hge15 := new_ge (by first | assumption | exact below_drew _) hb15) | (have hth15 := there_next (by assumption) hb15) | skip); clear hb15))
    have hcutG : ∀ (g : Nat) (w : World), (Instr.sliceAt 24 (.pointer (some ⟨g, 0, none⟩)) none none none).run Tryd.prog w = .ok (.slice (some ⟨g, 0, none⟩) 32 32) w := fun g => run_cutAll (P := Tryd.prog) 24 5 32 Tryd.underlying24 Tryd.size5 (by decide) g 0
    all_goals
      generalize hW : World.setCells _ _ _ _ = W
      have hW' := Lib.hid hW
      clear hW
      obtain ⟨hH, hBW⟩ := fin_eq hW'.out (by assumption) (show Below w12.heap.size w12 _ by (first | assumption | exact below_alloc (by assumption) _)) (by first | assumption | exact Below.size (by assumption))
      have hcvW := run_conv_later W _ 32 32 F hFl.symm hH W (Below.refl _ _)
      have hbelW := hbel12.trans (hBW.mono hbel12.size)
      have HFin : Hid (mac key.data.toList text.data.toList = F) := by
        have : mac key.data.toList text.data.toList = F := by unfold mac; rw [hq.out, hi1.out, ho1.out, hT.out, hF.out]
        exact this
      clear hBW hH hbel12 hB12 hBk12 HY12 hcutT hcvT hld hd hrg hone hthG hnew
      go_wp2
      go_ret
      exact ⟨by rw [HFin.out]; rfl, hbelW⟩
end Go.Proofs.YtnhnfdfjlagcjaaDoor
