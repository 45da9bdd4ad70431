/-
  Contracts of the walks over chapter 2's Sum, keyed and Equal. Conditions: at most 10^9 bytes; the tables read as the document has them.
-/
import Derived.Test.YtnhnfdfjlagcjaaDoorHsum
import Derived.Test.YtnhnfdfjlagcjaaDoorHbytes
import Derived.Deep.RegionWith
namespace Go.Proofs.YtnhnfdfjlagcjaaDoor
open Go.RowKit

theorem run_storeRow {P : Program} (g : Nat) (t : TypeId) (l cs : List Value) (hl : cs.length = l.length) (h1 : ∀ u ∈ cs, u.oneCell' = true) (w0 : World) (hg : g < w0.heap.size) (hb : Blk w0 g t l) :
    ∀ w, Below w0.heap.size w0 w → (storeCells ⟨g, 0, none⟩ cs).run P w = .ok () (w.setRow g cs.toArray) := fun w hw => by
  have hb' := hb.next hw hg
  have := run_storeCells_at (P := P) g 0 t cs 0 l.toArray w hb' (by simp; omega) h1
  rw [this]
  simp [hl]
theorem run_conv_later (w0 : World) (A : Option Addr) (cap n : Nat) (l : List UInt8) (hn : n = l.length) (hh : Holds w0 A (l.map B8)) :
    ∀ w, Below w0.heap.size w0 w → (convert 22 9 (.slice A n cap)).run Tryd.prog w = .ok (.string ⟨l.toArray⟩) w := fun w hw => by
  subst hn
  exact run_conv w A cap l (hh.next hw)
theorem below_drew (w : World) : Below w.heap.size w w.drew := (Below.refl _ _).drew
theorem str_toList (l : List UInt8) : (⟨l.toArray⟩ : ByteArray).data.toList = l := by simp
theorem str_size (l : List UInt8) : (⟨l.toArray⟩ : ByteArray).size = l.length := by simp [ByteArray.size]

theorem add_nil_raw (l : List UInt8) (w : World) (hl : l.length ≤ 1000000000) (HY : Lay w) :
    Calls Tryd.prog 20 #[.agg (strmC SM.start (SM.zeros 64) 0).toArray, .string ⟨l.toArray⟩] w fun e w' => e = .returned (.agg (SVc l).toArray) ∧ Below w.heap.size w w' := by
  have := add_any [] ⟨l.toArray⟩ w (by rw [str_size]; simpa using hl) HY
  rw [List.nil_append, str_toList] at this
  exact this

set_option maxRecDepth 100000 in
set_option maxHeartbeats 1600000 in
theorem sum_any (A : Option Addr) (cap n : Nat) (l : List UInt8) (w : World) (hn : n = l.length) (hl : l.length ≤ 1000000000) (HY : Lay w) (hh : Holds w A (l.map B8)) :
    Calls Tryd.prog 16 #[.slice A n cap] w fun e w' => e = .returned (.agg ((SM.sum l).map B8).toArray) ∧ Below w.heap.size w w' := by
  have hsl : Hid (((SM.sum l).map B8).length = 32) := by have : ((SM.sum l).map B8).length = 32 := by rw [List.length_map, SM.sum_length]
                                                         exact this
  have HN := Lib.hid hn
  clear hn
  go_enter Tryd.func16, Tryd.ntmps16
  go_wp2_with (with_reducible refine wpList_alloc (o := ⟨some 2, .alloc 24, _, _, _, _⟩) ?g1 24 ?o1 (aggB (SM.zeros 32)) zero32 ?z1 ?c1 ?_)
  try (case g1 => rfl)
  try (case o1 => rfl)
  try (case z1 => exact Tryd.zero24)
  try (case c1 => rfl)
  intro gr w1 hgr hs1 hb1 hB1
  have hle : w.heap.size ≤ gr := Nat.le_of_eq hgr.out.symm
  have hb1' : Below w.heap.size w w1 := hb1.mono hle
  have HY1 := HY.next hb1'
  have hcv := run_conv_later w1 A cap n l HN.out (hh.next hb1')
  have hst := run_storeRow (P := Tryd.prog) gr 24 zero32 ((SM.sum l).map B8) (by rw [hsl.out]; rfl) (B8_one _) w1 hB1.lt hB1
  have hd := below_drew w1
  clear hb1 hgr hs1
  go_wp2
  go_region_with (first
    | (go_at_call 19; refine (begin_any _ (HY1.next (by assumption))).mono ?_; rintro e w2 ⟨rfl, hb2⟩; have hk := below_join (by assumption) hb2; clear hb2)
    | (go_at_call 20; refine (add_nil_raw l _ hl (HY1.next (by assumption))).mono ?_; rintro e w3 ⟨rfl, hb3⟩; have hk3 := below_join (by assumption) hb3; clear hb3)
    | (go_at_call 22; refine (ssum_any l _ hl (HY1.next (by assumption))).mono ?_; rintro e w4 ⟨rfl, hb4⟩; have hk4 := below_join (by assumption) hb4; clear hb4))
  all_goals
    have hB4 := blk_setRow (hB1.next hk4 hB1.lt) ((SM.sum l).map B8)
    have hbel : Below w.heap.size w (w4.setRow gr ((SM.sum l).map B8).toArray) := (hb1'.trans (hk4.mono hb1'.size)).trans ((upd_setRow w4 gr _).below hle)
    generalize w4.setRow gr ((SM.sum l).map B8).toArray = w5 at hB4 hbel ⊢
    clear hcv hst hk hk3 hk4 hd HY1 hB1 hb1'
    go_wp2
    refine bodyPost_ret (results_cell_row rfl _ _ gr _ _ _ _ rfl hB4 Tryd.underlying24 rfl (by rw [List.size_toArray, hsl.out]; exact Tryd.size24)) rfl ⟨rfl, hbel⟩

theorem b_xor (a b : UInt8) : bits .xor .u8 (a.toNat : Int) (b.toNat : Int) = ((a ^^^ b).toNat : Int) := by
  rw [u8_xor_nat _ _ a.toNat_lt b.toNat_lt, UInt8.toNat_xor]
/-- A key combined with a byte, the first k bytes. -/
def xorTo (l : List UInt8) (p : UInt8) (k : Nat) : List UInt8 := (l.take k).map (· ^^^ p) ++ l.drop k
theorem xorTo_length (l : List UInt8) (p : UInt8) (k : Nat) : (xorTo l p k).length = l.length := by
  unfold xorTo; rw [List.length_append, List.length_map, List.length_take, List.length_drop]; omega
theorem xorTo_at (l : List UInt8) (p : UInt8) (k : Nat) (h : k < l.length) : ((xorTo l p k).map B8)[k]? = some (B8 (l.getD k 0)) := by
  unfold xorTo
  rw [List.getElem?_map, List.getElem?_append_right (by rw [List.length_map, List.length_take]; omega), List.length_map, List.length_take, Nat.min_eq_left (by omega), Nat.sub_self, List.getElem?_drop, Nat.add_zero, List.getD_eq_getElem?_getD, List.getElem?_eq_getElem h]
  rfl
theorem xorTo_snoc (l : List UInt8) (p : UInt8) (k : Nat) (h : k < l.length) : splice ((xorTo l p k).map B8) k [B8 (l.getD k 0 ^^^ p)] = (xorTo l p (k + 1)).map B8 := by
  have e : xorTo l p (k + 1) = (l.take k).map (· ^^^ p) ++ ((l.getD k 0 ^^^ p) :: l.drop (k + 1)) := by
    unfold xorTo
    rw [List.take_succ_eq_append_getElem h, List.map_append, List.append_assoc, List.getD_eq_getElem?_getD, List.getElem?_eq_getElem h]
    rfl
  have hk : ((l.take k).map (· ^^^ p)).length = k := by rw [List.length_map, List.length_take]; omega
  rw [e]
  unfold splice xorTo
  rw [List.map_append, List.take_left' (by rw [List.length_map, hk]), List.drop_append, List.drop_eq_nil_of_le (by rw [List.length_map, hk]; exact Nat.le_add_right _ _), List.length_map, hk, List.map_append, ← List.map_drop, List.drop_drop]
  simp
theorem run_cutAll {P : Program} (ty e : TypeId) (n : Nat) (hu : P.underlying ty = some (.array n e)) (hs : (P.info? e).map (·.size) = some 1) (hn : n ≠ 0) (g b : Nat) (w : World) :
    (Instr.sliceAt ty (.pointer (some ⟨g, b, none⟩)) none none none).run P w = .ok (.slice (some ⟨g, b, none⟩) n n) w := by
  obtain ⟨e1, e2⟩ := arrayLen_of hu
  have hrun := run_sliceAt_array_all (P := P) w ty ⟨g, b, none⟩ (by rw [e1, e2]; exact hu)
  cases hq : P.info? e with
  | none => simp [hq] at hs
  | some i =>
    have hz : i.size = 1 := by simpa [hq] using hs
    rw [e1, e2] at hrun
    simpa [sizeOf, typeInfo, hq, hz, slicedAt, addr_mid, hn] using hrun
theorem blk_holds {w : World} {g : Nat} {t : TypeId} {l : List Value} (h : Blk w g t l) : Holds w (some ⟨g, 0, none⟩) l := fun j u hu => ⟨_, rfl, by rw [addr_mid, Nat.zero_add]; exact h.cell hu⟩
def KeyRel (l : List UInt8) (p : UInt8) (B gk gr : Nat) (w : World) (i : Value) (wr : World) : Prop :=
  ∃ k : Nat, k ≤ 64 ∧ i = .int .i64 k ∧ Blk wr gk 31 ((xorTo l p k).map B8) ∧ Blk wr gr 34 zeroS ∧ Below B w wr

set_option maxRecDepth 100000 in
set_option maxHeartbeats 1600000 in
theorem keyed_any (l : List UInt8) (p : UInt8) (w : World) (hl : l.length = 64) (HY : Lay w) :
    Calls Tryd.prog 53 #[.agg (l.map B8).toArray, .int .u8 (p.toNat : Int)] w fun e w' => e = .returned (.agg (SVc (l.map (· ^^^ p))).toArray) ∧ Below w.heap.size w w' := by
  have HL := Lib.hid hl
  clear hl
  go_enter Tryd.func53, Tryd.ntmps53
  go_wp2_with (with_reducible refine wpList_box (o := ⟨some 2, .box 31 (.tmp 0), _, _, _, _⟩) ?g1 31 (.tmp 0) ?o1 (.agg (l.map B8).toArray) (l.map B8) ?x1 ?c1 ?_)
  try (case g1 => rfl)
  try (case o1 => rfl)
  try (case x1 => rfl)
  try (case c1 => rfl)
  intro gk w1 hgk hs1 hb1 hB1
  go_wp2_with (with_reducible refine wpList_alloc (o := ⟨some 4, .alloc 34, _, _, _, _⟩) ?g2 34 ?o2 (strmV ⟨0, 0, 0, 0, 0, 0, 0, 0⟩ (SM.zeros 64) 0) zeroS ?z2 ?c2 ?_)
  try (case g2 => rfl)
  try (case o2 => rfl)
  try (case z2 => exact Tryd.zero34)
  try (case c2 => rfl)
  intro gr w2 hgr hs2 hb2 hB2
  have hlt0 : w.heap.size ≤ gk := Nat.le_of_eq hgk.out.symm
  have hlt1 : gk < gr := by have := hs1.out; have := hgr.out; omega
  have hb : Below w.heap.size w w2 := (hb1.mono hlt0).trans (hb2.mono (by omega))
  have hBk := hB1.next hb2 hlt1
  clear hgk hgr hs1 hs2 hb1 hb2 hB1
  go_wp2
  go_loopw [6] (KeyRel l p w.heap.size gk gr w) (fun i _ => 64 - (intOf i).toNat)
  case atStart => exact ⟨0, by omega, rfl, hBk, hB2, hb⟩
  case round =>
    obtain ⟨k, hk, rfl, hBk, hBr, hbel⟩ := hrel
    by_cases hlt : k < 64
    · have hc := hBk.cell (xorTo_at l p k (by rw [HL.out]; exact hlt))
      have hsn := Lib.hid (xorTo_snoc l p k (by rw [HL.out]; exact hlt))
      generalize l.getD k 0 = c at hc hsn
      unfold B8 at hc
      go_wp2_with (with_reducible refine wpList_put (o := ⟨none, .store 5 (.tmp 14) (.tmp 13), _, _, _, _⟩) ?g3 5 (.tmp 14) (.tmp 13) ?o3 gk k ?x3 (B8 (c ^^^ p)) ?y3 hBk [B8 (c ^^^ p)] ?v3 ?i3 ?l3 ?q3 ?_)
      try (case y3 => (show Value.int .u8 (bits .xor .u8 (c.toNat : Int) (p.toNat : Int)) = _; rw [b_xor]; rfl))
      try (case x3 => rfl)
      try (case g3 => rfl)
      try (case o3 => rfl)
      try (case v3 => rfl)
      try (case i3 => exact Tryd.size5)
      try (case l3 => (rw [List.length_map, xorTo_length, HL.out]; simp; omega))
      try (case q3 => exact one_cell1 rfl)
      intro w3 hu3 hB3
      rw [hsn.out] at hB3
      have hBr3 := hBr.upd hu3 (by omega)
      have hbel3 := hbel.trans (hu3.below (B := w.heap.size) (by omega))
      clear hBk hBr hbel hu3 hsn hc
      go_wp2
      go_roundw
      case rel => exact ⟨k + 1, by omega, by go_num, hB3, hBr3, hbel3⟩
      case measure => simp [intOf]; omega
    · obtain ⟨X, hX, hXl⟩ : ∃ X, Hid (l.map (· ^^^ p) = X) ∧ Hid (X.length = 64) := ⟨_, rfl, (by rw [List.length_map, HL.out] : (l.map (· ^^^ p)).length = 64)⟩
      have hkX : (xorTo l p k).map B8 = X.map B8 := by
        have : k = 64 := by omega
        rw [this, ← hX.out]
        unfold xorTo
        rw [List.take_of_length_le (by rw [HL.out]; exact Nat.le_refl _), List.drop_eq_nil_of_le (by rw [HL.out]; exact Nat.le_refl _), List.append_nil]
      rw [hkX] at hBk
      clear hkX
      have HYr := HY.next hbel
      have hcut := run_cutAll (P := Tryd.prog) 31 5 64 Tryd.underlying31 Tryd.size5 (by decide) gk 0
      have hcv := run_conv_later wr (some ⟨gk, 0, none⟩) 64 64 X hXl.out.symm (blk_holds hBk)
      have hst := run_storeRow (P := Tryd.prog) gr 34 zeroS (SVc X) (by rw [SVc_length]; rfl) (strm_one _ _ _) wr hBr.lt hBr
      have hd := below_drew wr
      have hlen := SVc_length X
      have hXb : X.length ≤ 1000000000 := by rw [hXl.out]; decide
      go_wp2
      go_region_with (first
        | (go_at_call 19; refine (begin_any _ (HYr.next (by assumption))).mono ?_; rintro e w5 ⟨rfl, hb5⟩; have hk5 := below_join (by assumption) hb5; clear hb5)
        | (go_at_call 20; refine (add_nil_raw X _ hXb (HYr.next (by assumption))).mono ?_; rintro e w6 ⟨rfl, hb6⟩; have hk6 := below_join (by assumption) hb6; clear hb6))
      all_goals
        have hB7 := blk_setRow (hBr.next hk6 hBr.lt) (SVc X)
        have hbel7 : Below w.heap.size w (w6.setRow gr (SVc X).toArray) := (hbel.trans (hk6.mono hbel.size)).trans ((upd_setRow w6 gr _).below (by omega))
        generalize w6.setRow gr (SVc X).toArray = w7 at hB7 hbel7 ⊢
        clear hcv hst hk5 hk6 hd HYr hBr hBk hbel hcut
        go_wp2
        refine bodyPost_ret (results_cell_row rfl _ _ gr _ _ _ _ rfl hB7 Tryd.underlying34 rfl (by rw [List.size_toArray, SVc_length]; exact Tryd.size34)) rfl ⟨by rw [hX.out], hbel7⟩
end Go.Proofs.YtnhnfdfjlagcjaaDoor
