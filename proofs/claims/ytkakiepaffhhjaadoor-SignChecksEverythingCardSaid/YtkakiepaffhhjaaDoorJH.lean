/-
  Contracts of the functions that the statements of layer 3 call, part 8 of 10 (merged texts: Sc14, Sc15, Sc16, Sc17, Sc18). Conditions: as the head of each part says.
-/
import Derived.Test.YtkakiepaffhhjaaDoorJG

/-
  Contract of the walk over sign.Sign. Conditions: a seed of at most 10^7 bytes; a message of at most 10^6 bytes; the tables read as the document has them.
-/
namespace Go.Proofs.YtkakiepaffhhjaaDoor
open Go.RowKit

namespace SG
/-- The first n values of the chains of a signature whose digits are these. -/
def chains (seed : List UInt8) (k : Nat) (ds : List Nat) (n : Nat) : List UInt8 := (List.range n).flatMap fun j => climb k j (start seed k j) 0 (ds.getD j 0)
/-- The first n values beside the way up the tree. -/
def beside (seed : List UInt8) (k n : Nat) : List UInt8 := (List.range n).flatMap fun q => value seed q ((k / 2 ^ q) ^^^ 1)
def sig (seed : List UInt8) (h k : Nat) (msg : List UInt8) : List UInt8 := WM.encI (k : Int) ++ chains seed k (digits (message (value seed h 0) (k : Int) msg)) 35 ++ beside seed k h
theorem chains_succ (seed : List UInt8) (k : Nat) (ds : List Nat) (n : Nat) : chains seed k ds (n + 1) = chains seed k ds n ++ climb k n (start seed k n) 0 (ds.getD n 0) := by unfold chains; rw [List.range_succ]; simp
theorem beside_succ (seed : List UInt8) (k n : Nat) : beside seed k (n + 1) = beside seed k n ++ value seed n ((k / 2 ^ n) ^^^ 1) := by unfold beside; rw [List.range_succ]; simp
theorem chains_length (seed : List UInt8) (k : Nat) (ds : List Nat) : ∀ n, (chains seed k ds n).length = 16 * n
  | 0 => rfl
  | n + 1 => by rw [chains_succ, List.length_append, chains_length seed k ds n, climb_length _ _ _ _ (start_length _ _ _)]; omega
theorem beside_length (seed : List UInt8) (k : Nat) : ∀ n, (beside seed k n).length = 16 * n
  | 0 => rfl
  | n + 1 => by rw [beside_succ, List.length_append, beside_length seed k n, value_length]; omega
theorem digits_15 (d : List UInt8) (h : d.length = 16) : ∀ n ∈ digits d, n ≤ 15 := by
  intro n hn
  unfold digits at hn
  rcases List.mem_append.1 hn with h1 | h1
  · unfold nib at h1
    obtain ⟨x, _, hx⟩ := List.mem_flatMap.1 h1
    have := x.toNat_lt
    simp at hx
    omega
  · have hs := dsum_le d
    rw [h] at hs
    simp at h1
    omega
end SG
def sgS (seed : List UInt8) (h i : Int) (msg : List UInt8) : List UInt8 := if okI2 h i then SG.sig seed h.toNat i.toNat msg else []
def sgE (h i : Int) : Int := if okH h then (if okI2 h i then 0 else 14) else 1
theorem okI2_not {h i : Int} (ho : okH h = false) : okI2 h i = false := by
  have hc : cnt h = 0 := by unfold cnt; rw [ho]; rfl
  exact decide_eq_false (fun x => by have := x.2; rw [hc] at this; omega)
def SnRel (P : List UInt8) (b : World) (f : Nat → List UInt8) (m : Nat) (sig i : Value) (wr : World) : Prop :=
  ∃ j : Nat, j ≤ m ∧ i = .int .i64 j ∧ wr.ownsRow b.heap.size 5 1 sig (P ++ f j).length ((P ++ f j).map B8) ∧ Below b.heap.size b wr
def ScRel (P : List UInt8) (gi k : Nat) (b : World) (f : Nat → List UInt8) (m : Nat) (sig i : Value) (wr : World) : Prop :=
  ∃ j : Nat, j ≤ m ∧ i = .int .i64 j ∧ wr.ownsRow b.heap.size 5 1 sig (P ++ f j).length ((P ++ f j).map B8) ∧ Below b.heap.size b wr ∧ wr.cell? ⟨gi, 0, none⟩ = some (.int .i64 k)
/-- A row of bytes lies in another block than a number. -/
theorem own_ne_cell {w : World} {base n gi : Nat} {v : Value} {l : List UInt8} {i : Int} (h : w.ownsRow base 5 1 v n (l.map B8)) (hn : 0 < n) (hc : w.cell? ⟨gi, 0, none⟩ = some (.int .i64 i)) : v.ownBlock ≠ some gi := by
  intro e
  have hl := h.1
  obtain ⟨g, cap, rfl, hcs⟩ := own_someE h hn
  cases e
  have h0 : 0 < (l.map B8).length := by omega
  have hx := hcs 0 _ (List.getElem?_eq_getElem h0)
  rw [addr_mid, show (0 + 0 : Nat) = 0 from rfl, hc, List.getElem_map] at hx
  cases hx
theorem cell_grown {w w' : World} {row : Option Nat} {gi : Nat} {v : Value} (hc : w.cell? ⟨gi, 0, none⟩ = some v) (hg : w.grownBy w' row) (hne : row ≠ some gi) : w'.cell? ⟨gi, 0, none⟩ = some v := by
  have hblk : w'.heap[gi]? = w.heap[gi]? := hg.block gi (World.block_lt_of_cell? w _ hc) (fun e => hne e.symm)
  unfold World.cell? at hc ⊢
  simp only [hblk]
  exact hc
/-- A new variable, as one step. -/
theorem wp_allocz {P : Program} {o : Oper} {a : Act} {w : World} {K : Act → World → Prop} {Q : Exit → Act → World → Prop} (ty : TypeId) (ho : o.op = .alloc ty) (z : Value) (cs : List Value)
    (hz : (P.info? ty).map (·.zero) = some (some z)) (hc : z.cells = cs.toArray)
    (h : ∀ g w', Hid (g = w.heap.size) → Hid (w'.heap.size = g + 1) → Below g w w' → Blk w' g ty cs → K (a.put o.dst (.pointer (some ⟨g, 0, none⟩))) w') : Oper.wp P o a w K Q := by
  cases hq : P.info? ty with
  | none => simp [hq] at hz
  | some i =>
    have hz' : i.zero = some z := by simpa [hq] using hz
    unfold Oper.wp execOp
    simp [ho, Instr.alloc, newVar, newRow, zeroValue, typeInfo, hq, hz', hc]
    exact h _ _ rfl (by show (w.alloc _).heap.size = _; simp) (below_new w _) (blk_new w ty cs)
theorem xor_one : ∀ x : Nat, x < 64 → bits .xor .i64 (x : Int) 1 = ((x ^^^ 1 : Nat) : Int) := by decide
theorem ediv_pow (k q : Nat) : (k : Int) / 2 ^ q = ((k / 2 ^ q : Nat) : Int) := by push_cast; rfl
set_option maxRecDepth 100000 in
set_option maxHeartbeats 3200000 in
theorem sign_ok (seed : ByteArray) (h k : Nat) (ml : List UInt8) (w : World) (h6 : h ≤ 6) (hk : k < 2 ^ h) (hs : seed.size ≤ 10000000) (hm : ml.length ≤ 1000000) (HY : Lay w) :
    Calls Tryd.prog 18 #[.string seed, .int .i64 h, .int .i64 k, .string ⟨ml.toArray⟩] w fun e w' => e = .returned (.tuple #[.string ⟨(SG.sig seed.data.toList h k ml).toArray⟩, .int .i64 0]) ∧ Below w.heap.size w w' := by
  obtain ⟨i0, hi, hz0, hz1, hz2⟩ := info_parts Tryd.info8
  have ho : okH (h : Int) = true := decide_eq_true ⟨by omega, by omega⟩
  have hcn : cnt (h : Int) = 2 ^ h := by unfold cnt; rw [if_pos ho, Int.toNat_natCast]
  have hoi : okI2 (h : Int) (k : Int) = true := decide_eq_true ⟨by omega, by rw [hcn]; omega⟩
  have hk64 : k < 64 := Nat.lt_of_lt_of_le hk (Nat.le_trans (Nat.pow_le_pow_right (by decide) h6) (by decide))
  obtain ⟨pub, hpub⟩ : ∃ p, (Unit → SG.value seed.data.toList h 0 = p) := ⟨_, fun _ => rfl⟩
  have hpl : Hid (pub.length = 16) := by rw [← hpub ()]; exact SG.value_length _ _ _
  obtain ⟨md, hmd⟩ : ∃ p, (Unit → SG.message pub (k : Int) ml = p) := ⟨_, fun _ => rfl⟩
  have hmdl : Hid (md.length = 16) := by rw [← hmd ()]; exact SG.hof_length _ _
  obtain ⟨ds, hds⟩ : ∃ p, Hid (SG.digits md = p) := ⟨_, rfl⟩
  have hdsl : Hid (ds.length = 35) := by rw [← hds.out]; exact SG.digits_length _ hmdl.out
  have hds15 : Hid (∀ n ∈ ds, n ≤ 15) := by rw [← hds.out]; exact SG.digits_15 _ hmdl.out
  have hkI : WM.okI (k : Int) := ⟨by omega, by omega⟩
  obtain ⟨E, hE⟩ : ∃ E, Hid (WM.encI (k : Int) = E) := ⟨_, rfl⟩
  have hEl : E.length ≤ 10 := by rw [← hE.out]; exact WM.encI_le hkI
  have hsig : Hid (SG.sig seed.data.toList h k ml = (E ++ SG.chains seed.data.toList k ds 35) ++ SG.beside seed.data.toList k h) := by
    have : SG.sig seed.data.toList h k ml = (E ++ SG.chains seed.data.toList k ds 35) ++ SG.beside seed.data.toList k h := by
      unfold SG.sig; rw [hpub (), hmd (), hds.out, hE.out]
    exact this
  have HI := fun w => int_any (k : Int) w (by omega) (by omega)
  rw [hE.out] at HI
  obtain ⟨R, hR⟩ : ∃ R, Hid (SG.sig seed.data.toList h k ml = R) := ⟨_, rfl⟩
  rw [hR.out] at hsig ⊢
  have HK := Lib.hid hk
  clear hcn hk
  go_enter Tryd.func18, Tryd.ntmps18
  go_wp2_with fail
  (with_reducible refine (permitted_to _ true _ ho).mono ?_)
  rintro e w' ⟨rfl, rfl⟩
  go_wp2_with fail
  (with_reducible refine (has_any _ _ true _ hoi).mono ?_)
  rintro e w' ⟨rfl, rfl⟩
  go_wp2_with fail
  (with_reducible refine (tree_any seed h _ h6 hs HY).mono ?_)
  rintro e w1 ⟨vt, vs, rfl, hvl, hlv, hown, hb1⟩
  go_wp2_with fail
  (with_reducible refine (HI _).mono ?_)
  rintro e w2 ⟨vs2, rfl, hsg2, hb2⟩
  have hlvT := hlv
  have hownT := hown
  have hlv2 := hlv.next hb2
  have hown2 := own_next hown hb2
  have hbel2 := below_join hb1 hb2
  clear hlv hown
  go_wp2_with fail
  (with_reducible refine (climber_any (k : Int) _).mono ?_)
  rintro e w3 ⟨rfl, hcl3, hb3⟩
  have hlv3 := hlv2.next hb3
  have hown3 := own_next hown2 hb3
  have hsg3 := own_next hsg2 hb3
  have hbel3 := below_join hbel2 hb3
  have hgi := World.block_lt_of_cell? w3 _ hcl3
  obtain ⟨gi, hge⟩ : ∃ gi, Hid (w2.heap.size = gi) := ⟨_, rfl⟩
  rw [hge.out] at hcl3 hgi ⊢
  clear hlv2 hown2 hsg2 hbel2 hge
  go_wp2_with fail
  (with_reducible refine (root_any seed.data.toList h _ vt vs pub _ hpub h6 hvl hlv3 hown3).mono ?_)
  rintro e w4 ⟨rfl, hb4⟩
  go_wp2_with fail
  (with_reducible refine (smessage_any pub (k : Int) ml md _ hmd hpl.out hkI hm (HY.next (below_join hbel3 hb4))).mono ?_)
  rintro e w5 ⟨rfl, hb5⟩
  go_wp2_with fail
  (with_reducible refine (sdigits_any md _ hmdl.out).mono ?_)
  rintro e w6 ⟨rfl, hb6⟩
  rw [hds.out]
  have hk36 := below_join (below_join hb4 hb5) hb6
  have hlv6 := hlv3.next hk36
  have hown6 := own_next hown3 hk36
  have hsg6 := own_next hsg3 hk36
  have hcl6 : w6.cell? ⟨gi, 0, none⟩ = some (.int .i64 k) := by rw [hk36.cell hgi]; exact hcl3
  have hbel6 := below_join hbel3 hk36
  have hb16 := below_join (below_join hb2 hb3) hk36
  have hEp : 0 < E.length := by rw [← hE.out]; exact WM.encI_pos _
  have HU8 : ∃ dd, Hid (Tryd.prog.underlying 3 = some dd) ∧ dd.isRow = false := ⟨_, Tryd.underlying3, rfl⟩
  obtain ⟨dd, HDD, hdd⟩ := HU8
  have hsg0 : w6.ownsRow w1.heap.size 5 1 vs2 (E ++ SG.chains seed.data.toList k ds 0).length ((E ++ SG.chains seed.data.toList k ds 0).map B8) := by
    rw [show SG.chains seed.data.toList k ds 0 = [] from rfl, List.append_nil]; exact hsg6
  clear hlv3 hown3 hsg3 hbel3 hcl3 hb4 hb5 hb6 hk36 hlv6 hown6 hsg6 hbel6 hb2 hb3
  go_wp2
  go_loopw [11, 40] (ScRel E gi k w1 (SG.chains seed.data.toList k ds) 35) (fun _ i _ => 35 - (intOf i).toNat)
  case atStart => exact ⟨0, by omega, rfl, hsg0, hb16, hcl6⟩
  case round =>
    clear hsg0 hb16 hcl6
    obtain ⟨j, hj, rfl, hown, hbel, hcl⟩ := hrel
    by_cases hlt : j < 35
    · obtain ⟨d, hd⟩ : ∃ d, ds[j]? = some d := ⟨_, List.getElem?_eq_getElem (by rw [hdsl.out]; exact hlt)⟩
      have hd15 : d ≤ 15 := hds15.out d (List.mem_of_getElem? hd)
      have hgd : ds.getD j 0 = d := by rw [List.getD_eq_getElem?_getD, hd]; rfl
      have HDX : Hid ((ds.map N8)[j]? = some (.int .i64 (d : Int))) := by
        have : (ds.map N8)[j]? = some (.int .i64 (d : Int)) := by rw [List.getElem?_map, hd]; rfl
        exact this
      obtain ⟨s0, hs0⟩ : ∃ s0, (Unit → SG.start seed.data.toList k j = s0) := ⟨_, fun _ => rfl⟩
      have hs0l : Hid (s0.length = 16) := by rw [← hs0 ()]; exact SG.start_length _ _ _
      obtain ⟨v0, hv0⟩ : ∃ v0, (Unit → SG.climb k j s0 0 (d - 0) = v0) := ⟨_, fun _ => rfl⟩
      have hv0l : Hid (v0.length = 16) := by rw [← hv0 ()]; exact SG.climb_length _ _ _ _ hs0l.out _
      have hTl : (E ++ SG.chains seed.data.toList k ds j).length ≤ 1000 := by rw [List.length_append, SG.chains_length]; omega
      have hTp : 0 < (E ++ SG.chains seed.data.toList k ds j).length := by rw [List.length_append]; omega
      have hch : Hid (E ++ SG.chains seed.data.toList k ds (j + 1) = (E ++ SG.chains seed.data.toList k ds j) ++ v0) := by
        have : E ++ SG.chains seed.data.toList k ds (j + 1) = (E ++ SG.chains seed.data.toList k ds j) ++ v0 := by
          rw [SG.chains_succ, hgd, hs0 (), show SG.climb k j s0 0 d = v0 from hv0 (), List.append_assoc]
        exact this
      obtain ⟨T, hT⟩ : ∃ T, Hid (E ++ SG.chains seed.data.toList k ds j = T) := ⟨_, rfl⟩
      rw [hT.out] at hown hTl hTp hch
      clear hgd hd hT
      have hbw := below_join hb1 hbel
      have hgw := World.block_lt_of_cell? wr _ hcl
      go_wp2_with (with_reducible refine wpList_idx (o := ⟨some 43, .index 25 (.tmp 39) (.tmp 40), _, _, _, _⟩) (by with_unfolding_all rfl) 25 (.tmp 39) (.tmp 40) (by with_unfolding_all rfl) 3 35 j (ds.map N8) (.int .i64 (d : Int)) dd (by with_unfolding_all rfl) (by with_unfolding_all rfl) Tryd.underlying25 Tryd.size3 (by exact HDD.out) (by exact hdd) (by exact hlt) (by exact HDX.out) ?_)
      go_wp2_with fail
      (with_reducible refine (secret_any seed k j s0 _ hs0 (by omega) (by omega) (by omega) (HY.next hbw)).mono ?_)
      rintro e w8 ⟨rfl, hb8⟩
      have hown8 := own_next hown hb8
      have hbel8 := below_join hbel hb8
      have hcl8 : w8.cell? ⟨gi, 0, none⟩ = some (.int .i64 k) := by rw [hb8.cell hgw]; exact hcl
      have hgw8 := World.block_lt_of_cell? w8 _ hcl8
      clear hown hbel hcl hbw hgw hb8
      go_wp2_with fail
      (with_reducible refine (climb_at gi k j 0 d 0 d s0 v0 _ rfl rfl hv0 (by omega) (by omega) (by omega) (by omega) hs0l.out hcl8 (HY.next (below_join hb1 hbel8))).mono ?_)
      rintro e w9 ⟨rfl, hb9⟩
      have hown9 := own_next hown8 hb9
      have hbel9 := below_join hbel8 hb9
      have hcl9 : w9.cell? ⟨gi, 0, none⟩ = some (.int .i64 k) := by rw [hb9.cell hgw8]; exact hcl8
      have hgw9 := World.block_lt_of_cell? w9 _ hcl9
      clear hown8 hbel8 hcl8 hgw8 hb9
      go_wp2_with (with_reducible refine wpList_alloc (o := ⟨some 15, .alloc 23, _, _, _, _⟩) (by with_unfolding_all rfl) 23 (by with_unfolding_all rfl) (aggB (SM.zeros 16)) zero16 (by exact Tryd.zero44) (by with_unfolding_all rfl) ?_)
      intro gt w10 hgt hs10 hb10 hB10
      have hle : w9.heap.size ≤ gt := Nat.le_of_eq hgt.out.symm
      go_wp2_with (with_reducible refine wpList_put (o := ⟨none, .store 23 (.tmp 15) (.tmp 51), _, _, _, _⟩) (by with_unfolding_all rfl) 23 (.tmp 15) (.tmp 51) (by with_unfolding_all rfl) gt 0 (by with_unfolding_all rfl) (.agg (v0.map B8).toArray) (by with_unfolding_all rfl) hB10 (v0.map B8) (by with_unfolding_all rfl) (by rw [List.length_map, hv0l.out]; exact Tryd.size44) (by with_unfolding_all (rw [List.length_map, hv0l.out]; exact Nat.le_refl _)) (B8_one _) ?_)
      intro w11 hu11 hB11
      rw [splice_all _ _ (by rw [List.length_map, hv0l.out]; rfl)] at hB11
      have hb11 : Below w9.heap.size w9 w11 := (hb10.mono hle).trans (hu11.below (B := w9.heap.size) hle)
      have hown11 := own_next hown9 hb11
      have hbel11 := below_join hbel9 hb11
      have hcl11 : w11.cell? ⟨gi, 0, none⟩ = some (.int .i64 k) := by rw [hb11.cell hgw9]; exact hcl9
      have hlt11 := hown11.lt
      have hsz11 := hbel11.size
      clear hown9 hbel9 hcl9 hgw9 hb10 hB10 hu11 hb11 hs10 hgt
      go_wp2_with (first | (with_reducible refine wpList_cutA (o := ⟨some 53, .slice 23 (.tmp 15) none none none, _, _, _, _⟩) (by with_unfolding_all rfl) 23 (.tmp 15) (by with_unfolding_all rfl) gt 0 (by with_unfolding_all rfl) 16 5 Tryd.underlying23 Tryd.size5 (by decide) ?_) | (at_builtin; refine wpList_append_own _ rfl _ _ 43 rfl w1.heap.size 5 i0 (.int .u8 0) 1 1 Tryd.underlying43 hi hz0 hz1 hz2 rfl (by decide) _ _ _ rfl hown11 ⟨gt, 0, none⟩ 16 16 (v0.map B8) rfl ?c1 ?c2 ?c3 ?c4 ?c5 ?c6 ?_))
      case c1 => rw [List.length_map, hv0l.out]
      case c2 => intro q u hu; rw [addr_mid, Nat.zero_add]; exact hB11.cell hu
      case c3 => exact B8_one _
      case c4 => unfold maxLen; omega
      case c5 => omega
      case c6 => omega
      intro v3 w12 hown12 hgrow _
      have hbel12 := hbel11.grown hgrow hsz11 (fun q hq => (hlt11 q hq).1)
      have hcl12 := cell_grown hcl11 hgrow (own_ne_cell hown11 hTp hcl11)
      rw [← List.map_append, show T.length + 16 = (T ++ v0).length by rw [List.length_append, hv0l.out], ← hch.out] at hown12
      clear hown11 hgrow hlt11 hbel11 hcl11 hB11 hch
      go_wp2
      go_roundw
      case rel => exact ⟨j + 1, by omega, by go_num, hown12, hbel12, hcl12⟩
      case measure => simp [intOf]; omega
    · obtain rfl : j = 35 := by omega
      clear hlt hj hcl HDD hdd hgi
      obtain ⟨S1, hS1⟩ : ∃ S1, Hid (E ++ SG.chains seed.data.toList k ds 35 = S1) := ⟨_, rfl⟩
      have hS1l : S1.length ≤ 600 := by rw [← hS1.out, List.length_append, SG.chains_length]; omega
      rw [hS1.out] at hown hsig
      have hown0 := hown
      rw [← List.append_nil S1, show ([] : List UInt8) = SG.beside seed.data.toList k 0 from rfl] at hown0
      clear hown hS1
      go_wp2
      go_loopw [11, 57] (SnRel S1 w1 (SG.beside seed.data.toList k) h) (fun _ i _ => h - (intOf i).toNat)
      case atStart => exact ⟨0, Nat.zero_le _, rfl, hown0, hbel⟩
      case round =>
        clear hown0 hbel
        obtain ⟨q, hq, rfl, hown, hbel⟩ := hrel
        by_cases hlt : q < h
        · obtain ⟨v, hv⟩ : ∃ v, vs[q]? = some v := ⟨_, List.getElem?_eq_getElem (by omega)⟩
          obtain ⟨g, c, rfl, hc, hh⟩ := (hlvT.next hbel) q v hv
          obtain ⟨gl, cL, hvL, hhL⟩ := own_someE (own_next hownT hbel) (Nat.succ_pos h)
          subst hvL
          have hcq := hhL q _ hv
          rw [addr_mid, Nat.zero_add] at hcq
          obtain ⟨x, hx⟩ : ∃ x, Hid (k / 2 ^ q = x) := ⟨_, rfl⟩
          have hx64 : x < 64 := by rw [← hx.out]; exact Nat.lt_of_le_of_lt (Nat.div_le_self _ _) hk64
          obtain ⟨y, hy⟩ : ∃ y, Hid (x ^^^ 1 = y) := ⟨_, rfl⟩
          have hxm : x < 2 ^ (h - q) := by
            rw [← hx.out, Nat.div_lt_iff_lt_mul (Nat.two_pow_pos _), ← Nat.pow_add, show h - q + q = h by omega]; exact HK.out
          have hym : y < 2 ^ (h - q) := by rw [← hy.out]; exact Nat.xor_lt_two_pow hxm (Nat.one_lt_two_pow (by omega))
          have hsh : (k : Int) / 2 ^ q = (x : Int) := by rw [ediv_pow, hx.out]
          have hxo : bits .xor .i64 (x : Int) 1 = (y : Int) := by rw [xor_one x hx64, hy.out]
          have hmin : min q 64 = q := by omega
          obtain ⟨M, hM⟩ : ∃ M : Nat, Hid ((2 : Nat) ^ (h - q) = M) := ⟨_, rfl⟩
          rw [hM.out] at hym hcq hc hh
          obtain ⟨V, hV⟩ : ∃ V, (Unit → SG.value seed.data.toList q y = V) := ⟨_, fun _ => rfl⟩
          have hVl : Hid (V.length = 16) := by rw [← hV ()]; exact SG.value_length _ _ _
          have hbs : Hid (S1 ++ SG.beside seed.data.toList k (q + 1) = (S1 ++ SG.beside seed.data.toList k q) ++ V) := by
            have : S1 ++ SG.beside seed.data.toList k (q + 1) = (S1 ++ SG.beside seed.data.toList k q) ++ V := by rw [SG.beside_succ, hx.out, hy.out, hV (), List.append_assoc]
            exact this
          have hrg : wr.rangeAt g (y * 16) (V.map B8) := row_range (SG.row_16 seed.data.toList q M) hh (by rw [← hV ()]; exact SG.row_at _ _ _ _ hym)
          have hgl : g < wr.heap.size := by
            have := hrg 0 (B8 (V.getD 0 0)) (by rw [List.getElem?_map, List.getD_eq_getElem?_getD, List.getElem?_eq_getElem (by rw [hVl.out]; decide)]; rfl)
            exact World.block_lt_of_cell? wr _ this
          have hltq := World.block_lt_of_cell? wr _ hcq
          have HCQ := Lib.hid hcq
          have HRG := Lib.hid hrg
          have hTl : (S1 ++ SG.beside seed.data.toList k q).length ≤ 1000 := by rw [List.length_append, SG.beside_length]; omega
          obtain ⟨T, hT⟩ : ∃ T, Hid (S1 ++ SG.beside seed.data.toList k q = T) := ⟨_, rfl⟩
          rw [hT.out] at hown hTl hbs
          have hS : ∀ w', Below wr.heap.size wr w' → (Below w1.heap.size w1 w' ∧ w'.cell? ⟨gl, q, none⟩ = some (.slice (some ⟨g, 0, none⟩) M c) ∧ w'.rangeAt g (y * 16) (V.map B8)) := fun w' h => ⟨below_join hbel h, by rw [h.cell (p := ⟨gl, q, none⟩) hltq]; exact HCQ.out, fun j u hu => by rw [h.cell (p := ⟨g, y * 16 + j, none⟩) hgl]; exact HRG.out j u hu⟩
          have hu := Tryd.underlying23
          have hz : (Tryd.prog.info? 23).map (·.size) = some (V.map B8).length := by rw [List.length_map, hVl.out]; exact Tryd.size44
          have hqi : (q : Int) < (h : Int) + 1 := by omega
          have hyi : (y : Int) < (M : Int) := by omega
          have hdd := below_drew wr
          have hvl' := Lib.hid hvl
          clear hv hhL hh hcq hrg hx hy hT hvl hV hxm
          go_wp2
          refine wp_region_held_drew (S := fun w' => Below w1.heap.size w1 w' ∧ w'.cell? ⟨gl, q, none⟩ = some (.slice (some ⟨g, 0, none⟩) M c) ∧ w'.rangeAt g (y * 16) (V.map B8)) (by kernel_rfl) (hS _ hdd) (fun hHeld => ?_)
          generalize wr.drew = wd at hdd hHeld ⊢
          refine wpAnyH_take (i := 0) (v := ?vl0) rfl (by kernel_rfl) (by kernel_rfl) (by kernel_rfl) (fun _ _ _ h => h) (Or.inl ⟨by rfl, ?yl0⟩) (by assumption) ?rl0
          case yl0 => intro w hSw; (try dsimp only at hSw); go_simp <;> (try with_reducible rfl)
          (try simp only [List.getElem_toArray, List.getElem_cons_zero, Act.put, List.setIfInBounds_toArray, List.set_cons_zero, List.set_cons_succ])
          refine wpAnyH_take (i := 1) (v := ?vl1) rfl (by kernel_rfl) (by kernel_rfl) (by kernel_rfl) (fun _ _ _ h => h) (Or.inl ⟨by rfl, ?yl1⟩) (by assumption) ?rl1
          case yl1 => intro w hSw; (try dsimp only at hSw); go_simp <;> (try with_reducible rfl)
          (try simp only [List.getElem_toArray, List.getElem_cons_succ, List.getElem_cons_zero, Act.put, List.setIfInBounds_toArray, List.set_cons_zero, List.set_cons_succ])
          refine wpAnyH_take (i := 2) (v := ?vl2) rfl (by kernel_rfl) (by kernel_rfl) (by kernel_rfl) (fun _ _ _ h => h) (Or.inl ⟨by rfl, ?yl2⟩) (by assumption) ?rl2
          case yl2 => intro w hSw; (try dsimp only at hSw); go_simp <;> (try with_reducible rfl)
          (try simp only [List.getElem_toArray, List.getElem_cons_succ, List.getElem_cons_zero, Act.put, List.setIfInBounds_toArray, List.set_cons_zero, List.set_cons_succ])
          refine wpAnyH_take (i := 3) (v := ?vl3) rfl (by kernel_rfl) (by kernel_rfl) (by kernel_rfl) (fun _ _ _ h => h) (Or.inl ⟨by rfl, ?yl3⟩) (by assumption) ?rl3
          case yl3 => intro w hSw; (try dsimp only at hSw); go_simp <;> (try with_reducible rfl)
          (try simp only [List.getElem_toArray, List.getElem_cons_succ, List.getElem_cons_zero, Act.put, List.setIfInBounds_toArray, List.set_cons_zero, List.set_cons_succ])
          refine wpAnyH_take (i := 4) (v := ?vl4) rfl (by kernel_rfl) (by kernel_rfl) (by kernel_rfl) (fun _ _ _ h => h) (Or.inl ⟨by rfl, ?yl4⟩) (by assumption) ?rl4
          case yl4 => intro w hSw; (try dsimp only at hSw); go_simp <;> (try with_reducible rfl)
          (try simp only [List.getElem_toArray, List.getElem_cons_succ, List.getElem_cons_zero, Act.put, List.setIfInBounds_toArray, List.set_cons_zero, List.set_cons_succ])
          refine wpAnyH_take (i := 5) (v := ?vl5) rfl (by kernel_rfl) (by kernel_rfl) (by kernel_rfl) (fun _ _ _ h => h) (Or.inl ⟨by rfl, ?yl5⟩) (by assumption) ?rl5
          case yl5 => intro w hSw; (try dsimp only at hSw); go_simp <;> (try with_reducible rfl)
          (try simp only [List.getElem_toArray, List.getElem_cons_succ, List.getElem_cons_zero, Act.put, List.setIfInBounds_toArray, List.set_cons_zero, List.set_cons_succ])
          refine wpAnyH_take (i := 6) (v := ?vl6) rfl (by kernel_rfl) (by kernel_rfl) (by kernel_rfl) (fun _ _ _ h => h) (Or.inl ⟨by rfl, ?yl6⟩) (by assumption) ?rl6
          case yl6 => intro w hSw; (try dsimp only at hSw); go_simp <;> (try with_reducible rfl)
          (try simp only [List.getElem_toArray, List.getElem_cons_succ, List.getElem_cons_zero, Act.put, List.setIfInBounds_toArray, List.set_cons_zero, List.set_cons_succ])
          refine wpAnyH_take (i := 7) (v := ?vl7) rfl (by kernel_rfl) (by kernel_rfl) (by kernel_rfl) (fun _ _ _ h => h) (Or.inl ⟨by rfl, ?yl7⟩) (by assumption) ?rl7
          case yl7 => intro w hSw; (try dsimp only at hSw); go_simp <;> (try with_reducible rfl)
          (try simp only [List.getElem_toArray, List.getElem_cons_succ, List.getElem_cons_zero, Act.put, List.setIfInBounds_toArray, List.set_cons_zero, List.set_cons_succ])
          refine wpAnyH_take (i := 8) (v := ?vl8) rfl (by kernel_rfl) (by kernel_rfl) (by kernel_rfl) (fun _ _ _ h => h) (Or.inl ⟨by rfl, ?yl8⟩) (by assumption) ?rl8
          case yl8 => intro w hSw; (try dsimp only at hSw); go_simp <;> (try with_reducible rfl)
          (try simp only [List.getElem_toArray, List.getElem_cons_succ, List.getElem_cons_zero, Act.put, List.setIfInBounds_toArray, List.set_cons_zero, List.set_cons_succ])
          refine' wpAnyH_take (i := 9) (v := _) rfl (by kernel_rfl) (by kernel_rfl) (by kernel_rfl) (fun _ _ _ h => h) (yieldsIf_load_mid (by rfl) _ _ (by rfl) _ _ (by rfl) _ _ ?Sl9 ?ul9 ?dl9 ?il9) (by assumption) ?rl9
          case Sl9 => exact (by intro w h; exact h.2.2)
          case ul9 => exact hu
          case dl9 => rfl
          case il9 => exact hz
          (try simp only [List.getElem_toArray, List.getElem_cons_succ, List.getElem_cons_zero, Act.put, List.setIfInBounds_toArray, List.set_cons_zero, List.set_cons_succ])
          refine wpAnyH_ready (rs := [10]) (by kernel_rfl) (by simp) ?_
          refine AllReadyH.cons rfl (fun K hK => ?_) AllReadyH.nil
          rw [if_pos (by rfl)]
          refine wp_allocz 23 rfl (aggB (SM.zeros 16)) zero16 Tryd.zero44 (by with_unfolding_all rfl) ?_
          intro gt w10 hgt hs10 hb10 hB10
          have hle : wd.heap.size ≤ gt := Nat.le_of_eq hgt.out.symm
          have hb10' : Below wd.heap.size wd w10 := hb10.mono hle
          have hbr10 := below_join hdd hb10'
          clear hb10 hHeld hs10 hgt
          refine hK.out _ _ (hS _ hbr10) (fun hHeld => ?_)
          clear hK K
          refine wpAnyH_ready (rs := [11]) (by kernel_rfl) (by simp) ?_
          refine AllReadyH.cons rfl (fun K hK => ?_) AllReadyH.nil
          rw [if_pos (by rfl)]
          refine wp_put 23 (.tmp 17) (.tmp 69) rfl gt 0 rfl (.agg (V.map B8).toArray) rfl hB10 (V.map B8) rfl (by rw [List.length_map, hVl.out]; exact Tryd.size44) (by rw [List.length_map, hVl.out]; exact Nat.le_refl _) (B8_one _) ?_
          intro w11 hu11 hB11
          rw [splice_all _ _ (by rw [List.length_map, hVl.out]; rfl)] at hB11
          have hb11 : Below wr.heap.size wr w11 := hbr10.trans (hu11.below (B := wr.heap.size) (by have := hdd.size; omega))
          refine hK.out _ _ (hS _ hb11) (fun hHeld => ?_)
          clear hK K hHeld
          refine wpAnyH_done (by kernel_rfl) ?_ _
          have hown11 := own_next hown hb11
          have hbel11 := below_join hbel hb11
          have hlt11 := hown11.lt
          have hsz11 := hbel11.size
          clear hown hbel hbr10 hb10' hB10 hu11 hdd hle hHeld hb11
          go_wp2_with (first | (with_reducible refine wpList_cutA (o := ⟨some 71, .slice 23 (.tmp 17) none none none, _, _, _, _⟩) (by with_unfolding_all rfl) 23 (.tmp 17) (by with_unfolding_all rfl) gt 0 (by with_unfolding_all rfl) 16 5 Tryd.underlying23 Tryd.size5 (by decide) ?_) | (at_builtin; refine wpList_append_own _ rfl _ _ 43 rfl w1.heap.size 5 i0 (.int .u8 0) 1 1 Tryd.underlying43 hi hz0 hz1 hz2 rfl (by decide) _ _ _ rfl hown11 ⟨gt, 0, none⟩ 16 16 (V.map B8) rfl ?c1 ?c2 ?c3 ?c4 ?c5 ?c6 ?_))
          case c1 => rw [List.length_map, hVl.out]
          case c2 => intro q u hu; rw [addr_mid, Nat.zero_add]; exact hB11.cell hu
          case c3 => exact B8_one _
          case c4 => unfold maxLen; omega
          case c5 => omega
          case c6 => omega
          intro v3 w12 hown12 hgrow _
          have hbel12 := hbel11.grown hgrow hsz11 (fun q hq => (hlt11 q hq).1)
          rw [← List.map_append, show T.length + 16 = (T ++ V).length by rw [List.length_append, hVl.out], ← hbs.out] at hown12
          clear hown11 hgrow hlt11 hbel11 hB11 hbs
          go_wp2
          go_roundw
          case rel =>
            refine ⟨_, _, _, _, _, _, _, _, _, _, _, _, _, _, _, _, _, _, _, _, ?R, rfl⟩
            exact ⟨q + 1, by omega, by go_num, hown12, hbel12⟩
          case measure => simp [intOf]; omega
        · obtain rfl : q = h := by omega
          rw [← hsig.out] at hown
          obtain ⟨A, c, rfl, hc, hh⟩ := holds_own hown
          have hcv := run_conv_later wr A c R.length R rfl hh wr (Below.refl _ _)
          have hbelw := below_join hb1 hbel
          clear hown hh hbel hlt hsig
          go_wp2
          go_ret2
          exact ⟨rfl, hbelw⟩
end Go.Proofs.YtkakiepaffhhjaaDoor

/-
  Contract of the walk over sign.Sign, for every height and index. Conditions: a seed of at most 10^7 bytes; a message of at most 10^6 bytes; the tables read as the document has them.
-/
namespace Go.Proofs.YtkakiepaffhhjaaDoor
open Go.RowKit

theorem sgS_none {seed : List UInt8} {h i : Int} {ml : List UInt8} (ho : okI2 h i = false) : sgS seed h i ml = [] := by unfold sgS; rw [ho]; rfl
set_option maxRecDepth 100000 in
theorem ssign_any (seed : ByteArray) (h i : Int) (ml R : List UInt8) (w : World) (hR : Unit → sgS seed.data.toList h i ml = R) (hs : seed.size ≤ 10000000) (hm : ml.length ≤ 1000000) (HY : Lay w) :
    Calls Tryd.prog 18 #[.string seed, .int .i64 h, .int .i64 i, .string ⟨ml.toArray⟩] w fun e w' => e = .returned (.tuple #[.string ⟨R.toArray⟩, .int .i64 (sgE h i)]) ∧ Below w.heap.size w w' := by
  by_cases ho : okH h = true
  · by_cases hoi : okI2 h i = true
    · obtain ⟨n, rfl, hn⟩ := okH_nat ho
      have hd := of_decide_eq_true hoi
      have hcn : cnt (n : Int) = 2 ^ n := by unfold cnt; rw [if_pos ho, Int.toNat_natCast]
      obtain ⟨k, rfl⟩ : ∃ k : Nat, i = (k : Int) := ⟨i.toNat, by omega⟩
      have hk : k < 2 ^ n := by have := hd.2; rw [hcn] at this; omega
      have e1 : sgE (n : Int) (k : Int) = 0 := by unfold sgE; rw [if_pos ho, if_pos hoi]
      have e2 : SG.sig seed.data.toList n k ml = R := by rw [← hR ()]; unfold sgS; rw [if_pos hoi, Int.toNat_natCast, Int.toNat_natCast]
      refine (sign_ok seed n k ml w hn hk hs hm HY).mono ?_
      rintro e w' ⟨rfl, hb⟩
      rw [e1, e2]
      exact ⟨rfl, hb⟩
    · have hof : okI2 h i = false := by simpa using hoi
      have e1 : sgE h i = 14 := by unfold sgE; rw [if_pos ho, hof]; rfl
      have e2 : R = [] := by rw [← hR ()]; exact sgS_none hof
      rw [e1, e2]
      clear hR e1 e2
      go_enter Tryd.func18, Tryd.ntmps18
      go_wp2_with fail
      (with_reducible refine (permitted_to _ true _ ho).mono ?_)
      rintro e w' ⟨rfl, rfl⟩
      go_wp2_with fail
      (with_reducible refine (has_any _ _ false _ hof).mono ?_)
      rintro e w' ⟨rfl, rfl⟩
      go_wp2
      go_ret2
      exact ⟨rfl, Below.refl _ _⟩
  · have hof : okH h = false := by simpa using ho
    have e1 : sgE h i = 1 := by unfold sgE; rw [hof]; rfl
    have e2 : R = [] := by rw [← hR ()]; exact sgS_none (okI2_not hof)
    rw [e1, e2]
    clear hR e1 e2
    go_enter Tryd.func18, Tryd.ntmps18
    go_wp2_with fail
    (with_reducible refine (permitted_to _ false _ hof).mono ?_)
    rintro e w' ⟨rfl, rfl⟩
    go_wp2
    go_ret2
    exact ⟨rfl, Below.refl _ _⟩
end Go.Proofs.YtkakiepaffhhjaaDoor

/-
  Contract of the walk over the reference's Sign, on the good path. Conditions: a seed of at most 10^7 bytes; a message of at most 10^6 bytes; the tables read as the document has them.
-/
namespace Go.Proofs.YtkakiepaffhhjaaDoor
open Go.RowKit

def RgRel (P : List UInt8) (f : Nat → List UInt8) (ds : List Nat) (gd : Nat) (w : World) (sv i : Value) (wr : World) : Prop :=
  ∃ j : Nat, j ≤ 35 ∧ i = .int .i64 j ∧ sv = .string ⟨(P ++ f j).toArray⟩ ∧ Blk wr gd 25 (ds.map N8) ∧ Below w.heap.size w wr
def Rg2Rel (P : List UInt8) (f : Nat → List UInt8) (h k : Nat) (w : World) (sv n i : Value) (wr : World) : Prop :=
  ∃ j : Nat, j ≤ h ∧ i = .int .i64 j ∧ n = .int .i64 ((k / 2 ^ j : Nat) : Int) ∧ sv = .string ⟨(P ++ f j).toArray⟩ ∧ Below w.heap.size w wr
theorem str_appL (a : List UInt8) (s : ByteArray) : (⟨a.toArray⟩ : ByteArray) ++ s = ⟨(a ++ s.data.toList).toArray⟩ := by
  apply ByteArray.ext
  rw [ByteArray.data_append]
  apply Array.toList_inj.1
  simp
theorem xor_cases : ∀ x : Nat, x < 64 → (x % 2 = 1 → (x ^^^ 1) + 1 = x) ∧ (x % 2 = 0 → x ^^^ 1 = x + 1) := by decide
set_option maxRecDepth 100000 in
set_option maxHeartbeats 3200000 in
theorem rsign_ok (seed : ByteArray) (h k : Nat) (ml : List UInt8) (w : World) (h6 : h ≤ 6) (hk : k < 2 ^ h) (hs : seed.size ≤ 10000000) (hm : ml.length ≤ 1000000) (HY : LayC w) :
    Calls Tryd.prog 19 #[.string seed, .int .i64 h, .int .i64 k, .string ⟨ml.toArray⟩] w fun e w' => e = .returned (.tuple #[.string ⟨(SG.sig seed.data.toList h k ml).toArray⟩, .int .i64 0]) ∧ Below w.heap.size w w' := by
  have ho : okH (h : Int) = true := decide_eq_true ⟨by omega, by omega⟩
  have hcn : cnt (h : Int) = 2 ^ h := by unfold cnt; rw [if_pos ho, Int.toNat_natCast]
  have hk64 : k < 64 := Nat.lt_of_lt_of_le hk (Nat.le_trans (Nat.pow_le_pow_right (by decide) h6) (by decide))
  have hpe : pubE (h : Int) = 0 := by unfold pubE; rw [if_pos ho]
  obtain ⟨pub, hpub⟩ : ∃ p, (Unit → SG.value seed.data.toList h 0 = p) := ⟨_, fun _ => rfl⟩
  have hpubD : Unit → pubD seed.data.toList (h : Int) = pub := fun _ => by unfold pubD; rw [if_pos ho, Int.toNat_natCast]; exact hpub ()
  have hpl : Hid (pub.length = 16) := by rw [← hpub ()]; exact SG.value_length _ _ _
  obtain ⟨md, hmd⟩ : ∃ p, (Unit → SG.message pub (k : Int) ml = p) := ⟨_, fun _ => rfl⟩
  have hmdl : Hid (md.length = 16) := by rw [← hmd ()]; exact SG.hof_length _ _
  obtain ⟨ds, hds⟩ : ∃ p, Hid (SG.digits md = p) := ⟨_, rfl⟩
  have hdsl : Hid (ds.length = 35) := by rw [← hds.out]; exact SG.digits_length _ hmdl.out
  have hds15 : Hid (∀ n ∈ ds, n ≤ 15) := by rw [← hds.out]; exact SG.digits_15 _ hmdl.out
  have hkI : WM.okI (k : Int) := ⟨by omega, by omega⟩
  obtain ⟨E, hE⟩ : ∃ E, Hid (WM.encI (k : Int) = E) := ⟨_, rfl⟩
  have hEl : E.length ≤ 10 := by rw [← hE.out]; exact WM.encI_le hkI
  have hEp : 0 < E.length := by rw [← hE.out]; exact WM.encI_pos _
  have hsig : Hid (SG.sig seed.data.toList h k ml = (E ++ SG.chains seed.data.toList k ds 35) ++ SG.beside seed.data.toList k h) := by
    have : SG.sig seed.data.toList h k ml = (E ++ SG.chains seed.data.toList k ds 35) ++ SG.beside seed.data.toList k h := by
      unfold SG.sig; rw [hpub (), hmd (), hds.out, hE.out]
    exact this
  have HI := fun w => refInt_any (k : Int) w (by omega) (by omega)
  rw [hE.out] at HI
  obtain ⟨R, hR⟩ : ∃ R, Hid (SG.sig seed.data.toList h k ml = R) := ⟨_, rfl⟩
  rw [hR.out] at hsig ⊢
  obtain ⟨q, hq⟩ : ∃ q : Nat, Hid ((2 : Nat) ^ h = q) := ⟨_, rfl⟩
  have HK := Lib.hid hk
  rw [hq.out] at hcn hk
  go_enter Tryd.func19, Tryd.ntmps19
  go_wp2_with fail
  (with_reducible refine (rpublic_any seed _ pub _ hpubD hs HY).mono ?_)
  rintro e w1 ⟨rfl, hb1⟩
  rw [hpe]
  go_wp2_with (with_reducible refine wpList_alloc (o := ⟨some 10, .alloc 23, _, _, _, _⟩) (by with_unfolding_all rfl) 23 (by with_unfolding_all rfl) (aggB (SM.zeros 16)) zero16 (by exact Tryd.zero44) (by with_unfolding_all rfl) ?_)
  intro gp w2 hgp hs2 hb2 hB2
  have hle : w1.heap.size ≤ gp := Nat.le_of_eq hgp.out.symm
  go_wp2_with (with_reducible refine wpList_put (o := ⟨none, .store 23 (.tmp 10) (.tmp 24), _, _, _, _⟩) (by with_unfolding_all rfl) 23 (.tmp 10) (.tmp 24) (by with_unfolding_all rfl) gp 0 (by with_unfolding_all rfl) (.agg (pub.map B8).toArray) (by with_unfolding_all rfl) hB2 (pub.map B8) (by with_unfolding_all rfl) (by rw [List.length_map, hpl.out]; exact Tryd.size44) (by with_unfolding_all (rw [List.length_map, hpl.out]; exact Nat.le_refl _)) (B8_one _) ?_)
  intro w3 hu3 hB3
  rw [splice_all _ _ (by rw [List.length_map, hpl.out]; rfl)] at hB3
  have hbel3 := below_join hb1 ((hb2.mono hle).trans (hu3.below (B := w1.heap.size) hle))
  clear hb1 hb2 hB2 hu3 hgp hs2 hle hpe hpubD
  go_wp2_with fail
  (with_reducible refine (rcount_to _ q _ hcn).mono ?_)
  rintro e w' ⟨rfl, rfl⟩
  go_wp2_with fail
  (with_reducible refine (HI _).mono ?_)
  rintro e w4 ⟨v4, rfl, hown4, hb4⟩
  obtain ⟨g4, c4, rfl, hcs4⟩ := own_some hown4 hEp
  have hB4 := hB3.next hb4 hB3.lt
  have hbel4 := below_join hbel3 hb4
  have hcv := run_conv_later w4 (some ⟨g4, 0, none⟩) c4 E.length E rfl (fun j u hu => ⟨_, rfl, hcs4 j u hu⟩) w4 (Below.refl _ _)
  clear hB3 hbel3 hb4 hown4 hcs4 hcn
  go_wp2_with (with_reducible refine wpList_get (o := ⟨some 40, .load 23 (.tmp 10), _, _, _, _⟩) (by with_unfolding_all rfl) 23 (.tmp 10) (by with_unfolding_all rfl) gp 0 (by with_unfolding_all rfl) hB4 (pub.map B8) (cs_all _) (.array 16 5) (by exact Tryd.underlying23) (by with_unfolding_all rfl) (by rw [List.length_map, hpl.out]; exact Tryd.size44) ?_)
  (with_reducible refine (rmessage_any pub (k : Int) ml md _ hmd hpl.out hkI hm (HY.next hbel4)).mono ?_)
  rintro e w5 ⟨rfl, hb5⟩
  have hbel5 := below_join hbel4 hb5
  clear hB4 hbel4 hb5 hcv
  go_wp2_with fail
  (with_reducible refine (rdigits_any md _ hmdl.out).mono ?_)
  rintro e w6 ⟨rfl, hb6⟩
  rw [hds.out]
  have hbel6 := below_join hbel5 hb6
  clear hbel5 hb6
  go_wp2_with (with_reducible refine wpList_alloc (o := ⟨some 13, .alloc 25, _, _, _, _⟩) (by with_unfolding_all rfl) 25 (by with_unfolding_all rfl) (.agg ((List.replicate 35 0).map N8).toArray) ((List.replicate 35 0).map N8) (by exact Tryd.zero51) (by with_unfolding_all rfl) ?_)
  intro gd w7 hgd hs7 hb7 hB7
  have hle : w6.heap.size ≤ gd := Nat.le_of_eq hgd.out.symm
  have hdl : Hid ((ds.map N8).length = 35) := by
    have : (ds.map N8).length = 35 := by rw [List.length_map]; exact hdsl.out
    exact this
  go_wp2_with (with_reducible refine wpList_put (o := ⟨none, .store 25 (.tmp 13) (.tmp 44), _, _, _, _⟩) (by with_unfolding_all rfl) 25 (.tmp 13) (.tmp 44) (by with_unfolding_all rfl) gd 0 (by with_unfolding_all rfl) (.agg (ds.map N8).toArray) (by with_unfolding_all rfl) hB7 (ds.map N8) (by with_unfolding_all rfl) (by rw [hdl.out]; exact Tryd.size51) (by with_unfolding_all (rw [hdl.out]; exact Nat.le_refl _)) (N8_one _) ?_)
  intro w8 hu8 hB8
  rw [splice_all _ _ (by rw [hdl.out]; rfl)] at hB8
  have hbel8 := below_join hbel6 ((hb7.mono hle).trans (hu8.below (B := w6.heap.size) hle))
  have hgw : w.heap.size ≤ gd := by have := hbel6.size; omega
  clear hbel6 hb7 hB7 hu8 hs7 hgd hle
  -- LOOP 1
  go_wp2
  go_loopw [12, 14] (RgRel E (SG.chains seed.data.toList k ds) ds gd w) (fun _ i _ => 35 - (intOf i).toNat)
  case atStart => exact ⟨0, by omega, rfl, by rw [show SG.chains seed.data.toList k ds 0 = [] from rfl, List.append_nil], hB8, hbel8⟩
  case round =>
    clear hB8 hbel8
    obtain ⟨j, hj, rfl, rfl, hB, hbel⟩ := hrel
    by_cases hlt : j < 35
    · obtain ⟨d, hd⟩ : ∃ d, ds[j]? = some d := ⟨_, List.getElem?_eq_getElem (by rw [hdsl.out]; exact hlt)⟩
      have hd15 : d ≤ 15 := hds15.out d (List.mem_of_getElem? hd)
      have hgd : ds.getD j 0 = d := by rw [List.getD_eq_getElem?_getD, hd]; rfl
      have hdx : (ds.map N8)[j]? = some (.int .i64 (d : Int)) := by rw [List.getElem?_map, hd]; rfl
      have HCD := Lib.hid (hB.cell hdx)
      obtain ⟨s0, hs0⟩ : ∃ s0, (Unit → SG.start seed.data.toList k j = s0) := ⟨_, fun _ => rfl⟩
      have hs0l : Hid (s0.length = 16) := by rw [← hs0 ()]; exact SG.start_length _ _ _
      obtain ⟨v0, hv0⟩ : ∃ v0, (Unit → SG.climb k j s0 0 (d - 0) = v0) := ⟨_, fun _ => rfl⟩
      have hv0l : Hid (v0.length = 16) := by rw [← hv0 ()]; exact SG.climb_length _ _ _ _ hs0l.out _
      have hch : Hid (E ++ SG.chains seed.data.toList k ds (j + 1) = (E ++ SG.chains seed.data.toList k ds j) ++ v0) := by
        have : E ++ SG.chains seed.data.toList k ds (j + 1) = (E ++ SG.chains seed.data.toList k ds j) ++ v0 := by
          rw [SG.chains_succ, hgd, hs0 (), show SG.climb k j s0 0 d = v0 from hv0 (), List.append_assoc]
        exact this
      obtain ⟨T, hT⟩ : ∃ T, Hid (E ++ SG.chains seed.data.toList k ds j = T) := ⟨_, rfl⟩
      rw [hT.out] at hch ⊢
      have hTl : T.length ≤ 1000 := by rw [← hT.out, List.length_append, SG.chains_length]; omega
      have hltd := hB.lt
      have hS : ∀ w', Below wr.heap.size wr w' → (Below w.heap.size w w' ∧ w'.cell? ⟨gd, j, none⟩ = some (.int .i64 d)) := fun w' h => ⟨below_join hbel h, by rw [h.cell (p := ⟨gd, j, none⟩) hltd]; exact HCD.out⟩
      have hji : (j : Int) < 35 := by omega
      have hdd := below_drew wr
      clear hgd hd hdx hT
      go_wp2
      refine wp_region_held_drew (S := fun w' => Below w.heap.size w w' ∧ w'.cell? ⟨gd, j, none⟩ = some (.int .i64 d)) (by kernel_rfl) (hS _ hdd) (fun hHeld => ?_)
      generalize wr.drew = wd at hdd hHeld ⊢
      refine wpAnyH_take (i := 0) (v := ?vl0) rfl (by kernel_rfl) (by kernel_rfl) (by kernel_rfl) (fun _ _ _ h => h) (Or.inl ⟨by rfl, ?yl0⟩) (by assumption) ?rl0
      case yl0 => intro w hSw; (try dsimp only at hSw); go_simp <;> (try with_reducible rfl)
      (try simp only [List.getElem_toArray, List.getElem_cons_zero, Act.put, List.setIfInBounds_toArray, List.set_cons_zero, List.set_cons_succ])
      refine wpAnyH_take (i := 1) (v := ?vl1) rfl (by kernel_rfl) (by kernel_rfl) (by kernel_rfl) (fun _ _ _ h => h) (Or.inl ⟨by rfl, ?yl1⟩) (by assumption) ?rl1
      case yl1 => intro w hSw; (try dsimp only at hSw); go_simp <;> (try with_reducible rfl)
      (try simp only [List.getElem_toArray, List.getElem_cons_succ, List.getElem_cons_zero, Act.put, List.setIfInBounds_toArray, List.set_cons_zero, List.set_cons_succ])
      refine wpAnyH_take (i := 2) (v := ?vl2) rfl (by kernel_rfl) (by kernel_rfl) (by kernel_rfl) (fun _ _ _ h => h) (Or.inl ⟨by rfl, ?yl2⟩) (by assumption) ?rl2
      case yl2 => intro w hSw; (try dsimp only at hSw); go_simp <;> (try with_reducible rfl)
      (try simp only [List.getElem_toArray, List.getElem_cons_succ, List.getElem_cons_zero, Act.put, List.setIfInBounds_toArray, List.set_cons_zero, List.set_cons_succ])
      refine wpAnyH_take (i := 3) (v := ?vl3) rfl (by kernel_rfl) (by kernel_rfl) (by kernel_rfl) (fun _ _ _ h => h) (Or.inl ⟨by rfl, ?yl3⟩) (by assumption) ?rl3
      case yl3 => intro w hSw; (try dsimp only at hSw); go_simp <;> (try with_reducible rfl)
      (try simp only [List.getElem_toArray, List.getElem_cons_succ, List.getElem_cons_zero, Act.put, List.setIfInBounds_toArray, List.set_cons_zero, List.set_cons_succ])
      refine wpAnyH_take (i := 4) (v := ?vl4) rfl (by kernel_rfl) (by kernel_rfl) (by kernel_rfl) (fun _ _ _ h => h) (Or.inl ⟨by rfl, ?yl4⟩) (by assumption) ?rl4
      case yl4 => intro w hSw; (try dsimp only at hSw); go_simp <;> (try with_reducible rfl)
      (try simp only [List.getElem_toArray, List.getElem_cons_succ, List.getElem_cons_zero, Act.put, List.setIfInBounds_toArray, List.set_cons_zero, List.set_cons_succ])
      refine wpAnyH_take (i := 6) (v := ?vl6) rfl (by kernel_rfl) (by kernel_rfl) (by kernel_rfl) (fun _ _ _ h => h) (Or.inl ⟨by rfl, ?yl6⟩) (by assumption) ?rl6
      case yl6 => intro w hSw; (try dsimp only at hSw); go_simp <;> (try with_reducible rfl)
      (try simp only [List.getElem_toArray, List.getElem_cons_succ, List.getElem_cons_zero, Act.put, List.setIfInBounds_toArray, List.set_cons_zero, List.set_cons_succ])
      refine wpAnyH_take (i := 7) (v := ?vl7) rfl (by kernel_rfl) (by kernel_rfl) (by kernel_rfl) (fun _ _ _ h => h) (Or.inl ⟨by rfl, ?yl7⟩) (by assumption) ?rl7
      case yl7 => intro w hSw; (try dsimp only at hSw); go_simp <;> (try with_reducible rfl)
      (try simp only [List.getElem_toArray, List.getElem_cons_succ, List.getElem_cons_zero, Act.put, List.setIfInBounds_toArray, List.set_cons_zero, List.set_cons_succ])
      refine wpAnyH_take (i := 8) (v := ?vl8) rfl (by kernel_rfl) (by kernel_rfl) (by kernel_rfl) (fun _ _ _ h => h) (Or.inl ⟨by rfl, ?yl8⟩) (by assumption) ?rl8
      case yl8 => intro w hSw; (try dsimp only at hSw); go_simp <;> (try with_reducible rfl)
      (try simp only [List.getElem_toArray, List.getElem_cons_succ, List.getElem_cons_zero, Act.put, List.setIfInBounds_toArray, List.set_cons_zero, List.set_cons_succ])
      -- ORDERS
      apply rest2
      · intro hrest
        refine wpAnyH_ready (rs := [5, 10]) (by kernel_rfl) (by simp) ?_
        refine AllReadyH.cons rfl (fun K hK => ?_) (AllReadyH.cons rfl (fun K hK => ?_) AllReadyH.nil)
        · go_simp
          go_wp2_with fail
          (with_reducible refine (rstart_any seed k j s0 _ hs0 hs (by omega) (by omega) (HY.next (below_join hbel hdd))).mono ?_)
          rintro e wA ⟨rfl, hbA0⟩
          have hbA := below_join hdd hbA0
          refine hK.out _ _ (hS _ hbA) (fun hHeld => ?_)
          clear hK K hHeld
          refine wpAnyH_ready (rs := [9, 10]) (by kernel_rfl) (by simp) ?_
          refine AllReadyH.cons rfl (fun K hK => ?_) (AllReadyH.cons rfl (fun K hK => ?_) AllReadyH.nil)
          · go_simp
            go_wp2_with fail
            (with_reducible refine (rclimb_at k j 0 d 0 d s0 v0 _ rfl rfl hv0 (by omega) (by omega) (by omega) (by omega) hs0l.out (HY.next (below_join hbel hbA))).mono ?_)
            rintro e wB ⟨rfl, hbB0⟩
            have hbB := below_join hbA hbB0
            refine hK.out _ _ (hS _ hbB) (fun hHeld => ?_)
            clear hK K hHeld
            refine wpAnyH_ready (rs := [10]) (by kernel_rfl) (by simp) ?_
            refine AllReadyH.cons rfl (fun K hK => ?_) AllReadyH.nil
            rw [if_pos (by rfl)]
            refine wp_allocz 23 rfl (aggB (SM.zeros 16)) zero16 Tryd.zero44 (by with_unfolding_all rfl) ?_
            intro gt wC gte gts gtb hBt
            have gtl : wB.heap.size ≤ gt := Nat.le_of_eq gte.out.symm
            have hbC := below_join hbB (gtb.mono gtl)
            have gtw : wr.heap.size ≤ gt := Nat.le_trans (hbB).size gtl
            refine hK.out _ _ (hS _ hbC) (fun hHeld => ?_)
            clear hK K hHeld
            (try simp only [List.getElem_toArray, List.getElem_cons_succ, List.getElem_cons_zero, Act.put, List.setIfInBounds_toArray, List.set_cons_zero, List.set_cons_succ])
            have hBz := hBt
            have hbz := hbC
            have hgz := gtw
            revert hBz hbz hgz
            exact hrest gt wC
          · rw [if_pos (by rfl)]
            refine wp_allocz 23 rfl (aggB (SM.zeros 16)) zero16 Tryd.zero44 (by with_unfolding_all rfl) ?_
            intro gt wB gte gts gtb hBt
            have gtl : wA.heap.size ≤ gt := Nat.le_of_eq gte.out.symm
            have hbB := below_join hbA (gtb.mono gtl)
            have gtw : wr.heap.size ≤ gt := Nat.le_trans (hbA).size gtl
            refine hK.out _ _ (hS _ hbB) (fun hHeld => ?_)
            clear hK K hHeld
            refine wpAnyH_ready (rs := [9]) (by kernel_rfl) (by simp) ?_
            refine AllReadyH.cons rfl (fun K hK => ?_) AllReadyH.nil
            go_simp
            go_wp2_with fail
            (with_reducible refine (rclimb_at k j 0 d 0 d s0 v0 _ rfl rfl hv0 (by omega) (by omega) (by omega) (by omega) hs0l.out (HY.next (below_join hbel hbB))).mono ?_)
            rintro e wC ⟨rfl, hbC0⟩
            have hbC := below_join hbB hbC0
            have hBtc := hBt.next hbC0 hBt.lt
            refine hK.out _ _ (hS _ hbC) (fun hHeld => ?_)
            clear hK K hHeld
            (try simp only [List.getElem_toArray, List.getElem_cons_succ, List.getElem_cons_zero, Act.put, List.setIfInBounds_toArray, List.set_cons_zero, List.set_cons_succ])
            have hBz := hBtc
            have hbz := hbC
            have hgz := gtw
            revert hBz hbz hgz
            exact hrest gt wC
        · rw [if_pos (by rfl)]
          refine wp_allocz 23 rfl (aggB (SM.zeros 16)) zero16 Tryd.zero44 (by with_unfolding_all rfl) ?_
          intro gt wA gte gts gtb hBt
          have gtl : wd.heap.size ≤ gt := Nat.le_of_eq gte.out.symm
          have hbA := below_join hdd (gtb.mono gtl)
          have gtw : wr.heap.size ≤ gt := Nat.le_trans (hdd).size gtl
          refine hK.out _ _ (hS _ hbA) (fun hHeld => ?_)
          clear hK K hHeld
          refine wpAnyH_ready (rs := [5]) (by kernel_rfl) (by simp) ?_
          refine AllReadyH.cons rfl (fun K hK => ?_) AllReadyH.nil
          go_simp
          go_wp2_with fail
          (with_reducible refine (rstart_any seed k j s0 _ hs0 hs (by omega) (by omega) (HY.next (below_join hbel hbA))).mono ?_)
          rintro e wB ⟨rfl, hbB0⟩
          have hbB := below_join hbA hbB0
          have hBts := hBt.next hbB0 hBt.lt
          refine hK.out _ _ (hS _ hbB) (fun hHeld => ?_)
          clear hK K hHeld
          refine wpAnyH_ready (rs := [9]) (by kernel_rfl) (by simp) ?_
          refine AllReadyH.cons rfl (fun K hK => ?_) AllReadyH.nil
          go_simp
          go_wp2_with fail
          (with_reducible refine (rclimb_at k j 0 d 0 d s0 v0 _ rfl rfl hv0 (by omega) (by omega) (by omega) (by omega) hs0l.out (HY.next (below_join hbel hbB))).mono ?_)
          rintro e wC ⟨rfl, hbC0⟩
          have hbC := below_join hbB hbC0
          have hBtsc := hBts.next hbC0 hBts.lt
          refine hK.out _ _ (hS _ hbC) (fun hHeld => ?_)
          clear hK K hHeld
          (try simp only [List.getElem_toArray, List.getElem_cons_succ, List.getElem_cons_zero, Act.put, List.setIfInBounds_toArray, List.set_cons_zero, List.set_cons_succ])
          have hBz := hBtsc
          have hbz := hbC
          have hgz := gtw
          revert hBz hbz hgz
          exact hrest gt wC
      · intro gt wC hBz hbz hgz
  -- AFTER THE ORDERS
        refine wpAnyH_ready (rs := [11]) (by kernel_rfl) (by simp) ?_
        refine AllReadyH.cons rfl (fun K hK => ?_) AllReadyH.nil
        rw [if_pos (by rfl)]
        refine wp_put 23 (.tmp 15) (.tmp 58) rfl gt 0 rfl (.agg (v0.map B8).toArray) rfl hBz (v0.map B8) rfl (by rw [List.length_map, hv0l.out]; exact Tryd.size44) (by rw [List.length_map, hv0l.out]; exact Nat.le_refl _) (B8_one _) ?_
        intro wD huD hBD
        rw [splice_all _ _ (by rw [List.length_map, hv0l.out]; rfl)] at hBD
        have hbD : Below wr.heap.size wr wD := hbz.trans (huD.below (B := wr.heap.size) hgz)
        refine hK.out _ _ (hS _ hbD) (fun hHeld => ?_)
        clear hK K hHeld
        refine wpAnyH_done (by kernel_rfl) ?_ _
        have hBd := hB.next hbD hltd
        have hbelD := below_join hbel hbD
        clear hB hbel hBz hbz huD hbD HCD
        go_wp2_with (with_reducible refine wpList_get (o := ⟨some 60, .load 23 (.tmp 15), _, _, _, _⟩) (by with_unfolding_all rfl) 23 (.tmp 15) (by with_unfolding_all rfl) gt 0 (by with_unfolding_all rfl) hBD (v0.map B8) (cs_all _) (.array 16 5) (by exact Tryd.underlying23) (by with_unfolding_all rfl) (by rw [List.length_map, hv0l.out]; exact Tryd.size44) ?_)
        (with_reducible refine (text_any v0 _ hv0l.out).mono ?_)
        rintro e wE ⟨rfl, hbE⟩
        have hBE := hBd.next hbE hBd.lt
        have hbelE := below_join hbelD hbE
        have happ : Hid ((⟨T.toArray⟩ : ByteArray) ++ ⟨v0.toArray⟩ = ⟨(E ++ SG.chains seed.data.toList k ds (j + 1)).toArray⟩) := by
          have : (⟨T.toArray⟩ : ByteArray) ++ ⟨v0.toArray⟩ = ⟨(E ++ SG.chains seed.data.toList k ds (j + 1)).toArray⟩ := by rw [str_appL, str_toList, hch.out]
          exact this
        have hTz : (⟨T.toArray⟩ : ByteArray).size ≤ 1000 := by rw [str_size]; exact hTl
        have hvz : (⟨v0.toArray⟩ : ByteArray).size ≤ 100 := by rw [str_size, hv0l.out]; decide
        clear hBd hbelD hbE hBD hTl
        generalize (⟨T.toArray⟩ : ByteArray) = js at happ hTz ⊢
        generalize (⟨v0.toArray⟩ : ByteArray) = vz at happ hvz ⊢
        go_wp2
        go_roundw
        case rel => exact ⟨j + 1, by omega, by go_num, by rw [happ.out], hBE, hbelE⟩
        case measure => simp [intOf]; omega
    · obtain rfl : j = 35 := by omega
      clear hlt hj hB
      obtain ⟨S1, hS1⟩ : ∃ S1, Hid (E ++ SG.chains seed.data.toList k ds 35 = S1) := ⟨_, rfl⟩
      have hS1l : S1.length ≤ 600 := by rw [← hS1.out, List.length_append, SG.chains_length]; omega
      rw [hS1.out] at hsig ⊢
      clear hS1
      go_wp2
      go_loopw [12, 16, 17] (Rg2Rel S1 (SG.beside seed.data.toList k) h k w) (fun _ _ i _ => h - (intOf i).toNat)
      case atStart => exact ⟨0, Nat.zero_le _, rfl, by rw [Nat.pow_zero, Nat.div_one], by rw [show SG.beside seed.data.toList k 0 = [] from rfl, List.append_nil], hbel⟩
      case round =>
        clear hbel
        obtain ⟨p, hp, rfl, rfl, rfl, hbel⟩ := hrel
        by_cases hlt : p < h
        · obtain ⟨x, hx⟩ : ∃ x, Hid (k / 2 ^ p = x) := ⟨_, rfl⟩
          have hx64 : x < 64 := by rw [← hx.out]; exact Nat.lt_of_le_of_lt (Nat.div_le_self _ _) hk64
          obtain ⟨y, hy⟩ : ∃ y, Hid (x ^^^ 1 = y) := ⟨_, rfl⟩
          have hxm : x < 2 ^ (h - p) := by
            rw [← hx.out, Nat.div_lt_iff_lt_mul (Nat.two_pow_pos _), ← Nat.pow_add, show h - p + p = h by omega]; exact HK.out
          have hym : y < 2 ^ (h - p) := by rw [← hy.out]; exact Nat.xor_lt_two_pow hxm (Nat.one_lt_two_pow (by omega))
          have hbd : (y + 1) * 2 ^ p ≤ 1000 := by
            have h1 : (y + 1) * 2 ^ p ≤ 2 ^ (h - p) * 2 ^ p := Nat.mul_le_mul_right _ hym
            rw [← Nat.pow_add, show h - p + p = h by omega] at h1
            have h2 : (2 : Nat) ^ h ≤ 64 := Nat.pow_le_pow_right (by decide) h6
            omega
          have hxn : Hid (k / 2 ^ (p + 1) = x / 2) := by
            have : k / 2 ^ (p + 1) = x / 2 := by rw [← hx.out, Nat.pow_succ, Nat.div_div_eq_div_mul]
            exact this
          obtain ⟨V, hV⟩ : ∃ V, (Unit → SG.value seed.data.toList p y = V) := ⟨_, fun _ => rfl⟩
          have hVl : Hid (V.length = 16) := by rw [← hV ()]; exact SG.value_length _ _ _
          have hTl : (S1 ++ SG.beside seed.data.toList k p).length ≤ 1000 := by rw [List.length_append, SG.beside_length]; omega
          have happ : Hid ((⟨(S1 ++ SG.beside seed.data.toList k p).toArray⟩ : ByteArray) ++ ⟨V.toArray⟩ = ⟨(S1 ++ SG.beside seed.data.toList k (p + 1)).toArray⟩) := by
            have : (⟨(S1 ++ SG.beside seed.data.toList k p).toArray⟩ : ByteArray) ++ ⟨V.toArray⟩ = ⟨(S1 ++ SG.beside seed.data.toList k (p + 1)).toArray⟩ := by rw [str_appL, str_toList, SG.beside_succ, hx.out, hy.out, hV (), List.append_assoc]
            exact this
          obtain ⟨T, hT⟩ : ∃ T, Hid (S1 ++ SG.beside seed.data.toList k p = T) := ⟨_, rfl⟩
          rw [hT.out] at hTl happ ⊢
          rw [hx.out]
          have hTz : (⟨T.toArray⟩ : ByteArray).size ≤ 1000 := by rw [str_size]; exact hTl
          have hvz : (⟨V.toArray⟩ : ByteArray).size ≤ 100 := by rw [str_size, hVl.out]; decide
          have hdv : (x : Int).tdiv 2 = ((x / 2 : Nat) : Int) := by rw [Int.tdiv_eq_ediv_of_nonneg (by omega)]; rfl
          have hy2 := xor_cases x hx64
          rw [hy.out] at hy2
          clear hT hTl hxm hym hy
          by_cases hodd : x % 2 = 1
          · have htm : (x : Int).tmod 2 = 1 := by rw [Int.tmod_eq_emod_of_nonneg (by omega)]; omega
            have hyi : (x : Int) - 1 = (y : Int) := by have := hy2.1 hodd; omega
            clear hodd hy2
            go_wp2_with fail
            (with_reducible refine (rvalue_any seed hs p y _ _ V _ rfl rfl hV hbd (HY.next hbel)).mono ?_)
            rintro e wA ⟨rfl, hbA⟩
            have hbelA := below_join hbel hbA
            clear hbel hbA
            go_wp2_with (with_reducible refine wpList_alloc (o := ⟨some 19, .alloc 23, _, _, _, _⟩) (by with_unfolding_all rfl) 23 (by with_unfolding_all rfl) (aggB (SM.zeros 16)) zero16 (by exact Tryd.zero44) (by with_unfolding_all rfl) ?_)
            intro gt wB hgt hsB hbB hBB
            have hle : wA.heap.size ≤ gt := Nat.le_of_eq hgt.out.symm
            go_wp2_with (with_reducible refine wpList_put (o := ⟨none, .store 23 (.tmp 19) (.tmp 79), _, _, _, _⟩) (by with_unfolding_all rfl) 23 (.tmp 19) (.tmp 79) (by with_unfolding_all rfl) gt 0 (by with_unfolding_all rfl) (.agg (V.map B8).toArray) (by with_unfolding_all rfl) hBB (V.map B8) (by with_unfolding_all rfl) (by rw [List.length_map, hVl.out]; exact Tryd.size44) (by with_unfolding_all (rw [List.length_map, hVl.out]; exact Nat.le_refl _)) (B8_one _) ?_)
            intro wC huC hBC
            rw [splice_all _ _ (by rw [List.length_map, hVl.out]; rfl)] at hBC
            have hbelC := below_join hbelA ((hbB.mono hle).trans (huC.below (B := wA.heap.size) hle))
            clear hbelA hbB hBB huC hsB hgt hle
            go_wp2_with (with_reducible refine wpList_get (o := ⟨some 81, .load 23 (.tmp 19), _, _, _, _⟩) (by with_unfolding_all rfl) 23 (.tmp 19) (by with_unfolding_all rfl) gt 0 (by with_unfolding_all rfl) hBC (V.map B8) (cs_all _) (.array 16 5) (by exact Tryd.underlying23) (by with_unfolding_all rfl) (by rw [List.length_map, hVl.out]; exact Tryd.size44) ?_)
            (with_reducible refine (text_any V _ hVl.out).mono ?_)
            rintro e wD ⟨rfl, hbD⟩
            have hbelD := below_join hbelC hbD
            clear hbelC hbD hBC
            generalize (⟨T.toArray⟩ : ByteArray) = js at happ hTz ⊢
            generalize (⟨V.toArray⟩ : ByteArray) = vz at happ hvz ⊢
            go_wp2
            go_roundw
            case rel =>
              refine ⟨_, _, _, _, _, _, _, _, _, _, _, _, _, _, _, _, _, _, _, _, _, _, _, _, _, _, _, ?R, rfl⟩
              exact ⟨p + 1, by omega, by go_num, by (rw [hxn.out]; first | rfl | (congr 1; omega)), by rw [happ.out], hbelD⟩
            case measure => simp [intOf]; omega
          · have htm : (x : Int).tmod 2 = 0 := by rw [Int.tmod_eq_emod_of_nonneg (by omega)]; omega
            have hyi : (x : Int) + 1 = (y : Int) := by have := hy2.2 (by omega); omega
            clear hodd hy2
            go_wp2_with fail
            (with_reducible refine (rvalue_any seed hs p y _ _ V _ rfl rfl hV hbd (HY.next hbel)).mono ?_)
            rintro e wA ⟨rfl, hbA⟩
            have hbelA := below_join hbel hbA
            clear hbel hbA
            go_wp2_with (with_reducible refine wpList_alloc (o := ⟨some 19, .alloc 23, _, _, _, _⟩) (by with_unfolding_all rfl) 23 (by with_unfolding_all rfl) (aggB (SM.zeros 16)) zero16 (by exact Tryd.zero44) (by with_unfolding_all rfl) ?_)
            intro gt wB hgt hsB hbB hBB
            have hle : wA.heap.size ≤ gt := Nat.le_of_eq hgt.out.symm
            go_wp2_with (with_reducible refine wpList_put (o := ⟨none, .store 23 (.tmp 19) (.tmp 79), _, _, _, _⟩) (by with_unfolding_all rfl) 23 (.tmp 19) (.tmp 79) (by with_unfolding_all rfl) gt 0 (by with_unfolding_all rfl) (.agg (V.map B8).toArray) (by with_unfolding_all rfl) hBB (V.map B8) (by with_unfolding_all rfl) (by rw [List.length_map, hVl.out]; exact Tryd.size44) (by with_unfolding_all (rw [List.length_map, hVl.out]; exact Nat.le_refl _)) (B8_one _) ?_)
            intro wC huC hBC
            rw [splice_all _ _ (by rw [List.length_map, hVl.out]; rfl)] at hBC
            have hbelC := below_join hbelA ((hbB.mono hle).trans (huC.below (B := wA.heap.size) hle))
            clear hbelA hbB hBB huC hsB hgt hle
            go_wp2_with (with_reducible refine wpList_get (o := ⟨some 81, .load 23 (.tmp 19), _, _, _, _⟩) (by with_unfolding_all rfl) 23 (.tmp 19) (by with_unfolding_all rfl) gt 0 (by with_unfolding_all rfl) hBC (V.map B8) (cs_all _) (.array 16 5) (by exact Tryd.underlying23) (by with_unfolding_all rfl) (by rw [List.length_map, hVl.out]; exact Tryd.size44) ?_)
            (with_reducible refine (text_any V _ hVl.out).mono ?_)
            rintro e wD ⟨rfl, hbD⟩
            have hbelD := below_join hbelC hbD
            clear hbelC hbD hBC
            generalize (⟨T.toArray⟩ : ByteArray) = js at happ hTz ⊢
            generalize (⟨V.toArray⟩ : ByteArray) = vz at happ hvz ⊢
            go_wp2
            go_roundw
            case rel =>
              refine ⟨_, _, _, _, _, _, _, _, _, _, _, _, _, _, _, _, _, _, _, _, _, _, _, _, _, _, _, ?R2, rfl⟩
              exact ⟨p + 1, by omega, by go_num, by (rw [hxn.out]; first | rfl | (congr 1; omega)), by rw [happ.out], hbelD⟩
            case measure => simp [intOf]; omega
        · obtain rfl : p = h := by omega
          rw [← hsig.out]
          clear hsig hlt hp
          go_wp2
          go_ret2
          exact ⟨rfl, hbel⟩
end Go.Proofs.YtkakiepaffhhjaaDoor

/-
  Contract of the walk over the reference's Sign, for every height and index. Conditions: a seed of at most 10^7 bytes; a message of at most 10^6 bytes; the tables read as the document has them.
-/
namespace Go.Proofs.YtkakiepaffhhjaaDoor
open Go.RowKit

set_option maxRecDepth 100000 in
set_option maxHeartbeats 800000 in
theorem rsign_any (seed : ByteArray) (h i : Int) (ml R : List UInt8) (w : World) (hR : Unit → sgS seed.data.toList h i ml = R) (hs : seed.size ≤ 10000000) (hm : ml.length ≤ 1000000) (HY : LayC w) :
    Calls Tryd.prog 19 #[.string seed, .int .i64 h, .int .i64 i, .string ⟨ml.toArray⟩] w fun e w' => e = .returned (.tuple #[.string ⟨R.toArray⟩, .int .i64 (sgE h i)]) ∧ Below w.heap.size w w' := by
  by_cases hoi : okI2 h i = true
  · have ho : okH h = true := by
      by_cases ho : okH h = true
      · exact ho
      · rw [okI2_not (by simpa using ho)] at hoi; cases hoi
    obtain ⟨n, rfl, hn⟩ := okH_nat ho
    have hd := of_decide_eq_true hoi
    have hcn : cnt (n : Int) = 2 ^ n := by unfold cnt; rw [if_pos ho, Int.toNat_natCast]
    obtain ⟨k, rfl⟩ : ∃ k : Nat, i = (k : Int) := ⟨i.toNat, by omega⟩
    have hk : k < 2 ^ n := by have := hd.2; rw [hcn] at this; omega
    have e1 : sgE (n : Int) (k : Int) = 0 := by unfold sgE; rw [if_pos ho, if_pos hoi]
    have e2 : SG.sig seed.data.toList n k ml = R := by rw [← hR ()]; unfold sgS; rw [if_pos hoi, Int.toNat_natCast, Int.toNat_natCast]
    refine (rsign_ok seed n k ml w hn hk hs hm HY).mono ?_
    rintro e w' ⟨rfl, hb⟩
    rw [e1, e2]
    exact ⟨rfl, hb⟩
  · have hof : okI2 h i = false := by simpa using hoi
    have e2 : R = [] := by rw [← hR ()]; exact sgS_none hof
    obtain ⟨pub, hpub⟩ : ∃ p, (Unit → pubD seed.data.toList h = p) := ⟨_, fun _ => rfl⟩
    have hpl : Hid (pub.length = 16) := by rw [← hpub ()]; exact pubD_length _ _
    obtain ⟨q, hq⟩ : ∃ q, cnt h = q := ⟨_, rfl⟩
    have hd : ¬ (0 ≤ i ∧ i < (q : Int)) := by rw [← hq]; exact of_decide_eq_false hof
    obtain ⟨pe, hpe⟩ : ∃ pe, Hid (pubE h = pe) := ⟨_, rfl⟩
    obtain ⟨se, hse⟩ : ∃ se, Hid (sgE h i = se) := ⟨_, rfl⟩
    have hcase : (pe = 1 ∧ se = 1) ∨ (pe = 0 ∧ se = 14) := by
      rw [← hpe.out, ← hse.out]; unfold pubE sgE; rw [hof]
      by_cases ho : okH h = true
      · rw [if_pos ho, if_pos ho]; exact Or.inr ⟨rfl, rfl⟩
      · rw [if_neg ho, if_neg ho]; exact Or.inl ⟨rfl, rfl⟩
    have HP := fun w => rpublic_any seed h pub w hpub hs
    rw [hpe.out] at HP
    rw [e2, hse.out]
    clear hR e2 hoi hof hpe hse
    go_enter Tryd.func19, Tryd.ntmps19
    go_wp2_with fail
    (with_reducible refine (HP _ HY).mono ?_)
    rintro e w1 ⟨rfl, hb1⟩
    go_wp2_with (with_reducible refine wpList_alloc (o := ⟨some 10, .alloc 23, _, _, _, _⟩) (by with_unfolding_all rfl) 23 (by with_unfolding_all rfl) (aggB (SM.zeros 16)) zero16 (by exact Tryd.zero44) (by with_unfolding_all rfl) ?_)
    intro gp w2 hgp hs2 hb2 hB2
    have hle : w1.heap.size ≤ gp := Nat.le_of_eq hgp.out.symm
    go_wp2_with (with_reducible refine wpList_put (o := ⟨none, .store 23 (.tmp 10) (.tmp 24), _, _, _, _⟩) (by with_unfolding_all rfl) 23 (.tmp 10) (.tmp 24) (by with_unfolding_all rfl) gp 0 (by with_unfolding_all rfl) (.agg (pub.map B8).toArray) (by with_unfolding_all rfl) hB2 (pub.map B8) (by with_unfolding_all rfl) (by rw [List.length_map, hpl.out]; exact Tryd.size44) (by with_unfolding_all (rw [List.length_map, hpl.out]; exact Nat.le_refl _)) (B8_one _) ?_)
    intro w3 hu3 hB3
    have hbel3 := below_join hb1 ((hb2.mono hle).trans (hu3.below (B := w1.heap.size) hle))
    clear hb1 hb2 hB2 hu3 hgp hs2 hle hB3 HP hpub
    rcases hcase with ⟨rfl, rfl⟩ | ⟨rfl, rfl⟩
    · go_wp2
      go_ret2
      exact ⟨rfl, hbel3⟩
    · by_cases h0 : i < 0
      · clear hd
        go_wp2
        go_ret2
        exact ⟨rfl, hbel3⟩
      · have hqi : (q : Int) ≤ i := by omega
        have h0' : 0 ≤ i := by omega
        clear hd h0
        go_wp2_with fail
        (with_reducible refine (rcount_to _ q _ hq).mono ?_)
        rintro e w' ⟨rfl, rfl⟩
        go_wp2
        go_ret2
        exact ⟨rfl, hbel3⟩
end Go.Proofs.YtkakiepaffhhjaaDoor

/-
  Contract of the walk over sign.digests. Conditions: a text of 16 n bytes, n at most 1000.
-/
namespace Go.Proofs.YtkakiepaffhhjaaDoor
open Go.RowKit

theorem wp_copyStr {P : Program} {o : Oper} {a : Act} {w : World} {K : Act → World → Prop} {Q : Exit → Act → World → Prop} (d s : Operand) (dT sT : TypeId)
    (ho : o.op = .call { callee := .builtin .copy, args := #[d, s], argTypes := #[dT, sT] }) (elem : TypeId) (hu : P.underlying dT = some (.slice elem)) (hsz : (P.info? elem).map (·.size) = some 1)
    (g k dLen dCap : Nat) (hd : a.eval d = .slice (some ⟨g, k, none⟩) dLen dCap) (b : ByteArray) (hs : a.eval s = .string b) {t : TypeId} {l : List Value} (hb : Blk w g t l) (hl : k + dLen ≤ l.length)
    (h : ∀ w', Upd g w w' → Blk w' g t (splice l k (Lib.byteCells (b.data.toList.take dLen))) → K (a.put o.dst (goInt (Nat.min b.size dLen))) w') : Oper.wp P o a w K Q := by
  have hlen : (Lib.byteCells (b.data.toList.take dLen)).length = Nat.min b.size dLen := by
    rw [Lib.byteCells_length, List.length_take, Array.length_toList, Nat.min_comm]; rfl
  have hst := run_storeCells_at (P := P) g k t (Lib.byteCells (b.data.toList.take dLen)) 0 l.toArray w hb (by
    rw [hlen]; have : Nat.min b.size dLen ≤ dLen := Nat.min_le_right _ _
    simp; omega) (Lib.byteCells_one _)
  simp only [Nat.add_zero] at hst
  have htk : List.take (Nat.min b.size dLen) (List.map (fun b : UInt8 => Value.int IntKind.u8 (b.toNat : Int)) b.data.toList) = Lib.byteCells (b.data.toList.take dLen) := by
    unfold Lib.byteCells
    rw [← List.map_take]
    congr 1
    show List.take (min b.size dLen) _ = _
    rw [Nat.min_def]
    split
    · rw [List.take_of_length_le, List.take_of_length_le]
      · rw [Array.length_toList]; show b.size ≤ _; omega
      · rw [Array.length_toList]; show b.size ≤ _; omega
    · rfl
  have hrun : (Builtin.copy_ #[dT, sT] o.type #[.slice (some ⟨g, k, none⟩) dLen dCap, .string b]).run P w = .ok (goInt (Nat.min b.size dLen)) (w.setRow g (splice l k (Lib.byteCells (b.data.toList.take dLen))).toArray) := by
    cases hq : P.info? elem with
    | none => simp [hq] at hsz
    | some i =>
      simp [Builtin.copy_, run_underlying hu, Builtin.lenOf, Builtin.firstCells, sizeOf, typeInfo, hq]
      rw [htk, hst]
      simp [Result.andThen, splice]
  unfold Oper.wp
  simp [execOp, ho, resolve, invoke, builtin, hd, hs, hrun, Result.andThen]
  exact h _ (upd_setRow w g _) (blk_setRow hb _)
def SG.cut (t : List UInt8) (n : Nat) : List (List UInt8) := (List.range n).map fun k => (t.drop (16 * k)).take 16
theorem SG.cut_length (t : List UInt8) (n : Nat) : (SG.cut t n).length = n := by unfold SG.cut; simp
theorem SG.cut_at (t : List UInt8) (n k : Nat) (h : k < n) : (SG.cut t n)[k]? = some ((t.drop (16 * k)).take 16) := by
  unfold SG.cut; rw [List.getElem?_map, List.getElem?_range h]; rfl
theorem SG.cut_16 (t : List UInt8) (n : Nat) (ht : t.length = 16 * n) : ∀ d ∈ SG.cut t n, d.length = 16 := by
  intro d hd
  unfold SG.cut at hd
  obtain ⟨j, hj, rfl⟩ := List.mem_map.1 hd
  have := List.mem_range.1 hj
  rw [List.length_take, List.length_drop]; omega
theorem own_blk {w : World} {base size n g : Nat} {e : TypeId} {xs : List Value} (h : w.ownsRow base e size (.slice (some ⟨g, 0, none⟩) n n) n xs) : Blk w g e xs := by
  obtain ⟨h1, h2⟩ := h
  rcases h2 with ⟨hv, _⟩ | ⟨g', cap, cur, hv, _, hh, _, _, hsz, htk⟩
  · cases hv
  · cases hv
    have hc : cur.toList = xs := by rw [← htk, List.take_of_length_le (by simp; omega)]
    unfold Blk
    rw [hh, ← hc]
theorem blk_own {w : World} {base size n g : Nat} {e : TypeId} {xs : List Value} (h : Blk w g e xs) (hg : base ≤ g) (hl : xs.length = n * size) (hn : n ≤ maxLen) : w.ownsRow base e size (.slice (some ⟨g, 0, none⟩) n n) n xs :=
  ⟨hl, Or.inr ⟨g, n, xs.toArray, rfl, hg, h, Nat.le_refl _, hn, by simp [hl], by rw [List.take_of_length_le (by simp; omega)]⟩⟩
theorem fillD_length (L : List (List UInt8)) (n j : Nat) (h16 : ∀ d ∈ L, d.length = 16) (hl : L.length = n) (hj : j ≤ n) : (fillD L n j).length = n * 16 := by
  have hd : ∀ M : List (List UInt8), (∀ d ∈ M, d.length = 16) → (digCells M).length = M.length * 16 := by
    intro M
    induction M with
    | nil => intro _; rfl
    | cons d M ih =>
      intro h
      have e : digCells (d :: M) = d.map B8 ++ digCells M := by unfold digCells; rw [List.flatMap_cons]
      rw [e, List.length_append, ih (fun x hx => h x (List.mem_cons_of_mem _ hx)), List.length_map, h d (List.mem_cons_self), List.length_cons]
      omega
  unfold fillD
  rw [List.length_append, List.length_replicate, hd _ (fun x hx => h16 x (List.mem_of_mem_take hx)), List.length_take]
  have : min j L.length = j := by omega
  rw [this]
  omega
def DtRel (L : List (List UInt8)) (n g : Nat) (w : World) (i : Value) (wr : World) : Prop :=
  ∃ j : Nat, j ≤ n ∧ i = .int .i64 j ∧ Blk wr g 23 (fillD L n j) ∧ Below w.heap.size w wr
set_option maxRecDepth 100000 in
set_option maxHeartbeats 1600000 in
theorem cuts_any (t : ByteArray) (n : Nat) (L : List (List UInt8)) (w : World) (hL : Unit → SG.cut t.data.toList n = L) (ht : t.size = 16 * n) (hn : n ≤ 1000) :
    Calls Tryd.prog 41 #[.string t] w fun e w' => ∃ g, e = .returned (.slice (some ⟨g, 0, none⟩) n n) ∧ w'.ownsRow w.heap.size 23 16 (.slice (some ⟨g, 0, none⟩) n n) n (digCells L) ∧ Below w.heap.size w w' := by
  obtain ⟨i0, hi, hz0, hz1, hz2⟩ := info_parts Tryd.info57
  have htl : t.data.toList.length = 16 * n := by rw [bytes_size]; exact ht
  have hLl : Hid (L.length = n) := by rw [← hL ()]; exact SG.cut_length _ _
  have hL16 : Hid (∀ d ∈ L, d.length = 16) := by rw [← hL ()]; exact SG.cut_16 _ _ htl
  have hLa : Hid (∀ k, k < n → L[k]? = some ((t.data.toList.drop (16 * k)).take 16)) := by rw [← hL ()]; exact fun k hk => SG.cut_at _ _ _ hk
  have hdv : ((t.size : Int)).tdiv 16 = (n : Int) := by rw [Int.tdiv_eq_ediv_of_nonneg (by omega)]; omega
  have HTL := Lib.hid htl
  have HT := Lib.hid ht
  clear hL htl ht
  go_enter Tryd.func41, Tryd.ntmps41
  go_wp2_with (at_make; refine wpList_make_full _ rfl _ _ 55 rfl w.heap.size 23 i0 _ 16 Tryd.underlying55 hi hz0 hz1 _ _ _ _ n rfl rfl rfl rfl ?b2 ?b3 ?b4 ?_)
  case b2 => rw [hz2]; omega
  case b3 => unfold maxLen; omega
  case b4 => omega
  intro w1 hown1 hg1
  have hB1 : Blk w1 w.heap.size 23 (fillD L n 0) := by
    have hown2 : w1.ownsRow w.heap.size 23 16 (.slice (some ⟨w.heap.size, 0, none⟩) n n) n (madeCells (List.replicate 16 (Value.int .u8 0)).toArray (n * 16)).toList := hown1
    rw [made_rep 16 _ _ (by decide)] at hown2
    rw [fillD_zero]; exact own_blk hown2
  have hbel1 := (Below.refl w.heap.size w).grown hg1 (Nat.le_refl _) (fun k hk => by cases hk)
  obtain ⟨g, hge⟩ : ∃ g, Hid (w.heap.size = g) := ⟨_, rfl⟩
  have hgl : w.heap.size ≤ g := Nat.le_of_eq hge.out
  rw [hge.out] at hB1 ⊢
  clear hown1 hg1
  go_wp2
  go_loopw [11] (DtRel L n g w) (fun i _ => n - (intOf i).toNat)
  case atStart => exact ⟨0, Nat.zero_le _, rfl, hB1, hbel1⟩
  case round =>
    clear hB1 hbel1
    obtain ⟨j, hj, rfl, hB, hbel⟩ := hrel
    by_cases hlt : j < n
    · obtain ⟨D, hD⟩ : ∃ D, Hid ((t.data.toList.drop (16 * j)).take 16 = D) := ⟨_, rfl⟩
      have hDl : Hid (D.length = 16) := by rw [← hD.out, List.length_take, List.length_drop, HTL.out]; have : min 16 (16 * n - 16 * j) = 16 := by omega
                                           exact this
      have hLj : Hid (L[j]? = some D) := by
        have := hLa.out j hlt
        rw [hD.out] at this
        exact this
      have hFl := fillD_length L n j hL16.out hLl.out hj
      have hFN := fillD_next L n j D hL16.out hLl.out hlt hLj.out
      have hsp : Hid (splice (fillD L n j) (j * 16) (Lib.byteCells (((t.extract (j * 16) t.size).data.toList).take 16)) = fillD L n (j + 1)) := by
        have : splice (fillD L n j) (j * 16) (Lib.byteCells (((t.extract (j * 16) t.size).data.toList).take 16)) = fillD L n (j + 1) := by
          rw [drop_extract, Nat.mul_comm j 16, hD.out, byteCells_B8, Nat.mul_comm 16 j, ← hFN]
          unfold splice
          rw [List.length_map, hDl.out, List.append_assoc]
        exact this
      have hS : ∀ w', Below wr.heap.size wr w' → Below w.heap.size w w' := fun w' h => below_join hbel h
      have hcut : ∀ w', (Instr.sliceAt 23 (.pointer (some ⟨g, j * 16, none⟩)) none none none).run Tryd.prog w' = .ok (.slice (some ⟨g, j * 16, none⟩) 16 16) w' := fun w' => run_cutAll (P := Tryd.prog) 23 5 16 Tryd.underlying23 Tryd.size5 (by decide) g (j * 16) w'
      have hji : (j : Int) < (n : Int) := by omega
      have hw1 : IntKind.i64.wrap ((j : Int) * 16) = (j : Int) * 16 := by simp only [IntKind.wrap_i64]; omega
      have hp1 : 0 ≤ (j : Int) * 16 := by omega
      have ht1 : ((j : Int) * 16).toNat = j * 16 := by omega
      have hle1 : (j : Int) * 16 ≤ (t.size : Int) := by have := HT.out; omega
      have hle2 : j * 16 ≤ t.size := by have := HT.out; omega
      have hdd := below_drew wr
      have hB0 := hB.next hdd hB.lt
      clear hD hFN hLj
      go_wp2
      refine wp_region_held_drew (S := fun w' => Below w.heap.size w w') (by kernel_rfl) (hS _ hdd) (fun hHeld => ?_)
      generalize wr.drew = wd at hdd hHeld hB0 ⊢
      refine wpAnyH_take (i := 0) (v := ?vl0) rfl (by kernel_rfl) (by kernel_rfl) (by kernel_rfl) (fun _ _ _ h => h) (Or.inl ⟨by rfl, ?yl0⟩) (by assumption) ?rl0
      case yl0 => intro w hSw; (try dsimp only at hSw); go_simp <;> (try with_reducible rfl)
      (try simp only [List.getElem_toArray, List.getElem_cons_zero, Act.put, List.setIfInBounds_toArray, List.set_cons_zero, List.set_cons_succ])
      refine wpAnyH_take (i := 1) (v := ?vl1) rfl (by kernel_rfl) (by kernel_rfl) (by kernel_rfl) (fun _ _ _ h => h) (Or.inl ⟨by rfl, ?yl1⟩) (by assumption) ?rl1
      case yl1 => intro w hSw; (try dsimp only at hSw); go_simp <;> (try with_reducible rfl)
      (try simp only [List.getElem_toArray, List.getElem_cons_succ, List.getElem_cons_zero, Act.put, List.setIfInBounds_toArray, List.set_cons_zero, List.set_cons_succ])
      refine wpAnyH_take (i := 2) (v := ?vl2) rfl (by kernel_rfl) (by kernel_rfl) (by kernel_rfl) (fun _ _ _ h => h) (Or.inl ⟨by rfl, ?yl2⟩) (by assumption) ?rl2
      case yl2 => intro w hSw; (try dsimp only at hSw); go_simp <;> (try with_reducible rfl)
      (try simp only [List.getElem_toArray, List.getElem_cons_succ, List.getElem_cons_zero, Act.put, List.setIfInBounds_toArray, List.set_cons_zero, List.set_cons_succ])
      refine wpAnyH_take (i := 3) (v := ?vl3) rfl (by kernel_rfl) (by kernel_rfl) (by kernel_rfl) (fun _ _ _ h => h) (Or.inl ⟨by rfl, ?yl3⟩) (by assumption) ?rl3
      case yl3 => intro w hSw; (try dsimp only at hSw); go_simp <;> (try with_reducible rfl)
      (try simp only [List.getElem_toArray, List.getElem_cons_succ, List.getElem_cons_zero, Act.put, List.setIfInBounds_toArray, List.set_cons_zero, List.set_cons_succ])
      refine wpAnyH_take (i := 4) (v := ?vl4) rfl (by kernel_rfl) (by kernel_rfl) (by kernel_rfl) (fun _ _ _ h => h) (Or.inl ⟨by rfl, ?yl4⟩) (by assumption) ?rl4
      case yl4 => intro w hSw; (try dsimp only at hSw); go_simp <;> (try with_reducible rfl)
      (try simp only [List.getElem_toArray, List.getElem_cons_succ, List.getElem_cons_zero, Act.put, List.setIfInBounds_toArray, List.set_cons_zero, List.set_cons_succ])
      refine wpAnyH_take (i := 5) (v := ?vl5) rfl (by kernel_rfl) (by kernel_rfl) (by kernel_rfl) (fun _ _ _ h => h) (Or.inl ⟨by rfl, ?yl5⟩) (by assumption) ?rl5
      case yl5 => intro w hSw; (try dsimp only at hSw); go_simp <;> (try with_reducible rfl)
      (try simp only [List.getElem_toArray, List.getElem_cons_succ, List.getElem_cons_zero, Act.put, List.setIfInBounds_toArray, List.set_cons_zero, List.set_cons_succ])
      refine wpAnyH_take (i := 6) (v := ?vl6) rfl (by kernel_rfl) (by kernel_rfl) (by kernel_rfl) (fun _ _ _ h => h) (Or.inl ⟨by rfl, ?yl6⟩) (by assumption) ?rl6
      case yl6 => intro w hSw; (try dsimp only at hSw); go_simp <;> (try with_reducible rfl)
      (try simp only [List.getElem_toArray, List.getElem_cons_succ, List.getElem_cons_zero, Act.put, List.setIfInBounds_toArray, List.set_cons_zero, List.set_cons_succ])
      refine wpAnyH_take (i := 7) (v := ?vl7) rfl (by kernel_rfl) (by kernel_rfl) (by kernel_rfl) (fun _ _ _ h => h) (Or.inl ⟨by rfl, ?yl7⟩) (by assumption) ?rl7
      case yl7 => intro w hSw; (try dsimp only at hSw); go_simp <;> (try with_reducible rfl)
      (try simp only [List.getElem_toArray, List.getElem_cons_succ, List.getElem_cons_zero, Act.put, List.setIfInBounds_toArray, List.set_cons_zero, List.set_cons_succ])
      refine wpAnyH_ready (rs := [8]) (by kernel_rfl) (by simp) ?_
      refine AllReadyH.cons rfl (fun K hK => ?_) AllReadyH.nil
      rw [if_pos (by rfl)]
      refine wp_copyStr (.tmp 17) (.tmp 21) 43 9 rfl 5 Tryd.underlying43 Tryd.size5 g (j * 16) 16 16 rfl (t.extract (j * 16) t.size) rfl hB0 (by rw [hFl]; omega) ?_
      intro wE huE hBE
      rw [hsp.out] at hBE
      have hbE := (below_join hbel hdd).trans (huE.below (B := w.heap.size) hgl)
      refine hK.out _ _ hbE (fun hHeld => ?_)
      clear hK K hHeld
      refine wpAnyH_done (by kernel_rfl) ?_ _
      clear hB hB0 hbel huE hdd hsp hS
      go_wp2
      go_roundw
      case rel => exact ⟨j + 1, by omega, by go_num, hBE, hbE⟩
      case measure => simp [intOf]; omega
    · obtain rfl : j = n := by omega
      rw [fillD_all L j hLl.out] at hB
      have hown := blk_own (base := w.heap.size) (size := 16) (n := j) hB hgl (by rw [← fillD_all L j hLl.out]; exact fillD_length L j j hL16.out hLl.out (Nat.le_refl _)) (by unfold maxLen; omega)
      clear hB hlt hj
      go_wp2
      go_ret
      exact ⟨_, rfl, hown, hbel⟩
end Go.Proofs.YtkakiepaffhhjaaDoor
