/-
  Contracts of the functions that the statements of layer 3 call, part 9 of 10 (merged texts: Sc19, Sc20, Sw4, Sc21, Sc22). Conditions: as the head of each part says.
-/
import Derived.Test.YtkakiepaffhhjaaDoorJH
import Derived.Test.YtkakiepaffhhjaaDoorJE

/-
  Contract of the walk over sign.rebuilt. Conditions: 35 values, at most 6 digests beside the way; the tables read as the document has them.
-/
namespace Go.Proofs.YtkakiepaffhhjaaDoor
open Go.RowKit

def SG.ends (i : Nat) (ds : List Nat) (vs : List (List UInt8)) : List (List UInt8) := (List.range 35).map fun j => climb i j (vs.getD j []) (ds.getD j 0) (15 - ds.getD j 0)
def SG.up (i : Nat) (v : List UInt8) (bs : List (List UInt8)) : Nat → List UInt8
  | 0 => v
  | n + 1 => if i / 2 ^ n % 2 = 0 then node (n + 1) (i / 2 ^ n / 2) (SG.up i v bs n) (bs.getD n []) else node (n + 1) (i / 2 ^ n / 2) (bs.getD n []) (SG.up i v bs n)
theorem SG.ends_length (i : Nat) (ds : List Nat) (vs : List (List UInt8)) : (SG.ends i ds vs).length = 35 := by unfold SG.ends; simp
theorem SG.ends_at (i : Nat) (ds : List Nat) (vs : List (List UInt8)) (j : Nat) (h : j < 35) : (SG.ends i ds vs)[j]? = some (SG.climb i j (vs.getD j []) (ds.getD j 0) (15 - ds.getD j 0)) := by
  unfold SG.ends; rw [List.getElem?_map, List.getElem?_range h]; rfl
theorem SG.ends_16 (i : Nat) (ds : List Nat) (vs : List (List UInt8)) (hl : vs.length = 35) (h16 : ∀ d ∈ vs, d.length = 16) : ∀ d ∈ SG.ends i ds vs, d.length = 16 := by
  intro d hd
  unfold SG.ends at hd
  obtain ⟨j, hj, rfl⟩ := List.mem_map.1 hd
  have hj35 := List.mem_range.1 hj
  refine SG.climb_length _ _ _ _ ?_ _
  rw [List.getD_eq_getElem?_getD, List.getElem?_eq_getElem (by omega)]
  exact h16 _ (List.getElem_mem _)
theorem SG.up_length (i : Nat) (v : List UInt8) (bs : List (List UInt8)) (hv : v.length = 16) : ∀ n, (SG.up i v bs n).length = 16
  | 0 => hv
  | n + 1 => by
    show (if _ then _ else _ : List UInt8).length = 16
    split <;> exact SG.hof_length _ _
def SG.rebuilt (i : Nat) (ds : List Nat) (vs bs : List (List UInt8)) : List UInt8 := SG.up i (SG.leaf (SG.ends i ds vs)) bs bs.length
theorem row_rangeO {w : World} {g o : Nat} {L : List (List UInt8)} (h16 : ∀ d ∈ L, d.length = 16) (hh : Holds w (some ⟨g, o, none⟩) (digCells L)) {k : Nat} {d : List UInt8} (hk : L[k]? = some d) : w.rangeAt g (o + k * 16) (d.map B8) := fun j u hu => by
  obtain ⟨hlt, rfl⟩ := List.getElem?_eq_some_iff.1 hk
  have := digCells_get L h16 k hlt j u hu
  obtain ⟨ad, e, hc⟩ := hh _ _ this
  cases e
  rw [addr_mid] at hc
  rw [Nat.add_assoc]
  exact hc
def UbRel (i : Nat) (v : List UInt8) (bs : List (List UInt8)) (gv gr : Nat) (w : World) (k : Value) (wr : World) : Prop :=
  ∃ q : Nat, q ≤ bs.length ∧ k = .int .i64 q ∧ Blk wr gv 23 ((SG.up i v bs q).map B8) ∧ Blk wr gr 23 zero16 ∧ Below w.heap.size w wr
set_option maxRecDepth 100000 in
set_option maxHeartbeats 3200000 in
theorem rebuilt_any (i ga gb ob ca cb m : Nat) (ds : List Nat) (vs bs : List (List UInt8)) (D : List UInt8) (w : World) (hD : Unit → SG.rebuilt i ds vs bs = D) (hi64 : i < 64) (hdl : ds.length = 35) (hd15 : ∀ d ∈ ds, d ≤ 15) (hvl : vs.length = 35) (hv16 : ∀ d ∈ vs, d.length = 16) (hbl : bs.length = m) (hm6 : m ≤ 6) (hb16 : ∀ d ∈ bs, d.length = 16)
    (hA : Holds w (some ⟨ga, 0, none⟩) (digCells vs)) (hB : Holds w (some ⟨gb, ob, none⟩) (digCells bs)) (HY : Lay w) :
    Calls Tryd.prog 42 #[.int .i64 i, .agg (ds.map N8).toArray, .slice (some ⟨ga, 0, none⟩) 35 ca, .slice (some ⟨gb, ob, none⟩) m cb] w fun e w' => e = .returned (.agg (D.map B8).toArray) ∧ Below w.heap.size w w' := by
  obtain ⟨i0, hi, hz0, hz1, hz2⟩ := info_parts Tryd.info57
  have hdsl := Lib.hid hdl
  have hds15 := Lib.hid hd15
  have HV16 := Lib.hid hv16
  have HVL := Lib.hid hvl
  have HB16 := Lib.hid hb16
  have HBL := Lib.hid hbl
  have hNl : Hid ((ds.map N8).length = 35) := by
    have : (ds.map N8).length = 35 := by rw [List.length_map]; exact hdl
    exact this
  obtain ⟨L, hL⟩ : ∃ L, Hid (SG.ends i ds vs = L) := ⟨_, rfl⟩
  have hLl : Hid (L.length = 35) := by rw [← hL.out]; exact SG.ends_length _ _ _
  have hL16 : Hid (∀ d ∈ L, d.length = 16) := by rw [← hL.out]; exact SG.ends_16 _ _ _ hvl hv16
  have hLa : Hid (∀ j, j < 35 → L[j]? = some (SG.climb i j (vs.getD j []) (ds.getD j 0) (15 - ds.getD j 0))) := by rw [← hL.out]; exact fun j hj => SG.ends_at _ _ _ _ hj
  obtain ⟨V, hV⟩ : ∃ V, (Unit → SG.leaf L = V) := ⟨_, fun _ => rfl⟩
  have hVl : Hid (V.length = 16) := by rw [← hV ()]; exact SG.hof_length _ _
  have hDu : Hid (SG.up i V bs m = D) := by
    have : SG.up i V bs m = D := by rw [← hV (), ← hL.out, ← hbl]; exact hD ()
    exact this
  have HA := Lib.hid hA
  have HB := Lib.hid hB
  clear hD hdl hd15 hv16 hvl hb16 hL hA hB hbl
  go_enter Tryd.func42, Tryd.ntmps42
  go_wp2_with (with_reducible refine wpList_box (o := ⟨some 5, .box 25 (.tmp 1), _, _, _, _⟩) ?g1 25 (.tmp 1) ?o1 (.agg (ds.map N8).toArray) (ds.map N8) ?x1 ?c1 ?_)
  try (case g1 => rfl)
  try (case o1 => rfl)
  try (case x1 => rfl)
  try (case c1 => rfl)
  intro g5 w1 hg5 hs1 hb1 hB1
  go_wp2_with (with_reducible refine wpList_alloc (o := ⟨some 8, .alloc 23, _, _, _, _⟩) (by with_unfolding_all rfl) 23 (by with_unfolding_all rfl) (aggB (SM.zeros 16)) zero16 (by exact Tryd.zero44) (by with_unfolding_all rfl) ?_)
  intro gr w2 hgr hs2 hb2 hB2
  have hl1 : g5 < gr := by have := hs1.out; have := hgr.out; have := hg5.out; omega
  have hle : w.heap.size ≤ g5 := Nat.le_of_eq hg5.out.symm
  have hler : w.heap.size ≤ gr := by omega
  have hB5 := hB1.next hb2 hl1
  have hbel2 : Below w.heap.size w w2 := (hb1.mono hle).trans (hb2.mono (by omega))
  clear hg5 hgr hs1 hs2 hb1 hb2 hB1
  go_wp2_with fail
  (with_reducible refine (climber_any i _).mono ?_)
  rintro e w3 ⟨rfl, hcl, hb3⟩
  have hB53 := hB5.next hb3 hB5.lt
  have hB3 := hB2.next hb3 hB2.lt
  have hbel3 := below_join hbel2 hb3
  have hgi := World.block_lt_of_cell? w3 _ hcl
  obtain ⟨gi, hge⟩ : ∃ gi, Hid (w2.heap.size = gi) := ⟨_, rfl⟩
  rw [hge.out] at hcl hgi ⊢
  clear hB5 hB2 hbel2 hb3 hge
  go_wp2_with (at_make; refine wpList_make_full _ rfl _ _ 55 rfl w3.heap.size 23 i0 _ 16 Tryd.underlying55 hi hz0 hz1 _ _ _ _ 35 rfl rfl rfl rfl ?b2 ?b3 ?b4 ?_)
  case b2 => rw [hz2]; decide
  case b3 => unfold maxLen; omega
  case b4 => omega
  intro w4 hown4 hg4
  have hown4' : w4.ownsRow w3.heap.size 23 16 (.slice (some ⟨w3.heap.size, 0, none⟩) 35 35) 35 (fillD L 35 0) := by
    have hownx : w4.ownsRow w3.heap.size 23 16 (.slice (some ⟨w3.heap.size, 0, none⟩) 35 35) 35 (madeCells (List.replicate 16 (Value.int .u8 0)).toArray (35 * 16)).toList := hown4
    rw [made_rep 16 _ _ (by decide)] at hownx
    rw [fillD_zero]; exact hownx
  have hbel4 := (Below.refl w3.heap.size w3).grown hg4 (Nat.le_refl _) (fun k hk => by cases hk)
  have hB54 := hB53.next hbel4 hB53.lt
  clear hown4 hg4
  go_wp2_with (with_reducible refine wpList_get (o := ⟨some 20, .load 25 (.tmp 5), _, _, _, _⟩) (by with_unfolding_all rfl) 25 (.tmp 5) (by with_unfolding_all rfl) g5 0 (by with_unfolding_all rfl) hB54 (ds.map N8) (cs_all _) (.array 35 3) Tryd.underlying25 (by with_unfolding_all rfl) (by rw [hNl.out]; exact Tryd.size51) ?_)
  have HU8 : ∃ dd, Hid (Tryd.prog.underlying 3 = some dd) ∧ dd.isRow = false := ⟨_, Tryd.underlying3, rfl⟩
  obtain ⟨dd, HDD, hdd⟩ := HU8
  clear hB54 hB53
  go_loopw [21] (LsRel L w3) (fun i _ => 35 - (intOf i).toNat)
  case atStart => exact ⟨0, by omega, rfl, hown4', hbel4⟩
  case round =>
    clear hown4' hbel4
    obtain ⟨j, hj, rfl, hown, hbel⟩ := hrel
    have hbelw := below_join hbel3 hbel
    by_cases hlt : j < 35
    · obtain ⟨d, hd⟩ : ∃ d, ds[j]? = some d := ⟨_, List.getElem?_eq_getElem (by rw [hdsl.out]; exact hlt)⟩
      obtain ⟨v, hv⟩ : ∃ v, vs[j]? = some v := ⟨_, List.getElem?_eq_getElem (by rw [HVL.out]; exact hlt)⟩
      have hd15 : d ≤ 15 := hds15.out d (List.mem_of_getElem? hd)
      have hvl : Hid (v.length = 16) := HV16.out v (List.mem_of_getElem? hv)
      have hdx : (ds.map N8)[j]? = some (.int .i64 (d : Int)) := by rw [List.getElem?_map, hd]; rfl
      have HDX := Lib.hid hdx
      obtain ⟨v0, hv0⟩ : ∃ v0, (Unit → SG.climb i j v d (15 - d) = v0) := ⟨_, fun _ => rfl⟩
      have hv0l : Hid (v0.length = 16) := by rw [← hv0 ()]; exact SG.climb_length _ _ _ _ hvl.out _
      have hLj : Hid (L[j]? = some v0) := by
        have := hLa.out j hlt
        rw [List.getD_eq_getElem?_getD, List.getD_eq_getElem?_getD, hv, hd] at this
        rw [← hv0 ()]; exact this
      have hrg := row_range HV16.out (HA.out.next hbelw) hv
      have hu := Tryd.underlying23
      have hz : (Tryd.prog.info? 23).map (·.size) = some (v.map B8).length := by rw [List.length_map, hvl.out]; exact Tryd.size44
      have hcw : wr.cell? ⟨gi, 0, none⟩ = some (.int .i64 i) := by rw [hbel.cell hgi]; exact hcl
      clear hd hv hdx
      go_wp2_with (first | (with_reducible refine wpList_idx (o := ⟨some 24, .index 25 (.tmp 20) (.tmp 21), _, _, _, _⟩) (by with_unfolding_all rfl) 25 (.tmp 20) (.tmp 21) (by with_unfolding_all rfl) 3 35 j (ds.map N8) (.int .i64 (d : Int)) dd (by with_unfolding_all rfl) (by with_unfolding_all rfl) Tryd.underlying25 Tryd.size3 (by exact HDD.out) (by exact hdd) (by exact hlt) (by exact HDX.out) ?_) | (with_reducible refine wpList_load_mid (op := ⟨some 32, .load 23 (.tmp 31), _, _, _, _⟩) (by with_unfolding_all rfl) 23 (.tmp 31) (by with_unfolding_all rfl) ga (j * 16) (by with_unfolding_all rfl) (v.map B8) (.array 16 5) hrg hu (by with_unfolding_all rfl) hz ?_))
      (with_reducible refine (climb_at gi i j d 15 d 15 v v0 _ rfl rfl hv0 (by omega) (by omega) hd15 (by decide) hvl.out hcw (HY.next hbelw)).mono ?_)
      rintro e w5 ⟨rfl, hb5⟩
      have hown5 := own_next hown hb5
      have hbel5 := below_join hbel hb5
      have hsz5 := hbel5.size
      clear hown hb5 hbel hbelw hrg hcw
      go_wp2_with (with_reducible refine wpList_own57 (o := ⟨none, .store 23 (.tmp 35) (.tmp 34), _, _, _, _⟩) ?g4 (.tmp 35) (.tmp 34) ?o4 w3.heap.size 35 35 w3.heap.size j (fillD L 35 j) (v0.map B8) ?x4 ?y4 hown5 hlt ?v4 (B8_one v0) ?_)
      case g4 => rfl
      case o4 => rfl
      try (case x4 => rfl)
      try (case y4 => rfl)
      case v4 => rw [List.length_map]; exact hv0l.out
      intro w6 hown6 hg6
      rw [← List.append_assoc, fillD_next L 35 j v0 hL16.out hLl.out hlt hLj.out] at hown6
      have hbel6 := hbel5.grown hg6 hsz5 (fun q hq => by cases hq; exact Nat.le_refl _)
      clear hown5 hg6 hbel5
      go_wp2
      go_roundw
      case rel => exact ⟨j + 1, by omega, by go_num, hown6, hbel6⟩
      case measure => simp [intOf]; omega
    · obtain rfl : j = 35 := by omega
      rw [fillD_all L 35 hLl.out] at hown
      obtain ⟨A, c, hv, hc35, hh⟩ := holds_own hown
      cases hv
      clear hlt hj
      go_wp2_with fail
      (with_reducible refine (sleaf_any _ _ 35 L V _ hV hLl.out.symm (by rw [hLl.out]; decide) hL16.out hh (HY.next hbelw)).mono ?_)
      rintro e w7 ⟨rfl, hb7⟩
      have hbel7 := below_join hbelw hb7
      have hBr7 := (hB3.next hbel hB3.lt).next hb7 (Nat.lt_of_lt_of_le hB3.lt hbel.size)
      clear hown hb7 hbel hbelw hh hB3 hcl hgi
      go_wp2_with (with_reducible refine wpList_alloc (o := ⟨some 13, .alloc 23, _, _, _, _⟩) (by with_unfolding_all rfl) 23 (by with_unfolding_all rfl) (aggB (SM.zeros 16)) zero16 (by exact Tryd.zero44) (by with_unfolding_all rfl) ?_)
      intro gv w8 hgv hs8 hb8 hB8
      have hlg : w7.heap.size ≤ gv := Nat.le_of_eq hgv.out.symm
      go_wp2_with (with_reducible refine wpList_put (o := ⟨none, .store 23 (.tmp 13) (.tmp 38), _, _, _, _⟩) (by with_unfolding_all rfl) 23 (.tmp 13) (.tmp 38) (by with_unfolding_all rfl) gv 0 (by with_unfolding_all rfl) (.agg (V.map B8).toArray) (by with_unfolding_all rfl) hB8 (V.map B8) (by with_unfolding_all rfl) (by rw [List.length_map, hVl.out]; exact Tryd.size44) (by with_unfolding_all (rw [List.length_map, hVl.out]; exact Nat.le_refl _)) (B8_one _) ?_)
      intro w9 hu9 hB9
      rw [splice_all _ _ (by rw [List.length_map, hVl.out]; rfl)] at hB9
      have hb9 : Below w7.heap.size w7 w9 := (hb8.mono hlg).trans (hu9.below (B := w7.heap.size) hlg)
      have hbel9 := below_join hbel7 hb9
      have hBr9 := hBr7.next hb9 hBr7.lt
      have hlev : w.heap.size ≤ gv := Nat.le_trans hbel7.size hlg
      have hne : gr < gv := Nat.lt_of_lt_of_le hBr7.lt hlg
      clear hbel7 hBr7 hb8 hB8 hu9 hb9 hgv hs8 hlg
      go_wp2
      go_loopw [41] (UbRel i V bs gv gr w) (fun k _ => m - (intOf k).toNat)
      case atStart => exact ⟨0, Nat.zero_le _, rfl, hB9, hBr9, hbel9⟩
      case round =>
        clear hB9 hBr9 hbel9
        obtain ⟨q, hq, rfl, hBv, hBr, hbel⟩ := hrel
        rw [HBL.out] at hq
        have hUl : Hid ((SG.up i V bs q).length = 16) := SG.up_length i V bs hVl.out q
        by_cases hlt : q < m
        · obtain ⟨b, hb⟩ : ∃ b, bs[q]? = some b := ⟨_, List.getElem?_eq_getElem (by rw [HBL.out]; exact hlt)⟩
          have hbl2 : Hid (b.length = 16) := HB16.out b (List.mem_of_getElem? hb)
          have hbd : bs.getD q [] = b := by rw [List.getD_eq_getElem?_getD, hb]; rfl
          obtain ⟨x, hx⟩ : ∃ x, Hid (i / 2 ^ q = x) := ⟨_, rfl⟩
          have hx64 : x < 64 := by rw [← hx.out]; exact Nat.lt_of_le_of_lt (Nat.div_le_self _ _) hi64
          obtain ⟨z, hz⟩ : ∃ z, Hid (x / 2 = z) := ⟨_, rfl⟩
          have hz64 : z < 64 := by have := hz.out; omega
          have hsh : (i : Int) / 2 ^ q = (x : Int) := by rw [ediv_pow, hx.out]
          have hmin : min q 64 = q := by omega
          have hdv : (x : Int).tdiv 2 = (z : Int) := by rw [Int.tdiv_eq_ediv_of_nonneg (by omega)]; have := hz.out; omega
          obtain ⟨U2, hU2e⟩ : ∃ U2, Hid (SG.up i V bs (q + 1) = U2) := ⟨_, rfl⟩
          have hU2l : Hid (U2.length = 16) := by rw [← hU2e.out]; exact SG.up_length i V bs hVl.out (q + 1)
          have hU2s : Hid ((if x % 2 = 0 then SG.node (q + 1) z (SG.up i V bs q) b else SG.node (q + 1) z b (SG.up i V bs q)) = U2) := by
            have : (if x % 2 = 0 then SG.node (q + 1) z (SG.up i V bs q) b else SG.node (q + 1) z b (SG.up i V bs q)) = U2 := by
              rw [← hU2e.out, ← hbd, ← hz.out, ← hx.out]; rfl
            exact this
          obtain ⟨U, hU⟩ : ∃ U, Hid (SG.up i V bs q = U) := ⟨_, rfl⟩
          rw [hU.out] at hBv hUl hU2s
          have hrg := row_rangeO HB16.out (HB.out.next hbel) hb
          have hu := Tryd.underlying23
          have hzb : (Tryd.prog.info? 23).map (·.size) = some (b.map B8).length := by rw [List.length_map, hbl2.out]; exact Tryd.size44
          have hqm : (q : Int) < (m : Int) := by omega
          clear hb hbd hU
          go_wp2_with (first | (with_reducible refine wpList_load_mid (op := ⟨some 45, .load 23 (.tmp 44), _, _, _, _⟩) (by with_unfolding_all rfl) 23 (.tmp 44) (by with_unfolding_all rfl) gb (ob + q * 16) (by with_unfolding_all rfl) (b.map B8) (.array 16 5) hrg hu (by with_unfolding_all rfl) hzb ?_) | (with_reducible refine wpList_alloc (o := ⟨some 15, .alloc 23, _, _, _, _⟩) (by with_unfolding_all rfl) 23 (by with_unfolding_all rfl) (aggB (SM.zeros 16)) zero16 (by exact Tryd.zero44) (by with_unfolding_all rfl) ?_))
          intro gt wB hgt hsB hbB hBB
          have hlg : wr.heap.size ≤ gt := Nat.le_of_eq hgt.out.symm
          go_wp2_with (with_reducible refine wpList_put (o := ⟨none, .store 23 (.tmp 15) (.tmp 45), _, _, _, _⟩) (by with_unfolding_all rfl) 23 (.tmp 15) (.tmp 45) (by with_unfolding_all rfl) gt 0 (by with_unfolding_all rfl) (.agg (b.map B8).toArray) (by with_unfolding_all rfl) hBB (b.map B8) (by with_unfolding_all rfl) (by rw [List.length_map, hbl2.out]; exact Tryd.size44) (by with_unfolding_all (rw [List.length_map, hbl2.out]; exact Nat.le_refl _)) (B8_one _) ?_)
          intro wC huC hBC
          rw [splice_all _ _ (by rw [List.length_map, hbl2.out]; rfl)] at hBC
          have hbC : Below wr.heap.size wr wC := (hbB.mono hlg).trans (huC.below (B := wr.heap.size) hlg)
          have hBvC := hBv.next hbC hBv.lt
          have hBrC := hBr.next hbC hBr.lt
          have hbelC := below_join hbel hbC
          clear hBv hBr hbel hbB hBB huC hbC hgt hsB hrg hlg
          by_cases hev : x % 2 = 0
          · have htm : (x : Int).tmod 2 = 0 := by rw [Int.tmod_eq_emod_of_nonneg (by omega)]; omega
            have hU2 : Unit → SG.node (q + 1) z U b = U2 := fun _ => by rw [← hU2s.out, if_pos hev]
            clear hev hU2s
            go_wp2_with (first | (with_reducible refine wpList_get (o := ⟨some 56, .load 23 (.tmp 13), _, _, _, _⟩) (by with_unfolding_all rfl) 23 (.tmp 13) (by with_unfolding_all rfl) gv 0 (by with_unfolding_all rfl) hBvC (U.map B8) (cs_all _) (.array 16 5) (by exact Tryd.underlying23) (by with_unfolding_all rfl) (by rw [List.length_map, hUl.out]; exact Tryd.size44) ?_) | (with_reducible refine wpList_get (o := ⟨some 57, .load 23 (.tmp 15), _, _, _, _⟩) (by with_unfolding_all rfl) 23 (.tmp 15) (by with_unfolding_all rfl) gt 0 (by with_unfolding_all rfl) hBC (b.map B8) (cs_all _) (.array 16 5) (by exact Tryd.underlying23) (by with_unfolding_all rfl) (by rw [List.length_map, hbl2.out]; exact Tryd.size44) ?_))
            (with_reducible refine (sjoin_at (q + 1) z _ U b U2 _ (by omega) hU2 (by omega) (by omega) hUl.out hbl2.out (HY.next hbelC)).mono ?_)
            rintro e wE ⟨rfl, hbE⟩
            have hBvE := hBvC.next hbE hBvC.lt
            have hBrE := hBrC.next hbE hBrC.lt
            have hbelE := below_join hbelC hbE
            clear hBvC hBrC hbelC hbE hBC
            go_wp2_with (with_reducible refine wpList_put (o := ⟨none, .store 23 (.tmp 13) (.tmp 58), _, _, _, _⟩) (by with_unfolding_all rfl) 23 (.tmp 13) (.tmp 58) (by with_unfolding_all rfl) gv 0 (by with_unfolding_all rfl) (.agg (U2.map B8).toArray) (by with_unfolding_all rfl) hBvE (U2.map B8) (by with_unfolding_all rfl) (by rw [List.length_map, hU2l.out]; exact Tryd.size44) (by with_unfolding_all (rw [List.length_map, List.length_map, hU2l.out, hUl.out]; exact Nat.le_refl _)) (B8_one _) ?_)
            intro wF huF hBF
            rw [splice_all _ _ (by rw [List.length_map, List.length_map, hU2l.out, hUl.out])] at hBF
            have hBrF := hBrE.upd huF (by omega)
            have hbelF := hbelE.trans (huF.below (B := w.heap.size) hlev)
            clear hBvE hBrE hbelE huF
            go_wp2
            go_roundw
            case rel => exact ⟨q + 1, by rw [HBL.out]; omega, by go_num, by rw [hU2e.out]; exact hBF, hBrF, hbelF⟩
            case measure => simp [intOf]; omega
          · have htm : (x : Int).tmod 2 = 1 := by rw [Int.tmod_eq_emod_of_nonneg (by omega)]; omega
            have hU2 : Unit → SG.node (q + 1) z b U = U2 := fun _ => by rw [← hU2s.out, if_neg hev]
            clear hev hU2s
            go_wp2_with (first | (with_reducible refine wpList_get (o := ⟨some 63, .load 23 (.tmp 15), _, _, _, _⟩) (by with_unfolding_all rfl) 23 (.tmp 15) (by with_unfolding_all rfl) gt 0 (by with_unfolding_all rfl) hBC (b.map B8) (cs_all _) (.array 16 5) (by exact Tryd.underlying23) (by with_unfolding_all rfl) (by rw [List.length_map, hbl2.out]; exact Tryd.size44) ?_) | (with_reducible refine wpList_get (o := ⟨some 64, .load 23 (.tmp 13), _, _, _, _⟩) (by with_unfolding_all rfl) 23 (.tmp 13) (by with_unfolding_all rfl) gv 0 (by with_unfolding_all rfl) hBvC (U.map B8) (cs_all _) (.array 16 5) (by exact Tryd.underlying23) (by with_unfolding_all rfl) (by rw [List.length_map, hUl.out]; exact Tryd.size44) ?_))
            (with_reducible refine (sjoin_at (q + 1) z _ b U U2 _ (by omega) hU2 (by omega) (by omega) hbl2.out hUl.out (HY.next hbelC)).mono ?_)
            rintro e wE ⟨rfl, hbE⟩
            have hBvE := hBvC.next hbE hBvC.lt
            have hBrE := hBrC.next hbE hBrC.lt
            have hbelE := below_join hbelC hbE
            clear hBvC hBrC hbelC hbE hBC
            go_wp2_with (with_reducible refine wpList_put (o := ⟨none, .store 23 (.tmp 13) (.tmp 65), _, _, _, _⟩) (by with_unfolding_all rfl) 23 (.tmp 13) (.tmp 65) (by with_unfolding_all rfl) gv 0 (by with_unfolding_all rfl) (.agg (U2.map B8).toArray) (by with_unfolding_all rfl) hBvE (U2.map B8) (by with_unfolding_all rfl) (by rw [List.length_map, hU2l.out]; exact Tryd.size44) (by with_unfolding_all (rw [List.length_map, List.length_map, hU2l.out, hUl.out]; exact Nat.le_refl _)) (B8_one _) ?_)
            intro wF huF hBF
            rw [splice_all _ _ (by rw [List.length_map, List.length_map, hU2l.out, hUl.out])] at hBF
            have hBrF := hBrE.upd huF (by omega)
            have hbelF := hbelE.trans (huF.below (B := w.heap.size) hlev)
            clear hBvE hBrE hbelE huF
            go_wp2
            go_roundw
            case rel => exact ⟨q + 1, by rw [HBL.out]; omega, by go_num, by rw [hU2e.out]; exact hBF, hBrF, hbelF⟩
            case measure => simp [intOf]; omega
        · obtain rfl : q = m := by omega
          rw [hDu.out] at hBv hUl
          clear hlt hq
          go_wp2_with (first | (with_reducible refine wpList_get (o := ⟨some 67, .load 23 (.tmp 13), _, _, _, _⟩) (by with_unfolding_all rfl) 23 (.tmp 13) (by with_unfolding_all rfl) gv 0 (by with_unfolding_all rfl) hBv (D.map B8) (cs_all _) (.array 16 5) (by exact Tryd.underlying23) (by with_unfolding_all rfl) (by rw [List.length_map, hUl.out]; exact Tryd.size44) ?_) | (with_reducible refine wpList_put (o := ⟨none, .store 23 (.tmp 8) (.tmp 67), _, _, _, _⟩) (by with_unfolding_all rfl) 23 (.tmp 8) (.tmp 67) (by with_unfolding_all rfl) gr 0 (by with_unfolding_all rfl) (.agg (D.map B8).toArray) (by with_unfolding_all rfl) hBr (D.map B8) (by with_unfolding_all rfl) (by rw [List.length_map, hUl.out]; exact Tryd.size44) (by with_unfolding_all (rw [List.length_map, hUl.out]; exact Nat.le_refl _)) (B8_one _) ?_))
          intro wZ huZ hBZ
          rw [splice_all _ _ (by rw [List.length_map, hUl.out]; rfl)] at hBZ
          have hbelZ := hbel.trans (huZ.below (B := w.heap.size) hler)
          go_wp2
          refine bodyPost_ret (results_cell_row rfl _ _ gr _ _ _ _ rfl hBZ Tryd.underlying23 rfl (by rw [List.size_toArray, List.length_map, hUl.out]; exact Tryd.size44)) rfl ⟨rfl, hbelZ⟩
end Go.Proofs.YtkakiepaffhhjaaDoor

/-
  A signature of a one-time key leads back to its public key; what Verify answers, in plain words. Conditions: the index is one of the tree's.
-/
namespace Go.Proofs.YtkakiepaffhhjaaDoor

theorem flat_at : ∀ (L : List (List UInt8)), (∀ d ∈ L, d.length = 16) → ∀ (t : List UInt8) (k : Nat) (hk : k < L.length), (((L.flatMap fun d => d) ++ t).drop (16 * k)).take 16 = L[k]
  | d :: L, h, t, 0, _ => by
    have hd := h d (by simp)
    simp only [List.flatMap_cons, List.append_assoc, Nat.mul_zero, List.drop_zero, List.getElem_cons_zero]
    rw [List.take_append_of_le_length (by omega), List.take_of_length_le (by omega)]
  | d :: L, h, t, k + 1, hk => by
    have hd := h d (by simp)
    have ih := flat_at L (fun x hx => h x (by simp [hx])) t k (by simpa using hk)
    simp only [List.flatMap_cons, List.append_assoc, List.getElem_cons_succ]
    rw [List.drop_append, List.drop_eq_nil_of_le (by omega), List.nil_append, show 16 * (k + 1) - d.length = 16 * k by omega]
    exact ih
theorem SG.cut_flat (L : List (List UInt8)) (h : ∀ d ∈ L, d.length = 16) : SG.cut (L.flatMap fun d => d) L.length = L := by
  apply List.ext_getElem?
  intro k
  rcases Nat.lt_or_ge k L.length with hk | hk
  · have := flat_at L h [] k hk
    rw [List.append_nil] at this
    rw [SG.cut_at _ _ _ hk, List.getElem?_eq_getElem hk, this]
  · rw [List.getElem?_eq_none (by rw [SG.cut_length]; exact hk), List.getElem?_eq_none hk]
/-- The values of the chains, and those beside the way, of a signature. -/
def SG.parts (seed : List UInt8) (k : Nat) (ds : List Nat) : List (List UInt8) := (List.range 35).map fun j => SG.climb k j (SG.start seed k j) 0 (ds.getD j 0)
def SG.besides (seed : List UInt8) (k h : Nat) : List (List UInt8) := (List.range h).map fun q => SG.value seed q ((k / 2 ^ q) ^^^ 1)
theorem SG.parts_16 (seed : List UInt8) (k : Nat) (ds : List Nat) : ∀ d ∈ SG.parts seed k ds, d.length = 16 := by
  intro d hd
  unfold SG.parts at hd
  obtain ⟨j, _, rfl⟩ := List.mem_map.1 hd
  exact SG.climb_length _ _ _ _ (SG.start_length _ _ _) _
theorem SG.besides_16 (seed : List UInt8) (k h : Nat) : ∀ d ∈ SG.besides seed k h, d.length = 16 := by
  intro d hd
  unfold SG.besides at hd
  obtain ⟨j, _, rfl⟩ := List.mem_map.1 hd
  exact SG.value_length _ _ _
theorem SG.parts_length (seed : List UInt8) (k : Nat) (ds : List Nat) : (SG.parts seed k ds).length = 35 := by unfold SG.parts; simp
theorem SG.besides_length (seed : List UInt8) (k h : Nat) : (SG.besides seed k h).length = h := by unfold SG.besides; simp
theorem SG.tail_flat (seed : List UInt8) (k h : Nat) (ds : List Nat) : SG.chains seed k ds 35 ++ SG.beside seed k h = (SG.parts seed k ds ++ SG.besides seed k h).flatMap fun d => d := by
  unfold SG.chains SG.beside SG.parts SG.besides
  rw [List.flatMap_append, List.flatMap_map, List.flatMap_map]
theorem SG.cut_tail (seed : List UInt8) (k h : Nat) (ds : List Nat) : SG.cut (SG.chains seed k ds 35 ++ SG.beside seed k h) (35 + h) = SG.parts seed k ds ++ SG.besides seed k h := by
  rw [SG.tail_flat]
  have := SG.cut_flat (SG.parts seed k ds ++ SG.besides seed k h) (fun d hd => by
    rcases List.mem_append.1 hd with hd | hd
    · exact SG.parts_16 _ _ _ d hd
    · exact SG.besides_16 _ _ _ d hd)
  rwa [List.length_append, SG.parts_length, SG.besides_length] at this
theorem SG.ends_sig (seed : List UInt8) (k : Nat) (ds : List Nat) (hl : ds.length = 35) (h15 : ∀ d ∈ ds, d ≤ 15) : SG.ends k ds (SG.parts seed k ds) = SG.lasts seed k := by
  unfold SG.ends SG.lasts
  apply List.map_congr_left
  intro j hj
  have hj := List.mem_range.1 hj
  have e : (SG.parts seed k ds).getD j [] = SG.climb k j (SG.start seed k j) 0 (ds.getD j 0) := by
    unfold SG.parts
    rw [List.getD_eq_getElem?_getD, List.getElem?_map, List.getElem?_range hj]; rfl
  have hd : ds.getD j 0 ≤ 15 := by
    rw [List.getD_eq_getElem?_getD, List.getElem?_eq_getElem (by omega)]
    exact h15 _ (List.getElem_mem _)
  have := SG.climb_add k j (SG.start seed k j) 0 (ds.getD j 0) (15 - ds.getD j 0)
  rw [Nat.zero_add, show ds.getD j 0 + (15 - ds.getD j 0) = 15 by omega] at this
  show SG.climb k j ((SG.parts seed k ds).getD j []) (ds.getD j 0) (15 - ds.getD j 0) = SG.climb k j (SG.start seed k j) 0 15
  rw [e, this]
theorem SG.up_sig (seed : List UInt8) (k : Nat) (hk : k < 64) (bs : List (List UInt8)) (h : Nat) (hb : ∀ q, q < h → bs.getD q [] = SG.value seed q ((k / 2 ^ q) ^^^ 1)) : ∀ n, n ≤ h → SG.up k (SG.value seed 0 k) bs n = SG.value seed n (k / 2 ^ n)
  | 0, _ => by rw [Nat.pow_zero, Nat.div_one]; rfl
  | n + 1, hn => by
    have ih := SG.up_sig seed k hk bs h hb n (by omega)
    obtain ⟨x, hx⟩ : ∃ x, k / 2 ^ n = x := ⟨_, rfl⟩
    have hx64 : x < 64 := by rw [← hx]; exact Nat.lt_of_le_of_lt (Nat.div_le_self _ _) hk
    have e : k / 2 ^ (n + 1) = x / 2 := by rw [Nat.pow_succ, ← Nat.div_div_eq_div_mul, hx]
    have hq := hb n (by omega)
    rw [hx] at ih hq
    have hc := xor_cases x hx64
    have eu : SG.up k (SG.value seed 0 k) bs (n + 1) = if x % 2 = 0 then SG.node (n + 1) (x / 2) (SG.up k (SG.value seed 0 k) bs n) (bs.getD n []) else SG.node (n + 1) (x / 2) (bs.getD n []) (SG.up k (SG.value seed 0 k) bs n) := by rw [← hx]; rfl
    have ev : SG.value seed (n + 1) (x / 2) = SG.node (n + 1) (x / 2) (SG.value seed n (2 * (x / 2))) (SG.value seed n (2 * (x / 2) + 1)) := rfl
    rw [e, eu, ev, ih, hq]
    by_cases hp : x % 2 = 0
    · rw [if_pos hp, hc.2 hp, show 2 * (x / 2) = x by omega]
    · have h1 := hc.1 (by omega)
      rw [if_neg hp, show x ^^^ 1 = 2 * (x / 2) by omega, show 2 * (x / 2) + 1 = x by omega]
theorem SG.leaf_value (seed : List UInt8) (k : Nat) : SG.leaf (SG.lasts seed k) = SG.value seed 0 k := rfl
/-- What follows from a signature: the public key. -/
def SG.root (pub : List UInt8) (k : Nat) (msg rest : List UInt8) (h : Nat) : List UInt8 := SG.rebuilt k (SG.digits (SG.message pub (k : Int) msg)) ((SG.cut rest (35 + h)).take 35) ((SG.cut rest (35 + h)).drop 35)
theorem SG.message_length (pub : List UInt8) (i : Int) (msg : List UInt8) : (SG.message pub i msg).length = 16 := SG.hof_length _ _
theorem SG.rebuilt_length (k : Nat) (ds : List Nat) (vs bs : List (List UInt8)) : (SG.rebuilt k ds vs bs).length = 16 := SG.up_length _ _ _ (SG.hof_length _ _) _
theorem SG.root_length (pub : List UInt8) (k : Nat) (msg rest : List UInt8) (h : Nat) : (SG.root pub k msg rest h).length = 16 := SG.rebuilt_length _ _ _ _
theorem SG.root_tail (seed : List UInt8) (k h : Nat) (hk : k < 2 ^ h) (h6 : h ≤ 6) (pub msg : List UInt8) (ds : List Nat) (hds : SG.digits (SG.message pub (k : Int) msg) = ds) : SG.root pub k msg (SG.chains seed k ds 35 ++ SG.beside seed k h) h = SG.value seed h 0 := by
  have hk64 : k < 64 := Nat.lt_of_lt_of_le hk (by exact Nat.pow_le_pow_right (by omega) h6)
  unfold SG.root
  rw [SG.cut_tail, hds]
  have e1 : (SG.parts seed k ds ++ SG.besides seed k h).take 35 = SG.parts seed k ds := by
    rw [List.take_append_of_le_length (by rw [SG.parts_length]; exact Nat.le_refl _), List.take_of_length_le (by rw [SG.parts_length]; exact Nat.le_refl _)]
  have e2 : (SG.parts seed k ds ++ SG.besides seed k h).drop 35 = SG.besides seed k h := by
    rw [List.drop_append, List.drop_eq_nil_of_le (by rw [SG.parts_length]; exact Nat.le_refl _), SG.parts_length]; rfl
  rw [e1, e2]
  have hl := SG.message_length pub (k : Int) msg
  unfold SG.rebuilt
  rw [SG.ends_sig seed k ds (by rw [← hds]; exact SG.digits_length _ hl) (by rw [← hds]; exact SG.digits_15 _ hl), SG.leaf_value, SG.besides_length, SG.up_sig seed k hk64 _ h (fun q hq => by
    unfold SG.besides
    rw [List.getD_eq_getElem?_getD, List.getElem?_map, List.getElem?_range hq]; rfl) h (Nat.le_refl _), Nat.div_eq_of_lt hk]
/-- What Verify answers. -/
def vfy (pub : List UInt8) (h : Int) (msg sg : List UInt8) : Int × Int :=
  if okH h then
    if (WM.getI sg).2.2 = 0 then
      if okI2 h (WM.getI sg).1 then
        if sg.length < siz h (WM.getI sg).1 then (0, 5)
        else if siz h (WM.getI sg).1 < sg.length then (0, 6)
        else if SG.root pub (WM.getI sg).1.toNat msg (sg.drop (WM.getI sg).2.1) h.toNat = pub then ((WM.getI sg).1, 0) else (0, 8)
      else (0, 8)
    else (0, (WM.getI sg).2.2)
  else (0, 1)
end Go.Proofs.YtkakiepaffhhjaaDoor

/-
  Contract of the walk over the reference's GetInt. Conditions: at most 10^9 bytes.
-/
namespace Go.Proofs.YtkakiepaffhhjaaDoor
open Go.RowKit

theorem val_drop_le : ∀ (l : List UInt8) (j : Nat), WM.val (l.drop j) ≤ WM.val l
  | [], j => by simp
  | c :: r, 0 => by simp
  | c :: r, j + 1 => by
    have := val_drop_le r j
    simp only [List.drop_succ_cons, WM.val]; omega
theorem val_down (l : List UInt8) (j : Nat) (h : j < l.length) : WM.val (l.drop j) = WM.val (l.drop (j + 1)) * 128 + (l.getD j 0).toNat % 128 := by
  rw [List.drop_eq_getElem_cons h]
  simp only [WM.val, List.getD_eq_getElem?_getD, List.getElem?_eq_getElem h, Option.getD_some]
  omega
/-- k bytes that go on have been counted. -/
def UpRel (l : List UInt8) (i : Value) : Prop := ∃ k : Nat, k ≤ 10 ∧ k ≤ l.length ∧ i = .int .i64 k ∧ ∀ j, j < k → 128 ≤ (l.getD j 0).toNat
/-- The digits from j on have been added up. -/
def DownRel (l : List UInt8) (k : Nat) (z i : Value) : Prop := ∃ j : Nat, j ≤ k + 1 ∧ z = .int .u64 (WM.val ((l.take (k + 1)).drop j) : Nat) ∧ ((j = 0 ∧ i = .int .i64 (-1)) ∨ ∃ q : Nat, j = q + 1 ∧ i = .int .i64 q)
set_option maxRecDepth 100000 in
set_option maxHeartbeats 3200000 in
theorem refGetInt_any (A : Option Addr) (cap : Nat) (l : List UInt8) (w : World) (hl : l.length ≤ 1000000000) (hh : Holds w A (l.map B8)) :
    Calls Tryd.prog 43 #[.slice A l.length cap] w (GetPost l w) := by
  go_enter Tryd.func43, Tryd.ntmps43
  go_wp2_with fail
  go_loop [5] (UpRel l) (fun i => 10 - (intOf i).toNat)
  case atStart => exact ⟨0, by omega, by omega, rfl, fun j hj => by omega⟩
  case round =>
    obtain ⟨k, hk10, hkl, rfl, hj⟩ := hrel
    have HJ := Lib.hid hj
    clear hj
    by_cases hend : k = l.length
    · -- the bytes are at their end
      have hge : ¬ (k : Int) < (l.length : Int) := by omega
      by_cases h10 : k = 10
      · have b1 : ((k : Int) == 10) = true := beq_iff_eq.2 (by omega)
        have HG := Lib.hid (WM.getI_far (WM.lead_eq 10 10 l (h10 ▸ HJ.out) (by omega) (by omega) (.inl rfl)))
        clear hend h10
        go_wp2_with fail
        go_ret3
        exact GetPost.of HG.out rfl rfl rfl
      · have b1 : ((k : Int) == 10) = false := beq_eq_false_iff_ne.2 (by omega)
        have b2 : ((k : Int) == (l.length : Int)) = true := beq_iff_eq.2 (by omega)
        have HG := Lib.hid (WM.getI_short ((WM.lead_eq 10 k l HJ.out (by omega) (by omega) (.inr (.inl hend))).trans hend) (by omega))
        clear hend
        go_wp2_with fail
        go_ret3
        exact GetPost.of HG.out rfl rfl rfl
    · have hklt : k < l.length := by omega
      have b2 : ((k : Int) == (l.length : Int)) = false := beq_eq_false_iff_ne.2 (by omega)
      by_cases h10 : k = 10
      · have b1 : ((k : Int) == 10) = true := beq_iff_eq.2 (by omega)
        have HG := Lib.hid (WM.getI_far (WM.lead_eq 10 10 l (h10 ▸ HJ.out) (by omega) (by omega) (.inl rfl)))
        have h10' : 10 ≤ k := by omega
        clear h10
        go_wp2_with fail
        go_ret3
        exact GetPost.of HG.out rfl rfl rfl
      · have b1 : ((k : Int) == 10) = false := beq_eq_false_iff_ne.2 (by omega)
        have hk9 : k < 10 := by omega
        have HH := Lib.hid hh
        obtain ⟨ad, rfl, hcell⟩ := hh.byte hklt
        clear hh
        have hc255 : (l.getD k 0).toNat < 256 := (l.getD k 0).toNat_lt
        generalize hcd : l.getD k 0 = c at hcell hc255
        have HC := Lib.hid hcd
        clear hcd
        by_cases hc : c.toNat < 128
        · have HL := Lib.hid (WM.lead_eq 10 k l HJ.out (by omega) (by omega) (.inr (.inr (by rw [HC.out]; exact hc))))
          by_cases h9 : 9 ≤ k
          · have q9 : ((k : Int) == 9) = true := beq_iff_eq.2 (by omega)
            by_cases hg : 1 < c.toNat
            · have qz : ((c.toNat : Int) == 0) = false := beq_eq_false_iff_ne.2 (by omega)
              have HG := Lib.hid (WM.getI_bad HL.out (by omega) hklt (by rw [HC.out]; simp [WM.bad]; omega))
              go_wp2_with fail
              go_ret3
              exact GetPost.of HG.out rfl rfl rfl
            · by_cases hz : c.toNat < 1
              · have qz : ((c.toNat : Int) == 0) = true := beq_iff_eq.2 (by omega)
                have HG := Lib.hid (WM.getI_bad HL.out (by omega) hklt (by rw [HC.out]; simp [WM.bad]; omega))
                go_wp2_with fail
                go_ret3
                exact GetPost.of HG.out rfl rfl rfl
              · have qz : ((c.toNat : Int) == 0) = false := beq_eq_false_iff_ne.2 (by omega)
                have hbd : WM.bad k (l.getD k 0) = false := by rw [HC.out]; simp [WM.bad]; omega
                have HG := Lib.hid (WM.getI_good HL.out (by omega) hklt hbd)
                have HV := Lib.hid (WM.val_last_lt (by omega) hklt (by rw [HC.out]; exact hc) hbd)
                clear hbd
                go_wp2_with fail
                go_loop [6, 7] (DownRel l k) (fun _ i => (intOf i + 1).toNat)
                case atStart => exact ⟨k + 1, by omega, by rw [List.drop_of_length_le (by simp; omega)]; rfl, .inr ⟨k, rfl, rfl⟩⟩
                case round =>
                  obtain ⟨j, hj, rfl, hi⟩ := hrel
                  have hv64 : WM.val ((l.take (k + 1)).drop j) < 18446744073709551616 := Nat.lt_of_le_of_lt (val_drop_le _ _) HV.out.2
                  rcases hi with ⟨rfl, rfl⟩ | ⟨q, rfl, rfl⟩
                  · have e0 : (l.take (k + 1)).drop 0 = l.take (k + 1) := List.drop_zero
                    rw [e0] at hv64 ⊢
                    generalize hZ : WM.val (l.take (k + 1)) = Z at *
                    clear hZ e0
                    by_cases hp : Z % 2 = 1
                    · have z1 : (((Z : Int) % 2) == 1) = true := beq_iff_eq.2 (by omega)
                      have HU : Hid (WM.unf Z = -1 - ((Z : Int) / 2)) := Lib.hid (by unfold WM.unf; rw [if_pos hp]; omega)
                      clear hp
                      go_wp2_with fail
                      go_ret3
                      exact GetPost.of HG.out (by rw [HU.out]; rfl) (by go_num) rfl
                    · have z1 : (((Z : Int) % 2) == 1) = false := beq_eq_false_iff_ne.2 (by omega)
                      have HU : Hid (WM.unf Z = ((Z : Int) / 2)) := Lib.hid (by unfold WM.unf; rw [if_neg hp]; omega)
                      clear hp
                      go_wp2_with fail
                      go_ret3
                      exact GetPost.of HG.out (by rw [HU.out]; rfl) (by go_num) rfl
                  · have hql : q < (l.take (k + 1)).length := by simp; omega
                    have hd := val_down (l.take (k + 1)) q hql
                    have hv2 : WM.val ((l.take (k + 1)).drop q) < 18446744073709551616 := Nat.lt_of_le_of_lt (val_drop_le _ _) HV.out.2
                    have eg : (l.take (k + 1)).getD q 0 = l.getD q 0 := by simp [show q < k + 1 by omega]
                    rw [eg] at hd
                    obtain ⟨ad2, ea, hcq⟩ := HH.out.byte (k := q) (by omega)
                    cases ea
                    have hq255 : (l.getD q 0).toNat < 256 := (l.getD q 0).toNat_lt
                    generalize hcq2 : l.getD q 0 = cq at hcq hq255 hd
                    clear hcq2 eg
                    generalize hY : WM.val ((l.take (k + 1)).drop (q + 1)) = Y at *
                    generalize hX : WM.val ((l.take (k + 1)).drop q) = X at *
                    have HX := Lib.hid hX
                    have HD := Lib.hid hd
                    have hYX : Y * 128 + cq.toNat % 128 < 18446744073709551616 := by omega
                    have hq0 : (0 : Int) ≤ (q : Int) := by omega
                    clear hY hX hd
                    go_wp2_with fail
                    go_round
                    case rel =>
                      refine ⟨q, by omega, by rw [HX.out, HD.out]; go_num, ?_⟩
                      cases q with
                      | zero => exact .inl ⟨rfl, rfl⟩
                      | succ q => exact .inr ⟨q, rfl, by congr 1; omega⟩
                    case measure => simp [intOf]
          · have q9 : ((k : Int) == 9) = false := beq_eq_false_iff_ne.2 (by omega)
            by_cases h0 : 0 < k
            · by_cases hz : c.toNat < 1
              · have qz : ((c.toNat : Int) == 0) = true := beq_iff_eq.2 (by omega)
                have HG := Lib.hid (WM.getI_bad HL.out (by omega) hklt (by rw [HC.out]; simp [WM.bad]; omega))
                go_wp2_with fail
                go_ret3
                exact GetPost.of HG.out rfl rfl rfl
              · have qz : ((c.toNat : Int) == 0) = false := beq_eq_false_iff_ne.2 (by omega)
                have hbd : WM.bad k (l.getD k 0) = false := by rw [HC.out]; simp [WM.bad]; omega
                have HG := Lib.hid (WM.getI_good HL.out (by omega) hklt hbd)
                have HV := Lib.hid (WM.val_last_lt (by omega) hklt (by rw [HC.out]; exact hc) hbd)
                clear hbd
                go_wp2_with fail
                go_loop [6, 7] (DownRel l k) (fun _ i => (intOf i + 1).toNat)
                case atStart => exact ⟨k + 1, by omega, by rw [List.drop_of_length_le (by simp; omega)]; rfl, .inr ⟨k, rfl, rfl⟩⟩
                case round =>
                  obtain ⟨j, hj, rfl, hi⟩ := hrel
                  have hv64 : WM.val ((l.take (k + 1)).drop j) < 18446744073709551616 := Nat.lt_of_le_of_lt (val_drop_le _ _) HV.out.2
                  rcases hi with ⟨rfl, rfl⟩ | ⟨q, rfl, rfl⟩
                  · have e0 : (l.take (k + 1)).drop 0 = l.take (k + 1) := List.drop_zero
                    rw [e0] at hv64 ⊢
                    generalize hZ : WM.val (l.take (k + 1)) = Z at *
                    clear hZ e0
                    by_cases hp : Z % 2 = 1
                    · have z1 : (((Z : Int) % 2) == 1) = true := beq_iff_eq.2 (by omega)
                      have HU : Hid (WM.unf Z = -1 - ((Z : Int) / 2)) := Lib.hid (by unfold WM.unf; rw [if_pos hp]; omega)
                      clear hp
                      go_wp2_with fail
                      go_ret3
                      exact GetPost.of HG.out (by rw [HU.out]; rfl) (by go_num) rfl
                    · have z1 : (((Z : Int) % 2) == 1) = false := beq_eq_false_iff_ne.2 (by omega)
                      have HU : Hid (WM.unf Z = ((Z : Int) / 2)) := Lib.hid (by unfold WM.unf; rw [if_neg hp]; omega)
                      clear hp
                      go_wp2_with fail
                      go_ret3
                      exact GetPost.of HG.out (by rw [HU.out]; rfl) (by go_num) rfl
                  · have hql : q < (l.take (k + 1)).length := by simp; omega
                    have hd := val_down (l.take (k + 1)) q hql
                    have hv2 : WM.val ((l.take (k + 1)).drop q) < 18446744073709551616 := Nat.lt_of_le_of_lt (val_drop_le _ _) HV.out.2
                    have eg : (l.take (k + 1)).getD q 0 = l.getD q 0 := by simp [show q < k + 1 by omega]
                    rw [eg] at hd
                    obtain ⟨ad2, ea, hcq⟩ := HH.out.byte (k := q) (by omega)
                    cases ea
                    have hq255 : (l.getD q 0).toNat < 256 := (l.getD q 0).toNat_lt
                    generalize hcq2 : l.getD q 0 = cq at hcq hq255 hd
                    clear hcq2 eg
                    generalize hY : WM.val ((l.take (k + 1)).drop (q + 1)) = Y at *
                    generalize hX : WM.val ((l.take (k + 1)).drop q) = X at *
                    have HX := Lib.hid hX
                    have HD := Lib.hid hd
                    have hYX : Y * 128 + cq.toNat % 128 < 18446744073709551616 := by omega
                    have hq0 : (0 : Int) ≤ (q : Int) := by omega
                    clear hY hX hd
                    go_wp2_with fail
                    go_round
                    case rel =>
                      refine ⟨q, by omega, by rw [HX.out, HD.out]; go_num, ?_⟩
                      cases q with
                      | zero => exact .inl ⟨rfl, rfl⟩
                      | succ q => exact .inr ⟨q, rfl, by congr 1; omega⟩
                    case measure => simp [intOf]
            · have hk0 : k ≤ 0 := by omega
              have hbd : WM.bad k (l.getD k 0) = false := by rw [HC.out]; simp [WM.bad]; omega
              have HG := Lib.hid (WM.getI_good HL.out (by omega) hklt hbd)
              have HV := Lib.hid (WM.val_last_lt (by omega) hklt (by rw [HC.out]; exact hc) hbd)
              clear hbd
              go_wp2_with fail
              go_loop [6, 7] (DownRel l k) (fun _ i => (intOf i + 1).toNat)
              case atStart => exact ⟨k + 1, by omega, by rw [List.drop_of_length_le (by simp; omega)]; rfl, .inr ⟨k, rfl, rfl⟩⟩
              case round =>
                obtain ⟨j, hj, rfl, hi⟩ := hrel
                have hv64 : WM.val ((l.take (k + 1)).drop j) < 18446744073709551616 := Nat.lt_of_le_of_lt (val_drop_le _ _) HV.out.2
                rcases hi with ⟨rfl, rfl⟩ | ⟨q, rfl, rfl⟩
                · have e0 : (l.take (k + 1)).drop 0 = l.take (k + 1) := List.drop_zero
                  rw [e0] at hv64 ⊢
                  generalize hZ : WM.val (l.take (k + 1)) = Z at *
                  clear hZ e0
                  by_cases hp : Z % 2 = 1
                  · have z1 : (((Z : Int) % 2) == 1) = true := beq_iff_eq.2 (by omega)
                    have HU : Hid (WM.unf Z = -1 - ((Z : Int) / 2)) := Lib.hid (by unfold WM.unf; rw [if_pos hp]; omega)
                    clear hp
                    go_wp2_with fail
                    go_ret3
                    exact GetPost.of HG.out (by rw [HU.out]; rfl) (by go_num) rfl
                  · have z1 : (((Z : Int) % 2) == 1) = false := beq_eq_false_iff_ne.2 (by omega)
                    have HU : Hid (WM.unf Z = ((Z : Int) / 2)) := Lib.hid (by unfold WM.unf; rw [if_neg hp]; omega)
                    clear hp
                    go_wp2_with fail
                    go_ret3
                    exact GetPost.of HG.out (by rw [HU.out]; rfl) (by go_num) rfl
                · have hql : q < (l.take (k + 1)).length := by simp; omega
                  have hd := val_down (l.take (k + 1)) q hql
                  have hv2 : WM.val ((l.take (k + 1)).drop q) < 18446744073709551616 := Nat.lt_of_le_of_lt (val_drop_le _ _) HV.out.2
                  have eg : (l.take (k + 1)).getD q 0 = l.getD q 0 := by simp [show q < k + 1 by omega]
                  rw [eg] at hd
                  obtain ⟨ad2, ea, hcq⟩ := HH.out.byte (k := q) (by omega)
                  cases ea
                  have hq255 : (l.getD q 0).toNat < 256 := (l.getD q 0).toNat_lt
                  generalize hcq2 : l.getD q 0 = cq at hcq hq255 hd
                  clear hcq2 eg
                  generalize hY : WM.val ((l.take (k + 1)).drop (q + 1)) = Y at *
                  generalize hX : WM.val ((l.take (k + 1)).drop q) = X at *
                  have HX := Lib.hid hX
                  have HD := Lib.hid hd
                  have hYX : Y * 128 + cq.toNat % 128 < 18446744073709551616 := by omega
                  have hq0 : (0 : Int) ≤ (q : Int) := by omega
                  clear hY hX hd
                  go_wp2_with fail
                  go_round
                  case rel =>
                    refine ⟨q, by omega, by rw [HX.out, HD.out]; go_num, ?_⟩
                    cases q with
                    | zero => exact .inl ⟨rfl, rfl⟩
                    | succ q => exact .inr ⟨q, rfl, by congr 1; omega⟩
                  case measure => simp [intOf]
        · go_wp2_with fail
          go_round
          case rel =>
            refine ⟨k + 1, by omega, by omega, by go_num, fun j hj => ?_⟩
            by_cases hjk : j = k
            · rw [hjk, HC.out]; omega
            · exact HJ.out j (by omega)
          case measure => simp [intOf]; omega
end Go.Proofs.YtkakiepaffhhjaaDoor

/-
  Contract of the walk over sign.Verify. Conditions: a message of at most 10^6 bytes; a signature of at most 10^6 bytes; the tables read as the document has them.
-/
namespace Go.Proofs.YtkakiepaffhhjaaDoor
open Go.RowKit

theorem run_neqDig (D E : List UInt8) (hD : D.length = 16) (hE : E.length = 16) (w : World) : (binOp .neq 23 (.agg (D.map B8).toArray) (.agg (E.map B8).toArray)).run Tryd.prog w = .ok (.bool (!decide (D = E))) w := by
  obtain ⟨i0, hi, _, _, _⟩ := info_parts Tryd.info8
  rw [run_neq_struct, run_equalIn_array (P := Tryd.prog) (w := w) 9999 _ _ Tryd.underlying23 hi, Tryd.cells5, eqItems_dec w D E (by omega) _ (fun i h => by have := List.mem_range.1 h; omega), ← hD, all_range_eq D E (by omega)]
  rfl
theorem getInt_at (A : Option Addr) (cap m : Nat) (l : List UInt8) (n : Int) (u : Nat) (x : Int) (w : World) (hg : Unit → WM.getI l = (n, u, x)) (hm : m = l.length) (hl : l.length ≤ 1000000000) (hh : Holds w A (l.map B8)) :
    Calls Tryd.prog 40 #[.slice A m cap] w fun e w' => e = .returned (.tuple #[.int .i64 n, .int .i64 u, .int .i64 x]) ∧ w = w' := by
  subst hm
  refine (getInt_any A cap l w hl hh).mono fun e w' h => ?_
  obtain ⟨rfl, rfl⟩ := h
  rw [hg ()]
  exact ⟨rfl, rfl⟩
theorem rgetInt_at (A : Option Addr) (cap m : Nat) (l : List UInt8) (n : Int) (u : Nat) (x : Int) (w : World) (hg : Unit → WM.getI l = (n, u, x)) (hm : m = l.length) (hl : l.length ≤ 1000000000) (hh : Holds w A (l.map B8)) :
    Calls Tryd.prog 43 #[.slice A m cap] w fun e w' => e = .returned (.tuple #[.int .i64 n, .int .i64 u, .int .i64 x]) ∧ w = w' := by
  subst hm
  refine (refGetInt_any A cap l w hl hh).mono fun e w' h => ?_
  obtain ⟨rfl, rfl⟩ := h
  rw [hg ()]
  exact ⟨rfl, rfl⟩
def off35 (n : Nat) : Nat := if n = 35 then 0 else 560
theorem Tryd.elemDs : Tryd.prog.elem 55 = 23 := by kernel_rfl
theorem Tryd.unDs : Tryd.prog.underlying 55 = some (.slice (Tryd.prog.elem 55)) := by rw [Tryd.elemDs]; exact Tryd.underlying55
theorem sizeOf_dig (w : World) : (sizeOf 23).run Tryd.prog w = .ok 16 w := by kernel_rfl
theorem run_hi35 (g n : Nat) (h : 35 ≤ n) (w : World) : (Instr.slice 55 (.slice (some ⟨g, 0, none⟩) n n) none (some (.int .i64 35)) none).run Tryd.prog w = .ok (.slice (some ⟨g, 0, none⟩) 35 n) w := by
  rw [run_slice_h (P := Tryd.prog) w 55 (some ⟨g, 0, none⟩) n n Tryd.unDs .i64 35 (by omega) (by omega)]
  rw [Tryd.elemDs, sizeOf_dig]
  simp only [Result.andThen, sliced]
  rw [if_neg (by omega)]
  rfl
theorem run_lo35 (g n : Nat) (h : 35 ≤ n) (w : World) : (Instr.slice 55 (.slice (some ⟨g, 0, none⟩) n n) (some (.int .i64 35)) none none).run Tryd.prog w = .ok (.slice (some ⟨g, off35 n, none⟩) (n - 35) (n - 35)) w := by
  rw [run_slice_l (P := Tryd.prog) w 55 (some ⟨g, 0, none⟩) n n Tryd.unDs .i64 35 (by omega) (by omega)]
  rw [Tryd.elemDs, sizeOf_dig]
  simp only [Result.andThen, sliced, off35]
  by_cases h35 : n = 35
  · subst h35
    rfl
  · rw [if_neg (by omega), if_neg h35]
    rfl
theorem run_hiAt35 (g n : Nat) (h : 35 ≤ n) (w : World) : (Instr.sliceAt 55 (.slice (some ⟨g, 0, none⟩) n n) none (some (.int .i64 35)) none).run Tryd.prog w = .ok (.slice (some ⟨g, 0, none⟩) 35 n) w := by
  rw [run_sliceAt_slice (P := Tryd.prog) w 55 _ _ _ _ Tryd.unDs]; exact run_hi35 g n h w
theorem run_loAt35 (g n : Nat) (h : 35 ≤ n) (w : World) : (Instr.sliceAt 55 (.slice (some ⟨g, 0, none⟩) n n) (some (.int .i64 35)) none none).run Tryd.prog w = .ok (.slice (some ⟨g, off35 n, none⟩) (n - 35) (n - 35)) w := by
  rw [run_sliceAt_slice (P := Tryd.prog) w 55 _ _ _ _ Tryd.unDs]; exact run_lo35 g n h w
theorem rebuilt_at (i ga gb ob ca cb m : Nat) (ds : List Nat) (vs bs : List (List UInt8)) (D : List UInt8) (w : World) (hD : Unit → SG.rebuilt i ds vs bs = D) (hi64 : i < 64) (hdl : ds.length = 35) (hd15 : ∀ d ∈ ds, d ≤ 15) (hvl : vs.length = 35) (hv16 : ∀ d ∈ vs, d.length = 16) (hbl : bs.length = m) (hm6 : m ≤ 6) (hb16 : ∀ d ∈ bs, d.length = 16)
    (hA : Holds w (some ⟨ga, 0, none⟩) (digCells vs)) (hB : Holds w (some ⟨gb, ob, none⟩) (digCells bs)) (HY : Lay w) (cs : Array Value) (hcs : cs = (ds.map N8).toArray) :
    Calls Tryd.prog 42 #[.int .i64 i, .agg cs, .slice (some ⟨ga, 0, none⟩) 35 ca, .slice (some ⟨gb, ob, none⟩) m cb] w fun e w' => e = .returned (.agg (D.map B8).toArray) ∧ Below w.heap.size w w' := by
  subst hcs
  exact rebuilt_any i ga gb ob ca cb m ds vs bs D w hD hi64 hdl hd15 hvl hv16 hbl hm6 hb16 hA hB HY
theorem digCells_append (xs ys : List (List UInt8)) : digCells (xs ++ ys) = digCells xs ++ digCells ys := by unfold digCells; rw [List.flatMap_append]
theorem holds_pre {w : World} {A : Option Addr} {xs ys : List Value} (h : Holds w A (xs ++ ys)) : Holds w A xs := fun k u hu => h k u (by
  have hk : k < xs.length := (List.getElem?_eq_some_iff.1 hu).1
  rw [List.getElem?_append_left hk]; exact hu)
theorem holds_off35 {w : World} {g n : Nat} {xs ys : List (List UInt8)} (h : Holds w (some ⟨g, 0, none⟩) (digCells (xs ++ ys))) (hx : xs.length = 35) (hx16 : ∀ d ∈ xs, d.length = 16) (hn : n = 35 + ys.length) : Holds w (some ⟨g, off35 n, none⟩) (digCells ys) := by
  by_cases hy : ys = []
  · subst hy
    intro k u hu
    cases hu
  · have hyl : ys.length ≠ 0 := fun e => hy (List.length_eq_zero_iff.1 e)
    have ho : off35 n = 560 := by unfold off35; rw [if_neg (by omega)]
    rw [ho]
    rw [digCells_append] at h
    have hxl := digCells_length xs hx16
    intro k u hu
    obtain ⟨ad, e, hc⟩ := h (560 + k) u (by rw [List.getElem?_append_right (by omega), hxl, hx]; simpa using hu)
    cases e
    refine ⟨_, rfl, ?_⟩
    rw [addr_mid] at hc ⊢
    simpa using hc
set_option maxRecDepth 100000 in
set_option maxHeartbeats 1600000 in
theorem sverify_deep (pub ml : List UInt8) (m k u : Nat) (t : ByteArray) (D : List UInt8) (w : World) (hg : Unit → WM.getI t.data.toList = ((k : Int), u, 0)) (hD : Unit → SG.root pub k ml (t.data.toList.drop u) m = D) (hm6 : m ≤ 6) (hk : okI2 (m : Int) (k : Int) = true) (hk64 : k < 64) (hz : siz (m : Int) (k : Int) = t.size) (hu : t.size - u = 16 * (35 + m)) (hul : u ≤ t.size)
    (hp : pub.length = 16) (hm : ml.length ≤ 1000000) (hs : t.size ≤ 1000000) (HY : Lay w) :
    Calls Tryd.prog 22 #[.agg (pub.map B8).toArray, .int .i64 m, .string ⟨ml.toArray⟩, .string t] w fun e w' => e = .returned (.tuple #[.int .i64 (if D = pub then (k : Int) else 0), .int .i64 (if D = pub then (0 : Int) else 8)]) ∧ Below w.heap.size w w' := by
  have hok : okH (m : Int) = true := by unfold okH; exact decide_eq_true ⟨by omega, by omega⟩
  have HP := Lib.hid hp
  have HG := hg
  have hkI : WM.okI (k : Int) := ⟨by omega, by omega⟩
  obtain ⟨M, hM⟩ : ∃ M, (Unit → SG.message pub (k : Int) ml = M) := ⟨_, fun _ => rfl⟩
  have hMl : Hid (M.length = 16) := by rw [← hM ()]; exact SG.message_length _ _ _
  obtain ⟨ds, hds⟩ : ∃ ds, Hid (SG.digits M = ds) := ⟨_, rfl⟩
  have hdl : Hid (ds.length = 35) := by rw [← hds.out]; exact SG.digits_length _ hMl.out
  have hd15 : Hid (∀ d ∈ ds, d ≤ 15) := by rw [← hds.out]; exact SG.digits_15 _ hMl.out
  have htl : t.data.toList.length = t.size := bytes_size t
  obtain ⟨L, hL⟩ : ∃ L, (Unit → SG.cut (t.extract u t.size).data.toList (35 + m) = L) := ⟨_, fun _ => rfl⟩
  have hdr : (t.extract u t.size).data.toList = t.data.toList.drop u := drop_extract _ _
  have hes : (t.extract u t.size).size = 16 * (35 + m) := by rw [← bytes_size, hdr, List.length_drop, htl]; exact hu
  have hLl : Hid (L.length = 35 + m) := by rw [← hL ()]; exact SG.cut_length _ _
  have hL16 : Hid (∀ d ∈ L, d.length = 16) := by rw [← hL ()]; exact SG.cut_16 _ _ (by rw [bytes_size]; exact hes)
  have hDr : Unit → SG.rebuilt k ds (L.take 35) (L.drop 35) = D := fun _ => by
    rw [← hD ()]; unfold SG.root; rw [hM (), hds.out, ← hdr, hL ()]
  have hDl : Hid (D.length = 16) := by rw [← hD ()]; exact SG.root_length _ _ _ _ _
  have hvl : Hid ((L.take 35).length = 35) := by
    have : (L.take 35).length = 35 := by rw [List.length_take, hLl.out]; omega
    exact this
  have hbl : Hid ((L.drop 35).length = 35 + m - 35) := by
    have : (L.drop 35).length = 35 + m - 35 := by rw [List.length_drop, hLl.out]
    exact this
  have hv16 : Hid (∀ d ∈ L.take 35, d.length = 16) := by
    have : ∀ d ∈ L.take 35, d.length = 16 := fun d hd => hL16.out d (List.mem_of_mem_take hd)
    exact this
  have hb16 : Hid (∀ d ∈ L.drop 35, d.length = 16) := by
    have : ∀ d ∈ L.drop 35, d.length = 16 := fun d hd => hL16.out d (List.mem_of_mem_drop hd)
    exact this
  have hLs : Hid (L.take 35 ++ L.drop 35 = L) := by
    have : L.take 35 ++ L.drop 35 = L := List.take_append_drop 35 L
    exact this
  have HZ := Lib.hid hz
  have HES := Lib.hid hes
  have HTL := Lib.hid htl
  have hui : (u : Int) ≤ (t.size : Int) := by omega
  have hn35 : 35 ≤ 35 + m := by omega
  obtain ⟨n, hn⟩ : ∃ n, Hid (35 + m = n) := ⟨_, rfl⟩
  have hmn : n - 35 ≤ 6 := by have := hn.out; omega
  rw [hn.out] at hn35 hLl hL hbl hes HES
  have hc1 := run_hi35
  have hc2 := run_lo35
  have hc3 := run_hiAt35
  have hc4 := run_loAt35
  have hneq := run_neqDig D pub hDl.out hp
  clear hD hg hp hz hdr hes htl hu hc1 hc2 hc3 hc4
  go_enter Tryd.func22, Tryd.ntmps22
  go_wp2_with (with_reducible refine wpList_box (o := ⟨some 4, .box 23 (.tmp 0), _, _, _, _⟩) ?g1 23 (.tmp 0) ?o1 (.agg (pub.map B8).toArray) (pub.map B8) ?x1 ?c1 ?_)
  try (case g1 => rfl)
  try (case o1 => rfl)
  try (case x1 => rfl)
  try (case c1 => rfl)
  intro gp w1 hgp hs1 hb1 hB1
  have hle : w.heap.size ≤ gp := Nat.le_of_eq hgp.out.symm
  have hbel1 : Below w.heap.size w w1 := hb1.mono hle
  clear hgp hs1 hb1 hle
  go_wp2_with fail
  (with_reducible refine (permitted_to _ true _ hok).mono ?_)
  rintro e w' ⟨rfl, rfl⟩
  go_wp2_with (with_reducible refine wpList_bytesOf (o := ⟨some 20, .convert 9 43 (.tmp 19), _, _, _, _⟩) ?g2 (.tmp 19) ?o2 t ?x2 ?_)
  try (case x2 => rfl)
  try (case g2 => rfl)
  try (case o2 => rfl)
  intro A cap w2 hb2 hh2
  have hB2 := hB1.next hb2 hB1.lt
  have hbel2 := below_join hbel1 hb2
  clear hB1 hbel1 hb2
  go_wp2_with fail
  (with_reducible refine (getInt_at A cap _ t.data.toList (k : Int) u 0 _ HG HTL.out.symm (by have := HTL.out; omega) hh2).mono ?_)
  rintro e w' ⟨rfl, rfl⟩
  clear hh2
  go_wp2_with fail
  (with_reducible refine (has_any _ _ true _ hk).mono ?_)
  rintro e w' ⟨rfl, rfl⟩
  go_wp2_with fail
  (with_reducible refine (size_any _ _ t.size _ HZ.out).mono ?_)
  rintro e w3 ⟨rfl, hb3⟩
  have hB3 := hB2.next hb3 hB2.lt
  have hbel3 := below_join hbel2 hb3
  clear hB2 hbel2 hb3
  go_wp2_with fail
  (with_reducible refine (size_any _ _ t.size _ HZ.out).mono ?_)
  rintro e w4 ⟨rfl, hb4⟩
  have hB4 := hB3.next hb4 hB3.lt
  have hbel4 := below_join hbel3 hb4
  clear hB3 hbel3 hb4
  go_wp2_with fail
  (with_reducible refine (cuts_any _ n L _ hL HES.out (by omega)).mono ?_)
  rintro e w5 ⟨g, rfl, hown, hb5⟩
  obtain ⟨A5, c5, hv5, hc5, hh5⟩ := holds_own hown
  cases hv5
  have hB5 := hB4.next hb5 hB4.lt
  have hbel5 := below_join hbel4 hb5
  clear hB4 hbel4 hb5 hown
  go_wp2_with (with_reducible refine wpList_get (o := ⟨some 52, .load 23 (.tmp 4), _, _, _, _⟩) (by with_unfolding_all rfl) 23 (.tmp 4) (by with_unfolding_all rfl) gp 0 (by with_unfolding_all rfl) hB5 (pub.map B8) (cs_all _) (.array 16 5) (by exact Tryd.underlying23) (by with_unfolding_all rfl) (by rw [List.length_map, HP.out]; exact Tryd.size44) ?_)
  (with_reducible refine (smessage_any pub (k : Int) ml M _ hM HP.out hkI hm (HY.next hbel5)).mono ?_)
  rintro e w6 ⟨rfl, hb6⟩
  have hB6 := hB5.next hb6 hB5.lt
  have hh6 := hh5.next hb6
  have hbel6 := below_join hbel5 hb6
  clear hB5 hbel5 hb6 hh5
  go_wp2_with fail
  (with_reducible refine (sdigits_any M _ hMl.out).mono ?_)
  rintro e w7 ⟨rfl, hb7⟩
  rw [hds.out]
  have hB7 := hB6.next hb7 hB6.lt
  have hh7 := hh6.next hb7
  have hbel7 := below_join hbel6 hb7
  clear hB6 hbel6 hb7 hh6
  have hNl : Hid ((ds.map N8).length = 35) := by
    have : (ds.map N8).length = 35 := by rw [List.length_map]; exact hdl.out
    exact this
  go_wp2_with (with_reducible refine wpList_alloc (o := ⟨some 14, .alloc 25, _, _, _, _⟩) (by with_unfolding_all rfl) 25 (by with_unfolding_all rfl) (.agg ((List.replicate 35 0).map N8).toArray) ((List.replicate 35 0).map N8) (by exact Tryd.zero51) (by with_unfolding_all rfl) ?_)
  intro gd w8 hgd hs8 hb8 hB8
  have hlg : w7.heap.size ≤ gd := Nat.le_of_eq hgd.out.symm
  go_wp2_with (with_reducible refine wpList_put (o := ⟨none, .store 25 (.tmp 14) (.tmp 56), _, _, _, _⟩) (by with_unfolding_all rfl) 25 (.tmp 14) (.tmp 56) (by with_unfolding_all rfl) gd 0 (by with_unfolding_all rfl) (.agg (ds.map N8).toArray) (by with_unfolding_all rfl) hB8 (ds.map N8) (by with_unfolding_all rfl) (by rw [hNl.out]; exact Tryd.size51) (by with_unfolding_all (rw [hNl.out]; exact Nat.le_refl _)) (N8_one _) ?_)
  intro w9 hu9 hB9
  rw [splice_all _ _ (by rw [hNl.out]; rfl)] at hB9
  have hb9 : Below w7.heap.size w7 w9 := (hb8.mono hlg).trans (hu9.below (B := w7.heap.size) hlg)
  have hBp9 := hB7.next hb9 hB7.lt
  have hh9 := hh7.next hb9
  have hbel9 := below_join hbel7 hb9
  clear hB7 hbel7 hb9 hh7 hB8 hu9 hb8 hgd hs8 hlg
  have hu := Tryd.underlying23
  have hu35 := Tryd.underlying25
  have hzp : (Tryd.prog.info? 23).map (·.size) = some (pub.map B8).length := by rw [List.length_map, HP.out]; exact Tryd.size44
  have hz35 : (Tryd.prog.info? 25).map (·.size) = some (ds.map N8).length := by rw [hNl.out]; exact Tryd.size51
  have hS : ∀ w', Below w9.heap.size w9 w' → (Below w.heap.size w w' ∧ w'.rangeAt gd 0 (ds.map N8) ∧ w'.rangeAt gp 0 (pub.map B8)) := fun w' h => ⟨below_join hbel9 h, blk_range (hB9.next h hB9.lt), blk_range (hBp9.next h hBp9.lt)⟩
  have hd9 := below_drew w9
  have hgd44 := Tryd.guard44
  rw [hLs.out.symm] at hh9
  have hhv := holds_pre (by rw [digCells_append] at hh9; exact hh9)
  have hhb := holds_off35 (n := n) hh9 hvl.out hv16.out (by rw [hbl.out]; omega)
  have hc1 := fun w' => run_hi35 g n hn35 w'
  have hc2 := fun w' => run_lo35 g n hn35 w'
  have hc3 := fun w' => run_hiAt35 g n hn35 w'
  have hc4 := fun w' => run_loAt35 g n hn35 w'
  go_wp2
  refine wp_region_held_drew (S := fun w' => Below w.heap.size w w' ∧ w'.rangeAt gd 0 (ds.map N8) ∧ w'.rangeAt gp 0 (pub.map B8)) (by kernel_rfl) (hS _ hd9) (fun hHeld => ?_)
  generalize w9.drew = wd at hd9 hHeld ⊢
  refine wpAnyH_take (i := 0) (v := ?vv0) rfl (by kernel_rfl) (by kernel_rfl) (by kernel_rfl) (fun _ _ _ h => h) (Or.inl ⟨by rfl, ?yv0⟩) (by assumption) ?rv0
  case yv0 => intro w hSw; (try dsimp only at hSw); go_simp <;> (try with_reducible rfl)
  (try simp only [List.getElem_toArray, List.getElem_cons_zero, Act.put, List.setIfInBounds_toArray, List.set_cons_zero, List.set_cons_succ])
  refine' wpAnyH_take (i := 1) (v := _) rfl (by kernel_rfl) (by kernel_rfl) (by kernel_rfl) (fun _ _ _ h => h) (yieldsIf_load_mid (by rfl) _ _ (by rfl) _ _ (by rfl) _ _ ?Sv1 ?uv1 ?dv1 ?iv1) (by assumption) ?rv1
  case Sv1 => exact (by intro w h; exact h.2.1)
  case uv1 => exact hu35
  case dv1 => rfl
  case iv1 => exact hz35
  (try simp only [List.getElem_toArray, List.getElem_cons_succ, List.getElem_cons_zero, Act.put, List.setIfInBounds_toArray, List.set_cons_zero, List.set_cons_succ])
  refine wpAnyH_take (i := 2) (v := ?vv2) rfl (by kernel_rfl) (by kernel_rfl) (by kernel_rfl) (fun _ _ _ h => h) (Or.inl ⟨by rfl, ?yv2⟩) (by assumption) ?rv2
  case yv2 => intro w hSw; (try dsimp only at hSw); go_simp <;> (try with_reducible rfl)
  (try simp only [List.getElem_toArray, List.getElem_cons_succ, List.getElem_cons_zero, Act.put, List.setIfInBounds_toArray, List.set_cons_zero, List.set_cons_succ])
  refine wpAnyH_take (i := 3) (v := ?vv3) rfl (by kernel_rfl) (by kernel_rfl) (by kernel_rfl) (fun _ _ _ h => h) (Or.inl ⟨by rfl, ?yv3⟩) (by assumption) ?rv3
  case yv3 => intro w hSw; (try dsimp only at hSw); go_simp <;> (try with_reducible rfl)
  (try simp only [List.getElem_toArray, List.getElem_cons_succ, List.getElem_cons_zero, Act.put, List.setIfInBounds_toArray, List.set_cons_zero, List.set_cons_succ])
  refine wpAnyH_take (i := 4) (v := ?vv4) rfl (by kernel_rfl) (by kernel_rfl) (by kernel_rfl) (fun _ _ _ h => h) (Or.inl ⟨by rfl, ?yv4⟩) (by assumption) ?rv4
  case yv4 => intro w hSw; (try dsimp only at hSw); go_simp <;> (try with_reducible rfl)
  (try simp only [List.getElem_toArray, List.getElem_cons_succ, List.getElem_cons_zero, Act.put, List.setIfInBounds_toArray, List.set_cons_zero, List.set_cons_succ])
  refine wpAnyH_take (i := 5) (v := ?vv5) rfl (by kernel_rfl) (by kernel_rfl) (by kernel_rfl) (fun _ _ _ h => h) (Or.inl ⟨by rfl, ?yv5⟩) (by assumption) ?rv5
  case yv5 => intro w hSw; (try dsimp only at hSw); go_simp <;> (try with_reducible rfl)
  (try simp only [List.getElem_toArray, List.getElem_cons_succ, List.getElem_cons_zero, Act.put, List.setIfInBounds_toArray, List.set_cons_zero, List.set_cons_succ])
  refine' wpAnyH_take (i := 7) (v := _) rfl (by kernel_rfl) (by kernel_rfl) (by kernel_rfl) (fun _ _ _ h => h) (yieldsIf_load_mid (by rfl) _ _ (by rfl) _ _ (by rfl) _ _ ?Sv7 ?uv7 ?dv7 ?iv7) (by assumption) ?rv7
  case Sv7 => exact (by intro w h; exact h.2.2)
  case uv7 => exact hu
  case dv7 => rfl
  case iv7 => exact hzp
  (try simp only [List.getElem_toArray, List.getElem_cons_succ, List.getElem_cons_zero, Act.put, List.setIfInBounds_toArray, List.set_cons_zero, List.set_cons_succ])
  refine wpAnyH_ready (rs := [6]) (by kernel_rfl) (by simp) ?_
  refine AllReadyH.cons rfl (fun K hK => ?_) AllReadyH.nil
  go_simp
  go_wp2_with fail
  (with_reducible refine (rebuilt_at k g g (off35 n) _ _ (n - 35) ds (L.take 35) (L.drop 35) D _ hDr hk64 hdl.out hd15.out hvl.out hv16.out (by have := hbl.out; have := hn.out; omega) hmn hb16.out (hhv.next hd9) (hhb.next hd9) (HY.next (below_join hbel9 hd9)) _ rfl).mono ?_)
  rintro e w10 ⟨rfl, hb10⟩
  have hk10 := below_join hd9 hb10
  clear hb10 hHeld
  refine hK.out _ _ (hS _ hk10) (fun hHeld => ?_)
  clear hK K
  refine wpAnyH_ready (rs := [8]) (by kernel_rfl) (by simp) ?_
  refine AllReadyH.cons rfl (fun K hK => ?_) AllReadyH.nil
  go_simp
  refine hK.out _ _ (hS _ hk10) (fun hHeld => ?_)
  clear hK K
  refine wpAnyH_done (by kernel_rfl) ?_ _
  have hbelZ := below_join hbel9 hk10
  clear hS hd9 hB9 hBp9 hh9 hhv hhb hc1 hc2 hc3 hc4 hneq hk10 hHeld
  by_cases hDp : D = pub
  · have HDP := Lib.hid hDp
    have hdec : (!decide (D = pub)) = false := by rw [decide_eq_true hDp]; rfl
    rw [hdec]
    clear hDp hdec
    go_wp2
    go_ret2
    exact ⟨by first | rfl | (rw [if_pos HDP.out, if_pos HDP.out]; rfl) | (simp only [HDP.out]; rfl), hbelZ⟩
  · have HDP := Lib.hid hDp
    have hdec : (!decide (D = pub)) = true := by rw [decide_eq_false hDp]; rfl
    rw [hdec]
    clear hDp hdec
    go_wp2
    go_ret2
    exact ⟨by first | rfl | (rw [if_neg HDP.out, if_neg HDP.out]; rfl) | (simp only [HDP.out]; rfl), hbelZ⟩
end Go.Proofs.YtkakiepaffhhjaaDoor

/-
  Contract of the walk over the reference's Root. Conditions: a message of at most 10^6 bytes; a rest of the right length; its table reads as the document has it.
-/
namespace Go.Proofs.YtkakiepaffhhjaaDoor
open Go.RowKit

theorem wp_slice57 {o : Oper} {a : Act} {W : World} {K : Act → World → Prop} {Q : Exit → Act → World → Prop} (x : Operand) (ho : o.op = .buildSlice 55 1 #[(0, x)])
    (l : List Value) (hx : a.eval x = .agg l.toArray) (hl : l.length = 16)
    (h : K (a.put o.dst (.slice (some ⟨W.heap.size, 0, none⟩) 1 1)) (W.alloc (.cells l.toArray 23))) : Oper.wp Tryd.prog o a W K Q := by
  have hrun := run_slice57 W l hl
  unfold Oper.wp execOp
  simp only [ho, List.map_toArray, List.map_cons, List.map_nil, hx, Sem.run_bind, Sem.run_pure, Result.andThen_ok, hrun]
  exact h
def RtRel (L : List (List UInt8)) (wb : World) (v i : Value) (wr : World) : Prop :=
  ∃ j : Nat, j ≤ 35 ∧ i = .int .i64 j ∧ wr.ownsRow wb.heap.size 23 16 v j (digCells (L.take j)) ∧ Below wb.heap.size wb wr
def Rt2Rel (i : Nat) (v : List UInt8) (bs : List (List UInt8)) (gv gr : Nat) (w : World) (n k : Value) (wr : World) : Prop :=
  ∃ q : Nat, q ≤ bs.length ∧ k = .int .i64 q ∧ n = .int .i64 ((i / 2 ^ q : Nat) : Int) ∧ Blk wr gv 23 ((SG.up i v bs q).map B8) ∧ Blk wr gr 23 zero16 ∧ Below w.heap.size w wr
theorem rnode_at (lv n : Nat) (li : Int) (a b D : List UInt8) (w : World) (hl : li = (lv : Int)) (hD : Unit → SG.node lv n a b = D) (hlv : lv ≤ 1000) (hn : n ≤ 1000000) (ha : a.length = 16) (hb : b.length = 16) (HY : LayC w) :
    Calls Tryd.prog 46 #[.int .i64 li, .int .i64 n, .agg (a.map B8).toArray, .agg (b.map B8).toArray] w fun e w' => e = .returned (.agg (D.map B8).toArray) ∧ Below w.heap.size w w' := by
  subst hl; exact rnode_any lv n a b D w hD hlv hn ha hb HY
set_option maxRecDepth 100000 in
set_option maxHeartbeats 3200000 in
theorem rroot_any (pub ml : List UInt8) (m k : Nat) (s : ByteArray) (D : List UInt8) (w : World) (hD : Unit → SG.root pub k ml s.data.toList m = D) (hm6 : m ≤ 6) (hk64 : k < 64) (hp : pub.length = 16) (hm : ml.length ≤ 1000000) (hs : s.size = 16 * (35 + m)) (HY : LayC w) :
    Calls Tryd.prog 25 #[.agg (pub.map B8).toArray, .int .i64 m, .int .i64 k, .string ⟨ml.toArray⟩, .string s] w fun e w' => e = .returned (.agg (D.map B8).toArray) ∧ Below w.heap.size w w' := by
  obtain ⟨i0, hi, hz0, hz1, hz2⟩ := info_parts Tryd.info57
  have HP := Lib.hid hp
  have hkI : WM.okI (k : Int) := ⟨by omega, by omega⟩
  obtain ⟨M, hM⟩ : ∃ M, (Unit → SG.message pub (k : Int) ml = M) := ⟨_, fun _ => rfl⟩
  have hMl : Hid (M.length = 16) := by rw [← hM ()]; exact SG.message_length _ _ _
  obtain ⟨ds, hds⟩ : ∃ ds, Hid (SG.digits M = ds) := ⟨_, rfl⟩
  have hdl : Hid (ds.length = 35) := by rw [← hds.out]; exact SG.digits_length _ hMl.out
  have hd15 : Hid (∀ d ∈ ds, d ≤ 15) := by rw [← hds.out]; exact SG.digits_15 _ hMl.out
  have hsl : s.data.toList.length = 16 * (35 + m) := by rw [bytes_size]; exact hs
  obtain ⟨C, hC⟩ : ∃ C, Hid (SG.cut s.data.toList (35 + m) = C) := ⟨_, rfl⟩
  have hCl : Hid (C.length = 35 + m) := by rw [← hC.out]; exact SG.cut_length _ _
  have hC16 : Hid (∀ d ∈ C, d.length = 16) := by rw [← hC.out]; exact SG.cut_16 _ _ hsl
  have hCa : Hid (∀ j, j < 35 + m → C[j]? = some ((s.data.toList.drop (16 * j)).take 16)) := by rw [← hC.out]; exact fun j hj => SG.cut_at _ _ _ hj
  obtain ⟨vs, hvs⟩ : ∃ vs, Hid (C.take 35 = vs) := ⟨_, rfl⟩
  obtain ⟨bs, hbs⟩ : ∃ bs, Hid (C.drop 35 = bs) := ⟨_, rfl⟩
  have hvl : Hid (vs.length = 35) := by
    have : vs.length = 35 := by rw [← hvs.out, List.length_take, hCl.out]; omega
    exact this
  have hbl : Hid (bs.length = m) := by
    have : bs.length = m := by rw [← hbs.out, List.length_drop, hCl.out]; omega
    exact this
  have hv16 : Hid (∀ d ∈ vs, d.length = 16) := by
    have : ∀ d ∈ vs, d.length = 16 := fun d hd => hC16.out d (List.mem_of_mem_take (hvs.out ▸ hd))
    exact this
  have hb16 : Hid (∀ d ∈ bs, d.length = 16) := by
    have : ∀ d ∈ bs, d.length = 16 := fun d hd => hC16.out d (List.mem_of_mem_drop (hbs.out ▸ hd))
    exact this
  have hva : Hid (∀ j, j < 35 → vs[j]? = some ((s.data.toList.drop (16 * j)).take 16)) := by
    have : ∀ j, j < 35 → vs[j]? = some ((s.data.toList.drop (16 * j)).take 16) := fun j hj => by
      rw [← hvs.out, List.getElem?_take_of_lt hj]; exact hCa.out j (by omega)
    exact this
  have hba : Hid (∀ q, q < m → bs[q]? = some ((s.data.toList.drop (16 * (35 + q))).take 16)) := by
    have : ∀ q, q < m → bs[q]? = some ((s.data.toList.drop (16 * (35 + q))).take 16) := fun q hq => by
      rw [← hbs.out, List.getElem?_drop]; exact hCa.out (35 + q) (by omega)
    exact this
  obtain ⟨L, hL⟩ : ∃ L, Hid (SG.ends k ds vs = L) := ⟨_, rfl⟩
  have hLl : Hid (L.length = 35) := by rw [← hL.out]; exact SG.ends_length _ _ _
  have hL16 : Hid (∀ d ∈ L, d.length = 16) := by rw [← hL.out]; exact SG.ends_16 _ _ _ hvl.out hv16.out
  have hLa : Hid (∀ j, j < 35 → L[j]? = some (SG.climb k j (vs.getD j []) (ds.getD j 0) (15 - ds.getD j 0))) := by rw [← hL.out]; exact fun j hj => SG.ends_at _ _ _ _ hj
  obtain ⟨V, hV⟩ : ∃ V, (Unit → SG.leaf L = V) := ⟨_, fun _ => rfl⟩
  have hVl : Hid (V.length = 16) := by rw [← hV ()]; exact SG.hof_length _ _
  have hDu : Hid (SG.up k V bs m = D) := by
    have : SG.up k V bs m = D := by
      rw [← hD ()]; unfold SG.root; rw [hM (), hds.out, hC.out, hvs.out, hbs.out]; unfold SG.rebuilt; rw [hL.out, hV (), hbl.out]
    exact this
  have hDl : Hid (D.length = 16) := by rw [← hD ()]; exact SG.root_length _ _ _ _ _
  have HS := Lib.hid hs
  have hNl : Hid ((ds.map N8).length = 35) := by
    have : (ds.map N8).length = 35 := by rw [List.length_map]; exact hdl.out
    exact this
  clear hD hp hs hsl hC hvs hbs hL hCl hC16 hCa
  go_enter Tryd.func25, Tryd.ntmps25
  go_wp2_with (with_reducible refine wpList_box (o := ⟨some 5, .box 23 (.tmp 0), _, _, _, _⟩) ?g1 23 (.tmp 0) ?o1 (.agg (pub.map B8).toArray) (pub.map B8) ?x1 ?c1 ?_)
  try (case g1 => rfl)
  try (case o1 => rfl)
  try (case x1 => rfl)
  try (case c1 => rfl)
  intro gp w1 hgp hs1 hb1 hB1
  go_wp2_with (with_reducible refine wpList_alloc (o := ⟨some 10, .alloc 23, _, _, _, _⟩) (by with_unfolding_all rfl) 23 (by with_unfolding_all rfl) (aggB (SM.zeros 16)) zero16 (by exact Tryd.zero44) (by with_unfolding_all rfl) ?_)
  intro gr w2 hgr hs2 hb2 hB2
  have hl1 : gp < gr := by have := hs1.out; have := hgr.out; have := hgp.out; omega
  have hle : w.heap.size ≤ gp := Nat.le_of_eq hgp.out.symm
  have hler : w.heap.size ≤ gr := by omega
  have hBp2 := hB1.next hb2 hl1
  have hbel2 : Below w.heap.size w w2 := (hb1.mono hle).trans (hb2.mono (by omega))
  clear hgp hgr hs1 hs2 hb1 hb2 hB1
  go_wp2_with (with_reducible refine wpList_get (o := ⟨some 18, .load 23 (.tmp 5), _, _, _, _⟩) (by with_unfolding_all rfl) 23 (.tmp 5) (by with_unfolding_all rfl) gp 0 (by with_unfolding_all rfl) hBp2 (pub.map B8) (cs_all _) (.array 16 5) (by exact Tryd.underlying23) (by with_unfolding_all rfl) (by rw [List.length_map, HP.out]; exact Tryd.size44) ?_)
  (with_reducible refine (rmessage_any pub (k : Int) ml M _ hM HP.out hkI hm (HY.next hbel2)).mono ?_)
  rintro e w3 ⟨rfl, hb3⟩
  have hB3 := hB2.next hb3 hB2.lt
  have hbel3 := below_join hbel2 hb3
  clear hB2 hbel2 hb3 hBp2
  go_wp2_with fail
  (with_reducible refine (rdigits_any M _ hMl.out).mono ?_)
  rintro e w4 ⟨rfl, hb4⟩
  rw [hds.out]
  have hB4 := hB3.next hb4 hB3.lt
  have hbel4 := below_join hbel3 hb4
  clear hB3 hbel3 hb4
  go_wp2_with (with_reducible refine wpList_alloc (o := ⟨some 11, .alloc 25, _, _, _, _⟩) (by with_unfolding_all rfl) 25 (by with_unfolding_all rfl) (.agg ((List.replicate 35 0).map N8).toArray) ((List.replicate 35 0).map N8) (by exact Tryd.zero51) (by with_unfolding_all rfl) ?_)
  intro gd w5 hgd hs5 hb5 hB5
  have hlg : w4.heap.size ≤ gd := Nat.le_of_eq hgd.out.symm
  go_wp2_with (with_reducible refine wpList_put (o := ⟨none, .store 25 (.tmp 11) (.tmp 22), _, _, _, _⟩) (by with_unfolding_all rfl) 25 (.tmp 11) (.tmp 22) (by with_unfolding_all rfl) gd 0 (by with_unfolding_all rfl) (.agg (ds.map N8).toArray) (by with_unfolding_all rfl) hB5 (ds.map N8) (by with_unfolding_all rfl) (by rw [hNl.out]; exact Tryd.size51) (by with_unfolding_all (rw [hNl.out]; exact Nat.le_refl _)) (N8_one _) ?_)
  intro w6 hu6 hBd
  rw [splice_all _ _ (by rw [hNl.out]; rfl)] at hBd
  have hb6 : Below w4.heap.size w4 w6 := (hb5.mono hlg).trans (hu6.below (B := w4.heap.size) hlg)
  have hBr6 := hB4.next hb6 hB4.lt
  have hbel6 := below_join hbel4 hb6
  clear hB4 hbel4 hb6 hB5 hu6 hb5 hgd hs5 hlg
  have hdlt := hBd.lt
  go_wp2
  go_loopw [12, 13] (RtRel L w6) (fun _ i _ => 35 - (intOf i).toNat)
  case atStart => exact ⟨0, by omega, rfl, World.ownsRow_nil _ _ _ _, Below.refl _ _⟩
  case round =>
    obtain ⟨j, hj, rfl, hown, hbel⟩ := hrel
    by_cases hlt : j < 35
    · obtain ⟨d, hd⟩ : ∃ d, ds[j]? = some d := ⟨_, List.getElem?_eq_getElem (by rw [hdl.out]; exact hlt)⟩
      have hdle : d ≤ 15 := hd15.out d (List.mem_of_getElem? hd)
      have hgd : ds.getD j 0 = d := by rw [List.getD_eq_getElem?_getD, hd]; rfl
      have hdx : (ds.map N8)[j]? = some (.int .i64 (d : Int)) := by rw [List.getElem?_map, hd]; rfl
      have HCD := Lib.hid (hBd.cell hdx)
      obtain ⟨v, hv⟩ : ∃ v, Hid ((s.data.toList.drop (16 * j)).take 16 = v) := ⟨_, rfl⟩
      have hvj := hva.out j hlt
      rw [hv.out] at hvj
      have hvl : Hid (v.length = 16) := hv16.out v (List.mem_of_getElem? hvj)
      obtain ⟨v0, hv0⟩ : ∃ v0, (Unit → SG.climb k j v d (15 - d) = v0) := ⟨_, fun _ => rfl⟩
      have hv0l : Hid (v0.length = 16) := by rw [← hv0 ()]; exact SG.climb_length _ _ _ _ hvl.out _
      have hLj : L[j]? = some v0 := by
        have := hLa.out j hlt
        rw [List.getD_eq_getElem?_getD, hvj, hgd] at this
        rw [← hv0 ()]; exact this
      have hsn : Hid (digCells (L.take (j + 1)) = digCells (L.take j) ++ v0.map B8) := by
        have : digCells (L.take (j + 1)) = digCells (L.take j) ++ v0.map B8 := by
          rw [List.take_add_one, hLj]; exact digCells_snoc _ _
        exact this
      have hse : Unit → (s.extract (16 * j) s.size).data.toList.take 16 = v := fun _ => by rw [drop_extract]; exact hv.out
      have hsz1 : 16 ≤ (s.extract (16 * j) s.size).size := by rw [← bytes_size, drop_extract, List.length_drop, bytes_size]; have := HS.out; omega
      have hsz2 : (s.extract (16 * j) s.size).size ≤ 140737488351232 := by rw [← bytes_size, drop_extract, List.length_drop, bytes_size]; have := HS.out; omega
      have hbelw := below_join hbel6 hbel
      have hS : ∀ w', Below wr.heap.size wr w' → (Below w6.heap.size w6 w' ∧ w'.cell? ⟨gd, j, none⟩ = some (.int .i64 d)) := fun w' h => ⟨below_join hbel h, by rw [(below_join hbel h).cell (p := ⟨gd, j, none⟩) hdlt]; exact HCD.out⟩
      have hji : (j : Int) < 35 := by omega
      have hw1 : IntKind.i64.wrap (16 * (j : Int)) = 16 * (j : Int) := by simp only [IntKind.wrap_i64]; omega
      have hp1 : 0 ≤ 16 * (j : Int) := by omega
      have ht1 : (16 * (j : Int)).toNat = 16 * j := by omega
      have hle1 : 16 * (j : Int) ≤ (s.size : Int) := by have := HS.out; omega
      have hle2 : 16 * j ≤ s.size := by have := HS.out; omega
      have hdd := below_drew wr
      have hownD := own_next hown hdd
      clear hgd hd hdx hvj hLj hown
      go_wp2
      refine wp_region_held_drew (S := fun w' => Below w6.heap.size w6 w' ∧ w'.cell? ⟨gd, j, none⟩ = some (.int .i64 d)) (by kernel_rfl) (hS _ hdd) (fun hHeld => ?_)
      generalize wr.drew = wd at hdd hHeld hownD ⊢
      refine wpAnyH_take (i := 0) (v := ?vr0) rfl (by kernel_rfl) (by kernel_rfl) (by kernel_rfl) (fun _ _ _ h => h) (Or.inl ⟨by rfl, ?yr0⟩) (by assumption) ?rr0
      case yr0 => intro w hSw; (try dsimp only at hSw); go_simp <;> (try with_reducible rfl)
      (try simp only [List.getElem_toArray, List.getElem_cons_zero, Act.put, List.setIfInBounds_toArray, List.set_cons_zero, List.set_cons_succ])
      refine wpAnyH_take (i := 1) (v := ?vr1) rfl (by kernel_rfl) (by kernel_rfl) (by kernel_rfl) (fun _ _ _ h => h) (Or.inl ⟨by rfl, ?yr1⟩) (by assumption) ?rr1
      case yr1 => intro w hSw; (try dsimp only at hSw); go_simp <;> (try with_reducible rfl)
      (try simp only [List.getElem_toArray, List.getElem_cons_succ, List.getElem_cons_zero, Act.put, List.setIfInBounds_toArray, List.set_cons_zero, List.set_cons_succ])
      refine wpAnyH_take (i := 2) (v := ?vr2) rfl (by kernel_rfl) (by kernel_rfl) (by kernel_rfl) (fun _ _ _ h => h) (Or.inl ⟨by rfl, ?yr2⟩) (by assumption) ?rr2
      case yr2 => intro w hSw; (try dsimp only at hSw); go_simp <;> (try with_reducible rfl)
      (try simp only [List.getElem_toArray, List.getElem_cons_succ, List.getElem_cons_zero, Act.put, List.setIfInBounds_toArray, List.set_cons_zero, List.set_cons_succ])
      refine wpAnyH_take (i := 3) (v := ?vr3) rfl (by kernel_rfl) (by kernel_rfl) (by kernel_rfl) (fun _ _ _ h => h) (Or.inl ⟨by rfl, ?yr3⟩) (by assumption) ?rr3
      case yr3 => intro w hSw; (try dsimp only at hSw); go_simp <;> (try with_reducible rfl)
      (try simp only [List.getElem_toArray, List.getElem_cons_succ, List.getElem_cons_zero, Act.put, List.setIfInBounds_toArray, List.set_cons_zero, List.set_cons_succ])
      refine wpAnyH_take (i := 4) (v := ?vr4) rfl (by kernel_rfl) (by kernel_rfl) (by kernel_rfl) (fun _ _ _ h => h) (Or.inl ⟨by rfl, ?yr4⟩) (by assumption) ?rr4
      case yr4 => intro w hSw; (try dsimp only at hSw); go_simp <;> (try with_reducible rfl)
      (try simp only [List.getElem_toArray, List.getElem_cons_succ, List.getElem_cons_zero, Act.put, List.setIfInBounds_toArray, List.set_cons_zero, List.set_cons_succ])
      refine wpAnyH_take (i := 5) (v := ?vr5) rfl (by kernel_rfl) (by kernel_rfl) (by kernel_rfl) (fun _ _ _ h => h) (Or.inl ⟨by rfl, ?yr5⟩) (by assumption) ?rr5
      case yr5 => intro w hSw; (try dsimp only at hSw); go_simp <;> (try with_reducible rfl)
      (try simp only [List.getElem_toArray, List.getElem_cons_succ, List.getElem_cons_zero, Act.put, List.setIfInBounds_toArray, List.set_cons_zero, List.set_cons_succ])
      refine wpAnyH_take (i := 6) (v := ?vr6) rfl (by kernel_rfl) (by kernel_rfl) (by kernel_rfl) (fun _ _ _ h => h) (Or.inl ⟨by rfl, ?yr6⟩) (by assumption) ?rr6
      case yr6 => intro w hSw; (try dsimp only at hSw); go_simp <;> (try with_reducible rfl)
      (try simp only [List.getElem_toArray, List.getElem_cons_succ, List.getElem_cons_zero, Act.put, List.setIfInBounds_toArray, List.set_cons_zero, List.set_cons_succ])
      refine wpAnyH_take (i := 8) (v := ?vr8) rfl (by kernel_rfl) (by kernel_rfl) (by kernel_rfl) (fun _ _ _ h => h) (Or.inl ⟨by rfl, ?yr8⟩) (by assumption) ?rr8
      case yr8 => intro w hSw; (try dsimp only at hSw); go_simp <;> (try with_reducible rfl)
      (try simp only [List.getElem_toArray, List.getElem_cons_succ, List.getElem_cons_zero, Act.put, List.setIfInBounds_toArray, List.set_cons_zero, List.set_cons_succ])
      refine wpAnyH_take (i := 9) (v := ?vr9) rfl (by kernel_rfl) (by kernel_rfl) (by kernel_rfl) (fun _ _ _ h => h) (Or.inl ⟨by rfl, ?yr9⟩) (by assumption) ?rr9
      case yr9 => intro w hSw; (try dsimp only at hSw); go_simp <;> (try with_reducible rfl)
      (try simp only [List.getElem_toArray, List.getElem_cons_succ, List.getElem_cons_zero, Act.put, List.setIfInBounds_toArray, List.set_cons_zero, List.set_cons_succ])
      refine wpAnyH_take (i := 10) (v := ?vr10) rfl (by kernel_rfl) (by kernel_rfl) (by kernel_rfl) (fun _ _ _ h => h) (Or.inl ⟨by rfl, ?yr10⟩) (by assumption) ?rr10
      case yr10 => intro w hSw; (try dsimp only at hSw); go_simp <;> (try with_reducible rfl)
      (try simp only [List.getElem_toArray, List.getElem_cons_succ, List.getElem_cons_zero, Act.put, List.setIfInBounds_toArray, List.set_cons_zero, List.set_cons_succ])
      refine wpAnyH_ready (rs := [7]) (by kernel_rfl) (by simp) ?_
      refine AllReadyH.cons rfl (fun K hK => ?_) AllReadyH.nil
      go_simp
      go_wp2_with fail
      (with_reducible refine (rdigest_any _ v _ hse hsz1 hsz2).mono ?_)
      rintro e wA ⟨rfl, hbA0⟩
      have hbA := below_join hdd hbA0
      have hownA := own_next hownD hbA0
      refine hK.out _ _ (hS _ hbA) (fun hHeld => ?_)
      clear hK K hHeld hownD hbA0
      refine wpAnyH_ready (rs := [11]) (by kernel_rfl) (by simp) ?_
      refine AllReadyH.cons rfl (fun K hK => ?_) AllReadyH.nil
      go_simp
      go_wp2_with fail
      (with_reducible refine (rclimb_at k j d 15 d 15 v v0 _ rfl rfl hv0 (by omega) (by omega) hdle (by decide) hvl.out (HY.next (below_join hbelw hbA))).mono ?_)
      rintro e wB ⟨rfl, hbB0⟩
      have hbB := below_join hbA hbB0
      have hownB := own_next hownA hbB0
      refine hK.out _ _ (hS _ hbB) (fun hHeld => ?_)
      clear hK K hHeld hownA hbB0 hbA
      refine wpAnyH_ready (rs := [12]) (by kernel_rfl) (by simp) ?_
      refine AllReadyH.cons rfl (fun K hK => ?_) AllReadyH.nil
      rw [if_pos (by rfl)]
      refine wp_slice57 (.tmp 38) rfl (v0.map B8) rfl (by rw [List.length_map]; exact hv0l.out) ?_
      have hbC := below_join hbB (below_new wB (.cells (v0.map B8).toArray 23))
      have hownC := hownB.alloc (.cells (v0.map B8).toArray 23)
      refine hK.out _ _ (hS _ hbC) (fun hHeld => ?_)
      clear hK K hHeld
      refine wpAnyH_ready (rs := [13]) (by kernel_rfl) (by simp) ?_
      refine AllReadyH.cons rfl (fun K hK => ?_) AllReadyH.nil
      rw [if_pos (by rfl)]
      have hszB : w6.heap.size ≤ wB.heap.size := (below_join hbel hbB).size
      have hltB := hownB.lt
      refine wp_append_own (P := Tryd.prog) _ (.tmp 27) (.tmp 39) 55 rfl w6.heap.size 23 i0 _ 16 16 Tryd.underlying55 hi hz0 hz1 hz2 rfl (by decide) _ _ _ rfl hownC ⟨wB.heap.size, 0, none⟩ 1 1 (v0.map B8) rfl (by rw [List.length_map]; exact hv0l.out) (fun q u hu => block_cells rfl hu) (B8_one _) (by unfold maxLen; omega) (by omega) (by simp; omega) ?_
      intro v4 wE hownE hgrow _
      have hbE0 := ((below_join hbel hbB).alloc hszB (.cells (v0.map B8).toArray 23)).grown hgrow (by simp; omega) (fun q hq => (hltB q hq).1)
      have hownE' : wE.ownsRow w6.heap.size 23 16 v4 (j + 1) (digCells (L.take (j + 1))) := by
        rw [hsn.out]; exact hownE
      refine hK.out _ _ ⟨hbE0, by rw [hbE0.cell (p := ⟨gd, j, none⟩) hdlt]; exact HCD.out⟩ (fun hHeld => ?_)
      clear hK K hHeld hownE hgrow hownB hownC hbC hltB hbB hdd hS
      refine wpAnyH_ready (rs := [14]) (by kernel_rfl) (by simp) ?_
      refine AllReadyH.cons rfl (fun K hK => ?_) AllReadyH.nil
      go_simp
      refine hK.out _ _ ⟨hbE0, by rw [hbE0.cell (p := ⟨gd, j, none⟩) hdlt]; exact HCD.out⟩ (fun hHeld => ?_)
      clear hK K hHeld HCD
      refine wpAnyH_done (by kernel_rfl) ?_ _
      go_wp2
      go_roundw
      case rel => exact ⟨j + 1, by omega, by go_num, hownE', hbE0⟩
      case measure => simp [intOf]; omega
    · obtain rfl : j = 35 := by omega
      rw [List.take_of_length_le (by rw [hLl.out]; exact Nat.le_refl _)] at hown
      obtain ⟨A, c, rfl, hc35, hh⟩ := holds_own hown
      have hBr := hBr6.next hbel hBr6.lt
      have hbelw := below_join hbel6 hbel
      clear hown hbel hBd hbel6 hBr6 hlt hj hva
      go_wp2_with fail
      (with_reducible refine (rleaf_any A c 35 L V _ hV hLl.out.symm (by rw [hLl.out]; decide) hL16.out hh (HY.next hbelw)).mono ?_)
      rintro e w7 ⟨rfl, hb7⟩
      have hbel7 := below_join hbelw hb7
      have hBr7 := hBr.next hb7 hBr.lt
      clear hb7 hbelw hh hBr
      go_wp2_with (with_reducible refine wpList_alloc (o := ⟨some 14, .alloc 23, _, _, _, _⟩) (by with_unfolding_all rfl) 23 (by with_unfolding_all rfl) (aggB (SM.zeros 16)) zero16 (by exact Tryd.zero44) (by with_unfolding_all rfl) ?_)
      intro gv w8 hgv hs8 hb8 hB8
      have hlg : w7.heap.size ≤ gv := Nat.le_of_eq hgv.out.symm
      go_wp2_with (with_reducible refine wpList_put (o := ⟨none, .store 23 (.tmp 14) (.tmp 42), _, _, _, _⟩) (by with_unfolding_all rfl) 23 (.tmp 14) (.tmp 42) (by with_unfolding_all rfl) gv 0 (by with_unfolding_all rfl) (.agg (V.map B8).toArray) (by with_unfolding_all rfl) hB8 (V.map B8) (by with_unfolding_all rfl) (by rw [List.length_map, hVl.out]; exact Tryd.size44) (by with_unfolding_all (rw [List.length_map, hVl.out]; exact Nat.le_refl _)) (B8_one _) ?_)
      intro w9 hu9 hB9
      rw [splice_all _ _ (by rw [List.length_map, hVl.out]; rfl)] at hB9
      have hb9 : Below w7.heap.size w7 w9 := (hb8.mono hlg).trans (hu9.below (B := w7.heap.size) hlg)
      have hbel9 := below_join hbel7 hb9
      have hBr9 := hBr7.next hb9 hBr7.lt
      have hlev : w.heap.size ≤ gv := Nat.le_trans hbel7.size hlg
      have hne : gr < gv := Nat.lt_of_lt_of_le hBr7.lt hlg
      clear hbel7 hBr7 hb8 hB8 hu9 hb9 hgv hs8 hlg
      go_wp2
      go_loopw [15, 16] (Rt2Rel k V bs gv gr w) (fun _ i _ => m - (intOf i).toNat)
      case atStart => exact ⟨0, Nat.zero_le _, rfl, by rw [Nat.pow_zero, Nat.div_one], hB9, hBr9, hbel9⟩
      case round =>
        clear hB9 hBr9 hbel9
        obtain ⟨q, hq, rfl, rfl, hBv, hBr, hbel⟩ := hrel
        rw [hbl.out] at hq
        have hUl : Hid ((SG.up k V bs q).length = 16) := SG.up_length k V bs hVl.out q
        by_cases hlt : q < m
        · obtain ⟨b, hb⟩ : ∃ b, Hid ((s.data.toList.drop (16 * (35 + q))).take 16 = b) := ⟨_, rfl⟩
          have hbq := hba.out q hlt
          rw [hb.out] at hbq
          have hbl2 : Hid (b.length = 16) := hb16.out b (List.mem_of_getElem? hbq)
          have hbd : bs.getD q [] = b := by rw [List.getD_eq_getElem?_getD, hbq]; rfl
          obtain ⟨x, hx⟩ : ∃ x, Hid (k / 2 ^ q = x) := ⟨_, rfl⟩
          have hx64 : x < 64 := by rw [← hx.out]; exact Nat.lt_of_le_of_lt (Nat.div_le_self _ _) hk64
          obtain ⟨z, hz⟩ : ∃ z, Hid (x / 2 = z) := ⟨_, rfl⟩
          have hz64 : z < 64 := by have := hz.out; omega
          have hxz : Hid (k / 2 ^ (q + 1) = z) := by
            have : k / 2 ^ (q + 1) = z := by rw [Nat.pow_succ, ← Nat.div_div_eq_div_mul, hx.out, hz.out]
            exact this
          have hdv : (x : Int).tdiv 2 = (z : Int) := by rw [Int.tdiv_eq_ediv_of_nonneg (by omega)]; have := hz.out; omega
          obtain ⟨U2, hU2e⟩ : ∃ U2, Hid (SG.up k V bs (q + 1) = U2) := ⟨_, rfl⟩
          have hU2l : Hid (U2.length = 16) := by rw [← hU2e.out]; exact SG.up_length k V bs hVl.out (q + 1)
          have hU2s : Hid ((if x % 2 = 0 then SG.node (q + 1) z (SG.up k V bs q) b else SG.node (q + 1) z b (SG.up k V bs q)) = U2) := by
            have : (if x % 2 = 0 then SG.node (q + 1) z (SG.up k V bs q) b else SG.node (q + 1) z b (SG.up k V bs q)) = U2 := by
              rw [← hU2e.out, ← hbd, ← hz.out, ← hx.out]; rfl
            exact this
          obtain ⟨U, hU⟩ : ∃ U, Hid (SG.up k V bs q = U) := ⟨_, rfl⟩
          rw [hU.out] at hBv hUl hU2s
          rw [hx.out]
          have hse : Unit → (s.extract (16 * (35 + q)) s.size).data.toList.take 16 = b := fun _ => by rw [drop_extract]; exact hb.out
          have hsz1 : 16 ≤ (s.extract (16 * (35 + q)) s.size).size := by rw [← bytes_size, drop_extract, List.length_drop, bytes_size]; have := HS.out; omega
          have hsz2 : (s.extract (16 * (35 + q)) s.size).size ≤ 140737488351232 := by rw [← bytes_size, drop_extract, List.length_drop, bytes_size]; have := HS.out; omega
          have hqm : (q : Int) < (m : Int) := by omega
          obtain ⟨y, hy⟩ : ∃ y : Nat, Hid (16 * (35 + q) = y) := ⟨_, rfl⟩
          have hw0 : IntKind.i64.wrap (35 + (q : Int)) = 35 + (q : Int) := by simp only [IntKind.wrap_i64]; omega
          have hw1 : IntKind.i64.wrap (16 * (35 + (q : Int))) = (y : Int) := by have := hy.out; simp only [IntKind.wrap_i64]; omega
          have hle1 : (y : Int) ≤ (s.size : Int) := by have := HS.out; have := hy.out; omega
          rw [hy.out] at hse hsz1 hsz2
          clear hbq hbd hU
          go_wp2_with fail
          (with_reducible refine (rdigest_any _ b _ hse hsz1 hsz2).mono ?_)
          rintro e wA ⟨rfl, hbA⟩
          have hBvA := hBv.next hbA hBv.lt
          have hBrA := hBr.next hbA hBr.lt
          have hbelA := below_join hbel hbA
          clear hBv hBr hbel hbA hw0 hw1 hle1
          go_wp2_with (with_reducible refine wpList_alloc (o := ⟨some 17, .alloc 23, _, _, _, _⟩) (by with_unfolding_all rfl) 23 (by with_unfolding_all rfl) (aggB (SM.zeros 16)) zero16 (by exact Tryd.zero44) (by with_unfolding_all rfl) ?_)
          intro gt wB hgt hsB hbB hBB
          have hlg : wA.heap.size ≤ gt := Nat.le_of_eq hgt.out.symm
          go_wp2_with (with_reducible refine wpList_put (o := ⟨none, .store 23 (.tmp 17) (.tmp 54), _, _, _, _⟩) (by with_unfolding_all rfl) 23 (.tmp 17) (.tmp 54) (by with_unfolding_all rfl) gt 0 (by with_unfolding_all rfl) (.agg (b.map B8).toArray) (by with_unfolding_all rfl) hBB (b.map B8) (by with_unfolding_all rfl) (by rw [List.length_map, hbl2.out]; exact Tryd.size44) (by with_unfolding_all (rw [List.length_map, hbl2.out]; exact Nat.le_refl _)) (B8_one _) ?_)
          intro wC huC hBC
          rw [splice_all _ _ (by rw [List.length_map, hbl2.out]; rfl)] at hBC
          have hbC : Below wA.heap.size wA wC := (hbB.mono hlg).trans (huC.below (B := wA.heap.size) hlg)
          have hBvC := hBvA.next hbC hBvA.lt
          have hBrC := hBrA.next hbC hBrA.lt
          have hbelC := below_join hbelA hbC
          clear hBvA hBrA hbelA hbB hBB huC hbC hgt hsB hlg
          by_cases hev : x % 2 = 0
          · have htm : (x : Int).tmod 2 = 0 := by rw [Int.tmod_eq_emod_of_nonneg (by omega)]; omega
            have hU2 : Unit → SG.node (q + 1) z U b = U2 := fun _ => by rw [← hU2s.out, if_pos hev]
            clear hev hU2s
            go_wp2_with (first | (with_reducible refine wpList_get (o := ⟨some 69, .load 23 (.tmp 14), _, _, _, _⟩) (by with_unfolding_all rfl) 23 (.tmp 14) (by with_unfolding_all rfl) gv 0 (by with_unfolding_all rfl) hBvC (U.map B8) (cs_all _) (.array 16 5) (by exact Tryd.underlying23) (by with_unfolding_all rfl) (by rw [List.length_map, hUl.out]; exact Tryd.size44) ?_) | (with_reducible refine wpList_get (o := ⟨some 70, .load 23 (.tmp 17), _, _, _, _⟩) (by with_unfolding_all rfl) 23 (.tmp 17) (by with_unfolding_all rfl) gt 0 (by with_unfolding_all rfl) hBC (b.map B8) (cs_all _) (.array 16 5) (by exact Tryd.underlying23) (by with_unfolding_all rfl) (by rw [List.length_map, hbl2.out]; exact Tryd.size44) ?_))
            (with_reducible refine (rnode_at (q + 1) z _ U b U2 _ (by omega) hU2 (by omega) (by omega) hUl.out hbl2.out (HY.next hbelC)).mono ?_)
            rintro e wE ⟨rfl, hbE⟩
            have hBvE := hBvC.next hbE hBvC.lt
            have hBrE := hBrC.next hbE hBrC.lt
            have hbelE := below_join hbelC hbE
            clear hBvC hBrC hbelC hbE hBC
            go_wp2_with (with_reducible refine wpList_put (o := ⟨none, .store 23 (.tmp 14) (.tmp 71), _, _, _, _⟩) (by with_unfolding_all rfl) 23 (.tmp 14) (.tmp 71) (by with_unfolding_all rfl) gv 0 (by with_unfolding_all rfl) (.agg (U2.map B8).toArray) (by with_unfolding_all rfl) hBvE (U2.map B8) (by with_unfolding_all rfl) (by rw [List.length_map, hU2l.out]; exact Tryd.size44) (by with_unfolding_all (rw [List.length_map, List.length_map, hU2l.out, hUl.out]; exact Nat.le_refl _)) (B8_one _) ?_)
            intro wF huF hBF
            rw [splice_all _ _ (by rw [List.length_map, List.length_map, hU2l.out, hUl.out])] at hBF
            have hBrF := hBrE.upd huF (by omega)
            have hbelF := hbelE.trans (huF.below (B := w.heap.size) hlev)
            clear hBvE hBrE hbelE huF
            go_wp2
            go_roundw
            case rel => exact ⟨q + 1, by rw [hbl.out]; omega, by go_num, by rw [hxz.out], by rw [hU2e.out]; exact hBF, hBrF, hbelF⟩
            case measure => simp [intOf]; omega
          · have htm : (x : Int).tmod 2 = 1 := by rw [Int.tmod_eq_emod_of_nonneg (by omega)]; omega
            have hU2 : Unit → SG.node (q + 1) z b U = U2 := fun _ => by rw [← hU2s.out, if_neg hev]
            clear hev hU2s
            go_wp2_with (first | (with_reducible refine wpList_get (o := ⟨some 62, .load 23 (.tmp 17), _, _, _, _⟩) (by with_unfolding_all rfl) 23 (.tmp 17) (by with_unfolding_all rfl) gt 0 (by with_unfolding_all rfl) hBC (b.map B8) (cs_all _) (.array 16 5) (by exact Tryd.underlying23) (by with_unfolding_all rfl) (by rw [List.length_map, hbl2.out]; exact Tryd.size44) ?_) | (with_reducible refine wpList_get (o := ⟨some 63, .load 23 (.tmp 14), _, _, _, _⟩) (by with_unfolding_all rfl) 23 (.tmp 14) (by with_unfolding_all rfl) gv 0 (by with_unfolding_all rfl) hBvC (U.map B8) (cs_all _) (.array 16 5) (by exact Tryd.underlying23) (by with_unfolding_all rfl) (by rw [List.length_map, hUl.out]; exact Tryd.size44) ?_))
            (with_reducible refine (rnode_at (q + 1) z _ b U U2 _ (by omega) hU2 (by omega) (by omega) hbl2.out hUl.out (HY.next hbelC)).mono ?_)
            rintro e wE ⟨rfl, hbE⟩
            have hBvE := hBvC.next hbE hBvC.lt
            have hBrE := hBrC.next hbE hBrC.lt
            have hbelE := below_join hbelC hbE
            clear hBvC hBrC hbelC hbE hBC
            go_wp2_with (with_reducible refine wpList_put (o := ⟨none, .store 23 (.tmp 14) (.tmp 64), _, _, _, _⟩) (by with_unfolding_all rfl) 23 (.tmp 14) (.tmp 64) (by with_unfolding_all rfl) gv 0 (by with_unfolding_all rfl) (.agg (U2.map B8).toArray) (by with_unfolding_all rfl) hBvE (U2.map B8) (by with_unfolding_all rfl) (by rw [List.length_map, hU2l.out]; exact Tryd.size44) (by with_unfolding_all (rw [List.length_map, List.length_map, hU2l.out, hUl.out]; exact Nat.le_refl _)) (B8_one _) ?_)
            intro wF huF hBF
            rw [splice_all _ _ (by rw [List.length_map, List.length_map, hU2l.out, hUl.out])] at hBF
            have hBrF := hBrE.upd huF (by omega)
            have hbelF := hbelE.trans (huF.below (B := w.heap.size) hlev)
            clear hBvE hBrE hbelE huF
            go_wp2
            go_roundw
            case rel => exact ⟨q + 1, by rw [hbl.out]; omega, by go_num, by rw [hxz.out], by rw [hU2e.out]; exact hBF, hBrF, hbelF⟩
            case measure => simp [intOf]; omega
        · obtain rfl : q = m := by omega
          rw [hDu.out] at hBv hUl
          clear hlt hq
          go_wp2_with (first | (with_reducible refine wpList_get (o := ⟨some 74, .load 23 (.tmp 14), _, _, _, _⟩) (by with_unfolding_all rfl) 23 (.tmp 14) (by with_unfolding_all rfl) gv 0 (by with_unfolding_all rfl) hBv (D.map B8) (cs_all _) (.array 16 5) (by exact Tryd.underlying23) (by with_unfolding_all rfl) (by rw [List.length_map, hUl.out]; exact Tryd.size44) ?_) | (with_reducible refine wpList_put (o := ⟨none, .store 23 (.tmp 10) (.tmp 74), _, _, _, _⟩) (by with_unfolding_all rfl) 23 (.tmp 10) (.tmp 74) (by with_unfolding_all rfl) gr 0 (by with_unfolding_all rfl) (.agg (D.map B8).toArray) (by with_unfolding_all rfl) hBr (D.map B8) (by with_unfolding_all rfl) (by rw [List.length_map, hUl.out]; exact Tryd.size44) (by with_unfolding_all (rw [List.length_map, hUl.out]; exact Nat.le_refl _)) (B8_one _) ?_))
          intro wZ huZ hBZ
          rw [splice_all _ _ (by rw [List.length_map, hUl.out]; rfl)] at hBZ
          have hbelZ := hbel.trans (huZ.below (B := w.heap.size) hler)
          go_wp2
          refine bodyPost_ret (results_cell_row rfl _ _ gr _ _ _ _ rfl hBZ Tryd.underlying23 rfl (by rw [List.size_toArray, List.length_map, hUl.out]; exact Tryd.size44)) rfl ⟨rfl, hbelZ⟩
end Go.Proofs.YtkakiepaffhhjaaDoor
