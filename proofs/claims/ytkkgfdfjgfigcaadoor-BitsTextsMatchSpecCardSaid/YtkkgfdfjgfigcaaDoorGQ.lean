/-
  Contracts of the functions that the statement calls, part 17 of 25 (merged texts: Kg, Kh, Ki, Kj, Kk). Conditions: as the head of each part says.
-/
import Derived.Test.YtkkgfdfjgfigcaaDoorGP

/-
  Contract of the walk over the function that seeker returns. Conditions: what seeker made lies there; the pattern lies within the one that seeker was made for.
-/
namespace Go.Proofs.YtkkgfdfjgfigcaaDoor
set_option linter.unusedVariables false
set_option linter.unusedSimpArgs false
open Go.RowKit

/-- What seeker makes, at one world. -/
structure SkS (gn gl gs ga base cl n : Nat) (Al : Option Addr) (l : List Pat) (K : List Nat) (Aa : Option Addr) (ca : Nat) (A : Option Addr) (c : Nat) (w : World) : Prop where
  env : SkEnv gn gl gs Al cl l w
  near : SkNear base gn gl gs Al n A c K w
  ba : Blk w ga 138 [.slice Aa n ca]
  safe : SafeAt w Aa K (Value.slice A n c).ownBlock n
  an : ∀ g o, Aa = some ⟨g, o, none⟩ → g ≠ gn
  nga : ga ≠ gn
  sep : ∀ g, (Value.slice A n c).ownBlock = some g → g ≠ ga
theorem SkS.next {gn gl gs ga base cl n ca c : Nat} {Al Aa A : Option Addr} {l : List Pat} {K : List Nat} {w w' : World} (h : SkS gn gl gs ga base cl n Al l K Aa ca A c w) (hb : Below w.heap.size w w') : SkS gn gl gs ga base cl n Al l K Aa ca A c w' :=
  ⟨h.env.next hb, h.near.next hb, h.ba.next hb h.ba.lt, h.safe.next hb, h.an, h.nga, h.sep⟩
/-- A change of blocks that are none of these. -/
theorem SkS.apart {gn gl gs ga base cl n ca c : Nat} {Al Aa A : Option Addr} {l : List Pat} {K : List Nat} {w w' : World} {D : Nat → Prop} (h : SkS gn gl gs ga base cl n Al l K Aa ca A c w) (ho : OnlyD D w w') (h1 : ¬ D gn) (h2 : ¬ D gl) (h3 : ¬ D gs) (h4 : ¬ D ga) (h5 : ∀ g o, Al = some ⟨g, o, none⟩ → ¬ D g) (h6 : ∀ g, (Value.slice A n c).ownBlock = some g → ¬ D g) (h7 : ∀ g o, Aa = some ⟨g, o, none⟩ → ¬ D g) :
    SkS gn gl gs ga base cl n Al l K Aa ca A c w' :=
  ⟨h.env.onlyD ho h2 h3 h5, h.near.same (ho.block gn h.near.bn.lt h1) (fun g hg => ho.block g (h.near.own.lt g hg).2 (h6 g hg)), h.ba.onlyD ho h4, fun j k hj => by
    obtain ⟨g, o, e, hc, hs⟩ := h.safe j k hj
    refine ⟨g, o, e, ?_, hs⟩
    rw [World.cell?_of_block (a := ⟨g, o + j, none⟩) (ho.block g (World.block_lt_of_cell? w _ hc) (h7 g o e))]; exact hc, h.an, h.nga, h.sep⟩
def Sk2Post (gn gl gs ga base cl n : Nat) (Al : Option Addr) (l : List Pat) (K : List Nat) (Aa : Option Addr) (ca : Nat) (A : Option Addr) (c : Nat) (p : Pat) (w : World) (e : Ending) (w' : World) : Prop :=
  ∃ (part : Pat) (R : Nat → Bool) (ok : Bool) (A' : Option Addr) (c' : Nat), e = .returned (.tuple #[.agg part.cells.toArray, .bool ok]) ∧ SeekR l p part R ok ∧ SkS gn gl gs ga base cl n Al l K Aa ca A' c' w' ∧
    ((Value.slice A' n c').ownBlock = (Value.slice A n c).ownBlock ∨ ∀ g, (Value.slice A' n c').ownBlock = some g → w.heap.size ≤ g) ∧ OnlyD (fun g => g = gn ∨ (Value.slice A n c).ownBlock = some g) w w'
set_option maxRecDepth 100000 in
set_option maxHeartbeats 1600000 in
theorem seek2_any (gn gl gs ga base cl n ca c : Nat) (Al Aa A : Option Addr) (l : List Pat) (K : List Nat) (p : Pat) (w : World) (hok : ∀ q, q ∈ l → q.ok) (hll : l.length ≤ 1000000) (hp : p.ok) (hbase : base ≤ w.heap.size) (hn : n ≤ 6000) (hKn : K.length = n) (hKb : ∀ k, k ∈ K → k < l.length) (hcov : ∀ k q, l[k]? = some q → p.over q → k ∈ K)
    (hS : SkS gn gl gs ga base cl n Al l K Aa ca A c w) :
    Calls Tryd.prog 244 #[.agg p.cells.toArray, .pointer (some ⟨gs, 0, none⟩), .pointer (some ⟨ga, 0, none⟩)] w (Sk2Post gn gl gs ga base cl n Al l K Aa ca A c p w) := by
  have HOK := Lib.hid hok
  have HS := Lib.hid hS
  have HCOV := Lib.hid hcov
  have HKB := Lib.hid hKb
  have hfr : freeN p < 161 := by unfold freeN; omega
  clear hok hS hcov hKb
  go_enter Tryd.func244, Tryd.ntmps244
  go_wp2_with (with_reducible refine wpList_box (o := ⟨some 3, .box 25 (.tmp 0), _, _, _, _⟩) ?g1 25 (.tmp 0) ?o1 (.agg p.cells.toArray) p.cells ?x1 ?c1 ?_)
  try (case g1 => rfl)
  try (case o1 => rfl)
  try (case x1 => rfl)
  try (case c1 => rfl)
  intro g3 w1 hg3 hs1 hb1 hB3
  have hl3 : w.heap.size ≤ g3 := Nat.le_of_eq hg3.out.symm
  have hb1' : Below w.heap.size w w1 := hb1.mono hl3
  clear hb1 hs1 hg3
  go_wp2_with (with_reducible refine wpList_alloc (o := ⟨some 4, .alloc 25, _, _, _, _⟩) (by with_unfolding_all rfl) 25 (by with_unfolding_all rfl) (.agg (H no ++ H no).toArray) (H no ++ H no) (by exact Tryd.zeroPt) (by with_unfolding_all rfl) ?_)
  intro g4 w2 hg4 hs2 hb2 hB4
  rw [cells_zero] at hB4
  have hl4 : w.heap.size ≤ g4 := by rw [hg4.out]; exact hb1'.size
  have hb2' : Below w1.heap.size w1 w2 := hb2.mono (Nat.le_of_eq hg4.out.symm)
  have hn34 : g3 ≠ g4 := fun e => by have := hB3.lt; have := hg4.out; omega
  have hB3 := hB3.next hb2' hB3.lt
  have hb2'' := below_join hb1' hb2'
  have HS2 := Lib.hid (HS.out.next hb2'')
  have cs := HS2.out.env.bs.cell (k := 0) rfl
  have ca' := HS2.out.ba.cell (k := 0) rfl
  have hcall := seek_any gn gl gs base cl Al l HOK.out hll 161 p K Aa A ca n c K w2 hfr hp (by have := hb2''.size; omega) (by rw [hKn]; omega) (by rw [hKn]; omega) HS2.out.env HS2.out.near HS2.out.safe HS2.out.an HKB.out HCOV.out
  rw [hKn] at hcall
  have HC := Lib.hid hcall
  clear hcall hb1' hb2 hb2' hs2 hg4 hfr
  go_wp2_with (first | (with_reducible refine wpList_get (o := ⟨some 11, .load 25 (.tmp 3), _, _, _, _⟩) (by with_unfolding_all rfl) 25 (.tmp 3) (by with_unfolding_all rfl) g3 0 (by with_unfolding_all rfl) hB3 p.cells (cs_all _) _ (by exact Tryd.underlying25) (by with_unfolding_all rfl) (by rw [Pat.cells_length]; exact Tryd.szP) ?_) | fail)
  (with_reducible refine HC.out.mono ?_)
  rintro e w3 ⟨part, R, ok, A', c', rfl, hsr, hnear, hor, hfs⟩
  have hbn : ∀ g, (Value.slice A n c).ownBlock = some g → g < w.heap.size := fun g hg => (HS.out.near.own.lt g hg).2
  have hB4' := hB4.onlyD hfs.only (fun e => by
    rcases e with e | e
    · have := HS.out.near.bn.lt; omega
    · have := hbn g4 e; omega)
  have hgal : ga < w.heap.size := HS.out.ba.lt
  have HS3 : Hid (SkS gn gl gs ga base cl n Al l K Aa ca A' c' w3) := by
    have : SkS gn gl gs ga base cl n Al l K Aa ca A' c' w3 := by
      refine ⟨HS2.out.env.onlyD hfs.only ?_ ?_ ?_, hnear, HS2.out.ba.onlyD hfs.only ?_, ?_, HS.out.an, HS.out.nga, ?_⟩
      · rintro (e | e)
        · exact HS.out.env.nl e.symm
        · exact (HS.out.near.apart _ e).2.1 rfl
      · rintro (e | e)
        · exact HS.out.env.ns e.symm
        · exact (HS.out.near.apart _ e).2.2.1 rfl
      · rintro g o ea (e | e)
        · exact HS.out.env.na g o ea e
        · exact (HS.out.near.apart _ e).2.2.2 o ea
      · rintro (e | e)
        · exact HS.out.nga e
        · exact HS.out.sep _ e rfl
      · intro j k hj
        obtain ⟨g, o, e, hc, hs⟩ := (HS2.out.safe.frS hfs HS.out.an rfl (Nat.le_refl _)) j k hj
        obtain ⟨g0, o0, e0, hc0, _⟩ := HS.out.safe j k hj
        rw [e] at e0
        cases e0
        refine ⟨g, o, e, hc, fun e' => ?_⟩
        rcases hor with h | h
        · exact hs (by rw [← h]; exact e')
        · have h1 := h g e'
          have h2 : g < w.heap.size := World.block_lt_of_cell? (a := ⟨g, o + j, none⟩) w hc0
          have := hb2''.size
          omega
      · intro g hg e
        rcases hor with h | h
        · exact HS.out.sep g (by rw [← h]; exact hg) e
        · have h1 := h g hg
          have := hb2''.size
          omega
    exact this
  have HO3 : Hid (OnlyD (fun g => g = gn ∨ (Value.slice A n c).ownBlock = some g) w w3) := by
    have : OnlyD (fun g => g = gn ∨ (Value.slice A n c).ownBlock = some g) w w3 := (OnlyD.of_below hb2'').trans hfs.only
    exact this
  have HOR : Hid ((Value.slice A' n c').ownBlock = (Value.slice A n c).ownBlock ∨ ∀ g, (Value.slice A' n c').ownBlock = some g → w.heap.size ≤ g) := by
    have : (Value.slice A' n c').ownBlock = (Value.slice A n c).ownBlock ∨ ∀ g, (Value.slice A' n c').ownBlock = some g → w.heap.size ≤ g := hor.imp id (fun h g hg => Nat.le_trans hb2''.size (h g hg))
    exact this
  have HLT : Hid (∀ g, (Value.slice A' n c').ownBlock = some g → g ≠ g4) := by
    have : ∀ g, (Value.slice A' n c').ownBlock = some g → g ≠ g4 := fun g hg e => by
      rcases hor with h | h
      · have := hbn g (by rw [← h]; exact hg); omega
      · have h1 := h g hg
        have := hB4.lt
        omega
    exact this
  have HSR := Lib.hid hsr
  have hg4l : g4 < w3.heap.size := hB4'.lt
  have hAan : Hid (∀ g o, Aa = some ⟨g, o, none⟩ → K ≠ [] → g < w.heap.size) := by
    have : ∀ g o, Aa = some ⟨g, o, none⟩ → K ≠ [] → g < w.heap.size := fun g o e hne => by
      obtain ⟨k, hk⟩ : ∃ k, K[0]? = some k := by
        rcases K with _ | ⟨k, _⟩
        · exact absurd rfl hne
        · exact ⟨k, rfl⟩
      obtain ⟨g0, o0, e0, hc0, _⟩ := HS.out.safe 0 k hk
      rw [e] at e0
      cases e0
      exact World.block_lt_of_cell? (a := ⟨g, o + 0, none⟩) w hc0
    exact this
  clear hsr hnear hor hfs hbn hB4 hB3 cs ca' HC HS2 hb2''
  go_wp2_with (with_reducible refine wpList_alloc (o := ⟨some 6, .alloc 25, _, _, _, _⟩) (by with_unfolding_all rfl) 25 (by with_unfolding_all rfl) (.agg (H no ++ H no).toArray) (H no ++ H no) (by exact Tryd.zeroPt) (by with_unfolding_all rfl) ?_)
  intro g6 w4 hg6 hs4 hb4 hB6
  rw [cells_zero] at hB6
  have hl6 : w3.heap.size ≤ g6 := Nat.le_of_eq hg6.out.symm
  have hb4' : Below w3.heap.size w3 w4 := hb4.mono hl6
  clear hb4 hs4 hg6
  go_wp2_with (with_reducible refine wpList_alloc (o := ⟨some 7, .alloc 23, _, _, _, _⟩) (by with_unfolding_all rfl) 23 (by with_unfolding_all rfl) (.agg (H no).toArray) (H no) (by exact Tryd.zeroH) (by with_unfolding_all rfl) ?_)
  intro g7 w5 hg7 hs5 hb5 hB7
  have hl7 : w3.heap.size ≤ g7 := by rw [hg7.out]; exact hb4'.size
  have hn67 : g6 ≠ g7 := fun e => by have := hB6.lt; have := hg7.out; omega
  have hb5' : Below w4.heap.size w4 w5 := hb5.mono (Nat.le_of_eq hg7.out.symm)
  have hB6 := hB6.next hb5' hB6.lt
  have hb5'' := below_join hb4' hb5'
  clear hb4' hb5 hb5' hs5 hg7
  go_wp2_with (with_reducible refine wpList_put (o := ⟨none, .store 25 (.tmp 6) (.tmp 14), _, _, _, _⟩) (by with_unfolding_all rfl) 25 (.tmp 6) (.tmp 14) (by with_unfolding_all rfl) g6 0 (by with_unfolding_all rfl) (.agg part.cells.toArray) (by with_unfolding_all rfl) hB6 part.cells (by with_unfolding_all rfl) (by with_unfolding_all (rw [Pat.cells_length]; exact Tryd.szP)) (by with_unfolding_all (rw [Pat.cells_length, Pat.cells_length]; omega)) (by with_unfolding_all (exact cells_one _)) ?_)
  intro w6 hu6 hB6'
  rw [splice_all _ _ (by rw [Pat.cells_length, Pat.cells_length])] at hB6'
  have hB7 := hB7.upd hu6 (fun e => hn67 e.symm)
  have hb6 : Below w3.heap.size w3 w6 := hb5''.trans (hu6.below (B := w3.heap.size) hl6)
  clear hu6 hb5'' hB6
  go_wp2_with (with_reducible refine wpList_put (o := ⟨none, .store 23 (.tmp 7) (.tmp 15), _, _, _, _⟩) (by with_unfolding_all rfl) 23 (.tmp 7) (.tmp 15) (by with_unfolding_all rfl) g7 0 (by with_unfolding_all rfl) (.agg (H R).toArray) (by with_unfolding_all rfl) hB7 (H R) (by with_unfolding_all rfl) (by with_unfolding_all (rw [H_length]; exact Tryd.szH)) (by with_unfolding_all (rw [H_length, H_length]; omega)) (by with_unfolding_all (exact H_one _)) ?_)
  intro w7 hu7 hB7'
  have hB6 := hB6'.upd hu7 hn67
  have hb7 : Below w3.heap.size w3 w7 := hb6.trans (hu7.below (B := w3.heap.size) hl7)
  have hB4 := hB4'.next hb7 hB4'.lt
  clear hu7 hb6 hB7' hB6' hB7 hB4'
  go_wp2_with (first | (with_reducible refine wpList_get (o := ⟨some 17, .load 25 (.tmp 6), _, _, _, _⟩) (by with_unfolding_all rfl) 25 (.tmp 6) (by with_unfolding_all rfl) g6 0 (by with_unfolding_all rfl) hB6 part.cells (cs_all _) _ (by exact Tryd.underlying25) (by with_unfolding_all rfl) (by rw [Pat.cells_length]; exact Tryd.szP) ?_) | (with_reducible refine wpList_put (o := ⟨none, .store 25 (.tmp 4) (.tmp 17), _, _, _, _⟩) (by with_unfolding_all rfl) 25 (.tmp 4) (.tmp 17) (by with_unfolding_all rfl) g4 0 (by with_unfolding_all rfl) (.agg part.cells.toArray) (by with_unfolding_all rfl) hB4 part.cells (by with_unfolding_all rfl) (by with_unfolding_all (rw [Pat.cells_length]; exact Tryd.szP)) (by with_unfolding_all (rw [Pat.cells_length, Pat.cells_length]; omega)) (by with_unfolding_all (exact cells_one _)) ?_))
  intro w8 hu8 hB8
  rw [splice_all _ _ (by rw [Pat.cells_length, Pat.cells_length])] at hB8
  go_wp2
  refine bodyPost_ret (results_cell_two rfl _ _ g4 _ _ _ _ _ rfl rfl hB8 Tryd.underlying25 rfl (by rw [List.size_toArray, Pat.cells_length]; exact Tryd.szP)) rfl ⟨part, R, ok, A', c', rfl, HSR.out, ?_, HOR.out, ?_⟩
  · have hgl := HS.out.env.bl.lt
    have hgs := HS.out.env.bs.lt
    have hgn := HS.out.near.bn.lt
    have ho8 : OnlyD (fun g => g = g4) w7 w8 := OnlyD.of_upd hu8 rfl
    have h7 := HS3.out.next hb7
    by_cases hK0 : K = []
    · refine ⟨h7.env.onlyD ho8 (by omega) (by omega) (fun g o e => by have := HS.out.env.nb g o e; omega), h7.near.same (ho8.block gn h7.near.bn.lt (by omega)) (fun g hg => ho8.block g (h7.near.own.lt g hg).2 (HLT.out g hg)), h7.ba.onlyD ho8 (by omega), fun j k hj => ?_, h7.an, h7.nga, h7.sep⟩
      rw [hK0] at hj
      cases hj
    · exact h7.apart ho8 (by omega) (by omega) (by omega) (by omega) (fun g o e => by have := HS.out.env.nb g o e; omega) (fun g hg => HLT.out g hg) (fun g o e => by have := hAan.out g o e hK0; omega)
  · exact ((HO3.out.trans (OnlyD.of_below hb7)).of_new hu8 hl4)
end Go.Proofs.YtkkgfdfjgfigcaaDoor

/-
  Contract of the walk over seeker. Conditions: the patterns lie there; at most 6000.
-/
namespace Go.Proofs.YtkkgfdfjgfigcaaDoor
set_option linter.unusedVariables false
set_option linter.unusedSimpArgs false
open Go.RowKit

theorem Tryd.zeroLi : (Tryd.prog.info? 138).map (·.zero) = some (some (.slice none 0 0)) := by kernel_rfl
theorem Tryd.zeroSk : (Tryd.prog.info? 215).map (·.zero) = some (some .nilFunc) := by kernel_rfl
theorem Tryd.szSk : (Tryd.prog.info? 215).map (·.size) = some 1 := by kernel_rfl
structure SkL (gp gl gn cl : Nat) (Al : Option Addr) (l : List Pat) (p : Pat) (w : World) (j : Nat) (K : List Nat) (A : Option Addr) (c : Nat) (wr : World) : Prop where
  bp : Blk wr gp 25 p.cells
  bl : Blk wr gl 82 [.slice Al l.length cl]
  bn : Blk wr gn 138 [.slice A K.length c]
  own : wr.ownsRow w.heap.size 3 1 (.slice A K.length c) K.length (K.map nV)
  ne : ∀ g, (Value.slice A K.length c).ownBlock = some g → g ≠ gn ∧ g ≠ gl ∧ g ≠ gp
  len : K.length ≤ j
  lt : ∀ k, k ∈ K → k < l.length
  cov : ∀ i q, i < j → l[i]? = some q → p.over q → i ∈ K
  below : Below w.heap.size w wr
def SkLRel (gp gl gn cl : Nat) (Al : Option Addr) (l : List Pat) (p : Pat) (w : World) (iv : Value) (wr : World) : Prop :=
  ∃ (j : Nat) (K : List Nat) (A : Option Addr) (c : Nat), j ≤ l.length ∧ iv = .int .i64 (j : Int) ∧ SkL gp gl gn cl Al l p w j K A c wr
def SeekerPost (cl : Nat) (Al : Option Addr) (l : List Pat) (p : Pat) (w : World) (e : Ending) (w' : World) : Prop :=
  ∃ (gn gl gs ga n c : Nat) (K : List Nat) (A : Option Addr), e = .returned (.func (.func 244) #[] #[.pointer (some ⟨gs, 0, none⟩), .pointer (some ⟨ga, 0, none⟩)]) ∧ SkS gn gl gs ga w.heap.size cl n Al l K A c A c w' ∧ K.length = n ∧ n ≤ l.length ∧ (∀ k, k ∈ K → k < l.length) ∧ (∀ k q, l[k]? = some q → p.over q → k ∈ K) ∧
    Below w.heap.size w w' ∧ w.heap.size ≤ gn ∧ w.heap.size ≤ gl ∧ w.heap.size ≤ gs ∧ w.heap.size ≤ ga ∧ ∀ g, (Value.slice A n c).ownBlock = some g → w.heap.size ≤ g
set_option maxRecDepth 100000 in
set_option maxHeartbeats 1600000 in
theorem seeker_any (cl : Nat) (Al : Option Addr) (l : List Pat) (p : Pat) (w : World) (hll : l.length ≤ 6000) (hl : PatsAt w Al l) (hal : ∀ g o, Al = some ⟨g, o, none⟩ → g < w.heap.size) :
    Calls Tryd.prog 210 #[.agg p.cells.toArray, .slice Al l.length cl] w (SeekerPost cl Al l p w) := by
  obtain ⟨i0, hi, hz0, hz1, hz2⟩ := info_parts Tryd.infoI
  have HI := Lib.hid hi
  have HZ0 := Lib.hid hz0
  have HZ1 := Lib.hid hz1
  have HZ2 := Lib.hid hz2
  have HL := Lib.hid hl
  have HAL := Lib.hid hal
  obtain ⟨m, hm⟩ : ∃ m, Hid (l.length = m) := ⟨_, rfl⟩
  rw [hm.out] at hll ⊢
  clear hi hz0 hz1 hz2 hl hal
  go_enter Tryd.func210, Tryd.ntmps210
  go_wp2_with (with_reducible refine wpList_box (o := ⟨some 2, .box 25 (.tmp 0), _, _, _, _⟩) ?g1 25 (.tmp 0) ?o1 (.agg p.cells.toArray) p.cells ?x1 ?c1 ?_)
  try (case g1 => rfl)
  try (case o1 => rfl)
  try (case x1 => rfl)
  try (case c1 => rfl)
  intro gp w1 hgp hs1 hb1 hB1
  have hlp : w.heap.size ≤ gp := Nat.le_of_eq hgp.out.symm
  have hb1' : Below w.heap.size w w1 := hb1.mono hlp
  clear hb1 hs1 hgp
  go_wp2_with (with_reducible refine wpList_box (o := ⟨some 3, .box 82 (.tmp 1), _, _, _, _⟩) ?g2 82 (.tmp 1) ?o2 (.slice Al m cl) [.slice Al m cl] ?x2 ?c2 ?_)
  try (case g2 => rfl)
  try (case o2 => rfl)
  try (case x2 => rfl)
  try (case c2 => rfl)
  intro gl w2 hgl hs2 hb2 hB2
  have hlg : w.heap.size ≤ gl := by rw [hgl.out]; exact hb1'.size
  have hb2' : Below w1.heap.size w1 w2 := hb2.mono (Nat.le_of_eq hgl.out.symm)
  have hnpl : gp < gl := by have := hB1.lt; have := hgl.out; omega
  have hB1 := hB1.next hb2' hB1.lt
  have hb2'' := below_join hb1' hb2'
  clear hb1' hb2 hb2' hs2 hgl
  go_wp2_with (with_reducible refine wpList_alloc (o := ⟨some 5, .alloc 138, _, _, _, _⟩) (by with_unfolding_all rfl) 138 (by with_unfolding_all rfl) (.slice none 0 0) [.slice none 0 0] (by exact Tryd.zeroLi) (by with_unfolding_all rfl) ?_)
  intro gn w3 hgn hs3 hb3 hB3
  have hln : w.heap.size ≤ gn := by rw [hgn.out]; exact hb2''.size
  have hb3' : Below w2.heap.size w2 w3 := hb3.mono (Nat.le_of_eq hgn.out.symm)
  have hnln : gl < gn := by have := hB2.lt; have := hgn.out; omega
  have hB1 := hB1.next hb3' hB1.lt
  have hB2 := hB2.next hb3' hB2.lt
  have hb3'' := below_join hb2'' hb3'
  have hL0 : SkL gp gl gn cl Al l p w 0 [] none 0 w3 := ⟨hB1, by rw [hm.out]; exact hB2, hB3, World.ownsRow_nil _ _ _ _, fun g h => (by cases h), Nat.le_refl _, fun k h => (by cases h), fun i q h => absurd h (by omega), hb3''⟩
  have H0 := Lib.hid hL0
  have cl0 := hB2.cell (k := 0) rfl
  clear hb2'' hb3 hb3' hs3 hgn hL0 hB1 hB2 hB3 hb3''
  go_wp2
  go_loopw [11] (SkLRel gp gl gn cl Al l p w) (fun i _ => m - (intOf i).toNat)
  case atStart => exact ⟨0, [], none, 0, Nat.zero_le _, rfl, H0.out⟩
  case round =>
    clear H0 cl0
    obtain ⟨j, K, A, c, hj, rfl, hL⟩ := hrel
    rw [hm.out] at hj
    have HK := Lib.hid hL
    clear hL
    by_cases hlt : j < m
    · have hji : (j : Int) < (m : Int) := by omega
      obtain ⟨q, hq⟩ : ∃ q, l[j]? = some q := ⟨_, List.getElem?_eq_getElem (by rw [hm.out]; exact hlt)⟩
      have HQ := Lib.hid hq
      obtain ⟨ga, oa, rfl, hca⟩ := (HL.out.next (HK.out.below.mono (Nat.le_refl _))) j q hq
      have cgl := HK.out.bl.cell (k := 0) rfl
      rw [hm.out] at cgl
      have HOV := Lib.hid (overlap_any p q gp 0 ga (oa + j * 20) wr (blk_range HK.out.bp) hca)
      clear hq hca
      go_wp2_with fail
      (with_reducible refine HOV.out.mono ?_)
      rintro e w4 ⟨rfl, nn, rfl⟩
      have hbd := below_drewN wr nn
      have HK4 : Hid (SkL gp gl gn cl (some ⟨ga, oa, none⟩) l p w j K A c (wr.drewN nn)) := by
        have : SkL gp gl gn cl (some ⟨ga, oa, none⟩) l p w j K A c (wr.drewN nn) := ⟨HK.out.bp, HK.out.bl, HK.out.bn, own_keep HK.out.own (fun _ _ => rfl), HK.out.ne, HK.out.len, HK.out.lt, HK.out.cov, below_join HK.out.below hbd⟩
        exact this
      generalize wr.drewN nn = w4 at HK4 ⊢
      clear HOV HK cgl hbd
      by_cases ho : p.over q
      · rw [decide_eq_true ho]
        have HO := Lib.hid ho
        obtain ⟨n1, hn1⟩ : ∃ n1, Hid (K.length = n1) := ⟨_, rfl⟩
        obtain ⟨Y, hY⟩ : ∃ Y, Hid (K.map nV = Y) := ⟨_, rfl⟩
        have cgn := HK4.out.bn.cell (k := 0) rfl
        have hn1j : n1 ≤ j := by rw [← hn1.out]; exact HK4.out.len
        rw [hn1.out] at cgn
        clear ho
        go_wp2_with (with_reducible refine wpList_sliceI (o := ⟨some 20, .buildSlice 138 1 #[(0, .tmp 19)], _, _, _, _⟩) (by with_unfolding_all rfl) (.tmp 19) (by with_unfolding_all rfl) (j : Int) (by with_unfolding_all rfl) ?_)
        intro g20 w5 hg20 hb5 hB20
        have how : w4.ownsRow w.heap.size 3 1 (.slice A n1 c) n1 Y := by rw [← hn1.out, ← hY.out]; exact HK4.out.own
        have HOW := Lib.hid (own_keep how (fun g hg => hb5.block g (how.lt g hg).2))
        have HNW := Lib.hid (blk_add hB20)
        have HBC : Hid (w.heap.size ≤ w5.heap.size) := by
          have : w.heap.size ≤ w5.heap.size := by have := HK4.out.below.size; have := hb5.size; omega
          exact this
        have HMX : Hid (n1 + 1 ≤ maxLen) := by
          have : n1 + 1 ≤ maxLen := by unfold maxLen; omega
          exact this
        have HBY : Hid ((n1 + 1) * 8 ≤ 140737488355328) := by
          have : (n1 + 1) * 8 ≤ 140737488355328 := by omega
          exact this
        have hP5 := HK4.out.bp.next hb5 HK4.out.bp.lt
        have hL5 := HK4.out.bl.next hb5 HK4.out.bl.lt
        have hN5 := HK4.out.bn.next hb5 HK4.out.bn.lt
        have hb5' := below_join HK4.out.below hb5
        have hne5 := HK4.out.ne
        rw [hn1.out] at hne5
        have HNE := Lib.hid hne5
        have hgnl := HK4.out.bn.lt
        have hs45 := hb5.size
        have hgll := HK4.out.bl.lt
        have hgpl := HK4.out.bp.lt
        clear hb5 hB20 hg20 how hne5 cgn
        go_wp2_with (with_reducible refine wpList_appendL w5 (o := ⟨some 21, .call ⟨.builtin .append, #[.tmp 18, .tmp 20], #[138, 138]⟩, _, _, _, _⟩) (by with_unfolding_all rfl) (.tmp 18) (.tmp 20) 138 (by with_unfolding_all rfl) w.heap.size 3 i0 (.int .i64 0) 1 8 Tryd.underlying138 HI.out HZ0.out HZ1.out HZ2.out rfl (by decide) (.slice A n1 c) n1 Y (by with_unfolding_all rfl) HOW.out ⟨g20, 0, none⟩ 1 1 [.int .i64 (j : Int)] (by with_unfolding_all rfl) rfl HNW.out (one_cell1 rfl) HMX.out HBY.out HBC.out ?_)
        intro v6 w6 hown6 hgr6 hor6 _
        obtain ⟨A6, c6, rfl, _⟩ := own_shape hown6
        have hP6 := hP5.grown hgr6 (fun e => (HNE.out gp e).2.2 rfl)
        have hL6 := hL5.grown hgr6 (fun e => (HNE.out gl e).2.1 rfl)
        have hN6 := hN5.grown hgr6 (fun e => (HNE.out gn e).1 rfl)
        have hb6 : Below w.heap.size w w6 := hb5'.grown hgr6 HBC.out (fun g hg => (HOW.out.lt g hg).1)
        have hne6 : ∀ g, (Value.slice A6 (n1 + 1) c6).ownBlock = some g → g ≠ gn ∧ g ≠ gl ∧ g ≠ gp := fun g hg => by
          rcases hor6 with h | h
          · exact HNE.out g (by rw [← h]; exact hg)
          · have := h g hg
            exact ⟨by omega, by omega, by omega⟩
        have HOW6 := Lib.hid hown6
        have HNE6 := Lib.hid hne6
        clear hgr6 hor6 hown6 hne6 hP5 hL5 hN5 hb5' HOW
        go_wp2_with (with_reducible refine wpList_put (o := ⟨none, .store 138 (.tmp 5) (.tmp 21), _, _, _, _⟩) (by with_unfolding_all rfl) 138 (.tmp 5) (.tmp 21) (by with_unfolding_all rfl) gn 0 (by with_unfolding_all rfl) (.slice A6 (n1 + 1) c6) (by with_unfolding_all rfl) hN6 [(.slice A6 (n1 + 1) c6)] (by with_unfolding_all rfl) (by with_unfolding_all exact Tryd.szLi) (by with_unfolding_all simp) (by with_unfolding_all exact one_cell1 rfl) ?_)
        intro w7 hu7 hN7
        have hKl : (K ++ [j]).length = n1 + 1 := by rw [List.length_append, List.length_singleton, hn1.out]
        have hK7 : SkL gp gl gn cl (some ⟨ga, oa, none⟩) l p w (j + 1) (K ++ [j]) A6 c6 w7 := by
          refine ⟨hP6.upd hu7 (by omega), hL6.upd hu7 (by omega), by rw [hKl]; exact hN7, ?_, by rw [hKl]; exact HNE6.out, by rw [hKl]; omega, fun k hk => ?_, fun i q' hi hq' ho' => ?_, hb6.trans (hu7.below (B := w.heap.size) hln)⟩
          · rw [hKl, List.map_append, hY.out]
            exact own_keep HOW6.out (fun g hg => hu7.block g (HNE6.out g hg).1)
          · rcases List.mem_append.1 hk with hk | hk
            · exact HK4.out.lt k hk
            · rw [List.mem_singleton.1 hk, hm.out]; exact hlt
          · rcases (by omega : i < j ∨ i = j) with h | rfl
            · exact List.mem_append_left _ (HK4.out.cov i q' h hq' ho')
            · exact List.mem_append_right _ (List.mem_singleton.2 rfl)
        have HK7 := Lib.hid hK7
        clear hK7 hN7 hu7 hP6 hL6 hN6 hb6
        go_wp2
        go_roundw
        case rel => exact ⟨j + 1, K ++ [j], A6, c6, by rw [hm.out]; omega, by go_num, HK7.out⟩
        case measure => simp [intOf]; omega
      · rw [decide_eq_false ho]
        have HO := Lib.hid ho
        clear ho
        have hK7 : SkL gp gl gn cl (some ⟨ga, oa, none⟩) l p w (j + 1) K A c w4 := ⟨HK4.out.bp, HK4.out.bl, HK4.out.bn, HK4.out.own, HK4.out.ne, Nat.le_succ_of_le HK4.out.len, HK4.out.lt, fun i q' hi hq' ho' => by
          rcases (by omega : i < j ∨ i = j) with h | rfl
          · exact HK4.out.cov i q' h hq' ho'
          · rw [HQ.out] at hq'
            cases hq'
            exact absurd ho' HO.out, HK4.out.below⟩
        have HK7 := Lib.hid hK7
        clear hK7
        go_wp2
        go_roundw
        case rel => exact ⟨j + 1, K, A, c, by rw [hm.out]; omega, by go_num, HK7.out⟩
        case measure => simp [intOf]; omega
    · obtain rfl : j = m := by omega
      obtain ⟨n1, hn1⟩ : ∃ n1, Hid (K.length = n1) := ⟨_, rfl⟩
      have hgnl := HK.out.bn.lt
      have hgll := HK.out.bl.lt
      go_wp2_with (with_reducible refine wpList_alloc (o := ⟨some 7, .alloc 215, _, _, _, _⟩) (by with_unfolding_all rfl) 215 (by with_unfolding_all rfl) .nilFunc [.nilFunc] (by exact Tryd.zeroSk) (by with_unfolding_all rfl) ?_)
      intro gs w4 hgs hs4 hb4 hB4
      have hgsr : wr.heap.size ≤ gs := Nat.le_of_eq hgs.out.symm
      have hb4' : Below wr.heap.size wr w4 := hb4.mono (Nat.le_of_eq hgs.out.symm)
      clear hb4 hs4 hgs
      go_wp2_with (with_reducible refine wpList_put (o := ⟨none, .store 215 (.tmp 7) (.tmp 23), _, _, _, _⟩) (by with_unfolding_all rfl) 215 (.tmp 7) (.tmp 23) (by with_unfolding_all rfl) gs 0 (by with_unfolding_all rfl) (.func (.func 241) #[] #[.pointer (some ⟨gn, 0, none⟩), .pointer (some ⟨gl, 0, none⟩), .pointer (some ⟨gs, 0, none⟩)]) (by with_unfolding_all rfl) hB4 [(.func (.func 241) #[] #[.pointer (some ⟨gn, 0, none⟩), .pointer (some ⟨gl, 0, none⟩), .pointer (some ⟨gs, 0, none⟩)])] (by with_unfolding_all rfl) (by with_unfolding_all exact Tryd.szSk) (by with_unfolding_all simp) (by with_unfolding_all exact one_cell1 rfl) ?_)
      intro w5 hu5 hB5
      have hb5 : Below wr.heap.size wr w5 := hb4'.trans (hu5.below (B := wr.heap.size) (by omega))
      have hN5 := HK.out.bn.next hb5 HK.out.bn.lt
      rw [hn1.out] at hN5
      have hB5' : Blk w5 gs 215 [.func (.func 241) #[] #[.pointer (some ⟨gn, 0, none⟩), .pointer (some ⟨gl, 0, none⟩), .pointer (some ⟨gs, 0, none⟩)]] := hB5
      have cgn := hN5.cell (k := 0) rfl
      clear hB4 hu5 hB5 hb4'
      go_wp2_with (with_reducible refine wpList_alloc (o := ⟨some 8, .alloc 138, _, _, _, _⟩) (by with_unfolding_all rfl) 138 (by with_unfolding_all rfl) (.slice none 0 0) [.slice none 0 0] (by exact Tryd.zeroLi) (by with_unfolding_all rfl) ?_)
      intro ga w6 hga hs6 hb6 hB6
      have hgar : w5.heap.size ≤ ga := Nat.le_of_eq hga.out.symm
      have hb6' : Below w5.heap.size w5 w6 := hb6.mono (Nat.le_of_eq hga.out.symm)
      have hB5'' := hB5'.next hb6' hB5'.lt
      have hgsl := hB5'.lt
      have hb6'' := below_join hb5 hb6'
      clear hb6 hs6 hga hb6' hB5' cgn hN5
      go_wp2_with (with_reducible refine wpList_put (o := ⟨none, .store 138 (.tmp 8) (.tmp 24), _, _, _, _⟩) (by with_unfolding_all rfl) 138 (.tmp 8) (.tmp 24) (by with_unfolding_all rfl) ga 0 (by with_unfolding_all rfl) (.slice A n1 c) (by with_unfolding_all rfl) hB6 [(.slice A n1 c)] (by with_unfolding_all rfl) (by with_unfolding_all exact Tryd.szLi) (by with_unfolding_all simp) (by with_unfolding_all exact one_cell1 rfl) ?_)
      intro w7 hu7 hB7
      have hB7' : Blk w7 ga 138 [.slice A n1 c] := hB7
      have hs5 := hb5.size
      have hb7 : Below wr.heap.size wr w7 := hb6''.trans (hu7.below (B := wr.heap.size) (by omega))
      have hB57 := hB5''.upd hu7 (by omega)
      clear hB7 hu7 hb6'' hB6 hB5'' hb5
      go_wp2
      go_ret
      have hwr := HK.out.below.size
      have hown := HK.out.own
      rw [hn1.out] at hown
      have hN7 := HK.out.bn.next hb7 HK.out.bn.lt
      rw [hn1.out] at hN7
      have hne := HK.out.ne
      rw [hn1.out] at hne
      refine ⟨gn, gl, gs, ga, n1, c, K, A, rfl, ⟨⟨HK.out.bl.next hb7 HK.out.bl.lt, hB57, HL.out.next (below_join HK.out.below hb7), by omega, by omega, fun g o e => by have := HAL.out g o e; omega, fun g o e => by have := HAL.out g o e; have := hb7.size; omega⟩, ⟨hN7, own_keep hown (fun g hg => hb7.block g (hown.lt g hg).2), fun g hg => ⟨(hne g hg).1, (hne g hg).2.1, by have := (hown.lt g hg).2; omega, fun o e => by have := HAL.out g o e; have := (hown.lt g hg).1; omega⟩⟩, hB7', ?_, ?_, by omega, fun g hg => by have := (hown.lt g hg).2; omega⟩, hn1.out, by rw [← hn1.out]; exact Nat.le_trans HK.out.len (Nat.le_of_eq hm.out.symm), HK.out.lt, fun k q hk ho => HK.out.cov k q (by rw [← hm.out]; exact (List.getElem?_eq_some_iff.1 hk).1) hk ho, below_join HK.out.below hb7, hln, hlg, by omega, by omega, fun g hg => (hown.lt g hg).1⟩
      · intro k v hk
        rcases own_shape hown with ⟨A', c', hv, hsh⟩
        cases hv
        rcases hsh with ⟨_, _, h0⟩ | ⟨g, rfl, hg1, hg2⟩
        · have : K = [] := List.eq_nil_of_length_eq_zero (by rw [hn1.out]; exact h0)
          rw [this] at hk; cases hk
        · refine ⟨g, 0, rfl, ?_, fun _ => by rw [← hn1.out, Nat.zero_add]; exact (List.getElem?_eq_some_iff.1 hk).1⟩
          have hc := hown.cells (g := g) rfl k (nV v) (by rw [List.getElem?_map, hk]; rfl)
          rw [addr_mid] at hc
          rw [hb7.cell (p := ⟨g, 0 + k, none⟩) hg2]; exact hc
      · intro g o e
        rcases own_shape hown with ⟨A', c', hv, hsh⟩
        cases hv
        rcases hsh with ⟨rfl, _⟩ | ⟨g', rfl, _⟩
        · cases e
        · cases e
          exact (hne g rfl).1
end Go.Proofs.YtkkgfdfjgfigcaaDoor

/-
  Contracts of the walks over CompareHeads, for whatever words, and beyond; bounds in plain words. Conditions: none.
-/
namespace Go.Proofs.YtkkgfdfjgfigcaaDoor
set_option linter.unusedVariables false
set_option linter.unusedSimpArgs false
open Go.RowKit

set_option maxRecDepth 100000 in
set_option maxHeartbeats 1600000 in
theorem compareL_any (l r : List Nat) (w : World) (hl : l.length = 10) (hr : r.length = 10) :
    Calls Tryd.prog 208 #[.agg (l.map nV).toArray, .agg (r.map nV).toArray] w fun e w' => e = .returned (.int .i64 (cmpL l r)) ∧ Below w.heap.size w w' := by
  obtain ⟨C, hC2⟩ : ∃ C, Hid (cmpL l r = C) := ⟨_, rfl⟩
  rw [hC2.out]
  obtain ⟨X, hX⟩ : ∃ X, Hid (l.map nV = X) := ⟨_, rfl⟩
  obtain ⟨Y, hY⟩ : ∃ Y, Hid (r.map nV = Y) := ⟨_, rfl⟩
  rw [hX.out, hY.out]
  go_enter Tryd.func208, Tryd.ntmps208
  go_wp2_with (with_reducible refine wpList_box (o := ⟨some 2, .box 23 (.tmp 0), _, _, _, _⟩) ?g1 23 (.tmp 0) ?o1 (.agg X.toArray) X ?x1 ?c1 ?_)
  try (case g1 => rfl)
  try (case o1 => rfl)
  try (case x1 => rfl)
  try (case c1 => rfl)
  intro gp w1 hgp hs1 hb1 hP1
  go_wp2_with (with_reducible refine wpList_box (o := ⟨some 3, .box 23 (.tmp 1), _, _, _, _⟩) ?g2 23 (.tmp 1) ?o2 (.agg Y.toArray) Y ?x2 ?c2 ?_)
  try (case g2 => rfl)
  try (case o2 => rfl)
  try (case x2 => rfl)
  try (case c2 => rfl)
  intro gq w2 hgq hs2 hb2 hQ2
  have hle : w.heap.size ≤ gp := Nat.le_of_eq hgp.out.symm
  have hab : gp < gq := by have := hgp.out; have := hs1.out; have := hgq.out; omega
  have hP2 := hP1.next hb2 hab
  have hbel := (hb1.mono hle).trans (hb2.mono (by omega))
  clear hgp hs1 hb1 hP1 hgq hs2 hb2
  have hcut : ∀ (g : Nat) (w : World), (Instr.sliceAt 23 (.pointer (some ⟨g, 0, none⟩)) none none none).run Tryd.prog w = .ok (.slice (some ⟨g, 0, none⟩) 10 10) w := fun g w => run_cutH g w
  go_wp2
  go_quiet ((go_at_call 240; exact (scompare_any l r gp gq _ hl hr (by rw [hX.out]; exact blk_range (hP2.drewN _)) (by rw [hY.out]; exact blk_range (hQ2.drewN _))).mono fun _ _ h => ⟨h.1, _, h.2.symm⟩))
  rw [hC2.out]
  have hfin := hbel.trans ((below_drewN w2 nq).mono hbel.size)
  go_wp2
  go_ret
  exact ⟨rfl, hfin⟩
def bndN : Bnd → List Nat
  | none => [65536, 0, 0, 0, 0, 0, 0, 0, 0, 0]
  | some f => HN f
def bndV (B : Bnd) : List Value := (bndN B).map nV
theorem bndN_length (B : Bnd) : (bndN B).length = 10 := by
  cases B with
  | none => rfl
  | some f => exact HN_length f
theorem bndV_length (B : Bnd) : (bndV B).length = 10 := by unfold bndV; rw [List.length_map, bndN_length]
theorem bndV_one (B : Bnd) : ∀ u ∈ bndV B, u.oneCell' = true := nV_one _
theorem bndV_some (f : Nat → Bool) : bndV (some f) = H f := rfl
theorem cmp_bnd (f : Nat → Bool) (B : Bnd) : (0 ≤ cmpL (HN f) (bndN B)) ↔ ¬ Bnd.below B f := by
  cases B with
  | none =>
    have e : cmpL (HN f) (bndN none) = -1 := by
      have h := word_lt f 0
      show cmpL (word f 0 :: _) (65536 :: _) = -1
      unfold cmpL
      rw [if_pos h]
    rw [e]
    constructor
    · intro h; omega
    · intro h; exact absurd trivial h
  | some g =>
    show (0 ≤ cmpL (HN f) (HN g)) ↔ ¬ num f < num g
    rw [cmpL_head]
    unfold cmpH
    by_cases h1 : num f < num g
    · rw [if_pos h1]
      constructor
      · intro h; omega
      · intro h; exact absurd h1 h
    · rw [if_neg h1]
      constructor
      · intro _; exact h1
      · intro _
        split <;> omega
theorem run_buildBey (w : World) : (Instr.build 23 #[(0, .int .i64 65536)]).run Tryd.prog w = .ok (.agg (bndV none).toArray) w := by kernel_rfl
set_option maxRecDepth 100000 in
set_option maxHeartbeats 1600000 in
theorem beyond_any (w : World) :
    Calls Tryd.prog 151 #[] w fun e w' => e = .returned (.agg (bndV none).toArray) ∧ Below w.heap.size w w' := by
  go_enter Tryd.func151, Tryd.ntmps151
  obtain ⟨V, hV⟩ : ∃ V, Hid (bndV none = V) := ⟨_, rfl⟩
  have hVl : Hid (V.length = 10) := by rw [← hV.out]; exact bndV_length none
  have hV1 : Hid (∀ u ∈ V, u.oneCell' = true) := by rw [← hV.out]; exact bndV_one none
  have hrun := fun w => run_buildBey w
  rw [hV.out] at hrun ⊢
  have HR := Lib.hid hrun
  clear hrun
  go_wp2_with (with_reducible refine wpList_alloc (o := ⟨some 0, .alloc 23, _, _, _, _⟩) (by with_unfolding_all rfl) 23 (by with_unfolding_all rfl) (.agg (H no).toArray) (H no) (by exact Tryd.zeroH) (by with_unfolding_all rfl) ?_)
  intro g w1 hg hs1 hb1 hB1
  have hle : w.heap.size ≤ g := Nat.le_of_eq hg.out.symm
  have hb1' : Below w.heap.size w w1 := hb1.mono hle
  clear hb1 hs1 hg
  go_wp2_with (first | (with_reducible refine wpList_build (o := ⟨some 1, .build 23 #[(0, .const (.int .i64 65536))], _, _, _, _⟩) (by with_unfolding_all rfl) 23 #[(0, .const (.int .i64 65536))] (by with_unfolding_all rfl) #[(0, .int .i64 65536)] (by with_unfolding_all rfl) (.agg V.toArray) (by with_unfolding_all exact fun w => HR.out w) ?_) | (with_reducible refine wpList_put (o := ⟨none, .store 23 (.tmp 0) (.tmp 1), _, _, _, _⟩) (by with_unfolding_all rfl) 23 (.tmp 0) (.tmp 1) (by with_unfolding_all rfl) g 0 (by with_unfolding_all rfl) (.agg V.toArray) (by with_unfolding_all rfl) hB1 V (by with_unfolding_all rfl) (by with_unfolding_all (rw [hVl.out]; exact Tryd.szH)) (by with_unfolding_all (rw [hVl.out, H_length]; omega)) (by with_unfolding_all (exact hV1.out)) ?_))
  intro w2 hu2 hB2
  rw [splice_all _ _ (by rw [hVl.out, H_length])] at hB2
  have hb2 := hb1'.trans (hu2.below (B := w.heap.size) hle)
  go_wp2
  refine bodyPost_ret (results_cell_row rfl _ _ g _ _ _ _ rfl hB2 Tryd.underlying23 rfl (by rw [List.size_toArray, hVl.out]; exact Tryd.szH)) rfl ⟨rfl, hb2⟩
theorem least_bits {p : Pat} {g : Nat → Bool} (hp : p.ok) (h : p.hit g) : num p.b ≤ num g := num_mono fun i hi hb => by
  rw [← h i hi (hp i hi hb)]; exact hb
theorem found_none {l : List Pat} {p : Pat} {B : Bnd} (hp : p.ok) (h : ¬ Bnd.below B p.b) : Pat.found l p B B := .inr ⟨fun g hg _ hb => h (Bnd.below_le (least_bits hp hg) hb), rfl⟩
theorem found_why {l : List Pat} {p : Pat} {B : Bnd} {R : Nat → Bool} (h : Pat.why l p R) : Pat.found l p B B := .inr ⟨fun g hg ho _ => ho (Pat.why_none h g hg), rfl⟩
theorem over_ext {p p' q : Pat} (he : ∀ i, i < 160 → p.m i = true → p'.m i = true ∧ p'.b i = p.b i) (h : p'.over q) : p.over q := by
  rw [Pat.over_iff] at h ⊢
  intro i hi h1 h2
  have h3 := he i hi h2
  exact h3.2.symm.trans (h i hi h1 h3.1)
theorem upTo_ext (p : Pat) (m : Nat → Bool) (k : Nat) : ∀ i, i < 160 → p.m i = true → (p.upTo m k).m i = true ∧ (p.upTo m k).b i = p.b i := fun i _ h => ⟨by show (p.m i || _) = true; rw [h]; rfl, by show (if p.m i then p.b i else _) = _; rw [if_pos h]⟩
theorem low_ext {p : Pat} {m : Nat → Bool} {k : Nat} : ∀ i, i < 160 → p.m i = true → (p.low m k).m i = true ∧ (p.low m k).b i = p.b i := fun i hi h => ⟨by
  show upd _ k true i = true
  unfold upd
  split
  · rfl
  · exact (upTo_ext p m k i hi h).1, (upTo_ext p m k i hi h).2⟩
theorem upTo_skips {p : Pat} {m : Nat → Bool} {k : Nat} : ∀ {x : Nat}, k ≤ x → (∀ j, k ≤ j → j < x → p.m j = true) → (p.upTo m k).cells = (p.upTo m x).cells
  | 0, h, _ => by rw [show k = 0 by omega]
  | x + 1, h, hn => by
    by_cases e : k = x + 1
    · rw [e]
    · rw [upTo_skips (x := x) (by omega) fun j h1 h2 => hn j h1 (by omega)]
      exact Pat.upTo_skip (hn x (by omega) (by omega))
end Go.Proofs.YtkkgfdfjgfigcaaDoor

/-
  What leastOutside holds, at one world. Conditions: none.
-/
namespace Go.Proofs.YtkkgfdfjgfigcaaDoor
set_option linter.unusedVariables false
set_option linter.unusedSimpArgs false
open Go.RowKit

structure LoAll (gn gl gs ga base cl n ca : Nat) (Al : Option Addr) (l : List Pat) (K : List Nat) (Aa : Option Addr) (S0 S1 B7 g3 g5 g6 g7 g10 : Nat) (B : Bnd) (p : Pat) (r6 : List Value) (h : Nat → Bool) (A : Option Addr) (c : Nat) (W : World) : Prop where
  sks : SkS gn gl gs ga base cl n Al l K Aa ca A c W
  b3 : Blk W g3 25 p.cells
  b5 : Blk W g5 23 (bndV B)
  b6 : Blk W g6 23 r6
  b7 : Blk W g7 187 [.func (.func 244) #[] #[.pointer (some ⟨gs, 0, none⟩), .pointer (some ⟨ga, 0, none⟩)]]
  b10 : Blk W g10 23 (H h)
  lo : g3 < g5 ∧ g5 < g6 ∧ g6 < S0 ∧ S0 ≤ S1 ∧ S1 ≤ g7 ∧ g7 < g10 ∧ g10 < B7
  own : (S0 ≤ gn ∧ gn < S1) ∧ (S0 ≤ gl ∧ gl < S1) ∧ (S0 ≤ gs ∧ gs < S1) ∧ (S0 ≤ ga ∧ ga < S1)
  al : ∀ g o, Al = some ⟨g, o, none⟩ → g < g3
  aa : ∀ g o, Aa = some ⟨g, o, none⟩ → S0 ≤ g ∧ g < S1
  nb : ∀ g, (Value.slice A n c).ownBlock = some g → S0 ≤ g ∧ g ≠ g7 ∧ g ≠ g10
def LoD (gn g3 g6 g10 : Nat) (W : World) (g : Nat) : Prop := g = gn ∨ g = g3 ∨ g = g6 ∨ g = g10 ∨ ∃ v, Blk W gn 138 [v] ∧ v.ownBlock = some g
theorem loD_stays {gn g3 g6 g10 B : Nat} (h2 : gn < B) : StaysD (LoD gn g3 g6 g10) B := skD_stays h2
section
variable {gn gl gs ga base cl n ca : Nat} {Al : Option Addr} {l : List Pat} {K : List Nat} {Aa : Option Addr} {S0 S1 B7 g3 g5 g6 g7 g10 : Nat} {B : Bnd} {p : Pat} {r6 : List Value} {h : Nat → Bool} {A : Option Addr} {c : Nat} {W W' : World}
theorem LoAll.next (a : LoAll gn gl gs ga base cl n ca Al l K Aa S0 S1 B7 g3 g5 g6 g7 g10 B p r6 h A c W) (hb : Below W.heap.size W W') : LoAll gn gl gs ga base cl n ca Al l K Aa S0 S1 B7 g3 g5 g6 g7 g10 B p r6 h A c W' :=
  ⟨a.sks.next hb, a.b3.next hb a.b3.lt, a.b5.next hb a.b5.lt, a.b6.next hb a.b6.lt, a.b7.next hb a.b7.lt, a.b10.next hb a.b10.lt, a.lo, a.own, a.al, a.aa, a.nb⟩
theorem LoAll.core {k : Nat} (a : LoAll gn gl gs ga base cl n ca Al l K Aa S0 S1 B7 g3 g5 g6 g7 g10 B p r6 h A c W) (hu : Upd k W W') (hk : k = g3 ∨ k = g6 ∨ k = g10) : SkS gn gl gs ga base cl n Al l K Aa ca A c W' := by
  have lo := a.lo
  have own := a.own
  refine a.sks.apart (D := fun g => g = k) (OnlyD.of_upd hu rfl) (by omega) (by omega) (by omega) (by omega) (fun g o e => ?_) (fun g e => ?_) (fun g o e => ?_)
  · have := a.al g o e; omega
  · have := a.nb g e; omega
  · have := a.aa g o e; omega
theorem LoAll.put3 (a : LoAll gn gl gs ga base cl n ca Al l K Aa S0 S1 B7 g3 g5 g6 g7 g10 B p r6 h A c W) (hu : Upd g3 W W') {q : Pat} (hB : Blk W' g3 25 q.cells) : LoAll gn gl gs ga base cl n ca Al l K Aa S0 S1 B7 g3 g5 g6 g7 g10 B q r6 h A c W' :=
  have lo := a.lo
  ⟨a.core hu (.inl rfl), hB, a.b5.upd hu (by omega), a.b6.upd hu (by omega), a.b7.upd hu (by omega), a.b10.upd hu (by omega), a.lo, a.own, a.al, a.aa, a.nb⟩
theorem LoAll.put6 (a : LoAll gn gl gs ga base cl n ca Al l K Aa S0 S1 B7 g3 g5 g6 g7 g10 B p r6 h A c W) (hu : Upd g6 W W') {r : List Value} (hB : Blk W' g6 23 r) : LoAll gn gl gs ga base cl n ca Al l K Aa S0 S1 B7 g3 g5 g6 g7 g10 B p r h A c W' :=
  have lo := a.lo
  ⟨a.core hu (.inr (.inl rfl)), a.b3.upd hu (by omega), a.b5.upd hu (by omega), hB, a.b7.upd hu (by omega), a.b10.upd hu (by omega), a.lo, a.own, a.al, a.aa, a.nb⟩
theorem LoAll.put10 (a : LoAll gn gl gs ga base cl n ca Al l K Aa S0 S1 B7 g3 g5 g6 g7 g10 B p r6 h A c W) (hu : Upd g10 W W') {f : Nat → Bool} (hB : Blk W' g10 23 (H f)) : LoAll gn gl gs ga base cl n ca Al l K Aa S0 S1 B7 g3 g5 g6 g7 g10 B p r6 f A c W' :=
  have lo := a.lo
  ⟨a.core hu (.inr (.inr rfl)), a.b3.upd hu (by omega), a.b5.upd hu (by omega), a.b6.upd hu (by omega), a.b7.upd hu (by omega), hB, a.lo, a.own, a.al, a.aa, a.nb⟩
theorem LoAll.fresh {D : Nat → Prop} (a : LoAll gn gl gs ga base cl n ca Al l K Aa S0 S1 B7 g3 g5 g6 g7 g10 B p r6 h A c W) (ho : OnlyD D W W') (hD : ∀ g, D g → B7 ≤ g ∧ (Value.slice A n c).ownBlock ≠ some g) : LoAll gn gl gs ga base cl n ca Al l K Aa S0 S1 B7 g3 g5 g6 g7 g10 B p r6 h A c W' := by
  have lo := a.lo
  have own := a.own
  have key : ∀ g, g < B7 → ¬ D g := fun g hg hd => by have := (hD g hd).1; omega
  exact ⟨a.sks.apart ho (key _ (by omega)) (key _ (by omega)) (key _ (by omega)) (key _ (by omega)) (fun g o e => key _ (by have := a.al g o e; omega)) (fun g e hd => (hD g hd).2 e) (fun g o e => key _ (by have := a.aa g o e; omega)),
    a.b3.onlyD ho (key _ (by omega)), a.b5.onlyD ho (key _ (by omega)), a.b6.onlyD ho (key _ (by omega)), a.b7.onlyD ho (key _ (by omega)), a.b10.onlyD ho (key _ (by omega)), a.lo, a.own, a.al, a.aa, a.nb⟩
theorem LoAll.call {A' : Option Addr} {c' : Nat} (a : LoAll gn gl gs ga base cl n ca Al l K Aa S0 S1 B7 g3 g5 g6 g7 g10 B p r6 h A c W) (hs : SkS gn gl gs ga base cl n Al l K Aa ca A' c' W') (hor : (Value.slice A' n c').ownBlock = (Value.slice A n c).ownBlock ∨ ∀ g, (Value.slice A' n c').ownBlock = some g → W.heap.size ≤ g)
    (ho : OnlyD (fun g => g = gn ∨ (Value.slice A n c).ownBlock = some g) W W') (hB : B7 ≤ W.heap.size) : LoAll gn gl gs ga base cl n ca Al l K Aa S0 S1 B7 g3 g5 g6 g7 g10 B p r6 h A' c' W' := by
  have lo := a.lo
  have own := a.own
  have key : ∀ g, (g < S0 ∨ g = g7 ∨ g = g10) → ¬ (g = gn ∨ (Value.slice A n c).ownBlock = some g) := fun g h1 hd => by
    rcases hd with hd | hd
    · omega
    · have := a.nb g hd; omega
  exact ⟨hs, a.b3.onlyD ho (key _ (by omega)), a.b5.onlyD ho (key _ (by omega)), a.b6.onlyD ho (key _ (by omega)), a.b7.onlyD ho (key _ (by omega)), a.b10.onlyD ho (key _ (by omega)), a.lo, a.own, a.al, a.aa, fun g hg => by
    rcases hor with e | e
    · exact a.nb g (by rw [← e]; exact hg)
    · have := e g hg; exact ⟨by omega, by omega, by omega⟩⟩
theorem LoAll.keeps {Bk : Nat} (a : LoAll gn gl gs ga base cl n ca Al l K Aa S0 S1 B7 g3 g5 g6 g7 g10 B p r6 h A c W) (hk : Keeps (LoD gn g3 g6 g10) Bk W W') (hB : B7 ≤ Bk) : LoAll gn gl gs ga base cl n ca Al l K Aa S0 S1 B7 g3 g5 g6 g7 g10 B p r6 h A c W' :=
  a.fresh (OnlyD.of_keeps hk) (fun g hg => ⟨Nat.le_trans hB hg.1, fun e => hg.2 (.inr (.inr (.inr (.inr ⟨_, a.sks.near.bn, e⟩))))⟩)
theorem LoAll.real (a : LoAll gn gl gs ga base cl n ca Al l K Aa S0 S1 B7 g3 g5 g6 g7 g10 B p r6 h A c W) : Real (LoD gn g3 g6 g10) W := by
  rintro g (e | e | e | e | ⟨v, hv, e⟩)
  · rw [e]; exact a.sks.near.bn.lt
  · rw [e]; exact a.b3.lt
  · rw [e]; exact a.b6.lt
  · rw [e]; exact a.b10.lt
  · rw [blk_inj hv a.sks.near.bn] at e
    exact (a.sks.near.own.lt g e).2
theorem LoAll.turns {q : Pat} {r : List Value} {f : Nat → Bool} {A' : Option Addr} {c' : Nat} (a : LoAll gn gl gs ga base cl n ca Al l K Aa S0 S1 B7 g3 g5 g6 g7 g10 B p r6 h A c W) (a' : LoAll gn gl gs ga base cl n ca Al l K Aa S0 S1 B7 g3 g5 g6 g7 g10 B q r f A' c' W')
    (ho : OnlyD (LoD gn g3 g6 g10 W) W W') (hor : (Value.slice A' n c').ownBlock = (Value.slice A n c).ownBlock ∨ ∀ g, (Value.slice A' n c').ownBlock = some g → W.heap.size ≤ g) : Turns (LoD gn g3 g6 g10) W W' := by
  refine ⟨ho, ?_, a'.real⟩
  rintro g (e | e | e | e | ⟨v, hv, e⟩)
  · exact .inl (.inl e)
  · exact .inl (.inr (.inl e))
  · exact .inl (.inr (.inr (.inl e)))
  · exact .inl (.inr (.inr (.inr (.inl e))))
  · rw [blk_inj hv a'.sks.near.bn] at e
    rcases hor with h1 | h1
    · exact .inl (.inr (.inr (.inr (.inr ⟨_, a.sks.near.bn, h1 ▸ e⟩))))
    · exact .inr (h1 g e)
end
end Go.Proofs.YtkkgfdfjgfigcaaDoor

/-
  Contract of the walk over leastOutside. Conditions: right patterns; at most 6000 of them.
-/
namespace Go.Proofs.YtkkgfdfjgfigcaaDoor
set_option linter.unusedVariables false
set_option linter.unusedSimpArgs false
open Go.RowKit

attribute [local go_sem] Oper.semAt_some
theorem Tryd.zeroFp : (Tryd.prog.info? 187).map (·.zero) = some (some .nilFunc) := by kernel_rfl
theorem Tryd.szFp : (Tryd.prog.info? 187).map (·.size) = some 1 := by kernel_rfl
theorem word_and_bit (f : Nat → Bool) (x : Nat) : bits .and .i64 (word f (x / 16) : Int) ((2 ^ (15 - x % 16) : Nat) : Int) = ((if f x then 2 ^ (15 - x % 16) else 0 : Nat) : Int) := by
  rw [and_nat _ _ (word_lt _ _) (pow_le16 x), Nat.and_comm, bit_and]
theorem hit_high {p : Pat} {m h : Nat → Bool} {x : Nat} (hp : p.m x = false) (hm : m x = true) (hh : (p.upTo m x).hit h) (hx : h x = true) : (p.upTo m (x + 1)).hit h := by
  rw [← Pat.hit_congr (Pat.high_next hp hm)]
  intro i hi hmi
  show upd (p.low m x).b x true i = h i
  unfold upd
  by_cases e : i = x
  · rw [if_pos e, e, hx]
  · rw [if_neg e]
    have h1 : upd (p.upTo m x).m x true i = true := hmi
    unfold upd at h1
    rw [if_neg e] at h1
    exact hh i hi h1
theorem LoAll.pat {gn gl gs ga base cl n ca : Nat} {Al : Option Addr} {l : List Pat} {K : List Nat} {Aa : Option Addr} {S0 S1 B7 g3 g5 g6 g7 g10 : Nat} {B : Bnd} {p q : Pat} {r6 : List Value} {h : Nat → Bool} {A : Option Addr} {c : Nat} {W : World} (a : LoAll gn gl gs ga base cl n ca Al l K Aa S0 S1 B7 g3 g5 g6 g7 g10 B p r6 h A c W) (e : p.cells = q.cells) : LoAll gn gl gs ga base cl n ca Al l K Aa S0 S1 B7 g3 g5 g6 g7 g10 B q r6 h A c W :=
  ⟨a.sks, by rw [← e]; exact a.b3, a.b5, a.b6, a.b7, a.b10, a.lo, a.own, a.al, a.aa, a.nb⟩
def freeF (p : Pat) : Nat → Bool := fun i => yes i && !p.m i
theorem LoAll.dlow {gn gl gs ga base cl n ca : Nat} {Al : Option Addr} {l : List Pat} {K : List Nat} {Aa : Option Addr} {S0 S1 B7 g3 g5 g6 g7 g10 : Nat} {B : Bnd} {p : Pat} {r6 : List Value} {h : Nat → Bool} {A : Option Addr} {c : Nat} {W : World} (a : LoAll gn gl gs ga base cl n ca Al l K Aa S0 S1 B7 g3 g5 g6 g7 g10 B p r6 h A c W) : ∀ g, LoD gn g3 g6 g10 W g → g3 ≤ g := by
  have lo := a.lo
  have own := a.own
  rintro g (e | e | e | e | ⟨v, hv, e⟩)
  · omega
  · omega
  · omega
  · omega
  · rw [blk_inj hv a.sks.near.bn] at e
    have := a.nb g e
    omega
/-- Between two rounds of leastOutside. -/
structure LoI (gn gl gs ga base cl n ca : Nat) (Al : Option Addr) (l : List Pat) (K : List Nat) (Aa : Option Addr) (S0 S1 B7 g3 g5 g6 g7 g10 : Nat) (B : Bnd) (p : Pat) (mm : Nat → Bool) (w : World) (s : List Nat) (W : World) : Prop where
  ex : ∃ (k : Nat) (h : Nat → Bool) (A2 : Option Addr) (c2 : Nat), k ≤ 160 ∧ onesTo (freeF p) k = s ∧ LoAll gn gl gs ga base cl n ca Al l K Aa S0 S1 B7 g3 g5 g6 g7 g10 B (p.upTo mm k) (H no) h A2 c2 W ∧ (p.upTo mm k).hit h ∧ ¬ Pat.inSome l h ∧ Bnd.below B (p.upTo mm k).b
  bw : Below w.heap.size w W
/-- When it leaves. -/
structure LoX (gn gl gs ga base cl n ca : Nat) (Al : Option Addr) (l : List Pat) (K : List Nat) (Aa : Option Addr) (S0 S1 B7 g3 g5 g6 g7 g10 : Nat) (B : Bnd) (p : Pat) (w : World) (W : World) : Prop where
  ex : ∃ (Rb : Bnd) (q : Pat) (h : Nat → Bool) (A2 : Option Addr) (c2 : Nat), LoAll gn gl gs ga base cl n ca Al l K Aa S0 S1 B7 g3 g5 g6 g7 g10 B q (bndV Rb) h A2 c2 W ∧ Pat.found l p B Rb
  bw : Below w.heap.size w W
theorem leave_plain {nn : Nat} {fn : Func} {R : Ending → World → Prop} {tmps : Array Value} {W : World} {u : Value} (hr : (results fn tmps).run Tryd.prog W = .ok u W) (hR : R (.returned u) W) : NoPanic (bodyPostM Fence.wide nn Tryd.prog fn R) .ret { tmps := tmps, defers := [] } W := ⟨u, hr, hR⟩
set_option maxRecDepth 100000 in
set_option maxHeartbeats 3200000 in
theorem leastOutside_any (cl : Nat) (Al : Option Addr) (l : List Pat) (p : Pat) (B : Bnd) (w : World) (hok : ∀ q, q ∈ l → q.ok) (hp : p.ok) (hll : l.length ≤ 6000) (hl : PatsAt w Al l) (hal : ∀ g o, Al = some ⟨g, o, none⟩ → g < w.heap.size) :
    Calls Tryd.prog 150 #[.agg p.cells.toArray, .slice Al l.length cl, .agg (bndV B).toArray] w fun e w' => ∃ R, e = .returned (.agg (bndV R).toArray) ∧ Pat.found l p B R ∧ Below w.heap.size w w' := by
  have HOK := Lib.hid hok
  have HP := Lib.hid hp
  have HLL := Lib.hid hll
  have HL := Lib.hid hl
  have HAL := Lib.hid hal
  obtain ⟨V, hV⟩ : ∃ V, Hid (bndV B = V) := ⟨_, rfl⟩
  have hVl : Hid (V.length = 10) := by rw [← hV.out]; exact bndV_length B
  have hV1 : Hid (∀ u ∈ V, u.oneCell' = true) := by rw [← hV.out]; exact bndV_one B
  rw [hV.out]
  obtain ⟨ll, hm⟩ : ∃ m, Hid (l.length = m) := ⟨_, rfl⟩
  rw [hm.out]
  obtain ⟨C, hC⟩ : ∃ C, Hid (cmpL (HN p.b) (bndN B) = C) := ⟨_, rfl⟩
  have hunP := Tryd.underlying25
  have hunH := Tryd.underlying23
  have hzp : (Tryd.prog.info? 25).map (·.size) = some p.cells.length := by rw [Pat.cells_length]; exact Tryd.szP
  have hzV : (Tryd.prog.info? 23).map (·.size) = some V.length := by rw [hVl.out]; exact Tryd.szH
  have hcmp : ∀ W, Calls Tryd.prog 208 #[.agg (H p.b).toArray, .agg V.toArray] W fun e w' => e = .returned (.int .i64 C) ∧ Below W.heap.size W w' := fun W => by
    have := compareL_any (HN p.b) (bndN B) W (HN_length _) (bndN_length _)
    rw [hC.out] at this
    rw [← hV.out]; exact this
  have HCMP := Lib.hid hcmp
  clear hok hp hll hl hal hcmp
  refine callsIn_wide.1 (callsIn_of_wp_marks (n := 5) Tryd.func150 rfl trivial (wpIn_wide.2 (wp_calm ?_)) rfl)
  simp only [Tryd.ntmps150, List.size_toArray, List.length_cons, List.length_nil, Nat.reduceAdd, Nat.reduceSub, Array.replicate_succ, Array.replicate_zero, List.push_toArray, List.append_toArray, List.nil_append, List.cons_append]
  go_wp2_with (with_reducible refine wpList_box (o := ⟨some 3, .box 25 (.tmp 0), _, _, _, _⟩) ?g1 25 (.tmp 0) ?o1 (.agg p.cells.toArray) p.cells ?x1 ?c1 ?_)
  try (case g1 => rfl)
  try (case o1 => rfl)
  try (case x1 => rfl)
  try (case c1 => rfl)
  intro g3 w1 hg3 hs1 hb1 hB3
  have hl3 : w.heap.size ≤ g3 := Nat.le_of_eq hg3.out.symm
  have hb1' : Below w.heap.size w w1 := hb1.mono hl3
  clear hb1 hs1 hg3
  go_wp2_with (with_reducible refine wpList_box (o := ⟨some 5, .box 23 (.tmp 2), _, _, _, _⟩) ?g2 23 (.tmp 2) ?o2 (.agg V.toArray) V ?x2 ?c2 ?_)
  try (case g2 => rfl)
  try (case o2 => rfl)
  try (case x2 => rfl)
  try (case c2 => rfl)
  intro g5 w2 hg5 hs2 hb2 hB5
  have hb2' : Below w1.heap.size w1 w2 := hb2.mono (Nat.le_of_eq hg5.out.symm)
  have hn35 : g3 < g5 := by have := hB3.lt; have := hg5.out; omega
  have hB3 := hB3.next hb2' hB3.lt
  have hb2'' := below_join hb1' hb2'
  clear hb1' hb2 hb2' hs2 hg5
  go_wp2_with (with_reducible refine wpList_alloc (o := ⟨some 6, .alloc 23, _, _, _, _⟩) (by with_unfolding_all rfl) 23 (by with_unfolding_all rfl) (.agg (H no).toArray) (H no) (by exact Tryd.zeroH) (by with_unfolding_all rfl) ?_)
  intro g6 w3 hg6 hs3 hb3 hB6
  have hb3' : Below w2.heap.size w2 w3 := hb3.mono (Nat.le_of_eq hg6.out.symm)
  have hn56 : g5 < g6 := by have := hB5.lt; have := hg6.out; omega
  have hB3 := hB3.next hb3' hB3.lt
  have hB5 := hB5.next hb3' hB5.lt
  have hb3'' := below_join hb2'' hb3'
  have hg6l := hB6.lt
  clear hb2'' hb3 hb3' hs3 hg6
  go_wp2
  refine wp_region_held_drew (S := fun w' => w'.rangeAt g3 0 p.cells ∧ w'.rangeAt g5 0 V) (by kernel_rfl) ⟨blk_range (hB3.next (below_drew w3) hB3.lt), blk_range (hB5.next (below_drew w3) hB5.lt)⟩ (fun hHeld => ?_)
  have hB3 := hB3.next (below_drew w3) hB3.lt
  have hB5 := hB5.next (below_drew w3) hB5.lt
  have hB6 := hB6.next (below_drew w3) hB6.lt
  have hb4 := below_join hb3'' (below_drew w3)
  have hg6l : g6 < w3.drew.heap.size := hg6l
  clear hb3''
  generalize w3.drew = w4 at hB3 hB5 hB6 hb4 hg6l hHeld ⊢
  refine' wpAnyH_take (i := 0) (v := _) rfl (by kernel_rfl) (by kernel_rfl) (by kernel_rfl) (fun _ _ _ h => h) (yieldsIf_load_mid (by rfl) _ _ (by rfl) _ _ (by rfl) _ _ ?Sv0 ?uv0 ?dv0 ?iv0) (by assumption) ?rv0
  case Sv0 => exact (by intro w h; exact h.1)
  case uv0 => exact hunP
  case dv0 => rfl
  case iv0 => exact hzp
  (try simp only [List.getElem_toArray, List.getElem_cons_zero, Act.put, List.setIfInBounds_toArray, List.set_cons_zero, List.set_cons_succ])
  refine' wpAnyH_take (i := 2) (v := _) rfl (by kernel_rfl) (by kernel_rfl) (by kernel_rfl) (fun _ _ _ h => h) (yieldsIf_load_mid (by rfl) _ _ (by rfl) _ _ (by rfl) _ _ ?Sv2 ?uv2 ?dv2 ?iv2) (by assumption) ?rv2
  case Sv2 => exact (by intro w h; exact h.2)
  case uv2 => exact hunH
  case dv2 => rfl
  case iv2 => exact hzV
  (try simp only [List.getElem_toArray, List.getElem_cons_succ, List.getElem_cons_zero, Act.put, List.setIfInBounds_toArray, List.set_cons_zero, List.set_cons_succ])
  refine wpAnyH_ready (rs := [1]) (by kernel_rfl) (by simp) ?_
  refine AllReadyH.cons rfl (fun K hK => ?_) AllReadyH.nil
  go_simp
  go_wp2_with fail
  (with_reducible refine (least_any p _).mono ?_)
  rintro e w5 ⟨rfl, hb5⟩
  have hB3 := hB3.next hb5 hB3.lt
  have hB5 := hB5.next hb5 hB5.lt
  have hB6 := hB6.next hb5 hB6.lt
  have hb5' := below_join hb4 hb5
  refine hK.out _ _ ⟨blk_range hB3, blk_range hB5⟩ (fun hHeld => ?_)
  clear hK K hb4 hb5
  refine wpAnyH_ready (rs := [3]) (by kernel_rfl) (by simp) ?_
  refine AllReadyH.cons rfl (fun K hK => ?_) AllReadyH.nil
  go_simp
  go_wp2_with fail
  (with_reducible refine (HCMP.out _).mono ?_)
  rintro e w6 ⟨rfl, hb6⟩
  have hB3 := hB3.next hb6 hB3.lt
  have hB5 := hB5.next hb6 hB5.lt
  have hB6 := hB6.next hb6 hB6.lt
  have hb6' := below_join hb5' hb6
  have hg6l : g6 < w6.heap.size := hB6.lt
  refine hK.out _ _ ⟨blk_range hB3, blk_range hB5⟩ (fun hHeld => ?_)
  clear hK K hb5' hb6
  refine wpAnyH_take (i := 4) (v := ?vv4) rfl (by kernel_rfl) (by kernel_rfl) (by kernel_rfl) (fun _ _ _ h => h) (Or.inl ⟨by rfl, ?yv4⟩) (by assumption) ?rv4
  case yv4 => intro w hSw; (try dsimp only at hSw); go_simp <;> (try with_reducible rfl)
  (try simp only [List.getElem_toArray, List.getElem_cons_succ, List.getElem_cons_zero, Act.put, List.setIfInBounds_toArray, List.set_cons_zero, List.set_cons_succ])
  refine wpAnyH_done (by kernel_rfl) ?_ _
  clear hHeld
  by_cases hge : 0 ≤ C
  · have hfo : Pat.found l p B B := found_none HP.out ((cmp_bnd p.b B).1 (by rw [hC.out]; exact hge))
    have HFO := Lib.hid hfo
    clear hfo
    go_wp2_with (first | (with_reducible refine wpList_get (o := ⟨some 20, .load 23 (.tmp 5), _, _, _, _⟩) (by with_unfolding_all rfl) 23 (.tmp 5) (by with_unfolding_all rfl) g5 0 (by with_unfolding_all rfl) hB5 V (cs_all _) _ (by exact Tryd.underlying23) (by with_unfolding_all rfl) (by rw [hVl.out]; exact Tryd.szH) ?_) | (with_reducible refine wpList_put (o := ⟨none, .store 23 (.tmp 6) (.tmp 20), _, _, _, _⟩) (by with_unfolding_all rfl) 23 (.tmp 6) (.tmp 20) (by with_unfolding_all rfl) g6 0 (by with_unfolding_all rfl) (.agg V.toArray) (by with_unfolding_all rfl) hB6 V (by with_unfolding_all rfl) (by with_unfolding_all (rw [hVl.out]; exact Tryd.szH)) (by with_unfolding_all (rw [hVl.out, H_length]; omega)) (by with_unfolding_all (exact hV1.out)) ?_))
    intro w7 hu7 hB7
    rw [splice_all _ _ (by rw [hVl.out, H_length])] at hB7
    have hb7 := hb6'.trans (hu7.below (B := w.heap.size) (by omega))
    go_wp2
    exact leave_plain (results_cell_row rfl _ _ g6 _ _ _ _ rfl hB7 Tryd.underlying23 rfl (by rw [List.size_toArray, hVl.out]; exact Tryd.szH)) ⟨B, by rw [hV.out], HFO.out, hb7⟩
  · have hbl : Bnd.below B p.b := by
      have := (cmp_bnd p.b B).2
      rw [hC.out] at this
      exact Classical.byContradiction fun hc => hge (this hc)
    have HBL := Lib.hid hbl
    clear hbl
    have hsk := seeker_any cl Al l p w6 HLL.out (HL.out.next hb6') (fun g o e => by have := HAL.out g o e; have := hb6'.size; omega)
    rw [hm.out] at hsk
    have HSKR := Lib.hid hsk
    clear hsk
    go_wp2_with (first | (with_reducible refine wpList_get (o := ⟨some 21, .load 25 (.tmp 3), _, _, _, _⟩) (by with_unfolding_all rfl) 25 (.tmp 3) (by with_unfolding_all rfl) g3 0 (by with_unfolding_all rfl) hB3 p.cells (cs_all _) _ (by exact Tryd.underlying25) (by with_unfolding_all rfl) (by rw [Pat.cells_length]; exact Tryd.szP) ?_) | fail)
    (with_reducible refine HSKR.out.mono ?_)
    rintro e w7 ⟨gn, gl, gs, ga, n, c, K, A, rfl, hsks, hKn, hnl, hKlt, hcov, hb7, hgn, hgl, hgs, hga, hAb⟩
    have hB3 := hB3.next hb7 hB3.lt
    have hB5 := hB5.next hb7 hB5.lt
    have hB6 := hB6.next hb7 hB6.lt
    have hb7' := below_join hb6' hb7
    obtain ⟨S0, hS0⟩ : ∃ S0, Hid (w6.heap.size = S0) := ⟨_, rfl⟩
    obtain ⟨S1, hS1⟩ : ∃ S1, Hid (w7.heap.size = S1) := ⟨_, rfl⟩
    have hS01 : S0 ≤ S1 := by rw [← hS0.out, ← hS1.out]; exact hb7.size
    rw [hS0.out] at hsks hgn hgl hgs hga hAb hg6l
    have hOwn : Hid ((S0 ≤ gn ∧ gn < S1) ∧ (S0 ≤ gl ∧ gl < S1) ∧ (S0 ≤ gs ∧ gs < S1) ∧ (S0 ≤ ga ∧ ga < S1)) := by
      have : (S0 ≤ gn ∧ gn < S1) ∧ (S0 ≤ gl ∧ gl < S1) ∧ (S0 ≤ gs ∧ gs < S1) ∧ (S0 ≤ ga ∧ ga < S1) := by
        rw [← hS1.out]
        exact ⟨⟨hgn, hsks.near.bn.lt⟩, ⟨hgl, hsks.env.bl.lt⟩, ⟨hgs, hsks.env.bs.lt⟩, ⟨hga, hsks.ba.lt⟩⟩
      exact this
    have hAal : Hid (∀ g, (Value.slice A n c).ownBlock = some g → S0 ≤ g ∧ g < S1) := by
      have : ∀ g, (Value.slice A n c).ownBlock = some g → S0 ≤ g ∧ g < S1 := fun g hg => ⟨hAb g hg, by rw [← hS1.out]; exact (hsks.near.own.lt g hg).2⟩
      exact this
    have hAa : Hid (∀ g o, A = some ⟨g, o, none⟩ → S0 ≤ g ∧ g < S1) := by
      have : ∀ g o, A = some ⟨g, o, none⟩ → S0 ≤ g ∧ g < S1 := fun g o e => hAal.out g (by rw [e]; rfl)
      exact this
    have hn6000 : n ≤ 6000 := by have := HLL.out; omega
    have HSKS := Lib.hid hsks
    have HKN := Lib.hid hKn
    have HKLT := Lib.hid hKlt
    have HCOV := Lib.hid hcov
    have hS0l : S0 ≤ w7.heap.size := by rw [hS1.out]; exact hS01
    clear hsks hgn hgl hgs hga hAb hKn hKlt hcov hb7 hb6' hnl HSKR
    go_wp2_with (with_reducible refine wpList_alloc (o := ⟨some 7, .alloc 187, _, _, _, _⟩) (by with_unfolding_all rfl) 187 (by with_unfolding_all rfl) .nilFunc [.nilFunc] (by exact Tryd.zeroFp) (by with_unfolding_all rfl) ?_)
    intro g7 w8 hg7 hs8 hb8 hB7
    have hl7 : S1 ≤ g7 := by rw [hg7.out, hS1.out]; exact Nat.le_refl _
    have hb8' : Below w7.heap.size w7 w8 := hb8.mono (Nat.le_of_eq hg7.out.symm)
    clear hb8 hs8 hg7
    go_wp2_with (with_reducible refine wpList_put (o := ⟨none, .store 187 (.tmp 7) (.tmp 23), _, _, _, _⟩) (by with_unfolding_all rfl) 187 (.tmp 7) (.tmp 23) (by with_unfolding_all rfl) g7 0 (by with_unfolding_all rfl) (.func (.func 244) #[] #[.pointer (some ⟨gs, 0, none⟩), .pointer (some ⟨ga, 0, none⟩)]) (by with_unfolding_all rfl) hB7 [(.func (.func 244) #[] #[.pointer (some ⟨gs, 0, none⟩), .pointer (some ⟨ga, 0, none⟩)])] (by with_unfolding_all rfl) (by with_unfolding_all exact Tryd.szFp) (by with_unfolding_all simp) (by with_unfolding_all exact one_cell1 rfl) ?_)
    intro w9 hu9 hB7x
    have hB7' : Blk w9 g7 187 [.func (.func 244) #[] #[.pointer (some ⟨gs, 0, none⟩), .pointer (some ⟨ga, 0, none⟩)]] := hB7x
    have hb9 : Below w7.heap.size w7 w9 := hb8'.trans (hu9.below (B := w7.heap.size) (by rw [hS1.out]; exact hl7))
    have hB3 := hB3.next hb9 hB3.lt
    have hB5 := hB5.next hb9 hB5.lt
    have hB6 := hB6.next hb9 hB6.lt
    have HSKS9 := Lib.hid (HSKS.out.next hb9)
    have hb9' := below_join hb7' hb9
    have c7 := hB7'.cell (k := 0) rfl
    have hS0l9 : S0 ≤ w9.heap.size := by have := hb9.size; omega
    have hg7l := hB7'.lt
    clear hb8' hu9 hB7x hB7 hb9 hb7' HSKS
    have hseek := seek2_any gn gl gs ga S0 cl n c c Al A A l K p w9 HOK.out (by have := HLL.out; omega) HP.out hS0l9 hn6000 HKN.out HKLT.out HCOV.out HSKS9.out
    have HSEEK := Lib.hid hseek
    clear hseek
    go_wp2_with (first | (with_reducible refine wpList_get (o := ⟨some 26, .load 25 (.tmp 3), _, _, _, _⟩) (by with_unfolding_all rfl) 25 (.tmp 3) (by with_unfolding_all rfl) g3 0 (by with_unfolding_all rfl) hB3 p.cells (cs_all _) _ (by exact Tryd.underlying25) (by with_unfolding_all rfl) (by rw [Pat.cells_length]; exact Tryd.szP) ?_) | fail)
    (with_reducible refine HSEEK.out.mono ?_)
    rintro e w10 ⟨part, R, ok, A', c', rfl, hsr, hsks, hor, ho⟩
    have key : Hid (∀ g, (g < S0 ∨ S1 ≤ g) → ¬ (g = gn ∨ (Value.slice A n c).ownBlock = some g)) := by
      have : ∀ g, (g < S0 ∨ S1 ≤ g) → ¬ (g = gn ∨ (Value.slice A n c).ownBlock = some g) := fun g h1 hd => by
        have := hOwn.out
        rcases hd with hd | hd
        · omega
        · have := hAal.out g hd; omega
      exact this
    have hB3 := hB3.onlyD ho (key.out _ (by omega))
    have hB5 := hB5.onlyD ho (key.out _ (by omega))
    have hB6 := hB6.onlyD ho (key.out _ (by omega))
    have hB7' := hB7'.onlyD ho (key.out _ (by omega))
    have hw6 : w.heap.size ≤ S0 := by omega
    have hb10 : Below w.heap.size w w10 := hb9'.trans (ho.below (fun g hd => by
      rcases hd with hd | hd
      · have := hOwn.out; omega
      · have := hAal.out g hd; omega) hb9'.size)
    have hnb : ∀ g, (Value.slice A' n c').ownBlock = some g → S0 ≤ g ∧ g ≠ g7 ∧ g < w10.heap.size := fun g hg => by
      have hlt := (hsks.near.own.lt g hg).2
      rcases hor with h | h
      · have := hAal.out g (by rw [← h]; exact hg); exact ⟨this.1, by omega, hlt⟩
      · have := h g hg; exact ⟨by omega, by omega, hlt⟩
    have HNB := Lib.hid hnb
    have HSKS := Lib.hid hsks
    have HSR := Lib.hid hsr
    clear hsr hsks hor hnb ho HSEEK HSKS9 hb9' c7
    have hg7w : g7 < w10.heap.size := hB7'.lt
    go_wp2_with (with_reducible refine wpList_alloc (o := ⟨some 8, .alloc 25, _, _, _, _⟩) (by with_unfolding_all rfl) 25 (by with_unfolding_all rfl) (.agg (H no ++ H no).toArray) (H no ++ H no) (by exact Tryd.zeroPt) (by with_unfolding_all rfl) ?_)
    intro g8 w11 hg8 hs11 hb11 hB8
    rw [cells_zero] at hB8
    have hl8 : w10.heap.size ≤ g8 := Nat.le_of_eq hg8.out.symm
    have hb11' : Below w10.heap.size w10 w11 := hb11.mono hl8
    clear hb11 hs11 hg8
    go_wp2_with (with_reducible refine wpList_put (o := ⟨none, .store 25 (.tmp 8) (.tmp 28), _, _, _, _⟩) (by with_unfolding_all rfl) 25 (.tmp 8) (.tmp 28) (by with_unfolding_all rfl) g8 0 (by with_unfolding_all rfl) (.agg part.cells.toArray) (by with_unfolding_all rfl) hB8 part.cells (by with_unfolding_all rfl) (by with_unfolding_all (rw [Pat.cells_length]; exact Tryd.szP)) (by with_unfolding_all (rw [Pat.cells_length, Pat.cells_length]; omega)) (by with_unfolding_all (exact cells_one _)) ?_)
    intro w12 hu12 hB8'
    rw [splice_all _ _ (by rw [Pat.cells_length, Pat.cells_length])] at hB8'
    have hb12 : Below w10.heap.size w10 w12 := hb11'.trans (hu12.below (B := w10.heap.size) hl8)
    have hB3 := hB3.next hb12 hB3.lt
    have hB5 := hB5.next hb12 hB5.lt
    have hB6 := hB6.next hb12 hB6.lt
    have hB7' := hB7'.next hb12 hB7'.lt
    have HSKS2 := Lib.hid (HSKS.out.next hb12)
    have hb12' := below_join hb10 hb12
    have hs12 := hb12.size
    clear hb11' hu12 hB8 hb12 HSKS hb10
    cases ok with
    | false =>
      have hfo : Pat.found l p B B := by
        rcases HSR.out with ⟨h, _⟩ | ⟨_, h⟩
        · cases h
        · exact found_why h
      have HFO := Lib.hid hfo
      clear hfo
      go_wp2_with (first | (with_reducible refine wpList_get (o := ⟨some 32, .load 23 (.tmp 5), _, _, _, _⟩) (by with_unfolding_all rfl) 23 (.tmp 5) (by with_unfolding_all rfl) g5 0 (by with_unfolding_all rfl) hB5 V (cs_all _) _ (by exact Tryd.underlying23) (by with_unfolding_all rfl) (by rw [hVl.out]; exact Tryd.szH) ?_) | (with_reducible refine wpList_put (o := ⟨none, .store 23 (.tmp 6) (.tmp 32), _, _, _, _⟩) (by with_unfolding_all rfl) 23 (.tmp 6) (.tmp 32) (by with_unfolding_all rfl) g6 0 (by with_unfolding_all rfl) (.agg V.toArray) (by with_unfolding_all rfl) hB6 V (by with_unfolding_all rfl) (by with_unfolding_all (rw [hVl.out]; exact Tryd.szH)) (by with_unfolding_all (rw [hVl.out, H_length]; omega)) (by with_unfolding_all (exact hV1.out)) ?_))
      intro w13 hu13 hB13
      rw [splice_all _ _ (by rw [hVl.out, H_length])] at hB13
      have hb13 := hb12'.trans (hu13.below (B := w.heap.size) (by omega))
      go_wp2
      exact leave_plain (results_cell_row rfl _ _ g6 _ _ _ _ rfl hB13 Tryd.underlying23 rfl (by rw [List.size_toArray, hVl.out]; exact Tryd.szH)) ⟨B, by rw [hV.out], HFO.out, hb13⟩
    | true =>
      have hcl : Pat.clear l p part := by
        rcases HSR.out with ⟨_, h⟩ | ⟨h, _⟩
        · exact h
        · cases h
      obtain ⟨mm, hmm⟩ := Pat.least_any (l := l) (p := p) (num part.b + 1) part.b (Nat.lt_succ_self _) (Pat.clear_hit hcl) (Pat.clear_out hcl)
      have HMM := Lib.hid hmm
      have HCL := Lib.hid hcl
      clear hmm hcl
      go_wp2_with (first | (with_reducible refine wpList_get (o := ⟨some 33, .load 25 (.tmp 8), _, _, _, _⟩) (by with_unfolding_all rfl) 25 (.tmp 8) (by with_unfolding_all rfl) g8 0 (by with_unfolding_all rfl) hB8' part.cells (cs_all _) _ (by exact Tryd.underlying25) (by with_unfolding_all rfl) (by rw [Pat.cells_length]; exact Tryd.szP) ?_) | fail)
      (with_reducible refine (least_any part _).mono ?_)
      rintro e w13 ⟨rfl, hb13⟩
      have hB3 := hB3.next hb13 hB3.lt
      have hB5 := hB5.next hb13 hB5.lt
      have hB6 := hB6.next hb13 hB6.lt
      have hB7' := hB7'.next hb13 hB7'.lt
      have HSKS3 := Lib.hid (HSKS2.out.next hb13)
      have hb13' := below_join hb12' hb13
      have hg713 : g7 < w13.heap.size := hB7'.lt
      have hs13 := hb13.size
      clear hb13 hb12' HSKS2 hB8'
      go_wp2_with (with_reducible refine wpList_alloc (o := ⟨some 10, .alloc 23, _, _, _, _⟩) (by with_unfolding_all rfl) 23 (by with_unfolding_all rfl) (.agg (H no).toArray) (H no) (by exact Tryd.zeroH) (by with_unfolding_all rfl) ?_)
      intro g10 w14 hg10 hs14 hb14 hB10
      have hl10 : w13.heap.size ≤ g10 := Nat.le_of_eq hg10.out.symm
      have hb14' : Below w13.heap.size w13 w14 := hb14.mono hl10
      clear hb14 hs14 hg10
      go_wp2_with (with_reducible refine wpList_put (o := ⟨none, .store 23 (.tmp 10) (.tmp 34), _, _, _, _⟩) (by with_unfolding_all rfl) 23 (.tmp 10) (.tmp 34) (by with_unfolding_all rfl) g10 0 (by with_unfolding_all rfl) (.agg (H part.b).toArray) (by with_unfolding_all rfl) hB10 (H part.b) (by with_unfolding_all rfl) (by with_unfolding_all (rw [H_length]; exact Tryd.szH)) (by with_unfolding_all (rw [H_length, H_length]; omega)) (by with_unfolding_all (exact H_one _)) ?_)
      intro w15 hu15 hB10'
      rw [splice_all _ _ (by rw [H_length, H_length])] at hB10'
      have hb15 : Below w13.heap.size w13 w15 := hb14'.trans (hu15.below (B := w13.heap.size) hl10)
      have hB3 := hB3.next hb15 hB3.lt
      have hB5 := hB5.next hb15 hB5.lt
      have hB6 := hB6.next hb15 hB6.lt
      have hB7' := hB7'.next hb15 hB7'.lt
      have HSKS4 := Lib.hid (HSKS3.out.next hb15)
      have hb15' := below_join hb13' hb15
      clear hb14' hu15 hB10 hb15 HSKS3 hb13'
      have hg10l := hB10'.lt
      go_wp2
      have hLo : LoAll gn gl gs ga S0 cl n c Al l K A S0 S1 w15.heap.size g3 g5 g6 g7 g10 B (p.upTo mm 0) (H no) part.b A' c' w15 := ⟨HSKS4.out, by rw [Pat.upTo_zero HP.out]; exact hB3, by rw [hV.out]; exact hB5, hB6, hB7', hB10', by omega, hOwn.out, fun g o e => by have := HAL.out g o e; omega, hAa.out, fun g hg => by have := HNB.out g hg; exact ⟨this.1, this.2.1, by omega⟩⟩
      have HLo := Lib.hid hLo
      clear hB3 hB5 hB6 hB7' hB10' hLo HSKS4
      have hzM : (Tryd.prog.info? 23).map (·.size) = some (H p.m).length := by rw [H_length]; exact Tryd.szH
      have h3d : ∀ W, Below w15.heap.size w15 W → W.rangeAt g3 0 (H p.m) := fun W hb => by
        have h1 := (HLo.out.next hb).b3
        rw [Pat.upTo_zero HP.out] at h1
        exact range_m (blk_range h1)
      have H3D := Lib.hid h3d
      clear h3d
      refine wp_region_held_drew (S := fun w' => w'.rangeAt g3 0 (H p.m)) (by kernel_rfl) (H3D.out _ (below_drew w15)) (fun hHeld => ?_)
      have hbd := below_drew w15
      generalize w15.drew = w16 at hbd hHeld ⊢
      refine wpAnyH_take (i := 1) (v := ?vs1) rfl (by kernel_rfl) (by kernel_rfl) (by kernel_rfl) (fun _ _ _ h => h) (Or.inl ⟨by rfl, ?ys1⟩) (by assumption) ?rs1
      case ys1 => intro w hSw; (try dsimp only at hSw); go_simp <;> (try with_reducible rfl)
      (try simp only [List.getElem_toArray, List.getElem_cons_succ, List.getElem_cons_zero, Act.put, List.setIfInBounds_toArray, List.set_cons_zero, List.set_cons_succ])
      refine' wpAnyH_take (i := 2) (v := _) rfl (by kernel_rfl) (by kernel_rfl) (by kernel_rfl) (fun _ _ _ h => h) (yieldsIf_load_mid (by rfl) _ _ (by rfl) _ _ (by rfl) _ _ ?Ss2 ?us2 ?ds2 ?is2) (by assumption) ?rs2
      case Ss2 => exact (by intro w h; exact h)
      case us2 => exact hunH
      case ds2 => rfl
      case is2 => exact hzM
      (try simp only [List.getElem_toArray, List.getElem_cons_succ, List.getElem_cons_zero, Act.put, List.setIfInBounds_toArray, List.set_cons_zero, List.set_cons_succ])
      refine wpAnyH_ready (rs := [0]) (by kernel_rfl) (by simp) ?_
      refine AllReadyH.cons rfl (fun K hK => ?_) AllReadyH.nil
      go_simp
      go_wp2_with fail
      (with_reducible refine (full_any _).mono ?_)
      rintro e w17 ⟨rfl, hb17⟩
      have hbd := below_join hbd hb17
      refine hK.out _ _ (H3D.out _ hbd) (fun hHeld => ?_)
      clear hK K hb17
      refine wpAnyH_ready (rs := [3]) (by kernel_rfl) (by simp) ?_
      refine AllReadyH.cons rfl (fun K hK => ?_) AllReadyH.nil
      go_simp
      go_wp2_with fail
      (with_reducible refine (without_any yes p.m _).mono ?_)
      rintro e w18 ⟨rfl, hb18⟩
      rw [show (fun i => yes i && !p.m i) = freeF p from rfl]
      have hbd := below_join hbd hb18
      refine hK.out _ _ (H3D.out _ hbd) (fun hHeld => ?_)
      clear hK K hb18
      refine wpAnyH_ready (rs := [4]) (by kernel_rfl) (by simp) ?_
      refine AllReadyH.cons rfl (fun K hK => ?_) AllReadyH.nil
      go_simp
      go_wp2_with fail
      (with_reducible refine (ones_any (freeF p) _).mono ?_)
      rintro e w19 ⟨gh, rfl, hBh, hb19, _⟩
      have hbd := below_join hbd hb19
      refine hK.out _ _ (H3D.out _ hbd) (fun hHeld => ?_)
      clear hK K hb19
      refine wpAnyH_done (by kernel_rfl) ?_ _
      clear hHeld
      have HLo2 := Lib.hid (HLo.out.next hbd)
      have hb19' := below_join hb15' hbd
      have hB719 : w15.heap.size ≤ w19.heap.size := hbd.size
      obtain ⟨B7, hB7e⟩ : ∃ B7, Hid (w15.heap.size = B7) := ⟨_, rfl⟩
      rw [hB7e.out] at HLo2 hB719
      clear hbd HLo H3D hb15' hg10l
      have hgnl : gn < w19.heap.size := HLo2.out.sks.near.bn.lt
      have hlo := Lib.hid HLo2.out.lo
      go_wp2
      refine wpIn_wide.1 (range_walk (n := 5) (gf := 238) (lb := #[.pointer (some ⟨gh, 0, none⟩)]) rfl (enters_of Tryd.func238 (by kernel_rfl) rfl) (encs := encB) (fun _ => rfl) (LoD gn g3 g6 g10) ?hL (loD_stays hgnl) (onesTo (freeF p) 160)
        (LoI gn gl gs ga S0 cl n c Al l K A S0 S1 B7 g3 g5 g6 g7 g10 B p mm w)
        (fun co _ W => co = .ret ∧ LoX gn gl gs ga S0 cl n c Al l K A S0 S1 B7 g3 g5 g6 g7 g10 B p w W)
        ?hI ?hIx ⟨⟨0, part.b, A', c', Nat.zero_le _, rfl, HLo2.out, ?h0, Pat.clear_out HCL.out, ?h1⟩, hb19'⟩ ?a1 ?assign ?body ?iter ?done ?stop)
      case h0 => exact (Pat.hit_congr (Pat.upTo_zero HP.out mm)).2 (Pat.clear_hit HCL.out)
      case h1 =>
        have e := (Pat.cells_inj (Pat.upTo_zero HP.out mm)).2
        exact Bnd.below_le (Nat.le_of_eq (num_congr e)) HBL.out
      case hL => exact HLo2.out.real
      case hI =>
        rintro s W W' ⟨⟨k, h, A2, c2, h1, h2, h3, h4, h5, h6⟩, hbw⟩ hs hk
        exact ⟨⟨k, h, A2, c2, h1, h2, h3.keeps hk hB719, h4, h5, h6⟩, hbw.trans (hk.below.mono hb19'.size)⟩
      case hIx =>
        rintro co s W W' ⟨h0, ⟨Rb, q, h, A2, c2, h1, h2⟩, hbw⟩ hs hk
        exact ⟨h0, ⟨Rb, q, h, A2, c2, h1.keeps hk hB719, h2⟩, hbw.trans (hk.below.mono hb19'.size)⟩
      case assign =>
        intro l' x W K hK
        rw [encB_wv]
        gi_wp2
        exact hK
      case iter =>
        intro W1' hb1 hs1
        have hkp : Keeps (LoD gn g3 g6 g10) w19.heap.size w19 W1' := ⟨hb1, fun g hg => hb1.block g (HLo2.out.real g hg)⟩
        have hst := loD_stays (g3 := g3) (g6 := g6) (g10 := g10) hgnl w19 W1' (Nat.le_refl _) hkp
        refine ones1_in 4 _ gh (freeF p) _ W1' (hBh.next hb1 hBh.lt) (fun g hg => ?_) ((loD_stays hgnl).mono hb1.size)
        have := HLo2.out.real g ((hst g).1 hg)
        omega
      case body =>
        rintro l' pre x W ⟨⟨k, h, A2, c2, hk, rfl, hA, hhit, hout, hbel⟩, hbw⟩ hWs hre hpx
        have hend : ∀ W', OnlyD (LoD gn g3 g6 g10 W) W W' → Below w.heap.size w W' := fun W' ho => hbw.trans (ho.below (fun g hg => Nat.le_trans hl3 (hA.dlow g hg)) hbw.size)
        have HEND := Lib.hid hend
        clear hend hbw
        obtain ⟨hkx, hx, hfx, hno, hone⟩ := ones_elem hpx hk
        have hpm : p.m x = false := by
          have : (yes x && !p.m x) = true := hfx
          revert this
          cases p.m x <;> simp [yes]
        have hcc := upTo_skips (p := p) (m := mm) hkx (fun j h1 h2 => by
          have : (yes j && !p.m j) = false := hno j h1 h2
          revert this
          cases p.m j <;> simp [yes])
        have HHIT := Lib.hid ((Pat.hit_congr hcc).1 hhit)
        have HBEL := Lib.hid (Bnd.below_le (Nat.le_of_eq (num_congr (fun i hi => ((Pat.cells_inj hcc).2 i hi).symm))) hbel)
        have HA := Lib.hid (hA.pat hcc)
        have HOUT := Lib.hid hout
        have HONE := Lib.hid hone
        have HPM := Lib.hid hpm
        obtain ⟨U, hU⟩ : ∃ U, Hid (p.upTo mm x = U) := ⟨_, rfl⟩
        obtain ⟨Lw, hLw⟩ : ∃ L, Hid (p.low mm x = L) := ⟨_, rfl⟩
        have e1 : bits .or .i64 (word U.m (x / 16) : Int) ((2 ^ (15 - x % 16) : Nat) : Int) = (word (upd U.m x true) (x / 16) : Int) := by rw [or_nat _ _ (word_lt _ _) (pow_le16 x), word_or_one]
        have e2 : bits .or .i64 (word Lw.b (x / 16) : Int) ((2 ^ (15 - x % 16) : Nat) : Int) = (word (upd Lw.b x true) (x / 16) : Int) := by rw [or_nat _ _ (word_lt _ _) (pow_le16 x), word_or_one]
        have e3 := word_and_bit h x
        have s1 := set_m U hx true
        have s2 := set_b Lw hx true
        rw [show (⟨upd U.m x true, U.b⟩ : Pat) = Lw by rw [← hLw.out, ← hU.out]; rfl] at s1
        have hv10 : x / 16 < 10 := by omega
        have ck1 := cells_m U hv10
        have ck2 := cells_b Lw hv10
        have ck3 := H_get h hv10
        obtain ⟨VV, hVV⟩ : ∃ n : Nat, 2 ^ (15 - x % 16) = n := ⟨_, rfl⟩
        have hVV0 : VV ≠ 0 := by rw [← hVV]; exact Nat.ne_of_gt (Nat.two_pow_pos _)
        obtain ⟨v, hv⟩ : ∃ v, x / 16 = v := ⟨_, rfl⟩
        obtain ⟨r1, hr1⟩ : ∃ n, word U.m (x / 16) = n := ⟨_, rfl⟩
        obtain ⟨r2, hr2⟩ : ∃ n, word (upd U.m x true) (x / 16) = n := ⟨_, rfl⟩
        obtain ⟨r3, hr3⟩ : ∃ n, word Lw.b (x / 16) = n := ⟨_, rfl⟩
        obtain ⟨r4, hr4⟩ : ∃ n, word (upd Lw.b x true) (x / 16) = n := ⟨_, rfl⟩
        obtain ⟨r5, hr5⟩ : ∃ n, word h (x / 16) = n := ⟨_, rfl⟩
        have hwI : wI x = (v : Int) := by show ((x / 16 : Nat) : Int) = _; rw [hv]
        have hvI : vI x = (VV : Int) := by show ((2 ^ (15 - x % 16) : Nat) : Int) = _; rw [hVV]
        rw [hr1, hr2, hVV] at e1
        rw [hr3, hr4, hVV] at e2
        rw [hr5, hVV] at e3
        rw [hr2, hv] at s1
        rw [hr4, hv] at s2
        rw [hr1, hv] at ck1
        rw [hr3, hv] at ck2
        rw [hr5, hv] at ck3
        rw [hv] at hv10
        have hv0 : (0 : Int) ≤ (v : Int) := by omega
        have hv10i : (v : Int) < 10 := by omega
        rw [hU.out] at HA
        have hB3U := HA.out.b3
        have ca1 := hB3U.cell ck1
        have S1x := Lib.hid s1
        have S2x := Lib.hid s2
        have CK2 := Lib.hid ck2
        have CK3 := Lib.hid ck3
        have E2 := Lib.hid e2
        clear s1 s2 ck2 ck3 hr1 hr2 hr3 hr4 hr5 hno hone hpm hcc hhit hbel hA hout hfx e2 hkx
        (try dsimp only)
        rw [hwI, hvI]
        clear hwI hvI hv hVV
        gi_wp2_with (with_reducible refine wpListIn_put (o := ⟨none, .store 3 (.tmp 49) (.tmp 47), _, _, _, _⟩) (by with_unfolding_all rfl) 3 (.tmp 49) (.tmp 47) (by with_unfolding_all rfl) g3 v (by with_unfolding_all rfl) (.int .i64 (r2 : Int)) (by with_unfolding_all rfl) hB3U [.int .i64 (r2 : Int)] (by with_unfolding_all rfl) (by with_unfolding_all (exact Tryd.szI)) (by with_unfolding_all (rw [Pat.cells_length]; show v + 1 ≤ 20; omega)) (by with_unfolding_all (exact one_cell1 rfl)) ?_)
        intro wa hua hBa
        rw [S1x.out] at hBa
        have HA1 := Lib.hid (HA.out.put3 hua hBa)
        have HO1 : Hid (OnlyD (LoD gn g3 g6 g10 W) W wa) := by
          have : OnlyD (LoD gn g3 g6 g10 W) W wa := OnlyD.of_upd hua (.inr (.inl rfl))
          exact this
        have c10 := HA1.out.b10.cell CK3.out
        have hWa : W.heap.size ≤ wa.heap.size := HO1.out.size
        have hBW : B7 ≤ W.heap.size := by omega
        clear ca1 ck1 e1 S1x hua hBa hB3U
        cases hhx : h x with
        | false =>
          have hmx : mm x = false := by
            have := HHIT.out
            exact Pat.least_low HMM.out hx this HOUT.out hhx
          have hln : Lw.cells = (p.upTo mm (x + 1)).cells := by rw [← hLw.out]; exact Pat.low_next HPM.out hmx
          have HLN := Lib.hid hln
          have HHX := Lib.hid hhx
          rw [hhx] at e3
          have e3' : bits .and .i64 (r5 : Int) (VV : Int) = 0 := e3
          clear hln hhx e3
          gi_wp2
          refine ⟨HA.out.turns HA1.out HO1.out (.inl rfl), ⟨⟨x + 1, h, A2, c2, by omega, HONE.out, HA1.out.pat HLN.out, ?_, HOUT.out, ?_⟩, HEND.out _ HO1.out⟩⟩
          · refine (Pat.hit_congr HLN.out).1 ?_
            rw [← hLw.out]
            exact Pat.low_hit.2 ⟨HHIT.out, fun _ => by rw [Pat.upTo_b HPM.out, HHX.out]⟩
          · refine Bnd.below_le (Nat.le_of_eq (num_congr (fun i hi => ?_))) HBEL.out
            have := (Pat.cells_inj HLN.out).2 i hi
            rw [← this, ← hLw.out]; rfl
        | true =>
          rw [hhx] at e3
          have e3' : bits .and .i64 (r5 : Int) (VV : Int) = (VV : Int) := e3
          have hVi : ((VV : Int) == 0) = false := beq_eq_false_iff_ne.2 (by omega)
          have HHX := Lib.hid hhx
          have hokL : Lw.ok := by rw [← hLw.out]; exact Pat.low_ok mm x HP.out
          have hcovL : ∀ k q, l[k]? = some q → Lw.over q → k ∈ K := fun k q hk ho => HCOV.out k q hk (over_ext (p' := Lw) (by rw [← hLw.out]; exact low_ext) ho)
          have hseek := seek2_any gn gl gs ga S0 cl n c c2 Al A A2 l K Lw wa HOK.out (by have := HLL.out; omega) hokL (by have := hlo.out; omega) hn6000 HKN.out HKLT.out hcovL HA1.out.sks
          have HSEEK := Lib.hid hseek
          have h3 := HA1.out.b3
          have c7 := HA1.out.b7.cell (k := 0) rfl
          clear hseek hokL hcovL hhx e3
          gi_wp2_with (first | (with_reducible refine wpListIn_get (o := ⟨some 58, .load 25 (.tmp 3), _, _, _, _⟩) (by with_unfolding_all rfl) 25 (.tmp 3) (by with_unfolding_all rfl) g3 0 (by with_unfolding_all rfl) h3 Lw.cells (cs_all _) _ (by exact Tryd.underlying25) (by with_unfolding_all rfl) (by rw [Pat.cells_length]; exact Tryd.szP) ?_) | fail)
          refine ⟨trivial, ((callsIn_wide).2 HSEEK.out).mono ?_⟩
          rintro e W2 ⟨part2, R2, ok2, A3, c3, rfl, hsr2, hsks2, hor2, ho2⟩
          have HA2 := Lib.hid (HA1.out.call hsks2 hor2 ho2 (by omega))
          have HO2 : Hid (OnlyD (LoD gn g3 g6 g10 W) W W2) := by
            have : OnlyD (LoD gn g3 g6 g10 W) W W2 := HO1.out.trans (ho2.mono (fun g hd => by
              rcases hd with hd | hd
              · exact .inl hd
              · exact .inr (.inr (.inr (.inr ⟨_, HA.out.sks.near.bn, hd⟩)))))
            exact this
          have HOR2 : Hid ((Value.slice A3 n c3).ownBlock = (Value.slice A2 n c2).ownBlock ∨ ∀ g, (Value.slice A3 n c3).ownBlock = some g → W.heap.size ≤ g) := by
            have : (Value.slice A3 n c3).ownBlock = (Value.slice A2 n c2).ownBlock ∨ ∀ g, (Value.slice A3 n c3).ownBlock = some g → W.heap.size ≤ g := hor2.imp id (fun h g hg => Nat.le_trans hWa (h g hg))
            exact this
          have HSR2 := Lib.hid hsr2
          have hWW2 : W.heap.size ≤ W2.heap.size := HO2.out.size
          clear hsr2 hsks2 hor2 ho2 HSEEK h3 c7 c10
          gi_wp2_with (with_reducible refine wpListIn_alloc (o := ⟨some 13, .alloc 25, _, _, _, _⟩) (by with_unfolding_all rfl) 25 (by with_unfolding_all rfl) (.agg (H no ++ H no).toArray) (H no ++ H no) (by exact Tryd.zeroPt) (by with_unfolding_all rfl) ?_)
          intro g13 W3 hg13 hs3 hb3 hB13
          rw [cells_zero] at hB13
          have hl13 : W2.heap.size ≤ g13 := Nat.le_of_eq hg13.out.symm
          have hb3' : Below W2.heap.size W2 W3 := hb3.mono hl13
          have HA3 := Lib.hid (HA2.out.next hb3')
          have HO3 := Lib.hid (HO2.out.trans (OnlyD.of_below hb3'))
          have hlt13 : ∀ g, (Value.slice A3 n c3).ownBlock = some g → g < W2.heap.size := fun g hg => (HA2.out.sks.near.own.lt g hg).2
          have HLT13 := Lib.hid hlt13
          clear hb3 hb3' hs3 hg13 HA2 HO2 hlt13
          gi_wp2_with (with_reducible refine wpListIn_put (o := ⟨none, .store 25 (.tmp 13) (.tmp 60), _, _, _, _⟩) (by with_unfolding_all rfl) 25 (.tmp 13) (.tmp 60) (by with_unfolding_all rfl) g13 0 (by with_unfolding_all rfl) (.agg part2.cells.toArray) (by with_unfolding_all rfl) hB13 part2.cells (by with_unfolding_all rfl) (by with_unfolding_all (rw [Pat.cells_length]; exact Tryd.szP)) (by with_unfolding_all (rw [Pat.cells_length, Pat.cells_length]; omega)) (by with_unfolding_all (exact cells_one _)) ?_)
          intro W4 hu4 hB13'
          rw [splice_all _ _ (by rw [Pat.cells_length, Pat.cells_length])] at hB13'
          have HA4 := Lib.hid (HA3.out.fresh (D := fun g => g = g13) (OnlyD.of_upd hu4 rfl) (fun g e => ⟨by omega, fun h => by have := HLT13.out g h; omega⟩))
          have HO4 := Lib.hid (HO3.out.of_new hu4 (by omega))
          clear hu4 hB13 HA3 HO3
          cases ok2 with
          | true =>
            have hcl2 : Pat.clear l Lw part2 := by
              rcases HSR2.out with ⟨_, h⟩ | ⟨h, _⟩
              · exact h
              · cases h
            have hh1 := Pat.clear_hit hcl2
            have hh2 := Pat.clear_out hcl2
            rw [← hLw.out] at hh1
            have hh3 := Pat.low_hit.1 hh1
            have hpb : part2.b x = false := by rw [← hh3.2 hx, Pat.upTo_b HPM.out]
            have hmx := Pat.least_low HMM.out hx hh3.1 hh2 hpb
            have hln : Lw.cells = (p.upTo mm (x + 1)).cells := by rw [← hLw.out]; exact Pat.low_next HPM.out hmx
            rw [hLw.out] at hh1
            have HLN := Lib.hid hln
            have HH1 := Lib.hid hh1
            have HH2 := Lib.hid hh2
            clear hcl2 hh1 hh2 hh3 hpb hmx hln
            gi_wp2_with (first | (with_reducible refine wpListIn_get (o := ⟨some 63, .load 25 (.tmp 13), _, _, _, _⟩) (by with_unfolding_all rfl) 25 (.tmp 13) (by with_unfolding_all rfl) g13 0 (by with_unfolding_all rfl) hB13' part2.cells (cs_all _) _ (by exact Tryd.underlying25) (by with_unfolding_all rfl) (by rw [Pat.cells_length]; exact Tryd.szP) ?_) | fail)
            refine ⟨trivial, ((callsIn_wide).2 (least_any part2 _)).mono ?_⟩
            rintro e W5 ⟨rfl, hb5⟩
            have HA5 := Lib.hid (HA4.out.next hb5)
            have HO5 := Lib.hid (HO4.out.trans (OnlyD.of_below hb5))
            have h10 := HA5.out.b10
            clear hb5 HA4 HO4 hB13'
            gi_wp2_with (with_reducible refine wpListIn_put (o := ⟨none, .store 23 (.tmp 10) (.tmp 64), _, _, _, _⟩) (by with_unfolding_all rfl) 23 (.tmp 10) (.tmp 64) (by with_unfolding_all rfl) g10 0 (by with_unfolding_all rfl) (.agg (H part2.b).toArray) (by with_unfolding_all rfl) h10 (H part2.b) (by with_unfolding_all rfl) (by with_unfolding_all (rw [H_length]; exact Tryd.szH)) (by with_unfolding_all (rw [H_length, H_length]; omega)) (by with_unfolding_all (exact H_one _)) ?_)
            intro W6 hu6 hB6x
            rw [splice_all _ _ (by rw [H_length, H_length])] at hB6x
            have HA6 := Lib.hid (HA5.out.put10 hu6 hB6x)
            have HO6 := Lib.hid (HO5.out.trans (OnlyD.of_upd hu6 (show LoD gn g3 g6 g10 W g10 from .inr (.inr (.inr (.inl rfl))))))
            clear hu6 hB6x h10 HA5 HO5
            gi_wp2
            refine ⟨HA.out.turns HA6.out HO6.out HOR2.out, ⟨⟨x + 1, part2.b, A3, c3, by omega, HONE.out, HA6.out.pat HLN.out, (Pat.hit_congr HLN.out).1 HH1.out, HH2.out, ?_⟩, HEND.out _ HO6.out⟩⟩
            refine Bnd.below_le (Nat.le_of_eq (num_congr (fun i hi => ?_))) HBEL.out
            have := (Pat.cells_inj HLN.out).2 i hi
            rw [← this, ← hLw.out]; rfl
          | false =>
            have hwhy : Pat.why l (p.low mm x) R2 := by
              rw [hLw.out]
              rcases HSR2.out with ⟨h, _⟩ | ⟨_, h⟩
              · cases h
              · exact h
            have hmx := Pat.least_high HMM.out HPM.out hwhy
            have hhn : (⟨Lw.m, upd Lw.b x true⟩ : Pat).cells = (p.upTo mm (x + 1)).cells := by rw [← hLw.out]; exact Pat.high_next HPM.out hmx
            have HHN := Lib.hid hhn
            have HMX := Lib.hid hmx
            have h3 := HA4.out.b3
            have ca2 := h3.cell CK2.out
            have e2 := E2.out
            clear hwhy hmx hhn hB13'
            gi_wp2_with (with_reducible refine wpListIn_put (o := ⟨none, .store 3 (.tmp 72) (.tmp 70), _, _, _, _⟩) (by with_unfolding_all rfl) 3 (.tmp 72) (.tmp 70) (by with_unfolding_all rfl) g3 (10 + v) (by with_unfolding_all rfl) (.int .i64 (r4 : Int)) (by with_unfolding_all rfl) h3 [.int .i64 (r4 : Int)] (by with_unfolding_all rfl) (by with_unfolding_all (exact Tryd.szI)) (by with_unfolding_all (rw [Pat.cells_length]; show 10 + v + 1 ≤ 20; omega)) (by with_unfolding_all (exact one_cell1 rfl)) ?_)
            intro W5 hu5 hB5x
            rw [S2x.out, HHN.out] at hB5x
            have HA5 := Lib.hid (HA4.out.put3 hu5 hB5x)
            have HO5 := Lib.hid (HO4.out.trans (OnlyD.of_upd hu5 (show LoD gn g3 g6 g10 W g3 from .inr (.inl rfl))))
            clear hu5 hB5x h3 ca2 e2 HA4 HO4
            obtain ⟨Q, hQ⟩ : ∃ Q, Hid (p.upTo mm (x + 1) = Q) := ⟨_, rfl⟩
            rw [hQ.out] at HA5
            obtain ⟨C2, hC2⟩ : ∃ C, Hid (cmpL (HN Q.b) (bndN B) = C) := ⟨_, rfl⟩
            have hcmp2 : ∀ W, Calls Tryd.prog 208 #[.agg (H Q.b).toArray, .agg V.toArray] W fun e w' => e = .returned (.int .i64 C2) ∧ Below W.heap.size W w' := fun W => by
              have := compareL_any (HN Q.b) (bndN B) W (HN_length _) (bndN_length _)
              rw [hC2.out] at this
              rw [← hV.out]; exact this
            have HCMP2 := Lib.hid hcmp2
            have hzQ : (Tryd.prog.info? 25).map (·.size) = some Q.cells.length := by rw [Pat.cells_length]; exact Tryd.szP
            have hSx : ∀ W h6 hh A0 c0, LoAll gn gl gs ga S0 cl n c Al l K A S0 S1 B7 g3 g5 g6 g7 g10 B Q h6 hh A0 c0 W → W.rangeAt g3 0 Q.cells ∧ W.rangeAt g5 0 V := fun W h6 hh A0 c0 a => ⟨blk_range a.b3, by rw [← hV.out]; exact blk_range a.b5⟩
            have HSX := Lib.hid hSx
            clear hcmp2 hSx
            gi_wp2
            have HA6 := Lib.hid (HA5.out.next (below_drew W5))
            have HO6 := Lib.hid (HO5.out.trans (OnlyD.of_below (below_drew W5)))
            refine wpIn_round_held (S := fun w' => w'.rangeAt g3 0 Q.cells ∧ w'.rangeAt g5 0 V) (by kernel_rfl) (by kernel_rfl) (fun ⟨_, _, h⟩ => h) (HSX.out _ _ _ _ _ HA6.out) (fun hHeld => ?_)
            clear HA5 HO5
            generalize W5.drew = W6 at HA6 HO6 hHeld ⊢
            refine' wpAnyH_take (i := 0) (v := _) rfl (by kernel_rfl) (by kernel_rfl) (by kernel_rfl) (fun _ _ _ h => h) (yieldsIf_load_mid (by rfl) _ _ (by rfl) _ _ (by rfl) _ _ ?Sr0 ?ur0 ?dr0 ?ir0) (by assumption) ?rr0
            case Sr0 => exact (by intro w h; exact h.1)
            case ur0 => exact hunP
            case dr0 => rfl
            case ir0 => exact hzQ
            (try simp only [List.getElem_toArray, List.getElem_cons_zero, Act.put, List.setIfInBounds_toArray, List.set_cons_zero, List.set_cons_succ])
            refine' wpAnyH_take (i := 2) (v := _) rfl (by kernel_rfl) (by kernel_rfl) (by kernel_rfl) (fun _ _ _ h => h) (yieldsIf_load_mid (by rfl) _ _ (by rfl) _ _ (by rfl) _ _ ?Sr2 ?ur2 ?dr2 ?ir2) (by assumption) ?rr2
            case Sr2 => exact (by intro w h; exact h.2)
            case ur2 => exact hunH
            case dr2 => rfl
            case ir2 => exact hzV
            (try simp only [List.getElem_toArray, List.getElem_cons_succ, List.getElem_cons_zero, Act.put, List.setIfInBounds_toArray, List.set_cons_zero, List.set_cons_succ])
            refine wpAnyH_ready (rs := [1]) (by kernel_rfl) (by simp) ?_
            refine AllReadyH.cons rfl (fun K hK => ?_) AllReadyH.nil
            go_simp
            go_wp2_with fail
            (with_reducible refine (least_any Q _).mono ?_)
            rintro e W7 ⟨rfl, hb7x⟩
            have HA7 := Lib.hid (HA6.out.next hb7x)
            have HO7 := Lib.hid (HO6.out.trans (OnlyD.of_below hb7x))
            refine hK.out _ _ (HSX.out _ _ _ _ _ HA7.out) (fun hHeld => ?_)
            clear hK K hb7x HA6 HO6
            refine wpAnyH_ready (rs := [3]) (by kernel_rfl) (by simp) ?_
            refine AllReadyH.cons rfl (fun K hK => ?_) AllReadyH.nil
            go_simp
            go_wp2_with fail
            (with_reducible refine (HCMP2.out _).mono ?_)
            rintro e W8 ⟨rfl, hb8x⟩
            have HA8 := Lib.hid (HA7.out.next hb8x)
            have HO8 := Lib.hid (HO7.out.trans (OnlyD.of_below hb8x))
            refine hK.out _ _ (HSX.out _ _ _ _ _ HA8.out) (fun hHeld => ?_)
            clear hK K hb8x HA7 HO7
            refine wpAnyH_take (i := 4) (v := ?vr4) rfl (by kernel_rfl) (by kernel_rfl) (by kernel_rfl) (fun _ _ _ h => h) (Or.inl ⟨by rfl, ?yr4⟩) (by assumption) ?rr4
            case yr4 => intro w hSw; (try dsimp only at hSw); go_simp <;> (try with_reducible rfl)
            (try simp only [List.getElem_toArray, List.getElem_cons_succ, List.getElem_cons_zero, Act.put, List.setIfInBounds_toArray, List.set_cons_zero, List.set_cons_succ])
            refine wpAnyH_done (by kernel_rfl) ?_ _
            clear hHeld
            have hcb := cmp_bnd Q.b B
            rw [hC2.out] at hcb
            have HCB := Lib.hid hcb
            clear hcb
            by_cases hge2 : 0 ≤ C2
            · have hnb2 := HCB.out.1 hge2
              have hfo : Pat.found l p B B := .inr ⟨fun g hg ho hb => hnb2 (Bnd.below_le (by
                rw [← hQ.out]
                exact Nat.le_trans (Pat.upTo_le HMM.out.1 (x + 1)) (HMM.out.2.2 g hg ho)) hb), rfl⟩
              have HFO := Lib.hid hfo
              have h5 := HA8.out.b5
              rw [hV.out] at h5
              have h6 := HA8.out.b6
              clear hnb2 hfo
              gi_wp2_with (first | (with_reducible refine wpListIn_get (o := ⟨some 78, .load 23 (.tmp 5), _, _, _, _⟩) (by with_unfolding_all rfl) 23 (.tmp 5) (by with_unfolding_all rfl) g5 0 (by with_unfolding_all rfl) h5 V (cs_all _) _ (by exact Tryd.underlying23) (by with_unfolding_all rfl) (by rw [hVl.out]; exact Tryd.szH) ?_) | (with_reducible refine wpListIn_put (o := ⟨none, .store 23 (.tmp 6) (.tmp 78), _, _, _, _⟩) (by with_unfolding_all rfl) 23 (.tmp 6) (.tmp 78) (by with_unfolding_all rfl) g6 0 (by with_unfolding_all rfl) (.agg V.toArray) (by with_unfolding_all rfl) h6 V (by with_unfolding_all rfl) (by with_unfolding_all (rw [hVl.out]; exact Tryd.szH)) (by with_unfolding_all (rw [hVl.out, H_length]; omega)) (by with_unfolding_all (exact hV1.out)) ?_))
              intro W9 hu9x hB9x
              rw [splice_all _ _ (by rw [hVl.out, H_length])] at hB9x
              have HA9 := Lib.hid (HA8.out.put6 hu9x hB9x)
              have HO9 := Lib.hid (HO8.out.trans (OnlyD.of_upd hu9x (show LoD gn g3 g6 g10 W g6 from .inr (.inr (.inl rfl)))))
              clear hu9x hB9x h5 h6 HA8 HO8
              gi_wp2
              exact ⟨HA.out.turns HA9.out HO9.out HOR2.out, rfl, ⟨⟨B, Q, h, A3, c3, by rw [hV.out]; exact HA9.out, HFO.out⟩, HEND.out _ HO9.out⟩⟩
            · have hbl2 : Bnd.below B Q.b := Classical.byContradiction fun hc => hge2 (HCB.out.2 hc)
              have HBL2 := Lib.hid hbl2
              have hHH := hit_high HPM.out HMX.out (by rw [hU.out]; have := HHIT.out; rw [← hU.out]; exact this) HHX.out
              have HHH := Lib.hid hHH
              clear hbl2 hHH
              gi_wp2
              exact ⟨HA.out.turns HA8.out HO8.out HOR2.out, ⟨⟨x + 1, h, A3, c3, by omega, HONE.out, by rw [hQ.out]; exact HA8.out, HHH.out, HOUT.out, by rw [hQ.out]; exact HBL2.out⟩, HEND.out _ HO8.out⟩⟩
      case done =>
        rintro W ⟨⟨k, h, A2, c2, hk, hke, hA, hhit, hout, hbel⟩, hbw⟩ hs hD hnD
        have hnone : ∀ j, k ≤ j → j < 160 → p.m j = true := by
          rcases first_one (freeF p) k 160 with hn | ⟨s, h1, h2, h3, h4⟩
          · intro j h1 h2
            have : (yes j && !p.m j) = false := hn j h1 h2
            revert this
            cases p.m j <;> simp [yes]
          · have e1 : onesTo (freeF p) (s + 1) = onesTo (freeF p) k ++ [s] := by rw [onesTo_succ, onesTo_none h1 h4, if_pos h3]
            have h5 := (onesTo_prefix (freeF p) (show s + 1 ≤ 160 by omega)).length_le
            rw [e1, ← hke, List.length_append, List.length_singleton] at h5
            omega
        have hcc := upTo_skips (p := p) (m := mm) hk hnone
        have hh160 := (Pat.hit_congr hcc).1 hhit
        have heq := Pat.upTo_all HMM.out.1 hh160
        have hHm : H h = H mm := H_congr heq
        have hbm : Bnd.below B mm := Bnd.below_le (Nat.le_of_eq (num_congr (fun i hi => by
          have e1 := Pat.upTo_hit HMM.out.1 160 i hi (by show (p.m i || decide (i < 160)) = true; rw [decide_eq_true hi]; simp)
          rw [← e1]
          exact ((Pat.cells_inj hcc).2 i hi).symm))) hbel
        have HFO : Hid (Pat.found l p B (some mm)) := by
          have : Pat.found l p B (some mm) := .inl ⟨mm, HMM.out, hbm, rfl⟩
          exact this
        have HA := Lib.hid hA
        have HD := Lib.hid hD
        have HHM := Lib.hid hHm
        have h10 := hA.b10
        have h6 := hA.b6
        have HND := Lib.hid hnD
        have HBW := Lib.hid hbw
        clear hbw hnone hcc hh160 heq hHm hbm hA hhit hout hbel hke hD hnD
        go_wp2_with (first | (with_reducible refine wpList_get (o := ⟨some 79, .load 23 (.tmp 10), _, _, _, _⟩) (by with_unfolding_all rfl) 23 (.tmp 10) (by with_unfolding_all rfl) g10 0 (by with_unfolding_all rfl) h10 (H h) (cs_all _) _ (by exact Tryd.underlying23) (by with_unfolding_all rfl) (by rw [H_length]; exact Tryd.szH) ?_) | (with_reducible refine wpList_put (o := ⟨none, .store 23 (.tmp 6) (.tmp 79), _, _, _, _⟩) (by with_unfolding_all rfl) 23 (.tmp 6) (.tmp 79) (by with_unfolding_all rfl) g6 0 (by with_unfolding_all rfl) (.agg (H h).toArray) (by with_unfolding_all rfl) h6 (H h) (by with_unfolding_all rfl) (by with_unfolding_all (rw [H_length]; exact Tryd.szH)) (by with_unfolding_all (rw [H_length, H_length]; omega)) (by with_unfolding_all (exact H_one _)) ?_))
        intro W2 hu2 hB2
        rw [splice_all _ _ (by rw [H_length, H_length])] at hB2
        have lo := HLo2.out.lo
        have hn6 : w19.heap.size ≠ g6 := by omega
        have hD' := (hu2.block _ hn6).trans HD.out
        have hB2' := blk_back (w := W2.putObj w19.heap.size (.deferred none)) hB2 (World.putObj_heap_other (Ne.symm hn6)).symm
        have hbe := (HBW.out.trans (hu2.below (B := w.heap.size) (by omega))).trans (below_put (B := w.heap.size) W2 (l := w19.heap.size) (.deferred none) hb19'.size)
        go_wp2
        exact leave_ret (D := w19.heap.size) hD' (results_cell_row rfl _ _ g6 _ _ _ _ rfl hB2' Tryd.underlying23 rfl (by rw [List.size_toArray, H_length]; exact Tryd.szH)) ⟨some mm, by rw [HHM.out]; rfl, HFO.out, hbe⟩
      case stop =>
        rintro co pre W hpre ⟨rfl, ⟨Rb, q, h, A2, c2, hA, hfo⟩, hbw⟩ hWs hD hnD
        have lo := HLo2.out.lo
        have hn6 : w19.heap.size ≠ g6 := by omega
        have hB2' := blk_back (w := W.putObj w19.heap.size (.deferred none)) hA.b6 (World.putObj_heap_other (Ne.symm hn6)).symm
        have hbe := hbw.trans (below_put (B := w.heap.size) W (l := w19.heap.size) (.deferred none) hb19'.size)
        gi_wp2
        exact leave_ret (D := w19.heap.size) hD (results_cell_row rfl _ _ g6 _ _ _ _ rfl hB2' Tryd.underlying23 rfl (by rw [List.size_toArray, bndV_length]; exact Tryd.szH)) ⟨Rb, rfl, hfo, hbe⟩
end Go.Proofs.YtkkgfdfjgfigcaaDoor
