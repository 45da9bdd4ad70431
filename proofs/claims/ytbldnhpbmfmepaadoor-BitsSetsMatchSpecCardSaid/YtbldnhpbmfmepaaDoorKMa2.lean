/-
  Contracts of the walks over leastOf and SameSet: the least head in which two lists differ. Conditions: right patterns; at most 6000 of them.
-/
import Derived.Test.YtbldnhpbmfmepaaDoorGS
import Derived.Test.YtbldnhpbmfmepaaDoorGK
namespace Go.Proofs.YtbldnhpbmfmepaaDoor
set_option linter.unusedVariables false
set_option linter.unusedSimpArgs false
open Go.RowKit

/-- What leastOf finds: the least head of one list that is not in the other, if it is less than a bound. -/
def foundIn (a b : List Pat) (B R : Bnd) : Prop := (∃ m, (Pat.inSome a m ∧ ¬ Pat.inSome b m ∧ ∀ g, Pat.inSome a g → ¬ Pat.inSome b g → num m ≤ num g) ∧ Bnd.below B m ∧ R = some m) ∨ ((∀ g, Pat.inSome a g → ¬ Pat.inSome b g → ¬ Bnd.below B g) ∧ R = B)
theorem inSome_snoc {l : List Pat} {p : Pat} {g : Nat → Bool} : Pat.inSome (l ++ [p]) g ↔ Pat.inSome l g ∨ p.hit g := by
  constructor
  · rintro ⟨q, hq, hh⟩
    rcases List.mem_append.1 hq with h | h
    · exact .inl ⟨q, h, hh⟩
    · rw [List.mem_singleton] at h
      rw [h] at hh
      exact .inr hh
  · rintro (⟨q, hq, hh⟩ | hh)
    · exact ⟨q, List.mem_append_left _ hq, hh⟩
    · exact ⟨p, by simp, hh⟩
theorem foundIn_nil (b : List Pat) (B : Bnd) : foundIn [] b B B := .inr ⟨(fun g ⟨q, hq, _⟩ => by cases hq), rfl⟩
theorem foundIn_next {a b : List Pat} {p : Pat} {B R R' : Bnd} (h : foundIn a b B R) (h2 : Pat.found b p R R') : foundIn (a ++ [p]) b B R' := by
  rcases h2 with ⟨m', ⟨hm1, hm2, hm3⟩, hlt, rfl⟩ | ⟨hno, rfl⟩
  · refine .inl ⟨m', ⟨inSome_snoc.2 (.inr hm1), hm2, fun g hg hn => ?_⟩, ?_, rfl⟩
    · rcases inSome_snoc.1 hg with hg | hg
      · rcases h with ⟨m, ⟨_, _, h3⟩, _, rfl⟩ | ⟨h3, rfl⟩
        · exact Nat.le_trans (Nat.le_of_lt hlt) (h3 g hg hn)
        · have h4 := h3 g hg hn
          cases R with
          | none => exact absurd trivial h4
          | some x =>
            have h5 : ¬ num g < num x := h4
            have h6 : num m' < num x := hlt
            omega
      · exact hm3 g hg hn
    · rcases h with ⟨m, _, hb, rfl⟩ | ⟨_, rfl⟩
      · exact Bnd.below_le (Nat.le_of_lt hlt) hb
      · exact hlt
  · rcases h with ⟨m, ⟨h1, h2, h3⟩, hb, rfl⟩ | ⟨h3, rfl⟩
    · refine .inl ⟨m, ⟨inSome_snoc.2 (.inl h1), h2, fun g hg hn => ?_⟩, hb, rfl⟩
      rcases inSome_snoc.1 hg with hg | hg
      · exact h3 g hg hn
      · have h4 : ¬ num g < num m := hno g hg hn
        omega
    · refine .inr ⟨fun g hg hn => ?_, rfl⟩
      rcases inSome_snoc.1 hg with hg | hg
      · exact h3 g hg hn
      · exact hno g hg hn
/-- A head that lies in one list alone. -/
def odd2 (a b : List Pat) (g : Nat → Bool) : Prop := (Pat.inSome a g ∧ ¬ Pat.inSome b g) ∨ (Pat.inSome b g ∧ ¬ Pat.inSome a g)
/-- What SameSet finds: no head, or the least one that lies in one list alone. -/
def sameR (a b : List Pat) (R : Bnd) : Prop := (R = none ∧ ∀ g, ¬ odd2 a b g) ∨ ∃ m, R = some m ∧ odd2 a b m ∧ ∀ g, odd2 a b g → num m ≤ num g
theorem sameR_of {a b : List Pat} {R S : Bnd} (h1 : foundIn a b none R) (h2 : foundIn b a R S) : sameR a b S := by
  rcases h2 with ⟨m, ⟨hm1, hm2, hm3⟩, hlt, rfl⟩ | ⟨hno, rfl⟩
  · refine .inr ⟨m, rfl, .inr ⟨hm1, hm2⟩, fun g hg => ?_⟩
    rcases hg with ⟨g1, g2⟩ | ⟨g1, g2⟩
    · rcases h1 with ⟨m1, ⟨_, _, h3⟩, _, rfl⟩ | ⟨h3, rfl⟩
      · exact Nat.le_trans (Nat.le_of_lt hlt) (h3 g g1 g2)
      · exact absurd trivial (h3 g g1 g2)
    · exact hm3 g g1 g2
  · rcases h1 with ⟨m, ⟨h3, h4, h5⟩, _, rfl⟩ | ⟨h3, rfl⟩
    · refine .inr ⟨m, rfl, .inl ⟨h3, h4⟩, fun g hg => ?_⟩
      rcases hg with ⟨g1, g2⟩ | ⟨g1, g2⟩
      · exact h5 g g1 g2
      · have : ¬ num g < num m := hno g g1 g2
        omega
    · refine .inl ⟨rfl, fun g hg => ?_⟩
      rcases hg with ⟨g1, g2⟩ | ⟨g1, g2⟩
      · exact h3 g g1 g2 trivial
      · exact hno g g1 g2 trivial
def LoRel (la lb : List Pat) (n g5 g6 : Nat) (B : Bnd) (w : World) (i : Value) (wr : World) : Prop :=
  ∃ (k : Nat) (R : Bnd), k ≤ n ∧ i = .int .i64 (k : Int) ∧ foundIn (la.take k) lb B R ∧ Blk wr g5 23 (bndV R) ∧ Blk wr g6 23 (H no) ∧ Below w.heap.size w wr
set_option maxRecDepth 100000 in
set_option maxHeartbeats 3200000 in
theorem leastOf_any (ca cb : Nat) (Aa Ab : Option Addr) (la lb : List Pat) (B : Bnd) (w : World) (hoa : ∀ q, q ∈ la → q.ok) (hob : ∀ q, q ∈ lb → q.ok) (hla : la.length ≤ 1000000) (hlb : lb.length ≤ 6000) (ha : PatsAt w Aa la) (hb : PatsAt w Ab lb) (hal : ∀ g o, Ab = some ⟨g, o, none⟩ → g < w.heap.size) :
    Calls Tryd.prog 94 #[.slice Aa la.length ca, .slice Ab lb.length cb, .agg (bndV B).toArray] w fun e w' => ∃ R, e = .returned (.agg (bndV R).toArray) ∧ foundIn la lb B R ∧ Below w.heap.size w w' := by
  obtain ⟨n, hn⟩ : ∃ n, Hid (la.length = n) := ⟨_, rfl⟩
  obtain ⟨m, hm⟩ : ∃ m, Hid (lb.length = m) := ⟨_, rfl⟩
  have hlo : ∀ (p : Pat) (R : Bnd) W, p ∈ la → Below w.heap.size w W → Calls Tryd.prog 91 #[.agg p.cells.toArray, .slice Ab m cb, .agg (bndV R).toArray] W fun e w' => ∃ S, e = .returned (.agg (bndV S).toArray) ∧ Pat.found lb p R S ∧ Below W.heap.size W w' := fun p R W hp hbw => by
    rw [← hm.out]
    exact leastOutside_any cb Ab lb p R W hob (hoa p hp) hlb (hb.next hbw) (fun g o e => by have := hal g o e; have := hbw.size; omega)
  have HLO := Lib.hid hlo
  have HA := Lib.hid ha
  rw [hn.out] at hla ⊢
  rw [hm.out]
  have hunP := Tryd.underlying25
  have hunH := Tryd.underlying23
  clear hlo hoa hob hlb ha hb hal
  go_enter Tryd.func94, Tryd.ntmps94
  go_wp2_with (with_reducible refine wpList_box (o := ⟨some 5, .box 23 (.tmp 2), _, _, _, _⟩) ?g5 23 (.tmp 2) ?o5 (.agg (bndV B).toArray) (bndV B) ?x5 ?c5 ?_)
  try (case g5 => rfl)
  try (case o5 => rfl)
  try (case x5 => rfl)
  try (case c5 => rfl)
  intro g5 w1 hg5 hs1 hb1 B5
  have hl5 : w.heap.size ≤ g5 := Nat.le_of_eq hg5.out.symm
  have hbe : Below w.heap.size w w1 := hb1.mono hl5
  clear hb1 hs1 hg5
  go_wp2_with (with_reducible refine wpList_alloc (o := ⟨some 6, .alloc 23, _, _, _, _⟩) (by with_unfolding_all rfl) 23 (by with_unfolding_all rfl) (.agg (H no).toArray) (H no) (by exact Tryd.zeroH) (by with_unfolding_all rfl) ?_)
  intro g6 w2 hg6 hs2 hb2 B6
  have h56 : g5 < g6 := by have := B5.lt; have := hg6.out; omega
  have hb2' := hb2.mono (Nat.le_of_eq hg6.out.symm)
  have B5 := B5.next hb2' B5.lt
  have hbe := below_join hbe hb2'
  clear hb2 hb2' hs2 hg6
  have h0 : Hid (foundIn (la.take 0) lb B B) := foundIn_nil lb B
  go_wp2
  go_loopw [11] (LoRel la lb n g5 g6 B w) (fun i _ => n - (intOf i).toNat)
  case atStart => exact ⟨0, B, Nat.zero_le _, rfl, h0.out, B5, B6, hbe⟩
  case round =>
    clear h0 B5 B6 hbe
    obtain ⟨k, R, hk, rfl, hf, B5, B6, hbe⟩ := hrel
    have HF := Lib.hid hf
    clear hf
    by_cases hlt : k < n
    · have hki : (k : Int) < (n : Int) := by omega
      obtain ⟨p, hp⟩ : ∃ p, la[k]? = some p := ⟨_, List.getElem?_eq_getElem (by rw [hn.out]; exact hlt)⟩
      obtain ⟨ga, oa, rfl, hca⟩ := (HA.out.next hbe) k p hp
      have hfn : ∀ S, Pat.found lb p R S → foundIn (la.take (k + 1)) lb B S := fun S hS => by
        rw [List.take_succ_eq_append_getElem (by rw [hn.out]; exact hlt), (List.getElem?_eq_some_iff.1 hp).2]
        exact foundIn_next HF.out hS
      have HFN := Lib.hid hfn
      have hpm := Lib.hid (List.mem_of_getElem? hp)
      have hc2 : ∀ (q : Nat) (u : Value), p.cells[q]? = some u → wr.cell? ((⟨ga, oa + k * 20, none⟩ : Addr).add q) = some u := fun q u hu => by rw [addr_mid]; exact hca q u hu
      have hzp : (Tryd.prog.info? 25).map (·.size) = some p.cells.length := by rw [Pat.cells_length]; exact Tryd.szP
      clear hfn hp hca
      go_wp2_with (first | (with_reducible refine wpList_load_add (op := ⟨some 14, .load 25 (.tmp 13), _, _, _, _⟩) (by with_unfolding_all rfl) 25 (.tmp 13) (by with_unfolding_all rfl) ⟨ga, oa + k * 20, none⟩ (by with_unfolding_all rfl) p.cells _ hc2 hunP (by with_unfolding_all rfl) hzp ?_) | (with_reducible refine wpList_alloc (o := ⟨some 8, .alloc 25, _, _, _, _⟩) (by with_unfolding_all rfl) 25 (by with_unfolding_all rfl) (.agg (H no ++ H no).toArray) (H no ++ H no) (by exact Tryd.zeroPt) (by with_unfolding_all rfl) ?_))
      intro g8 w3 hg8 hs3 hb3 hB3
      have hl8 : wr.heap.size ≤ g8 := Nat.le_of_eq hg8.out.symm
      have hb3 := hb3.mono hl8
      go_wp2_with (with_reducible refine wpList_put (o := ⟨none, .store 25 (.tmp 8) (.tmp 14), _, _, _, _⟩) (by with_unfolding_all rfl) 25 (.tmp 8) (.tmp 14) (by with_unfolding_all rfl) g8 0 (by with_unfolding_all rfl) (.agg p.cells.toArray) (by with_unfolding_all rfl) hB3 p.cells (by with_unfolding_all rfl) (by with_unfolding_all (rw [Pat.cells_length]; exact Tryd.szP)) (by with_unfolding_all (rw [Pat.cells_length, List.length_append, H_length] <;> omega)) (by with_unfolding_all (exact cells_one _)) ?_)
      intro w4 hu4 B8
      rw [splice_all _ _ (by rw [Pat.cells_length, List.length_append, H_length])] at B8
      have hb4 := hb3.trans (hu4.below (B := wr.heap.size) hl8)
      have B5 := B5.next hb4 B5.lt
      have B6 := B6.next hb4 B6.lt
      have hbe := below_join hbe hb4
      clear hb3 hb4 hu4 hB3 hl8 hg8 hs3 hc2
      obtain ⟨V, hV⟩ : ∃ V, Hid (bndV R = V) := ⟨_, rfl⟩
      have hVl : Hid (V.length = 10) := by rw [← hV.out]; exact bndV_length R
      have HL2 := Lib.hid (HLO.out p R w4 hpm.out hbe)
      rw [hV.out] at B5 HL2
      have hzV : (Tryd.prog.info? 23).map (·.size) = some V.length := by rw [hVl.out]; exact Tryd.szH
      go_wp2_with (first | (with_reducible refine wpList_get (o := ⟨some 15, .load 25 (.tmp 8), _, _, _, _⟩) (by with_unfolding_all rfl) 25 (.tmp 8) (by with_unfolding_all rfl) g8 0 (by with_unfolding_all rfl) B8 p.cells (cs_all _) _ (by exact hunP) (by with_unfolding_all rfl) (by exact hzp) ?_) | (with_reducible refine wpList_get (o := ⟨some 17, .load 23 (.tmp 5), _, _, _, _⟩) (by with_unfolding_all rfl) 23 (.tmp 5) (by with_unfolding_all rfl) g5 0 (by with_unfolding_all rfl) B5 V (cs_all _) _ (by exact hunH) (by with_unfolding_all rfl) (by exact hzV) ?_))
      (with_reducible refine HL2.out.mono ?_)
      rintro e w5 ⟨S, rfl, hfo, hb5⟩
      have HFO := Lib.hid (HFN.out S hfo)
      have B5 := B5.next hb5 B5.lt
      have B6 := B6.next hb5 B6.lt
      have hbe := below_join hbe hb5
      clear hb5 hfo B8
      go_wp2_with (with_reducible refine wpList_put (o := ⟨none, .store 23 (.tmp 5) (.tmp 18), _, _, _, _⟩) (by with_unfolding_all rfl) 23 (.tmp 5) (.tmp 18) (by with_unfolding_all rfl) g5 0 (by with_unfolding_all rfl) (.agg (bndV S).toArray) (by with_unfolding_all rfl) B5 (bndV S) (by with_unfolding_all rfl) (by with_unfolding_all (rw [bndV_length]; exact Tryd.szH)) (by with_unfolding_all (rw [bndV_length, hVl.out] <;> omega)) (by with_unfolding_all (exact bndV_one S)) ?_)
      intro w6 hu6 B5'
      rw [splice_all _ _ (by rw [bndV_length, hVl.out])] at B5'
      have B6 := B6.upd hu6 (by omega)
      have hbe := hbe.trans (hu6.below (B := w.heap.size) hl5)
      clear hu6 B5
      go_wp2
      go_roundw
      case rel => exact ⟨k + 1, S, by omega, by go_num, HFO.out, B5', B6, hbe⟩
      case measure => simp [intOf]; omega
    · obtain rfl : k = n := by omega
      have HF2 : Hid (foundIn la lb B R) := by
        have : foundIn la lb B R := by
          have := HF.out
          rwa [List.take_of_length_le (by rw [hn.out]; exact Nat.le_refl _)] at this
        exact this
      obtain ⟨V, hV⟩ : ∃ V, Hid (bndV R = V) := ⟨_, rfl⟩
      have hVl : Hid (V.length = 10) := by rw [← hV.out]; exact bndV_length R
      have hV1 : Hid (∀ u ∈ V, u.oneCell' = true) := by rw [← hV.out]; exact bndV_one R
      rw [hV.out] at B5
      have hzV : (Tryd.prog.info? 23).map (·.size) = some V.length := by rw [hVl.out]; exact Tryd.szH
      go_wp2_with (first | (with_reducible refine wpList_get (o := ⟨some 20, .load 23 (.tmp 5), _, _, _, _⟩) (by with_unfolding_all rfl) 23 (.tmp 5) (by with_unfolding_all rfl) g5 0 (by with_unfolding_all rfl) B5 V (cs_all _) _ (by exact hunH) (by with_unfolding_all rfl) (by exact hzV) ?_) | (with_reducible refine wpList_put (o := ⟨none, .store 23 (.tmp 6) (.tmp 20), _, _, _, _⟩) (by with_unfolding_all rfl) 23 (.tmp 6) (.tmp 20) (by with_unfolding_all rfl) g6 0 (by with_unfolding_all rfl) (.agg V.toArray) (by with_unfolding_all rfl) B6 V (by with_unfolding_all rfl) (by with_unfolding_all (exact hzV)) (by with_unfolding_all (rw [hVl.out, H_length] <;> omega)) (by with_unfolding_all (exact hV1.out)) ?_))
      intro w6 hu6 B6'
      rw [splice_all _ _ (by rw [hVl.out, H_length])] at B6'
      have hbe := hbe.trans (hu6.below (B := w.heap.size) (by omega))
      go_wp2
      refine bodyPost_ret (results_cell_row rfl _ _ g6 _ _ _ _ rfl B6' Tryd.underlying23 rfl (by rw [List.size_toArray, hVl.out]; exact Tryd.szH)) rfl ⟨R, by rw [hV.out], HF2.out, hbe⟩
end Go.Proofs.YtbldnhpbmfmepaaDoor
