/-
  Contracts of the walks over chapter 2's Of and the reference's Input. Conditions: at most 10^9 bytes in all; the tables read as the document has them.
-/
import Derived.Test.YtnhnfdfjlagcjaaDoorHsumb
namespace Go.Proofs.YtnhnfdfjlagcjaaDoor
open Go.RowKit

def tagB (t : Int) : UInt8 := UInt8.ofNat (t % 256).toNat
theorem tagB_eq (t : Int) : B8 (tagB t) = .int .u8 (t % 256) := by
  unfold B8 tagB
  rw [UInt8.toNat_ofNat']
  congr 1
  omega
def strsOf (xs : List ByteArray) : List (List UInt8) := xs.map fun s => s.data.toList
/-- The input that Of hashes. -/
def ofIn (t : Int) (xs : List ByteArray) : List UInt8 := tagB t :: (strsOf xs).flatMap WM.encB
/-- Its first k parts. -/
def ofTo (t : Int) (xs : List ByteArray) (k : Nat) : List UInt8 := tagB t :: (strsOf (xs.take k)).flatMap WM.encB
theorem ofTo_succ (t : Int) (xs : List ByteArray) (k : Nat) (h : k < xs.length) : ofTo t xs (k + 1) = ofTo t xs k ++ WM.encB xs[k].data.toList := by
  unfold ofTo strsOf
  rw [List.take_succ_eq_append_getElem h]
  simp only [List.map_append, List.flatMap_append, List.map_cons, List.map_nil, List.flatMap_cons, List.flatMap_nil, List.append_nil, List.cons_append]
theorem ofTo_all (t : Int) (xs : List ByteArray) : ofTo t xs xs.length = ofIn t xs := by unfold ofTo ofIn; rw [List.take_length]
theorem ofTo_le (t : Int) (xs : List ByteArray) (k : Nat) (_h : k ≤ xs.length) : (ofTo t xs k).length ≤ (ofIn t xs).length := by
  have e : ofIn t xs = ofTo t xs k ++ (strsOf (xs.drop k)).flatMap WM.encB := by
    unfold ofTo ofIn strsOf
    conv => lhs; rw [← List.take_append_drop k xs]
    simp only [List.map_append, List.flatMap_append, List.cons_append]
  rw [e, List.length_append]; omega
theorem own_some {w : World} {base : Nat} {v : Value} {n : Nat} {xs : List Value} (h : w.ownsRow base 5 1 v n xs) (hn : 0 < n) : ∃ g cap, v = .slice (some ⟨g, 0, none⟩) n cap ∧ (∀ j u, xs[j]? = some u → w.cell? ((⟨g, 0, none⟩ : Addr).add j) = some u) := by
  obtain ⟨h1, h2⟩ := h
  rcases h2 with ⟨rfl, h0⟩ | ⟨g, cap, cur, rfl, r⟩
  · omega
  · exact ⟨g, cap, rfl, World.ownsRow.cells ⟨h1, .inr ⟨g, cap, cur, rfl, r⟩⟩ rfl⟩
theorem own_next {w w' : World} {base : Nat} {E : TypeId} {size : Nat} {v : Value} {n : Nat} {xs : List Value} (h : w.ownsRow base E size v n xs) (hb : Below w.heap.size w w') : w'.ownsRow base E size v n xs := by
  have hlt := h.lt
  obtain ⟨h1, h2⟩ := h
  refine ⟨h1, ?_⟩
  rcases h2 with h2 | ⟨g, cap, cur, hv, hg, hh, r⟩
  · exact Or.inl h2
  · exact Or.inr ⟨g, cap, cur, hv, hg, by rw [hb.block g (hlt g (by rw [hv]; rfl)).2]; exact hh, r⟩
theorem encB_pos (l : List UInt8) : 0 < (WM.encB l).length := by
  have h1 := WM.encN_pos (WM.fold (l.length : Int))
  have : (WM.encI (l.length : Int)).length = (WM.encN (WM.fold (l.length : Int))).length := rfl
  show 0 < (WM.encI (l.length : Int) ++ l).length
  rw [List.length_append]; omega
theorem encB_big (s : ByteArray) (t : Int) (xs : List ByteArray) (k : Nat) (h : k < xs.length) (hs : xs[k] = s) : (ofTo t xs k).length + (WM.encB s.data.toList).length ≤ (ofIn t xs).length := by
  have := ofTo_le t xs (k + 1) h
  rw [ofTo_succ t xs k h, List.length_append, hs] at this
  exact this
theorem encB_size (s : ByteArray) : s.size ≤ (WM.encB s.data.toList).length := by
  show s.size ≤ (WM.encI (s.data.toList.length : Int) ++ s.data.toList).length
  rw [List.length_append, Array.length_toList]
  show s.size ≤ _ + s.size
  omega
theorem str_at {w : World} {A : Option Addr} {xs : List ByteArray} (h : Holds w A (xs.map Value.string)) {k : Nat} (hk : k < xs.length) : ∃ ad, A = some ad ∧ w.cell? (ad.add k) = some (.string xs[k]) := h k _ (by rw [List.getElem?_map, List.getElem?_eq_getElem hk]; rfl)

theorem Tryd.zero44 : (Tryd.prog.info? 44).map (·.zero) = some (some (aggB (SM.zeros 16))) := by kernel_rfl
theorem Tryd.size44 : (Tryd.prog.info? 44).map (·.size) = some 16 := by kernel_rfl
def zero16 : List Value := (SM.zeros 16).map B8
theorem run_sap (g cap : Nat) : ∀ w : World, (Instr.arrayAt 44 (.slice (some ⟨g, 0, none⟩) 16 cap)).run Tryd.prog w = .ok (.pointer (some ⟨g, 0, none⟩)) w := fun w => by
  simp [Instr.arrayAt, run_underlying (P := Tryd.prog) Tryd.underlying44]
def OfRel (_A : Option Addr) (t : Int) (xs : List ByteArray) (_gr : Nat) (_w w1 : World) (v i : Value) (wr : World) : Prop :=
  ∃ k : Nat, k ≤ xs.length ∧ i = .int .i64 k ∧ wr.ownsRow w1.heap.size 5 1 v (ofTo t xs k).length ((ofTo t xs k).map B8) ∧ Below w1.heap.size w1 wr

theorem take16 (S : List UInt8) (h : S.length = 32) : ((S.map B8).drop 0).take ((S.take 16).map B8).length = (S.take 16).map B8 := by
  rw [List.drop_zero, List.length_map, List.length_take, h, List.map_take]
  rfl

set_option maxRecDepth 100000 in
set_option maxHeartbeats 1600000 in
theorem of_any (A : Option Addr) (cap n : Nat) (t : Int) (xs : List ByteArray) (w : World) (hn : n = xs.length) (hn1 : n ≤ 1000000) (hl : (ofIn t xs).length ≤ 1000000000) (HY : Lay w) (hh : Holds w A (xs.map Value.string)) :
    Calls Tryd.prog 26 #[.int .i64 t, .slice A n cap] w fun e w' => e = .returned (.agg (((SM.sum (ofIn t xs)).take 16).map B8).toArray) ∧ Below w.heap.size w w' := by
  obtain ⟨i0, hi, hz0, hz1, hz2⟩ := info_parts Tryd.info8
  have HN := Lib.hid hn
  clear hn
  have htb := Lib.hid (tagB_eq t)
  go_enter Tryd.func26, Tryd.ntmps26
  go_wp2_with (with_reducible refine wpList_alloc (o := ⟨some 4, .alloc 44, _, _, _, _⟩) ?g1 44 ?o1 (aggB (SM.zeros 16)) zero16 ?z1 ?c1 ?_)
  try (case g1 => rfl)
  try (case o1 => rfl)
  try (case z1 => exact Tryd.zero44)
  try (case c1 => rfl)
  intro gr w1 hgr hs1 hb1 hB1
  have hlt0 : w.heap.size ≤ gr := Nat.le_of_eq hgr.out.symm
  have hb : Below w.heap.size w w1 := hb1.mono hlt0
  have hh1 := hh.next hb
  clear hgr hs1 hb1
  go_wp2
  go_loopw [5, 14] (OfRel A t xs gr w w1) (fun _ i _ => xs.length - (intOf i).toNat)
  case atStart =>
    refine ⟨0, Nat.zero_le _, rfl, ?_, below_new w1 _⟩
    have := World.ownsRow_lit (base := w1.heap.size) (e := 5) (size := 1) w1 #[Value.int .u8 (t % 256)] 1 (Nat.le_refl _) (by decide) rfl
    rw [← htb.out] at this ⊢
    exact this
  case round =>
    obtain ⟨k, hk, rfl, hown, hbel⟩ := hrel
    have hN1 : n ≤ xs.length := Nat.le_of_eq HN.out
    have hN2 : xs.length ≤ n := Nat.le_of_eq HN.out.symm
    by_cases hlt : k < xs.length
    · obtain ⟨ad, rfl, hcell⟩ := str_at (hh1.next hbel) hlt
      have hbig := encB_big xs[k] t xs k hlt rfl
      have hsz := encB_size xs[k]
      have hps := encB_pos xs[k].data.toList
      have hsn := Lib.hid (ofTo_succ t xs k hlt)
      generalize xs[k] = sk at hcell hbig hsz hps hsn
      have hb2 := hbel.size
      go_wp2_with fail
      (with_reducible refine (bytes_any sk _ (by omega)).mono ?_)
      rintro e w2 ⟨v2, rfl, hown2, hbw⟩
      obtain ⟨g2, c2, rfl, hcs2⟩ := own_some hown2 hps
      have hown' := own_next hown hbw
      have hbel2 := hbel.trans (hbw.mono hb2)
      have hb3 := hbw.size
      have hlt2 := hown'.lt
      clear hown hbel hbw hown2
      go_wp2_with (at_builtin; refine wpList_append_own _ rfl _ _ 22 rfl w1.heap.size 5 i0 (.int .u8 0) 1 1 Tryd.underlying22 hi hz0 hz1 hz2 rfl (by decide) _ _ _ rfl hown' ⟨g2, 0, none⟩ (WM.encB sk.data.toList).length c2 ((WM.encB sk.data.toList).map B8) rfl ?c1 ?c2 ?c3 ?c4 ?c5 ?c6 ?_)
      case c1 => rw [List.length_map, Nat.mul_one]
      case c2 => exact hcs2
      case c3 => exact B8_one _
      case c4 => unfold maxLen; omega
      case c5 => omega
      case c6 => omega
      intro v3 w3 hown3 hgrow _
      have hbel3 := hbel2.grown hgrow (by omega) (fun j hj => (hlt2 j hj).1)
      rw [← List.map_append, ← List.length_append, ← hsn.out] at hown3
      clear hown' hlt2 hcs2 hgrow hbel2
      go_wp2
      go_roundw
      case rel => exact ⟨k + 1, by omega, by go_num, hown3, hbel3⟩
      case measure => simp [intOf]; omega
    · have hke : k = xs.length := by omega
      rw [hke, ofTo_all] at hown
      have hpos : 0 < (ofIn t xs).length := by unfold ofIn; simp
      obtain ⟨g2, c2, rfl, hcs2⟩ := own_some hown hpos
      have hbelw := hb.trans (hbel.mono hb.size)
      have hBr := hB1.next hbel hB1.lt
      have HY2 := HY.next hbelw
      have hh2 : Holds wr (some ⟨g2, 0, none⟩) ((ofIn t xs).map B8) := fun j u hu => ⟨_, rfl, hcs2 j u hu⟩
      clear hown hbel hb hB1 hke
      obtain ⟨L, hL⟩ : ∃ L, Hid (ofIn t xs = L) := ⟨_, rfl⟩
      rw [hL.out] at hh2 hl
      go_wp2_with fail
      (with_reducible refine (sum_any _ _ _ L _ (by rw [hL.out]) hl HY2 hh2).mono ?_)
      rintro e w4 ⟨rfl, hb4⟩
      have hBr4 := hBr.next hb4 hBr.lt
      have hbel4 := hbelw.trans (hb4.mono hbelw.size)
      clear hBr hbelw hb4 hh2 HY2
      obtain ⟨S, hS⟩ : ∃ S, Hid (SM.sum L = S) := ⟨_, rfl⟩
      have hSl : Hid (S.length = 32) := by rw [← hS.out]; rfl
      rw [hS.out]
      go_wp2_with (with_reducible refine wpList_alloc (o := ⟨some 8, .alloc 24, _, _, _, _⟩) ?g3 24 ?o3 (aggB (SM.zeros 32)) zero32 ?z3 ?c3 ?_)
      try (case g3 => rfl)
      try (case o3 => rfl)
      try (case z3 => exact Tryd.zero24)
      try (case c3 => rfl)
      intro gs w5 hgs hs5 hb5 hB5
      have hlt1 : gr < gs := by have := hBr4.lt; have := hgs.out; omega
      have hBr5 := hBr4.next hb5 hlt1
      have hbel5 := hbel4.trans (hb5.mono (by have := hbel4.size; have := hgs.out; omega))
      clear hBr4 hbel4 hb5 hgs hs5
      go_wp2_with (with_reducible refine wpList_put (o := ⟨none, .store 24 (.tmp 8) (.tmp 24), _, _, _, _⟩) ?g4 24 (.tmp 8) (.tmp 24) ?o4 gs 0 ?x4 (.agg (S.map B8).toArray) ?y4 hB5 (S.map B8) ?v4 ?i4 ?l4 ?q4 ?_)
      try (case y4 => rfl)
      try (case x4 => rfl)
      try (case g4 => rfl)
      try (case o4 => rfl)
      try (case v4 => rfl)
      try (case i4 => exact (by rw [List.length_map, hSl.out]; exact Tryd.size24))
      try (case l4 => (rw [List.length_map, hSl.out]; exact Nat.le_refl _))
      try (case q4 => exact B8_one _)
      intro w6 hu6 hB6
      rw [splice_all _ _ (by rw [List.length_map, hSl.out]; rfl)] at hB6
      have hBr6 := hBr5.upd hu6 (by omega)
      have hbel6 := hbel5.trans (hu6.below (B := w.heap.size) (by omega))
      clear hBr5 hbel5 hu6 hB5
      obtain ⟨D, hD⟩ : ∃ D, Hid (S.take 16 = D) := ⟨_, rfl⟩
      have hDl : Hid ((D.map B8).length = 16) := by have : (D.map B8).length = 16 := by rw [← hD.out, List.length_map, List.length_take, hSl.out]; rfl
                                                    exact this
      have ht16 : Hid (((S.map B8).drop 0).take (D.map B8).length = D.map B8) := by have := take16 S hSl.out
                                                                                    rw [hD.out] at this; exact this
      have hsap := run_sap gs 32
      go_wp2_with (first | (with_reducible refine wpList_cutH (o := ⟨some 25, .slice 24 (.tmp 8) none (some (.const (.int .i64 16))) none, _, _, _, _⟩) ?g5 24 (.tmp 8) (.const (.int .i64 16)) ?o5 gs 0 ?x5 16 ?y5 32 5 ?u5 ?i5 ?k5 ?m5 ?_) | (with_reducible refine wpList_get (o := ⟨some 27, .load 44 (.tmp 26), _, _, _, _⟩) ?g6 44 (.tmp 26) ?o6 gs 0 ?x6 hB6 (D.map B8) ?c6 (.array 16 5) ?u6 ?d6 ?i6 ?_) | (with_reducible refine wpList_put (o := ⟨none, .store 44 (.tmp 4) (.tmp 27), _, _, _, _⟩) ?g7 44 (.tmp 4) (.tmp 27) ?o7 gr 0 ?x7 (.agg (D.map B8).toArray) ?y7 hBr6 (D.map B8) ?v7 ?i7 ?l7 ?q7 ?_))
      try (case x5 => rfl)
      try (case g5 => rfl)
      try (case o5 => rfl)
      try (case y5 => rfl)
      try (case u5 => exact Tryd.underlying24)
      try (case i5 => exact Tryd.size5)
      try (case k5 => omega)
      try (case m5 => decide)
      try (case x6 => rfl)
      try (case g6 => rfl)
      try (case o6 => rfl)
      try (case c6 => (exact ht16.out))
      try (case u6 => exact Tryd.underlying44)
      try (case d6 => first | rfl | assumption)
      try (case i6 => (rw [hDl.out]; exact Tryd.size44))
      try (case y7 => rfl)
      try (case x7 => rfl)
      try (case g7 => rfl)
      try (case o7 => rfl)
      try (case v7 => rfl)
      try (case i7 => exact (by rw [hDl.out]; exact Tryd.size44))
      try (case l7 => (rw [hDl.out]; exact Nat.le_refl _))
      try (case q7 => exact B8_one _)
      intro w7 hu7 hB7
      rw [splice_all _ _ (by rw [hDl.out]; rfl)] at hB7
      have hbel7 := hbel6.trans (hu7.below (B := w.heap.size) (by omega))
      clear hBr6 hbel6 hB6 hu7 hsap
      go_wp2
      refine bodyPost_ret (results_cell_row rfl _ _ gr _ _ _ _ rfl hB7 Tryd.underlying44 rfl (by rw [List.size_toArray, hDl.out]; exact Tryd.size44)) rfl ⟨by rw [hL.out, hS.out, hD.out], hbel7⟩
end Go.Proofs.YtnhnfdfjlagcjaaDoor
