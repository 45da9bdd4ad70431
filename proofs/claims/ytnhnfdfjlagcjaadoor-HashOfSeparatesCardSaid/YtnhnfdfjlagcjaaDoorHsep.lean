/-
  The walk over the statement that Of separates its parts. Conditions: the tables read as the document has them.
-/
import Derived.Test.YtnhnfdfjlagcjaaDoorHstrat
import Derived.Test.YtnhnfdfjlagcjaaDoorHeqlaw
import Derived.Deep.Cut
namespace Go.Proofs.YtnhnfdfjlagcjaaDoor
open Go.RowKit

theorem flat_inj : ∀ (xs ys : List (List UInt8)), (∀ x ∈ xs, x.length ≤ 1000000000) → (∀ y ∈ ys, y.length ≤ 1000000000) → xs.flatMap WM.encB = ys.flatMap WM.encB → xs = ys
  | [], [], _, _, _ => rfl
  | [], y :: s, _, _, h => by
    have := congrArg List.length h
    have h2 := WM.encB_pos y
    simp only [List.flatMap_nil, List.flatMap_cons, List.length_append, List.length_nil] at this
    omega
  | x :: r, [], _, _, h => by
    have := congrArg List.length h
    have h2 := WM.encB_pos x
    simp only [List.flatMap_nil, List.flatMap_cons, List.length_append, List.length_nil] at this
    omega
  | x :: r, y :: s, hx, hy, h => by
    simp only [List.flatMap_cons] at h
    have h1 := WM.getB_back x (r.flatMap WM.encB) (hx x (by simp))
    have h2 := WM.getB_back y (s.flatMap WM.encB) (hy y (by simp))
    rw [h, h2] at h1
    simp only [Prod.mk.injEq] at h1
    obtain ⟨rfl, _, _⟩ := h1
    have h3 := List.append_cancel_left h
    rw [flat_inj r s (fun z hz => hx z (by simp [hz])) (fun z hz => hy z (by simp [hz])) h3]
theorem strsOf_inj : ∀ (xs ys : List ByteArray), strsOf xs = strsOf ys → xs = ys
  | [], [], _ => rfl
  | [], y :: s, h => by simp [strsOf] at h
  | x :: r, [], h => by simp [strsOf] at h
  | x :: r, y :: s, h => by
    simp only [strsOf, List.map_cons, List.cons.injEq] at h
    rw [strsOf_inj r s h.2, ByteArray.ext (Array.toList_inj.1 h.1)]
theorem tagB_nat (c : UInt8) : tagB (c.toNat : Int) = c := by
  unfold tagB
  apply UInt8.toNat_inj.1
  have := c.toNat_lt
  rw [UInt8.toNat_ofNat']
  omega
theorem ofIn_inj (c d : UInt8) (xs ys : List ByteArray) (hx : fewB xs = true) (hy : fewB ys = true) : ofIn (c.toNat : Int) xs = ofIn (d.toNat : Int) ys ↔ c = d ∧ xs = ys := by
  constructor
  · intro h
    unfold ofIn at h
    rw [tagB_nat, tagB_nat, List.cons.injEq] at h
    refine ⟨h.1, strsOf_inj _ _ (flat_inj _ _ ?_ ?_ h.2)⟩
    · intro x hm
      obtain ⟨s, hs, rfl⟩ := List.mem_map.1 hm
      rw [bytes_size]; have := (fewB_len xs hx).2 s hs; omega
    · intro x hm
      obtain ⟨s, hs, rfl⟩ := List.mem_map.1 hm
      rw [bytes_size]; have := (fewB_len ys hy).2 s hs; omega
  · rintro ⟨rfl, rfl⟩; rfl
theorem take_succ_str (a b : List ByteArray) (k : Nat) (h1 : k < a.length) (h2 : k < b.length) : a.take (k + 1) = b.take (k + 1) ↔ a.take k = b.take k ∧ a[k] = b[k] := by
  rw [List.take_succ_eq_append_getElem h1, List.take_succ_eq_append_getElem h2]
  constructor
  · intro h
    have := List.append_inj h (by rw [List.length_take, List.length_take]; omega)
    exact ⟨this.1, by simpa using this.2⟩
  · rintro ⟨e1, e2⟩
    rw [e1, e2]
theorem str_eq (a b : ByteArray) : (a.toList == b.toList) = decide (a = b) := by
  rw [Bool.eq_iff_iff, beq_iff_eq, decide_eq_true_eq]
  exact ⟨toList_inj, fun e => by rw [e]⟩
theorem str_eqL (a b : List UInt8) : ((⟨a.toArray⟩ : ByteArray).toList == (⟨b.toArray⟩ : ByteArray).toList) = decide (a = b) := by
  rw [str_eq, Bool.eq_iff_iff, decide_eq_true_eq, decide_eq_true_eq]
  constructor
  · intro e
    have := congrArg (fun s => s.data.toList) e
    simpa using this
  · rintro rfl; rfl
/-- What the first loop has found. -/
def Sp1Rel (c d : UInt8) (xs ys : List ByteArray) (w : World) (s i : Value) (wr : World) : Prop :=
  ∃ (k : Nat) (q : Bool), k ≤ xs.length ∧ i = .int .i64 k ∧ s = .bool q ∧ Hid (q = true ↔ (c = d ∧ xs.length = ys.length) ∧ xs.take k = ys.take k) ∧ Below w.heap.size w wr
theorem in_any (A : Option Addr) (cap n : Nat) (t : Int) (xs : List ByteArray) (L : List UInt8) (w : World) (hL : Unit → ofIn t xs = L) (hn : n = xs.length) (hn1 : n ≤ 12) (hl : L.length ≤ 10000) (hh : Holds w A (xs.map Value.string)) :
    Calls Tryd.prog 28 #[.int .i64 t, .slice A n cap] w fun e w' => ∃ g c, e = .returned (.slice (some ⟨g, 0, none⟩) L.length c) ∧ Holds w' (some ⟨g, 0, none⟩) (L.map B8) ∧ Below w.heap.size w w' := by
  rw [← hL ()] at hl ⊢
  refine (input_any A cap n t xs w hn (by omega) (by omega) hh).mono ?_
  rintro e w' ⟨v, rfl, hown, hb⟩
  obtain ⟨g, c, rfl, hcs⟩ := own_some hown (by unfold ofIn; simp)
  exact ⟨g, c, rfl, fun j u hu => ⟨_, rfl, hcs j u hu⟩, hb⟩
def Sp2Rel (G H : List UInt8) (w1 : World) (cl i : Value) (wr : World) : Prop :=
  ∃ (k : Nat) (q : Bool), k ≤ 16 ∧ i = .int .i64 k ∧ cl = .bool q ∧ Hid (q = true ↔ G.take k = H.take k) ∧ Below w1.heap.size w1 wr

theorem Holds.away {w : World} {b : Nat} {xs : List Value} {g : Nat} (h : Holds w (some ⟨b, 0, none⟩) xs) (hg : g = w.heap.size) : 0 < xs.length → b ≠ g := fun h0 hb => by
  obtain ⟨ad', e', hc⟩ := h 0 xs[0] (List.getElem?_eq_getElem h0)
  cases e'
  rw [addr_mid] at hc
  have := World.block_lt_of_cell? w _ hc
  have h2 : b < w.heap.size := this
  omega
theorem Holds.upd {w w' : World} {b : Nat} {xs : List Value} {g : Nat} (h : Holds w (some ⟨b, 0, none⟩) xs) (hu : Upd g w w') (ha : 0 < xs.length → b ≠ g) : Holds w' (some ⟨b, 0, none⟩) xs := fun k u hx => by
  obtain ⟨ad, he, hc⟩ := h k u hx
  cases he
  refine ⟨_, rfl, ?_⟩
  have hne : b ≠ g := ha (by have := (List.getElem?_eq_some_iff.1 hx).1; omega)
  rw [addr_mid] at hc ⊢
  unfold World.cell? at hc ⊢
  simp only [hu.block b hne]
  exact hc

set_option maxRecDepth 100000 in
set_option maxHeartbeats 3200000 in
theorem sepLaw_any (lt : List UInt8) (A : Option Addr) (cap n : Nat) (xs : List ByteArray) (A2 : Option Addr) (cap2 m : Nat) (ys : List ByteArray) (w : World) (hlt : lt.length = 2) (hn : n = xs.length) (hz : n * 16 ≤ 140737488351232) (hb : ∀ s ∈ xs, s.size ≤ 140737488351232) (hh : Holds w A (xs.map Value.string)) (hm : m = ys.length) (hz2 : m * 16 ≤ 140737488351232) (hb2 : ∀ s ∈ ys, s.size ≤ 140737488351232) (hh2 : Holds w A2 (ys.map Value.string)) (HY : Lay w) :
    Calls Tryd.prog 8 #[.agg (lt.map B8).toArray, .slice A n cap, .slice A2 m cap2] w fun e w' => e = .returned (.bool true) ∧ Below w.heap.size w w' := by
  obtain ⟨c, d, rfl⟩ : ∃ c d, lt = [c, d] := by
    match lt, hlt with
    | [c, d], _ => exact ⟨c, d, rfl⟩
  have HN := Lib.hid hn
  have HB := Lib.hid hb
  have HM := Lib.hid hm
  have HB2 := Lib.hid hb2
  clear hn hb hm hb2 hlt
  go_enter Tryd.func8, Tryd.ntmps8
  go_wp2_with (with_reducible refine wpList_box (o := ⟨some 3, .box 48 (.tmp 0), _, _, _, _⟩) ?g1 48 (.tmp 0) ?o1 (.agg ([c, d].map B8).toArray) ([c, d].map B8) ?x1 ?c1 ?_)
  try (case g1 => rfl)
  try (case o1 => rfl)
  try (case x1 => rfl)
  try (case c1 => rfl)
  intro gt w0 hgt hs0 hb0 hB0
  have hbel0 : Below w.heap.size w w0 := hb0.mono (Nat.le_of_eq hgt.out.symm)
  clear hgt hs0 hb0
  go_wp2_with fail
  (with_reducible refine (sanity_any _ (HY.next hbel0)).mono ?_)
  rintro e w1 ⟨rfl, hb1⟩
  have hB1 := hB0.next hb1 hB0.lt
  have hbel1 := below_join hbel0 hb1
  clear hB0 hbel0 hb1
  go_wp2_with fail
  (with_reducible refine (few_any A cap n xs _ HN.out hz (hh.next hbel1) HB.out).mono ?_)
  rintro e w2 ⟨rfl, hb2⟩
  have hB2 := hB1.next hb2 hB1.lt
  have hbel2 := below_join hbel1 hb2
  clear hB1 hbel1 hb2
  by_cases hfx : fewB xs = true
  · rw [hfx]
    go_wp2_with fail
    (with_reducible refine (few_any A2 cap2 m ys _ HM.out hz2 (hh2.next hbel2) HB2.out).mono ?_)
    rintro e w3 ⟨rfl, hb3⟩
    have hB3 := hB2.next hb3 hB2.lt
    have hbel3 := below_join hbel2 hb3
    clear hB2 hbel2 hb3
    by_cases hfy : fewB ys = true
    · rw [hfy]
      have hx1 := (fewB_len xs hfx).1
      have hy1 := (fewB_len ys hfy).1
      have hn12 : n ≤ 12 := by rw [HN.out]; exact hx1
      have hm12 : m ≤ 12 := by rw [HM.out]; exact hy1
      have hinj := Lib.hid (ofIn_inj c d xs ys hfx hfy)
      have hsx := ofIn_small (c.toNat : Int) xs hfx
      have hsy := ofIn_small (d.toNat : Int) ys hfy
      have hk0 := hB3.cell (k := 0) (v := .int .u8 (c.toNat : Int)) rfl
      have hk1 := hB3.cell (k := 1) (v := .int .u8 (d.toNat : Int)) rfl
      clear hfx hfy hx1 hy1
      go_upto_region 4 with fail
      go_cut [8] (fun s8 wx => s8 = .bool (decide (c = d ∧ n = m)) ∧ w3 = wx)
      case first =>
        by_cases hcd : c = d
        · subst hcd
          have e1 : ((c.toNat : Int) == (c.toNat : Int)) = true := beq_self_eq_true _
          by_cases hnm : n = m
          · subst hnm
            have e2 : ((n : Int) == (n : Int)) = true := beq_self_eq_true _
            go_wp2
            go_meet
            exact ⟨by simp, rfl⟩
          · have e2 : ((n : Int) == (m : Int)) = false := beq_eq_false_iff_ne.2 (by omega)
            go_wp2
            go_meet
            exact ⟨by simp [hnm], rfl⟩
        · have e1 : ((c.toNat : Int) == (d.toNat : Int)) = false := beq_eq_false_iff_ne.2 (fun e => hcd (UInt8.toNat_inj.1 (by omega)))
          go_wp2
          go_meet
          exact ⟨by simp [hcd], rfl⟩
      case rest =>
        obtain ⟨rfl, rfl⟩ := hcut
        clear hk0 hk1
        go_wp2
        go_loopw [8, 9] (Sp1Rel c d xs ys w3) (fun _ i _ => xs.length - (intOf i).toNat)
        case atStart =>
          refine ⟨0, _, Nat.zero_le _, rfl, rfl, ?_, Below.refl _ _⟩
          have h3 : decide (c = d ∧ n = m) = true ↔ (c = d ∧ xs.length = ys.length) ∧ xs.take 0 = ys.take 0 := by
            rw [decide_eq_true_eq, HN.out, HM.out]; simp
          exact h3
        case round =>
          obtain ⟨k, q, hk, rfl, rfl, hq, hbk⟩ := hrel
          have hN1 : n ≤ xs.length := Nat.le_of_eq HN.out
          have hN2 : xs.length ≤ n := Nat.le_of_eq HN.out.symm
          have hbel := below_join hbel3 hbk
          by_cases hgo : k < xs.length ∧ q = true
          · obtain ⟨hlt, rfl⟩ := hgo
            have hq1 := Lib.hid (hq.out.1 rfl)
            have hnm := hq1.out.1.2
            clear hq
            have hlty : k < ys.length := by omega
            have hltm : k < m := by have := HM.out; omega
            obtain ⟨ad, rfl, hcell⟩ := str_at (hh.next hbel) hlt
            obtain ⟨ad2, rfl, hcell2⟩ := str_at (hh2.next hbel) hlty
            have hst := Lib.hid (take_succ_str xs ys k hlt hlty)
            have hsz1 := HB.out _ (List.getElem_mem hlt)
            have hsz2 := HB2.out _ (List.getElem_mem hlty)
            generalize xs[k] = sx at hcell hst hsz1
            generalize ys[k] = sy at hcell2 hst hsz2
            clear hinj
            have hsq := Lib.hid (str_eq sx sy)
            go_wp2
            go_quiet (fail)
            have hbk2 := hbk.drewN nq
            clear hbk hbel hcell hcell2
            generalize wr.drewN nq = wq at hbk2 ⊢
            go_wp2
            go_roundw
            case rel =>
              refine ⟨k + 1, decide (sx = sy), hlt, by go_num, by rw [hsq.out], ?_, hbk2⟩
              have h3 : decide (sx = sy) = true ↔ (c = d ∧ xs.length = ys.length) ∧ xs.take (k + 1) = ys.take (k + 1) := by
                rw [decide_eq_true_eq, hst.out]
                have := hq1.out
                exact ⟨fun e => ⟨this.1, this.2, e⟩, fun e => e.2.2⟩
              exact h3
            case measure => simp [intOf]; omega
          · have hq2 : Hid (q = true ↔ c = d ∧ xs = ys) := by
              have : q = true ↔ c = d ∧ xs = ys := by
                rw [hq.out]
                constructor
                · rintro ⟨⟨h1, h2⟩, h3⟩
                  have hk2 : ¬ k < xs.length := fun h => hgo ⟨h, hq.out.2 ⟨⟨h1, h2⟩, h3⟩⟩
                  rw [List.take_of_length_le (by omega), List.take_of_length_le (by omega)] at h3
                  exact ⟨h1, h3⟩
                · rintro ⟨h1, rfl⟩; exact ⟨⟨h1, rfl⟩, rfl⟩
              exact this
            go_upto_region 6 with fail
            go_cut [46] from 40 to 57 (fun s46 wx => s46 = .bool false ∧ wr = wx)
            case first =>
              by_cases hlt : k < xs.length
              · obtain rfl : q = false := by cases q; rfl; exact absurd ⟨hlt, rfl⟩ hgo
                go_wp2
                go_meet
                exact ⟨rfl, rfl⟩
              · go_wp2
                go_meet
                exact ⟨rfl, rfl⟩
            case rest =>
              obtain ⟨rfl, rfl⟩ := hcut
              obtain ⟨L1, hL1⟩ : ∃ L, (Unit → ofIn (c.toNat : Int) xs = L) := ⟨_, fun _ => rfl⟩
              obtain ⟨L2, hL2⟩ : ∃ L, (Unit → ofIn (d.toNat : Int) ys = L) := ⟨_, fun _ => rfl⟩
              have hll1 : L1.length ≤ 10000 := by rw [← hL1 ()]; exact hsx
              have hll2 : L2.length ≤ 10000 := by rw [← hL2 ()]; exact hsy
              have hLe : Hid (L1 = L2 ↔ q = true) := by
                have : L1 = L2 ↔ q = true := by rw [← hL1 (), ← hL2 (), hinj.out, hq2.out]
                exact this
              have hc255 := c.toNat_lt
              have hd255 := d.toNat_lt
              have hBt := hB3.next hbk hB3.lt
              have hk0 := hBt.cell (k := 0) (v := .int .u8 (c.toNat : Int)) rfl
              clear hinj hq hq2 hsx hsy hB3 hbel3 hbk hgo hk hN1 hN2
              go_wp2_with fail
              (with_reducible refine (in_any A cap n (c.toNat : Int) xs L1 _ hL1 HN.out hn12 hll1 (hh.next hbel)).mono ?_)
              rintro e w4 ⟨g1, c1, rfl, hx1, hb4⟩
              have hBt4 := hBt.next hb4 hBt.lt
              have hbel4 := below_join hbel hb4
              have hk1 := hBt4.cell (k := 1) (v := .int .u8 (d.toNat : Int)) rfl
              clear hBt hbel hb4 hk0
              go_wp2_with fail
              (with_reducible refine (in_any A2 cap2 m (d.toNat : Int) ys L2 _ hL2 HM.out hm12 hll2 (hh2.next hbel4)).mono ?_)
              rintro e w5 ⟨g2, c2, rfl, hx2, hb5⟩
              have hBt5 := hBt4.next hb5 hBt4.lt
              have hbel5 := below_join hbel4 hb5
              have hx15 := hx1.next hb5
              clear hBt4 hbel4 hb5 hk1 hx1
              by_cases hQ : q = true
              · subst hQ
                have hLL : L1 = L2 := hLe.out.2 rfl
                have hcv1 := run_conv_later w5 _ c1 L1.length L1 rfl hx15 w5 (Below.refl _ _)
                have hcv2 := run_conv_later w5 _ c2 L2.length L2 rfl hx2 w5 (Below.refl _ _)
                clear hL1 hL2 hLe
                subst hLL
                go_wp2
                go_ret
                exact ⟨rfl, hbel5⟩
              · obtain rfl : q = false := by cases q; rfl; exact absurd rfl hQ
                have hLL : Hid (¬ L1 = L2) := by
                  have : ¬ L1 = L2 := fun e => by have := hLe.out.1 e; cases this
                  exact this
                obtain ⟨S1, hS1⟩ : ∃ S, (Unit → SM.sum L1 = S) := ⟨_, fun _ => rfl⟩
                obtain ⟨S2, hS2⟩ : ∃ S, (Unit → SM.sum L2 = S) := ⟨_, fun _ => rfl⟩
                have hs1 : Hid (S1.length = 32) := by rw [← hS1 ()]; exact SM.sum_length _
                have hs2 : Hid (S2.length = 32) := by rw [← hS2 ()]; exact SM.sum_length _
                obtain ⟨D1, hD1⟩ : ∃ D, Hid (S1.take 16 = D) := ⟨_, rfl⟩
                obtain ⟨D2, hD2⟩ : ∃ D, Hid (S2.take 16 = D) := ⟨_, rfl⟩
                have hd1 : Hid (D1.length = 16) := by rw [← hD1.out, Hid, List.length_take, hs1.out]; rfl
                have hd2 : Hid (D2.length = 16) := by rw [← hD2.out, Hid, List.length_take, hs2.out]; rfl
                have hO1 : Unit → ofD (c.toNat : Int) xs = D1 := fun _ => by unfold ofD; rw [hL1 (), hS1 (), hD1.out]
                have hO2 : Unit → ofD (d.toNat : Int) ys = D2 := fun _ => by unfold ofD; rw [hL2 (), hS2 (), hD2.out]
                have hin1 : (ofIn (c.toNat : Int) xs).length ≤ 100000000 := by rw [hL1 ()]; omega
                have hin2 : (ofIn (d.toNat : Int) ys).length ≤ 100000000 := by rw [hL2 ()]; omega
                have hHD1 := hin1
                clear hHD1 hLe hQ
                have hk0 := hBt5.cell (k := 0) (v := .int .u8 (c.toNat : Int)) rfl
                go_wp2_with fail
                (with_reducible refine (of_to A cap n (c.toNat : Int) xs D1 _ hO1 HN.out (by omega) hin1 (HY.next hbel5) (hh.next hbel5)).mono ?_)
                rintro e w6 ⟨rfl, hb6⟩
                have hBt6 := hBt5.next hb6 hBt5.lt
                have hx1_6 := hx15.next hb6
                have hx2_6 := hx2.next hb6
                have hbel6 := below_join hbel5 hb6
                clear hBt5 hx15 hx2 hbel5 hb6
                clear hk0
                go_wp2_with (with_reducible refine wpList_alloc (o := ⟨some 12, .alloc 44, _, _, _, _⟩) ?ga1 44 ?oa1 (aggB (SM.zeros 16)) zero16 ?za1 ?ca1 ?_)
                try (case ga1 => rfl)
                try (case oa1 => rfl)
                try (case za1 => exact Tryd.zero44)
                try (case ca1 => rfl)
                intro gd w7 hgde hs7 hb7 hB7
                have hlt_gdt : gt < gd := by have := hBt6.lt; have := hgde.out; omega
                have hle_gd : w.heap.size ≤ gd := by have := hbel6.size; have := hgde.out; omega
                have hBt7 := hBt6.next hb7 hlt_gdt
                have hbel7 := hbel6.trans (hb7.mono hle_gd)
                have hx1_7 := hx1_6.next (hb7.mono (Nat.le_of_eq hgde.out.symm))
                have hx2_7 := hx2_6.next (hb7.mono (Nat.le_of_eq hgde.out.symm))
                have hz1_7 := hx1_6.away hgde.out
                have hz2_7 := hx2_6.away hgde.out
                clear hBt6 hx1_6 hx2_6 hbel6 hb7 hgde hs7
                go_wp2_with (with_reducible refine wpList_put (o := ⟨none, .store 44 (.tmp 12) (.tmp 81), _, _, _, _⟩) ?gp1 44 (.tmp 12) (.tmp 81) ?op1 gd 0 ?xp1 (.agg (D1.map B8).toArray) ?yp1 hB7 (D1.map B8) ?vp1 ?ip1 ?lp1 ?qp1 ?_)
                try (case yp1 => rfl)
                try (case xp1 => rfl)
                try (case gp1 => rfl)
                try (case op1 => rfl)
                try (case vp1 => rfl)
                try (case ip1 => exact (by rw [List.length_map, hd1.out]; exact Tryd.size44))
                try (case lp1 => (rw [List.length_map, hd1.out]; exact Nat.le_refl _))
                try (case qp1 => exact B8_one _)
                intro w8 hu8 hB8
                rw [splice_all _ _ (by rw [List.length_map, hd1.out]; rfl)] at hB8
                have hBt8 := hBt7.upd hu8 (by omega)
                have hbel8 := hbel7.trans (hu8.below (B := w.heap.size) hle_gd)
                have hx1_8 := hx1_7.upd hu8 hz1_7
                have hx2_8 := hx2_7.upd hu8 hz2_7
                clear hBt7 hbel7 hx1_7 hx2_7 hz1_7 hz2_7 hB7 hu8 
                have hk1 := hBt8.cell (k := 1) (v := .int .u8 (d.toNat : Int)) rfl
                go_wp2_with fail
                (with_reducible refine (of_to A2 cap2 m (d.toNat : Int) ys D2 _ hO2 HM.out (by omega) hin2 (HY.next hbel8) (hh2.next hbel8)).mono ?_)
                rintro e w9 ⟨rfl, hb9⟩
                have hBt9 := hBt8.next hb9 hBt8.lt
                have hx1_9 := hx1_8.next hb9
                have hx2_9 := hx2_8.next hb9
                have hbel9 := below_join hbel8 hb9
                have hgd_9 := hB8.next hb9 hB8.lt
                clear hBt8 hx1_8 hx2_8 hbel8 hB8 hb9
                clear hk1
                go_wp2_with (with_reducible refine wpList_alloc (o := ⟨some 13, .alloc 44, _, _, _, _⟩) ?ga2 44 ?oa2 (aggB (SM.zeros 16)) zero16 ?za2 ?ca2 ?_)
                try (case ga2 => rfl)
                try (case oa2 => rfl)
                try (case za2 => exact Tryd.zero44)
                try (case ca2 => rfl)
                intro ge w10 hgee hs10 hb10 hB10
                have hlt_get : gt < ge := by have := hBt9.lt; have := hgee.out; omega
                have hle_ge : w.heap.size ≤ ge := by have := hbel9.size; have := hgee.out; omega
                have hlt_gegd : gd < ge := by have := hgd_9.lt; have := hgee.out; omega
                have hBt10 := hBt9.next hb10 hlt_get
                have hbel10 := hbel9.trans (hb10.mono hle_ge)
                have hx1_10 := hx1_9.next (hb10.mono (Nat.le_of_eq hgee.out.symm))
                have hx2_10 := hx2_9.next (hb10.mono (Nat.le_of_eq hgee.out.symm))
                have hgd_10 := hgd_9.next hb10 hlt_gegd
                have hz1_10 := hx1_9.away hgee.out
                have hz2_10 := hx2_9.away hgee.out
                clear hBt9 hx1_9 hx2_9 hbel9 hgd_9 hb10 hgee hs10
                go_wp2_with (with_reducible refine wpList_put (o := ⟨none, .store 44 (.tmp 13) (.tmp 86), _, _, _, _⟩) ?gp2 44 (.tmp 13) (.tmp 86) ?op2 ge 0 ?xp2 (.agg (D2.map B8).toArray) ?yp2 hB10 (D2.map B8) ?vp2 ?ip2 ?lp2 ?qp2 ?_)
                try (case yp2 => rfl)
                try (case xp2 => rfl)
                try (case gp2 => rfl)
                try (case op2 => rfl)
                try (case vp2 => rfl)
                try (case ip2 => exact (by rw [List.length_map, hd2.out]; exact Tryd.size44))
                try (case lp2 => (rw [List.length_map, hd2.out]; exact Nat.le_refl _))
                try (case qp2 => exact B8_one _)
                intro w11 hu11 hB11
                rw [splice_all _ _ (by rw [List.length_map, hd2.out]; rfl)] at hB11
                have hBt11 := hBt10.upd hu11 (by omega)
                have hbel11 := hbel10.trans (hu11.below (B := w.heap.size) hle_ge)
                have hx1_11 := hx1_10.upd hu11 hz1_10
                have hx2_11 := hx2_10.upd hu11 hz2_10
                have hgd_11 := hgd_10.upd hu11 (by omega)
                clear hBt10 hbel10 hx1_10 hx2_10 hz1_10 hz2_10 hB10 hu11 hgd_10
                go_wp2_with fail
                (with_reducible refine (sum_at ⟨g1, 0, none⟩ c1 L1.length L1 S1 _ hS1 rfl (by omega) (HY.next hbel11) hx1_11).mono ?_)
                rintro e w12 ⟨rfl, hb12⟩
                have hBt12 := hBt11.next hb12 hBt11.lt
                have hx1_12 := hx1_11.next hb12
                have hx2_12 := hx2_11.next hb12
                have hbel12 := below_join hbel11 hb12
                have hgd_12 := hgd_11.next hb12 hgd_11.lt
                have hge_12 := hB11.next hb12 hB11.lt
                clear hBt11 hx1_11 hx2_11 hbel11 hgd_11 hB11 hb12
                go_wp2_with (with_reducible refine wpList_alloc (o := ⟨some 14, .alloc 24, _, _, _, _⟩) ?ga3 24 ?oa3 (aggB (SM.zeros 32)) zero32 ?za3 ?ca3 ?_)
                try (case ga3 => rfl)
                try (case oa3 => rfl)
                try (case za3 => exact Tryd.zero24)
                try (case ca3 => rfl)
                intro gg w13 hgge hs13 hb13 hB13
                have hlt_ggt : gt < gg := by have := hBt12.lt; have := hgge.out; omega
                have hle_gg : w.heap.size ≤ gg := by have := hbel12.size; have := hgge.out; omega
                have hlt_gggd : gd < gg := by have := hgd_12.lt; have := hgge.out; omega
                have hlt_ggge : ge < gg := by have := hge_12.lt; have := hgge.out; omega
                have hBt13 := hBt12.next hb13 hlt_ggt
                have hbel13 := hbel12.trans (hb13.mono hle_gg)
                have hx1_13 := hx1_12.next (hb13.mono (Nat.le_of_eq hgge.out.symm))
                have hx2_13 := hx2_12.next (hb13.mono (Nat.le_of_eq hgge.out.symm))
                have hgd_13 := hgd_12.next hb13 hlt_gggd
                have hge_13 := hge_12.next hb13 hlt_ggge
                have hz1_13 := hx1_12.away hgge.out
                have hz2_13 := hx2_12.away hgge.out
                clear hBt12 hx1_12 hx2_12 hbel12 hgd_12 hge_12 hb13 hgge hs13
                go_wp2_with (with_reducible refine wpList_put (o := ⟨none, .store 24 (.tmp 14) (.tmp 88), _, _, _, _⟩) ?gp3 24 (.tmp 14) (.tmp 88) ?op3 gg 0 ?xp3 (.agg (S1.map B8).toArray) ?yp3 hB13 (S1.map B8) ?vp3 ?ip3 ?lp3 ?qp3 ?_)
                try (case yp3 => rfl)
                try (case xp3 => rfl)
                try (case gp3 => rfl)
                try (case op3 => rfl)
                try (case vp3 => rfl)
                try (case ip3 => exact (by rw [List.length_map, hs1.out]; exact Tryd.size24))
                try (case lp3 => (rw [List.length_map, hs1.out]; exact Nat.le_refl _))
                try (case qp3 => exact B8_one _)
                intro w14 hu14 hB14
                rw [splice_all _ _ (by rw [List.length_map, hs1.out]; rfl)] at hB14
                have hBt14 := hBt13.upd hu14 (by omega)
                have hbel14 := hbel13.trans (hu14.below (B := w.heap.size) hle_gg)
                have hx1_14 := hx1_13.upd hu14 hz1_13
                have hx2_14 := hx2_13.upd hu14 hz2_13
                have hgd_14 := hgd_13.upd hu14 (by omega)
                have hge_14 := hge_13.upd hu14 (by omega)
                clear hBt13 hbel13 hx1_13 hx2_13 hz1_13 hz2_13 hB13 hu14 hgd_13 hge_13
                go_wp2_with fail
                (with_reducible refine (sum_at ⟨g2, 0, none⟩ c2 L2.length L2 S2 _ hS2 rfl (by omega) (HY.next hbel14) hx2_14).mono ?_)
                rintro e w15 ⟨rfl, hb15⟩
                have hBt15 := hBt14.next hb15 hBt14.lt
                have hx1_15 := hx1_14.next hb15
                have hx2_15 := hx2_14.next hb15
                have hbel15 := below_join hbel14 hb15
                have hgd_15 := hgd_14.next hb15 hgd_14.lt
                have hge_15 := hge_14.next hb15 hge_14.lt
                have hgg_15 := hB14.next hb15 hB14.lt
                clear hBt14 hx1_14 hx2_14 hbel14 hgd_14 hge_14 hB14 hb15
                go_wp2_with (with_reducible refine wpList_alloc (o := ⟨some 15, .alloc 24, _, _, _, _⟩) ?ga4 24 ?oa4 (aggB (SM.zeros 32)) zero32 ?za4 ?ca4 ?_)
                try (case ga4 => rfl)
                try (case oa4 => rfl)
                try (case za4 => exact Tryd.zero24)
                try (case ca4 => rfl)
                intro gh w16 hghe hs16 hb16 hB16
                have hlt_ght : gt < gh := by have := hBt15.lt; have := hghe.out; omega
                have hle_gh : w.heap.size ≤ gh := by have := hbel15.size; have := hghe.out; omega
                have hlt_ghgd : gd < gh := by have := hgd_15.lt; have := hghe.out; omega
                have hlt_ghge : ge < gh := by have := hge_15.lt; have := hghe.out; omega
                have hlt_ghgg : gg < gh := by have := hgg_15.lt; have := hghe.out; omega
                have hBt16 := hBt15.next hb16 hlt_ght
                have hbel16 := hbel15.trans (hb16.mono hle_gh)
                have hx1_16 := hx1_15.next (hb16.mono (Nat.le_of_eq hghe.out.symm))
                have hx2_16 := hx2_15.next (hb16.mono (Nat.le_of_eq hghe.out.symm))
                have hgd_16 := hgd_15.next hb16 hlt_ghgd
                have hge_16 := hge_15.next hb16 hlt_ghge
                have hgg_16 := hgg_15.next hb16 hlt_ghgg
                have hz1_16 := hx1_15.away hghe.out
                have hz2_16 := hx2_15.away hghe.out
                clear hBt15 hx1_15 hx2_15 hbel15 hgd_15 hge_15 hgg_15 hb16 hghe hs16
                go_wp2_with (with_reducible refine wpList_put (o := ⟨none, .store 24 (.tmp 15) (.tmp 90), _, _, _, _⟩) ?gp4 24 (.tmp 15) (.tmp 90) ?op4 gh 0 ?xp4 (.agg (S2.map B8).toArray) ?yp4 hB16 (S2.map B8) ?vp4 ?ip4 ?lp4 ?qp4 ?_)
                try (case yp4 => rfl)
                try (case xp4 => rfl)
                try (case gp4 => rfl)
                try (case op4 => rfl)
                try (case vp4 => rfl)
                try (case ip4 => exact (by rw [List.length_map, hs2.out]; exact Tryd.size24))
                try (case lp4 => (rw [List.length_map, hs2.out]; exact Nat.le_refl _))
                try (case qp4 => exact B8_one _)
                intro w17 hu17 hB17
                rw [splice_all _ _ (by rw [List.length_map, hs2.out]; rfl)] at hB17
                have hBt17 := hBt16.upd hu17 (by omega)
                have hbel17 := hbel16.trans (hu17.below (B := w.heap.size) hle_gh)
                have hx1_17 := hx1_16.upd hu17 hz1_16
                have hx2_17 := hx2_16.upd hu17 hz2_16
                have hgd_17 := hgd_16.upd hu17 (by omega)
                have hge_17 := hge_16.upd hu17 (by omega)
                have hgg_17 := hgg_16.upd hu17 (by omega)
                clear hBt16 hbel16 hx1_16 hx2_16 hz1_16 hz2_16 hB16 hu17 hgd_16 hge_16 hgg_16
                clear hh hh2 HB HB2 HN HM hL1 hL2 hO1 hO2 hin1 hin2 hS1 hS2
                go_wp2
                go_loopw [16, 17] (Sp2Rel S1 S2 w17) (fun _ i _ => 16 - (intOf i).toNat)
                case atStart =>
                  refine ⟨0, true, by omega, rfl, rfl, ?_, Below.refl _ _⟩
                  have h3 : true = true ↔ S1.take 0 = S2.take 0 := by simp
                  exact h3
                case round =>
                  obtain ⟨k, q, hk, rfl, rfl, hq, hbk⟩ := hrel
                  have hG := hgg_17.next hbk hgg_17.lt
                  have hH := hB17.next hbk hB17.lt
                  by_cases hk16 : k < 16
                  · have hst := Lib.hid (take_succ_iff S1 S2 k (by rw [hs1.out]; omega) (by rw [hs2.out]; omega))
                    by_cases hqt : q = true
                    · subst hqt
                      have hq1 := Lib.hid (hq.out.1 rfl)
                      clear hq
                      have hc1 := hG.cell (k := k) (v := B8 (S1.getD k 0)) (by rw [List.getElem?_map, List.getD_eq_getElem?_getD, List.getElem?_eq_getElem (by rw [hs1.out]; omega)]; rfl)
                      have hc2 := hH.cell (k := k) (v := B8 (S2.getD k 0)) (by rw [List.getElem?_map, List.getD_eq_getElem?_getD, List.getElem?_eq_getElem (by rw [hs2.out]; omega)]; rfl)
                      generalize S1.getD k 0 = x1 at hc1 hst
                      generalize S2.getD k 0 = x2 at hc2 hst
                      unfold B8 at hc1 hc2
                      go_wp2
                      go_quiet (fail)
                      have hbk2 := hbk.drewN nq
                      clear hbk hG hH hc1 hc2
                      generalize wr.drewN nq = wq at hbk2 ⊢
                      go_wp2
                      go_roundw
                      case rel =>
                        refine ⟨k + 1, _, by omega, by go_num, rfl, ?_, hbk2⟩
                        have h3 : ((x1.toNat : Int) == (x2.toNat : Int)) = true ↔ S1.take (k + 1) = S2.take (k + 1) := by
                          rw [hst.out, beq_iff_eq]
                          have h4 := hq1.out
                          exact ⟨fun e => ⟨h4, UInt8.toNat_inj.1 (by omega)⟩, fun e => by rw [e.2]⟩
                        exact h3
                      case measure => simp [intOf]; omega
                    · obtain rfl : q = false := by cases q; rfl; exact absurd rfl hqt
                      have hq1 : Hid (¬ S1.take k = S2.take k) := by
                        have : ¬ S1.take k = S2.take k := fun e => by have := hq.out.2 e; cases this
                        exact this
                      clear hq
                      go_wp2
                      go_quiet (fail)
                      have hbk2 := hbk.drewN nq
                      clear hbk hG hH
                      generalize wr.drewN nq = wq at hbk2 ⊢
                      go_wp2
                      go_roundw
                      case rel =>
                        refine ⟨k + 1, false, by omega, by go_num, rfl, ?_, hbk2⟩
                        have h3 : false = true ↔ S1.take (k + 1) = S2.take (k + 1) := by
                          rw [hst.out]
                          exact ⟨(fun e => by cases e), fun e => absurd e.1 hq1.out⟩
                        exact h3
                      case measure => simp [intOf]; omega
                  · obtain rfl : k = 16 := by omega
                    have hqe : q = decide (D1 = D2) := by
                      rw [Bool.eq_iff_iff, hq.out, decide_eq_true_eq, hD1.out, hD2.out]
                    subst hqe
                    have hd := hgd_17.next hbk hgd_17.lt
                    have he := hge_17.next hbk hge_17.lt
                    have hx1 := hx1_17.next hbk
                    have hx2 := hx2_17.next hbk
                    have hcv1 := run_conv_later wr _ c1 L1.length L1 rfl hx1 wr (Below.refl _ _)
                    have hcv2 := run_conv_later wr _ c2 L2.length L2 rfl hx2 wr (Below.refl _ _)
                    have hbelr := below_join hbel17 hbk
                    have hsq : (L1 == L2) = false := beq_eq_false_iff_ne.2 hLL.out
                    have hsn : (L1 != L2) = true := by rw [bne, hsq]; rfl
                    clear hG hH hq hk16 hbk
                    go_wp2_with (first | (with_reducible refine wpList_getg (o := ⟨some 114, .load 44 (.tmp 12), _, _, _, _⟩) ?ge1 44 (.tmp 12) ?oe1 gd 0 ?xe1 hd (D1.map B8) ?ce1 (.array 16 5) ?ue1 ?de1 ?ie1 ?_) | (with_reducible refine wpList_getg (o := ⟨some 115, .load 44 (.tmp 13), _, _, _, _⟩) ?ge2 44 (.tmp 13) ?oe2 ge 0 ?xe2 he (D2.map B8) ?ce2 (.array 16 5) ?ue2 ?de2 ?ie2 ?_) | (with_reducible refine wpList_eqArr (o := ⟨some 116, .binOp .eql 44 (.tmp 114) (.tmp 115) 44, _, _, _, _⟩) ?ge3 44 (.tmp 114) (.tmp 115) ?oe3 16 ?ue3 ?ee3 D1 D2 ?xe3 ?ye3 ?le3 ?re3 ?_))
                    try (case xe1 => rfl)
                    try (case ge1 => rfl)
                    try (case oe1 => rfl)
                    try (case ce1 => (exact cs_all _))
                    try (case ue1 => exact Tryd.underlying44)
                    try (case de1 => first | rfl | assumption)
                    try (case ie1 => (rw [List.length_map, hd1.out]; exact Tryd.size44))
                    try (case xe2 => rfl)
                    try (case ge2 => rfl)
                    try (case oe2 => rfl)
                    try (case ce2 => (exact cs_all _))
                    try (case ue2 => exact Tryd.underlying44)
                    try (case de2 => first | rfl | assumption)
                    try (case ie2 => (rw [List.length_map, hd2.out]; exact Tryd.size44))
                    try (case xe3 => rfl)
                    try (case ye3 => rfl)
                    try (case ge3 => rfl)
                    try (case oe3 => rfl)
                    try (case ue3 => exact Tryd.underlying44)
                    try (case ee3 => exact Tryd.guard44)
                    try (case le3 => exact hd1.out)
                    try (case re3 => exact hd2.out)
                    go_ret
                    exact ⟨by simp, hbelr⟩
    · rw [show fewB ys = false by simpa using hfy]
      go_wp2
      go_ret
      exact ⟨rfl, hbel3⟩
  · rw [show fewB xs = false by simpa using hfx]
    go_wp2
    go_ret
    exact ⟨rfl, hbel2⟩
end Go.Proofs.YtnhnfdfjlagcjaaDoor
