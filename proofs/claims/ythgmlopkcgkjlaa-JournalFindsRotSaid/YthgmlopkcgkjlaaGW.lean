/-
  Contracts of the functions that the statement calls, part 23 of 37 (merged texts: Jp2, Jp3, Jp4, Jp5, Jp6, Jr7). Conditions: as the head of each part says.
-/
import Derived.Test.YthgmlopkcgkjlaaGU
import Derived.Test.YthgmlopkcgkjlaaGV
import Derived.Shelf.SlicesE.Clone
import Derived.WalkMore

/-
  Contracts of the walks over slices.Clone, slices.Clip and slices.ContainsFunc at texts, and over the program's Records. Conditions: the rows lie there.
-/
namespace Go.Proofs.Ythgmlopkcgkjlaa
open Go.RowKit Go.Shelf

/-- An address that a walk made. -/
def OwnA (A : Option Addr) : Prop := A = none ∨ ∃ g, A = some ⟨g, 0, none⟩
theorem own_addr {w : World} {base n c : Nat} {A : Option Addr} {E : TypeId} {xs : List Value} (h : w.ownsRow base E 1 (.slice A n c) n xs) : OwnA A := by
  rcases h.2 with ⟨h1, _⟩ | ⟨g, cap, cur, h1, _⟩
  · injection h1 with h1 _ _
    exact .inl h1
  · injection h1 with h1 _ _
    exact .inr ⟨g, h1⟩
/-- Where records lie, and in how many cells; from block n0 on. -/
structure OwnC (n0 : Nat) (A : Option Addr) (n c : Nat) : Prop where
  own : OwnA A
  cap : n ≤ c
  zero : A = none → n = 0 ∧ c = 0
  lo : ∀ g, A = some ⟨g, 0, none⟩ → n0 ≤ g
theorem own_c {w : World} {base n c : Nat} {A : Option Addr} {E : TypeId} {xs : List Value} (h : w.ownsRow base E 1 (.slice A n c) n xs) : OwnC base A n c := by
  have hO := own_addr h
  rcases h.2 with ⟨h1, h2⟩ | ⟨g, cap, cur, h1, h2, h3, h4, _⟩
  · injection h1 with h1 e2 e3
    subst h1 e3
    exact ⟨hO, by omega, fun _ => ⟨h2, rfl⟩, fun g hg => (by cases hg)⟩
  · injection h1 with h1 _ e3
    subst h1 e3
    exact ⟨hO, h4, fun e => (by cases e), fun g' hg => (by injection hg with hg; injection hg with hg _ _; rw [← hg]; exact h2)⟩
theorem OwnC.low {n0 n1 n c : Nat} {A : Option Addr} (h : OwnC n1 A n c) (hn : n0 ≤ n1) : OwnC n0 A n c := ⟨h.own, h.cap, h.zero, fun g hg => Nat.le_trans hn (h.lo g hg)⟩
theorem row_nil {w : World} {xs : List Value} (h : RowAt w none xs) : xs = [] := by
  cases xs with
  | nil => rfl
  | cons y ys => obtain ⟨g, e, _⟩ := h 0 y rfl; cases e
set_option maxRecDepth 100000 in
theorem sclone_any (A : Option Addr) (c n : Nat) (l : List ByteArray) (w : World) (hn : l.length = n) (hn6 : n ≤ 1000000) (hA : RowAt w A (l.map Value.string)) (hO : OwnA A) :
    Calls Try.prog 78 #[.slice A n c] w fun e w' => ∃ v, e = .returned v ∧ w'.ownsRow w.heap.size 9 1 v n (l.map Value.string) ∧ Below w.heap.size w w' := by
  obtain ⟨i0, hi, hz0, hz1, hz2⟩ := info_parts Try.infoS
  rcases hO with rfl | ⟨g, rfl⟩
  · have hl := row_nil hA
    have hl0 : l = [] := List.map_eq_nil_iff.1 hl
    subst hl0
    subst hn
    refine (AnyE.slices_Clone_nil Try.cloneSt _ c w).mono ?_
    rintro e w' ⟨rfl, rfl⟩
    exact ⟨_, rfl, World.ownsRow_nil _ _ _ _, Below.refl _ _⟩
  · refine (AnyE.slices_Clone Try.cloneSt i0 _ 1 16 hi hz0 hz1 hz2 rfl (by omega) (fun w => by kernel_rfl) g 0 n c (l.map Value.string) w (by rw [List.length_map, hn]; omega) (by unfold maxLen; omega) (by omega) (fun j u hu => by
      obtain ⟨g', e, hc⟩ := hA j u hu
      injection e with e
      injection e with e _ _
      subst e
      rw [Nat.zero_add]; exact hc) (strs_one l)).mono ?_
    rintro e w' ⟨v, rfl, hown, _, hb⟩
    exact ⟨v, rfl, hown, hb⟩
theorem clip_any (A : Option Addr) (c n : Nat) (w : World) (hn : n ≤ c) (h0 : A = none → n = 0 ∧ c = 0) :
    Calls Try.prog 82 #[.slice A n c] w fun e w' => e = .returned (.slice A n n) ∧ w = w' := by
  have hni : (n : Int) ≤ (c : Int) := by omega
  cases A with
  | none =>
    obtain ⟨rfl, rfl⟩ := h0 rfl
    go_enter Try.func82, Try.ntmps82
    go_wp2
    go_ret
    exact ⟨rfl, rfl⟩
  | some p =>
    clear h0
    go_enter Try.func82, Try.ntmps82
    go_wp2
    go_ret
    exact ⟨rfl, rfl⟩
theorem long_any (r : ByteArray) (w : World) :
    Calls Try.prog 96 #[.string r] w fun e w' => e = .returned (.bool (decide (8000 < r.size))) ∧ w = w' := by
  by_cases h : 8000 < r.size
  · have hi : (8000 : Int) < (r.size : Int) := by omega
    rw [decide_eq_true h]
    go_enter Try.func96, Try.ntmps96
    go_wp2
    go_ret
    exact ⟨rfl, rfl⟩
  · have hi : (r.size : Int) ≤ 8000 := by omega
    rw [decide_eq_false h]
    go_enter Try.func96, Try.ntmps96
    go_wp2
    go_ret
    exact ⟨by show Ending.returned (.bool (decide ((8000 : Int) < (r.size : Int)))) = _; rw [decide_eq_false (by omega)], rfl⟩
set_option maxRecDepth 100000 in
set_option maxHeartbeats 800000 in
theorem index_any (A : Option Addr) (c n : Nat) (l : List ByteArray) (w : World) (hn : l.length = n) (hn6 : n ≤ 1000000) (hA : RowAt w A (l.map Value.string)) :
    Calls Try.prog 114 #[.slice A n c, .func (.func 96) #[] #[]] w fun e w' => ∃ i : Int, e = .returned (.int .i64 i) ∧ (decide (0 ≤ i) = l.any (fun r => decide (8000 < r.size))) ∧ w = w' := by
  have HA := Lib.hid hA.map
  have HN := Lib.hid hn
  clear hA hn
  go_enter Try.func114, Try.ntmps114
  go_wp2
  go_loopw [8] (fun i wr => ∃ j : Nat, j ≤ n ∧ i = .int .i64 j ∧ longAt l j ∧ w = wr) (fun i _ => n - natOf i)
  case atStart => exact ⟨0, Nat.zero_le _, rfl, fun m r hm => absurd hm (Nat.not_lt_zero _), rfl⟩
  case round =>
    obtain ⟨j, hj, rfl, hla, rfl⟩ := hrel
    by_cases hjn : j < n
    · have hji : (j : Int) < (n : Int) := by omega
      obtain ⟨r, hr⟩ : ∃ r, l[j]? = some r := ⟨_, List.getElem?_eq_getElem (by rw [HN.out]; exact hjn)⟩
      obtain ⟨g, rfl, hc⟩ := HA.out j r hr
      have HLA := Lib.hid hla
      have HR := Lib.hid hr
      clear hr hla hj
      by_cases hlong : 8000 < r.size
      · have hany : Hid (l.any (fun r => decide (8000 < r.size)) = true) := any_true HR.out hlong
        have hd := decide_eq_true hlong
        go_wp2_with fail
        (with_reducible refine (long_any r _).mono ?_)
        rintro e w' ⟨rfl, rfl⟩
        rw [hd]
        clear hd hlong
        go_wp2
        go_ret
        exact ⟨_, rfl, by rw [hany.out]; simp, rfl⟩
      · have hd := decide_eq_false hlong
        have hle : r.size ≤ 8000 := by omega
        go_wp2_with fail
        (with_reducible refine (long_any r _).mono ?_)
        rintro e w' ⟨rfl, rfl⟩
        rw [hd]
        clear hd hlong
        go_wp2
        go_roundw
        case rel => exact ⟨j + 1, by omega, by go_num, longAt_next HLA.out HR.out hle, by first | exact rfl | exact trivial⟩
        case measure => simp [natOf]; omega
    · obtain rfl : j = n := by omega
      have hany : Hid (l.any (fun r => decide (8000 < r.size)) = false) := any_false (by rw [HN.out]; exact hla)
      clear hla hj hjn
      go_wp2
      go_ret
      exact ⟨_, rfl, by rw [hany.out]; simp, rfl⟩
theorem contains_any (A : Option Addr) (c n : Nat) (l : List ByteArray) (b : Bool) (w : World) (hn : l.length = n) (hn6 : n ≤ 1000000) (hb : l.any (fun r => decide (8000 < r.size)) = b) (hA : RowAt w A (l.map Value.string)) :
    Calls Try.prog 97 #[.slice A n c, .func (.func 96) #[] #[]] w fun e w' => e = .returned (.bool b) ∧ w = w' := by
  have HB := Lib.hid hb
  clear hb
  go_enter Try.func97, Try.ntmps97
  go_wp2_with fail
  (with_reducible refine (index_any A c n l _ hn hn6 hA).mono ?_)
  rintro e w' ⟨i, rfl, hi, rfl⟩
  rw [HB.out] at hi
  cases b with
  | true =>
    have hi2 : 0 ≤ i := of_decide_eq_true hi
    clear hi
    go_wp2
    go_ret
    exact ⟨rfl, rfl⟩
  | false =>
    have hi2 : i < 0 := by have := of_decide_eq_false hi; omega
    clear hi
    go_wp2
    go_ret
    exact ⟨by show Ending.returned (.bool (decide (0 ≤ i))) = _; rw [decide_eq_false (by omega)], rfl⟩
theorem jrecords_any (gj gd half : Nat) (A : Option Addr) (c : Nat) (l : List ByteArray) (cl : Bool) (w : World) (hl : l.length ≤ 1000000) (hO : OwnA A) (hj : JRec w gj gd half A c l cl) :
    Calls Try.prog 42 #[.pointer (some ⟨gj, 0, none⟩)] w fun e w' => ∃ v, e = .returned v ∧ w'.ownsRow w.heap.size 9 1 v l.length (l.map Value.string) ∧ Below w.heap.size w w' := by
  have c2 := hj.d.cell (k := 2) rfl
  have hR := hj.r
  obtain ⟨n, hn⟩ : ∃ n, Hid (l.length = n) := ⟨_, rfl⟩
  rw [hn.out] at c2 hl
  rw [hn.out]
  clear hj
  go_enter Try.func42, Try.ntmps42
  go_wp2_with fail
  (with_reducible refine (sclone_any A c n l _ hn.out hl hR hO).mono ?_)
  rintro e w' ⟨v, rfl, hown, hb⟩
  go_wp2
  go_ret
  exact ⟨v, rfl, hown, hb⟩
end Go.Proofs.Ythgmlopkcgkjlaa

/-
  Contracts of the walks over journal.summer and its closure: the sum of what came. Conditions: the sum's variable lies there.
-/
namespace Go.Proofs.Ythgmlopkcgkjlaa
open Go.RowKit

theorem wrapU (x : Int) : IntKind.u64.wrap x = x % 18446744073709551616 := by rfl
theorem emod_mul_gen (x p w : Int) : x % w * p % w = x * p % w := by simp [Int.mul_emod]
/-- One step of the sum, as the machine makes it. -/
theorem mix_steps (s : Nat) (b : UInt8) (x1 x2 x3 : Int) (h1 : IntKind.u64.wrap ((s : Int) + (b.toNat : Int)) = x1) (h2 : IntKind.u64.wrap (x1 + 1) = x2) (h3 : IntKind.u64.wrap (x2 * 1099511628211) = x3) : x3 = (JM.mix s b : Nat) := by
  rw [wrapU] at h1 h2 h3
  have e : ((JM.mix s b : Nat) : Int) = ((s : Int) + (b.toNat : Int) + 1) * 1099511628211 % 18446744073709551616 := by
    unfold JM.mix JM.P JM.W
    rw [Int.natCast_emod, Int.natCast_mul, Int.natCast_add, Int.natCast_add]; rfl
  rw [e, ← h3, ← h2, ← h1, Int.emod_add_emod, emod_mul_gen]
theorem u8_u64 (b : UInt8) : IntKind.u64.wrap (b.toNat : Int) = (b.toNat : Int) := by
  rw [wrapU]
  have := b.toNat_lt
  omega
theorem Try.szU : (Try.prog.info? 152).map (·.size) = some 1 := by kernel_rfl
theorem Try.zeroU : (Try.prog.info? 152).map (·.zero) = some (some (.int .u64 0)) := by kernel_rfl
def SmRel (gs gc s0 : Nat) (l : List UInt8) (w1 w : World) (i : Value) (wr : World) : Prop :=
  ∃ j : Nat, j ≤ l.length ∧ i = .int .i64 j ∧ Blk wr gs 152 [.int .u64 (JM.sumF s0 (l.take j) : Nat)] ∧ Held wr gc l ∧ Only [gs] w wr ∧ w1.heap.size ≤ wr.heap.size
set_option maxRecDepth 100000 in
set_option maxHeartbeats 800000 in
theorem summer1_any (gs s0 : Nat) (s : ByteArray) (w : World) (hs : s.size ≤ 1000000) (hB : Blk w gs 152 [.int .u64 (s0 : Nat)]) :
    Calls Try.prog 133 #[.string s, .pointer (some ⟨gs, 0, none⟩)] w fun e w' => e = .returned (.int .u64 (JM.sumF s0 s.data.toList : Nat)) ∧ Blk w' gs 152 [.int .u64 (JM.sumF s0 s.data.toList : Nat)] ∧ Only [gs] w w' := by
  obtain ⟨l, hl⟩ : ∃ l, s.data.toList = l := ⟨_, rfl⟩
  have hlen : l.length = s.size := by rw [← hl, bytes_size]
  have HL := Lib.hid hl
  have hfin : Hid (l.take s.size = l) := by
    have : l.take s.size = l := by rw [← hlen, List.take_length]
    exact this
  obtain ⟨n, hn⟩ : ∃ n, Hid (s.size = n) := ⟨_, rfl⟩
  rw [hn.out] at hlen hfin hs
  rw [hl]
  clear hl
  go_enter Try.func133, Try.ntmps133
  go_wp2_with (with_reducible refine wpList_bytesH (o := ⟨some 7, .convert 9 110 (.tmp 6), _, _, _, _⟩) (by with_unfolding_all rfl) (.tmp 6) (by with_unfolding_all rfl) s (by with_unfolding_all rfl) ?_)
  intro gc cap w1 hgc hb1 hH1
  rw [HL.out] at hH1
  rw [hn.out]
  have hB1 := hB.next hb1 hB.lt
  have ho1 := Only.of_below (L := [gs]) hb1
  have hne : gc ≠ gs := fun e => by have := hB.lt; have := hgc.out; omega
  clear hB hb1 hgc
  go_wp2
  go_loopw [9] (fun i wr => SmRel gs gc s0 l w1 w i wr) (fun i _ => n - natOf i)
  case atStart => exact ⟨0, Nat.zero_le _, rfl, hB1, hH1, ho1, Nat.le_refl _⟩
  case round =>
    clear hB1 hH1 ho1
    obtain ⟨j, hj, rfl, hB, hH, ho, hsz⟩ := hrel
    rw [hlen] at hj
    by_cases hjn : j < n
    · have hji : (j : Int) < (n : Int) := by omega
      obtain ⟨b, hb⟩ : ∃ b, l[j]? = some b := ⟨_, List.getElem?_eq_getElem (by rw [hlen]; exact hjn)⟩
      have hcb := hH.cell j b hb
      have c0 := hB.cell (k := 0) rfl
      have hnx := JM.sumF_next s0 l j b hb
      obtain ⟨v, hv⟩ : ∃ v, JM.sumF s0 (l.take j) = v := ⟨_, rfl⟩
      rw [hv] at c0 hnx hB
      obtain ⟨x1, h1⟩ : ∃ x1, IntKind.u64.wrap ((v : Int) + (b.toNat : Int)) = x1 := ⟨_, rfl⟩
      obtain ⟨x2, h2⟩ : ∃ x2, IntKind.u64.wrap (x1 + 1) = x2 := ⟨_, rfl⟩
      obtain ⟨x3, h3⟩ : ∃ x3, IntKind.u64.wrap (x2 * 1099511628211) = x3 := ⟨_, rfl⟩
      have HX := Lib.hid (mix_steps v b x1 x2 x3 h1 h2 h3)
      have hu := u8_u64 b
      have HNX := Lib.hid hnx
      have HV := Lib.hid hv
      clear hb hnx hv hj
      go_wp2_with (with_reducible refine wpList_put (o := ⟨none, .store 152 (.tmp 1) (.tmp 18), _, _, _, _⟩) (by with_unfolding_all rfl) 152 (.tmp 1) (.tmp 18) (by with_unfolding_all rfl) gs 0 (by with_unfolding_all rfl) (.int .u64 x3) (by with_unfolding_all rfl) hB [(.int .u64 x3)] (by with_unfolding_all rfl) (by with_unfolding_all exact Try.szU) (by with_unfolding_all simp) (by with_unfolding_all exact one_cell1 rfl) ?_)
      intro w2 hu2 hB2
      have hB2' : Blk w2 gs 152 [.int .u64 x3] := hB2
      rw [HX.out] at hB2'
      have hH2 := hH.upd hu2 hne
      have ho2 := ho.trans (Only.of_upd (L := [gs]) hu2 (by simp))
      have hsz2 : w1.heap.size ≤ w2.heap.size := by rw [hu2.size]; exact hsz
      clear hB hB2 hH ho hsz hu2 c0 hcb
      go_wp2
      go_roundw
      case rel => exact ⟨j + 1, by rw [hlen]; omega, by go_num, by rw [HNX.out]; exact hB2', hH2, ho2, hsz2⟩
      case measure => simp [natOf]; omega
    · obtain rfl : j = n := by omega
      rw [hfin.out] at hB
      have c0 := hB.cell (k := 0) rfl
      clear hj hjn hH hsz
      go_wp2
      go_ret
      exact ⟨rfl, hB, ho⟩
theorem summer_any (w : World) :
    Calls Try.prog 111 #[] w fun e w' => ∃ gs, e = .returned (.func (.func 133) #[] #[.pointer (some ⟨gs, 0, none⟩)]) ∧ Blk w' gs 152 [.int .u64 ((0 : Nat) : Int)] ∧ Below w.heap.size w w' ∧ w.heap.size ≤ gs := by
  go_enter Try.func111, Try.ntmps111
  go_wp2_with (with_reducible refine wpList_alloc (o := ⟨some 1, .alloc 152, _, _, _, _⟩) (by with_unfolding_all rfl) 152 (by with_unfolding_all rfl) (.int .u64 0) [.int .u64 0] (by exact Try.zeroU) (by with_unfolding_all rfl) ?_)
  intro gs w1 hgs hs1 hb1 hB1
  have hle : w.heap.size ≤ gs := Nat.le_of_eq hgs.out.symm
  have hbel1 : Below w.heap.size w w1 := hb1.mono hle
  clear hb1 hs1 hgs
  go_wp2_with (with_reducible refine wpList_put (o := ⟨none, .store 152 (.tmp 1) (.const (.int .u64 0)), _, _, _, _⟩) (by with_unfolding_all rfl) 152 (.tmp 1) (.const (.int .u64 0)) (by with_unfolding_all rfl) gs 0 (by with_unfolding_all rfl) (.int .u64 0) (by with_unfolding_all rfl) hB1 [(.int .u64 0)] (by with_unfolding_all rfl) (by with_unfolding_all exact Try.szU) (by with_unfolding_all simp) (by with_unfolding_all exact one_cell1 rfl) ?_)
  intro w2 hu2 hB2
  have hB2' : Blk w2 gs 152 [.int .u64 ((0 : Nat) : Int)] := hB2
  have hbel2 := hbel1.trans (hu2.below (B := w.heap.size) hle)
  clear hB1 hB2 hu2 hbel1
  go_wp2
  go_ret
  exact ⟨gs, rfl, hB2', hbel2, hle⟩
end Go.Proofs.Ythgmlopkcgkjlaa

/-
  Contracts of the walks over journal.headOf and a head's size. Conditions: none.
-/
namespace Go.Proofs.Ythgmlopkcgkjlaa
open Go.RowKit

namespace JM
def byteAt (n j : Nat) : UInt8 := UInt8.ofNat (n / 2 ^ (8 * j))
def stage1 (sz : Nat) : Nat → List UInt8
  | 0 => List.replicate 16 0
  | j + 1 => ((stage1 sz j).set j (byteAt sz j)).set (4 + j) (byteAt sz j)
def stage2 (sz sm : Nat) : Nat → List UInt8
  | 0 => stage1 sz 4
  | j + 1 => (stage2 sz sm j).set (8 + j) (byteAt sm j)
def headB (sz sm : Nat) : List UInt8 := stage2 sz sm 8
theorem stage1_length (sz : Nat) : ∀ j, (stage1 sz j).length = 16
  | 0 => by simp [stage1]
  | j + 1 => by simp [stage1, stage1_length sz j]
theorem stage2_length (sz sm : Nat) : ∀ j, (stage2 sz sm j).length = 16
  | 0 => stage1_length sz 4
  | j + 1 => by simp [stage2, stage2_length sz sm j]
end JM
theorem splice_one (L : List UInt8) (k : Nat) (b : UInt8) (h : k < L.length) : splice (L.map B8) k [B8 b] = (L.set k b).map B8 := by
  unfold splice
  rw [List.set_eq_take_append_cons_drop, if_pos h, List.map_append, List.map_cons, List.map_take, List.map_drop, List.length_singleton]
  simp
theorem shr_byte (n j : Nat) (_hn : n < 18446744073709551616) : IntKind.u8.wrap ((n : Int) / 2 ^ (8 * j)) = ((JM.byteAt n j).toNat : Int) := by
  unfold JM.byteAt
  rw [UInt8.toNat_ofNat']
  show ((n : Int) / 2 ^ (8 * j)) % 256 = _
  rw [Int.natCast_emod, Int.natCast_ediv, Int.natCast_pow]; rfl
def H16 : List Value := (List.replicate 16 (0 : UInt8)).map B8
theorem H16_length : H16.length = 16 := by unfold H16; rw [List.length_map, List.length_replicate]
theorem Try.zeroH : (Try.prog.info? 149).map (·.zero) = some (some (.agg H16.toArray)) := by kernel_rfl
theorem Try.sizeH : (Try.prog.info? 149).map (·.size) = some 16 := by kernel_rfl
set_option maxRecDepth 100000 in
set_option maxHeartbeats 1600000 in
theorem headOf_any (sz sm : Nat) (w : World) (hs : sz ≤ 4294967295) (hm : sm < 18446744073709551616) :
    Calls Try.prog 113 #[.int .i64 (sz : Int), .int .u64 (sm : Int)] w fun e w' => e = .returned (.agg ((JM.headB sz sm).map B8).toArray) ∧ Below w.heap.size w w' := by
  go_enter Try.func113, Try.ntmps113
  go_wp2_with (with_reducible refine wpList_alloc (o := ⟨some 4, .alloc 149, _, _, _, _⟩) (by with_unfolding_all rfl) 149 (by with_unfolding_all rfl) (.agg H16.toArray) H16 (by exact Try.zeroH) (by with_unfolding_all rfl) ?_)
  intro g4 w1 hg4 hs1 hb1 hB1
  have hle4 : w.heap.size ≤ g4 := Nat.le_of_eq hg4.out.symm
  have hbel1 : Below w.heap.size w w1 := hb1.mono hle4
  obtain ⟨ZH, hZH⟩ : ∃ ZH, Hid (H16 = ZH) := ⟨_, rfl⟩
  have hZl : Hid (ZH.length = 16) := by
    have : ZH.length = 16 := by rw [← hZH.out]; exact H16_length
    exact this
  rw [hZH.out] at hB1
  clear hb1 hs1
  go_wp2_with (with_reducible refine wpList_alloc (o := ⟨some 5, .alloc 149, _, _, _, _⟩) (by with_unfolding_all rfl) 149 (by with_unfolding_all rfl) (.agg H16.toArray) H16 (by exact Try.zeroH) (by with_unfolding_all rfl) ?_)
  intro g5 w2 hg5 hs2 hb2 hB2
  have hle5 : w1.heap.size ≤ g5 := Nat.le_of_eq hg5.out.symm
  have hB42 := hB1.next (hb2.mono hle5) hB1.lt
  have hbel2 := below_join hbel1 (hb2.mono hle5)
  have hne : g4 ≠ g5 := fun e => by have := hB1.lt; omega
  have hle52 : w.heap.size ≤ g5 := Nat.le_trans hbel1.size hle5
  have hS1 : Blk w2 g5 149 ((JM.stage1 sz 0).map B8) := hB2
  clear hb2 hs2 hB1 hbel1 hg4 hg5 hB2
  go_wp2
  go_loopw [8] (fun i wr => ∃ j : Nat, j ≤ 4 ∧ i = .int .i64 j ∧ Blk wr g5 149 ((JM.stage1 sz j).map B8) ∧ Blk wr g4 149 ZH ∧ Below w.heap.size w wr) (fun i _ => 4 - natOf i)
  case atStart => exact ⟨0, Nat.zero_le _, rfl, hS1, hB42, hbel2⟩
  case round =>
    clear hS1 hB42 hbel2
    obtain ⟨j, hj, rfl, hB, hB4, hbel⟩ := hrel
    by_cases hjn : j < 4
    · have hji : (j : Int) < 4 := by omega
      have hby := shr_byte sz j (by omega)
      obtain ⟨b, hb⟩ : ∃ b, JM.byteAt sz j = b := ⟨_, rfl⟩
      rw [hb] at hby
      have hmin : min (8 * j) 64 = 8 * j := by omega
      have hL := JM.stage1_length sz j
      have HL := Lib.hid hL
      have hnx : Hid (JM.stage1 sz (j + 1) = ((JM.stage1 sz j).set j b).set (4 + j) b) := by
        have : JM.stage1 sz (j + 1) = ((JM.stage1 sz j).set j b).set (4 + j) b := by rw [← hb]; rfl
        exact this
      obtain ⟨L, hLL⟩ : ∃ L, Hid (JM.stage1 sz j = L) := ⟨_, rfl⟩
      rw [hLL.out] at hB HL hnx
      clear hb hL hj
      go_wp2_with (with_reducible refine wpList_put (o := ⟨none, .store 5 (.tmp 17) (.tmp 16), _, _, _, _⟩) (by with_unfolding_all rfl) 5 (.tmp 17) (.tmp 16) (by with_unfolding_all rfl) g5 j (by with_unfolding_all rfl) (.int .u8 (b.toNat : Int)) (by with_unfolding_all rfl) hB [B8 b] (by with_unfolding_all rfl) (by with_unfolding_all exact Try.sz5) (by with_unfolding_all (rw [List.length_map, HL.out, List.length_singleton]; omega)) (by with_unfolding_all exact one_cell1 rfl) ?_)
      intro w3 hu3 hB3
      rw [splice_one L j b (by rw [HL.out]; omega)] at hB3
      have hcj : w3.cell? ⟨g5, j, none⟩ = some (.int .u8 (b.toNat : Int)) := hB3.cell (by rw [List.getElem?_map, List.getElem?_set_self (by rw [HL.out]; omega)]; rfl)
      obtain ⟨L3, hLS⟩ : ∃ L3, Hid (L.set j b = L3) := ⟨_, rfl⟩
      have hL3 : Hid (L3.length = 16) := by
        have : L3.length = 16 := by rw [← hLS.out, List.length_set]; exact HL.out
        exact this
      rw [hLS.out] at hB3 hnx
      have hB43 := hB4.upd hu3 hne
      have hbel3 := hbel.trans (hu3.below (B := w.heap.size) hle52)
      have hm16 : 4 + j < 16 := by omega
      clear hB hB4 hbel hu3 hby hmin
      go_wp2_with (with_reducible refine wpList_put (o := ⟨none, .store 5 (.tmp 23) (.tmp 22), _, _, _, _⟩) (by with_unfolding_all rfl) 5 (.tmp 23) (.tmp 22) (by with_unfolding_all rfl) g5 (4 + j) (by with_unfolding_all rfl) (.int .u8 (b.toNat : Int)) (by with_unfolding_all rfl) hB3 [B8 b] (by with_unfolding_all rfl) (by with_unfolding_all exact Try.sz5) (by with_unfolding_all (rw [List.length_map, hL3.out, List.length_singleton]; omega)) (by with_unfolding_all exact one_cell1 rfl) ?_)
      intro w4 hu4 hB4'
      rw [splice_one L3 (4 + j) b (by rw [hL3.out]; omega), ← hnx.out] at hB4'
      have hB44 := hB43.upd hu4 hne
      have hbel4 := hbel3.trans (hu4.below (B := w.heap.size) hle52)
      clear hB3 hB43 hbel3 hu4 hcj
      go_wp2
      go_roundw
      case rel => exact ⟨j + 1, by omega, by go_num, hB4', hB44, hbel4⟩
      case measure => simp [natOf]; omega
    · have hj4 : j = 4 := by omega
      have hS2 : Blk wr g5 149 ((JM.stage2 sz sm 0).map B8) := by rw [hj4] at hB; exact hB
      have hj4i : (4 : Int) ≤ (j : Int) := by omega
      clear hB hj hjn hj4
      go_wp2
      go_loopw [25] (fun i wr => ∃ j : Nat, j ≤ 8 ∧ i = .int .i64 j ∧ Blk wr g5 149 ((JM.stage2 sz sm j).map B8) ∧ Blk wr g4 149 ZH ∧ Below w.heap.size w wr) (fun i _ => 8 - natOf i)
      case atStart => exact ⟨0, Nat.zero_le _, rfl, hS2, hB4, hbel⟩
      case round =>
        clear hS2 hB4 hbel hj4i
        obtain ⟨j, hj, rfl, hB, hB4, hbel⟩ := hrel
        by_cases hjn : j < 8
        · have hji : (j : Int) < 8 := by omega
          have hby := shr_byte sm j (by omega)
          obtain ⟨b, hb⟩ : ∃ b, JM.byteAt sm j = b := ⟨_, rfl⟩
          rw [hb] at hby
          have hmin : min (8 * j) 64 = 8 * j := by omega
          have hL := JM.stage2_length sz sm j
          have HL := Lib.hid hL
          have hnx : Hid (JM.stage2 sz sm (j + 1) = (JM.stage2 sz sm j).set (8 + j) b) := by
            have : JM.stage2 sz sm (j + 1) = (JM.stage2 sz sm j).set (8 + j) b := by rw [← hb]; rfl
            exact this
          obtain ⟨L, hLL⟩ : ∃ L, Hid (JM.stage2 sz sm j = L) := ⟨_, rfl⟩
          rw [hLL.out] at hB HL hnx
          have hm16 : 8 + j < 16 := by omega
          clear hb hL hj
          go_wp2_with (with_reducible refine wpList_put (o := ⟨none, .store 5 (.tmp 35) (.tmp 34), _, _, _, _⟩) (by with_unfolding_all rfl) 5 (.tmp 35) (.tmp 34) (by with_unfolding_all rfl) g5 (8 + j) (by with_unfolding_all rfl) (.int .u8 (b.toNat : Int)) (by with_unfolding_all rfl) hB [B8 b] (by with_unfolding_all rfl) (by with_unfolding_all exact Try.sz5) (by with_unfolding_all (rw [List.length_map, HL.out, List.length_singleton]; omega)) (by with_unfolding_all exact one_cell1 rfl) ?_)
          intro w3 hu3 hB3
          rw [splice_one L (8 + j) b (by rw [HL.out]; omega), ← hnx.out] at hB3
          have hB43 := hB4.upd hu3 hne
          have hbel3 := hbel.trans (hu3.below (B := w.heap.size) hle52)
          clear hB hB4 hbel hu3 hby hmin
          go_wp2
          go_roundw
          case rel => exact ⟨j + 1, by omega, by go_num, hB3, hB43, hbel3⟩
          case measure => simp [natOf]; omega
        · obtain rfl : j = 8 := by omega
          have hLh := JM.stage2_length sz sm 8
          have hBh : Blk wr g5 149 ((JM.headB sz sm).map B8) := hB
          have hHl : Hid (((JM.headB sz sm).map B8).length = 16) := by
            have : ((JM.headB sz sm).map B8).length = 16 := by rw [List.length_map]; exact hLh
            exact this
          obtain ⟨H, hH⟩ : ∃ H, Hid (JM.headB sz sm = H) := ⟨_, rfl⟩
          rw [hH.out] at hBh hHl
          have hun := Try.underlying149
          clear hB hj hjn hLh
          go_wp2_with (first | (with_reducible refine wpList_get (o := ⟨some 37, .load 149 (.tmp 5), _, _, _, _⟩) (by with_unfolding_all rfl) 149 (.tmp 5) (by with_unfolding_all rfl) g5 0 (by with_unfolding_all rfl) hBh (H.map B8) (cs_all _) _ (by with_unfolding_all exact hun) (by with_unfolding_all rfl) (by with_unfolding_all (rw [hHl.out]; exact Try.sizeH)) ?_) | (with_reducible refine wpList_put (o := ⟨none, .store 149 (.tmp 4) (.tmp 37), _, _, _, _⟩) (by with_unfolding_all rfl) 149 (.tmp 4) (.tmp 37) (by with_unfolding_all rfl) g4 0 (by with_unfolding_all rfl) (.agg (H.map B8).toArray) (by with_unfolding_all rfl) hB4 (H.map B8) (by with_unfolding_all rfl) (by with_unfolding_all (rw [hHl.out]; exact Try.sizeH)) (by with_unfolding_all (rw [hHl.out, hZl.out]; exact Nat.le_refl _)) (B8_one _) ?_))
          intro w5 hu5 hB5
          rw [splice_all _ _ (by rw [hHl.out, hZl.out])] at hB5
          have hbel5 := hbel.trans (hu5.below (B := w.heap.size) hle4)
          clear hBh hB4 hbel hu5
          go_wp2
          refine bodyPost_ret (results_cell_row rfl _ _ g4 _ _ _ _ rfl hB5 hun rfl (by rw [List.size_toArray, hHl.out]; exact Try.sizeH)) rfl ⟨by rw [hH.out], hbel5⟩
end Go.Proofs.Ythgmlopkcgkjlaa

/-
  Contracts of the walks over a head's size and journal.cut. Conditions: the head has sixteen bytes.
-/
namespace Go.Proofs.Ythgmlopkcgkjlaa
open Go.RowKit

namespace JM
def sizeN (H : List UInt8) : Nat → Nat
  | 0 => 0
  | j + 1 => sizeN H j + 256 ^ j * (H.getD j 0).toNat
theorem sizeN_lt (H : List UInt8) : ∀ j, sizeN H j < 256 ^ j
  | 0 => by simp [sizeN]
  | j + 1 => by
    have h1 := sizeN_lt H j
    have h2 := (H.getD j 0).toNat_lt
    unfold sizeN
    have h3 : 256 ^ j * (H.getD j 0).toNat ≤ 256 ^ j * 255 := Nat.mul_le_mul_left _ (by omega)
    rw [Nat.pow_succ]
    omega
end JM
theorem or_i64_nat (a b : Nat) (ha : a < 4294967296) (hb : b < 4294967296) : bits .or .i64 (a : Int) (b : Int) = ((a ||| b : Nat) : Int) := by
  have hx : a ||| b < 2 ^ 32 := Nat.or_lt_two_pow (by omega) (by omega)
  have h1 : (BitVec.ofInt 64 (a : Int)).toNat = a := by
    rw [BitVec.ofInt_natCast, BitVec.toNat_ofNat]; exact Nat.mod_eq_of_lt (by omega)
  have h2 : (BitVec.ofInt 64 (b : Int)).toNat = b := by
    rw [BitVec.ofInt_natCast, BitVec.toNat_ofNat]; exact Nat.mod_eq_of_lt (by omega)
  show IntKind.i64.wrap ((BitVec.ofInt 64 (a : Int) ||| BitVec.ofInt 64 (b : Int)).toNat : Int) = _
  rw [BitVec.toNat_or, h1, h2]
  exact IntWalk.i64_in _ ⟨by omega, by omega⟩
theorem or_size (z d j x : Nat) (hj : j < 4) (hz : z < 256 ^ j) (hd : d < 256) (hx : z + 256 ^ j * d = x) : bits .or .i64 (z : Int) (wrap64 ((d : Int) * 2 ^ (8 * j))) = (x : Int) := by
  have e8 : (2 : Int) ^ (8 * j) = ((256 ^ j : Nat) : Int) := by rw [Int.pow_mul]; norm_cast
  have hp : 256 ^ j ≤ 256 ^ 3 := Nat.pow_le_pow_right (by omega) (by omega)
  have hm : 256 ^ j * d ≤ 256 ^ 3 * 255 := Nat.mul_le_mul hp (by omega)
  have hq : (d : Int) * 2 ^ (8 * j) = ((256 ^ j * d : Nat) : Int) := by rw [e8, Nat.mul_comm]; norm_cast
  rw [hq, IntWalk.wrap64_in _ ⟨by omega, by omega⟩, or_i64_nat _ _ (by omega) (by omega)]
  have e2 : 256 ^ j = 2 ^ (8 * j) := by rw [Nat.pow_mul]
  have := nat_join (8 * j) (256 ^ j * d) z (by rw [e2]; exact Nat.mul_mod_right _ _) (by rw [← e2]; exact hz)
  rw [Nat.or_comm, this, Nat.add_comm, hx]
set_option maxRecDepth 100000 in
set_option maxHeartbeats 800000 in
theorem hsize_any (H : List UInt8) (w : World) (hH : H.length = 16) :
    Calls Try.prog 110 #[.agg (H.map B8).toArray] w fun e w' => e = .returned (.int .i64 (JM.sizeN H 4 : Nat)) ∧ Below w.heap.size w w' := by
  go_enter Try.func110, Try.ntmps110
  go_wp2
  have hB1 : Blk (w.alloc (.cells (H.map B8).toArray 149)) w.heap.size 149 (H.map B8) := blk_new w _ _
  have hbel1 := below_new w (.cells (H.map B8).toArray 149)
  obtain ⟨g, hg⟩ : ∃ g, Hid (w.heap.size = g) := ⟨_, rfl⟩
  obtain ⟨w1, hw1⟩ : ∃ w1, Hid (w.alloc (.cells (H.map B8).toArray 149) = w1) := ⟨_, rfl⟩
  rw [hw1.out] at hB1 hbel1
  rw [hw1.out]
  rw [hg.out] at hB1
  rw [hg.out]
  have HBEL := Lib.hid hbel1
  clear hbel1
  have HL := Lib.hid hH
  clear hH
  go_loopw [3, 5] (fun m i wr => ∃ j : Nat, j ≤ 4 ∧ i = .int .i64 j ∧ m = .int .i64 (JM.sizeN H j : Nat) ∧ w1 = wr) (fun _ i _ => 4 - natOf i)
  case atStart => exact ⟨0, Nat.zero_le _, rfl, rfl, rfl⟩
  case round =>
    obtain ⟨j, hj, rfl, rfl, rfl⟩ := hrel
    by_cases hjn : j < 4
    · have hji : (j : Int) < 4 := by omega
      obtain ⟨b, hb⟩ : ∃ b, H[j]? = some b := ⟨_, List.getElem?_eq_getElem (by rw [HL.out]; omega)⟩
      have hc : w1.cell? ⟨g, j, none⟩ = some (.int .u8 (b.toNat : Int)) := hB1.cell (by rw [List.getElem?_map, hb]; rfl)
      have hb255 := b.toNat_lt
      have hz := JM.sizeN_lt H j
      obtain ⟨z, hzz⟩ : ∃ z, JM.sizeN H j = z := ⟨_, rfl⟩
      obtain ⟨z', hzz'⟩ : ∃ z', JM.sizeN H (j + 1) = z' := ⟨_, rfl⟩
      have hor := or_size z b.toNat j z' hjn (by rw [← hzz]; exact hz) (by omega) (by rw [← hzz', ← hzz]; show _ = JM.sizeN H j + 256 ^ j * (H.getD j 0).toNat; rw [List.getD_eq_getElem?_getD, hb]; rfl)
      have HZ := Lib.hid hzz'
      rw [hzz]
      have hmin : min (8 * j) 64 = 8 * j := by omega
      clear hb hz hzz hzz' hj
      go_wp2
      go_roundw
      case rel => exact ⟨j + 1, by omega, by go_num, by rw [HZ.out], by first | exact rfl | exact trivial⟩
      case measure => simp [natOf]; omega
    · have hj4 : j = 4 := by omega
      have hS : Hid (JM.sizeN H j = JM.sizeN H 4) := by
        have : JM.sizeN H j = JM.sizeN H 4 := by rw [hj4]
        exact this
      have hj4i : (4 : Int) ≤ (j : Int) := by omega
      clear hj hjn hj4
      go_wp2
      go_ret
      exact ⟨by rw [hS.out]; rfl, HBEL.out⟩

namespace JM
/-- The records of a stream, and whether it consists of records. -/
def cutF : Nat → List UInt8 → List ByteArray → Option (List ByteArray)
  | 0, _, _ => none
  | k + 1, s, acc =>
    match s with
    | [] => some acc
    | [_] => none
    | a :: b :: t => if t.length < a.toNat * 256 + b.toNat then none else cutF k (t.drop (a.toNat * 256 + b.toNat)) (acc ++ [⟨(t.take (a.toNat * 256 + b.toNat)).toArray⟩])
theorem byte_hi (r : ByteArray) (h : r.size < 65536) : (UInt8.ofNat (r.size / 256)).toNat * 256 + (UInt8.ofNat r.size).toNat = r.size := by
  rw [UInt8.toNat_ofNat', UInt8.toNat_ofNat']
  omega
theorem cutF_stream : ∀ (l : List ByteArray) (k : Nat) (acc : List ByteArray), l.length < k → (∀ r ∈ l, r.size < 65536) → cutF k (stream l) acc = some (acc ++ l)
  | [], k + 1, acc, _, _ => by simp [stream, cutF]
  | r :: l, k + 1, acc, hk, h => by
    have hr := byte_hi r (h r (List.mem_cons_self ..))
    have hsz : r.data.toList.length = r.size := by rw [bytes_size]
    have e : stream (r :: l) = UInt8.ofNat (r.size / 256) :: UInt8.ofNat r.size :: (r.data.toList ++ stream l) := by simp [stream, recB]
    rw [e]
    show (if (r.data.toList ++ stream l).length < _ then none else _) = _
    rw [hr, if_neg (by rw [List.length_append, hsz]; omega), List.take_left' hsz, List.drop_left' hsz]
    have hb : (⟨r.data.toList.toArray⟩ : ByteArray) = r := by cases r; rfl
    rw [hb, cutF_stream l k (acc ++ [r]) (Nat.lt_of_succ_lt_succ hk) (fun x hx => h x (List.mem_cons_of_mem _ hx)), List.append_assoc]
    rfl
end JM
end Go.Proofs.Ythgmlopkcgkjlaa

/-
  Contracts of the walk over journal.cut. Conditions: the text is the stream of records.
-/
namespace Go.Proofs.Ythgmlopkcgkjlaa
open Go.RowKit

def strLen : Value → Nat
  | .string s => s.size
  | _ => 0
theorem str_at' {s : ByteArray} {k : Nat} {y : UInt8} (hy : s.data.toList[k]? = some y) : ∀ h : k < s.size, s[k]'h = y := fun h => by
  obtain ⟨h', e⟩ := List.getElem?_eq_some_iff.1 hy
  rw [← e]; rfl
theorem wrap_end (a b m : Nat) (ha : a < 256) (hb : b < 256) (h : 2 + (a * 256 + b) = m) : wrap64 (wrap64 (2 + wrap64 (wrap64 (a : Int) * 256)) + wrap64 (b : Int)) = (m : Int) := by
  rw [IntWalk.wrap64_in (a : Int) ⟨by omega, by omega⟩, IntWalk.wrap64_in (b : Int) ⟨by omega, by omega⟩, IntWalk.wrap64_in ((a : Int) * 256) ⟨by omega, by omega⟩, IntWalk.wrap64_in (2 + (a : Int) * 256) ⟨by omega, by omega⟩, IntWalk.wrap64_in _ ⟨by omega, by omega⟩]
  omega
theorem drop_cons_at {α : Type} {l : List α} {j : Nat} {r : α} (h : l[j]? = some r) : l.drop j = r :: l.drop (j + 1) := by
  obtain ⟨hj, rfl⟩ := List.getElem?_eq_some_iff.1 h
  exact List.drop_eq_getElem_cons hj
set_option maxRecDepth 100000 in
set_option maxHeartbeats 800000 in
theorem cut_any (l : List ByteArray) (s : ByteArray) (w : World) (hs : s.data.toList = JM.stream l) (hu : JM.useR l ≤ 1000000) (h65 : ∀ r ∈ l, r.size < 65536) :
    Calls Try.prog 94 #[.string s] w fun e w' => ∃ v, e = .returned (.tuple #[v, .bool true]) ∧ w'.ownsRow w.heap.size 9 1 v l.length (l.map Value.string) ∧ Below w.heap.size w w' := by
  obtain ⟨i0, hi, hz0, hz1, hz2⟩ := info_parts Try.infoS
  have hcnt := JM.useR_count l
  have hl6 : l.length ≤ 1000000 := by omega
  go_enter Try.func94, Try.ntmps94
  go_wp2
  go_loopw [0, 4] (fun t v wr => ∃ (j : Nat) (cur : ByteArray), j ≤ l.length ∧ t = .string cur ∧ cur.data.toList = JM.stream (l.drop j) ∧ wr.ownsRow w.heap.size 9 1 v j ((l.take j).map Value.string) ∧ Below w.heap.size w wr) (fun t _ _ => strLen t)
  case atStart => exact ⟨0, s, Nat.zero_le _, rfl, hs, World.ownsRow_nil _ _ _ _, Below.refl _ _⟩
  case round =>
    obtain ⟨j, cur, hj, rfl, hcur, hown, hbr⟩ := hrel
    obtain ⟨A, c, rfl⟩ := own_shape hown
    by_cases hjn : j < l.length
    · obtain ⟨r, hr⟩ : ∃ r, l[j]? = some r := ⟨_, List.getElem?_eq_getElem hjn⟩
      have hdr : l.drop j = r :: l.drop (j + 1) := drop_cons_at hr
      have hbs : cur.data.toList = UInt8.ofNat (r.size / 256) :: UInt8.ofNat r.size :: (r.data.toList ++ JM.stream (l.drop (j + 1))) := by
        rw [hcur, hdr]; simp [JM.stream, JM.recB]
      have hN : cur.size = 2 + (r.size + (JM.stream (l.drop (j + 1))).length) := by
        rw [← bytes_size, hbs]; simp; omega
      obtain ⟨N, hNN⟩ : ∃ N, Hid (cur.size = N) := ⟨_, rfl⟩
      rw [hNN.out] at hN
      have h0 : 0 < cur.size := by rw [hNN.out]; omega
      have h1 : 1 < cur.size := by rw [hNN.out]; omega
      have h2 : (2 : Int) ≤ (cur.size : Int) := by rw [hNN.out]; omega
      have hR := JM.byte_hi r (h65 r (List.mem_of_getElem? hr))
      obtain ⟨a, ha⟩ : ∃ a, UInt8.ofNat (r.size / 256) = a := ⟨_, rfl⟩
      obtain ⟨b, hb⟩ : ∃ b, UInt8.ofNat r.size = b := ⟨_, rfl⟩
      rw [ha, hb] at hR hbs
      have E0 : ∀ h : 0 < cur.size, cur[0]'h = a := str_at' (by rw [hbs]; rfl)
      have E1 : ∀ h : 1 < cur.size, cur[1]'h = b := str_at' (by rw [hbs]; rfl)
      obtain ⟨R, hRR⟩ : ∃ R, Hid (r.size = R) := ⟨_, rfl⟩
      rw [hRR.out] at hR hN
      have h65' : R < 65536 := by rw [← hRR.out]; exact h65 r (List.mem_of_getElem? hr)
      have hi : a.toNat < 256 := a.toNat_lt
      have lo : b.toNat < 256 := b.toNat_lt
      obtain ⟨m, hm⟩ : ∃ m, 2 + R = m := ⟨_, rfl⟩
      have hm2 : 2 ≤ m := by omega
      have hmN : m ≤ cur.size := by rw [hNN.out]; omega
      have HM := Lib.hid hm
      have hm2i : (2 : Int) ≤ (m : Int) := by omega
      have hmNi : (m : Int) ≤ (cur.size : Int) := by omega
      have hEX : Hid (cur.extract 2 m = r) := by
        have : cur.extract 2 m = r := by
          apply str_ext
          rw [ByteArray.data_extract, Array.toList_extract, hbs]
          simp [List.extract_eq_take_drop, ← hm, ← hRR.out]
        exact this
      have hRE : Hid ((cur.extract m cur.size).data.toList = JM.stream (l.drop (j + 1))) := by
        have : (cur.extract m cur.size).data.toList = JM.stream (l.drop (j + 1)) := by
          rw [ByteArray.data_extract, Array.toList_extract, hbs]
          simp [List.extract_eq_take_drop, ← hm, ← hRR.out]
          rw [show 2 + r.size = r.size + 2 by omega]
          show List.take _ (List.drop r.size (r.data.toList ++ _)) = _
          rw [List.drop_left' (bytes_size r), List.take_of_length_le (by rw [hNN.out, hRR.out]; omega)]
        exact this
      have hnx : Hid (((l.take j).map Value.string) ++ [.string (cur.extract 2 m)] = (l.take (j + 1)).map Value.string) := by
        have : ((l.take j).map Value.string) ++ [.string (cur.extract 2 m)] = (l.take (j + 1)).map Value.string := by
          rw [hEX.out, List.take_add_one, hr]; simp
        exact this
      obtain ⟨XS, hXS⟩ : ∃ XS, Hid ((l.take j).map Value.string = XS) := ⟨_, rfl⟩
      rw [hXS.out] at hown hnx
      have SW : Hid (wrap64 (wrap64 (2 + wrap64 (wrap64 (a.toNat : Int) * 256)) + wrap64 (b.toNat : Int)) = (m : Int)) := by
        have : wrap64 (wrap64 (2 + wrap64 (wrap64 (a.toNat : Int) * 256)) + wrap64 (b.toNat : Int)) = (m : Int) := wrap_end a.toNat b.toNat m hi lo (by omega)
        exact this
      have HBS := Lib.hid hbs
      have HDR := Lib.hid hdr
      have HN := Lib.hid hN
      clear hcur hr hdr hbs hN ha hb hR hi lo hm
      go_wp2
      go_quiet (fail)
      have hbr2 := below_drewN hbr nq
      generalize hwq : wr.drewN nq = wq at hbr2 ⊢
      rw [SW.out]
      have hown2 := own_only hown (Only.of_below (L := []) (hwq ▸ below_drewN (Below.refl wr.heap.size wr) nq)) (by simp)
      have hsz2 := hbr2.size
      have hlt := hown2.lt
      clear E0 E1 hown hbr hwq
      go_wp2_with (at_builtin; refine wpList_append_own _ rfl _ _ 43 rfl w.heap.size 9 i0 _ 1 16 Try.underlying43 hi hz0 hz1 hz2 rfl (by decide) _ _ _ rfl (hown2.alloc _) ⟨wq.heap.size, 0, none⟩ 1 1 [.string (cur.extract 2 m)] rfl (by with_unfolding_all rfl) (fun j u hu => one_cellV hu) (one_cell1 rfl) (by unfold maxLen; omega) (by omega) (by with_unfolding_all (simp; omega)) ?_)
      intro v3 w3 hown3 hgrow3 _
      have hbr3 := (hbr2.alloc hsz2 (.cells #[.string (cur.extract 2 m)] 9)).grown hgrow3 (by simp; omega) (fun j hj => (hlt j hj).1)
      rw [hnx.out] at hown3
      clear hown2 hlt hgrow3 hbr2
      go_wp2
      go_roundw
      case rel => exact ⟨j + 1, _, by omega, rfl, hRE.out, hown3, hbr3⟩
      case measure =>
        show strLen (.string (cur.extract m cur.size)) < strLen (.string cur)
        show (cur.extract m cur.size).size < cur.size
        rw [ByteArray.size_extract]; omega
    · have hje : j = l.length := by omega
      have hz : cur.size = 0 := by
        rw [← bytes_size, hcur, hje, List.drop_length]; rfl
      have hown' : wr.ownsRow w.heap.size 9 1 (.slice A j c) l.length (l.map Value.string) := by
        have h := hown
        rw [hje, List.take_length] at h
        rw [hje]; exact h
      clear hcur hown hj hjn hje
      go_wp2
      go_ret2
      exact ⟨_, rfl, hown', hbr⟩
end Go.Proofs.Ythgmlopkcgkjlaa

/-
  The reference's Append, Replace and Do once more: a new row's block is one of the world after. Conditions: the rows lie there; few bytes.
-/
namespace Go.Proofs.Ythgmlopkcgkjlaa
open Go.RowKit

theorem own_low2 {w : World} {base n c : Nat} {A : Option Addr} {xs : List Value} (h : w.ownsRow base 9 1 (.slice A n c) n xs) : ∀ g, A = some ⟨g, 0, none⟩ → g < w.heap.size := fun g hg => by
  subst hg
  exact (h.lt g rfl).2
set_option maxRecDepth 100000 in
set_option maxHeartbeats 1600000 in
theorem rappend_any2 (gr : Nat) (A : Option Addr) (c sz : Nat) (l : List ByteArray) (r : ByteArray) (w : World) (hr : r.size ≤ 8200) (hu : JM.useR l ≤ 100000) (hsz : sz ≤ 100000) (h : JRef w gr A c sz l) :
    Calls Try.prog 76 #[.pointer (some ⟨gr, 0, none⟩), .string r] w fun e w' => e = .returned (.tuple #[.int .i64 (JM.appN sz l r : Nat), .int .i64 (JM.appE sz l r)]) ∧ ∃ A' c', JRef w' gr A' c' sz (JM.appL sz l r) ∧ Only [gr] w w' ∧ (∀ g, A' = some ⟨g, 0, none⟩ → A' = A ∨ w.heap.size ≤ g ∧ g < w'.heap.size) := by
  obtain ⟨i0, hi, hz0, hz1, hz2⟩ := info_parts Try.infoS
  obtain ⟨n, hn⟩ : ∃ n, Hid (l.length = n) := ⟨_, rfl⟩
  obtain ⟨U, hU⟩ : ∃ U, Hid (JM.useR l = U) := ⟨_, rfl⟩
  have hn6 : n ≤ 100000 := by have := JM.useR_count l; rw [hn.out] at this; omega
  have hB := h.d
  rw [hn.out] at hB
  have hR := h.r
  have c0 := hB.cell (k := 0) rfl
  have c1 := hB.cell (k := 1) rfl
  have hgl := hB.lt
  by_cases hlong : 8000 < r.size
  · obtain ⟨e1, e2, e3⟩ := JM.app_long (sz := sz) (l := l) hlong
    rw [e1, e2, e3]
    have hli : (8000 : Int) < (r.size : Int) := by omega
    have HH := Lib.hid h
    clear h hR hB e1 e2 e3 hlong
    go_enter Try.func76, Try.ntmps76
    go_wp2
    go_ret2
    exact ⟨rfl, A, c, HH.out, Only.refl _ _, fun g hg => Or.inl rfl⟩
  · have hli : (r.size : Int) ≤ 8000 := by omega
    rw [hU.out] at hu
    by_cases hfull : sz < U + 2 + r.size
    · obtain ⟨e1, e2, e3⟩ := JM.app_full (sz := sz) (l := l) (r := r) hlong (by rw [hU.out]; exact hfull)
      rw [e1, e2, e3]
      have hfi : (sz : Int) < (U : Int) + 2 + (r.size : Int) := by omega
      have HH := Lib.hid h
      clear h hB e1 e2 e3 hlong hfull
      go_enter Try.func76, Try.ntmps76
      go_wp2
      go_quiet ((go_at_call 45; exact Calls.quiet_of_same (rused_q A c n l _ hn.out U hU.out (by omega) (hR.drewN _))))
      have hdn : Below w.heap.size w (w.drewN nq) := below_drewN (Below.refl _ _) nq
      have hJ := HH.out.next hdn
      have ho := Only.of_below (L := [gr]) hdn
      generalize w.drewN nq = wq at hJ ho ⊢
      go_wp2
      go_ret2
      exact ⟨rfl, A, c, hJ, ho, fun g hg => Or.inl rfl⟩
    · obtain ⟨e1, e2, e3⟩ := JM.app_good (sz := sz) (l := l) (r := r) hlong (by rw [hU.out]; exact hfull)
      rw [e1, e2, e3, hn.out]
      have hfi : (U : Int) + 2 + (r.size : Int) ≤ (sz : Int) := by omega
      have HH := Lib.hid h
      clear h hB e1 e2 e3 hlong hfull
      go_enter Try.func76, Try.ntmps76
      go_wp2
      go_quiet ((go_at_call 45; exact Calls.quiet_of_same (rused_q A c n l _ hn.out U hU.out (by omega) (hR.drewN _))))
      have hdn : Below w.heap.size w (w.drewN nq) := below_drewN (Below.refl _ _) nq
      have hJ := HH.out.next hdn
      have ho := Only.of_below (L := [gr]) hdn
      have hB := hJ.d
      rw [hn.out] at hB
      have c0 := hB.cell (k := 0) rfl
      have c1 := hB.cell (k := 1) rfl
      have hRq := hJ.r
      have hszq : w.heap.size ≤ (w.drewN nq).heap.size := hdn.size
      generalize w.drewN nq = wq at hJ ho hB c0 c1 hRq hszq ⊢
      clear hJ hR hdn
      go_wp2_with (with_reducible refine wpList_appS (o := ⟨some 29, .call ⟨.builtin .append, #[.tmp 24, .tmp 28], #[43, 43]⟩, _, _, _, _⟩) (by with_unfolding_all rfl) (.tmp 24) (.tmp 28) (by with_unfolding_all rfl) (by with_unfolding_all rfl) A n c (l.map Value.string) (by with_unfolding_all rfl) hRq (by with_unfolding_all (rw [List.length_map]; exact hn.out)) (strs_one l) (by with_unfolding_all omega) ?_)
      intro v1 w1 hown1 hb1
      obtain ⟨A1, c1', rfl⟩ := own_shape hown1
      have hB1 := hB.next hb1 hB.lt
      have ho1 := ho.trans (Only.of_below hb1)
      have hlt1 := hown1.lt
      have hs1 := hb1.size
      obtain ⟨b0, hb0⟩ : ∃ b0, Hid (wq.heap.size = b0) := ⟨_, rfl⟩
      have hgb : gr < b0 := by have := hb0.out; omega
      have hwb : w.heap.size ≤ b0 := by rw [← hb0.out]; exact hszq
      rw [hb0.out] at hown1 hlt1 hs1
      have hnx : Hid (l.map Value.string ++ [Value.string r] = (l ++ [r]).map Value.string) := by
        have : l.map Value.string ++ [Value.string r] = (l ++ [r]).map Value.string := by simp
        exact this
      obtain ⟨XS, hXS⟩ : ∃ XS, Hid (l.map Value.string = XS) := ⟨_, rfl⟩
      rw [hXS.out] at hown1 hnx
      have hHR := Lib.hid (HH.out.r)
      clear hB hRq hb1 ho c0 c1 hgl
      go_wp2_with (first | (at_builtin; refine wpList_append_own _ rfl _ _ 43 rfl b0 9 i0 _ 1 16 Try.underlying43 hi hz0 hz1 hz2 rfl (by decide) _ _ _ rfl (hown1.alloc _) ⟨w1.heap.size, 0, none⟩ 1 1 [.string r] rfl (by with_unfolding_all rfl) (fun j u hu => one_cellV hu) (one_cell1 rfl) (by unfold maxLen; omega) (by omega) (by with_unfolding_all (simp; omega)) ?_))
      intro v3 w3 hown3 hgrow3 _
      have hbz : Below b0 w1 w3 := ((Below.refl b0 w1).alloc hs1 (.cells #[.string r] 9)).grown hgrow3 (by simp; omega) (fun j hj => (hlt1 j hj).1)
      have hB3 : Blk w3 gr 79 [.int .i64 (sz : Int), .slice A n c] := hB1.next hbz hgb
      have ho3 := only_below ho1 hbz hwb
      rw [hnx.out] at hown3
      obtain ⟨A3, c3, rfl⟩ := own_shape hown3
      have hl3 := own_new hown3
      have hm3 := own_low2 hown3
      clear hown1 hlt1 hgrow3 hB1 ho1 hbz hown3
      go_wp2_with (with_reducible refine wpList_put (o := ⟨none, .store 43 (.tmp 36) (.tmp 34), _, _, _, _⟩) (by with_unfolding_all rfl) 43 (.tmp 36) (.tmp 34) (by with_unfolding_all rfl) gr 1 (by with_unfolding_all rfl) (.slice A3 (n + 1) c3) (by with_unfolding_all rfl) hB3 [(.slice A3 (n + 1) c3)] (by with_unfolding_all rfl) (by with_unfolding_all exact Try.szSs) (by with_unfolding_all simp) (by with_unfolding_all exact one_cell1 rfl) ?_)
      intro w4 hu4 hB4
      have hB4' : Blk w4 gr 79 [.int .i64 (sz : Int), .slice A3 (n + 1) c3] := hB4
      have ho4 := ho3.trans (Only.of_upd (L := [gr]) hu4 (by simp))
      have hne : ∀ g, A3 = some ⟨g, 0, none⟩ → g ≠ gr := fun g hg => by have := hl3.2 g hg; omega
      have hR4 := hl3.1.only (Only.of_upd (L := [gr]) hu4 (by simp)) (fun g hg => by simpa using hne g hg)
      have hm4 : w3.heap.size ≤ w4.heap.size := (Only.of_upd (L := [gr]) hu4 (by simp)).size
      have hJ4 : JRef w4 gr A3 c3 sz (l ++ [r]) := ⟨by rw [List.length_append, hn.out]; exact hB4', hR4, hne⟩
      have c1 := hB4'.cell (k := 1) rfl
      clear hB3 hB4 hu4 ho3 hR4 hB4'
      go_wp2
      go_ret2
      exact ⟨rfl, A3, c3, hJ4, ho4, fun g hg => Or.inr ⟨Nat.le_trans hwb (hl3.2 g hg), Nat.lt_of_lt_of_le (hm3 g hg) hm4⟩⟩
set_option maxRecDepth 100000 in
set_option maxHeartbeats 1600000 in
theorem rreplace_any2 (gr : Nat) (A B : Option Addr) (c cB sz : Nat) (o l : List ByteArray) (w : World) (hu : JM.useR l ≤ 200000) (_hsz : sz ≤ 100000) (h : JRef w gr A c sz o) (hB : RowAt w B (l.map Value.string)) (hBn : ∀ g, B = some ⟨g, 0, none⟩ → g ≠ gr) :
    Calls Try.prog 77 #[.pointer (some ⟨gr, 0, none⟩), .slice B l.length cB] w fun e w' => e = .returned (.int .i64 (JM.repE sz l)) ∧ ∃ A' c', JRef w' gr A' c' sz (JM.repL sz o l) ∧ Only [gr] w w' ∧ (∀ g, A' = some ⟨g, 0, none⟩ → A' = A ∨ w.heap.size ≤ g ∧ g < w'.heap.size) := by
  obtain ⟨n, hn⟩ : ∃ n, Hid (l.length = n) := ⟨_, rfl⟩
  obtain ⟨U, hU⟩ : ∃ U, Hid (JM.useR l = U) := ⟨_, rfl⟩
  have hn6 : n ≤ 200000 := by have := JM.useR_count l; rw [hn.out] at this; omega
  have HH := Lib.hid h
  have HB := Lib.hid hB.map
  have HBR := Lib.hid hB
  have hBlk := h.d
  have c0 := hBlk.cell (k := 0) rfl
  have hgl := hBlk.lt
  rw [hU.out] at hu
  rw [hn.out]
  clear h hB hBlk
  go_enter Try.func77, Try.ntmps77
  go_wp2
  go_loopw [5] (fun i wr => ∃ j : Nat, j ≤ n ∧ i = .int .i64 j ∧ longAt l j ∧ w = wr) (fun i _ => n - natOf i)
  case atStart => exact ⟨0, Nat.zero_le _, rfl, fun m r hm => absurd hm (Nat.not_lt_zero _), rfl⟩
  case round =>
    obtain ⟨j, hj, rfl, hla, rfl⟩ := hrel
    by_cases hjn : j < n
    · have hji : (j : Int) < (n : Int) := by omega
      obtain ⟨r, hr⟩ : ∃ r, l[j]? = some r := ⟨_, List.getElem?_eq_getElem (by rw [hn.out]; exact hjn)⟩
      obtain ⟨g, rfl, hc⟩ := HB.out j r hr
      have HLA := Lib.hid hla
      have HR := Lib.hid hr
      clear hr hla hj
      by_cases hlong : 8000 < r.size
      · have hli : (8000 : Int) < (r.size : Int) := by omega
        obtain ⟨e1, e2⟩ := JM.rep_long (sz := sz) (o := o) (any_true HR.out hlong)
        have E1 := Lib.hid e1
        have E2 := Lib.hid e2
        clear e1 e2
        go_wp2
        go_ret
        exact ⟨by rw [E1.out]; rfl, A, c, by rw [E2.out]; exact HH.out, Only.refl _ _, fun g hg => Or.inl rfl⟩
      · have hli : (r.size : Int) ≤ 8000 := by omega
        go_wp2
        go_roundw
        case rel => exact ⟨j + 1, by omega, by go_num, longAt_next HLA.out HR.out (by omega), by first | exact rfl | exact trivial⟩
        case measure => simp [natOf]; omega
    · obtain rfl : j = n := by omega
      have hany : l.any (fun r => decide (8000 < r.size)) = false := any_false (by rw [hn.out]; exact hla)
      have HANY := Lib.hid hany
      clear hla hany hj hjn
      by_cases hfull : sz < U
      · obtain ⟨e1, e2⟩ := JM.rep_full (sz := sz) (o := o) HANY.out (by rw [hU.out]; exact hfull)
        have E1 := Lib.hid e1
        have E2 := Lib.hid e2
        have hfi : (sz : Int) < (U : Int) := by omega
        clear e1 e2 hfull
        go_wp2
        go_quiet ((go_at_call 45; exact Calls.quiet_of_same (rused_q B cB j l _ hn.out U hU.out (by omega) (HBR.out.drewN _))))
        have hdn : Below w.heap.size w (w.drewN nq) := below_drewN (Below.refl _ _) nq
        have hJ := HH.out.next hdn
        have ho := Only.of_below (L := [gr]) hdn
        generalize w.drewN nq = wq at hJ ho ⊢
        go_wp2
        go_ret
        exact ⟨by rw [E1.out]; rfl, A, c, by rw [E2.out]; exact hJ, ho, fun g hg => Or.inl rfl⟩
      · obtain ⟨e1, e2⟩ := JM.rep_good (sz := sz) (o := o) HANY.out (by rw [hU.out]; exact hfull)
        have E1 := Lib.hid e1
        have E2 := Lib.hid e2
        have hfi : (U : Int) ≤ (sz : Int) := by omega
        clear e1 e2 hfull
        go_wp2
        go_quiet ((go_at_call 45; exact Calls.quiet_of_same (rused_q B cB j l _ hn.out U hU.out (by omega) (HBR.out.drewN _))))
        have hdn : Below w.heap.size w (w.drewN nq) := below_drewN (Below.refl _ _) nq
        have hJ := HH.out.next hdn
        have ho := Only.of_below (L := [gr]) hdn
        have hBq := hJ.d
        have hRq : RowAt (w.drewN nq) B (l.map Value.string) := HBR.out
        have hszq : w.heap.size ≤ (w.drewN nq).heap.size := hdn.size
        generalize w.drewN nq = wq at hJ ho hBq hRq hszq ⊢
        clear hJ hdn c0
        go_wp2_with (with_reducible refine wpList_appS (o := ⟨some 29, .call ⟨.builtin .append, #[.tmp 27, .tmp 28], #[43, 43]⟩, _, _, _, _⟩) (by with_unfolding_all rfl) (.tmp 27) (.tmp 28) (by with_unfolding_all rfl) (by with_unfolding_all rfl) B j cB (l.map Value.string) (by with_unfolding_all rfl) hRq (by with_unfolding_all (rw [List.length_map]; exact hn.out)) (strs_one l) (by with_unfolding_all omega) ?_)
        intro v1 w1 hown1 hb1
        obtain ⟨A1, c1', rfl⟩ := own_shape hown1
        have hl1 := own_new hown1
        have hm1 := own_low2 hown1
        have hB1 := hBq.next hb1 hBq.lt
        have ho1 := ho.trans (Only.of_below hb1)
        clear hown1 hBq ho hRq
        go_wp2_with (with_reducible refine wpList_put (o := ⟨none, .store 43 (.tmp 31) (.tmp 29), _, _, _, _⟩) (by with_unfolding_all rfl) 43 (.tmp 31) (.tmp 29) (by with_unfolding_all rfl) gr 1 (by with_unfolding_all rfl) (.slice A1 j c1') (by with_unfolding_all rfl) hB1 [(.slice A1 j c1')] (by with_unfolding_all rfl) (by with_unfolding_all exact Try.szSs) (by with_unfolding_all simp) (by with_unfolding_all exact one_cell1 rfl) ?_)
        intro w4 hu4 hB4
        have hB4' : Blk w4 gr 79 [.int .i64 (sz : Int), .slice A1 j c1'] := hB4
        have ho4 := ho1.trans (Only.of_upd (L := [gr]) hu4 (by simp))
        have hne : ∀ g, A1 = some ⟨g, 0, none⟩ → g ≠ gr := fun g hg => by have := hl1.2 g hg; omega
        have hR4 := hl1.1.only (Only.of_upd (L := [gr]) hu4 (by simp)) (fun g hg => by simpa using hne g hg)
        have hm4 : w1.heap.size ≤ w4.heap.size := (Only.of_upd (L := [gr]) hu4 (by simp)).size
        have hJ4 : JRef w4 gr A1 c1' sz l := ⟨by rw [hn.out]; exact hB4', hR4, hne⟩
        clear hB1 hB4 hu4 ho1 hR4 hB4'
        go_wp2
        go_ret
        exact ⟨by rw [E1.out]; rfl, A1, c1', by rw [E2.out]; exact hJ4, ho4, fun g hg => Or.inr ⟨Nat.le_trans hszq (hl1.2 g hg), Nat.lt_of_lt_of_le (hm1 g hg) hm4⟩⟩
set_option maxRecDepth 100000 in
set_option maxHeartbeats 1600000 in
theorem jdo_any2 (gr : Nat) (A : Option Addr) (c sz : Nat) (l : List ByteArray) (kind n k : Int) (fill : UInt8) (w : World) (hn : n ≤ 8200) (hk : k ≤ 20) (hu : JM.useR l ≤ 100000) (hsz : sz ≤ 100000) (h : JRef w gr A c sz l) :
    Calls Try.prog 40 #[.pointer (some ⟨gr, 0, none⟩), .agg #[.int .i64 kind, .int .i64 n, .int .i64 k, .int .u8 (fill.toNat : Int)]] w fun e w' => e = .returned (.tuple #[.int .i64 (JM.doN sz l ⟨kind, n, k, fill⟩ : Nat), .int .i64 (JM.doE sz l ⟨kind, n, k, fill⟩)]) ∧ ∃ A' c', JRef w' gr A' c' sz (JM.doL sz l ⟨kind, n, k, fill⟩) ∧ Only [gr] w w' ∧ (∀ g, A' = some ⟨g, 0, none⟩ → A' = A ∨ w.heap.size ≤ g ∧ g < w'.heap.size) := by
  have HH := Lib.hid h
  have hgl := h.d.lt
  have hun := Try.underlying75
  clear h
  by_cases hk1 : kind = 1
  · have e1 : JM.doN sz l ⟨kind, n, k, fill⟩ = JM.appN sz l (⟨kind, n, k, fill⟩ : OpJ).text := by unfold JM.doN; rw [if_pos hk1]
    have e2 : JM.doE sz l ⟨kind, n, k, fill⟩ = JM.appE sz l (⟨kind, n, k, fill⟩ : OpJ).text := by unfold JM.doE; rw [if_pos hk1]
    have e3 : JM.doL sz l ⟨kind, n, k, fill⟩ = JM.appL sz l (⟨kind, n, k, fill⟩ : OpJ).text := by unfold JM.doL; rw [if_pos hk1]
    have hts := text_size ⟨kind, n, k, fill⟩
    obtain ⟨sT, hsT⟩ : ∃ sT, Hid ((⟨kind, n, k, fill⟩ : OpJ).text = sT) := ⟨_, rfl⟩
    rw [e1, e2, e3, hsT.out]
    rw [hsT.out] at hts
    have hst8 : sT.size ≤ 8200 := by have h2 : sT.size = n.toNat := hts; omega
    clear e1 e2 e3 hts
    subst hk1
    go_enter Try.func40, Try.ntmps40
    go_wp2_with (with_reducible refine wpList_box (o := ⟨some 3, .box 75 (.tmp 1), _, _, _, _⟩) ?g2 75 (.tmp 1) ?o2 (.agg #[.int .i64 1, .int .i64 n, .int .i64 k, .int .u8 (fill.toNat : Int)]) [.int .i64 1, .int .i64 n, .int .i64 k, .int .u8 (fill.toNat : Int)] ?x2 ?c2 ?_)
    try (case g2 => rfl)
    try (case o2 => rfl)
    try (case x2 => rfl)
    try (case c2 => rfl)
    intro gb w1 hgb hs1 hb1 hB1
    have hbel : Below w.heap.size w w1 := hb1.mono (Nat.le_of_eq hgb.out.symm)
    have hB1' : Blk w1 gb 75 [.int .i64 1, .int .i64 n, .int .i64 k, .int .u8 (fill.toNat : Int)] := hB1
    have k0 := hB1'.cell (k := 0) rfl
    have hJ1 := HH.out.next hbel
    clear hb1 hB1 hgb hs1
    go_wp2_with (first | (with_reducible refine wpList_get (o := ⟨some 11, .load 75 (.tmp 3), _, _, _, _⟩) (by with_unfolding_all rfl) 75 (.tmp 3) (by with_unfolding_all rfl) gb 0 (by with_unfolding_all rfl) hB1' [.int .i64 1, .int .i64 n, .int .i64 k, .int .u8 (fill.toNat : Int)] (cs_all _) _ (by with_unfolding_all exact hun) (by with_unfolding_all rfl) (by with_unfolding_all exact Try.sizeJ) ?_) | fail)
    (with_reducible refine (text_any 1 n k fill sT _ hn hsT.out).mono ?_)
    rintro e w2 ⟨rfl, hb2⟩
    have hJ2 := hJ1.next hb2
    have hbel2 := below_join hbel hb2
    clear hJ1 hb2 k0 hB1'
    go_wp2_with fail
    (with_reducible refine (rappend_any2 gr A c sz l sT _ hst8 hu hsz hJ2).mono ?_)
    rintro e w3 ⟨rfl, A', c', hJ3, ho3, hn3⟩
    have ho := (Only.of_below (L := [gr]) hbel2).trans ho3
    have hsz2 := hbel2.size
    clear hJ2 ho3
    go_wp2
    go_ret2
    exact ⟨rfl, A', c', hJ3, ho, fun g hg => (hn3 g hg).imp id (fun h => ⟨Nat.le_trans hsz2 h.1, h.2⟩)⟩
  · by_cases hk2 : kind = 2
    · have e1 : JM.doN sz l ⟨kind, n, k, fill⟩ = 0 := by unfold JM.doN; rw [if_neg hk1]
      have e2 : JM.doE sz l ⟨kind, n, k, fill⟩ = JM.repE sz (⟨kind, n, k, fill⟩ : OpJ).texts := by unfold JM.doE; rw [if_neg hk1, if_pos hk2]
      have e3 : JM.doL sz l ⟨kind, n, k, fill⟩ = JM.repL sz l (⟨kind, n, k, fill⟩ : OpJ).texts := by unfold JM.doL; rw [if_neg hk1, if_pos hk2]
      have htu := texts_use (x := ⟨kind, n, k, fill⟩) hn hk
      rw [e1, e2, e3]
      clear e1 e2 e3 hk1
      subst hk2
      obtain ⟨T, hT⟩ : ∃ T, Hid ((⟨2, n, k, fill⟩ : OpJ).texts = T) := ⟨_, rfl⟩
      rw [hT.out] at htu ⊢
      go_enter Try.func40, Try.ntmps40
      go_wp2_with (with_reducible refine wpList_box (o := ⟨some 3, .box 75 (.tmp 1), _, _, _, _⟩) ?g2 75 (.tmp 1) ?o2 (.agg #[.int .i64 2, .int .i64 n, .int .i64 k, .int .u8 (fill.toNat : Int)]) [.int .i64 2, .int .i64 n, .int .i64 k, .int .u8 (fill.toNat : Int)] ?x2 ?c2 ?_)
      try (case g2 => rfl)
      try (case o2 => rfl)
      try (case x2 => rfl)
      try (case c2 => rfl)
      intro gb w1 hgb hs1 hb1 hB1
      have hbel : Below w.heap.size w w1 := hb1.mono (Nat.le_of_eq hgb.out.symm)
      have hB1' : Blk w1 gb 75 [.int .i64 2, .int .i64 n, .int .i64 k, .int .u8 (fill.toNat : Int)] := hB1
      have k0 := hB1'.cell (k := 0) rfl
      have hJ1 := HH.out.next hbel
      clear hb1 hB1 hgb hs1
      go_wp2_with (first | (with_reducible refine wpList_get (o := ⟨some 19, .load 75 (.tmp 3), _, _, _, _⟩) (by with_unfolding_all rfl) 75 (.tmp 3) (by with_unfolding_all rfl) gb 0 (by with_unfolding_all rfl) hB1' [.int .i64 2, .int .i64 n, .int .i64 k, .int .u8 (fill.toNat : Int)] (cs_all _) _ (by with_unfolding_all exact hun) (by with_unfolding_all rfl) (by with_unfolding_all exact Try.sizeJ) ?_) | fail)
      (with_reducible refine (texts_any 2 n k fill _ hn hk).mono ?_)
      rintro e w2 ⟨v, rfl, hown2, hb2⟩
      rw [hT.out] at hown2
      obtain ⟨A2, c2, rfl⟩ := own_shape hown2
      have hl2 := own_new hown2
      have hJ2 := hJ1.next hb2
      have hbel2 := below_join hbel hb2
      have hgl1 := hJ1.d.lt
      have hne2 : ∀ g, A2 = some ⟨g, 0, none⟩ → g ≠ gr := fun g hg => by have := hl2.2 g hg; omega
      clear hJ1 hb2 k0 hB1' hown2
      go_wp2_with fail
      (with_reducible refine (rreplace_any2 gr A A2 c c2 sz l T _ htu hsz hJ2 hl2.1 hne2).mono ?_)
      rintro e w3 ⟨rfl, A', c', hJ3, ho3, hn3⟩
      have ho := (Only.of_below (L := [gr]) hbel2).trans ho3
      have hsz2 := hbel2.size
      clear hJ2 ho3
      go_wp2
      go_ret2
      exact ⟨rfl, A', c', hJ3, ho, fun g hg => (hn3 g hg).imp id (fun h => ⟨Nat.le_trans hsz2 h.1, h.2⟩)⟩
    · have e1 : JM.doN sz l ⟨kind, n, k, fill⟩ = 0 := by unfold JM.doN; rw [if_neg hk1]
      have e2 : JM.doE sz l ⟨kind, n, k, fill⟩ = 0 := by unfold JM.doE; rw [if_neg hk1, if_neg hk2]
      have e3 : JM.doL sz l ⟨kind, n, k, fill⟩ = l := by unfold JM.doL; rw [if_neg hk1, if_neg hk2]
      have hn1 : (kind == 1) = false := beq_eq_false_iff_ne.2 hk1
      have hn2 : (kind == 2) = false := beq_eq_false_iff_ne.2 hk2
      rw [e1, e2, e3]
      clear e1 e2 e3 hk1 hk2
      go_enter Try.func40, Try.ntmps40
      go_wp2_with (with_reducible refine wpList_box (o := ⟨some 3, .box 75 (.tmp 1), _, _, _, _⟩) ?g2 75 (.tmp 1) ?o2 (.agg #[.int .i64 kind, .int .i64 n, .int .i64 k, .int .u8 (fill.toNat : Int)]) [.int .i64 kind, .int .i64 n, .int .i64 k, .int .u8 (fill.toNat : Int)] ?x2 ?c2 ?_)
      try (case g2 => rfl)
      try (case o2 => rfl)
      try (case x2 => rfl)
      try (case c2 => rfl)
      intro gb w1 hgb hs1 hb1 hB1
      have hbel : Below w.heap.size w w1 := hb1.mono (Nat.le_of_eq hgb.out.symm)
      have k0 := hB1.cell (k := 0) rfl
      have hJ1 := HH.out.next hbel
      clear hb1 hB1 hgb hs1
      go_wp2
      go_ret2
      exact ⟨rfl, A, c, hJ1, Only.of_below hbel, fun g hg => Or.inl rfl⟩
end Go.Proofs.Ythgmlopkcgkjlaa
