/-
  Contracts of the walks over chapter 1's decoding of lists of integers and of byte strings: wire.getList[int], wire.GetInts, wire.getList[string], wire.GetStrings. Conditions: at most 10^9 bytes.
-/
import Derived.Test.YtkbmgkaopjjkoaaPutInts
namespace Go.Proofs.Ytkbmgkaopjjkoaa
open Go.RowKit

/-- What has been decoded, and what is still to come. -/
def comb {α : Type} (acc : List α) (d : Nat) (r : List α × Nat × Int) : List α × Nat × Int := if r.2.2 = 0 then (acc ++ r.1, d + r.2.1, 0) else ([], 0, r.2.2)
section
variable {α : Type} {get : List UInt8 → α × Nat × Int}
theorem comb_start (n : Nat) (l : List UInt8) (he : (WM.getMany get n l).2.2 ≠ 0 → (WM.getMany get n l).1 = [] ∧ (WM.getMany get n l).2.1 = 0) : WM.getMany get n l = comb [] 0 (WM.getMany get n (l.drop 0)) := by
  rw [List.drop_zero]
  unfold comb
  by_cases h : (WM.getMany get n l).2.2 = 0
  · rw [if_pos h]; simp only [List.nil_append, Nat.zero_add]; rw [← h]
  · rw [if_neg h]
    obtain ⟨h1, h2⟩ := he h
    rw [← h1, ← h2]
theorem comb_step {n d u : Nat} {l : List UInt8} {acc : List α} {x : α} {r : List α × Nat × Int} (h : r = comb acc d (WM.getMany get (n + 1) (l.drop d))) (hx : get (l.drop d) = (x, u, 0)) :
    r = comb (acc ++ [x]) (d + u) (WM.getMany get n (l.drop (d + u))) := by
  rw [h]
  simp only [WM.getMany, hx, if_true, List.drop_drop]
  by_cases h2 : (WM.getMany get n (l.drop (d + u))).2.2 = 0
  · simp [comb, h2, Nat.add_assoc]
  · simp [comb, h2]
theorem comb_fail {n d u : Nat} {l : List UInt8} {acc : List α} {x : α} {e : Int} {r : List α × Nat × Int} (h : r = comb acc d (WM.getMany get (n + 1) (l.drop d))) (hx : get (l.drop d) = (x, u, e)) (he : e ≠ 0) :
    r = ([], 0, e) := by
  rw [h]
  simp [WM.getMany, hx, he, comb]
theorem comb_done {k d u : Nat} {l : List UInt8} {acc : List α} (h : WM.getMany get k l = comb acc d (WM.getMany get (k - k) (l.drop d))) : comb [] u (WM.getMany get k l) = (acc, u + d, 0) := by
  rw [h, Nat.sub_self]; simp [WM.getMany, comb]
theorem comb_end {d : Nat} {l : List UInt8} {acc : List α} {r : List α × Nat × Int} (h : r = comb acc d (WM.getMany get 0 (l.drop d))) : r = (acc, d, 0) := by
  rw [h]; simp [WM.getMany, comb]
end

/-- The result of a list's decoding: a row of the call's own, or nil. -/
def GetsPost {α : Type} (E : TypeId) (f : α → Value) (r : List α × Nat × Int) (w : World) (e : Ending) (w' : World) : Prop :=
  ∃ v, e = .returned (.tuple #[v, .int .i64 (r.2.1 : Int), .int .i64 r.2.2]) ∧ w'.ownsRow w.heap.size E 1 v r.1.length (r.1.map f) ∧ Below w.heap.size w w'
theorem GetsPost.nil {α : Type} {E : TypeId} {f : α → Value} {r : List α × Nat × Int} {w w' : World} {x : Int} (h : r = ([], 0, x)) (hb : Below w.heap.size w w') {a b c : Value} (ha : a = .slice none 0 0) (hb' : b = .int .i64 0) (hc : c = .int .i64 x) : GetsPost E f r w (.returned (.tuple #[a, b, c])) w' := by
  subst h ha hb' hc
  exact ⟨_, rfl, World.ownsRow_nil _ _ _ _, hb⟩
theorem GetsPost.row {α : Type} {E : TypeId} {f : α → Value} {r : List α × Nat × Int} {w w' : World} {xs : List α} {u : Nat} (h : r = (xs, u, 0)) (hb : Below w.heap.size w w') {a b c : Value} (ha : w'.ownsRow w.heap.size E 1 a xs.length (xs.map f)) (hb' : b = .int .i64 (u : Int)) (hc : c = .int .i64 0) : GetsPost E f r w (.returned (.tuple #[a, b, c])) w' := by
  subst h hb' hc
  exact ⟨_, rfl, ha, hb⟩

/-- What the loop of getList has done after k rounds. -/
def ManyRel {α : Type} (E : TypeId) (f : α → Value) (zero : Value) (get : List UInt8 → α × Nat × Int) (l : List UInt8) (n u : Nat) (w : World) (at_ i : Value) (wr : World) : Prop :=
  ∃ (k d : Nat) (acc : List α), k ≤ n ∧ i = .int .i64 k ∧ at_ = .int .i64 ((u + d : Nat) : Int) ∧ acc.length = k ∧ u + d ≤ l.length ∧
    WM.getMany get n (l.drop u) = comb acc d (WM.getMany get (n - k) ((l.drop u).drop d)) ∧
    wr.ownsRow w.heap.size E 1 (.slice (some ⟨w.heap.size, 0, none⟩) n n) n (acc.map f ++ List.replicate (n - k) zero) ∧ Below w.heap.size w wr

theorem set_next {acc : List Value} {z x : Value} {n k : Nat} (hk : acc.length = k) (hlt : k < n) : (acc ++ List.replicate (n - k) z).set k x = (acc ++ [x]) ++ List.replicate (n - (k + 1)) z := by
  subst hk
  rw [List.set_append_right _ _ (by omega), Nat.sub_self, show n - acc.length = (n - (acc.length + 1)) + 1 by omega, List.replicate_succ, List.set_cons_zero, List.append_assoc]
  rfl

theorem Try.info3 : (Try.prog.info? 3).map (fun i => (i.zero, i.size, i.bytes)) = some (some (.int .i64 0), 1, 8) := by kernel_rfl
theorem Try.info9 : (Try.prog.info? 9).map (fun i => (i.zero, i.size, i.bytes)) = some (some (.string ByteArray.empty), 1, 16) := by kernel_rfl

theorem getInt_n {l : List UInt8} {n : Int} {u : Nat} {x : Int} (h : WM.getI l = (n, u, x)) (A : Option Addr) (m cap : Nat) (w : World) (hm : m = l.length) (hl : l.length ≤ 1000000000) (hh : Holds w A (l.map B8)) :
    Calls Try.prog 24 #[.slice A m cap] w fun e w' => e = .returned (.tuple #[.int .i64 n, .int .i64 u, .int .i64 x]) ∧ w = w' := by
  subst hm; exact getInt_at h A cap w hl hh
theorem getBytes_n {l : List UInt8} {s : List UInt8} {u : Nat} {x : Int} (h : WM.getB l = (s, u, x)) (A : Option Addr) (m cap : Nat) (w : World) (hm : m = l.length) (hl : l.length ≤ 1000000000) (hcap : m ≤ cap) (hh : Holds w A (l.map B8)) :
    Calls Try.prog 26 #[.slice A m cap] w fun e w' => e = .returned (.tuple #[.string ⟨s.toArray⟩, .int .i64 u, .int .i64 x]) ∧ w = w' := by
  subst hm
  have := getBytes_any A cap l w hl hcap hh
  rw [h] at this
  exact this
theorem Holds.rest {w : World} {A : Option Addr} {l : List UInt8} (h : Holds w A (l.map B8)) {k m : Nat} (hm : l.length ≤ m) : Holds w (if m = k then A else A.map (·.add k)) ((l.drop k).map B8) := by
  have := h.cut (k := k) (n := l.length) (m := m) (by simpa using hm)
  rwa [← List.map_drop, ← List.map_take, List.take_of_length_le (by simp)] at this

set_option maxRecDepth 100000 in
set_option maxHeartbeats 1600000 in
theorem getListInts_any (A : Option Addr) (cap : Nat) (l : List UInt8) (w : World) (hl : l.length ≤ 1000000000) (hcap : l.length ≤ cap) (hh : Holds w A (l.map B8)) :
    Calls Try.prog 46 #[.slice A l.length cap, .int .i64 1, .func (.func 24) #[] #[]] w (GetsPost 3 (Value.int .i64) (WM.getAll WM.getI 1 l) w) := by
  obtain ⟨i0, hi, hz0, hz1, hz2⟩ := info_parts Try.info3
  have hL := getLen_any A cap l 1 w hl (by omega) (by omega) hh
  by_cases h0 : (WM.getL l 1).2.2 = 0
  · have hB : WM.getAll WM.getI 1 l = comb [] (WM.getL l 1).2.1 (WM.getMany WM.getI (WM.getL l 1).1 (l.drop (WM.getL l 1).2.1)) := by
      unfold WM.getAll comb; rw [if_pos h0]; rfl
    obtain ⟨_, h1, _, h2⟩ := WM.getL_ok (l := l) (s := 1) (n := (WM.getL l 1).1) (u := (WM.getL l 1).2.1) (by rw [← h0])
    rw [hB]; clear hB
    rw [h0] at hL
    generalize (WM.getL l 1).1 = n at hL h2 ⊢
    generalize (WM.getL l 1).2.1 = u at hL h1 ⊢ h2
    clear h0
    rw [Nat.div_one] at h2
    have HL := Lib.hid hL
    clear hL
    go_enter Try.func46, Try.ntmps46
    go_wp2_with (first | (go_at_call 45; refine HL.out.mono ?_; rintro e w' ⟨rfl, rfl⟩) | (at_make; refine wpList_make_full _ rfl _ _ 22 rfl w.heap.size 3 i0 (.int .i64 0) 1 Try.underlying22 hi hz0 hz1 _ _ _ _ n rfl rfl rfl rfl ?b2 ?b3 ?b4 ?_))
    case b2 => rw [hz2]; omega
    case b3 => unfold maxLen; omega
    case b4 => omega
    intro w1 hown1 hg1
    go_wp2_with fail
    go_loopw [10, 31] (ManyRel 3 (Value.int .i64) (.int .i64 0) WM.getI l n u w) (fun _ i _ => n - (intOf i).toNat)
    case atStart =>
      refine ⟨0, 0, [], by omega, rfl, rfl, rfl, by omega, comb_start _ _ (fun h => ?_), ?_, (Below.refl _ _).grown hg1 (Nat.le_refl _) (fun k hk => by cases hk)⟩
      · have := WM.many_errs WM.codeI n (l.drop u) h; exact ⟨this.1, this.2.1⟩
      · rw [toList_madeCells_one] at hown1
        simpa using hown1
    case round =>
      obtain ⟨k, d, acc, hk, rfl, rfl, hacc, hd, hM, hown, hb⟩ := hrel
      have HM := Lib.hid hM
      have HA := Lib.hid hacc
      have HO := Lib.hid hown
      clear hM hacc hown hown1
      have hsz := hb.size
      by_cases hlt : k < n
      · have hh2 := (hh.keep (Keeps.of hb)).rest (k := u + d) hcap
        have hcell : ∃ v, wr.cell? ⟨w.heap.size, k, none⟩ = some v := ⟨_, (HO.out.cellAt k (by omega)).trans (List.getElem?_eq_getElem (by simp [HA.out]; omega))⟩
        obtain ⟨v0, hcell⟩ := hcell
        have hfr : wr.frozen? ⟨w.heap.size, k, none⟩ = false := HO.out.frozenAt k
        by_cases he : (WM.getI (l.drop (u + d))).2.2 = 0
        · have HX := Lib.hid (show WM.getI (l.drop (u + d)) = ((WM.getI (l.drop (u + d))).1, (WM.getI (l.drop (u + d))).2.1, 0) by rw [← he])
          have hu' := (WM.codeI.canon _ _ _ (by simp; omega) HX.out).1
          rw [List.length_drop] at hu'
          generalize (WM.getI (l.drop (u + d))).1 = x at HX
          generalize (WM.getI (l.drop (u + d))).2.1 = q at HX hu'
          clear he
          have hq : 1 ≤ q := (WM.getI_ok HX.out).2.1
          have hne : ¬ cap = u + d := by omega
          rw [if_neg hne] at hh2
          have HH := Lib.hid hh2
          clear hh2
          go_wp2_with fail
          refine (getInt_n HX.out _ _ _ _ (by rw [List.length_drop]) (by rw [List.length_drop]; omega) HH.out).mono ?_
          rintro e w' ⟨rfl, rfl⟩
          go_wp2_with fail
          go_roundw
          case rel =>
            refine ⟨k + 1, d + q, acc ++ [x], by omega, by go_num, by go_num, by simp [HA.out], by omega, ?_, ?_, hb.setCell (Nat.le_refl _) _⟩
            · have e1 := HM.out
              rw [show n - k = (n - (k + 1)) + 1 by omega] at e1
              exact comb_step e1 (by rw [List.drop_drop]; exact HX.out)
            · have := (HO.out.stored k (.int .i64 x)).1
              rw [set_next (by simp [HA.out]) hlt] at this
              simpa using this
          case measure => simp [intOf]; omega
        · have HX := Lib.hid (show WM.getI (l.drop (u + d)) = ((WM.getI (l.drop (u + d))).1, (WM.getI (l.drop (u + d))).2.1, (WM.getI (l.drop (u + d))).2.2) from rfl)
          generalize (WM.getI (l.drop (u + d))).1 = x at HX
          generalize (WM.getI (l.drop (u + d))).2.1 = q at HX
          generalize (WM.getI (l.drop (u + d))).2.2 = er at HX he
          have b0 : (er != 0) = true := by rw [bne_iff_ne]; exact he
          have HE := Lib.hid he
          clear he
          have hfin : WM.getMany WM.getI n (l.drop u) = ([], 0, er) := by
            have e1 := HM.out
            rw [show n - k = (n - (k + 1)) + 1 by omega] at e1
            exact comb_fail e1 (by rw [List.drop_drop]; exact HX.out) HE.out
          have HF := Lib.hid hfin
          clear hfin
          have HH := Lib.hid hh2
          clear hh2
          go_wp2_with fail
          all_goals
            refine (getInt_n HX.out _ _ _ _ (by rw [List.length_drop]) (by rw [List.length_drop]; omega) (by have h := HH.out; first | (rw [if_pos (by omega)] at h; exact h) | (rw [if_neg (by omega)] at h; exact h))).mono ?_
            rintro e w' ⟨rfl, rfl⟩
            go_wp2_with fail
            go_ret3
            exact GetsPost.nil (by rw [HF.out]; unfold comb; rw [if_neg HE.out]) hb rfl rfl rfl
      · have hkn : k = n := by omega
        go_wp2_with fail
        go_ret3
        subst hkn
        refine GetsPost.row (comb_done HM.out) hb ?_ rfl rfl
        have h := HO.out
        simp only [Nat.sub_self, List.replicate_zero, List.append_nil] at h
        rw [HA.out]
        exact h
  · have hB : WM.getAll WM.getI 1 l = ([], 0, (WM.getL l 1).2.2) := by unfold WM.getAll; rw [if_neg h0]
    rw [hB]; clear hB
    have b0 : ((WM.getL l 1).2.2 != 0) = true := by rw [bne_iff_ne]; exact h0
    generalize (WM.getL l 1).1 = n at hL
    generalize (WM.getL l 1).2.1 = u at hL
    generalize (WM.getL l 1).2.2 = x at hL b0 ⊢
    clear h0
    have HL := Lib.hid hL
    clear hL hh
    go_enter Try.func46, Try.ntmps46
    go_wp2_with (go_at_call 45; refine HL.out.mono ?_; rintro e w' ⟨rfl, rfl⟩)
    go_ret3
    exact GetsPost.nil rfl (Below.refl _ _) rfl rfl rfl

/-- The contract of GetInts. -/
theorem getInts_any (A : Option Addr) (cap : Nat) (l : List UInt8) (w : World) (hl : l.length ≤ 1000000000) (hcap : l.length ≤ cap) (hh : Holds w A (l.map B8)) :
    Calls Try.prog 28 #[.slice A l.length cap] w (GetsPost 3 (Value.int .i64) (WM.getAll WM.getI 1 l) w) := by
  go_enter Try.func28, Try.ntmps28
  go_wp2_with fail
  refine (getListInts_any A cap l w hl hcap hh).mono ?_
  rintro e w1 ⟨v1, rfl, hown1, hb1⟩
  go_wp2_with fail
  go_ret3
  exact ⟨_, rfl, hown1, hb1⟩

/-- A string's value, out of its bytes. -/
def strV (s : List UInt8) : Value := .string ⟨s.toArray⟩
theorem strs_one {l s : List UInt8} {u : Nat} (h : WM.getB l = (s, u, 0)) : 1 ≤ u := by
  obtain ⟨h1, h2⟩ := WM.getB_ok h
  have h3 := WM.encB_pos s
  rw [← h2, List.length_take] at h3
  omega
set_option maxRecDepth 100000 in
set_option maxHeartbeats 1600000 in
theorem getListStrings_any (A : Option Addr) (cap : Nat) (l : List UInt8) (w : World) (hl : l.length ≤ 1000000000) (hcap : l.length ≤ cap) (hh : Holds w A (l.map B8)) :
    Calls Try.prog 48 #[.slice A l.length cap, .int .i64 1, .func (.func 26) #[] #[]] w (GetsPost 9 strV (WM.getAll WM.getB 1 l) w) := by
  obtain ⟨i0, hi, hz0, hz1, hz2⟩ := info_parts Try.info9
  have hL := getLen_any A cap l 1 w hl (by omega) (by omega) hh
  by_cases h0 : (WM.getL l 1).2.2 = 0
  · have hB : WM.getAll WM.getB 1 l = comb [] (WM.getL l 1).2.1 (WM.getMany WM.getB (WM.getL l 1).1 (l.drop (WM.getL l 1).2.1)) := by
      unfold WM.getAll comb; rw [if_pos h0]; rfl
    obtain ⟨_, h1, _, h2⟩ := WM.getL_ok (l := l) (s := 1) (n := (WM.getL l 1).1) (u := (WM.getL l 1).2.1) (by rw [← h0])
    rw [hB]; clear hB
    rw [h0] at hL
    generalize (WM.getL l 1).1 = n at hL h2 ⊢
    generalize (WM.getL l 1).2.1 = u at hL h1 ⊢ h2
    clear h0
    rw [Nat.div_one] at h2
    have HL := Lib.hid hL
    clear hL
    go_enter Try.func48, Try.ntmps48
    go_wp2_with (first | (go_at_call 45; refine HL.out.mono ?_; rintro e w' ⟨rfl, rfl⟩) | (at_make; refine wpList_make_full _ rfl _ _ 23 rfl w.heap.size 9 i0 (.string ByteArray.empty) 1 Try.underlying23 hi hz0 hz1 _ _ _ _ n rfl rfl rfl rfl ?b2 ?b3 ?b4 ?_))
    case b2 => rw [hz2]; omega
    case b3 => unfold maxLen; omega
    case b4 => omega
    intro w1 hown1 hg1
    go_wp2_with fail
    go_loopw [10, 31] (ManyRel 9 strV (.string ByteArray.empty) WM.getB l n u w) (fun _ i _ => n - (intOf i).toNat)
    case atStart =>
      refine ⟨0, 0, [], by omega, rfl, rfl, rfl, by omega, comb_start _ _ (fun h => ?_), ?_, (Below.refl _ _).grown hg1 (Nat.le_refl _) (fun k hk => by cases hk)⟩
      · have := WM.many_errs WM.codeB n (l.drop u) h; exact ⟨this.1, this.2.1⟩
      · rw [toList_madeCells_one] at hown1
        simpa using hown1
    case round =>
      obtain ⟨k, d, acc, hk, rfl, rfl, hacc, hd, hM, hown, hb⟩ := hrel
      have HM := Lib.hid hM
      have HA := Lib.hid hacc
      have HO := Lib.hid hown
      clear hM hacc hown hown1
      have hsz := hb.size
      by_cases hlt : k < n
      · have hh2 := (hh.keep (Keeps.of hb)).rest (k := u + d) hcap
        have hcell : ∃ v, wr.cell? ⟨w.heap.size, k, none⟩ = some v := ⟨_, (HO.out.cellAt k (by omega)).trans (List.getElem?_eq_getElem (by simp [HA.out]; omega))⟩
        obtain ⟨v0, hcell⟩ := hcell
        have hfr : wr.frozen? ⟨w.heap.size, k, none⟩ = false := HO.out.frozenAt k
        by_cases he : (WM.getB (l.drop (u + d))).2.2 = 0
        · have HX := Lib.hid (show WM.getB (l.drop (u + d)) = ((WM.getB (l.drop (u + d))).1, (WM.getB (l.drop (u + d))).2.1, 0) by rw [← he])
          have hu' := (WM.codeB.canon _ _ _ (by simp; omega) HX.out).1
          rw [List.length_drop] at hu'
          generalize (WM.getB (l.drop (u + d))).1 = x at HX
          generalize (WM.getB (l.drop (u + d))).2.1 = q at HX hu'
          clear he
          have hq : 1 ≤ q := strs_one HX.out
          have hne : ¬ cap = u + d := by omega
          rw [if_neg hne] at hh2
          have HH := Lib.hid hh2
          clear hh2
          go_wp2_with fail
          refine (getBytes_n HX.out _ _ _ _ (by rw [List.length_drop]) (by rw [List.length_drop]; omega) (by omega) HH.out).mono ?_
          rintro e w' ⟨rfl, rfl⟩
          go_wp2_with fail
          go_roundw
          case rel =>
            refine ⟨k + 1, d + q, acc ++ [x], by omega, by go_num, by go_num, by simp [HA.out], by omega, ?_, ?_, hb.setCell (Nat.le_refl _) _⟩
            · have e1 := HM.out
              rw [show n - k = (n - (k + 1)) + 1 by omega] at e1
              exact comb_step e1 (by rw [List.drop_drop]; exact HX.out)
            · have := (HO.out.stored k (strV x)).1
              rw [set_next (by simp [HA.out]) hlt] at this
              rw [List.map_append]
              exact this
          case measure => simp [intOf]; omega
        · have HX := Lib.hid (show WM.getB (l.drop (u + d)) = ((WM.getB (l.drop (u + d))).1, (WM.getB (l.drop (u + d))).2.1, (WM.getB (l.drop (u + d))).2.2) from rfl)
          generalize (WM.getB (l.drop (u + d))).1 = x at HX
          generalize (WM.getB (l.drop (u + d))).2.1 = q at HX
          generalize (WM.getB (l.drop (u + d))).2.2 = er at HX he
          have b0 : (er != 0) = true := by rw [bne_iff_ne]; exact he
          have HE := Lib.hid he
          clear he
          have hfin : WM.getMany WM.getB n (l.drop u) = ([], 0, er) := by
            have e1 := HM.out
            rw [show n - k = (n - (k + 1)) + 1 by omega] at e1
            exact comb_fail e1 (by rw [List.drop_drop]; exact HX.out) HE.out
          have HF := Lib.hid hfin
          clear hfin
          have HH := Lib.hid hh2
          clear hh2
          go_wp2_with fail
          all_goals
            refine (getBytes_n HX.out _ _ _ _ (by rw [List.length_drop]) (by rw [List.length_drop]; omega) (by omega) (by have h := HH.out; first | (rw [if_pos (by omega)] at h; exact h) | (rw [if_neg (by omega)] at h; exact h))).mono ?_
            rintro e w' ⟨rfl, rfl⟩
            go_wp2_with fail
            go_ret3
            exact GetsPost.nil (by rw [HF.out]; unfold comb; rw [if_neg HE.out]) hb rfl rfl rfl
      · have hkn : k = n := by omega
        go_wp2_with fail
        go_ret3
        subst hkn
        refine GetsPost.row (comb_done HM.out) hb ?_ rfl rfl
        have h := HO.out
        simp only [Nat.sub_self, List.replicate_zero, List.append_nil] at h
        rw [HA.out]
        exact h
  · have hB : WM.getAll WM.getB 1 l = ([], 0, (WM.getL l 1).2.2) := by unfold WM.getAll; rw [if_neg h0]
    rw [hB]; clear hB
    have b0 : ((WM.getL l 1).2.2 != 0) = true := by rw [bne_iff_ne]; exact h0
    generalize (WM.getL l 1).1 = n at hL
    generalize (WM.getL l 1).2.1 = u at hL
    generalize (WM.getL l 1).2.2 = x at hL b0 ⊢
    clear h0
    have HL := Lib.hid hL
    clear hL hh
    go_enter Try.func48, Try.ntmps48
    go_wp2_with (go_at_call 45; refine HL.out.mono ?_; rintro e w' ⟨rfl, rfl⟩)
    go_ret3
    exact GetsPost.nil rfl (Below.refl _ _) rfl rfl rfl

/-- The contract of GetStrings. -/
theorem getStrings_any (A : Option Addr) (cap : Nat) (l : List UInt8) (w : World) (hl : l.length ≤ 1000000000) (hcap : l.length ≤ cap) (hh : Holds w A (l.map B8)) :
    Calls Try.prog 31 #[.slice A l.length cap] w (GetsPost 9 strV (WM.getAll WM.getB 1 l) w) := by
  go_enter Try.func31, Try.ntmps31
  go_wp2_with fail
  refine (getListStrings_any A cap l w hl hcap hh).mono ?_
  rintro e w1 ⟨v1, rfl, hown1, hb1⟩
  go_wp2_with fail
  go_ret3
  exact ⟨_, rfl, hown1, hb1⟩
end Go.Proofs.Ytkbmgkaopjjkoaa
