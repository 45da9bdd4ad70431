/-
  Contracts of the walks over the reference's CheckRows and Formed. Conditions: the rows lie there.
-/
import Derived.Test.YthjaelopmfjfeaaDoorYd
import Derived.Test.YthjaelopmfjfeaaDoorWe
namespace Go.Proofs.YthjaelopmfjfeaaDoor
set_option linter.unusedVariables false
set_option linter.unusedSimpArgs false
open Go.RowKit Go.Shelf
set_option linter.unusedVariables false

/-- A row of whatever numbers that came in. -/
structure RawQ (w : World) (p : Hdr × List (Int × Int)) : Prop where
  len : p.1.2.1 = p.2.length
  few : p.2.length ≤ 9223372036854775807
  lies : PsAt w p.1.1 p.2
theorem RawQ.next {w w' : World} {p : Hdr × List (Int × Int)} (h : RawQ w p) (hb : Below w.heap.size w w') : RawQ w' p := ⟨h.len, h.few, h.lies.next hb⟩
def rowOk (p : Hdr × List (Int × Int)) : Bool := (p.2.all fun q => chk q.1 q.2) && decide (p.2.length ≤ 25)
def crB (rs : List (Hdr × List (Int × Int))) : Bool := rs.all rowOk && decide (rs.length ≤ 25)
def CRRel (rs : List (Hdr × List (Int × Int))) (n : Nat) (w : World) (i : Value) (wr : World) : Prop :=
  ∃ k : Nat, k ≤ n ∧ i = .int .i64 (k : Int) ∧ (∀ j p, j < k → rs[j]? = some p → rowOk p = true) ∧ Below w.heap.size w wr
set_option maxRecDepth 100000 in
set_option maxHeartbeats 1600000 in
theorem rcheckRows_any (A : Option Addr) (c : Nat) (rs : List (Hdr × List (Int × Int))) (w : World) (hl : rs.length ≤ 140737488355328) (hS : HdrsAt w A (rs.map fun p => p.1)) (hR : ∀ p ∈ rs, RawQ w p) :
    Calls Tryd.prog 40 #[.slice A rs.length c] w fun e w' => e = .returned (.bool (crB rs)) ∧ Below w.heap.size w w' := by
  obtain ⟨D, hD⟩ : ∃ D, Hid (crB rs = D) := ⟨_, rfl⟩
  rw [hD.out]
  have hget : ∀ k, k < rs.length → ∃ p, rs[k]? = some p ∧ RawQ w p ∧ ∃ ad, A = some ad ∧ w.cell? (ad.add k) = some (hdrV p.1) := fun k hk => by
    have h1 : rs[k]? = some (rs[k]'(by omega)) := List.getElem?_eq_getElem (by omega)
    exact ⟨_, h1, hR _ (List.mem_of_getElem? h1), hS k _ (by rw [List.getElem?_map, h1]; rfl)⟩
  obtain ⟨n, hn⟩ : ∃ n, Hid (rs.length = n) := ⟨_, rfl⟩
  rw [hn.out] at hl hget ⊢
  have HGT := Lib.hid hget
  have hni : (n : Int) ≤ 140737488355328 := by omega
  clear hS hR hget
  go_enter Tryd.func40, Tryd.ntmps40
  go_wp2
  go_loopw [3] (CRRel rs n w) (fun i _ => n - (intOf i).toNat)
  case atStart => exact ⟨0, Nat.zero_le _, rfl, fun j p hj => absurd hj (Nat.not_lt_zero j), Below.refl _ _⟩
  case round =>
    obtain ⟨k, hk, rfl, hz, hbe⟩ := hrel
    have HZ := Lib.hid hz
    clear hz
    by_cases hlt : k < n
    · have hki : (k : Int) < (n : Int) := by omega
      have hk0 : (0 : Int) ≤ (k : Int) := by omega
      obtain ⟨p, hp, hrow, ad, rfl, hc⟩ := HGT.out k hlt
      have hro := hrow.next hbe
      obtain ⟨⟨C, q, f⟩, l⟩ := p
      have hlen : q = l.length := hro.len
      have hfew : l.length ≤ 9223372036854775807 := hro.few
      have hc0 : wr.cell? (ad.add k) = some (.slice C q f) := cellq_below hbe hc
      obtain ⟨O, hO⟩ : ∃ O, Hid ((l.all fun q => chk q.1 q.2) = O) := ⟨_, rfl⟩
      have hck := rcheckAll_any C f l wr hfew hro.lies
      rw [hO.out, ← hlen] at hck
      have HCK := Lib.hid hck
      have HP := Lib.hid hp
      have HLN := Lib.hid hlen
      have hqi : q ≤ 9223372036854775807 := by omega
      have hno : Hid (rowOk ((C, q, f), l) = false → D = false) := by
        have : rowOk ((C, q, f), l) = false → D = false := fun h => by
          rw [← hD.out]
          unfold crB
          rw [Bool.and_eq_false_iff]
          left
          rw [List.all_eq_false]
          exact ⟨_, List.mem_of_getElem? HP.out, by rw [h]; decide⟩
        exact this
      have hrk : Hid (rowOk ((C, q, f), l) = (O && decide (q ≤ 25))) := by
        have : rowOk ((C, q, f), l) = (O && decide (q ≤ 25)) := by
          show ((l.all fun q => chk q.1 q.2) && decide (l.length ≤ 25)) = _
          rw [hO.out, ← HLN.out]
        exact this
      clear hck hp hlen hfew hrow hro hc
      go_wp2_with fail
      (with_reducible refine HCK.out.mono ?_)
      rintro e w1 ⟨rfl, hb1⟩
      have hbe1 := below_join hbe hb1
      have hc1 : w1.cell? (ad.add k) = some (.slice C q f) := cellq_below hb1 hc0
      clear hbe hb1 hc0 HCK
      rcases O with _ | _
      · have hDf := Lib.hid (hno.out (by rw [hrk.out]; rfl))
        go_wp2
        go_ret
        exact ⟨by rw [hDf.out]; rfl, hbe1⟩
      · by_cases hq : q ≤ 25
        · have hqb : decide (25 < (q : Int)) = false := decide_eq_false (by omega)
          have hqc : ¬ (25 : Int) < (q : Int) := by omega
          have HT := Lib.hid (show rowOk ((C, q, f), l) = true by rw [hrk.out, decide_eq_true hq]; rfl)
          go_wp2
          go_roundw
          case rel => exact ⟨k + 1, by omega, by go_num, fun j a hj ha => by
            by_cases e : j = k
            · rw [e, HP.out] at ha
              injection ha with ha
              rw [← ha]; exact HT.out
            · exact HZ.out j a (by omega) ha, hbe1⟩
          case measure => simp [intOf]; omega
        · have hqb : decide (25 < (q : Int)) = true := decide_eq_true (by omega)
          have hqc : (25 : Int) < (q : Int) := by omega
          have hDf := Lib.hid (hno.out (by rw [hrk.out, decide_eq_false hq]; rfl))
          go_wp2
          go_ret
          exact ⟨by rw [hDf.out]; rfl, hbe1⟩
    · obtain rfl : k = n := by omega
      have hyes : Hid (D = decide ((k : Int) ≤ 25)) := by
        have : D = decide ((k : Int) ≤ 25) := by
          have h1 : rs.all rowOk = true := by
            rw [List.all_eq_true]
            intro p hp
            obtain ⟨j, hj⟩ := List.getElem?_of_mem hp
            exact HZ.out j p (by rw [← hn.out]; exact (List.getElem?_eq_some_iff.1 hj).1) hj
          rw [← hD.out]
          unfold crB
          rw [h1, Bool.true_and, hn.out]
          by_cases h : k ≤ 25
          · rw [decide_eq_true h, decide_eq_true (by omega)]
          · rw [decide_eq_false h, decide_eq_false (by omega)]
        exact this
      obtain ⟨T, hT⟩ : ∃ T, decide ((k : Int) ≤ 25) = T := ⟨_, rfl⟩
      have hDT : Hid (D = T) := by
        have : D = T := by rw [hyes.out, hT]
        exact this
      go_wp2
      go_ret
      exact ⟨by rw [hDT.out]; first | done | rfl | simp, hbe⟩
def FoRel (hs : List Hdr) (n : Nat) (w : World) (i : Value) (wr : World) : Prop :=
  ∃ k : Nat, k ≤ n ∧ i = .int .i64 (k : Int) ∧ (∀ j h, j < k → hs[j]? = some h → h.2.1 = colsN hs ∧ h.2.1 ≤ 20) ∧ Below w.heap.size w wr
theorem formed_all {hs : List Hdr} {bl : Nat} (h : ∀ (j : Nat) (x : Hdr), hs[j]? = some x → x.2.1 = colsN hs ∧ x.2.1 ≤ 20) : formedB hs bl = (decide (hs.length ≤ 20) && decide (bl = hs.length)) := by
  have h1 : allB hs (colsN hs) = true := by
    unfold allB
    rw [List.all_eq_true]
    intro x hx
    obtain ⟨j, hj⟩ := List.getElem?_of_mem hx
    exact decide_eq_true (h j x hj).1
  have h2 : colsN hs ≤ 20 := by
    cases hs with
    | nil => exact Nat.zero_le _
    | cons a l => exact (h 0 a rfl).2
  unfold formedB
  rw [h1, decide_eq_true h2, Bool.and_true, Bool.and_true]
theorem formed_not {hs : List Hdr} {bl j : Nat} {x : Hdr} (hx : hs[j]? = some x) (h : x.2.1 ≠ colsN hs ∨ 20 < x.2.1) : formedB hs bl = false := by
  cases hb : formedB hs bl with
  | false => rfl
  | true =>
    unfold formedB at hb
    simp only [Bool.and_eq_true, decide_eq_true_eq] at hb
    obtain ⟨⟨⟨h1, h2⟩, h3⟩, h4⟩ := hb
    unfold allB at h4
    have h5 := List.all_eq_true.1 h4 x (List.mem_of_getElem? hx)
    rw [decide_eq_true_eq] at h5
    omega
set_option maxRecDepth 100000 in
set_option maxHeartbeats 3200000 in
theorem rformed_any (A B : Option Addr) (c bl bc : Nat) (hs : List Hdr) (w : World) (hl : hs.length ≤ 140737488355328) (hbl : bl ≤ 140737488355328) (hS : HdrsAt w A hs) (hsm : ∀ h ∈ hs, h.2.1 ≤ 140737488355328) :
    Calls Tryd.prog 48 #[.slice A hs.length c, .slice B bl bc] w fun e w' => e = .returned (.bool (formedB hs bl)) ∧ Below w.heap.size w w' := by
  obtain ⟨D, hD⟩ : ∃ D, Hid (formedB hs bl = D) := ⟨_, rfl⟩
  rw [hD.out]
  have HSM := Lib.hid hsm
  have HS := Lib.hid hS
  obtain ⟨n, hn⟩ : ∃ n, Hid (hs.length = n) := ⟨_, rfl⟩
  rw [hn.out] at hl ⊢
  have hni : (n : Int) ≤ 140737488355328 := by omega
  clear hS hsm
  go_enter Tryd.func48, Tryd.ntmps48
  go_wp2
  go_loopw [5] (FoRel hs n w) (fun i _ => n - (intOf i).toNat)
  case atStart => exact ⟨0, Nat.zero_le _, rfl, fun j p hj => absurd hj (Nat.not_lt_zero j), Below.refl _ _⟩
  case round =>
    obtain ⟨k, hk, rfl, hz, hbe⟩ := hrel
    have HZ := Lib.hid hz
    clear hz
    by_cases hlt : k < n
    · have hki : (k : Int) < (n : Int) := by omega
      have hk0 : (0 : Int) ≤ (k : Int) := by omega
      have hn0 : (0 : Int) < (n : Int) := by omega
      have hnn : 0 < n := by omega
      obtain ⟨x, hx⟩ : ∃ x, hs[k]? = some x := ⟨_, List.getElem?_eq_getElem (by rw [hn.out]; exact hlt)⟩
      obtain ⟨y, hy⟩ : ∃ x, hs[0]? = some x := ⟨_, List.getElem?_eq_getElem (by rw [hn.out]; omega)⟩
      have hcn : colsN hs = y.2.1 := by
        cases hs with
        | nil => cases hy
        | cons a l => injection hy with hy; rw [← hy]; rfl
      have hxs := HSM.out x (List.mem_of_getElem? hx)
      have hys := HSM.out y (List.mem_of_getElem? hy)
      obtain ⟨ad, hA, hc⟩ := (HS.out.next hbe) k x hx
      obtain ⟨ad2, hA2, hc2⟩ := (HS.out.next hbe) 0 y hy
      have e12 : ad = ad2 := Option.some.inj (hA.symm.trans hA2)
      subst e12
      subst hA
      have hz0 : ad.add 0 = ad := by cases ad; rfl
      rw [hz0] at hc2
      obtain ⟨C, q, f⟩ := x
      obtain ⟨E, r, g⟩ := y
      have hc0 : wr.cell? (ad.add k) = some (.slice C q f) := hc
      have hd0 : wr.cell? ad = some (.slice E r g) := hc2
      dsimp only at hcn hxs hys
      have HX := Lib.hid hx
      have HCN := Lib.hid hcn
      have hnot : Hid (q ≠ r ∨ 20 < q → D = false) := by
        have : q ≠ r ∨ 20 < q → D = false := fun h => by
          rw [← hD.out]
          refine formed_not HX.out ?_
          rw [HCN.out]; exact h
        exact this
      clear hx hy hcn hA2 hc hc2 hz0
      have fin : ∀ b : Bool, Hid ((q ≠ r ∨ 20 < q) ↔ b = true) → True := fun _ _ => trivial
      clear fin
      go_wp2
      have hdd := below_drew wr
      have HC := Lib.hid (fun w' (h : Below wr.heap.size wr w') => (⟨cellq_below h hc0, cellq_below h hd0⟩ : w'.cell? (ad.add k) = some (.slice C q f) ∧ w'.cell? ad = some (.slice E r g)))
      by_cases hqr : q = r
      · subst hqr
        have hqb : ((q : Int) != (q : Int)) = false := by simp
        by_cases h20 : q ≤ 20
        · have h20b : decide (20 < (q : Int)) = false := decide_eq_false (by omega)
          have h20c : ¬ (20 : Int) < (q : Int) := by omega
          refine wp_region_held_drew (S := fun w' => w'.cell? (ad.add k) = some (.slice C q f) ∧ w'.cell? ad = some (.slice E q g)) (by kernel_rfl) (HC.out _ hdd) (fun hHeld => ?_)
          generalize wr.drew = wd at hdd hHeld ⊢
          refine wpAnyH_take (i := 0) (v := ?vv0) rfl (by kernel_rfl) (by kernel_rfl) (by kernel_rfl) (fun _ _ _ h => h) (Or.inl ⟨by rfl, ?yv0⟩) (by assumption) ?rv0
          case yv0 => intro w hSw; (try dsimp only at hSw); go_simp <;> (try with_reducible rfl)
          (try simp only [List.getElem_toArray, List.getElem_cons_zero, Act.put, List.setIfInBounds_toArray, List.set_cons_zero, List.set_cons_succ])
          refine wpAnyH_take (i := 1) (v := ?vv1) rfl (by kernel_rfl) (by kernel_rfl) (by kernel_rfl) (fun _ _ _ h => h) (Or.inl ⟨by rfl, ?yv1⟩) (by assumption) ?rv1
          case yv1 => intro w hSw; (try dsimp only at hSw); go_simp <;> (try with_reducible rfl)
          (try simp only [List.getElem_toArray, List.getElem_cons_succ, List.getElem_cons_zero, Act.put, List.setIfInBounds_toArray, List.set_cons_zero, List.set_cons_succ])
          refine wpAnyH_take (i := 2) (v := ?vv2) rfl (by kernel_rfl) (by kernel_rfl) (by kernel_rfl) (fun _ _ _ h => h) (Or.inl ⟨by rfl, ?yv2⟩) (by assumption) ?rv2
          case yv2 => intro w hSw; (try dsimp only at hSw); go_simp <;> (try with_reducible rfl)
          (try simp only [List.getElem_toArray, List.getElem_cons_succ, List.getElem_cons_zero, Act.put, List.setIfInBounds_toArray, List.set_cons_zero, List.set_cons_succ])
          refine wpAnyH_take (i := 3) (v := ?vv3) rfl (by kernel_rfl) (by kernel_rfl) (by kernel_rfl) (fun _ _ _ h => h) (Or.inl ⟨by rfl, ?yv3⟩) (by assumption) ?rv3
          case yv3 => intro w hSw; (try dsimp only at hSw); go_simp <;> (try with_reducible rfl)
          (try simp only [List.getElem_toArray, List.getElem_cons_succ, List.getElem_cons_zero, Act.put, List.setIfInBounds_toArray, List.set_cons_zero, List.set_cons_succ])
          refine wpAnyH_take (i := 4) (v := ?vv4) rfl (by kernel_rfl) (by kernel_rfl) (by kernel_rfl) (fun _ _ _ h => h) (Or.inl ⟨by rfl, ?yv4⟩) (by assumption) ?rv4
          case yv4 => intro w hSw; (try dsimp only at hSw); go_simp <;> (try with_reducible rfl)
          (try simp only [List.getElem_toArray, List.getElem_cons_succ, List.getElem_cons_zero, Act.put, List.setIfInBounds_toArray, List.set_cons_zero, List.set_cons_succ])
          refine wpAnyH_take (i := 5) (v := ?vv5) rfl (by kernel_rfl) (by kernel_rfl) (by kernel_rfl) (fun _ _ _ h => h) (Or.inl ⟨by rfl, ?yv5⟩) (by assumption) ?rv5
          case yv5 => intro w hSw; (try dsimp only at hSw); go_simp <;> (try with_reducible rfl)
          (try simp only [List.getElem_toArray, List.getElem_cons_succ, List.getElem_cons_zero, Act.put, List.setIfInBounds_toArray, List.set_cons_zero, List.set_cons_succ])
          refine wpAnyH_take (i := 6) (v := ?vv6) rfl (by kernel_rfl) (by kernel_rfl) (by kernel_rfl) (fun _ _ _ h => h) (Or.inl ⟨by rfl, ?yv6⟩) (by assumption) ?rv6
          case yv6 => intro w hSw; (try dsimp only at hSw); go_simp <;> (try with_reducible rfl)
          (try simp only [List.getElem_toArray, List.getElem_cons_succ, List.getElem_cons_zero, Act.put, List.setIfInBounds_toArray, List.set_cons_zero, List.set_cons_succ])
          refine wpAnyH_take (i := 7) (v := ?vv7) rfl (by kernel_rfl) (by kernel_rfl) (by kernel_rfl) (fun _ _ _ h => h) (Or.inl ⟨by rfl, ?yv7⟩) (by assumption) ?rv7
          case yv7 => intro w hSw; (try dsimp only at hSw); go_simp <;> (try with_reducible rfl)
          (try simp only [List.getElem_toArray, List.getElem_cons_succ, List.getElem_cons_zero, Act.put, List.setIfInBounds_toArray, List.set_cons_zero, List.set_cons_succ])
          refine wpAnyH_take (i := 8) (v := ?vv8) rfl (by kernel_rfl) (by kernel_rfl) (by kernel_rfl) (fun _ _ _ h => h) (Or.inl ⟨by rfl, ?yv8⟩) (by assumption) ?rv8
          case yv8 => intro w hSw; (try dsimp only at hSw); go_simp <;> (try with_reducible rfl)
          (try simp only [List.getElem_toArray, List.getElem_cons_succ, List.getElem_cons_zero, Act.put, List.setIfInBounds_toArray, List.set_cons_zero, List.set_cons_succ])
          refine wpAnyH_take (i := 9) (v := ?vv9) rfl (by kernel_rfl) (by kernel_rfl) (by kernel_rfl) (fun _ _ _ h => h) (Or.inl ⟨by rfl, ?yv9⟩) (by assumption) ?rv9
          case yv9 => intro w hSw; (try dsimp only at hSw); go_simp <;> (try with_reducible rfl)
          (try simp only [List.getElem_toArray, List.getElem_cons_succ, List.getElem_cons_zero, Act.put, List.setIfInBounds_toArray, List.set_cons_zero, List.set_cons_succ])
          refine wpAnyH_take (i := 10) (v := ?vv10) rfl (by kernel_rfl) (by kernel_rfl) (by kernel_rfl) (fun _ _ _ h => h) (Or.inl ⟨by rfl, ?yv10⟩) (by assumption) ?rv10
          case yv10 => intro w hSw; (try dsimp only at hSw); go_simp <;> (try with_reducible rfl)
          (try simp only [List.getElem_toArray, List.getElem_cons_succ, List.getElem_cons_zero, Act.put, List.setIfInBounds_toArray, List.set_cons_zero, List.set_cons_succ])
          refine wpAnyH_take (i := 11) (v := ?vv11) rfl (by kernel_rfl) (by kernel_rfl) (by kernel_rfl) (fun _ _ _ h => h) (Or.inl ⟨by rfl, ?yv11⟩) (by assumption) ?rv11
          case yv11 => intro w hSw; (try dsimp only at hSw); go_simp <;> (try with_reducible rfl)
          (try simp only [List.getElem_toArray, List.getElem_cons_succ, List.getElem_cons_zero, Act.put, List.setIfInBounds_toArray, List.set_cons_zero, List.set_cons_succ])
          refine wpAnyH_take (i := 12) (v := ?vv12) rfl (by kernel_rfl) (by kernel_rfl) (by kernel_rfl) (fun _ _ _ h => h) (Or.inl ⟨by rfl, ?yv12⟩) (by assumption) ?rv12
          case yv12 => intro w hSw; (try dsimp only at hSw); go_simp <;> (try with_reducible rfl)
          (try simp only [List.getElem_toArray, List.getElem_cons_succ, List.getElem_cons_zero, Act.put, List.setIfInBounds_toArray, List.set_cons_zero, List.set_cons_succ])
          refine wpAnyH_take (i := 13) (v := ?vv13) rfl (by kernel_rfl) (by kernel_rfl) (by kernel_rfl) (fun _ _ _ h => h) (Or.inl ⟨by rfl, ?yv13⟩) (by assumption) ?rv13
          case yv13 => intro w hSw; (try dsimp only at hSw); go_simp <;> (try with_reducible rfl)
          (try simp only [List.getElem_toArray, List.getElem_cons_succ, List.getElem_cons_zero, Act.put, List.setIfInBounds_toArray, List.set_cons_zero, List.set_cons_succ])
          refine wpAnyH_take (i := 14) (v := ?vv14) rfl (by kernel_rfl) (by kernel_rfl) (by kernel_rfl) (fun _ _ _ h => h) (Or.inl ⟨by rfl, ?yv14⟩) (by assumption) ?rv14
          case yv14 => intro w hSw; (try dsimp only at hSw); go_simp <;> (try with_reducible rfl)
          (try simp only [List.getElem_toArray, List.getElem_cons_succ, List.getElem_cons_zero, Act.put, List.setIfInBounds_toArray, List.set_cons_zero, List.set_cons_succ])
          refine wpAnyH_take (i := 15) (v := ?vv15) rfl (by kernel_rfl) (by kernel_rfl) (by kernel_rfl) (fun _ _ _ h => h) (Or.inl ⟨by rfl, ?yv15⟩) (by assumption) ?rv15
          case yv15 => intro w hSw; (try dsimp only at hSw); go_simp <;> (try with_reducible rfl)
          (try simp only [List.getElem_toArray, List.getElem_cons_succ, List.getElem_cons_zero, Act.put, List.setIfInBounds_toArray, List.set_cons_zero, List.set_cons_succ])
          refine wpAnyH_take (i := 16) (v := ?vv16) rfl (by kernel_rfl) (by kernel_rfl) (by kernel_rfl) (fun _ _ _ h => h) (Or.inl ⟨by rfl, ?yv16⟩) (by assumption) ?rv16
          case yv16 => intro w hSw; (try dsimp only at hSw); go_simp <;> (try with_reducible rfl)
          (try simp only [List.getElem_toArray, List.getElem_cons_succ, List.getElem_cons_zero, Act.put, List.setIfInBounds_toArray, List.set_cons_zero, List.set_cons_succ])
          refine wpAnyH_take (i := 17) (v := ?vv17) rfl (by kernel_rfl) (by kernel_rfl) (by kernel_rfl) (fun _ _ _ h => h) (Or.inl ⟨by rfl, ?yv17⟩) (by assumption) ?rv17
          case yv17 => intro w hSw; (try dsimp only at hSw); go_simp <;> (try with_reducible rfl)
          (try simp only [List.getElem_toArray, List.getElem_cons_succ, List.getElem_cons_zero, Act.put, List.setIfInBounds_toArray, List.set_cons_zero, List.set_cons_succ])
          refine wpAnyH_done (by kernel_rfl) ?_ _
          have hbe2 := hbe.trans (hdd.mono hbe.size)
          clear hHeld hbe hdd hc0 hd0
          go_wp2
          go_roundw
          case rel => exact ⟨k + 1, by omega, by go_num, fun j a hj ha => by
            by_cases e : j = k
            · rw [e, HX.out] at ha
              injection ha with ha
              rw [← ha]; exact ⟨HCN.out.symm, h20⟩
            · exact HZ.out j a (by omega) ha, hbe2⟩
          case measure => simp [intOf]; omega
        · have h20b : decide (20 < (q : Int)) = true := decide_eq_true (by omega)
          have h20c : (20 : Int) < (q : Int) := by omega
          have hDf := Lib.hid (hnot.out (.inr (by omega)))
          refine wp_region_held_drew (S := fun w' => w'.cell? (ad.add k) = some (.slice C q f) ∧ w'.cell? ad = some (.slice E q g)) (by kernel_rfl) (HC.out _ hdd) (fun hHeld => ?_)
          generalize wr.drew = wd at hdd hHeld ⊢
          refine wpAnyH_take (i := 0) (v := ?vu0) rfl (by kernel_rfl) (by kernel_rfl) (by kernel_rfl) (fun _ _ _ h => h) (Or.inl ⟨by rfl, ?yu0⟩) (by assumption) ?ru0
          case yu0 => intro w hSw; (try dsimp only at hSw); go_simp <;> (try with_reducible rfl)
          (try simp only [List.getElem_toArray, List.getElem_cons_zero, Act.put, List.setIfInBounds_toArray, List.set_cons_zero, List.set_cons_succ])
          refine wpAnyH_take (i := 1) (v := ?vu1) rfl (by kernel_rfl) (by kernel_rfl) (by kernel_rfl) (fun _ _ _ h => h) (Or.inl ⟨by rfl, ?yu1⟩) (by assumption) ?ru1
          case yu1 => intro w hSw; (try dsimp only at hSw); go_simp <;> (try with_reducible rfl)
          (try simp only [List.getElem_toArray, List.getElem_cons_succ, List.getElem_cons_zero, Act.put, List.setIfInBounds_toArray, List.set_cons_zero, List.set_cons_succ])
          refine wpAnyH_take (i := 2) (v := ?vu2) rfl (by kernel_rfl) (by kernel_rfl) (by kernel_rfl) (fun _ _ _ h => h) (Or.inl ⟨by rfl, ?yu2⟩) (by assumption) ?ru2
          case yu2 => intro w hSw; (try dsimp only at hSw); go_simp <;> (try with_reducible rfl)
          (try simp only [List.getElem_toArray, List.getElem_cons_succ, List.getElem_cons_zero, Act.put, List.setIfInBounds_toArray, List.set_cons_zero, List.set_cons_succ])
          refine wpAnyH_take (i := 3) (v := ?vu3) rfl (by kernel_rfl) (by kernel_rfl) (by kernel_rfl) (fun _ _ _ h => h) (Or.inl ⟨by rfl, ?yu3⟩) (by assumption) ?ru3
          case yu3 => intro w hSw; (try dsimp only at hSw); go_simp <;> (try with_reducible rfl)
          (try simp only [List.getElem_toArray, List.getElem_cons_succ, List.getElem_cons_zero, Act.put, List.setIfInBounds_toArray, List.set_cons_zero, List.set_cons_succ])
          refine wpAnyH_take (i := 4) (v := ?vu4) rfl (by kernel_rfl) (by kernel_rfl) (by kernel_rfl) (fun _ _ _ h => h) (Or.inl ⟨by rfl, ?yu4⟩) (by assumption) ?ru4
          case yu4 => intro w hSw; (try dsimp only at hSw); go_simp <;> (try with_reducible rfl)
          (try simp only [List.getElem_toArray, List.getElem_cons_succ, List.getElem_cons_zero, Act.put, List.setIfInBounds_toArray, List.set_cons_zero, List.set_cons_succ])
          refine wpAnyH_take (i := 5) (v := ?vu5) rfl (by kernel_rfl) (by kernel_rfl) (by kernel_rfl) (fun _ _ _ h => h) (Or.inl ⟨by rfl, ?yu5⟩) (by assumption) ?ru5
          case yu5 => intro w hSw; (try dsimp only at hSw); go_simp <;> (try with_reducible rfl)
          (try simp only [List.getElem_toArray, List.getElem_cons_succ, List.getElem_cons_zero, Act.put, List.setIfInBounds_toArray, List.set_cons_zero, List.set_cons_succ])
          refine wpAnyH_take (i := 6) (v := ?vu6) rfl (by kernel_rfl) (by kernel_rfl) (by kernel_rfl) (fun _ _ _ h => h) (Or.inl ⟨by rfl, ?yu6⟩) (by assumption) ?ru6
          case yu6 => intro w hSw; (try dsimp only at hSw); go_simp <;> (try with_reducible rfl)
          (try simp only [List.getElem_toArray, List.getElem_cons_succ, List.getElem_cons_zero, Act.put, List.setIfInBounds_toArray, List.set_cons_zero, List.set_cons_succ])
          refine wpAnyH_take (i := 7) (v := ?vu7) rfl (by kernel_rfl) (by kernel_rfl) (by kernel_rfl) (fun _ _ _ h => h) (Or.inl ⟨by rfl, ?yu7⟩) (by assumption) ?ru7
          case yu7 => intro w hSw; (try dsimp only at hSw); go_simp <;> (try with_reducible rfl)
          (try simp only [List.getElem_toArray, List.getElem_cons_succ, List.getElem_cons_zero, Act.put, List.setIfInBounds_toArray, List.set_cons_zero, List.set_cons_succ])
          refine wpAnyH_take (i := 8) (v := ?vu8) rfl (by kernel_rfl) (by kernel_rfl) (by kernel_rfl) (fun _ _ _ h => h) (Or.inl ⟨by rfl, ?yu8⟩) (by assumption) ?ru8
          case yu8 => intro w hSw; (try dsimp only at hSw); go_simp <;> (try with_reducible rfl)
          (try simp only [List.getElem_toArray, List.getElem_cons_succ, List.getElem_cons_zero, Act.put, List.setIfInBounds_toArray, List.set_cons_zero, List.set_cons_succ])
          refine wpAnyH_take (i := 9) (v := ?vu9) rfl (by kernel_rfl) (by kernel_rfl) (by kernel_rfl) (fun _ _ _ h => h) (Or.inl ⟨by rfl, ?yu9⟩) (by assumption) ?ru9
          case yu9 => intro w hSw; (try dsimp only at hSw); go_simp <;> (try with_reducible rfl)
          (try simp only [List.getElem_toArray, List.getElem_cons_succ, List.getElem_cons_zero, Act.put, List.setIfInBounds_toArray, List.set_cons_zero, List.set_cons_succ])
          refine wpAnyH_take (i := 10) (v := ?vu10) rfl (by kernel_rfl) (by kernel_rfl) (by kernel_rfl) (fun _ _ _ h => h) (Or.inl ⟨by rfl, ?yu10⟩) (by assumption) ?ru10
          case yu10 => intro w hSw; (try dsimp only at hSw); go_simp <;> (try with_reducible rfl)
          (try simp only [List.getElem_toArray, List.getElem_cons_succ, List.getElem_cons_zero, Act.put, List.setIfInBounds_toArray, List.set_cons_zero, List.set_cons_succ])
          refine wpAnyH_take (i := 11) (v := ?vu11) rfl (by kernel_rfl) (by kernel_rfl) (by kernel_rfl) (fun _ _ _ h => h) (Or.inl ⟨by rfl, ?yu11⟩) (by assumption) ?ru11
          case yu11 => intro w hSw; (try dsimp only at hSw); go_simp <;> (try with_reducible rfl)
          (try simp only [List.getElem_toArray, List.getElem_cons_succ, List.getElem_cons_zero, Act.put, List.setIfInBounds_toArray, List.set_cons_zero, List.set_cons_succ])
          refine wpAnyH_take (i := 12) (v := ?vu12) rfl (by kernel_rfl) (by kernel_rfl) (by kernel_rfl) (fun _ _ _ h => h) (Or.inl ⟨by rfl, ?yu12⟩) (by assumption) ?ru12
          case yu12 => intro w hSw; (try dsimp only at hSw); go_simp <;> (try with_reducible rfl)
          (try simp only [List.getElem_toArray, List.getElem_cons_succ, List.getElem_cons_zero, Act.put, List.setIfInBounds_toArray, List.set_cons_zero, List.set_cons_succ])
          refine wpAnyH_take (i := 13) (v := ?vu13) rfl (by kernel_rfl) (by kernel_rfl) (by kernel_rfl) (fun _ _ _ h => h) (Or.inl ⟨by rfl, ?yu13⟩) (by assumption) ?ru13
          case yu13 => intro w hSw; (try dsimp only at hSw); go_simp <;> (try with_reducible rfl)
          (try simp only [List.getElem_toArray, List.getElem_cons_succ, List.getElem_cons_zero, Act.put, List.setIfInBounds_toArray, List.set_cons_zero, List.set_cons_succ])
          refine wpAnyH_take (i := 14) (v := ?vu14) rfl (by kernel_rfl) (by kernel_rfl) (by kernel_rfl) (fun _ _ _ h => h) (Or.inl ⟨by rfl, ?yu14⟩) (by assumption) ?ru14
          case yu14 => intro w hSw; (try dsimp only at hSw); go_simp <;> (try with_reducible rfl)
          (try simp only [List.getElem_toArray, List.getElem_cons_succ, List.getElem_cons_zero, Act.put, List.setIfInBounds_toArray, List.set_cons_zero, List.set_cons_succ])
          refine wpAnyH_take (i := 15) (v := ?vu15) rfl (by kernel_rfl) (by kernel_rfl) (by kernel_rfl) (fun _ _ _ h => h) (Or.inl ⟨by rfl, ?yu15⟩) (by assumption) ?ru15
          case yu15 => intro w hSw; (try dsimp only at hSw); go_simp <;> (try with_reducible rfl)
          (try simp only [List.getElem_toArray, List.getElem_cons_succ, List.getElem_cons_zero, Act.put, List.setIfInBounds_toArray, List.set_cons_zero, List.set_cons_succ])
          refine wpAnyH_take (i := 16) (v := ?vu16) rfl (by kernel_rfl) (by kernel_rfl) (by kernel_rfl) (fun _ _ _ h => h) (Or.inl ⟨by rfl, ?yu16⟩) (by assumption) ?ru16
          case yu16 => intro w hSw; (try dsimp only at hSw); go_simp <;> (try with_reducible rfl)
          (try simp only [List.getElem_toArray, List.getElem_cons_succ, List.getElem_cons_zero, Act.put, List.setIfInBounds_toArray, List.set_cons_zero, List.set_cons_succ])
          refine wpAnyH_take (i := 17) (v := ?vu17) rfl (by kernel_rfl) (by kernel_rfl) (by kernel_rfl) (fun _ _ _ h => h) (Or.inl ⟨by rfl, ?yu17⟩) (by assumption) ?ru17
          case yu17 => intro w hSw; (try dsimp only at hSw); go_simp <;> (try with_reducible rfl)
          (try simp only [List.getElem_toArray, List.getElem_cons_succ, List.getElem_cons_zero, Act.put, List.setIfInBounds_toArray, List.set_cons_zero, List.set_cons_succ])
          refine wpAnyH_done (by kernel_rfl) ?_ _
          have hbe2 := hbe.trans (hdd.mono hbe.size)
          clear hHeld hbe hdd hc0 hd0
          go_wp2
          go_ret
          exact ⟨by rw [hDf.out]; rfl, hbe2⟩
      · have hqb : ((q : Int) != (r : Int)) = true := bne_iff_ne.2 (by omega)
        have hDf := Lib.hid (hnot.out (.inl hqr))
        refine wp_region_held_drew (S := fun w' => w'.cell? (ad.add k) = some (.slice C q f) ∧ w'.cell? ad = some (.slice E r g)) (by kernel_rfl) (HC.out _ hdd) (fun hHeld => ?_)
        generalize wr.drew = wd at hdd hHeld ⊢
        refine wpAnyH_take (i := 0) (v := ?vt0) rfl (by kernel_rfl) (by kernel_rfl) (by kernel_rfl) (fun _ _ _ h => h) (Or.inl ⟨by rfl, ?yt0⟩) (by assumption) ?rt0
        case yt0 => intro w hSw; (try dsimp only at hSw); go_simp <;> (try with_reducible rfl)
        (try simp only [List.getElem_toArray, List.getElem_cons_zero, Act.put, List.setIfInBounds_toArray, List.set_cons_zero, List.set_cons_succ])
        refine wpAnyH_take (i := 1) (v := ?vt1) rfl (by kernel_rfl) (by kernel_rfl) (by kernel_rfl) (fun _ _ _ h => h) (Or.inl ⟨by rfl, ?yt1⟩) (by assumption) ?rt1
        case yt1 => intro w hSw; (try dsimp only at hSw); go_simp <;> (try with_reducible rfl)
        (try simp only [List.getElem_toArray, List.getElem_cons_succ, List.getElem_cons_zero, Act.put, List.setIfInBounds_toArray, List.set_cons_zero, List.set_cons_succ])
        refine wpAnyH_take (i := 2) (v := ?vt2) rfl (by kernel_rfl) (by kernel_rfl) (by kernel_rfl) (fun _ _ _ h => h) (Or.inl ⟨by rfl, ?yt2⟩) (by assumption) ?rt2
        case yt2 => intro w hSw; (try dsimp only at hSw); go_simp <;> (try with_reducible rfl)
        (try simp only [List.getElem_toArray, List.getElem_cons_succ, List.getElem_cons_zero, Act.put, List.setIfInBounds_toArray, List.set_cons_zero, List.set_cons_succ])
        refine wpAnyH_take (i := 3) (v := ?vt3) rfl (by kernel_rfl) (by kernel_rfl) (by kernel_rfl) (fun _ _ _ h => h) (Or.inl ⟨by rfl, ?yt3⟩) (by assumption) ?rt3
        case yt3 => intro w hSw; (try dsimp only at hSw); go_simp <;> (try with_reducible rfl)
        (try simp only [List.getElem_toArray, List.getElem_cons_succ, List.getElem_cons_zero, Act.put, List.setIfInBounds_toArray, List.set_cons_zero, List.set_cons_succ])
        refine wpAnyH_take (i := 4) (v := ?vt4) rfl (by kernel_rfl) (by kernel_rfl) (by kernel_rfl) (fun _ _ _ h => h) (Or.inl ⟨by rfl, ?yt4⟩) (by assumption) ?rt4
        case yt4 => intro w hSw; (try dsimp only at hSw); go_simp <;> (try with_reducible rfl)
        (try simp only [List.getElem_toArray, List.getElem_cons_succ, List.getElem_cons_zero, Act.put, List.setIfInBounds_toArray, List.set_cons_zero, List.set_cons_succ])
        refine wpAnyH_take (i := 5) (v := ?vt5) rfl (by kernel_rfl) (by kernel_rfl) (by kernel_rfl) (fun _ _ _ h => h) (Or.inl ⟨by rfl, ?yt5⟩) (by assumption) ?rt5
        case yt5 => intro w hSw; (try dsimp only at hSw); go_simp <;> (try with_reducible rfl)
        (try simp only [List.getElem_toArray, List.getElem_cons_succ, List.getElem_cons_zero, Act.put, List.setIfInBounds_toArray, List.set_cons_zero, List.set_cons_succ])
        refine wpAnyH_take (i := 6) (v := ?vt6) rfl (by kernel_rfl) (by kernel_rfl) (by kernel_rfl) (fun _ _ _ h => h) (Or.inl ⟨by rfl, ?yt6⟩) (by assumption) ?rt6
        case yt6 => intro w hSw; (try dsimp only at hSw); go_simp <;> (try with_reducible rfl)
        (try simp only [List.getElem_toArray, List.getElem_cons_succ, List.getElem_cons_zero, Act.put, List.setIfInBounds_toArray, List.set_cons_zero, List.set_cons_succ])
        refine wpAnyH_take (i := 7) (v := ?vt7) rfl (by kernel_rfl) (by kernel_rfl) (by kernel_rfl) (fun _ _ _ h => h) (Or.inl ⟨by rfl, ?yt7⟩) (by assumption) ?rt7
        case yt7 => intro w hSw; (try dsimp only at hSw); go_simp <;> (try with_reducible rfl)
        (try simp only [List.getElem_toArray, List.getElem_cons_succ, List.getElem_cons_zero, Act.put, List.setIfInBounds_toArray, List.set_cons_zero, List.set_cons_succ])
        refine wpAnyH_take (i := 8) (v := ?vt8) rfl (by kernel_rfl) (by kernel_rfl) (by kernel_rfl) (fun _ _ _ h => h) (Or.inl ⟨by rfl, ?yt8⟩) (by assumption) ?rt8
        case yt8 => intro w hSw; (try dsimp only at hSw); go_simp <;> (try with_reducible rfl)
        (try simp only [List.getElem_toArray, List.getElem_cons_succ, List.getElem_cons_zero, Act.put, List.setIfInBounds_toArray, List.set_cons_zero, List.set_cons_succ])
        refine wpAnyH_take (i := 9) (v := ?vt9) rfl (by kernel_rfl) (by kernel_rfl) (by kernel_rfl) (fun _ _ _ h => h) (Or.inl ⟨by rfl, ?yt9⟩) (by assumption) ?rt9
        case yt9 => intro w hSw; (try dsimp only at hSw); go_simp <;> (try with_reducible rfl)
        (try simp only [List.getElem_toArray, List.getElem_cons_succ, List.getElem_cons_zero, Act.put, List.setIfInBounds_toArray, List.set_cons_zero, List.set_cons_succ])
        refine wpAnyH_take (i := 10) (v := ?vt10) rfl (by kernel_rfl) (by kernel_rfl) (by kernel_rfl) (fun _ _ _ h => h) (Or.inl ⟨by rfl, ?yt10⟩) (by assumption) ?rt10
        case yt10 => intro w hSw; (try dsimp only at hSw); go_simp <;> (try with_reducible rfl)
        (try simp only [List.getElem_toArray, List.getElem_cons_succ, List.getElem_cons_zero, Act.put, List.setIfInBounds_toArray, List.set_cons_zero, List.set_cons_succ])
        refine wpAnyH_take (i := 11) (v := undef) rfl (by kernel_rfl) (by kernel_rfl) (by kernel_rfl) (fun _ _ _ h => h) (Or.inr ⟨by rfl, rfl⟩) (by assumption) ?rt11
        (try simp only [List.getElem_toArray, List.getElem_cons_succ, List.getElem_cons_zero, Act.put, List.setIfInBounds_toArray, List.set_cons_zero, List.set_cons_succ])
        refine wpAnyH_take (i := 12) (v := undef) rfl (by kernel_rfl) (by kernel_rfl) (by kernel_rfl) (fun _ _ _ h => h) (Or.inr ⟨by rfl, rfl⟩) (by assumption) ?rt12
        (try simp only [List.getElem_toArray, List.getElem_cons_succ, List.getElem_cons_zero, Act.put, List.setIfInBounds_toArray, List.set_cons_zero, List.set_cons_succ])
        refine wpAnyH_take (i := 13) (v := undef) rfl (by kernel_rfl) (by kernel_rfl) (by kernel_rfl) (fun _ _ _ h => h) (Or.inr ⟨by rfl, rfl⟩) (by assumption) ?rt13
        (try simp only [List.getElem_toArray, List.getElem_cons_succ, List.getElem_cons_zero, Act.put, List.setIfInBounds_toArray, List.set_cons_zero, List.set_cons_succ])
        refine wpAnyH_take (i := 14) (v := undef) rfl (by kernel_rfl) (by kernel_rfl) (by kernel_rfl) (fun _ _ _ h => h) (Or.inr ⟨by rfl, rfl⟩) (by assumption) ?rt14
        (try simp only [List.getElem_toArray, List.getElem_cons_succ, List.getElem_cons_zero, Act.put, List.setIfInBounds_toArray, List.set_cons_zero, List.set_cons_succ])
        refine wpAnyH_take (i := 15) (v := undef) rfl (by kernel_rfl) (by kernel_rfl) (by kernel_rfl) (fun _ _ _ h => h) (Or.inr ⟨by rfl, rfl⟩) (by assumption) ?rt15
        (try simp only [List.getElem_toArray, List.getElem_cons_succ, List.getElem_cons_zero, Act.put, List.setIfInBounds_toArray, List.set_cons_zero, List.set_cons_succ])
        refine wpAnyH_take (i := 16) (v := undef) rfl (by kernel_rfl) (by kernel_rfl) (by kernel_rfl) (fun _ _ _ h => h) (Or.inr ⟨by rfl, rfl⟩) (by assumption) ?rt16
        (try simp only [List.getElem_toArray, List.getElem_cons_succ, List.getElem_cons_zero, Act.put, List.setIfInBounds_toArray, List.set_cons_zero, List.set_cons_succ])
        refine wpAnyH_take (i := 17) (v := ?vs17) rfl (by kernel_rfl) (by kernel_rfl) (by kernel_rfl) (fun _ _ _ h => h) (Or.inl ⟨by rfl, ?ys17⟩) (by assumption) ?rs17
        case ys17 => intro w hSw; (try dsimp only at hSw); go_simp <;> (try with_reducible rfl)
        (try simp only [List.getElem_toArray, List.getElem_cons_succ, List.getElem_cons_zero, Act.put, List.setIfInBounds_toArray, List.set_cons_zero, List.set_cons_succ])
        refine wpAnyH_done (by kernel_rfl) ?_ _
        have hbe2 := hbe.trans (hdd.mono hbe.size)
        clear hHeld hbe hdd hc0 hd0
        go_wp2
        go_ret
        exact ⟨by rw [hDf.out]; rfl, hbe2⟩
    · obtain rfl : k = n := by omega
      have hfa : formedB hs bl = (decide (hs.length ≤ 20) && decide (bl = hs.length)) := formed_all fun j x hx => HZ.out j x (by rw [← hn.out]; exact (List.getElem?_eq_some_iff.1 hx).1) hx
      by_cases h1 : k ≤ 20
      · have h1b : decide ((k : Int) ≤ 20) = true := decide_eq_true (by omega)
        have h1c : (k : Int) ≤ 20 := by omega
        by_cases h2 : bl = k
        · have h2b : ((bl : Int) == (k : Int)) = true := beq_iff_eq.2 (by omega)
          have hDf : Hid (D = true) := by
            have : D = true := by rw [← hD.out, hfa, hn.out, decide_eq_true h1, decide_eq_true h2]; rfl
            exact this
          clear hfa h2
          go_wp2
          go_ret
          exact ⟨by rw [hDf.out]; rfl, hbe⟩
        · have h2b : ((bl : Int) == (k : Int)) = false := beq_eq_false_iff_ne.2 (by omega)
          have hDf : Hid (D = false) := by
            have : D = false := by rw [← hD.out, hfa, hn.out, decide_eq_false h2, Bool.and_false]
            exact this
          clear hfa
          go_wp2
          go_ret
          exact ⟨by rw [hDf.out]; rfl, hbe⟩
      · have h1b : decide ((k : Int) ≤ 20) = false := decide_eq_false (by omega)
        have h1c : ¬ (k : Int) ≤ 20 := by omega
        have hDf : Hid (D = false) := by
          have : D = false := by rw [← hD.out, hfa, hn.out, decide_eq_false h1]; rfl
          exact this
        clear hfa
        go_wp2
        go_ret
        exact ⟨by rw [hDf.out]; rfl, hbe⟩
end Go.Proofs.YthjaelopmfjfeaaDoor
