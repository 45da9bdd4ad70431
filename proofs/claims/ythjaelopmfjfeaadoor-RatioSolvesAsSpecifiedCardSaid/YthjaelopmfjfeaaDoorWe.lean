/-
  Contracts of the walks over columns and formed. Conditions: the slices of the rows lie there.
-/
import Derived.Test.YthjaelopmfjfeaaDoorWd
namespace Go.Proofs.YthjaelopmfjfeaaDoor
set_option linter.unusedVariables false
set_option linter.unusedSimpArgs false
open Go.RowKit

/-- A row as it is held: where, how long, how much room. -/
abbrev Hdr := Option Addr × Nat × Nat
def hdrV (h : Hdr) : Value := .slice h.1 h.2.1 h.2.2
def HdrsAt (w : World) (A : Option Addr) (hs : List Hdr) : Prop := ∀ k h, hs[k]? = some h → ∃ ad, A = some ad ∧ w.cell? (ad.add k) = some (hdrV h)
theorem HdrsAt.next {w w' : World} {A : Option Addr} {hs : List Hdr} (h : HdrsAt w A hs) (hb : Below w.heap.size w w') : HdrsAt w' A hs := fun k x hx => by
  obtain ⟨ad, e, hc⟩ := h k x hx
  exact ⟨ad, e, cellq_below hb hc⟩
theorem Tryd.zeroIn : (Tryd.prog.info? 3).map (·.zero) = some (some (.int .i64 0)) := by kernel_rfl
def colsN (hs : List Hdr) : Nat := match hs with
  | [] => 0
  | h :: _ => h.2.1
def allB (hs : List Hdr) (m : Nat) : Bool := hs.all fun h => decide (h.2.1 = m)
/-- Whether a system is formed, by the lengths of its rows and of its list. -/
def formedB (hs : List Hdr) (bl : Nat) : Bool := decide (hs.length ≤ 20) && decide (colsN hs ≤ 20) && decide (bl = hs.length) && allB hs (colsN hs)
set_option maxRecDepth 100000 in
set_option maxHeartbeats 1600000 in
theorem columns_any (A : Option Addr) (c : Nat) (hs : List Hdr) (w : World) (hS : HdrsAt w A hs) :
    Calls Tryd.prog 59 #[.slice A hs.length c] w fun e w' => e = .returned (.int .i64 (colsN hs : Int)) ∧ w = w' := by
  cases hs with
  | nil =>
    go_enter Tryd.func59, Tryd.ntmps59
    go_wp2
    go_ret
    exact ⟨rfl, rfl⟩
  | cons h hs =>
    obtain ⟨ad, rfl, hc⟩ := hS 0 h rfl
    obtain ⟨B, n, d⟩ := h
    have hc0 : w.cell? (ad.add 0) = some (.slice B n d) := hc
    have hcz : w.cell? ad = some (.slice B n d) := by
      have e : ad.add 0 = ad := by cases ad; rfl
      rw [e] at hc0; exact hc0
    have hl : (h0 : Nat) → (h0 = ((B, n, d) :: hs : List Hdr).length) → (h0 == 0) = false ∧ ((h0 : Int) == 0) = false ∧ (0 : Int) < (h0 : Int) := fun h0 e => by
      rw [List.length_cons] at e
      refine ⟨by rw [beq_eq_false_iff_ne]; omega, by rw [beq_eq_false_iff_ne]; omega, by omega⟩
    obtain ⟨m, hm⟩ : ∃ m, ((B, n, d) :: hs : List Hdr).length = m := ⟨_, rfl⟩
    obtain ⟨q1, q2, q3⟩ := hl m hm.symm
    have hcn : colsN ((B, n, d) :: hs) = n := rfl
    rw [hm, hcn]
    clear hl hm hS hc hcn
    go_enter Tryd.func59, Tryd.ntmps59
    go_wp2
    go_ret
    exact ⟨rfl, rfl⟩
set_option maxRecDepth 100000 in
set_option maxHeartbeats 1600000 in
theorem formed1_any (B : Option Addr) (n c m g : Nat) (w : World) (h : w.cell? ⟨g, 0, none⟩ = some (.int .i64 (m : Int))) :
    Calls Tryd.prog 73 #[.slice B n c, .pointer (some ⟨g, 0, none⟩)] w fun e w' => e = .returned (.bool (!decide (n = m))) ∧ w = w' := by
  have hb : ((n : Int) != (m : Int)) = !decide (n = m) := by
    by_cases e : n = m
    · rw [decide_eq_true e, e]; simp
    · rw [decide_eq_false e]
      have : (n : Int) ≠ (m : Int) := by omega
      simpa using this
  obtain ⟨D, hD⟩ : ∃ D, (!decide (n = m)) = D := ⟨_, rfl⟩
  rw [hD] at hb ⊢
  have hb2 : (n != m) = D := by
    rw [← hD]
    by_cases e : n = m
    · rw [decide_eq_true e, e]; simp
    · rw [decide_eq_false e]; simpa using e
  clear hD
  go_enter Tryd.func73, Tryd.ntmps73
  go_wp2
  go_ret
  exact ⟨rfl, rfl⟩
def IxRel (hs : List Hdr) (m n : Nat) (i : Value) : Prop := ∃ k : Nat, k ≤ n ∧ i = .int .i64 (k : Int) ∧ ∀ j h, j < k → hs[j]? = some h → h.2.1 = m
set_option maxRecDepth 100000 in
set_option maxHeartbeats 1600000 in
theorem indexFn_any (A : Option Addr) (c : Nat) (hs : List Hdr) (m g : Nat) (w : World) (hl : hs.length ≤ 100000) (hS : HdrsAt w A hs) (h : w.cell? ⟨g, 0, none⟩ = some (.int .i64 (m : Int))) :
    Calls Tryd.prog 88 #[.slice A hs.length c, .func (.func 73) #[] #[.pointer (some ⟨g, 0, none⟩)]] w fun e w' => (∃ v : Int, e = .returned (.int .i64 v) ∧ ((v = -1 ∧ allB hs m = true) ∨ (0 ≤ v ∧ allB hs m = false))) ∧ w = w' := by
  obtain ⟨n, hn⟩ : ∃ n, hs.length = n := ⟨_, rfl⟩
  have HN := Lib.hid hn
  have HS := Lib.hid hS
  rw [hn] at hl ⊢
  have hni : (n : Int) ≤ 100000 := by omega
  clear hn hS
  go_enter Tryd.func88, Tryd.ntmps88
  go_wp2
  go_loop [8] (IxRel hs m n) (fun i => n - (intOf i).toNat)
  case atStart => exact ⟨0, Nat.zero_le _, rfl, fun j h hj => absurd hj (Nat.not_lt_zero _)⟩
  case round =>
    obtain ⟨k, hk, rfl, hall⟩ := hrel
    have HA := Lib.hid hall
    clear hall
    by_cases hlt : k < n
    · have hki : (k : Int) < (n : Int) := by omega
      have hk0 : (0 : Int) ≤ (k : Int) := by omega
      obtain ⟨x, hx⟩ : ∃ x, hs[k]? = some x := ⟨_, List.getElem?_eq_getElem (by rw [HN.out]; exact hlt)⟩
      obtain ⟨ad, rfl, hc⟩ := HS.out k x hx
      obtain ⟨B, q, d⟩ := x
      have hc0 : w.cell? (ad.add k) = some (.slice B q d) := hc
      have HX := Lib.hid hx
      have HF := Lib.hid (fun w h => formed1_any B q d m g w h)
      clear hx hc
      by_cases hq : q = m
      · have hqb : (!decide (q = m)) = false := by rw [decide_eq_true hq]; rfl
        rw [hqb] at HF
        have HQ := Lib.hid hq
        clear hq hqb
        go_wp2_with fail
        (with_reducible refine (HF.out _ h).mono ?_)
        rintro e w1 ⟨rfl, rfl⟩
        go_wp2
        go_round
        case rel => exact ⟨k + 1, by omega, by go_num, fun j h hj hh => by
          rcases Nat.lt_or_ge j k with h1 | h1
          · exact HA.out j h h1 hh
          · obtain rfl : j = k := by omega
            rw [HX.out] at hh
            injection hh with hh
            rw [← hh]; exact HQ.out⟩
        case measure => simp [intOf]; omega
      · have hqb : (!decide (q = m)) = true := by rw [decide_eq_false hq]; rfl
        rw [hqb] at HF
        have hno : Hid (allB hs m = false) := by
          have : allB hs m = false := by
            unfold allB
            rw [List.all_eq_false]
            exact ⟨_, List.mem_of_getElem? HX.out, by simpa using hq⟩
          exact this
        clear hq hqb
        go_wp2_with fail
        (with_reducible refine (HF.out _ h).mono ?_)
        rintro e w1 ⟨rfl, rfl⟩
        go_wp2
        go_ret
        exact ⟨⟨(k : Int), rfl, .inr ⟨hk0, hno.out⟩⟩, rfl⟩
    · obtain rfl : k = n := by omega
      have hyes : Hid (allB hs m = true) := by
        have : allB hs m = true := by
          unfold allB
          rw [List.all_eq_true]
          intro x hx
          obtain ⟨j, hj⟩ := List.getElem?_of_mem hx
          have := (List.getElem?_eq_some_iff.1 hj).1
          exact decide_eq_true (HA.out j x (by rw [← HN.out]; exact this) hj)
        exact this
      go_wp2
      go_ret
      exact ⟨⟨-1, rfl, .inl ⟨rfl, hyes.out⟩⟩, rfl⟩
set_option maxRecDepth 100000 in
set_option maxHeartbeats 1600000 in
theorem containsFn_any (A : Option Addr) (c : Nat) (hs : List Hdr) (m g : Nat) (w : World) (hl : hs.length ≤ 100000) (hS : HdrsAt w A hs) (h : w.cell? ⟨g, 0, none⟩ = some (.int .i64 (m : Int))) :
    Calls Tryd.prog 74 #[.slice A hs.length c, .func (.func 73) #[] #[.pointer (some ⟨g, 0, none⟩)]] w fun e w' => e = .returned (.bool (!allB hs m)) ∧ w = w' := by
  have HI := Lib.hid (fun w hS h => indexFn_any A c hs m g w hl hS h)
  obtain ⟨D, hD⟩ : ∃ D, allB hs m = D := ⟨_, rfl⟩
  rw [hD] at HI ⊢
  obtain ⟨n, hn⟩ : ∃ n, hs.length = n := ⟨_, rfl⟩
  rw [hn] at HI ⊢
  have HS := Lib.hid hS
  clear hn hS hD
  go_enter Tryd.func74, Tryd.ntmps74
  go_wp2_with fail
  (with_reducible refine (HI.out _ HS.out h).mono ?_)
  rintro e w1 ⟨⟨v, rfl, hv⟩, rfl⟩
  rcases hv with ⟨rfl, rfl⟩ | ⟨hv, rfl⟩
  · go_wp2
    go_ret
    exact ⟨rfl, rfl⟩
  · have hvb : decide (0 ≤ v) = true := decide_eq_true hv
    go_wp2
    go_ret
    exact ⟨rfl, rfl⟩
set_option maxRecDepth 100000 in
set_option maxHeartbeats 3200000 in
theorem formed_any (A B : Option Addr) (c bl bc : Nat) (hs : List Hdr) (w : World) (hl : hs.length ≤ 100000) (hbl : bl ≤ 140737488355328) (hcn : colsN hs ≤ 140737488355328) (hS : HdrsAt w A hs) :
    Calls Tryd.prog 58 #[.slice A hs.length c, .slice B bl bc] w fun e w' => e = .returned (.bool (formedB hs bl)) ∧ Below w.heap.size w w' := by
  have HCO := Lib.hid (fun w hS => columns_any A c hs w hS)
  have HCF := Lib.hid (fun g w hS h => containsFn_any A c hs (colsN hs) g w hl hS h)
  have HS := Lib.hid hS
  obtain ⟨D, hD⟩ : ∃ D, formedB hs bl = D := ⟨_, rfl⟩
  have hDv : (decide (hs.length ≤ 20) && decide (colsN hs ≤ 20) && decide (bl = hs.length) && allB hs (colsN hs)) = D := hD
  rw [hD]
  obtain ⟨E, hE⟩ : ∃ E, allB hs (colsN hs) = E := ⟨_, rfl⟩
  rw [hE] at hDv HCF
  obtain ⟨n, hn⟩ : ∃ n, hs.length = n := ⟨_, rfl⟩
  rw [hn] at hDv HCF HCO hl ⊢
  obtain ⟨m, hm⟩ : ∃ m, colsN hs = m := ⟨_, rfl⟩
  rw [hm] at hDv HCF HCO hcn
  have HDV := Lib.hid hDv
  have hni : (n : Int) ≤ 100000 := by omega
  clear hD hE hn hm hS hDv
  go_enter Tryd.func58, Tryd.ntmps58
  go_wp2_with fail
  (with_reducible refine (HCO.out _ HS.out).mono ?_)
  rintro e w1 ⟨rfl, rfl⟩
  go_wp2_with (with_reducible refine wpList_alloc (o := ⟨some 5, .alloc 3, _, _, _, _⟩) (by with_unfolding_all rfl) 3 (by with_unfolding_all rfl) (.int .i64 0) [.int .i64 0] (by exact Tryd.zeroIn) (by with_unfolding_all rfl) ?_)
  intro g5 w2 hg5 hs5 hb5 hB
  have hl5 : w.heap.size ≤ g5 := Nat.le_of_eq hg5.out.symm
  have hbe : Below w.heap.size w w2 := hb5.mono hl5
  clear hb5 hs5 hg5
  go_wp2_with (with_reducible refine wpList_put (o := ⟨none, .store 3 (.tmp 5) (.tmp 8), _, _, _, _⟩) (by with_unfolding_all rfl) 3 (.tmp 5) (.tmp 8) (by with_unfolding_all rfl) g5 0 (by with_unfolding_all rfl) (.int .i64 (m : Int)) (by with_unfolding_all rfl) hB [.int .i64 (m : Int)] (by with_unfolding_all rfl) (by with_unfolding_all (exact Tryd.szI)) (by with_unfolding_all (exact Nat.le_refl 1)) (by with_unfolding_all (exact one_cell1 rfl)) ?_)
  intro w3 hu3 hB3
  rw [splice_all _ _ (by rfl)] at hB3
  have hbe := hbe.trans (hu3.below (B := w.heap.size) hl5)
  have c0 := hB3.cell (k := 0) rfl
  clear hu3 hB
  by_cases h1 : n ≤ 20
  · have h1i : (n : Int) ≤ 20 := by omega
    by_cases h2 : m ≤ 20
    · have h2i : (m : Int) ≤ 20 := by omega
      by_cases h3 : bl = n
      · have h3b : ((bl : Int) == (n : Int)) = true := by rw [beq_iff_eq]; omega
        have h3c : (bl == n) = true := beq_iff_eq.2 h3
        have hd : Hid (E = D) := by
          have : E = D := by rw [← HDV.out, decide_eq_true h1, decide_eq_true h2, decide_eq_true h3]; rfl
          exact this
        clear h3
        go_wp2_with fail
        (with_reducible refine (HCF.out _ _ (HS.out.next hbe) c0).mono ?_)
        rintro e w4 ⟨rfl, rfl⟩
        go_wp2
        go_ret
        exact ⟨by rw [← hd.out]; simp, hbe⟩
      · have h3b : ((bl : Int) == (n : Int)) = false := by rw [beq_eq_false_iff_ne]; omega
        have h3c : (bl == n) = false := beq_eq_false_iff_ne.2 h3
        have hd : Hid (false = D) := by
          have : false = D := by rw [← HDV.out, decide_eq_false h3, Bool.and_false]; rfl
          exact this
        clear h3
        go_wp2
        go_ret
        exact ⟨by rw [← hd.out]; rfl, hbe⟩
    · have h2i : (20 : Int) < (m : Int) := by omega
      have hd : Hid (false = D) := by
        have : false = D := by rw [← HDV.out, decide_eq_false h2, Bool.and_false]; rfl
        exact this
      go_wp2
      go_ret
      exact ⟨by rw [← hd.out]; rfl, hbe⟩
  · have h1i : (20 : Int) < (n : Int) := by omega
    have hd : Hid (false = D) := by
      have : false = D := by rw [← HDV.out, decide_eq_false h1]; rfl
      exact this
    go_wp2
    go_ret
    exact ⟨by rw [← hd.out]; rfl, hbe⟩
end Go.Proofs.YthjaelopmfjfeaaDoor
