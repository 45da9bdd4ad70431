/-
  Contracts of the walks over expect, Holds and Refutes. Conditions: the system and the lists lie there.
-/
import Derived.Test.YthjaelopmfjfeaaDoorYc
import Derived.Test.YthjaelopmfjfeaaDoorYe
namespace Go.Proofs.YthjaelopmfjfeaaDoor
set_option linter.unusedVariables false
set_option linter.unusedSimpArgs false
open Go.RowKit Go.Shelf
set_option linter.unusedVariables false

theorem cells_same (p q : Rat) : (decide (p.num = q.num) && decide ((p.den : Int) = (q.den : Int))) = decide (p = q) := by
  by_cases h : p = q
  · subst h; simp
  · rw [decide_eq_false h, Bool.and_eq_false_iff, decide_eq_false_iff_not, decide_eq_false_iff_not]
    by_cases h1 : p.num = q.num
    · right; intro h2; exact h (Rat.ext h1 (by omega))
    · left; exact h1
/-- What is said of the sum of the products of two lists. -/
def expI (a b : List Rat) (t : Rat) : Int := if a.length = b.length then (match dotM a b a.length with | none => 17 | some s => if s = t then 0 else 7) else 1
theorem expI_form (a b : List Rat) (t : Rat) : ∃ N D k : Int, dotE a b = .returned (.tuple #[.agg #[.int .i64 N, .int .i64 D], .int .i64 k]) ∧ ((k ≠ 0 ∧ expI a b t = k) ∨ (k = 0 ∧ ∃ s : Rat, N = s.num ∧ D = (s.den : Int) ∧ expI a b t = if s = t then 0 else 7)) := by
  unfold dotE expI
  split
  · cases h : dotM a b a.length with
    | none => exact ⟨0, 0, 17, rfl, .inl ⟨by decide, rfl⟩⟩
    | some s => exact ⟨_, _, 0, rfl, .inr ⟨rfl, s, rfl, rfl, rfl⟩⟩
  · exact ⟨0, 0, 1, rfl, .inl ⟨by decide, rfl⟩⟩
theorem expI_ok {a b : List Rat} {t : Rat} (h : expI a b t = 0) : a.length = b.length ∧ dotM a b a.length = some t := by
  unfold expI at h
  split at h
  next e =>
    refine ⟨e, ?_⟩
    cases hd : dotM a b a.length with
    | none => rw [hd] at h; cases h
    | some s =>
      rw [hd] at h
      by_cases hs : s = t
      · rw [hs]
      · dsimp only at h; rw [if_neg hs] at h; cases h
  next => cases h
theorem expI_is {a b : List Rat} {t : Rat} (hl : a.length = b.length) (hs : sumN a.length (fun i => nth a i * nth b i) = t) : expI a b t = 0 ∨ expI a b t = 17 := by
  unfold expI
  rw [if_pos hl]
  cases hd : dotM a b a.length with
  | none => exact .inr rfl
  | some s =>
    rw [dotM_val hd, hs]
    exact .inl (if_pos rfl)
def holdsTo (al : List (List Rat)) (bs xs : List Rat) : Nat → Int
  | 0 => 0
  | k + 1 => if holdsTo al bs xs k = 0 then expI ((al[k]?).getD []) xs (nth bs k) else holdsTo al bs xs k
theorem holdsTo_stop {al : List (List Rat)} {bs xs : List Rat} {k : Nat} (h : holdsTo al bs xs k ≠ 0) : ∀ n, k ≤ n → holdsTo al bs xs n = holdsTo al bs xs k := by
  intro n hn
  induction n with
  | zero => obtain rfl : k = 0 := by omega
            rfl
  | succ n ih =>
    rcases Nat.lt_or_ge n k with h1 | h1
    · obtain rfl : k = n + 1 := by omega
      rfl
    · show (if holdsTo al bs xs n = 0 then _ else holdsTo al bs xs n) = _
      rw [ih h1, if_neg h]
def colL (al : List (List Rat)) (c : Nat) : List Rat := al.map fun r => nth r c
def refTo (al : List (List Rat)) (ys : List Rat) : Nat → Int
  | 0 => 0
  | c + 1 => if refTo al ys c = 0 then expI ys (colL al c) 0 else refTo al ys c
theorem refTo_stop {al : List (List Rat)} {ys : List Rat} {k : Nat} (h : refTo al ys k ≠ 0) : ∀ n, k ≤ n → refTo al ys n = refTo al ys k := by
  intro n hn
  induction n with
  | zero => obtain rfl : k = 0 := by omega
            rfl
  | succ n ih =>
    rcases Nat.lt_or_ge n k with h1 | h1
    · obtain rfl : k = n + 1 := by omega
      rfl
    · show (if refTo al ys n = 0 then _ else refTo al ys n) = _
      rw [ih h1, if_neg h]
/-- A row that came in lies there; it may be nil if it has no elements. -/
structure RowQ (w : World) (n : Nat) (p : Hdr × List Rat) : Prop where
  len : p.1.2.1 = n
  size : p.2.length = n
  lies : PsAt w p.1.1 (prs p.2)
theorem RowQ.next {w w' : World} {n : Nat} {p : Hdr × List Rat} (h : RowQ w n p) (hb : Below w.heap.size w w') : RowQ w' n p := ⟨h.len, h.size, h.lies.next hb⟩
theorem nth_fits {l : List Rat} (h : ∀ x ∈ l, fits x) (k : Nat) : fits (nth l k) := by
  unfold nth
  cases hk : l[k]? with
  | none => exact fits_zero
  | some x => exact h x (List.mem_of_getElem? hk)
set_option maxRecDepth 100000 in
set_option maxHeartbeats 3200000 in
theorem expect_any (A B : Option Addr) (c d n m : Nat) (a b : List Rat) (t : Rat) (w : World) (hna : a.length = n) (hnb : b.length = m) (ha : n ≤ 140737488355328) (hb : m ≤ 140737488355328) (fa : ∀ x ∈ a, fits x) (fb : ∀ x ∈ b, fits x) (hA : PsAt w A (prs a)) (hB : PsAt w B (prs b)) :
    Calls Tryd.prog 67 #[.slice A n c, .slice B m d, .agg [Value.int .i64 t.num, Value.int .i64 (t.den : Int)].toArray] w fun e w' => e = .returned (.int .i64 (expI a b t)) ∧ Below w.heap.size w w' := by
  obtain ⟨N, D, k, h1, h2⟩ := expI_form a b t
  have hd := dot_any A B c d a b w (by omega) (by omega) fa fb hA hB
  have HD := Lib.hid (fun w hA hB => dot_any A B c d a b w (by omega) (by omega) fa fb hA hB)
  rw [h1, hna, hnb] at HD
  have HA := Lib.hid hA
  have HB := Lib.hid hB
  have H2 := Lib.hid h2
  obtain ⟨E, hE⟩ : ∃ E, expI a b t = E := ⟨_, rfl⟩
  rw [hE] at H2 ⊢
  have hgu := Tryd.guardQ
  clear hd h1 h2 hA hB fa fb hna hnb hE
  go_enter Tryd.func67, Tryd.ntmps67
  go_wp2_with (with_reducible refine wpList_box (o := ⟨some 5, .box 23 (.tmp 2), _, _, _, _⟩) ?g5 23 (.tmp 2) ?o5 (.agg [Value.int .i64 t.num, Value.int .i64 (t.den : Int)].toArray) [Value.int .i64 t.num, Value.int .i64 (t.den : Int)] ?x5 ?c5 ?_)
  try (case g5 => rfl)
  try (case o5 => rfl)
  try (case x5 => rfl)
  try (case c5 => rfl)
  intro g5 w1 hg5 hs1 hb1 B5
  have hb1 := hb1.mono (Nat.le_of_eq hg5.out.symm)
  have hbe : Below w.heap.size w w1 := hb1
  clear hb1 hg5 hs1
  go_wp2_with fail
  (with_reducible refine (HD.out _ (HA.out.next hbe) (HB.out.next hbe)).mono ?_)
  rintro e w2 ⟨rfl, hb2⟩
  have B5 := B5.next hb2 B5.lt
  have hbe := below_join hbe hb2
  clear hb2
  go_wp2_with (with_reducible refine wpList_alloc (o := ⟨some 7, .alloc 23, _, _, _, _⟩) (by with_unfolding_all rfl) 23 (by with_unfolding_all rfl) (.agg zC.toArray) zC (by exact Tryd.zeroQ) (by with_unfolding_all rfl) ?_)
  intro g7 w3 hg7 hs3 hb3 B7
  have hl7 : w.heap.size ≤ g7 := Nat.le_trans hbe.size (Nat.le_of_eq hg7.out.symm)
  have ne5_7 : g5 ≠ g7 := by have := B5.lt; have := hg7.out; omega
  have hb3 := hb3.mono (Nat.le_of_eq hg7.out.symm)
  have B5 := B5.next hb3 B5.lt
  have hbe := below_join hbe hb3
  clear hb3 hg7 hs3
  go_wp2_with (with_reducible refine wpList_put (o := ⟨none, .store 23 (.tmp 7) (.tmp 13), _, _, _, _⟩) (by with_unfolding_all rfl) 23 (.tmp 7) (.tmp 13) (by with_unfolding_all rfl) g7 0 (by with_unfolding_all rfl) (.agg [Value.int .i64 N, Value.int .i64 D].toArray) (by with_unfolding_all rfl) B7 [Value.int .i64 N, Value.int .i64 D] (by with_unfolding_all rfl) (by with_unfolding_all (exact Tryd.szQ)) (by with_unfolding_all (exact Nat.le_refl 2)) (by with_unfolding_all (exact int_one _ _)) ?_)
  clear B7
  intro w4 hu4 B7
  rw [splice_all _ _ (by rfl)] at B7
  have hbe := hbe.trans (hu4.below (B := w.heap.size) hl7)
  have B5 := B5.upd hu4 (by first | exact ne5_7 | exact ne7_5.symm)
  clear hu4
  rcases H2.out with ⟨hk, rfl⟩ | ⟨rfl, s, rfl, rfl, hs⟩
  · skip
    have hkb : (E != 0) = true := bne_iff_ne.2 hk
    go_wp2
    go_ret
    exact ⟨rfl, hbe⟩
  · skip
    have z50 := B5.cell (k := 0) rfl
    have z51 := B5.cell (k := 1) rfl
    have z70 := B7.cell (k := 0) rfl
    have z71 := B7.cell (k := 1) rfl
    by_cases h : s = t
    · skip
      have hn : ∀ w, (binOp .neq 23 (.agg [Value.int .i64 s.num, Value.int .i64 (s.den : Int)].toArray) (.agg [Value.int .i64 t.num, Value.int .i64 (t.den : Int)].toArray)).run Tryd.prog w = .ok (.bool false) w := fun w => by rw [neqQ, cells_same, decide_eq_true h]; rfl
      rw [if_pos h] at hs
      have HS := Lib.hid hs
      clear hs h
      go_wp2
      go_ret
      exact ⟨by rw [HS.out]; first | done | rfl, hbe⟩
    · skip
      have hn : ∀ w, (binOp .neq 23 (.agg [Value.int .i64 s.num, Value.int .i64 (s.den : Int)].toArray) (.agg [Value.int .i64 t.num, Value.int .i64 (t.den : Int)].toArray)).run Tryd.prog w = .ok (.bool true) w := fun w => by rw [neqQ, cells_same, decide_eq_false h]; rfl
      rw [if_neg h] at hs
      have HS := Lib.hid hs
      clear hs h
      go_wp2
      go_ret
      exact ⟨by rw [HS.out]; first | done | rfl, hbe⟩
def HoRel (al : List (List Rat)) (bs xs : List Rat) (m : Nat) (w : World) (i : Value) (wr : World) : Prop := ∃ k : Nat, k ≤ m ∧ i = .int .i64 (k : Int) ∧ holdsTo al bs xs k = 0 ∧ Below w.heap.size w wr
set_option maxRecDepth 100000 in
set_option maxHeartbeats 3200000 in
theorem holds_any (A B X : Option Addr) (c d e m n xl : Nat) (rs : List (Hdr × List Rat)) (bs xs : List Rat) (w : World) (hm : rs.length = m) (hm20 : m ≤ 20) (hn20 : n ≤ 20) (hcn : colsN (rs.map fun p => p.1) = n) (hform : formedB (rs.map fun p => p.1) m = true) (hbl : bs.length = m) (hxl : xs.length = xl) (hx : xl ≤ 140737488355328)
    (hS : HdrsAt w A (rs.map fun p => p.1)) (hR : ∀ p ∈ rs, RowQ w n p) (hf : ∀ p ∈ rs, ∀ x ∈ p.2, fits x) (hB : PsAt w B (prs bs)) (hbf : ∀ x ∈ bs, fits x) (hX : PsAt w X (prs xs)) (hxf : ∀ x ∈ xs, fits x) :
    Calls Tryd.prog 44 #[.slice A m c, .slice B m d, .slice X xl e] w fun e w' => e = .returned (.int .i64 (if xl = n then holdsTo (rs.map fun p => p.2) bs xs m else 1)) ∧ Below w.heap.size w w' := by
  have hml : (rs.map fun p => p.1).length = m := by rw [List.length_map, hm]
  have hFO := formed_any A B c m d (rs.map fun p => p.1) w (by omega) (by omega) (by omega) hS
  rw [hml, hform] at hFO
  have HCO : Hid (∀ w1, Below w.heap.size w w1 → Calls Tryd.prog 59 #[.slice A m c] w1 fun e w' => e = .returned (.int .i64 (n : Int)) ∧ w1 = w') := (fun w1 h1 => by
    have h := columns_any A c (rs.map fun p => p.1) w1 (hS.next h1)
    rw [hml, hcn] at h
    exact h : ∀ w1, Below w.heap.size w w1 → Calls Tryd.prog 59 #[.slice A m c] w1 fun e w' => e = .returned (.int .i64 (n : Int)) ∧ w1 = w')
  have hget : ∀ k, k < m → ∃ p b, rs[k]? = some p ∧ bs[k]? = some b ∧ RowQ w n p ∧ (∀ x ∈ p.2, fits x) ∧ fits b ∧ ∃ ad, A = some ad ∧ w.cell? (ad.add k) = some (hdrV p.1) := fun k hk => by
    have h1 : rs[k]? = some (rs[k]'(by omega)) := List.getElem?_eq_getElem (by omega)
    have h2 : bs[k]? = some (bs[k]'(by omega)) := List.getElem?_eq_getElem (by omega)
    exact ⟨_, _, h1, h2, hR _ (List.mem_of_getElem? h1), hf _ (List.mem_of_getElem? h1), hbf _ (List.mem_of_getElem? h2), hS k _ (by rw [List.getElem?_map, h1]; rfl)⟩
  have HGT := Lib.hid hget
  have HB := Lib.hid hB
  have HX := Lib.hid hX
  have HXF := Lib.hid hxf
  have HXL := Lib.hid hxl
  obtain ⟨R, hRR⟩ : ∃ R, Hid ((if xl = n then holdsTo (rs.map fun p => p.2) bs xs m else 1) = R) := ⟨_, rfl⟩
  rw [hRR.out]
  have HFO := Lib.hid hFO
  have hmi : (m : Int) ≤ 20 := by omega
  have hxi : (xl : Int) ≤ 140737488355328 := by omega
  clear hS hR hf hbf hxf hX hB hget hFO hml hcn hform hm hbl hxl
  go_enter Tryd.func44, Tryd.ntmps44
  go_wp2_with fail
  (with_reducible refine HFO.out.mono ?_)
  rintro e w1 ⟨rfl, hb1⟩
  go_wp2_with fail
  (with_reducible refine (HCO.out _ hb1).mono ?_)
  rintro e w2 ⟨rfl, rfl⟩
  by_cases hxn : xl = n
  · have hxb : ((xl : Int) != (n : Int)) = false := by rw [hxn]; simp
    have hR2 : Hid (holdsTo (rs.map fun p => p.2) bs xs m = R) := by
      have := hRR.out
      rw [if_pos hxn] at this
      exact this
    have HXN := Lib.hid hxn
    clear hxn
    go_wp2
    go_loopw [23] (HoRel (rs.map fun p => p.2) bs xs m w) (fun i _ => m - (intOf i).toNat)
    case atStart => exact ⟨0, Nat.zero_le _, rfl, rfl, hb1⟩
    case round =>
      clear hb1
      obtain ⟨k, hk, rfl, hz, hbe⟩ := hrel
      have HZ := Lib.hid hz
      clear hz
      by_cases hlt : k < m
      · have hki : (k : Int) < (m : Int) := by omega
        have hk0 : (0 : Int) ≤ (k : Int) := by omega
        obtain ⟨p, b, hp, hb, hrow, hpf, hbf, ad, rfl, hc⟩ := HGT.out k hlt
        have hstep : holdsTo (rs.map fun p => p.2) bs xs (k + 1) = expI p.2 xs b := by
          show (if holdsTo _ bs xs k = 0 then _ else _) = _
          rw [if_pos HZ.out, List.getElem?_map, hp, nth_get hb]; rfl
        have HST := Lib.hid hstep
        have hro := hrow.next hbe
        obtain ⟨⟨C, q, f⟩, al⟩ := p
        have hqn : q = n := hro.len
        subst hqn
        have hc0 : wr.cell? (ad.add k) = some (.slice C q f) := cellq_below hbe hc
        obtain ⟨gb, ob, hBa, d0, d1⟩ := (HB.out.next hbe) k _ (prs_get hb)
        subst hBa
        have hex := fun w' h => expect_any C X f e q xl al xs b w' hro.size HXL.out (by omega) (by omega) hpf HXF.out (hro.lies.next (show Below wr.heap.size wr w' from h)) ((HX.out.next hbe).next h)
        rw [show expI al xs b = holdsTo (rs.map fun p => p.2) bs xs (k + 1) from hstep.symm] at hex
        obtain ⟨E, hE⟩ : ∃ E, holdsTo (rs.map fun p => p.2) bs xs (k + 1) = E := ⟨_, rfl⟩
        rw [hE] at hex
        have HEX := Lib.hid hex
        have HE := Lib.hid hE
        clear hex hE hstep hro hrow hp hb hpf hbf hc
        go_wp2_with fail
        (with_reducible refine (HEX.out _ (Below.refl _ _)).mono ?_)
        rintro e w3 ⟨rfl, hb3⟩
        have hbe3 := below_join hbe hb3
        clear hb3 hbe hc0 d0 d1
        by_cases h0 : E = 0
        · subst h0
          go_wp2
          go_roundw
          case rel => exact ⟨k + 1, by omega, by go_num, HE.out, hbe3⟩
          case measure => simp [intOf]; omega
        · have h0b : (E != 0) = true := bne_iff_ne.2 h0
          have hER : Hid (E = R) := by
            have : E = R := by rw [← hR2.out, ← HE.out]; exact (holdsTo_stop (by rw [HE.out]; exact h0) m (by omega)).symm
            exact this
          clear h0
          go_wp2
          go_ret
          exact ⟨by rw [hER.out]; rfl, hbe3⟩
      · obtain rfl : k = m := by omega
        have hfin : Hid (R = 0) := by
          have : R = 0 := by rw [← hR2.out]; exact HZ.out
          exact this
        go_wp2
        go_ret
        exact ⟨by rw [hfin.out]; rfl, hbe⟩
  · have hxb : ((xl : Int) != (n : Int)) = true := bne_iff_ne.2 (by omega)
    have hfin : Hid (R = 1) := by
      have : R = 1 := by rw [← hRR.out, if_neg hxn]
      exact this
    clear hxn
    go_wp2
    go_ret
    exact ⟨by rw [hfin.out]; rfl, hb1⟩
end Go.Proofs.YthjaelopmfjfeaaDoor
