/-
  The walk of RatioCertifies. Conditions: the system, the lists and the library's variables lie there.
-/
import Derived.Test.YthjaelopmfjfeaaDoorZe
import Derived.Test.YthjaelopmfjfeaaDoorOx
import Derived.Test.YthjaelopmfjfeaaDoorYk
namespace Go.Proofs.YthjaelopmfjfeaaDoor
set_option linter.unusedVariables false
set_option linter.unusedSimpArgs false
open Go.RowKit Go.Shelf
set_option linter.unusedVariables false

theorem rows_of : ∀ {l : List (Hdr × List (Int × Int))}, (∀ p ∈ l, rowOk p = true) → ∃ rs : List (Hdr × List Rat), (rs.map fun p => p.1) = (l.map fun p => p.1) ∧ (rs.map fun p => (p.1, prs p.2)) = l ∧ ∀ p ∈ rs, ∀ x ∈ p.2, fits x
  | [], _ => ⟨[], rfl, rfl, fun p hp => by cases hp⟩
  | p :: l, h => by
    obtain ⟨rs, h1, h2, h3⟩ := rows_of (l := l) (fun q hq => h q (List.mem_cons_of_mem _ hq))
    have h4 := h p (List.mem_cons_self ..)
    unfold rowOk at h4
    rw [Bool.and_eq_true] at h4
    obtain ⟨r, h5, h6⟩ := prs_of h4.1
    refine ⟨(p.1, r) :: rs, ?_, ?_, fun q hq => ?_⟩
    · rw [List.map_cons, List.map_cons, h1]
    · rw [List.map_cons, h2, h5]
    · rcases List.mem_cons.1 hq with rfl | hq
      · exact h6
      · exact h3 q hq
theorem cells_add {w : World} {A : Option Addr} {l : List Rat} (h : PsAt w A (prs l)) {ad : Addr} (hA : A = some ad) : ∀ j u, (rowC l)[j]? = some u → w.cell? (ad.add j) = some u := fun j u hu => by
  have hj := (List.getElem?_eq_some_iff.1 hu).1
  rw [rowC_length] at hj
  have hk : j / 2 < l.length := by omega
  have hx : l[j / 2]? = some (l[j / 2]'hk) := List.getElem?_eq_getElem hk
  obtain ⟨g, o, e, h1, h2⟩ := h (j / 2) _ (prs_get hx)
  rw [hA] at e
  injection e with e
  subst e
  obtain ⟨r1, r2⟩ := rowR_cell (R := []) (prs_get hx)
  rw [List.append_nil] at r1 r2
  rw [addr_add]
  rcases Nat.mod_two_eq_zero_or_one j with h0 | h0
  · have e : j / 2 * 2 = j := by omega
    rw [e] at r1 h1
    rw [h1]
    exact (r1.symm.trans hu)
  · have e : j / 2 * 2 + 1 = j := by omega
    rw [e] at r2
    rw [show o + j = o + j / 2 * 2 + 1 by omega, h2]
    exact (r2.symm.trans hu)
/-- A formed system of normal ratios that came in. -/
structure SysQ (w : World) (A B : Option Addr) (m n : Nat) (rs : List (Hdr × List Rat)) (bs : List Rat) : Prop where
  cnt : rs.length = m
  m20 : m ≤ 20
  n20 : n ≤ 20
  cols : colsN (rs.map fun p => p.1) = n
  form : formedB (rs.map fun p => p.1) m = true
  hdrs : HdrsAt w A (rs.map fun p => p.1)
  rows : ∀ p ∈ rs, RowQ w n p ∧ (p.1.1 = none → p.1 = (none, 0, 0))
  fit : ∀ p ∈ rs, ∀ x ∈ p.2, fits x
  bl : bs.length = m
  b : PsAt w B (prs bs)
  bf : ∀ x ∈ bs, fits x
theorem SysQ.next {w w' : World} {A B : Option Addr} {m n : Nat} {rs : List (Hdr × List Rat)} {bs : List Rat} (h : SysQ w A B m n rs bs) (hb : Below w.heap.size w w') : SysQ w' A B m n rs bs :=
  ⟨h.cnt, h.m20, h.n20, h.cols, h.form, h.hdrs.next hb, fun p hp => ⟨(h.rows p hp).1.next hb, (h.rows p hp).2⟩, h.fit, h.bl, h.b.next hb, h.bf⟩
theorem SysQ.wide {w : World} {A B : Option Addr} {m n : Nat} {rs : List (Hdr × List Rat)} {bs : List Rat} (h : SysQ w A B m n rs bs) : (rs.map fun p => p.2).length = m ∧ ∀ a ∈ (rs.map fun p => p.2), a.length = n :=
  ⟨by rw [List.length_map, h.cnt], fun a ha => by
    obtain ⟨p, hp, rfl⟩ := List.mem_map.1 ha
    exact (h.rows p hp).1.size⟩
theorem sys_solve {w : World} {A B : Option Addr} {c cb m n : Nat} {rs : List (Hdr × List Rat)} {bs : List Rat} (h : SysQ w A B m n rs bs) (hcb : m ≤ cb) :
    Calls Tryd.prog 41 #[.slice A m c, .slice B m cb] w fun e w' => Below w.heap.size w w' ∧ SolvedR (solveM (tabC m (rs.map fun p => p.2) bs) n) n m w e w' := by
  refine solve_at A c rs B cb m n bs w h.cnt h.m20 h.n20 h.cols h.form h.hdrs (fun p hp => ⟨(h.rows p hp).1.size, h.fit p hp⟩) h.bf h.bl fun w1 h1 => ?_
  have hs := h.next h1
  cases bs with
  | nil =>
    obtain rfl : m = 0 := h.bl.symm
    have hr : rs = [] := List.eq_nil_of_length_eq_zero h.cnt
    subst hr
    exact tableOf_none A B c cb n w1
  | cons x bs =>
    obtain ⟨g, o, hB, _, _⟩ := hs.b 0 (x.num, (x.den : Int)) rfl
    rw [hB]
    refine tableOf_any A c rs ⟨g, o, none⟩ cb m n (x :: bs) w1 h.cnt (by have := h.m20; omega) (by have := h.n20; omega) hs.hdrs (fun p hp => ?_) h.bl hcb (cells_add hs.b hB)
    obtain ⟨hq, hv⟩ := hs.rows p hp
    refine ⟨hq.len, hq.size, ?_⟩
    cases ha : p.1.1 with
    | none => exact .inl (hv ha)
    | some ad => exact .inr ⟨ad, rfl, cells_add hq.lies ha⟩
theorem sys_holds {w : World} {A B X : Option Addr} {c cb m n e xl : Nat} {rs : List (Hdr × List Rat)} {bs xs : List Rat} (h : SysQ w A B m n rs bs) (hxl : xs.length = xl) (hx : xl ≤ 140737488355328) (hX : PsAt w X (prs xs)) (hxf : ∀ x ∈ xs, fits x) :
    Calls Tryd.prog 44 #[.slice A m c, .slice B m cb, .slice X xl e] w fun e w' => e = .returned (.int .i64 (if xl = n then holdsTo (rs.map fun p => p.2) bs xs m else 1)) ∧ Below w.heap.size w w' :=
  holds_any A B X c cb e m n xl rs bs xs w h.cnt h.m20 h.n20 h.cols h.form h.bl hxl hx h.hdrs (fun p hp => (h.rows p hp).1) h.fit h.b h.bf hX hxf
theorem sys_refutes {w : World} {A B X : Option Addr} {c cb m n e xl : Nat} {rs : List (Hdr × List Rat)} {bs ys : List Rat} (h : SysQ w A B m n rs bs) (hxl : ys.length = xl) (hx : xl ≤ 140737488355328) (hX : PsAt w X (prs ys)) (hxf : ∀ x ∈ ys, fits x) :
    Calls Tryd.prog 46 #[.slice A m c, .slice B m cb, .slice X xl e] w fun e w' => e = .returned (.int .i64 (if xl = m then (if refTo (rs.map fun p => p.2) ys n = 0 then expI ys bs 1 else refTo (rs.map fun p => p.2) ys n) else 1)) ∧ Below w.heap.size w w' :=
  refutes_any A B X c cb e m n xl rs bs ys w h.cnt h.m20 h.n20 h.cols h.form h.bl hxl hx h.hdrs (fun p hp => (h.rows p hp).1) h.fit h.b h.bf hX hxf
/-- What came in and was found right is a system. -/
theorem sys_of {w : World} {A B : Option Addr} {l : List (Hdr × List (Int × Int))} {bl : List (Int × Int)} (hS : HdrsAt w A (l.map fun p => p.1)) (hC : ∀ p ∈ l, CameQ w p) (hB : PsAt w B bl) (h1 : crB l = true) (h2 : formedB (l.map fun p => p.1) bl.length = true) (h3 : (bl.all fun p => chk p.1 p.2) = true) :
    ∃ rs bs, SysQ w A B bl.length (colsN (l.map fun p => p.1)) rs bs ∧ prs bs = bl ∧ l.length = bl.length := by
  unfold crB at h1
  rw [Bool.and_eq_true, List.all_eq_true] at h1
  obtain ⟨rs, e1, e2, e3⟩ := rows_of h1.1
  obtain ⟨bs, b1, b2⟩ := prs_of h3
  have hf := h2
  unfold formedB at hf
  simp only [Bool.and_eq_true, decide_eq_true_eq] at hf
  obtain ⟨⟨⟨f1, f2⟩, f3⟩, f4⟩ := hf
  rw [List.length_map] at f1 f3
  have hlen : rs.length = l.length := by rw [← e2, List.length_map]
  refine ⟨rs, bs, ⟨by omega, by omega, f2, by rw [e1], by rw [e1]; exact h2, by rw [e1]; exact hS, fun p hp => ?_, e3, by rw [← b1, prs_length], by rw [b1]; exact hB, b2⟩, b1, f3.symm⟩
  have hm : (p.1, prs p.2) ∈ l := by rw [← e2]; exact List.mem_map.2 ⟨p, hp, rfl⟩
  have hc := hC _ hm
  have hlc : p.1.2.1 = colsN (l.map fun p => p.1) := by
    unfold allB at f4
    have := List.all_eq_true.1 f4 p.1 (List.mem_map.2 ⟨_, hm, rfl⟩)
    exact of_decide_eq_true this
  have hl2 : p.1.2.1 = (prs p.2).length := hc.raw.len
  rw [prs_length] at hl2
  exact ⟨⟨hlc, by omega, hc.raw.lies⟩, hc.void⟩
set_option maxRecDepth 100000 in
set_option maxHeartbeats 6400000 in
theorem certLaw_any (A B X Y : Option Addr) (c d e f : Nat) (l : List (Hdr × List (Int × Int))) (bl xl yl : List (Int × Int)) (w : World) (hl : l.length ≤ 140737488355328) (hbl : bl.length ≤ 140737488355328) (hxl : xl.length ≤ 140737488355328) (hyl : yl.length ≤ 140737488355328) (hcb : bl.length ≤ d)
    (hS : HdrsAt w A (l.map fun p => p.1)) (hC : ∀ p ∈ l, CameQ w p) (hB : PsAt w B bl) (hX : PsAt w X xl) (hY : PsAt w Y yl) (hq : QW w) :
    Calls Tryd.prog 9 #[.slice A l.length c, .slice B bl.length d, .slice X xl.length e, .slice Y yl.length f] w fun e w' => e = .returned (.bool true) ∧ Below w.heap.size w w' := by
  have HQ := Lib.hid hq
  have K1 := Lib.hid (rcheckRows_any A c l w hl hS (fun p hp => (hC p hp).raw))
  obtain ⟨P1, hP1⟩ : ∃ A, Hid (crB l = A) := ⟨_, rfl⟩
  rw [hP1.out] at K1
  obtain ⟨P2, hP2⟩ : ∃ A, Hid (formedB (l.map fun p => p.1) bl.length = A) := ⟨_, rfl⟩
  have K2 : Hid (P1 = true → ∀ w', Below w.heap.size w w' → Calls Tryd.prog 48 #[.slice A l.length c, .slice B bl.length d] w' fun e w'' => e = .returned (.bool P2) ∧ Below w'.heap.size w' w'') := by
    have : P1 = true → ∀ w', Below w.heap.size w w' → Calls Tryd.prog 48 #[.slice A l.length c, .slice B bl.length d] w' fun e w'' => e = .returned (.bool P2) ∧ Below w'.heap.size w' w'' := fun hp w' hb => by
      have h := rformed_any A B c bl.length d (l.map fun p => p.1) w' (by rw [List.length_map]; exact hl) hbl (hS.next hb) (fun h hh => by
        obtain ⟨p, hp2, rfl⟩ := List.mem_map.1 hh
        have h1 := hP1.out.trans hp
        unfold crB at h1
        rw [Bool.and_eq_true, List.all_eq_true] at h1
        have h2 := h1.1 p hp2
        unfold rowOk at h2
        rw [Bool.and_eq_true, decide_eq_true_eq] at h2
        have := (hC p hp2).raw.len
        omega)
      rw [List.length_map, hP2.out] at h
      exact h
    exact this
  have K3 := Lib.hid (fun w hB => rcheckAll_any B d bl w (by omega) hB)
  have K4 := Lib.hid (fun w hB => rcheckAll_any X e xl w (by omega) hB)
  have K5 := Lib.hid (fun w hB => rcheckAll_any Y f yl w (by omega) hB)
  obtain ⟨P3, hP3⟩ : ∃ A, Hid ((bl.all fun p => chk p.1 p.2) = A) := ⟨_, rfl⟩
  obtain ⟨P4, hP4⟩ : ∃ A, Hid ((xl.all fun p => chk p.1 p.2) = A) := ⟨_, rfl⟩
  obtain ⟨P5, hP5⟩ : ∃ A, Hid ((yl.all fun p => chk p.1 p.2) = A) := ⟨_, rfl⟩
  rw [hP3.out] at K3
  rw [hP4.out] at K4
  rw [hP5.out] at K5
  have HSYS := Lib.hid (fun h1 h2 h3 => sys_of hS hC hB h1 h2 h3)
  have HB := Lib.hid hB
  have HX := Lib.hid hX
  have HY := Lib.hid hY
  obtain ⟨ln, hln⟩ : ∃ n, Hid (l.length = n) := ⟨_, rfl⟩
  obtain ⟨bn, hbn⟩ : ∃ n, Hid (bl.length = n) := ⟨_, rfl⟩
  obtain ⟨xn, hxn⟩ : ∃ n, Hid (xl.length = n) := ⟨_, rfl⟩
  obtain ⟨yn, hyn⟩ : ∃ n, Hid (yl.length = n) := ⟨_, rfl⟩
  rw [hln.out] at K1 K2 HSYS hl ⊢
  rw [hbn.out] at K2 K3 hP2 HSYS hbl hcb ⊢
  rw [hxn.out] at K4 hxl ⊢
  rw [hyn.out] at K5 hyl ⊢
  clear hS hC hB hX hY hq
  go_enter Tryd.func9, Tryd.ntmps9
  have hbe := Below.refl w.heap.size w
  go_wp2_with fail
  (with_reducible refine (K1.out).mono ?_)
  rintro e w1 ⟨rfl, hb1⟩
  have hbe := below_join hbe hb1
  clear hb1
  rcases P1 with _ | _
  · skip
    go_wp2_with fail
    (with_reducible refine (sanity_any _ (HQ.out.next hbe)).mono ?_)
    rintro e w2 ⟨rfl, hb2⟩
    have hbe := below_join hbe hb2
    clear hb2
    go_wp2
    go_ret
    exact ⟨rfl, hbe⟩
  · skip
    go_wp2_with fail
    (with_reducible refine (K2.out (by first | rfl | trivial) _ hbe).mono ?_)
    rintro e w2 ⟨rfl, hb2⟩
    have hbe := below_join hbe hb2
    clear hb2
    rcases P2 with _ | _
    · skip
      go_wp2_with fail
      (with_reducible refine (sanity_any _ (HQ.out.next hbe)).mono ?_)
      rintro e w3 ⟨rfl, hb3⟩
      have hbe := below_join hbe hb3
      clear hb3
      go_wp2
      go_ret
      exact ⟨rfl, hbe⟩
    · skip
      by_cases gxn : xn ≤ 25
      · skip
        have gxnb : decide (25 < (xn : Int)) = false := decide_eq_false (by omega)
        have gxnc : ¬ (25 : Int) < (xn : Int) := by omega
        by_cases gyn : yn ≤ 25
        · skip
          have gynb : decide (25 < (yn : Int)) = false := decide_eq_false (by omega)
          have gync : ¬ (25 : Int) < (yn : Int) := by omega
          go_wp2_with fail
          (with_reducible refine (K3.out _ (HB.out.next hbe)).mono ?_)
          rintro e w3 ⟨rfl, hb3⟩
          have hbe := below_join hbe hb3
          clear hb3
          rcases P3 with _ | _
          · skip
            go_wp2_with fail
            (with_reducible refine (sanity_any _ (HQ.out.next hbe)).mono ?_)
            rintro e w4 ⟨rfl, hb4⟩
            have hbe := below_join hbe hb4
            clear hb4
            go_wp2
            go_ret
            exact ⟨rfl, hbe⟩
          · skip
            go_wp2_with fail
            (with_reducible refine (K4.out _ (HX.out.next hbe)).mono ?_)
            rintro e w4 ⟨rfl, hb4⟩
            have hbe := below_join hbe hb4
            clear hb4
            rcases P4 with _ | _
            · skip
              go_wp2_with fail
              (with_reducible refine (sanity_any _ (HQ.out.next hbe)).mono ?_)
              rintro e w5 ⟨rfl, hb5⟩
              have hbe := below_join hbe hb5
              clear hb5
              go_wp2
              go_ret
              exact ⟨rfl, hbe⟩
            · skip
              go_wp2_with fail
              (with_reducible refine (K5.out _ (HY.out.next hbe)).mono ?_)
              rintro e w5 ⟨rfl, hb5⟩
              have hbe := below_join hbe hb5
              clear hb5
              rcases P5 with _ | _
              · skip
                go_wp2_with fail
                (with_reducible refine (sanity_any _ (HQ.out.next hbe)).mono ?_)
                rintro e w6 ⟨rfl, hb6⟩
                have hbe := below_join hbe hb6
                clear hb6
                go_wp2
                go_ret
                exact ⟨rfl, hbe⟩
              · skip
                obtain ⟨rs, bs, hsys, hbs, hlb⟩ := HSYS.out hP1.out hP2.out hP3.out
                obtain ⟨xs, hxs, fx⟩ := prs_of hP4.out
                obtain ⟨ys, hys, fy⟩ := prs_of hP5.out
                have hxsl : xs.length = xn := by rw [← hxn.out, ← hxs, prs_length]
                have hysl : ys.length = yn := by rw [← hyn.out, ← hys, prs_length]
                subst hlb
                rw [← hxs] at HX
                rw [← hys] at HY
                obtain ⟨n, hn⟩ : ∃ n, colsN (l.map fun p => p.1) = n := ⟨_, rfl⟩
                rw [hn] at hsys
                obtain ⟨hw1, hw2⟩ := hsys.wide
                have HSY := Lib.hid hsys
                have HFX := Lib.hid fx
                have HFY := Lib.hid fy
                have HXL := Lib.hid hxsl
                have HYL := Lib.hid hysl
                have hfr := found_right hw1 hw2 hsys.bl
                obtain ⟨al, hal⟩ : ∃ al, (rs.map fun p => p.2) = al := ⟨_, rfl⟩
                obtain ⟨Z, hZ⟩ : ∃ Z, tabC ln al bs = Z := ⟨_, rfl⟩
                have CH : Hid (∀ (X : Option Addr) (e xn : Nat) (xs : List Rat) (w' : World), Below w.heap.size w w' → xs.length = xn → xn ≤ 140737488355328 → PsAt w' X (prs xs) → (∀ x ∈ xs, fits x) → Calls Tryd.prog 44 #[.slice A ln c, .slice B ln d, .slice X xn e] w' fun e w'' => e = .returned (.int .i64 (if xn = n then holdsTo al bs xs ln else 1)) ∧ Below w'.heap.size w' w'') := by
                  have : ∀ (X : Option Addr) (e xn : Nat) (xs : List Rat) (w' : World), Below w.heap.size w w' → xs.length = xn → xn ≤ 140737488355328 → PsAt w' X (prs xs) → (∀ x ∈ xs, fits x) → Calls Tryd.prog 44 #[.slice A ln c, .slice B ln d, .slice X xn e] w' fun e w'' => e = .returned (.int .i64 (if xn = n then holdsTo al bs xs ln else 1)) ∧ Below w'.heap.size w' w'' := fun X e xn xs w' hb h1 h2 h3 h4 => by
                    rw [← hal]
                    exact sys_holds (hsys.next hb) h1 h2 h3 h4
                  exact this
                have CR : Hid (∀ (X : Option Addr) (e xn : Nat) (xs : List Rat) (w' : World), Below w.heap.size w w' → xs.length = xn → xn ≤ 140737488355328 → PsAt w' X (prs xs) → (∀ x ∈ xs, fits x) → Calls Tryd.prog 46 #[.slice A ln c, .slice B ln d, .slice X xn e] w' fun e w'' => e = .returned (.int .i64 (if xn = ln then (if refTo al xs n = 0 then expI xs bs 1 else refTo al xs n) else 1)) ∧ Below w'.heap.size w' w'') := by
                  have : ∀ (X : Option Addr) (e xn : Nat) (xs : List Rat) (w' : World), Below w.heap.size w w' → xs.length = xn → xn ≤ 140737488355328 → PsAt w' X (prs xs) → (∀ x ∈ xs, fits x) → Calls Tryd.prog 46 #[.slice A ln c, .slice B ln d, .slice X xn e] w' fun e w'' => e = .returned (.int .i64 (if xn = ln then (if refTo al xs n = 0 then expI xs bs 1 else refTo al xs n) else 1)) ∧ Below w'.heap.size w' w'' := fun X e xn xs w' hb h1 h2 h3 h4 => by
                    rw [← hal]
                    exact sys_refutes (hsys.next hb) h1 h2 h3 h4
                  exact this
                have HSO := Lib.hid (fun w' (hb : Below w.heap.size w w') => sys_solve (c := c) (hsys.next hb) hcb)
                rw [hal, hZ] at HSO
                rw [hal, hZ] at hfr
                rw [hal] at hw1 hw2
                have hmn : n ≤ 20 ∧ ln ≤ 20 := ⟨hsys.n20, hsys.m20⟩
                have hbl2 := hsys.bl
                have HM := Lib.hid (⟨hw1, hw2, hbl2⟩ : al.length = ln ∧ (∀ a ∈ al, a.length = n) ∧ bs.length = ln)
                have hHX : Hid ((if xn = n then holdsTo al bs xs ln else 1) = 0 → Sol Z ln n xs) := by
                  have : (if xn = n then holdsTo al bs xs ln else 1) = 0 → Sol Z ln n xs := fun h => by
                    by_cases e : xn = n
                    · rw [if_pos e] at h
                      rw [← hZ]
                      exact holds_zero hw1 hw2 hbl2 (by omega) h
                    · rw [if_neg e] at h; cases h
                  exact this
                have hRY : Hid ((if yn = ln then (if refTo al ys n = 0 then expI ys bs 1 else refTo al ys n) else 1) = 0 → Ref Z ln n ys) := by
                  have : (if yn = ln then (if refTo al ys n = 0 then expI ys bs 1 else refTo al ys n) else 1) = 0 → Ref Z ln n ys := fun h => by
                    by_cases e : yn = ln
                    · rw [if_pos e] at h
                      by_cases e2 : refTo al ys n = 0
                      · rw [if_pos e2] at h
                        rw [← hZ]
                        exact ref_zero hw1 hw2 hbl2 (by omega) e2 h
                      · rw [if_neg e2] at h; exact absurd h e2
                    · rw [if_neg e] at h; cases h
                  exact this
                have C1 := Lib.hid (fun w' hb hP => CH.out X e xn xs w' hb hxsl (by omega) hP fx)
                have C2 := Lib.hid (fun w' hb hP => CR.out Y f yn ys w' hb hysl (by omega) hP fy)
                obtain ⟨h1, hh1⟩ : ∃ h, (if xn = n then holdsTo al bs xs ln else 1) = h := ⟨_, rfl⟩
                obtain ⟨r1, hr1⟩ : ∃ h, (if yn = ln then (if refTo al ys n = 0 then expI ys bs 1 else refTo al ys n) else 1) = h := ⟨_, rfl⟩
                rw [hh1] at C1 hHX
                rw [hr1] at C2 hRY
                obtain ⟨Fd, hFd⟩ : ∃ Fd, solveM Z n = Fd := ⟨_, rfl⟩
                rw [hFd] at HSO hfr
                have HFR := Lib.hid hfr
                have HZ := Lib.hid hZ
                clear hfr hFd hh1 hr1 hsys hw1 hw2 hbl2 hxsl hysl fx fy hxs hys hbs hn hal hZ
                go_wp2_with fail
                (with_reducible refine (HSO.out _ hbe).mono ?_)
                rintro e0 w6 ⟨hb6, hR⟩
                have hbe := below_join hbe hb6
                cases Fd with
                | large =>
                  obtain rfl := (show e0 = _ from hR)
                  clear hR
                  go_wp2_with fail
                  (with_reducible refine (C1.out _ hbe (HX.out.next hbe)).mono ?_)
                  rintro e w7 ⟨rfl, hb7⟩
                  have hbe := below_join hbe hb7
                  clear hb7
                  by_cases h0 : h1 = 0
                  · skip
                    subst h0
                    have hsol := hHX.out (by first | rfl | trivial)
                    have hrne : r1 ≠ 0 := fun h => not_both hsol (hRY.out h)
                    have hrb : (r1 == 0) = false := beq_eq_false_iff_ne.2 hrne
                    clear hsol hrne
                    go_wp2_with fail
                    (with_reducible refine (sanity_any _ (HQ.out.next hbe)).mono ?_)
                    rintro e w8 ⟨rfl, hb8⟩
                    have hbe := below_join hbe hb8
                    clear hb8
                    go_wp2_with fail
                    (with_reducible refine (C2.out _ hbe (HY.out.next hbe)).mono ?_)
                    rintro e w9 ⟨rfl, hb9⟩
                    have hbe := below_join hbe hb9
                    clear hb9
                    go_wp2
                    go_ret
                    exact ⟨rfl, hbe⟩
                  · skip
                    have h0b : (h1 == 0) = false := beq_eq_false_iff_ne.2 h0
                    clear h0
                    go_wp2_with fail
                    (with_reducible refine (sanity_any _ (HQ.out.next hbe)).mono ?_)
                    rintro e w8 ⟨rfl, hb8⟩
                    have hbe := below_join hbe hb8
                    clear hb8
                    go_wp2
                    go_ret
                    exact ⟨rfl, hbe⟩
                | numbers xx =>
                  obtain ⟨gz, rfl, _, hxx, hfx2, hBx⟩ := (show ∃ g, e0 = .returned (.tuple #[.slice (some ⟨g, 0, none⟩) n n, .slice none 0 0, .int .i64 0]) ∧ _ from hR)
                  have PX := psAt_blk (l := prs xx) hBx
                  have hval : (if n = n then holdsTo al bs xx ln else 1) = 0 ∨ (if n = n then holdsTo al bs xx ln else 1) = 17 := by
                    rw [if_pos rfl]
                    have hs : Sol Z ln n xx := HFR.out
                    rw [← HZ.out] at hs
                    exact sol_holds HM.out.1 HM.out.2.1 HM.out.2.2 hxx hs ln (Nat.le_refl _)
                  have C3 := Lib.hid (fun w' hb hP => CH.out (some ⟨gz, 0, none⟩) n n xx w' hb hxx (by omega) hP hfx2)
                  obtain ⟨h2, hh2⟩ : ∃ h, (if n = n then holdsTo al bs xx ln else 1) = h := ⟨_, rfl⟩
                  rw [hh2] at C3 hval
                  clear hh2 hBx hfx2 hxx hR
                  go_wp2_with fail
                  (with_reducible refine (C3.out _ hbe PX).mono ?_)
                  rintro e w7 ⟨rfl, hb7⟩
                  have PX := PX.next hb7
                  have hbe := below_join hbe hb7
                  clear hb7
                  clear PX
                  clear C3
                  rcases hval with rfl | rfl
                  · skip
                    go_wp2_with fail
                    (with_reducible refine (C1.out _ hbe (HX.out.next hbe)).mono ?_)
                    rintro e w8 ⟨rfl, hb8⟩
                    have hbe := below_join hbe hb8
                    clear hb8
                    by_cases h0 : h1 = 0
                    · skip
                      subst h0
                      have hsol := hHX.out (by first | rfl | trivial)
                      have hrne : r1 ≠ 0 := fun h => not_both hsol (hRY.out h)
                      have hrb : (r1 == 0) = false := beq_eq_false_iff_ne.2 hrne
                      clear hsol hrne
                      go_wp2_with fail
                      (with_reducible refine (sanity_any _ (HQ.out.next hbe)).mono ?_)
                      rintro e w9 ⟨rfl, hb9⟩
                      have hbe := below_join hbe hb9
                      clear hb9
                      go_wp2_with fail
                      (with_reducible refine (C2.out _ hbe (HY.out.next hbe)).mono ?_)
                      rintro e w10 ⟨rfl, hb10⟩
                      have hbe := below_join hbe hb10
                      clear hb10
                      go_wp2
                      go_ret
                      exact ⟨rfl, hbe⟩
                    · skip
                      have h0b : (h1 == 0) = false := beq_eq_false_iff_ne.2 h0
                      clear h0
                      go_wp2_with fail
                      (with_reducible refine (sanity_any _ (HQ.out.next hbe)).mono ?_)
                      rintro e w9 ⟨rfl, hb9⟩
                      have hbe := below_join hbe hb9
                      clear hb9
                      go_wp2
                      go_ret
                      exact ⟨rfl, hbe⟩
                  · skip
                    go_wp2_with fail
                    (with_reducible refine (C1.out _ hbe (HX.out.next hbe)).mono ?_)
                    rintro e w8 ⟨rfl, hb8⟩
                    have hbe := below_join hbe hb8
                    clear hb8
                    by_cases h0 : h1 = 0
                    · skip
                      subst h0
                      have hsol := hHX.out (by first | rfl | trivial)
                      have hrne : r1 ≠ 0 := fun h => not_both hsol (hRY.out h)
                      have hrb : (r1 == 0) = false := beq_eq_false_iff_ne.2 hrne
                      clear hsol hrne
                      go_wp2_with fail
                      (with_reducible refine (sanity_any _ (HQ.out.next hbe)).mono ?_)
                      rintro e w9 ⟨rfl, hb9⟩
                      have hbe := below_join hbe hb9
                      clear hb9
                      go_wp2_with fail
                      (with_reducible refine (C2.out _ hbe (HY.out.next hbe)).mono ?_)
                      rintro e w10 ⟨rfl, hb10⟩
                      have hbe := below_join hbe hb10
                      clear hb10
                      go_wp2
                      go_ret
                      exact ⟨rfl, hbe⟩
                    · skip
                      have h0b : (h1 == 0) = false := beq_eq_false_iff_ne.2 h0
                      clear h0
                      go_wp2_with fail
                      (with_reducible refine (sanity_any _ (HQ.out.next hbe)).mono ?_)
                      rintro e w9 ⟨rfl, hb9⟩
                      have hbe := below_join hbe hb9
                      clear hb9
                      go_wp2
                      go_ret
                      exact ⟨rfl, hbe⟩
                | marks yy =>
                  obtain ⟨gz, oz, cz, rfl, _, hyy, hfy2, hBy⟩ := (show ∃ g o c, e0 = .returned (.tuple #[.slice none 0 0, .slice (some ⟨g, o, none⟩) ln c, .int .i64 20]) ∧ _ from hR)
                  have PY := psAt_cells hBy
                  have HREF : Hid (Ref Z ln n yy) := HFR.out
                  have hval : (if ln = ln then (if refTo al yy n = 0 then expI yy bs 1 else refTo al yy n) else 1) = 0 ∨ (if ln = ln then (if refTo al yy n = 0 then expI yy bs 1 else refTo al yy n) else 1) = 17 := by
                    rw [if_pos rfl]
                    have hs := HREF.out
                    rw [← HZ.out] at hs
                    exact ref_refutes HM.out.1 HM.out.2.1 HM.out.2.2 hyy hs
                  have C3 := Lib.hid (fun w' hb hP => CR.out (some ⟨gz, oz, none⟩) cz ln yy w' hb hyy (by omega) hP hfy2)
                  obtain ⟨h2, hh2⟩ : ∃ h, (if ln = ln then (if refTo al yy n = 0 then expI yy bs 1 else refTo al yy n) else 1) = h := ⟨_, rfl⟩
                  rw [hh2] at C3 hval
                  clear hh2 hBy hfy2 hyy hR
                  go_wp2_with fail
                  (with_reducible refine (C3.out _ hbe PY).mono ?_)
                  rintro e w7 ⟨rfl, hb7⟩
                  have PY := PY.next hb7
                  have hbe := below_join hbe hb7
                  clear hb7
                  clear PY
                  clear C3
                  rcases hval with rfl | rfl
                  · skip
                    go_wp2_with fail
                    (with_reducible refine (C1.out _ hbe (HX.out.next hbe)).mono ?_)
                    rintro e w8 ⟨rfl, hb8⟩
                    have hbe := below_join hbe hb8
                    clear hb8
                    by_cases h0 : h1 = 0
                    · skip
                      subst h0
                      have hsol := hHX.out (by first | rfl | trivial)
                      exact absurd HREF.out (fun hr => not_both hsol hr)
                    · skip
                      have h0b : (h1 == 0) = false := beq_eq_false_iff_ne.2 h0
                      clear h0
                      go_wp2_with fail
                      (with_reducible refine (sanity_any _ (HQ.out.next hbe)).mono ?_)
                      rintro e w9 ⟨rfl, hb9⟩
                      have hbe := below_join hbe hb9
                      clear hb9
                      go_wp2
                      go_ret
                      exact ⟨rfl, hbe⟩
                  · skip
                    go_wp2_with fail
                    (with_reducible refine (C1.out _ hbe (HX.out.next hbe)).mono ?_)
                    rintro e w8 ⟨rfl, hb8⟩
                    have hbe := below_join hbe hb8
                    clear hb8
                    by_cases h0 : h1 = 0
                    · skip
                      subst h0
                      have hsol := hHX.out (by first | rfl | trivial)
                      exact absurd HREF.out (fun hr => not_both hsol hr)
                    · skip
                      have h0b : (h1 == 0) = false := beq_eq_false_iff_ne.2 h0
                      clear h0
                      go_wp2_with fail
                      (with_reducible refine (sanity_any _ (HQ.out.next hbe)).mono ?_)
                      rintro e w9 ⟨rfl, hb9⟩
                      have hbe := below_join hbe hb9
                      clear hb9
                      go_wp2
                      go_ret
                      exact ⟨rfl, hbe⟩
        · skip
          have gynb : decide (25 < (yn : Int)) = true := decide_eq_true (by omega)
          have gync : (25 : Int) < (yn : Int) := by omega
          go_wp2_with fail
          (with_reducible refine (sanity_any _ (HQ.out.next hbe)).mono ?_)
          rintro e w3 ⟨rfl, hb3⟩
          have hbe := below_join hbe hb3
          clear hb3
          go_wp2
          go_ret
          exact ⟨rfl, hbe⟩
      · skip
        have gxnb : decide (25 < (xn : Int)) = true := decide_eq_true (by omega)
        have gxnc : (25 : Int) < (xn : Int) := by omega
        go_wp2_with fail
        (with_reducible refine (sanity_any _ (HQ.out.next hbe)).mono ?_)
        rintro e w3 ⟨rfl, hb3⟩
        have hbe := below_join hbe hb3
        clear hb3
        go_wp2
        go_ret
        exact ⟨rfl, hbe⟩
end Go.Proofs.YthjaelopmfjfeaaDoor
