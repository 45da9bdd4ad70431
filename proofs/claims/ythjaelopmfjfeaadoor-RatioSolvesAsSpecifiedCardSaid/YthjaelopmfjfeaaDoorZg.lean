/-
  Contract of the walk over the reference's clear. Conditions: the worker lies there.
-/
import Derived.Test.YthjaelopmfjfeaaDoorZf
namespace Go.Proofs.YthjaelopmfjfeaaDoor
set_option linter.unusedVariables false
set_option linter.unusedSimpArgs false
open Go.RowKit Go.Shelf
set_option linter.unusedVariables false

/-- What clear makes of the table. -/
def clearM (u c : Nat) (C : List (List Rat)) : Option (List (List Rat)) :=
  (opTo (fun _ x => okQ (x / at2 C u c)) 0 ((C[u]?).getD [])).bind fun h => mapO (rowF u c h) 0 (C.set u h)
theorem set_same {α : Type} {l : List α} {i : Nat} {x : α} (h : l[i]? = some x) : l.set i x = l := by
  obtain ⟨hi, e⟩ := List.getElem?_eq_some_iff.1 h
  rw [← e]
  exact List.set_getElem_self hi
theorem rowZ_len {l : List Rat} {N : Nat} {R : List Value} (h : l.length = N) {k : Nat} (hk : k < N) : k * 2 + 2 ≤ (rowC l ++ R).length := by rw [List.length_append, rowC_length, h]; omega
theorem okQ_yes {q : Rat} (h : fits q) : okQ q = some q := if_pos h
theorem okQ_no {q : Rat} (h : ¬ fits q) : okQ q = none := if_neg h
/-- What lies from T on and below B is as it was. -/
structure Mid (B T : Nat) (a b : World) : Prop where
  below : Below B a b
  high : ∀ k, T ≤ k → k < a.heap.size → b.heap[k]? = a.heap[k]?
theorem Mid.of {B T : Nat} {a b : World} (h : Below a.heap.size a b) (hB : B ≤ a.heap.size) : Mid B T a b := ⟨h.mono hB, fun k _ hk => h.block k hk⟩
theorem Mid.low {B T : Nat} {a b c : World} (h : Mid B T a b) (hb : Below b.heap.size b c) (hB : B ≤ b.heap.size) : Mid B T a c :=
  ⟨h.below.trans (hb.mono hB), fun k h1 h2 => (hb.block k (Nat.lt_of_lt_of_le h2 h.below.size)).trans (h.high k h1 h2)⟩
theorem Mid.only {B T : Nat} {L : List Nat} {a b c : World} (h : Mid B T a b) (ho : Only L b c) (hL : ∀ k ∈ L, B ≤ k ∧ k < T) (hB : B ≤ b.heap.size) : Mid B T a c :=
  ⟨h.below.trans (ho.below (B := B) (fun k hk => (hL k hk).1) hB), fun k h1 h2 => (ho.block k (Nat.lt_of_lt_of_le h2 h.below.size) (fun hm => by have := (hL k hm).2; omega)).trans (h.high k h1 h2)⟩
theorem Mid.upd {B T g : Nat} {a b c : World} (h : Mid B T a b) (hu : Upd g b c) (hB : B ≤ g) (hg : a.heap.size ≤ g) : Mid B T a c :=
  ⟨h.below.trans (hu.below (B := B) hB), fun k h1 h2 => (hu.block k (by omega)).trans (h.high k h1 h2)⟩
section
variable {B T gw gr N cL : Nat} {J : List Value} {M : List RowM} {C : List (List Rat)} {w w' : World}
theorem RL.hdr (h : RL B T gw gr N cL J M C w) {i : Nat} {r : RowM} (hr : M[i]? = some r) : w.cell? ⟨gr, i, none⟩ = some (rowV N r) :=
  h.hdrs.cell (by rw [List.getElem?_append_left (by rw [List.length_map]; exact (List.getElem?_eq_some_iff.1 hr).1), List.getElem?_map, hr]; rfl)
theorem RX.hdr (h : RX B T gw gr N cL J M w) {i : Nat} {r : RowM} (hr : M[i]? = some r) : w.cell? ⟨gr, i, none⟩ = some (rowV N r) :=
  h.hdrs.cell (by rw [List.getElem?_append_left (by rw [List.length_map]; exact (List.getElem?_eq_some_iff.1 hr).1), List.getElem?_map, hr]; rfl)
theorem RL.put (h : RL B T gw gr N cL J M C w) {i k : Nat} {r : RowM} {l : List Rat} {y : Rat} (hr : M[i]? = some r) (hc : C[i]? = some l) (hk : k < N) (hy : fits y) (ho : Only [r.1, gw] w w')
    (hB : Blk w' r.1 23 (splice (rowC l ++ r.2.2) (k * 2) (qC y))) (he : Blk w' gw 75 [.slice (some ⟨gr, 0, none⟩) M.length cL, .int .i64 0]) : RL B T gw gr N cL J M (C.set i (l.set k y)) w' := by
  obtain ⟨h1, h2, _⟩ := h.rows i r l hr hc
  have h3 := rowR_set (l := prs l) (p := (y.num, (y.den : Int))) (R := r.2.2) (k := k) (by rw [prs_length]; omega)
  rw [prs_set] at h3
  have h4 : splice (rowC l ++ r.2.2) (k * 2) (qC y) = rowC (l.set k y) ++ r.2.2 := h3
  rw [h4] at hB
  refine h.change hr (by rw [List.length_set]; exact h1) (fun x hx => ?_) ho hB he
  rcases List.mem_or_eq_of_mem_set hx with h5 | h5
  · exact h2 x h5
  · rw [h5]; exact hy
theorem RL.putX (h : RL B T gw gr N cL J M C w) {i k : Nat} {r : RowM} {l : List Rat} {a b : Int} (hr : M[i]? = some r) (hc : C[i]? = some l) (hk : k < N) (ho : Only [r.1, gw] w w')
    (hB : Blk w' r.1 23 (splice (rowC l ++ r.2.2) (k * 2) [.int .i64 a, .int .i64 b])) (he : Blk w' gw 75 [.slice (some ⟨gr, 0, none⟩) M.length cL, .int .i64 17]) : RX B T gw gr N cL J M w' := by
  have h1 := (h.rows i r l hr hc).1
  have h4 : splice (rowC l ++ r.2.2) (k * 2) [.int .i64 a, .int .i64 b] = rowR ((prs l).set k (a, b)) ++ r.2.2 := rowR_set (p := (a, b)) (by rw [prs_length]; omega)
  rw [h4] at hB
  exact h.fell hr ho ⟨_, by rw [List.length_set, prs_length]; exact h1, hB⟩ he
theorem RL.toX (h : RL B T gw gr N cL J M C w) (ho : Only [gw] w w') (he : Blk w' gw 75 [.slice (some ⟨gr, 0, none⟩) M.length cL, .int .i64 17]) : RX B T gw gr N cL J M w' :=
  ⟨he, h.hdrs.only ho (by simp; exact h.base.2.2.1), fun j p h1 => by
    have hj : j < C.length := by rw [← h.same]; exact (List.getElem?_eq_some_iff.1 h1).1
    obtain ⟨a, b, c⟩ := h.rows j p C[j] h1 (List.getElem?_eq_getElem hj)
    exact ⟨prs C[j], by rw [prs_length]; exact a, c.only ho (by simp; exact (h.apart j p h1).2.1)⟩, h.apart, h.base⟩
theorem RL.stay (h : RL B T gw gr N cL J M C w) (ho : Only [gw] w w') (he : Blk w' gw 75 [.slice (some ⟨gr, 0, none⟩) M.length cL, .int .i64 0]) : RL B T gw gr N cL J M C w' :=
  ⟨he, h.hdrs.only ho (by simp; exact h.base.2.2.1), h.same, fun i r l h1 h2 => ⟨(h.rows i r l h1 h2).1, (h.rows i r l h1 h2).2.1, (h.rows i r l h1 h2).2.2.only ho (by simp; exact (h.apart i r h1).2.1)⟩, h.diff, h.apart, h.base, h.caps⟩
end
def ClRel (B T gw gr N cL : Nat) (J : List Value) (M : List RowM) (u c : Nat) (C : List (List Rat)) (g6 : Nat) (d : Rat) (l : List Rat) (w0 : World) (i : Value) (wr : World) : Prop :=
  ∃ k : Nat, k ≤ N ∧ i = .int .i64 (k : Int) ∧ Mid B T w0 wr ∧ T ≤ wr.heap.size ∧ Blk wr g6 23 (qC d) ∧
    ((∃ D, D.length = k ∧ opTo (fun _ x => okQ (x / d)) 0 (l.take k) = some D ∧ RL B T gw gr N cL J M (C.set u (D ++ l.drop k)) wr) ∨ (clearM u c C = none ∧ RX B T gw gr N cL J M wr))
def Cl2 (B T gw gr N cL : Nat) (J : List Value) (M : List RowM) (u c m : Nat) (C : List (List Rat)) (d : Rat) (l : List Rat) (w0 : World) (i : Value) (wr : World) : Prop :=
  ∃ k : Nat, k ≤ m ∧ i = .int .i64 (k : Int) ∧ Mid B T w0 wr ∧ T ≤ wr.heap.size ∧
    ((∃ h D, opTo (fun _ x => okQ (x / d)) 0 l = some h ∧ D.length = k ∧ mapO (rowF u c h) 0 ((C.set u h).take k) = some D ∧ RL B T gw gr N cL J M (D ++ (C.set u h).drop k) wr) ∨ (clearM u c C = none ∧ RX B T gw gr N cL J M wr))
def Cl3 (B T gw gr N cL : Nat) (J : List Value) (M : List RowM) (u c : Nat) (C Cm : List (List Rat)) (i g11 : Nat) (y : Rat) (h li : List Rat) (w0 : World) (v : Value) (wr : World) : Prop :=
  ∃ k : Nat, k ≤ N ∧ v = .int .i64 (k : Int) ∧ Mid B T w0 wr ∧ T ≤ wr.heap.size ∧ Blk wr g11 23 (qC y) ∧
    ((∃ E, E.length = k ∧ opTo (subF y h) 0 (li.take k) = some E ∧ RL B T gw gr N cL J M (Cm.set i (E ++ li.drop k)) wr) ∨ (clearM u c C = none ∧ RX B T gw gr N cL J M wr))
set_option maxRecDepth 100000 in
set_option maxHeartbeats 6400000 in
theorem clear_any (B T gw gr N cL u c m : Nat) (J : List Value) (M : List RowM) (C : List (List Rat)) (w : World) (hT : T ≤ w.heap.size) (hBT : B ≤ T) (hm : M.length = m) (hm9 : m ≤ 900) (hum : u < m) (hcN : c < N) (hN : N ≤ 900) (hd : at2 C u c ≠ 0) (hE : RL B T gw gr N cL J M C w) :
    Calls Tryd.prog 66 #[.pointer (some ⟨gw, 0, none⟩), .int .i64 (u : Int), .int .i64 (c : Int)] w fun e w' => e = .returned (.tuple #[]) ∧ Mid B T w w' ∧ T ≤ w'.heap.size ∧ ((∃ D, clearM u c C = some D ∧ RL B T gw gr N cL J M D w') ∨ (clearM u c C = none ∧ RX B T gw gr N cL J M w')) := by
  have HCM := Lib.hid (hE.same.symm.trans hm)
  obtain ⟨r, hr⟩ : ∃ r, M[u]? = some r := ⟨_, List.getElem?_eq_getElem (by omega)⟩
  obtain ⟨l, hl⟩ : ∃ l, C[u]? = some l := ⟨_, List.getElem?_eq_getElem (by have := HCM.out; omega)⟩
  obtain ⟨hll, hlf, hlB⟩ := hE.rows u r l hr hl
  obtain ⟨d, hdx⟩ : ∃ d, l[c]? = some d := ⟨_, List.getElem?_eq_getElem (by omega)⟩
  have hat : at2 C u c = d := by unfold at2; rw [hl, Option.bind_some, hdx]; rfl
  have HCL : Hid (clearM u c C = (opTo (fun _ x => okQ (x / d)) 0 l).bind fun h => mapO (rowF u c h) 0 (C.set u h)) := by
    have : clearM u c C = (opTo (fun _ x => okQ (x / d)) 0 l).bind fun h => mapO (rowF u c h) 0 (C.set u h) := by unfold clearM; rw [hat, hl]; rfl
    exact this
  rw [hat] at hd
  have HD := Lib.hid hd
  have hap := hE.apart u r hr
  obtain ⟨g, cr, R⟩ := r
  dsimp only at hap hlB
  have fd := Lib.hid (hlf d (List.mem_of_getElem? hdx))
  have q0 := hlB.cell (rowR_cell (R := R) (prs_get hdx)).1
  have q1 := hlB.cell (rowR_cell (R := R) (prs_get hdx)).2
  have c0 := hE.wk.cell (k := 0) rfl
  have c1 := hE.hdr hr
  unfold rowV at c1
  dsimp only at c1 q0 q1
  rw [hm] at c0
  have HM := Lib.hid hm
  have HL := Lib.hid hl
  have HR := Lib.hid hr
  have HLL := Lib.hid hll
  have HLF := Lib.hid hlf
  have HE := Lib.hid hE
  have hui : (u : Int) < (m : Int) := by omega
  have hu0 : (0 : Int) ≤ (u : Int) := by omega
  have hci : (c : Int) < (N : Int) := by omega
  have hc0 : (0 : Int) ≤ (c : Int) := by omega
  clear hm hl hr hll hlf hE hdx hat hd hlB
  go_enter Tryd.func66, Tryd.ntmps66
  go_wp2_with (with_reducible refine wpList_alloc (o := ⟨some 6, .alloc 23, _, _, _, _⟩) (by with_unfolding_all rfl) 23 (by with_unfolding_all rfl) (.agg zC.toArray) zC (by exact Tryd.zeroQ) (by with_unfolding_all rfl) ?_)
  intro g6 w1 hg6 hs1 hb1 B6
  have hl6 : w.heap.size ≤ g6 := Nat.le_of_eq hg6.out.symm
  have hb1 := hb1.mono (Nat.le_of_eq hg6.out.symm)
  clear hg6 hs1
  go_wp2_with (with_reducible refine wpList_put (o := ⟨none, .store 23 (.tmp 6) (.tmp 26), _, _, _, _⟩) (by with_unfolding_all rfl) 23 (.tmp 6) (.tmp 26) (by with_unfolding_all rfl) g6 0 (by with_unfolding_all rfl) (.agg [Value.int .i64 d.num, Value.int .i64 (d.den : Int)].toArray) (by with_unfolding_all rfl) B6 [Value.int .i64 d.num, Value.int .i64 (d.den : Int)] (by with_unfolding_all rfl) (by with_unfolding_all (exact Tryd.szQ)) (by with_unfolding_all (exact Nat.le_refl 2)) (by with_unfolding_all (exact int_one _ _)) ?_)
  intro w2 hu2 hB2
  rw [splice_all _ _ (by rfl)] at hB2
  have hbe := hb1.trans (hu2.below (B := w.heap.size) hl6)
  have hI0 := HE.out.keep (hbe.mono hT)
  have HR0 : Hid (ClRel B T gw gr N cL J M u c C g6 d l w (.int .i64 0) w2) := (⟨0, Nat.zero_le _, rfl, Mid.of hbe (Nat.le_trans hBT hT), Nat.le_trans hT hbe.size, hB2, .inl ⟨[], rfl, rfl, by rw [show ([] : List Rat) ++ l.drop 0 = l from rfl, set_same HL.out]; exact hI0⟩⟩ : ClRel B T gw gr N cL J M u c C g6 d l w (.int .i64 0) w2)
  have hT6 : T ≤ g6 := Nat.le_trans hT hl6
  clear hb1 hu2 hB2 hbe hI0 B6 c0 c1 q0 q1 HE hl6
  go_wp2
  go_loopw [7] (ClRel B T gw gr N cL J M u c C g6 d l w) (fun i _ => N - (intOf i).toNat)
  case atStart => exact HR0.out
  case round =>
    clear HR0
    obtain ⟨k, hk, rfl, hbe, hsz, B6, hst⟩ := hrel
    have hk0 : (0 : Int) ≤ (k : Int) := by omega
    by_cases hlt : k < N
    · rcases hst with ⟨D, hD, hop, hI⟩ | ⟨hno, hX⟩
      · skip
        have hki : (k : Int) < (N : Int) := by omega
        have hCu : (C.set u (D ++ l.drop k))[u]? = some (D ++ l.drop k) := List.getElem?_set_self (by have := HCM.out; omega)
        obtain ⟨hcl, hcf, hrow⟩ := hI.rows u _ _ HR.out hCu
        obtain ⟨x, hx⟩ : ∃ x, l[k]? = some x := ⟨_, List.getElem?_eq_getElem (by have := HLL.out; omega)⟩
        have hq : wr.rangeAt g (k * 2) (qC x) := rowR_range hrow (prs_get (mid_get hD hx))
        have c0 := hI.wk.cell (k := 0) rfl
        have cE := hI.wk.cell (k := 1) rfl
        have c1 := hI.hdr HR.out
        rw [HM.out] at c0
        unfold rowV at c1
        dsimp only at c1
        have fx := HLF.out x (List.mem_of_getElem? hx)
        obtain ⟨N1, D1, k1, h1, g1⟩ := ansQ_two (x / d)
        have x1 := fun w => rdiv_any x d w fx fd.out
        rw [show divE x d = ansQ (x / d) from if_neg HD.out, h1] at x1
        obtain ⟨X, hX⟩ : ∃ X, qC x = X := ⟨_, rfl⟩
        obtain ⟨Y, hY⟩ : ∃ X, qC d = X := ⟨_, rfl⟩
        have hzX := Tryd.szQl X (by rw [← hX]; rfl)
        have hzY := Tryd.szQl Y (by rw [← hY]; rfl)
        have hr6 : wr.rangeAt g6 0 (qC d) := blk_range B6
        rw [hX, hY] at x1
        rw [hX] at hq
        rw [hY] at hr6
        have HS : Hid (∀ w', Below wr.heap.size wr w' → w'.cell? ⟨gw, 0, none⟩ = some (.slice (some ⟨gr, 0, none⟩) m cL) ∧ w'.cell? ⟨gr, u, none⟩ = some (.slice (some ⟨g, 0, none⟩) N cr) ∧ w'.rangeAt g (k * 2) X ∧ w'.rangeAt g6 0 Y) :=
          (fun w' h => ⟨cellq_below h c0, cellq_below h c1, range_below hq h, range_below hr6 h⟩ : ∀ w', Below wr.heap.size wr w' → w'.cell? ⟨gw, 0, none⟩ = some (.slice (some ⟨gr, 0, none⟩) m cL) ∧ w'.cell? ⟨gr, u, none⟩ = some (.slice (some ⟨g, 0, none⟩) N cr) ∧ w'.rangeAt g (k * 2) X ∧ w'.rangeAt g6 0 Y)
        have X1 := Lib.hid x1
        have G1 := Lib.hid g1
        have HST := Lib.hid (opTo_step hD hx hop)
        have HLN := Lib.hid hcl
        have HXX := Lib.hid hx
        have HI := Lib.hid hI
        have HDD := Lib.hid hD
        have HCU := Lib.hid hCu
        clear hX hY x1 h1 g1 hop hcl hcf hrow hq hr6 fx hx hI hD hCu
        go_wp2
        have hdd := below_drew wr
        refine wp_region_held_drew (S := fun w' => w'.cell? ⟨gw, 0, none⟩ = some (.slice (some ⟨gr, 0, none⟩) m cL) ∧ w'.cell? ⟨gr, u, none⟩ = some (.slice (some ⟨g, 0, none⟩) N cr) ∧ w'.rangeAt g (k * 2) X ∧ w'.rangeAt g6 0 Y) (by kernel_rfl) (HS.out _ hdd) (fun hHeld => ?_)
        generalize wr.drew = wd at hdd hHeld ⊢
        refine wpAnyH_take (i := 0) (v := ?vab_0) rfl (by kernel_rfl) (by kernel_rfl) (by kernel_rfl) (fun _ _ _ h => h) (Or.inl ⟨by rfl, ?yab_0⟩) (by assumption) ?rab_0
        case yab_0 => intro w hSw; (try dsimp only at hSw); go_simp <;> (try with_reducible rfl)
        (try simp only [List.getElem_toArray, List.getElem_cons_zero, Act.put, List.setIfInBounds_toArray, List.set_cons_zero, List.set_cons_succ])
        refine wpAnyH_take (i := 1) (v := ?vab_1) rfl (by kernel_rfl) (by kernel_rfl) (by kernel_rfl) (fun _ _ _ h => h) (Or.inl ⟨by rfl, ?yab_1⟩) (by assumption) ?rab_1
        case yab_1 => intro w hSw; (try dsimp only at hSw); go_simp <;> (try with_reducible rfl)
        (try simp only [List.getElem_toArray, List.getElem_cons_succ, List.getElem_cons_zero, Act.put, List.setIfInBounds_toArray, List.set_cons_zero, List.set_cons_succ])
        refine wpAnyH_take (i := 2) (v := ?vab_2) rfl (by kernel_rfl) (by kernel_rfl) (by kernel_rfl) (fun _ _ _ h => h) (Or.inl ⟨by rfl, ?yab_2⟩) (by assumption) ?rab_2
        case yab_2 => intro w hSw; (try dsimp only at hSw); go_simp <;> (try with_reducible rfl)
        (try simp only [List.getElem_toArray, List.getElem_cons_succ, List.getElem_cons_zero, Act.put, List.setIfInBounds_toArray, List.set_cons_zero, List.set_cons_succ])
        refine wpAnyH_take (i := 3) (v := ?vab_3) rfl (by kernel_rfl) (by kernel_rfl) (by kernel_rfl) (fun _ _ _ h => h) (Or.inl ⟨by rfl, ?yab_3⟩) (by assumption) ?rab_3
        case yab_3 => intro w hSw; (try dsimp only at hSw); go_simp <;> (try with_reducible rfl)
        (try simp only [List.getElem_toArray, List.getElem_cons_succ, List.getElem_cons_zero, Act.put, List.setIfInBounds_toArray, List.set_cons_zero, List.set_cons_succ])
        refine wpAnyH_take (i := 4) (v := ?vab_4) rfl (by kernel_rfl) (by kernel_rfl) (by kernel_rfl) (fun _ _ _ h => h) (Or.inl ⟨by rfl, ?yab_4⟩) (by assumption) ?rab_4
        case yab_4 => intro w hSw; (try dsimp only at hSw); go_simp <;> (try with_reducible rfl)
        (try simp only [List.getElem_toArray, List.getElem_cons_succ, List.getElem_cons_zero, Act.put, List.setIfInBounds_toArray, List.set_cons_zero, List.set_cons_succ])
        refine wpAnyH_take (i := 5) (v := ?vab_5) rfl (by kernel_rfl) (by kernel_rfl) (by kernel_rfl) (fun _ _ _ h => h) (Or.inl ⟨by rfl, ?yab_5⟩) (by assumption) ?rab_5
        case yab_5 => intro w hSw; (try dsimp only at hSw); go_simp <;> (try with_reducible rfl)
        (try simp only [List.getElem_toArray, List.getElem_cons_succ, List.getElem_cons_zero, Act.put, List.setIfInBounds_toArray, List.set_cons_zero, List.set_cons_succ])
        refine wpAnyH_take (i := 6) (v := ?vab_6) rfl (by kernel_rfl) (by kernel_rfl) (by kernel_rfl) (fun _ _ _ h => h) (Or.inl ⟨by rfl, ?yab_6⟩) (by assumption) ?rab_6
        case yab_6 => intro w hSw; (try dsimp only at hSw); go_simp <;> (try with_reducible rfl)
        (try simp only [List.getElem_toArray, List.getElem_cons_succ, List.getElem_cons_zero, Act.put, List.setIfInBounds_toArray, List.set_cons_zero, List.set_cons_succ])
        refine wpAnyH_take (i := 7) (v := ?vab_7) rfl (by kernel_rfl) (by kernel_rfl) (by kernel_rfl) (fun _ _ _ h => h) (Or.inl ⟨by rfl, ?yab_7⟩) (by assumption) ?rab_7
        case yab_7 => intro w hSw; (try dsimp only at hSw); go_simp <;> (try with_reducible rfl)
        (try simp only [List.getElem_toArray, List.getElem_cons_succ, List.getElem_cons_zero, Act.put, List.setIfInBounds_toArray, List.set_cons_zero, List.set_cons_succ])
        refine wpAnyH_take (i := 8) (v := ?vab_8) rfl (by kernel_rfl) (by kernel_rfl) (by kernel_rfl) (fun _ _ _ h => h) (Or.inl ⟨by rfl, ?yab_8⟩) (by assumption) ?rab_8
        case yab_8 => intro w hSw; (try dsimp only at hSw); go_simp <;> (try with_reducible rfl)
        (try simp only [List.getElem_toArray, List.getElem_cons_succ, List.getElem_cons_zero, Act.put, List.setIfInBounds_toArray, List.set_cons_zero, List.set_cons_succ])
        refine' wpAnyH_take (i := 9) (v := _) rfl (by kernel_rfl) (by kernel_rfl) (by kernel_rfl) (fun _ _ _ h => h) (yieldsIf_load_mid (by rfl) _ _ (by rfl) _ _ (by rfl) _ _ ?Sab_9 ?uab_9 ?dab_9 ?iab_9) (by assumption) ?rab_9
        case Sab_9 => exact (by intro w h; exact h.2.2.1)
        case uab_9 => exact Tryd.underlying23
        case dab_9 => rfl
        case iab_9 => exact hzX
        (try simp only [List.getElem_toArray, List.getElem_cons_succ, List.getElem_cons_zero, Act.put, List.setIfInBounds_toArray, List.set_cons_zero, List.set_cons_succ])
        refine' wpAnyH_take (i := 10) (v := _) rfl (by kernel_rfl) (by kernel_rfl) (by kernel_rfl) (fun _ _ _ h => h) (yieldsIf_load_mid (by rfl) _ _ (by rfl) _ _ (by rfl) _ _ ?Sab_10 ?uab_10 ?dab_10 ?iab_10) (by assumption) ?rab_10
        case Sab_10 => exact (by intro w h; exact h.2.2.2)
        case uab_10 => exact Tryd.underlying23
        case dab_10 => rfl
        case iab_10 => exact hzY
        (try simp only [List.getElem_toArray, List.getElem_cons_succ, List.getElem_cons_zero, Act.put, List.setIfInBounds_toArray, List.set_cons_zero, List.set_cons_succ])
        apply rest2
        · intro hrest
          refine wpAnyH_ready (rs := [11, 15]) (by kernel_rfl) (by simp) ?_
          refine AllReadyH.cons rfl (fun K hK => ?_) (AllReadyH.cons rfl (fun K hK => ?_) AllReadyH.nil)
          · skip
            go_simp
            go_wp2_with fail
            (with_reducible refine (X1.out _).mono ?_)
            rintro e wa ⟨rfl, hba⟩
            have hka := below_join hdd hba
            refine hK.out _ _ (HS.out _ hka) (fun hHeld => ?_)
            clear hK K hba
            refine wpAnyH_take (i := 12) (v := ?vab_x12) rfl (by kernel_rfl) (by kernel_rfl) (by kernel_rfl) (fun _ _ _ h => h) (Or.inl ⟨by rfl, ?yab_x12⟩) (by assumption) ?rab_x12
            case yab_x12 => intro w hSw; (try dsimp only at hSw); go_simp <;> (try with_reducible rfl)
            (try simp only [List.getElem_toArray, List.getElem_cons_succ, List.getElem_cons_zero, Act.put, List.setIfInBounds_toArray, List.set_cons_zero, List.set_cons_succ])
            refine wpAnyH_take (i := 13) (v := ?vab_x13) rfl (by kernel_rfl) (by kernel_rfl) (by kernel_rfl) (fun _ _ _ h => h) (Or.inl ⟨by rfl, ?yab_x13⟩) (by assumption) ?rab_x13
            case yab_x13 => intro w hSw; (try dsimp only at hSw); go_simp <;> (try with_reducible rfl)
            (try simp only [List.getElem_toArray, List.getElem_cons_succ, List.getElem_cons_zero, Act.put, List.setIfInBounds_toArray, List.set_cons_zero, List.set_cons_succ])
            refine wpAnyH_take (i := 14) (v := ?vab_x14) rfl (by kernel_rfl) (by kernel_rfl) (by kernel_rfl) (fun _ _ _ h => h) (Or.inl ⟨by rfl, ?yab_x14⟩) (by assumption) ?rab_x14
            case yab_x14 => intro w hSw; (try dsimp only at hSw); go_simp <;> (try with_reducible rfl)
            (try simp only [List.getElem_toArray, List.getElem_cons_succ, List.getElem_cons_zero, Act.put, List.setIfInBounds_toArray, List.set_cons_zero, List.set_cons_succ])
            refine wpAnyH_ready (rs := [15]) (by kernel_rfl) (by simp) ?_
            refine AllReadyH.cons rfl (fun K hK => ?_) AllReadyH.nil
            rw [if_pos (by rfl)]
            refine wp_allocz 23 rfl (.agg zC.toArray) zC Tryd.zeroQ rfl ?_
            intro g8 wb hg8 hsx hbx B8
            have hbx := hbx.mono (Nat.le_of_eq hg8.out.symm)
            have hkwb := below_join hka hbx
            have hle8 : wr.heap.size ≤ g8 := by have := hka.size; have := hg8.out; omega
            clear hg8 hsx
            refine hK.out _ _ (HS.out _ hkwb) (fun hHeld => ?_)
            clear hK K hbx hka
            have F1 := B8
            have F2 := hkwb
            have F3 := hle8
            have F4 := hHeld
            revert F1 F2 F3 F4
            exact hrest g8 wb
          · skip
            rw [if_pos (by rfl)]
            refine wp_allocz 23 rfl (.agg zC.toArray) zC Tryd.zeroQ rfl ?_
            intro g8 wb hg8 hsx hbx B8
            have hbx := hbx.mono (Nat.le_of_eq hg8.out.symm)
            have hkwb := below_join hdd hbx
            have hle8 : wr.heap.size ≤ g8 := by have := hdd.size; have := hg8.out; omega
            clear hg8 hsx
            refine hK.out _ _ (HS.out _ hkwb) (fun hHeld => ?_)
            clear hK K hbx
            refine wpAnyH_ready (rs := [11]) (by kernel_rfl) (by simp) ?_
            refine AllReadyH.cons rfl (fun K hK => ?_) AllReadyH.nil
            go_simp
            go_wp2_with fail
            (with_reducible refine (X1.out _).mono ?_)
            rintro e wa ⟨rfl, hba⟩
            have hka := below_join hkwb hba
            have B8 := B8.next hba B8.lt
            refine hK.out _ _ (HS.out _ hka) (fun hHeld => ?_)
            clear hK K hba hkwb
            refine wpAnyH_take (i := 12) (v := ?vab_y12) rfl (by kernel_rfl) (by kernel_rfl) (by kernel_rfl) (fun _ _ _ h => h) (Or.inl ⟨by rfl, ?yab_y12⟩) (by assumption) ?rab_y12
            case yab_y12 => intro w hSw; (try dsimp only at hSw); go_simp <;> (try with_reducible rfl)
            (try simp only [List.getElem_toArray, List.getElem_cons_succ, List.getElem_cons_zero, Act.put, List.setIfInBounds_toArray, List.set_cons_zero, List.set_cons_succ])
            refine wpAnyH_take (i := 13) (v := ?vab_y13) rfl (by kernel_rfl) (by kernel_rfl) (by kernel_rfl) (fun _ _ _ h => h) (Or.inl ⟨by rfl, ?yab_y13⟩) (by assumption) ?rab_y13
            case yab_y13 => intro w hSw; (try dsimp only at hSw); go_simp <;> (try with_reducible rfl)
            (try simp only [List.getElem_toArray, List.getElem_cons_succ, List.getElem_cons_zero, Act.put, List.setIfInBounds_toArray, List.set_cons_zero, List.set_cons_succ])
            refine wpAnyH_take (i := 14) (v := ?vab_y14) rfl (by kernel_rfl) (by kernel_rfl) (by kernel_rfl) (fun _ _ _ h => h) (Or.inl ⟨by rfl, ?yab_y14⟩) (by assumption) ?rab_y14
            case yab_y14 => intro w hSw; (try dsimp only at hSw); go_simp <;> (try with_reducible rfl)
            (try simp only [List.getElem_toArray, List.getElem_cons_succ, List.getElem_cons_zero, Act.put, List.setIfInBounds_toArray, List.set_cons_zero, List.set_cons_succ])
            have F1 := B8
            have F2 := hka
            have F3 := hle8
            have F4 := hHeld
            revert F1 F2 F3 F4
            exact hrest g8 wa
        intro g8 wb B8 hkb hle8 hHeld
        refine wpAnyH_ready (rs := [16]) (by kernel_rfl) (by simp) ?_
        refine AllReadyH.cons rfl (fun K hK => ?_) AllReadyH.nil
        rw [if_pos (by rfl)]
        refine wp_put 23 (.tmp 8) (.tmp 59) rfl g8 0 rfl (.agg [Value.int .i64 N1, Value.int .i64 D1].toArray) rfl B8 [Value.int .i64 N1, Value.int .i64 D1] rfl Tryd.szQ (Nat.le_refl 2) (int_one _ _) ?_
        intro wc hux hBx
        rw [splice_all _ _ (by rfl)] at hBx
        clear B8
        have B8 := hBx
        have hkwc := hkb.trans (hux.below (B := wr.heap.size) hle8)
        refine hK.out _ _ (HS.out _ hkwc) (fun hHeld => ?_)
        clear hK K hux hBx hkb hdd
        refine wpAnyH_take (i := 17) (v := ?vab_z17) rfl (by kernel_rfl) (by kernel_rfl) (by kernel_rfl) (fun _ _ _ h => h) (Or.inl ⟨by rfl, ?yab_z17⟩) (by assumption) ?rab_z17
        case yab_z17 => intro w hSw; (try dsimp only at hSw); go_simp <;> (try with_reducible rfl)
        (try simp only [List.getElem_toArray, List.getElem_cons_succ, List.getElem_cons_zero, Act.put, List.setIfInBounds_toArray, List.set_cons_zero, List.set_cons_succ])
        refine wpAnyH_done (by kernel_rfl) ?_ _
        clear hHeld HS X1 hzX hzY c0 c1 cE
        have hI2 := HI.out.keep (hkwc.mono hsz)
        have hszz : T ≤ wc.heap.size := Nat.le_trans hsz hkwc.size
        have hbe2 := hbe.low hkwc (Nat.le_trans hBT hsz)
        have B6b := B6.next hkwc B6.lt
        have hT8 : T ≤ g8 := Nat.le_trans hsz hle8
        clear hbe HI B6
        rcases G1.out with ⟨f1, rfl, rfl, rfl⟩ | ⟨f1, rfl⟩
        · skip
          go_wp2
          have hdd := below_drew wc
          have hI3 := hI2.keep (hdd.mono hszz)
          have hB3 := B8.next hdd B8.lt
          have hgwg : g8 ≠ gw := by have := hI2.base.2.2.2.2; omega
          have hgrg : gr ≠ gw := hI2.base.2.2.1
          have hC0 : wc.drew.cell? ⟨gw, 0, none⟩ = some (.slice (some ⟨gr, 0, none⟩) m cL) := by have h := hI3.wk.cell (k := 0) rfl; rw [HM.out] at h; exact h
          refine wp_region_held_drew (S := fun w' => w'.cell? ⟨gw, 0, none⟩ = some (.slice (some ⟨gr, 0, none⟩) m cL) ∧ w'.cell? ⟨gr, u, none⟩ = some (.slice (some ⟨g, 0, none⟩) N cr) ∧ w'.rangeAt g8 0 [Value.int .i64 (x / d).num, Value.int .i64 ((x / d).den : Int)]) (by kernel_rfl) ⟨hC0, hI3.hdr HR.out, blk_range hB3⟩ (fun hHeld => ?_)
          clear hC0
          generalize wc.drew = wd at hdd hI3 hB3 hHeld ⊢
          refine wpAnyH_take (i := 0) (v := ?vac_0) rfl (by kernel_rfl) (by kernel_rfl) (by kernel_rfl) (fun _ _ _ h => h) (Or.inl ⟨by rfl, ?yac_0⟩) (by assumption) ?rac_0
          case yac_0 => intro w hSw; (try dsimp only at hSw); go_simp <;> (try with_reducible rfl)
          (try simp only [List.getElem_toArray, List.getElem_cons_zero, Act.put, List.setIfInBounds_toArray, List.set_cons_zero, List.set_cons_succ])
          refine wpAnyH_take (i := 1) (v := ?vac_1) rfl (by kernel_rfl) (by kernel_rfl) (by kernel_rfl) (fun _ _ _ h => h) (Or.inl ⟨by rfl, ?yac_1⟩) (by assumption) ?rac_1
          case yac_1 => intro w hSw; (try dsimp only at hSw); go_simp <;> (try with_reducible rfl)
          (try simp only [List.getElem_toArray, List.getElem_cons_succ, List.getElem_cons_zero, Act.put, List.setIfInBounds_toArray, List.set_cons_zero, List.set_cons_succ])
          refine wpAnyH_take (i := 2) (v := ?vac_2) rfl (by kernel_rfl) (by kernel_rfl) (by kernel_rfl) (fun _ _ _ h => h) (Or.inl ⟨by rfl, ?yac_2⟩) (by assumption) ?rac_2
          case yac_2 => intro w hSw; (try dsimp only at hSw); go_simp <;> (try with_reducible rfl)
          (try simp only [List.getElem_toArray, List.getElem_cons_succ, List.getElem_cons_zero, Act.put, List.setIfInBounds_toArray, List.set_cons_zero, List.set_cons_succ])
          refine wpAnyH_take (i := 3) (v := ?vac_3) rfl (by kernel_rfl) (by kernel_rfl) (by kernel_rfl) (fun _ _ _ h => h) (Or.inl ⟨by rfl, ?yac_3⟩) (by assumption) ?rac_3
          case yac_3 => intro w hSw; (try dsimp only at hSw); go_simp <;> (try with_reducible rfl)
          (try simp only [List.getElem_toArray, List.getElem_cons_succ, List.getElem_cons_zero, Act.put, List.setIfInBounds_toArray, List.set_cons_zero, List.set_cons_succ])
          refine wpAnyH_take (i := 4) (v := ?vac_4) rfl (by kernel_rfl) (by kernel_rfl) (by kernel_rfl) (fun _ _ _ h => h) (Or.inl ⟨by rfl, ?yac_4⟩) (by assumption) ?rac_4
          case yac_4 => intro w hSw; (try dsimp only at hSw); go_simp <;> (try with_reducible rfl)
          (try simp only [List.getElem_toArray, List.getElem_cons_succ, List.getElem_cons_zero, Act.put, List.setIfInBounds_toArray, List.set_cons_zero, List.set_cons_succ])
          refine wpAnyH_take (i := 5) (v := ?vac_5) rfl (by kernel_rfl) (by kernel_rfl) (by kernel_rfl) (fun _ _ _ h => h) (Or.inl ⟨by rfl, ?yac_5⟩) (by assumption) ?rac_5
          case yac_5 => intro w hSw; (try dsimp only at hSw); go_simp <;> (try with_reducible rfl)
          (try simp only [List.getElem_toArray, List.getElem_cons_succ, List.getElem_cons_zero, Act.put, List.setIfInBounds_toArray, List.set_cons_zero, List.set_cons_succ])
          refine wpAnyH_take (i := 6) (v := ?vac_6) rfl (by kernel_rfl) (by kernel_rfl) (by kernel_rfl) (fun _ _ _ h => h) (Or.inl ⟨by rfl, ?yac_6⟩) (by assumption) ?rac_6
          case yac_6 => intro w hSw; (try dsimp only at hSw); go_simp <;> (try with_reducible rfl)
          (try simp only [List.getElem_toArray, List.getElem_cons_succ, List.getElem_cons_zero, Act.put, List.setIfInBounds_toArray, List.set_cons_zero, List.set_cons_succ])
          refine wpAnyH_take (i := 7) (v := ?vac_7) rfl (by kernel_rfl) (by kernel_rfl) (by kernel_rfl) (fun _ _ _ h => h) (Or.inl ⟨by rfl, ?yac_7⟩) (by assumption) ?rac_7
          case yac_7 => intro w hSw; (try dsimp only at hSw); go_simp <;> (try with_reducible rfl)
          (try simp only [List.getElem_toArray, List.getElem_cons_succ, List.getElem_cons_zero, Act.put, List.setIfInBounds_toArray, List.set_cons_zero, List.set_cons_succ])
          refine wpAnyH_take (i := 8) (v := ?vac_8) rfl (by kernel_rfl) (by kernel_rfl) (by kernel_rfl) (fun _ _ _ h => h) (Or.inl ⟨by rfl, ?yac_8⟩) (by assumption) ?rac_8
          case yac_8 => intro w hSw; (try dsimp only at hSw); go_simp <;> (try with_reducible rfl)
          (try simp only [List.getElem_toArray, List.getElem_cons_succ, List.getElem_cons_zero, Act.put, List.setIfInBounds_toArray, List.set_cons_zero, List.set_cons_succ])
          refine' wpAnyH_take (i := 9) (v := _) rfl (by kernel_rfl) (by kernel_rfl) (by kernel_rfl) (fun _ _ _ h => h) (yieldsIf_load_mid (by rfl) _ _ (by rfl) _ _ (by rfl) _ _ ?Sac_9 ?uac_9 ?dac_9 ?iac_9) (by assumption) ?rac_9
          case Sac_9 => exact (by intro w h; exact h.2.2)
          case uac_9 => exact Tryd.underlying23
          case dac_9 => rfl
          case iac_9 => exact Tryd.szQ
          (try simp only [List.getElem_toArray, List.getElem_cons_succ, List.getElem_cons_zero, Act.put, List.setIfInBounds_toArray, List.set_cons_zero, List.set_cons_succ])
          refine wpAnyH_take (i := 10) (v := ?vac_10) rfl (by kernel_rfl) (by kernel_rfl) (by kernel_rfl) (fun _ _ _ h => h) (Or.inl ⟨by rfl, ?yac_10⟩) (by assumption) ?rac_10
          case yac_10 => intro w hSw; (try dsimp only at hSw); go_simp <;> (try with_reducible rfl)
          (try simp only [List.getElem_toArray, List.getElem_cons_succ, List.getElem_cons_zero, Act.put, List.setIfInBounds_toArray, List.set_cons_zero, List.set_cons_succ])
          refine wpAnyH_ready (rs := [11]) (by kernel_rfl) (by simp) ?_
          refine AllReadyH.cons rfl (fun K hK => ?_) AllReadyH.nil
          go_simp
          go_wp2_with fail
          (with_reducible refine (keep_ok gw _ _ _ _ hI3.wk).mono ?_)
          rintro e we ⟨rfl, hW, hoe⟩
          have hRe := ((hI3.rows u _ _ HR.out HCU.out).2.2).only hoe (by simp; exact hap.2.1)
          have hHe := hI3.hdrs.only hoe (by simp; exact hgrg)
          have hBe := hB3.only hoe (by simp; exact hgwg)
          have hC0 : we.cell? ⟨gw, 0, none⟩ = some (.slice (some ⟨gr, 0, none⟩) m cL) := by have h := hW.cell (k := 0) rfl; rw [HM.out] at h; exact h
          have hC1 : we.cell? ⟨gr, u, none⟩ = some (.slice (some ⟨g, 0, none⟩) N cr) := hHe.cell (by rw [List.getElem?_append_left (by rw [List.length_map]; exact (List.getElem?_eq_some_iff.1 HR.out).1), List.getElem?_map, HR.out]; rfl)
          refine hK.out _ _ ⟨hC0, hC1, blk_range hBe⟩ (fun hHeld => ?_)
          clear hK K
          refine wpAnyH_take (i := 12) (v := ?vac_12) rfl (by kernel_rfl) (by kernel_rfl) (by kernel_rfl) (fun _ _ _ h => h) (Or.inl ⟨by rfl, ?yac_12⟩) (by assumption) ?rac_12
          case yac_12 => intro w hSw; (try dsimp only at hSw); go_simp <;> (try with_reducible rfl)
          (try simp only [List.getElem_toArray, List.getElem_cons_succ, List.getElem_cons_zero, Act.put, List.setIfInBounds_toArray, List.set_cons_zero, List.set_cons_succ])
          refine wpAnyH_ready (rs := [13]) (by kernel_rfl) (by simp) ?_
          refine AllReadyH.cons rfl (fun K hK => ?_) AllReadyH.nil
          rw [if_pos (by rfl)]
          refine wp_put 23 (.tmp 73) (.tmp 72) rfl g (k * 2) rfl (.agg [Value.int .i64 (x / d).num, Value.int .i64 ((x / d).den : Int)].toArray) rfl hRe [Value.int .i64 (x / d).num, Value.int .i64 ((x / d).den : Int)] rfl Tryd.szQ (rowZ_len HLN.out hlt) (int_one _ _) ?_
          intro wf huf hBf
          have hWf := hW.upd huf (fun e => hap.2.1 e.symm)
          have hHf := hHe.upd huf (fun e => hap.1 e.symm)
          have hgx : g8 ≠ g := by have := hap.2.2.2; omega
          have hBg := hBe.upd huf hgx
          have hC0f : wf.cell? ⟨gw, 0, none⟩ = some (.slice (some ⟨gr, 0, none⟩) m cL) := by have h := hWf.cell (k := 0) rfl; rw [HM.out] at h; exact h
          have hC1f : wf.cell? ⟨gr, u, none⟩ = some (.slice (some ⟨g, 0, none⟩) N cr) := hHf.cell (by rw [List.getElem?_append_left (by rw [List.length_map]; exact (List.getElem?_eq_some_iff.1 HR.out).1), List.getElem?_map, HR.out]; rfl)
          refine hK.out _ _ ⟨hC0f, hC1f, blk_range hBg⟩ (fun hHeld => ?_)
          clear hK K hC0f hC1f hC0 hC1
          refine wpAnyH_done (by kernel_rfl) ?_ _
          have hOf : Only [g, gw] wd wf := (hoe.mono (by simp)).trans (Only.of_upd huf (by simp))
          clear hHeld hHe hRe hBe hW huf hHf hBg hoe
          have hL : ∀ k ∈ [g, gw], B ≤ k ∧ k < T := fun k hk => by
            simp at hk
            rcases hk with rfl | rfl
            · exact hap.2.2
            · exact ⟨hI3.base.2.1, hI3.base.2.2.2.2⟩
          have hszd := Nat.le_trans hszz hdd.size
          have hbf := (hbe2.low hdd (Nat.le_trans hBT hszz)).only hOf hL (Nat.le_trans hBT hszd)
          have hszf := Nat.le_trans hszd hOf.size
          have B6f := (B6b.next hdd B6b.lt).only hOf (fun h => by have := (hL _ h).2; omega)
          have hI4 := hI3.put HR.out HCU.out hlt f1 hOf hBf hWf
          rw [List.set_set, mid_set HDD.out HXX.out] at hI4
          have HI4 := Lib.hid hI4
          have hstp := HST.out
          rw [okQ_yes f1] at hstp
          have HS2 := Lib.hid hstp
          clear hI4 hstp hI3 hBf hWf hI2 hdd hbe2
          go_wp2
          go_roundw
          case rel => exact ⟨k + 1, by omega, by go_num, hbf, hszf, B6f, .inl ⟨D ++ [x / d], by simp; exact HDD.out, by rw [HS2.out]; rfl, HI4.out⟩⟩
          case measure => simp [intOf]; omega
        · skip
          go_wp2
          have hdd := below_drew wc
          have hI3 := hI2.keep (hdd.mono hszz)
          have hB3 := B8.next hdd B8.lt
          have hgwg : g8 ≠ gw := by have := hI2.base.2.2.2.2; omega
          have hgrg : gr ≠ gw := hI2.base.2.2.1
          have hC0 : wc.drew.cell? ⟨gw, 0, none⟩ = some (.slice (some ⟨gr, 0, none⟩) m cL) := by have h := hI3.wk.cell (k := 0) rfl; rw [HM.out] at h; exact h
          refine wp_region_held_drew (S := fun w' => w'.cell? ⟨gw, 0, none⟩ = some (.slice (some ⟨gr, 0, none⟩) m cL) ∧ w'.cell? ⟨gr, u, none⟩ = some (.slice (some ⟨g, 0, none⟩) N cr) ∧ w'.rangeAt g8 0 [Value.int .i64 N1, Value.int .i64 D1]) (by kernel_rfl) ⟨hC0, hI3.hdr HR.out, blk_range hB3⟩ (fun hHeld => ?_)
          clear hC0
          generalize wc.drew = wd at hdd hI3 hB3 hHeld ⊢
          refine wpAnyH_take (i := 0) (v := ?vad_0) rfl (by kernel_rfl) (by kernel_rfl) (by kernel_rfl) (fun _ _ _ h => h) (Or.inl ⟨by rfl, ?yad_0⟩) (by assumption) ?rad_0
          case yad_0 => intro w hSw; (try dsimp only at hSw); go_simp <;> (try with_reducible rfl)
          (try simp only [List.getElem_toArray, List.getElem_cons_zero, Act.put, List.setIfInBounds_toArray, List.set_cons_zero, List.set_cons_succ])
          refine wpAnyH_take (i := 1) (v := ?vad_1) rfl (by kernel_rfl) (by kernel_rfl) (by kernel_rfl) (fun _ _ _ h => h) (Or.inl ⟨by rfl, ?yad_1⟩) (by assumption) ?rad_1
          case yad_1 => intro w hSw; (try dsimp only at hSw); go_simp <;> (try with_reducible rfl)
          (try simp only [List.getElem_toArray, List.getElem_cons_succ, List.getElem_cons_zero, Act.put, List.setIfInBounds_toArray, List.set_cons_zero, List.set_cons_succ])
          refine wpAnyH_take (i := 2) (v := ?vad_2) rfl (by kernel_rfl) (by kernel_rfl) (by kernel_rfl) (fun _ _ _ h => h) (Or.inl ⟨by rfl, ?yad_2⟩) (by assumption) ?rad_2
          case yad_2 => intro w hSw; (try dsimp only at hSw); go_simp <;> (try with_reducible rfl)
          (try simp only [List.getElem_toArray, List.getElem_cons_succ, List.getElem_cons_zero, Act.put, List.setIfInBounds_toArray, List.set_cons_zero, List.set_cons_succ])
          refine wpAnyH_take (i := 3) (v := ?vad_3) rfl (by kernel_rfl) (by kernel_rfl) (by kernel_rfl) (fun _ _ _ h => h) (Or.inl ⟨by rfl, ?yad_3⟩) (by assumption) ?rad_3
          case yad_3 => intro w hSw; (try dsimp only at hSw); go_simp <;> (try with_reducible rfl)
          (try simp only [List.getElem_toArray, List.getElem_cons_succ, List.getElem_cons_zero, Act.put, List.setIfInBounds_toArray, List.set_cons_zero, List.set_cons_succ])
          refine wpAnyH_take (i := 4) (v := ?vad_4) rfl (by kernel_rfl) (by kernel_rfl) (by kernel_rfl) (fun _ _ _ h => h) (Or.inl ⟨by rfl, ?yad_4⟩) (by assumption) ?rad_4
          case yad_4 => intro w hSw; (try dsimp only at hSw); go_simp <;> (try with_reducible rfl)
          (try simp only [List.getElem_toArray, List.getElem_cons_succ, List.getElem_cons_zero, Act.put, List.setIfInBounds_toArray, List.set_cons_zero, List.set_cons_succ])
          refine wpAnyH_take (i := 5) (v := ?vad_5) rfl (by kernel_rfl) (by kernel_rfl) (by kernel_rfl) (fun _ _ _ h => h) (Or.inl ⟨by rfl, ?yad_5⟩) (by assumption) ?rad_5
          case yad_5 => intro w hSw; (try dsimp only at hSw); go_simp <;> (try with_reducible rfl)
          (try simp only [List.getElem_toArray, List.getElem_cons_succ, List.getElem_cons_zero, Act.put, List.setIfInBounds_toArray, List.set_cons_zero, List.set_cons_succ])
          refine wpAnyH_take (i := 6) (v := ?vad_6) rfl (by kernel_rfl) (by kernel_rfl) (by kernel_rfl) (fun _ _ _ h => h) (Or.inl ⟨by rfl, ?yad_6⟩) (by assumption) ?rad_6
          case yad_6 => intro w hSw; (try dsimp only at hSw); go_simp <;> (try with_reducible rfl)
          (try simp only [List.getElem_toArray, List.getElem_cons_succ, List.getElem_cons_zero, Act.put, List.setIfInBounds_toArray, List.set_cons_zero, List.set_cons_succ])
          refine wpAnyH_take (i := 7) (v := ?vad_7) rfl (by kernel_rfl) (by kernel_rfl) (by kernel_rfl) (fun _ _ _ h => h) (Or.inl ⟨by rfl, ?yad_7⟩) (by assumption) ?rad_7
          case yad_7 => intro w hSw; (try dsimp only at hSw); go_simp <;> (try with_reducible rfl)
          (try simp only [List.getElem_toArray, List.getElem_cons_succ, List.getElem_cons_zero, Act.put, List.setIfInBounds_toArray, List.set_cons_zero, List.set_cons_succ])
          refine wpAnyH_take (i := 8) (v := ?vad_8) rfl (by kernel_rfl) (by kernel_rfl) (by kernel_rfl) (fun _ _ _ h => h) (Or.inl ⟨by rfl, ?yad_8⟩) (by assumption) ?rad_8
          case yad_8 => intro w hSw; (try dsimp only at hSw); go_simp <;> (try with_reducible rfl)
          (try simp only [List.getElem_toArray, List.getElem_cons_succ, List.getElem_cons_zero, Act.put, List.setIfInBounds_toArray, List.set_cons_zero, List.set_cons_succ])
          refine' wpAnyH_take (i := 9) (v := _) rfl (by kernel_rfl) (by kernel_rfl) (by kernel_rfl) (fun _ _ _ h => h) (yieldsIf_load_mid (by rfl) _ _ (by rfl) _ _ (by rfl) _ _ ?Sad_9 ?uad_9 ?dad_9 ?iad_9) (by assumption) ?rad_9
          case Sad_9 => exact (by intro w h; exact h.2.2)
          case uad_9 => exact Tryd.underlying23
          case dad_9 => rfl
          case iad_9 => exact Tryd.szQ
          (try simp only [List.getElem_toArray, List.getElem_cons_succ, List.getElem_cons_zero, Act.put, List.setIfInBounds_toArray, List.set_cons_zero, List.set_cons_succ])
          refine wpAnyH_take (i := 10) (v := ?vad_10) rfl (by kernel_rfl) (by kernel_rfl) (by kernel_rfl) (fun _ _ _ h => h) (Or.inl ⟨by rfl, ?yad_10⟩) (by assumption) ?rad_10
          case yad_10 => intro w hSw; (try dsimp only at hSw); go_simp <;> (try with_reducible rfl)
          (try simp only [List.getElem_toArray, List.getElem_cons_succ, List.getElem_cons_zero, Act.put, List.setIfInBounds_toArray, List.set_cons_zero, List.set_cons_succ])
          refine wpAnyH_ready (rs := [11]) (by kernel_rfl) (by simp) ?_
          refine AllReadyH.cons rfl (fun K hK => ?_) AllReadyH.nil
          go_simp
          go_wp2_with fail
          (with_reducible refine (keep_bad gw _ _ _ _ hI3.wk).mono ?_)
          rintro e we ⟨rfl, hW, hoe⟩
          have hRe := ((hI3.rows u _ _ HR.out HCU.out).2.2).only hoe (by simp; exact hap.2.1)
          have hHe := hI3.hdrs.only hoe (by simp; exact hgrg)
          have hBe := hB3.only hoe (by simp; exact hgwg)
          have hC0 : we.cell? ⟨gw, 0, none⟩ = some (.slice (some ⟨gr, 0, none⟩) m cL) := by have h := hW.cell (k := 0) rfl; rw [HM.out] at h; exact h
          have hC1 : we.cell? ⟨gr, u, none⟩ = some (.slice (some ⟨g, 0, none⟩) N cr) := hHe.cell (by rw [List.getElem?_append_left (by rw [List.length_map]; exact (List.getElem?_eq_some_iff.1 HR.out).1), List.getElem?_map, HR.out]; rfl)
          refine hK.out _ _ ⟨hC0, hC1, blk_range hBe⟩ (fun hHeld => ?_)
          clear hK K
          refine wpAnyH_take (i := 12) (v := ?vad_12) rfl (by kernel_rfl) (by kernel_rfl) (by kernel_rfl) (fun _ _ _ h => h) (Or.inl ⟨by rfl, ?yad_12⟩) (by assumption) ?rad_12
          case yad_12 => intro w hSw; (try dsimp only at hSw); go_simp <;> (try with_reducible rfl)
          (try simp only [List.getElem_toArray, List.getElem_cons_succ, List.getElem_cons_zero, Act.put, List.setIfInBounds_toArray, List.set_cons_zero, List.set_cons_succ])
          refine wpAnyH_ready (rs := [13]) (by kernel_rfl) (by simp) ?_
          refine AllReadyH.cons rfl (fun K hK => ?_) AllReadyH.nil
          rw [if_pos (by rfl)]
          refine wp_put 23 (.tmp 73) (.tmp 72) rfl g (k * 2) rfl (.agg [Value.int .i64 0, Value.int .i64 1].toArray) rfl hRe [Value.int .i64 0, Value.int .i64 1] rfl Tryd.szQ (rowZ_len HLN.out hlt) (int_one _ _) ?_
          intro wf huf hBf
          have hWf := hW.upd huf (fun e => hap.2.1 e.symm)
          have hHf := hHe.upd huf (fun e => hap.1 e.symm)
          have hgx : g8 ≠ g := by have := hap.2.2.2; omega
          have hBg := hBe.upd huf hgx
          have hC0f : wf.cell? ⟨gw, 0, none⟩ = some (.slice (some ⟨gr, 0, none⟩) m cL) := by have h := hWf.cell (k := 0) rfl; rw [HM.out] at h; exact h
          have hC1f : wf.cell? ⟨gr, u, none⟩ = some (.slice (some ⟨g, 0, none⟩) N cr) := hHf.cell (by rw [List.getElem?_append_left (by rw [List.length_map]; exact (List.getElem?_eq_some_iff.1 HR.out).1), List.getElem?_map, HR.out]; rfl)
          refine hK.out _ _ ⟨hC0f, hC1f, blk_range hBg⟩ (fun hHeld => ?_)
          clear hK K hC0f hC1f hC0 hC1
          refine wpAnyH_done (by kernel_rfl) ?_ _
          have hOf : Only [g, gw] wd wf := (hoe.mono (by simp)).trans (Only.of_upd huf (by simp))
          clear hHeld hHe hRe hBe hW huf hHf hBg hoe
          have hL : ∀ k ∈ [g, gw], B ≤ k ∧ k < T := fun k hk => by
            simp at hk
            rcases hk with rfl | rfl
            · exact hap.2.2
            · exact ⟨hI3.base.2.1, hI3.base.2.2.2.2⟩
          have hszd := Nat.le_trans hszz hdd.size
          have hbf := (hbe2.low hdd (Nat.le_trans hBT hszz)).only hOf hL (Nat.le_trans hBT hszd)
          have hszf := Nat.le_trans hszd hOf.size
          have B6f := (B6b.next hdd B6b.lt).only hOf (fun h => by have := (hL _ h).2; omega)
          have hX4 := hI3.putX HR.out HCU.out hlt hOf hBf hWf
          have HX4 := Lib.hid hX4
          have hstp := HST.out
          rw [okQ_no f1] at hstp
          have HN := Lib.hid (show clearM u c C = none by rw [HCL.out, opTo_fell hstp]; rfl)
          clear hX4 hstp hI3 hBf hWf hI2 hdd hbe2
          go_wp2
          go_roundw
          case rel => exact ⟨k + 1, by omega, by go_num, hbf, hszf, B6f, .inr ⟨HN.out, HX4.out⟩⟩
          case measure => simp [intOf]; omega
      · skip
        have hki : (k : Int) < (N : Int) := by omega
        have c0 := hX.wk.cell (k := 0) rfl
        have cE := hX.wk.cell (k := 1) rfl
        have c1 := hX.hdr HR.out
        rw [HM.out] at c0
        unfold rowV at c1
        dsimp only at c1
        have H2 : Hid (Cl2 B T gw gr N cL J M u c m C d l w (.int .i64 0) wr) := (⟨0, Nat.zero_le _, rfl, hbe, hsz, .inr ⟨hno, hX⟩⟩ : Cl2 B T gw gr N cL J M u c m C d l w (.int .i64 0) wr)
        clear hno hX hbe hsz B6
        go_wp2
        go_loopw [10] (Cl2 B T gw gr N cL J M u c m C d l w) (fun i _ => m - (intOf i).toNat)
        case atStart => exact H2.out
        case round =>
          clear H2
          obtain ⟨i, hi, rfl, hbe, hsz, hst⟩ := hrel
          have hi0 : (0 : Int) ≤ (i : Int) := by omega
          by_cases hlt2 : i < m
          · rcases hst with ⟨h, D, hop, hD, hmo, hI⟩ | ⟨hno, hX⟩
            · skip
              have hii : (i : Int) < (m : Int) := by omega
              obtain ⟨ri, hri⟩ : ∃ r, M[i]? = some r := ⟨_, List.getElem?_eq_getElem (by have := HM.out; omega)⟩
              obtain ⟨li, hli⟩ : ∃ x, (C.set u h)[i]? = some x := ⟨_, List.getElem?_eq_getElem (by rw [List.length_set]; have := HCM.out; omega)⟩
              have hmi := mid_get hD hli
              obtain ⟨hil, hif, hiB⟩ := hI.rows i ri li hri hmi
              obtain ⟨y, hy⟩ : ∃ y, li[c]? = some y := ⟨_, List.getElem?_eq_getElem (by omega)⟩
              have hapi := hI.apart i ri hri
              have hdf : ∀ r p, M[u]? = some r → M[i]? = some p → r.1 = p.1 → u = i := hI.diff u i
              have hstj := mapO_step hli hmo
              have hh : h.length = N ∧ ∀ x ∈ h, fits x := ⟨(opTo_size l 0 h hop).trans HLL.out, opTo_fits (fun _ _ _ h => okQ_fits h) l 0 h hop⟩
              have hhu : (C.set u h)[u]? = some h := List.getElem?_set_self (by have := HCM.out; omega)
              have hhk := head_keep hmo hD hhu
              have c0 := hI.wk.cell (k := 0) rfl
              have c1 := hI.hdr hri
              rw [HM.out] at c0
              obtain ⟨gi, ci, Ri⟩ := ri
              unfold rowV at c1
              dsimp only at c1 hapi hiB
              have q0 := hiB.cell (rowR_cell (R := Ri) (prs_get hy)).1
              have q1 := hiB.cell (rowR_cell (R := Ri) (prs_get hy)).2
              dsimp only at q0 q1
              have HRI := Lib.hid hri
              have HLI := Lib.hid hli
              have HMI := Lib.hid hmi
              have HIL := Lib.hid hil
              have HIF := Lib.hid hif
              have HY := Lib.hid hy
              have HDF := Lib.hid hdf
              have HST := Lib.hid hstj
              have HH := Lib.hid hh
              have HHK := Lib.hid hhk
              have HI := Lib.hid hI
              have HOP := Lib.hid hop
              have HDD := Lib.hid hD
              clear hri hli hmi hil hif hy hdf hstj hh hhk hI hop hD hmo hhu hiB
              go_wp2_with (with_reducible refine wpList_alloc (o := ⟨some 11, .alloc 23, _, _, _, _⟩) (by with_unfolding_all rfl) 23 (by with_unfolding_all rfl) (.agg zC.toArray) zC (by exact Tryd.zeroQ) (by with_unfolding_all rfl) ?_)
              intro g11 w1 hg11 hs1 hb1 B11
              have hl11 : wr.heap.size ≤ g11 := Nat.le_of_eq hg11.out.symm
              have hb1 := hb1.mono (Nat.le_of_eq hg11.out.symm)
              clear hg11 hs1
              go_wp2_with (with_reducible refine wpList_put (o := ⟨none, .store 23 (.tmp 11) (.tmp 92), _, _, _, _⟩) (by with_unfolding_all rfl) 23 (.tmp 11) (.tmp 92) (by with_unfolding_all rfl) g11 0 (by with_unfolding_all rfl) (.agg [Value.int .i64 y.num, Value.int .i64 (y.den : Int)].toArray) (by with_unfolding_all rfl) B11 [Value.int .i64 y.num, Value.int .i64 (y.den : Int)] (by with_unfolding_all rfl) (by with_unfolding_all (exact Tryd.szQ)) (by with_unfolding_all (exact Nat.le_refl 2)) (by with_unfolding_all (exact int_one _ _)) ?_)
              intro w2 hu2 hB2
              rw [splice_all _ _ (by rfl)] at hB2
              have hbw := hb1.trans (hu2.below (B := wr.heap.size) hl11)
              have hbe2 := hbe.low hbw (Nat.le_trans hBT hsz)
              have hsz2 := Nat.le_trans hsz hbw.size
              have hT11 : T ≤ g11 := Nat.le_trans hsz hl11
              have HI2 := Lib.hid (HI.out.keep (hbw.mono hsz))
              have m0 := hB2.cell (k := 0) rfl
              clear hb1 hu2 B11 c0 c1 q0 q1 HI hl11 hbe hbw
              by_cases hju : i = u
              · skip
                have hjui : (i : Int) = (u : Int) := by omega
                have hjub : ((i : Int) == (u : Int)) = true := beq_iff_eq.2 hjui
                have hD2 := HST.out
                rw [rowF_skip (.inl hju)] at hD2
                have HD2 := Lib.hid hD2
                clear hD2
                go_wp2
                go_roundw
                case rel => exact ⟨i + 1, by omega, by go_num, hbe2, hsz2, .inl ⟨h, D ++ [li], HOP.out, by simp; exact HDD.out, HD2.out, by rw [← mid_next HLI.out]; exact HI2.out⟩⟩
                case measure => simp [intOf]; omega
              · skip
                have hjui : ¬ (i : Int) = (u : Int) := by omega
                have hjub : ((i : Int) == (u : Int)) = false := beq_eq_false_iff_ne.2 hjui
                by_cases hy0 : y.num = 0
                · skip
                  rw [hy0] at m0
                  have hD2 := HST.out
                  rw [rowF_skip (.inr (by rw [HY.out]; exact Rat.num_eq_zero.1 hy0))] at hD2
                  have HD2 := Lib.hid hD2
                  clear hD2
                  go_wp2
                  go_roundw
                  case rel => exact ⟨i + 1, by omega, by go_num, hbe2, hsz2, .inl ⟨h, D ++ [li], HOP.out, by simp; exact HDD.out, HD2.out, by rw [← mid_next HLI.out]; exact HI2.out⟩⟩
                  case measure => simp [intOf]; omega
                · skip
                  have hy0b : (y.num == 0) = false := beq_eq_false_iff_ne.2 hy0
                  have hyz : y ≠ 0 := fun e => hy0 (by rw [e]; rfl)
                  have hsub := HST.out
                  rw [rowF_sub hju HY.out hyz] at hsub
                  have HSUB := Lib.hid hsub
                  have hgg : g ≠ gi := fun e => hju (HDF.out _ _ HR.out HRI.out e).symm
                  have fy := Lib.hid (HIF.out y (List.mem_of_getElem? HY.out))
                  obtain ⟨Cm, hCm⟩ : ∃ Cm, D ++ (C.set u h).drop i = Cm := ⟨_, rfl⟩
                  have hmi := HMI.out
                  have hhk := HHK.out
                  have hI2 := HI2.out
                  rw [hCm] at hmi hhk hI2
                  have HMI2 := Lib.hid hmi
                  have HHK2 := Lib.hid hhk
                  have HCM2 := Lib.hid hCm
                  have HCML := Lib.hid (hI2.same.symm.trans HM.out)
                  have H3 : Hid (Cl3 B T gw gr N cL J M u c C Cm i g11 y h li w (.int .i64 0) w2) := (⟨0, Nat.zero_le _, rfl, hbe2, hsz2, hB2, .inl ⟨[], rfl, rfl, by rw [show ([] : List Rat) ++ li.drop 0 = li from rfl, set_same hmi]; exact hI2⟩⟩ : Cl3 B T gw gr N cL J M u c C Cm i g11 y h li w (.int .i64 0) w2)
                  clear hsub hmi hhk hI2 hCm HMI HHK HI2 HST hbe2 hsz2 hB2 hsz
                  go_wp2
                  go_loopw [12] (Cl3 B T gw gr N cL J M u c C Cm i g11 y h li w) (fun i _ => N - (intOf i).toNat)
                  case atStart => exact H3.out
                  case round =>
                    clear H3 m0
                    obtain ⟨k, hk, rfl, hbe, hsz, B11, hst⟩ := hrel
                    have hk0 : (0 : Int) ≤ (k : Int) := by omega
                    by_cases hlt : k < N
                    · rcases hst with ⟨E, hE, hop, hI⟩ | ⟨hno, hX⟩
                      · skip
                        have hki : (k : Int) < (N : Int) := by omega
                        have hCi : (Cm.set i (E ++ li.drop k))[i]? = some (E ++ li.drop k) := List.getElem?_set_self (by have := HCML.out; omega)
                        have hCu : (Cm.set i (E ++ li.drop k))[u]? = some h := by rw [List.getElem?_set_ne hju]; exact HHK2.out
                        obtain ⟨hcl, hcf, hrow⟩ := hI.rows i _ _ HRI.out hCi
                        obtain ⟨_, _, hrou⟩ := hI.rows u _ _ HR.out hCu
                        obtain ⟨x, hx⟩ : ∃ x, li[k]? = some x := ⟨_, List.getElem?_eq_getElem (by have := HIL.out; omega)⟩
                        obtain ⟨o, ho⟩ : ∃ x, h[k]? = some x := ⟨_, List.getElem?_eq_getElem (by have := HH.out.1; omega)⟩
                        have hq : wr.rangeAt g (k * 2) (qC o) := rowR_range hrou (prs_get ho)
                        have hqi : wr.rangeAt gi (k * 2) (qC x) := rowR_range hrow (prs_get (mid_get hE hx))
                        have c0 := hI.wk.cell (k := 0) rfl
                        have cE := hI.wk.cell (k := 1) rfl
                        have c1 := hI.hdr HR.out
                        have c2 := hI.hdr HRI.out
                        rw [HM.out] at c0
                        unfold rowV at c1 c2
                        dsimp only at c1 c2
                        have fo := HH.out.2 o (List.mem_of_getElem? ho)
                        have fx := HIF.out x (List.mem_of_getElem? hx)
                        obtain ⟨N1, D1, k1, h1, g1⟩ := ansQ_two (y * o)
                        have x1 := fun w => rmul_any y o w fy.out fo
                        rw [h1] at x1
                        obtain ⟨N2, D2, k2, h2, g2⟩ := ansQ_two (x - y * o)
                        have x2 : fits (y * o) → ∀ w, Calls Tryd.prog 20 #[.agg (qC x).toArray, .agg (qC (y * o)).toArray] w fun e w' => e = .returned (.tuple #[.agg #[.int .i64 N2, .int .i64 D2], .int .i64 k2]) ∧ Below w.heap.size w w' := fun h w => by
                          have x0 := rsub_any x (y * o) w fx h
                          rw [h2] at x0
                          exact x0
                        obtain ⟨X, hX⟩ : ∃ X, qC o = X := ⟨_, rfl⟩
                        obtain ⟨Y, hY⟩ : ∃ X, qC y = X := ⟨_, rfl⟩
                        obtain ⟨Z, hZ⟩ : ∃ X, qC x = X := ⟨_, rfl⟩
                        have HZZ := Lib.hid hZ
                        have hzX := Tryd.szQl X (by rw [← hX]; rfl)
                        have hzY := Tryd.szQl Y (by rw [← hY]; rfl)
                        have hzZ := Tryd.szQl Z (by rw [← hZ]; rfl)
                        have hr11 : wr.rangeAt g11 0 (qC y) := blk_range B11
                        rw [hX, hY] at x1
                        rw [hX] at hq
                        rw [hY] at hr11
                        rw [hZ] at x2 hqi
                        have HS : Hid (∀ w', Below wr.heap.size wr w' → w'.cell? ⟨gw, 0, none⟩ = some (.slice (some ⟨gr, 0, none⟩) m cL) ∧ w'.cell? ⟨gr, u, none⟩ = some (.slice (some ⟨g, 0, none⟩) N cr) ∧ w'.rangeAt g (k * 2) X ∧ w'.rangeAt g11 0 Y) :=
                          (fun w' h => ⟨cellq_below h c0, cellq_below h c1, range_below hq h, range_below hr11 h⟩ : ∀ w', Below wr.heap.size wr w' → w'.cell? ⟨gw, 0, none⟩ = some (.slice (some ⟨gr, 0, none⟩) m cL) ∧ w'.cell? ⟨gr, u, none⟩ = some (.slice (some ⟨g, 0, none⟩) N cr) ∧ w'.rangeAt g (k * 2) X ∧ w'.rangeAt g11 0 Y)
                        have X1 := Lib.hid x1
                        have G1 := Lib.hid g1
                        have X2 := Lib.hid x2
                        have G2 := Lib.hid g2
                        have HQI := Lib.hid hqi
                        have HST := Lib.hid (opTo_step hE hx hop)
                        have HSF := Lib.hid (show subF y h k x = if fits (y * o) then okQ (x - y * o) else none by unfold subF; rw [ho]; rfl)
                        have HLN := Lib.hid hcl
                        have HXX := Lib.hid hx
                        have HI := Lib.hid hI
                        have HEE := Lib.hid hE
                        have HCI := Lib.hid hCi
                        clear hX hY hZ x1 h1 g1 x2 h2 g2 hop hcl hcf hrow hrou hq hqi hr11 fo fx ho hx hI hE hCi hCu
                        go_wp2
                        have hdd := below_drew wr
                        refine wp_region_held_drew (S := fun w' => w'.cell? ⟨gw, 0, none⟩ = some (.slice (some ⟨gr, 0, none⟩) m cL) ∧ w'.cell? ⟨gr, u, none⟩ = some (.slice (some ⟨g, 0, none⟩) N cr) ∧ w'.rangeAt g (k * 2) X ∧ w'.rangeAt g11 0 Y) (by kernel_rfl) (HS.out _ hdd) (fun hHeld => ?_)
                        generalize wr.drew = wd at hdd hHeld ⊢
                        refine' wpAnyH_take (i := 0) (v := _) rfl (by kernel_rfl) (by kernel_rfl) (by kernel_rfl) (fun _ _ _ h => h) (yieldsIf_load_mid (by rfl) _ _ (by rfl) _ _ (by rfl) _ _ ?Sae_0 ?uae_0 ?dae_0 ?iae_0) (by assumption) ?rae_0
                        case Sae_0 => exact (by intro w h; exact h.2.2.2)
                        case uae_0 => exact Tryd.underlying23
                        case dae_0 => rfl
                        case iae_0 => exact hzY
                        (try simp only [List.getElem_toArray, List.getElem_cons_zero, Act.put, List.setIfInBounds_toArray, List.set_cons_zero, List.set_cons_succ])
                        refine wpAnyH_take (i := 1) (v := ?vae_1) rfl (by kernel_rfl) (by kernel_rfl) (by kernel_rfl) (fun _ _ _ h => h) (Or.inl ⟨by rfl, ?yae_1⟩) (by assumption) ?rae_1
                        case yae_1 => intro w hSw; (try dsimp only at hSw); go_simp <;> (try with_reducible rfl)
                        (try simp only [List.getElem_toArray, List.getElem_cons_succ, List.getElem_cons_zero, Act.put, List.setIfInBounds_toArray, List.set_cons_zero, List.set_cons_succ])
                        refine wpAnyH_take (i := 2) (v := ?vae_2) rfl (by kernel_rfl) (by kernel_rfl) (by kernel_rfl) (fun _ _ _ h => h) (Or.inl ⟨by rfl, ?yae_2⟩) (by assumption) ?rae_2
                        case yae_2 => intro w hSw; (try dsimp only at hSw); go_simp <;> (try with_reducible rfl)
                        (try simp only [List.getElem_toArray, List.getElem_cons_succ, List.getElem_cons_zero, Act.put, List.setIfInBounds_toArray, List.set_cons_zero, List.set_cons_succ])
                        refine wpAnyH_take (i := 3) (v := ?vae_3) rfl (by kernel_rfl) (by kernel_rfl) (by kernel_rfl) (fun _ _ _ h => h) (Or.inl ⟨by rfl, ?yae_3⟩) (by assumption) ?rae_3
                        case yae_3 => intro w hSw; (try dsimp only at hSw); go_simp <;> (try with_reducible rfl)
                        (try simp only [List.getElem_toArray, List.getElem_cons_succ, List.getElem_cons_zero, Act.put, List.setIfInBounds_toArray, List.set_cons_zero, List.set_cons_succ])
                        refine wpAnyH_take (i := 4) (v := ?vae_4) rfl (by kernel_rfl) (by kernel_rfl) (by kernel_rfl) (fun _ _ _ h => h) (Or.inl ⟨by rfl, ?yae_4⟩) (by assumption) ?rae_4
                        case yae_4 => intro w hSw; (try dsimp only at hSw); go_simp <;> (try with_reducible rfl)
                        (try simp only [List.getElem_toArray, List.getElem_cons_succ, List.getElem_cons_zero, Act.put, List.setIfInBounds_toArray, List.set_cons_zero, List.set_cons_succ])
                        refine wpAnyH_take (i := 5) (v := ?vae_5) rfl (by kernel_rfl) (by kernel_rfl) (by kernel_rfl) (fun _ _ _ h => h) (Or.inl ⟨by rfl, ?yae_5⟩) (by assumption) ?rae_5
                        case yae_5 => intro w hSw; (try dsimp only at hSw); go_simp <;> (try with_reducible rfl)
                        (try simp only [List.getElem_toArray, List.getElem_cons_succ, List.getElem_cons_zero, Act.put, List.setIfInBounds_toArray, List.set_cons_zero, List.set_cons_succ])
                        refine wpAnyH_take (i := 6) (v := ?vae_6) rfl (by kernel_rfl) (by kernel_rfl) (by kernel_rfl) (fun _ _ _ h => h) (Or.inl ⟨by rfl, ?yae_6⟩) (by assumption) ?rae_6
                        case yae_6 => intro w hSw; (try dsimp only at hSw); go_simp <;> (try with_reducible rfl)
                        (try simp only [List.getElem_toArray, List.getElem_cons_succ, List.getElem_cons_zero, Act.put, List.setIfInBounds_toArray, List.set_cons_zero, List.set_cons_succ])
                        refine wpAnyH_take (i := 7) (v := ?vae_7) rfl (by kernel_rfl) (by kernel_rfl) (by kernel_rfl) (fun _ _ _ h => h) (Or.inl ⟨by rfl, ?yae_7⟩) (by assumption) ?rae_7
                        case yae_7 => intro w hSw; (try dsimp only at hSw); go_simp <;> (try with_reducible rfl)
                        (try simp only [List.getElem_toArray, List.getElem_cons_succ, List.getElem_cons_zero, Act.put, List.setIfInBounds_toArray, List.set_cons_zero, List.set_cons_succ])
                        refine wpAnyH_take (i := 8) (v := ?vae_8) rfl (by kernel_rfl) (by kernel_rfl) (by kernel_rfl) (fun _ _ _ h => h) (Or.inl ⟨by rfl, ?yae_8⟩) (by assumption) ?rae_8
                        case yae_8 => intro w hSw; (try dsimp only at hSw); go_simp <;> (try with_reducible rfl)
                        (try simp only [List.getElem_toArray, List.getElem_cons_succ, List.getElem_cons_zero, Act.put, List.setIfInBounds_toArray, List.set_cons_zero, List.set_cons_succ])
                        refine wpAnyH_take (i := 9) (v := ?vae_9) rfl (by kernel_rfl) (by kernel_rfl) (by kernel_rfl) (fun _ _ _ h => h) (Or.inl ⟨by rfl, ?yae_9⟩) (by assumption) ?rae_9
                        case yae_9 => intro w hSw; (try dsimp only at hSw); go_simp <;> (try with_reducible rfl)
                        (try simp only [List.getElem_toArray, List.getElem_cons_succ, List.getElem_cons_zero, Act.put, List.setIfInBounds_toArray, List.set_cons_zero, List.set_cons_succ])
                        refine' wpAnyH_take (i := 10) (v := _) rfl (by kernel_rfl) (by kernel_rfl) (by kernel_rfl) (fun _ _ _ h => h) (yieldsIf_load_mid (by rfl) _ _ (by rfl) _ _ (by rfl) _ _ ?Sae_10 ?uae_10 ?dae_10 ?iae_10) (by assumption) ?rae_10
                        case Sae_10 => exact (by intro w h; exact h.2.2.1)
                        case uae_10 => exact Tryd.underlying23
                        case dae_10 => rfl
                        case iae_10 => exact hzX
                        (try simp only [List.getElem_toArray, List.getElem_cons_succ, List.getElem_cons_zero, Act.put, List.setIfInBounds_toArray, List.set_cons_zero, List.set_cons_succ])
                        apply rest2
                        · intro hrest
                          refine wpAnyH_ready (rs := [11, 15]) (by kernel_rfl) (by simp) ?_
                          refine AllReadyH.cons rfl (fun K hK => ?_) (AllReadyH.cons rfl (fun K hK => ?_) AllReadyH.nil)
                          · skip
                            go_simp
                            go_wp2_with fail
                            (with_reducible refine (X1.out _).mono ?_)
                            rintro e wa ⟨rfl, hba⟩
                            have hka := below_join hdd hba
                            refine hK.out _ _ (HS.out _ hka) (fun hHeld => ?_)
                            clear hK K hba
                            refine wpAnyH_take (i := 12) (v := ?vae_x12) rfl (by kernel_rfl) (by kernel_rfl) (by kernel_rfl) (fun _ _ _ h => h) (Or.inl ⟨by rfl, ?yae_x12⟩) (by assumption) ?rae_x12
                            case yae_x12 => intro w hSw; (try dsimp only at hSw); go_simp <;> (try with_reducible rfl)
                            (try simp only [List.getElem_toArray, List.getElem_cons_succ, List.getElem_cons_zero, Act.put, List.setIfInBounds_toArray, List.set_cons_zero, List.set_cons_succ])
                            refine wpAnyH_take (i := 13) (v := ?vae_x13) rfl (by kernel_rfl) (by kernel_rfl) (by kernel_rfl) (fun _ _ _ h => h) (Or.inl ⟨by rfl, ?yae_x13⟩) (by assumption) ?rae_x13
                            case yae_x13 => intro w hSw; (try dsimp only at hSw); go_simp <;> (try with_reducible rfl)
                            (try simp only [List.getElem_toArray, List.getElem_cons_succ, List.getElem_cons_zero, Act.put, List.setIfInBounds_toArray, List.set_cons_zero, List.set_cons_succ])
                            refine wpAnyH_take (i := 14) (v := ?vae_x14) rfl (by kernel_rfl) (by kernel_rfl) (by kernel_rfl) (fun _ _ _ h => h) (Or.inl ⟨by rfl, ?yae_x14⟩) (by assumption) ?rae_x14
                            case yae_x14 => intro w hSw; (try dsimp only at hSw); go_simp <;> (try with_reducible rfl)
                            (try simp only [List.getElem_toArray, List.getElem_cons_succ, List.getElem_cons_zero, Act.put, List.setIfInBounds_toArray, List.set_cons_zero, List.set_cons_succ])
                            refine wpAnyH_ready (rs := [15]) (by kernel_rfl) (by simp) ?_
                            refine AllReadyH.cons rfl (fun K hK => ?_) AllReadyH.nil
                            rw [if_pos (by rfl)]
                            refine wp_allocz 23 rfl (.agg zC.toArray) zC Tryd.zeroQ rfl ?_
                            intro g13 wb hg13 hsx hbx B13
                            have hbx := hbx.mono (Nat.le_of_eq hg13.out.symm)
                            have hkwb := below_join hka hbx
                            have hle13 : wr.heap.size ≤ g13 := by have := hka.size; have := hg13.out; omega
                            clear hg13 hsx
                            refine hK.out _ _ (HS.out _ hkwb) (fun hHeld => ?_)
                            clear hK K hbx hka
                            have F1 := B13
                            have F2 := hkwb
                            have F3 := hle13
                            have F4 := hHeld
                            revert F1 F2 F3 F4
                            exact hrest g13 wb
                          · skip
                            rw [if_pos (by rfl)]
                            refine wp_allocz 23 rfl (.agg zC.toArray) zC Tryd.zeroQ rfl ?_
                            intro g13 wb hg13 hsx hbx B13
                            have hbx := hbx.mono (Nat.le_of_eq hg13.out.symm)
                            have hkwb := below_join hdd hbx
                            have hle13 : wr.heap.size ≤ g13 := by have := hdd.size; have := hg13.out; omega
                            clear hg13 hsx
                            refine hK.out _ _ (HS.out _ hkwb) (fun hHeld => ?_)
                            clear hK K hbx
                            refine wpAnyH_ready (rs := [11]) (by kernel_rfl) (by simp) ?_
                            refine AllReadyH.cons rfl (fun K hK => ?_) AllReadyH.nil
                            go_simp
                            go_wp2_with fail
                            (with_reducible refine (X1.out _).mono ?_)
                            rintro e wa ⟨rfl, hba⟩
                            have hka := below_join hkwb hba
                            have B13 := B13.next hba B13.lt
                            refine hK.out _ _ (HS.out _ hka) (fun hHeld => ?_)
                            clear hK K hba hkwb
                            refine wpAnyH_take (i := 12) (v := ?vae_y12) rfl (by kernel_rfl) (by kernel_rfl) (by kernel_rfl) (fun _ _ _ h => h) (Or.inl ⟨by rfl, ?yae_y12⟩) (by assumption) ?rae_y12
                            case yae_y12 => intro w hSw; (try dsimp only at hSw); go_simp <;> (try with_reducible rfl)
                            (try simp only [List.getElem_toArray, List.getElem_cons_succ, List.getElem_cons_zero, Act.put, List.setIfInBounds_toArray, List.set_cons_zero, List.set_cons_succ])
                            refine wpAnyH_take (i := 13) (v := ?vae_y13) rfl (by kernel_rfl) (by kernel_rfl) (by kernel_rfl) (fun _ _ _ h => h) (Or.inl ⟨by rfl, ?yae_y13⟩) (by assumption) ?rae_y13
                            case yae_y13 => intro w hSw; (try dsimp only at hSw); go_simp <;> (try with_reducible rfl)
                            (try simp only [List.getElem_toArray, List.getElem_cons_succ, List.getElem_cons_zero, Act.put, List.setIfInBounds_toArray, List.set_cons_zero, List.set_cons_succ])
                            refine wpAnyH_take (i := 14) (v := ?vae_y14) rfl (by kernel_rfl) (by kernel_rfl) (by kernel_rfl) (fun _ _ _ h => h) (Or.inl ⟨by rfl, ?yae_y14⟩) (by assumption) ?rae_y14
                            case yae_y14 => intro w hSw; (try dsimp only at hSw); go_simp <;> (try with_reducible rfl)
                            (try simp only [List.getElem_toArray, List.getElem_cons_succ, List.getElem_cons_zero, Act.put, List.setIfInBounds_toArray, List.set_cons_zero, List.set_cons_succ])
                            have F1 := B13
                            have F2 := hka
                            have F3 := hle13
                            have F4 := hHeld
                            revert F1 F2 F3 F4
                            exact hrest g13 wa
                        intro g13 wb B13 hkb hle13 hHeld
                        refine wpAnyH_ready (rs := [16]) (by kernel_rfl) (by simp) ?_
                        refine AllReadyH.cons rfl (fun K hK => ?_) AllReadyH.nil
                        rw [if_pos (by rfl)]
                        refine wp_put 23 (.tmp 13) (.tmp 133) rfl g13 0 rfl (.agg [Value.int .i64 N1, Value.int .i64 D1].toArray) rfl B13 [Value.int .i64 N1, Value.int .i64 D1] rfl Tryd.szQ (Nat.le_refl 2) (int_one _ _) ?_
                        intro wc hux hBx
                        rw [splice_all _ _ (by rfl)] at hBx
                        clear B13
                        have B13 := hBx
                        have hkwc := hkb.trans (hux.below (B := wr.heap.size) hle13)
                        refine hK.out _ _ (HS.out _ hkwc) (fun hHeld => ?_)
                        clear hK K hux hBx hkb hdd
                        refine wpAnyH_take (i := 17) (v := ?vae_z17) rfl (by kernel_rfl) (by kernel_rfl) (by kernel_rfl) (fun _ _ _ h => h) (Or.inl ⟨by rfl, ?yae_z17⟩) (by assumption) ?rae_z17
                        case yae_z17 => intro w hSw; (try dsimp only at hSw); go_simp <;> (try with_reducible rfl)
                        (try simp only [List.getElem_toArray, List.getElem_cons_succ, List.getElem_cons_zero, Act.put, List.setIfInBounds_toArray, List.set_cons_zero, List.set_cons_succ])
                        refine wpAnyH_done (by kernel_rfl) ?_ _
                        clear hHeld HS X1 hzX hzY c1
                        have hI2 := HI.out.keep (hkwc.mono hsz)
                        have hszz : T ≤ wc.heap.size := Nat.le_trans hsz hkwc.size
                        have hbe2 := hbe.low hkwc (Nat.le_trans hBT hsz)
                        have B11b := B11.next hkwc B11.lt
                        have hT13 : T ≤ g13 := Nat.le_trans hsz hle13
                        have ha13 : w.heap.size ≤ g13 := Nat.le_trans hbe.below.size hle13
                        have hn1113 : g11 ≠ g13 := by have := B11.lt; omega
                        have hgw13 : g13 ≠ gw := by have := hI2.base.2.2.2.2; omega
                        have z0 := B13.cell (k := 0) rfl
                        have z1 := B13.cell (k := 1) rfl
                        clear hbe HI B11 c0 cE c2
                        have HQ2 := HQI
                        clear HQI
                        rcases G1.out with ⟨f1, rfl, rfl, rfl⟩ | ⟨f1, rfl⟩
                        · skip
                          go_wp2_with fail
                          (with_reducible refine (keep_ok gw _ _ _ _ hI2.wk).mono ?_)
                          rintro e w3 ⟨rfl, hW, ho3⟩
                          have B13c := B13.only ho3 (by simp; exact hgw13)
                          clear z0 z1 B13
                          go_wp2_with (with_reducible refine wpList_put (o := ⟨none, .store 23 (.tmp 13) (.tmp 138), _, _, _, _⟩) (by with_unfolding_all rfl) 23 (.tmp 13) (.tmp 138) (by with_unfolding_all rfl) g13 0 (by with_unfolding_all rfl) (.agg [Value.int .i64 (y * o).num, Value.int .i64 ((y * o).den : Int)].toArray) (by with_unfolding_all rfl) B13c [Value.int .i64 (y * o).num, Value.int .i64 ((y * o).den : Int)] (by with_unfolding_all rfl) (by with_unfolding_all (exact Tryd.szQ)) (by with_unfolding_all (exact Nat.le_refl 2)) (by with_unfolding_all (exact int_one _ _)) ?_)
                          intro w4 hu4 B13
                          rw [splice_all _ _ (by rfl)] at B13
                          have hW3 := hI2.stay ho3 hW
                          have hI4 := hW3.keep (hu4.below (B := T) hT13)
                          have hgwB : B ≤ gw := hI2.base.2.1
                          have hb3 := hbe2.only ho3 (fun k hk => by rw [List.mem_singleton.1 hk]; exact ⟨hgwB, hI2.base.2.2.2.2⟩) (Nat.le_trans hBT hszz)
                          have hb4 := hb3.upd hu4 (Nat.le_trans hBT hT13) ha13
                          have hsz4 : T ≤ w4.heap.size := Nat.le_trans hszz (Nat.le_trans ho3.size (Nat.le_of_eq hu4.size.symm))
                          have B11c := (B11b.only ho3 (by simp; have := hI2.base.2.2.2.2; omega)).upd hu4 hn1113
                          have cE := hI4.wk.cell (k := 1) rfl
                          clear hW hW3 hb3 B13c hbe2 B11b ho3 hu4
                          obtain ⟨P, hP⟩ : ∃ X, qC (y * o) = X := ⟨_, rfl⟩
                          have hzP := Tryd.szQl P (by rw [← hP]; rfl)
                          have hB13 : Blk w4 g13 23 (qC (y * o)) := B13
                          have x2 := X2.out f1
                          rw [hP] at hB13 x2
                          have hr13 : w4.rangeAt g13 0 P := blk_range hB13
                          have hqi : w4.rangeAt gi (k * 2) Z := by
                            rw [← HZZ.out]
                            exact rowR_range (hI4.rows i _ _ HRI.out HCI.out).2.2 (prs_get (mid_get HEE.out HXX.out))
                          have c0 := hI4.wk.cell (k := 0) rfl
                          have c1 := hI4.hdr HRI.out
                          rw [HM.out] at c0
                          unfold rowV at c1
                          dsimp only at c1
                          have HS : Hid (∀ w', Below w4.heap.size w4 w' → w'.cell? ⟨gw, 0, none⟩ = some (.slice (some ⟨gr, 0, none⟩) m cL) ∧ w'.cell? ⟨gr, i, none⟩ = some (.slice (some ⟨gi, 0, none⟩) N ci) ∧ w'.rangeAt gi (k * 2) Z ∧ w'.rangeAt g13 0 P) :=
                            (fun w' h => ⟨cellq_below h c0, cellq_below h c1, range_below hqi h, range_below hr13 h⟩ : ∀ w', Below w4.heap.size w4 w' → w'.cell? ⟨gw, 0, none⟩ = some (.slice (some ⟨gr, 0, none⟩) m cL) ∧ w'.cell? ⟨gr, i, none⟩ = some (.slice (some ⟨gi, 0, none⟩) N ci) ∧ w'.rangeAt gi (k * 2) Z ∧ w'.rangeAt g13 0 P)
                          have X3 := Lib.hid x2
                          have HI := Lib.hid hI4
                          clear hP hB13 x2 hr13 hqi hI4 hI2 B13 X2
                          go_wp2
                          have hdd := below_drew w4
                          refine wp_region_held_drew (S := fun w' => w'.cell? ⟨gw, 0, none⟩ = some (.slice (some ⟨gr, 0, none⟩) m cL) ∧ w'.cell? ⟨gr, i, none⟩ = some (.slice (some ⟨gi, 0, none⟩) N ci) ∧ w'.rangeAt gi (k * 2) Z ∧ w'.rangeAt g13 0 P) (by kernel_rfl) (HS.out _ hdd) (fun hHeld => ?_)
                          generalize w4.drew = wd at hdd hHeld ⊢
                          refine wpAnyH_take (i := 0) (v := ?vaf_0) rfl (by kernel_rfl) (by kernel_rfl) (by kernel_rfl) (fun _ _ _ h => h) (Or.inl ⟨by rfl, ?yaf_0⟩) (by assumption) ?raf_0
                          case yaf_0 => intro w hSw; (try dsimp only at hSw); go_simp <;> (try with_reducible rfl)
                          (try simp only [List.getElem_toArray, List.getElem_cons_zero, Act.put, List.setIfInBounds_toArray, List.set_cons_zero, List.set_cons_succ])
                          refine wpAnyH_take (i := 1) (v := ?vaf_1) rfl (by kernel_rfl) (by kernel_rfl) (by kernel_rfl) (fun _ _ _ h => h) (Or.inl ⟨by rfl, ?yaf_1⟩) (by assumption) ?raf_1
                          case yaf_1 => intro w hSw; (try dsimp only at hSw); go_simp <;> (try with_reducible rfl)
                          (try simp only [List.getElem_toArray, List.getElem_cons_succ, List.getElem_cons_zero, Act.put, List.setIfInBounds_toArray, List.set_cons_zero, List.set_cons_succ])
                          refine wpAnyH_take (i := 2) (v := ?vaf_2) rfl (by kernel_rfl) (by kernel_rfl) (by kernel_rfl) (fun _ _ _ h => h) (Or.inl ⟨by rfl, ?yaf_2⟩) (by assumption) ?raf_2
                          case yaf_2 => intro w hSw; (try dsimp only at hSw); go_simp <;> (try with_reducible rfl)
                          (try simp only [List.getElem_toArray, List.getElem_cons_succ, List.getElem_cons_zero, Act.put, List.setIfInBounds_toArray, List.set_cons_zero, List.set_cons_succ])
                          refine wpAnyH_take (i := 3) (v := ?vaf_3) rfl (by kernel_rfl) (by kernel_rfl) (by kernel_rfl) (fun _ _ _ h => h) (Or.inl ⟨by rfl, ?yaf_3⟩) (by assumption) ?raf_3
                          case yaf_3 => intro w hSw; (try dsimp only at hSw); go_simp <;> (try with_reducible rfl)
                          (try simp only [List.getElem_toArray, List.getElem_cons_succ, List.getElem_cons_zero, Act.put, List.setIfInBounds_toArray, List.set_cons_zero, List.set_cons_succ])
                          refine wpAnyH_take (i := 4) (v := ?vaf_4) rfl (by kernel_rfl) (by kernel_rfl) (by kernel_rfl) (fun _ _ _ h => h) (Or.inl ⟨by rfl, ?yaf_4⟩) (by assumption) ?raf_4
                          case yaf_4 => intro w hSw; (try dsimp only at hSw); go_simp <;> (try with_reducible rfl)
                          (try simp only [List.getElem_toArray, List.getElem_cons_succ, List.getElem_cons_zero, Act.put, List.setIfInBounds_toArray, List.set_cons_zero, List.set_cons_succ])
                          refine wpAnyH_take (i := 5) (v := ?vaf_5) rfl (by kernel_rfl) (by kernel_rfl) (by kernel_rfl) (fun _ _ _ h => h) (Or.inl ⟨by rfl, ?yaf_5⟩) (by assumption) ?raf_5
                          case yaf_5 => intro w hSw; (try dsimp only at hSw); go_simp <;> (try with_reducible rfl)
                          (try simp only [List.getElem_toArray, List.getElem_cons_succ, List.getElem_cons_zero, Act.put, List.setIfInBounds_toArray, List.set_cons_zero, List.set_cons_succ])
                          refine wpAnyH_take (i := 6) (v := ?vaf_6) rfl (by kernel_rfl) (by kernel_rfl) (by kernel_rfl) (fun _ _ _ h => h) (Or.inl ⟨by rfl, ?yaf_6⟩) (by assumption) ?raf_6
                          case yaf_6 => intro w hSw; (try dsimp only at hSw); go_simp <;> (try with_reducible rfl)
                          (try simp only [List.getElem_toArray, List.getElem_cons_succ, List.getElem_cons_zero, Act.put, List.setIfInBounds_toArray, List.set_cons_zero, List.set_cons_succ])
                          refine wpAnyH_take (i := 7) (v := ?vaf_7) rfl (by kernel_rfl) (by kernel_rfl) (by kernel_rfl) (fun _ _ _ h => h) (Or.inl ⟨by rfl, ?yaf_7⟩) (by assumption) ?raf_7
                          case yaf_7 => intro w hSw; (try dsimp only at hSw); go_simp <;> (try with_reducible rfl)
                          (try simp only [List.getElem_toArray, List.getElem_cons_succ, List.getElem_cons_zero, Act.put, List.setIfInBounds_toArray, List.set_cons_zero, List.set_cons_succ])
                          refine wpAnyH_take (i := 8) (v := ?vaf_8) rfl (by kernel_rfl) (by kernel_rfl) (by kernel_rfl) (fun _ _ _ h => h) (Or.inl ⟨by rfl, ?yaf_8⟩) (by assumption) ?raf_8
                          case yaf_8 => intro w hSw; (try dsimp only at hSw); go_simp <;> (try with_reducible rfl)
                          (try simp only [List.getElem_toArray, List.getElem_cons_succ, List.getElem_cons_zero, Act.put, List.setIfInBounds_toArray, List.set_cons_zero, List.set_cons_succ])
                          refine' wpAnyH_take (i := 9) (v := _) rfl (by kernel_rfl) (by kernel_rfl) (by kernel_rfl) (fun _ _ _ h => h) (yieldsIf_load_mid (by rfl) _ _ (by rfl) _ _ (by rfl) _ _ ?Saf_9 ?uaf_9 ?daf_9 ?iaf_9) (by assumption) ?raf_9
                          case Saf_9 => exact (by intro w h; exact h.2.2.1)
                          case uaf_9 => exact Tryd.underlying23
                          case daf_9 => rfl
                          case iaf_9 => exact hzZ
                          (try simp only [List.getElem_toArray, List.getElem_cons_succ, List.getElem_cons_zero, Act.put, List.setIfInBounds_toArray, List.set_cons_zero, List.set_cons_succ])
                          refine' wpAnyH_take (i := 10) (v := _) rfl (by kernel_rfl) (by kernel_rfl) (by kernel_rfl) (fun _ _ _ h => h) (yieldsIf_load_mid (by rfl) _ _ (by rfl) _ _ (by rfl) _ _ ?Saf_10 ?uaf_10 ?daf_10 ?iaf_10) (by assumption) ?raf_10
                          case Saf_10 => exact (by intro w h; exact h.2.2.2)
                          case uaf_10 => exact Tryd.underlying23
                          case daf_10 => rfl
                          case iaf_10 => exact hzP
                          (try simp only [List.getElem_toArray, List.getElem_cons_succ, List.getElem_cons_zero, Act.put, List.setIfInBounds_toArray, List.set_cons_zero, List.set_cons_succ])
                          apply rest2
                          · intro hrest
                            refine wpAnyH_ready (rs := [11, 15]) (by kernel_rfl) (by simp) ?_
                            refine AllReadyH.cons rfl (fun K hK => ?_) (AllReadyH.cons rfl (fun K hK => ?_) AllReadyH.nil)
                            · skip
                              go_simp
                              go_wp2_with fail
                              (with_reducible refine (X3.out _).mono ?_)
                              rintro e wa ⟨rfl, hba⟩
                              have hka := below_join hdd hba
                              refine hK.out _ _ (HS.out _ hka) (fun hHeld => ?_)
                              clear hK K hba
                              refine wpAnyH_take (i := 12) (v := ?vaf_x12) rfl (by kernel_rfl) (by kernel_rfl) (by kernel_rfl) (fun _ _ _ h => h) (Or.inl ⟨by rfl, ?yaf_x12⟩) (by assumption) ?raf_x12
                              case yaf_x12 => intro w hSw; (try dsimp only at hSw); go_simp <;> (try with_reducible rfl)
                              (try simp only [List.getElem_toArray, List.getElem_cons_succ, List.getElem_cons_zero, Act.put, List.setIfInBounds_toArray, List.set_cons_zero, List.set_cons_succ])
                              refine wpAnyH_take (i := 13) (v := ?vaf_x13) rfl (by kernel_rfl) (by kernel_rfl) (by kernel_rfl) (fun _ _ _ h => h) (Or.inl ⟨by rfl, ?yaf_x13⟩) (by assumption) ?raf_x13
                              case yaf_x13 => intro w hSw; (try dsimp only at hSw); go_simp <;> (try with_reducible rfl)
                              (try simp only [List.getElem_toArray, List.getElem_cons_succ, List.getElem_cons_zero, Act.put, List.setIfInBounds_toArray, List.set_cons_zero, List.set_cons_succ])
                              refine wpAnyH_take (i := 14) (v := ?vaf_x14) rfl (by kernel_rfl) (by kernel_rfl) (by kernel_rfl) (fun _ _ _ h => h) (Or.inl ⟨by rfl, ?yaf_x14⟩) (by assumption) ?raf_x14
                              case yaf_x14 => intro w hSw; (try dsimp only at hSw); go_simp <;> (try with_reducible rfl)
                              (try simp only [List.getElem_toArray, List.getElem_cons_succ, List.getElem_cons_zero, Act.put, List.setIfInBounds_toArray, List.set_cons_zero, List.set_cons_succ])
                              refine wpAnyH_ready (rs := [15]) (by kernel_rfl) (by simp) ?_
                              refine AllReadyH.cons rfl (fun K hK => ?_) AllReadyH.nil
                              rw [if_pos (by rfl)]
                              refine wp_allocz 23 rfl (.agg zC.toArray) zC Tryd.zeroQ rfl ?_
                              intro g15 wb hg15 hsx hbx B15
                              have hbx := hbx.mono (Nat.le_of_eq hg15.out.symm)
                              have hkwb := below_join hka hbx
                              have hle15 : w4.heap.size ≤ g15 := by have := hka.size; have := hg15.out; omega
                              clear hg15 hsx
                              refine hK.out _ _ (HS.out _ hkwb) (fun hHeld => ?_)
                              clear hK K hbx hka
                              have F1 := B15
                              have F2 := hkwb
                              have F3 := hle15
                              have F4 := hHeld
                              revert F1 F2 F3 F4
                              exact hrest g15 wb
                            · skip
                              rw [if_pos (by rfl)]
                              refine wp_allocz 23 rfl (.agg zC.toArray) zC Tryd.zeroQ rfl ?_
                              intro g15 wb hg15 hsx hbx B15
                              have hbx := hbx.mono (Nat.le_of_eq hg15.out.symm)
                              have hkwb := below_join hdd hbx
                              have hle15 : w4.heap.size ≤ g15 := by have := hdd.size; have := hg15.out; omega
                              clear hg15 hsx
                              refine hK.out _ _ (HS.out _ hkwb) (fun hHeld => ?_)
                              clear hK K hbx
                              refine wpAnyH_ready (rs := [11]) (by kernel_rfl) (by simp) ?_
                              refine AllReadyH.cons rfl (fun K hK => ?_) AllReadyH.nil
                              go_simp
                              go_wp2_with fail
                              (with_reducible refine (X3.out _).mono ?_)
                              rintro e wa ⟨rfl, hba⟩
                              have hka := below_join hkwb hba
                              have B15 := B15.next hba B15.lt
                              refine hK.out _ _ (HS.out _ hka) (fun hHeld => ?_)
                              clear hK K hba hkwb
                              refine wpAnyH_take (i := 12) (v := ?vaf_y12) rfl (by kernel_rfl) (by kernel_rfl) (by kernel_rfl) (fun _ _ _ h => h) (Or.inl ⟨by rfl, ?yaf_y12⟩) (by assumption) ?raf_y12
                              case yaf_y12 => intro w hSw; (try dsimp only at hSw); go_simp <;> (try with_reducible rfl)
                              (try simp only [List.getElem_toArray, List.getElem_cons_succ, List.getElem_cons_zero, Act.put, List.setIfInBounds_toArray, List.set_cons_zero, List.set_cons_succ])
                              refine wpAnyH_take (i := 13) (v := ?vaf_y13) rfl (by kernel_rfl) (by kernel_rfl) (by kernel_rfl) (fun _ _ _ h => h) (Or.inl ⟨by rfl, ?yaf_y13⟩) (by assumption) ?raf_y13
                              case yaf_y13 => intro w hSw; (try dsimp only at hSw); go_simp <;> (try with_reducible rfl)
                              (try simp only [List.getElem_toArray, List.getElem_cons_succ, List.getElem_cons_zero, Act.put, List.setIfInBounds_toArray, List.set_cons_zero, List.set_cons_succ])
                              refine wpAnyH_take (i := 14) (v := ?vaf_y14) rfl (by kernel_rfl) (by kernel_rfl) (by kernel_rfl) (fun _ _ _ h => h) (Or.inl ⟨by rfl, ?yaf_y14⟩) (by assumption) ?raf_y14
                              case yaf_y14 => intro w hSw; (try dsimp only at hSw); go_simp <;> (try with_reducible rfl)
                              (try simp only [List.getElem_toArray, List.getElem_cons_succ, List.getElem_cons_zero, Act.put, List.setIfInBounds_toArray, List.set_cons_zero, List.set_cons_succ])
                              have F1 := B15
                              have F2 := hka
                              have F3 := hle15
                              have F4 := hHeld
                              revert F1 F2 F3 F4
                              exact hrest g15 wa
                          intro g15 wb B15 hkb hle15 hHeld
                          refine wpAnyH_ready (rs := [16]) (by kernel_rfl) (by simp) ?_
                          refine AllReadyH.cons rfl (fun K hK => ?_) AllReadyH.nil
                          rw [if_pos (by rfl)]
                          refine wp_put 23 (.tmp 15) (.tmp 157) rfl g15 0 rfl (.agg [Value.int .i64 N2, Value.int .i64 D2].toArray) rfl B15 [Value.int .i64 N2, Value.int .i64 D2] rfl Tryd.szQ (Nat.le_refl 2) (int_one _ _) ?_
                          intro w5 hux hBx
                          rw [splice_all _ _ (by rfl)] at hBx
                          clear B15
                          have B15 := hBx
                          have hkw5 := hkb.trans (hux.below (B := w4.heap.size) hle15)
                          refine hK.out _ _ (HS.out _ hkw5) (fun hHeld => ?_)
                          clear hK K hux hBx hkb hdd
                          refine wpAnyH_take (i := 17) (v := ?vaf_z17) rfl (by kernel_rfl) (by kernel_rfl) (by kernel_rfl) (fun _ _ _ h => h) (Or.inl ⟨by rfl, ?yaf_z17⟩) (by assumption) ?raf_z17
                          case yaf_z17 => intro w hSw; (try dsimp only at hSw); go_simp <;> (try with_reducible rfl)
                          (try simp only [List.getElem_toArray, List.getElem_cons_succ, List.getElem_cons_zero, Act.put, List.setIfInBounds_toArray, List.set_cons_zero, List.set_cons_succ])
                          refine wpAnyH_done (by kernel_rfl) ?_ _
                          clear hHeld HS X3 hzZ hzP c0 c1 cE
                          have hI5 := HI.out.keep (hkw5.mono hsz4)
                          have hszz : T ≤ w5.heap.size := Nat.le_trans hsz4 hkw5.size
                          have hbe5 := hb4.low hkw5 (Nat.le_trans hBT hsz4)
                          have B11d := B11c.next hkw5 B11c.lt
                          have hT15 : T ≤ g15 := Nat.le_trans hsz4 hle15
                          clear hb4 HI B11c
                          rcases G2.out with ⟨f2, rfl, rfl, rfl⟩ | ⟨f2, rfl⟩
                          · skip
                            go_wp2
                            have hdd := below_drew w5
                            have hI3 := hI5.keep (hdd.mono hszz)
                            have hB3 := B15.next hdd B15.lt
                            have hgwg : g15 ≠ gw := by have := hI5.base.2.2.2.2; omega
                            have hgrg : gr ≠ gw := hI5.base.2.2.1
                            have hC0 : w5.drew.cell? ⟨gw, 0, none⟩ = some (.slice (some ⟨gr, 0, none⟩) m cL) := by have h := hI3.wk.cell (k := 0) rfl; rw [HM.out] at h; exact h
                            refine wp_region_held_drew (S := fun w' => w'.cell? ⟨gw, 0, none⟩ = some (.slice (some ⟨gr, 0, none⟩) m cL) ∧ w'.cell? ⟨gr, i, none⟩ = some (.slice (some ⟨gi, 0, none⟩) N ci) ∧ w'.rangeAt g15 0 [Value.int .i64 (x - y * o).num, Value.int .i64 ((x - y * o).den : Int)]) (by kernel_rfl) ⟨hC0, hI3.hdr HRI.out, blk_range hB3⟩ (fun hHeld => ?_)
                            clear hC0
                            generalize w5.drew = wd at hdd hI3 hB3 hHeld ⊢
                            refine wpAnyH_take (i := 0) (v := ?vag_0) rfl (by kernel_rfl) (by kernel_rfl) (by kernel_rfl) (fun _ _ _ h => h) (Or.inl ⟨by rfl, ?yag_0⟩) (by assumption) ?rag_0
                            case yag_0 => intro w hSw; (try dsimp only at hSw); go_simp <;> (try with_reducible rfl)
                            (try simp only [List.getElem_toArray, List.getElem_cons_zero, Act.put, List.setIfInBounds_toArray, List.set_cons_zero, List.set_cons_succ])
                            refine wpAnyH_take (i := 1) (v := ?vag_1) rfl (by kernel_rfl) (by kernel_rfl) (by kernel_rfl) (fun _ _ _ h => h) (Or.inl ⟨by rfl, ?yag_1⟩) (by assumption) ?rag_1
                            case yag_1 => intro w hSw; (try dsimp only at hSw); go_simp <;> (try with_reducible rfl)
                            (try simp only [List.getElem_toArray, List.getElem_cons_succ, List.getElem_cons_zero, Act.put, List.setIfInBounds_toArray, List.set_cons_zero, List.set_cons_succ])
                            refine wpAnyH_take (i := 2) (v := ?vag_2) rfl (by kernel_rfl) (by kernel_rfl) (by kernel_rfl) (fun _ _ _ h => h) (Or.inl ⟨by rfl, ?yag_2⟩) (by assumption) ?rag_2
                            case yag_2 => intro w hSw; (try dsimp only at hSw); go_simp <;> (try with_reducible rfl)
                            (try simp only [List.getElem_toArray, List.getElem_cons_succ, List.getElem_cons_zero, Act.put, List.setIfInBounds_toArray, List.set_cons_zero, List.set_cons_succ])
                            refine wpAnyH_take (i := 3) (v := ?vag_3) rfl (by kernel_rfl) (by kernel_rfl) (by kernel_rfl) (fun _ _ _ h => h) (Or.inl ⟨by rfl, ?yag_3⟩) (by assumption) ?rag_3
                            case yag_3 => intro w hSw; (try dsimp only at hSw); go_simp <;> (try with_reducible rfl)
                            (try simp only [List.getElem_toArray, List.getElem_cons_succ, List.getElem_cons_zero, Act.put, List.setIfInBounds_toArray, List.set_cons_zero, List.set_cons_succ])
                            refine wpAnyH_take (i := 4) (v := ?vag_4) rfl (by kernel_rfl) (by kernel_rfl) (by kernel_rfl) (fun _ _ _ h => h) (Or.inl ⟨by rfl, ?yag_4⟩) (by assumption) ?rag_4
                            case yag_4 => intro w hSw; (try dsimp only at hSw); go_simp <;> (try with_reducible rfl)
                            (try simp only [List.getElem_toArray, List.getElem_cons_succ, List.getElem_cons_zero, Act.put, List.setIfInBounds_toArray, List.set_cons_zero, List.set_cons_succ])
                            refine wpAnyH_take (i := 5) (v := ?vag_5) rfl (by kernel_rfl) (by kernel_rfl) (by kernel_rfl) (fun _ _ _ h => h) (Or.inl ⟨by rfl, ?yag_5⟩) (by assumption) ?rag_5
                            case yag_5 => intro w hSw; (try dsimp only at hSw); go_simp <;> (try with_reducible rfl)
                            (try simp only [List.getElem_toArray, List.getElem_cons_succ, List.getElem_cons_zero, Act.put, List.setIfInBounds_toArray, List.set_cons_zero, List.set_cons_succ])
                            refine wpAnyH_take (i := 6) (v := ?vag_6) rfl (by kernel_rfl) (by kernel_rfl) (by kernel_rfl) (fun _ _ _ h => h) (Or.inl ⟨by rfl, ?yag_6⟩) (by assumption) ?rag_6
                            case yag_6 => intro w hSw; (try dsimp only at hSw); go_simp <;> (try with_reducible rfl)
                            (try simp only [List.getElem_toArray, List.getElem_cons_succ, List.getElem_cons_zero, Act.put, List.setIfInBounds_toArray, List.set_cons_zero, List.set_cons_succ])
                            refine wpAnyH_take (i := 7) (v := ?vag_7) rfl (by kernel_rfl) (by kernel_rfl) (by kernel_rfl) (fun _ _ _ h => h) (Or.inl ⟨by rfl, ?yag_7⟩) (by assumption) ?rag_7
                            case yag_7 => intro w hSw; (try dsimp only at hSw); go_simp <;> (try with_reducible rfl)
                            (try simp only [List.getElem_toArray, List.getElem_cons_succ, List.getElem_cons_zero, Act.put, List.setIfInBounds_toArray, List.set_cons_zero, List.set_cons_succ])
                            refine wpAnyH_take (i := 8) (v := ?vag_8) rfl (by kernel_rfl) (by kernel_rfl) (by kernel_rfl) (fun _ _ _ h => h) (Or.inl ⟨by rfl, ?yag_8⟩) (by assumption) ?rag_8
                            case yag_8 => intro w hSw; (try dsimp only at hSw); go_simp <;> (try with_reducible rfl)
                            (try simp only [List.getElem_toArray, List.getElem_cons_succ, List.getElem_cons_zero, Act.put, List.setIfInBounds_toArray, List.set_cons_zero, List.set_cons_succ])
                            refine' wpAnyH_take (i := 9) (v := _) rfl (by kernel_rfl) (by kernel_rfl) (by kernel_rfl) (fun _ _ _ h => h) (yieldsIf_load_mid (by rfl) _ _ (by rfl) _ _ (by rfl) _ _ ?Sag_9 ?uag_9 ?dag_9 ?iag_9) (by assumption) ?rag_9
                            case Sag_9 => exact (by intro w h; exact h.2.2)
                            case uag_9 => exact Tryd.underlying23
                            case dag_9 => rfl
                            case iag_9 => exact Tryd.szQ
                            (try simp only [List.getElem_toArray, List.getElem_cons_succ, List.getElem_cons_zero, Act.put, List.setIfInBounds_toArray, List.set_cons_zero, List.set_cons_succ])
                            refine wpAnyH_take (i := 10) (v := ?vag_10) rfl (by kernel_rfl) (by kernel_rfl) (by kernel_rfl) (fun _ _ _ h => h) (Or.inl ⟨by rfl, ?yag_10⟩) (by assumption) ?rag_10
                            case yag_10 => intro w hSw; (try dsimp only at hSw); go_simp <;> (try with_reducible rfl)
                            (try simp only [List.getElem_toArray, List.getElem_cons_succ, List.getElem_cons_zero, Act.put, List.setIfInBounds_toArray, List.set_cons_zero, List.set_cons_succ])
                            refine wpAnyH_ready (rs := [11]) (by kernel_rfl) (by simp) ?_
                            refine AllReadyH.cons rfl (fun K hK => ?_) AllReadyH.nil
                            go_simp
                            go_wp2_with fail
                            (with_reducible refine (keep_ok gw _ _ _ _ hI3.wk).mono ?_)
                            rintro e we ⟨rfl, hW, hoe⟩
                            have hRe := ((hI3.rows i _ _ HRI.out HCI.out).2.2).only hoe (by simp; exact hapi.2.1)
                            have hHe := hI3.hdrs.only hoe (by simp; exact hgrg)
                            have hBe := hB3.only hoe (by simp; exact hgwg)
                            have hC0 : we.cell? ⟨gw, 0, none⟩ = some (.slice (some ⟨gr, 0, none⟩) m cL) := by have h := hW.cell (k := 0) rfl; rw [HM.out] at h; exact h
                            have hC1 : we.cell? ⟨gr, i, none⟩ = some (.slice (some ⟨gi, 0, none⟩) N ci) := hHe.cell (by rw [List.getElem?_append_left (by rw [List.length_map]; exact (List.getElem?_eq_some_iff.1 HRI.out).1), List.getElem?_map, HRI.out]; rfl)
                            refine hK.out _ _ ⟨hC0, hC1, blk_range hBe⟩ (fun hHeld => ?_)
                            clear hK K
                            refine wpAnyH_take (i := 12) (v := ?vag_12) rfl (by kernel_rfl) (by kernel_rfl) (by kernel_rfl) (fun _ _ _ h => h) (Or.inl ⟨by rfl, ?yag_12⟩) (by assumption) ?rag_12
                            case yag_12 => intro w hSw; (try dsimp only at hSw); go_simp <;> (try with_reducible rfl)
                            (try simp only [List.getElem_toArray, List.getElem_cons_succ, List.getElem_cons_zero, Act.put, List.setIfInBounds_toArray, List.set_cons_zero, List.set_cons_succ])
                            refine wpAnyH_ready (rs := [13]) (by kernel_rfl) (by simp) ?_
                            refine AllReadyH.cons rfl (fun K hK => ?_) AllReadyH.nil
                            rw [if_pos (by rfl)]
                            refine wp_put 23 (.tmp 171) (.tmp 170) rfl gi (k * 2) rfl (.agg [Value.int .i64 (x - y * o).num, Value.int .i64 ((x - y * o).den : Int)].toArray) rfl hRe [Value.int .i64 (x - y * o).num, Value.int .i64 ((x - y * o).den : Int)] rfl Tryd.szQ (rowZ_len HLN.out hlt) (int_one _ _) ?_
                            intro wf huf hBf
                            have hWf := hW.upd huf (fun e => hapi.2.1 e.symm)
                            have hHf := hHe.upd huf (fun e => hapi.1 e.symm)
                            have hgx : g15 ≠ gi := by have := hapi.2.2.2; omega
                            have hBg := hBe.upd huf hgx
                            have hC0f : wf.cell? ⟨gw, 0, none⟩ = some (.slice (some ⟨gr, 0, none⟩) m cL) := by have h := hWf.cell (k := 0) rfl; rw [HM.out] at h; exact h
                            have hC1f : wf.cell? ⟨gr, i, none⟩ = some (.slice (some ⟨gi, 0, none⟩) N ci) := hHf.cell (by rw [List.getElem?_append_left (by rw [List.length_map]; exact (List.getElem?_eq_some_iff.1 HRI.out).1), List.getElem?_map, HRI.out]; rfl)
                            refine hK.out _ _ ⟨hC0f, hC1f, blk_range hBg⟩ (fun hHeld => ?_)
                            clear hK K hC0f hC1f hC0 hC1
                            refine wpAnyH_done (by kernel_rfl) ?_ _
                            have hOf : Only [gi, gw] wd wf := (hoe.mono (by simp)).trans (Only.of_upd huf (by simp))
                            clear hHeld hHe hRe hBe hW huf hHf hBg hoe
                            have hL : ∀ k ∈ [gi, gw], B ≤ k ∧ k < T := fun k hk => by
                              simp at hk
                              rcases hk with rfl | rfl
                              · exact hapi.2.2
                              · exact ⟨hI3.base.2.1, hI3.base.2.2.2.2⟩
                            have hszd := Nat.le_trans hszz hdd.size
                            have hbf := (hbe5.low hdd (Nat.le_trans hBT hszz)).only hOf hL (Nat.le_trans hBT hszd)
                            have hszf := Nat.le_trans hszd hOf.size
                            have B11f := (B11d.next hdd B11d.lt).only hOf (fun h => by have := (hL _ h).2; omega)
                            have hI6 := hI3.put HRI.out HCI.out hlt f2 hOf hBf hWf
                            rw [List.set_set, mid_set HEE.out HXX.out] at hI6
                            have HI6 := Lib.hid hI6
                            have hstp := HST.out
                            rw [HSF.out, if_pos f1, okQ_yes f2] at hstp
                            have HS2 := Lib.hid hstp
                            clear hI6 hstp hI3 hBf hWf hI5 hdd hbe5
                            go_wp2
                            go_roundw
                            case rel => exact ⟨k + 1, by omega, by go_num, hbf, hszf, B11f, .inl ⟨E ++ [x - y * o], by simp; exact HEE.out, by rw [HS2.out]; rfl, HI6.out⟩⟩
                            case measure => simp [intOf]; omega
                          · skip
                            go_wp2
                            have hdd := below_drew w5
                            have hI3 := hI5.keep (hdd.mono hszz)
                            have hB3 := B15.next hdd B15.lt
                            have hgwg : g15 ≠ gw := by have := hI5.base.2.2.2.2; omega
                            have hgrg : gr ≠ gw := hI5.base.2.2.1
                            have hC0 : w5.drew.cell? ⟨gw, 0, none⟩ = some (.slice (some ⟨gr, 0, none⟩) m cL) := by have h := hI3.wk.cell (k := 0) rfl; rw [HM.out] at h; exact h
                            refine wp_region_held_drew (S := fun w' => w'.cell? ⟨gw, 0, none⟩ = some (.slice (some ⟨gr, 0, none⟩) m cL) ∧ w'.cell? ⟨gr, i, none⟩ = some (.slice (some ⟨gi, 0, none⟩) N ci) ∧ w'.rangeAt g15 0 [Value.int .i64 N2, Value.int .i64 D2]) (by kernel_rfl) ⟨hC0, hI3.hdr HRI.out, blk_range hB3⟩ (fun hHeld => ?_)
                            clear hC0
                            generalize w5.drew = wd at hdd hI3 hB3 hHeld ⊢
                            refine wpAnyH_take (i := 0) (v := ?vah_0) rfl (by kernel_rfl) (by kernel_rfl) (by kernel_rfl) (fun _ _ _ h => h) (Or.inl ⟨by rfl, ?yah_0⟩) (by assumption) ?rah_0
                            case yah_0 => intro w hSw; (try dsimp only at hSw); go_simp <;> (try with_reducible rfl)
                            (try simp only [List.getElem_toArray, List.getElem_cons_zero, Act.put, List.setIfInBounds_toArray, List.set_cons_zero, List.set_cons_succ])
                            refine wpAnyH_take (i := 1) (v := ?vah_1) rfl (by kernel_rfl) (by kernel_rfl) (by kernel_rfl) (fun _ _ _ h => h) (Or.inl ⟨by rfl, ?yah_1⟩) (by assumption) ?rah_1
                            case yah_1 => intro w hSw; (try dsimp only at hSw); go_simp <;> (try with_reducible rfl)
                            (try simp only [List.getElem_toArray, List.getElem_cons_succ, List.getElem_cons_zero, Act.put, List.setIfInBounds_toArray, List.set_cons_zero, List.set_cons_succ])
                            refine wpAnyH_take (i := 2) (v := ?vah_2) rfl (by kernel_rfl) (by kernel_rfl) (by kernel_rfl) (fun _ _ _ h => h) (Or.inl ⟨by rfl, ?yah_2⟩) (by assumption) ?rah_2
                            case yah_2 => intro w hSw; (try dsimp only at hSw); go_simp <;> (try with_reducible rfl)
                            (try simp only [List.getElem_toArray, List.getElem_cons_succ, List.getElem_cons_zero, Act.put, List.setIfInBounds_toArray, List.set_cons_zero, List.set_cons_succ])
                            refine wpAnyH_take (i := 3) (v := ?vah_3) rfl (by kernel_rfl) (by kernel_rfl) (by kernel_rfl) (fun _ _ _ h => h) (Or.inl ⟨by rfl, ?yah_3⟩) (by assumption) ?rah_3
                            case yah_3 => intro w hSw; (try dsimp only at hSw); go_simp <;> (try with_reducible rfl)
                            (try simp only [List.getElem_toArray, List.getElem_cons_succ, List.getElem_cons_zero, Act.put, List.setIfInBounds_toArray, List.set_cons_zero, List.set_cons_succ])
                            refine wpAnyH_take (i := 4) (v := ?vah_4) rfl (by kernel_rfl) (by kernel_rfl) (by kernel_rfl) (fun _ _ _ h => h) (Or.inl ⟨by rfl, ?yah_4⟩) (by assumption) ?rah_4
                            case yah_4 => intro w hSw; (try dsimp only at hSw); go_simp <;> (try with_reducible rfl)
                            (try simp only [List.getElem_toArray, List.getElem_cons_succ, List.getElem_cons_zero, Act.put, List.setIfInBounds_toArray, List.set_cons_zero, List.set_cons_succ])
                            refine wpAnyH_take (i := 5) (v := ?vah_5) rfl (by kernel_rfl) (by kernel_rfl) (by kernel_rfl) (fun _ _ _ h => h) (Or.inl ⟨by rfl, ?yah_5⟩) (by assumption) ?rah_5
                            case yah_5 => intro w hSw; (try dsimp only at hSw); go_simp <;> (try with_reducible rfl)
                            (try simp only [List.getElem_toArray, List.getElem_cons_succ, List.getElem_cons_zero, Act.put, List.setIfInBounds_toArray, List.set_cons_zero, List.set_cons_succ])
                            refine wpAnyH_take (i := 6) (v := ?vah_6) rfl (by kernel_rfl) (by kernel_rfl) (by kernel_rfl) (fun _ _ _ h => h) (Or.inl ⟨by rfl, ?yah_6⟩) (by assumption) ?rah_6
                            case yah_6 => intro w hSw; (try dsimp only at hSw); go_simp <;> (try with_reducible rfl)
                            (try simp only [List.getElem_toArray, List.getElem_cons_succ, List.getElem_cons_zero, Act.put, List.setIfInBounds_toArray, List.set_cons_zero, List.set_cons_succ])
                            refine wpAnyH_take (i := 7) (v := ?vah_7) rfl (by kernel_rfl) (by kernel_rfl) (by kernel_rfl) (fun _ _ _ h => h) (Or.inl ⟨by rfl, ?yah_7⟩) (by assumption) ?rah_7
                            case yah_7 => intro w hSw; (try dsimp only at hSw); go_simp <;> (try with_reducible rfl)
                            (try simp only [List.getElem_toArray, List.getElem_cons_succ, List.getElem_cons_zero, Act.put, List.setIfInBounds_toArray, List.set_cons_zero, List.set_cons_succ])
                            refine wpAnyH_take (i := 8) (v := ?vah_8) rfl (by kernel_rfl) (by kernel_rfl) (by kernel_rfl) (fun _ _ _ h => h) (Or.inl ⟨by rfl, ?yah_8⟩) (by assumption) ?rah_8
                            case yah_8 => intro w hSw; (try dsimp only at hSw); go_simp <;> (try with_reducible rfl)
                            (try simp only [List.getElem_toArray, List.getElem_cons_succ, List.getElem_cons_zero, Act.put, List.setIfInBounds_toArray, List.set_cons_zero, List.set_cons_succ])
                            refine' wpAnyH_take (i := 9) (v := _) rfl (by kernel_rfl) (by kernel_rfl) (by kernel_rfl) (fun _ _ _ h => h) (yieldsIf_load_mid (by rfl) _ _ (by rfl) _ _ (by rfl) _ _ ?Sah_9 ?uah_9 ?dah_9 ?iah_9) (by assumption) ?rah_9
                            case Sah_9 => exact (by intro w h; exact h.2.2)
                            case uah_9 => exact Tryd.underlying23
                            case dah_9 => rfl
                            case iah_9 => exact Tryd.szQ
                            (try simp only [List.getElem_toArray, List.getElem_cons_succ, List.getElem_cons_zero, Act.put, List.setIfInBounds_toArray, List.set_cons_zero, List.set_cons_succ])
                            refine wpAnyH_take (i := 10) (v := ?vah_10) rfl (by kernel_rfl) (by kernel_rfl) (by kernel_rfl) (fun _ _ _ h => h) (Or.inl ⟨by rfl, ?yah_10⟩) (by assumption) ?rah_10
                            case yah_10 => intro w hSw; (try dsimp only at hSw); go_simp <;> (try with_reducible rfl)
                            (try simp only [List.getElem_toArray, List.getElem_cons_succ, List.getElem_cons_zero, Act.put, List.setIfInBounds_toArray, List.set_cons_zero, List.set_cons_succ])
                            refine wpAnyH_ready (rs := [11]) (by kernel_rfl) (by simp) ?_
                            refine AllReadyH.cons rfl (fun K hK => ?_) AllReadyH.nil
                            go_simp
                            go_wp2_with fail
                            (with_reducible refine (keep_bad gw _ _ _ _ hI3.wk).mono ?_)
                            rintro e we ⟨rfl, hW, hoe⟩
                            have hRe := ((hI3.rows i _ _ HRI.out HCI.out).2.2).only hoe (by simp; exact hapi.2.1)
                            have hHe := hI3.hdrs.only hoe (by simp; exact hgrg)
                            have hBe := hB3.only hoe (by simp; exact hgwg)
                            have hC0 : we.cell? ⟨gw, 0, none⟩ = some (.slice (some ⟨gr, 0, none⟩) m cL) := by have h := hW.cell (k := 0) rfl; rw [HM.out] at h; exact h
                            have hC1 : we.cell? ⟨gr, i, none⟩ = some (.slice (some ⟨gi, 0, none⟩) N ci) := hHe.cell (by rw [List.getElem?_append_left (by rw [List.length_map]; exact (List.getElem?_eq_some_iff.1 HRI.out).1), List.getElem?_map, HRI.out]; rfl)
                            refine hK.out _ _ ⟨hC0, hC1, blk_range hBe⟩ (fun hHeld => ?_)
                            clear hK K
                            refine wpAnyH_take (i := 12) (v := ?vah_12) rfl (by kernel_rfl) (by kernel_rfl) (by kernel_rfl) (fun _ _ _ h => h) (Or.inl ⟨by rfl, ?yah_12⟩) (by assumption) ?rah_12
                            case yah_12 => intro w hSw; (try dsimp only at hSw); go_simp <;> (try with_reducible rfl)
                            (try simp only [List.getElem_toArray, List.getElem_cons_succ, List.getElem_cons_zero, Act.put, List.setIfInBounds_toArray, List.set_cons_zero, List.set_cons_succ])
                            refine wpAnyH_ready (rs := [13]) (by kernel_rfl) (by simp) ?_
                            refine AllReadyH.cons rfl (fun K hK => ?_) AllReadyH.nil
                            rw [if_pos (by rfl)]
                            refine wp_put 23 (.tmp 171) (.tmp 170) rfl gi (k * 2) rfl (.agg [Value.int .i64 0, Value.int .i64 1].toArray) rfl hRe [Value.int .i64 0, Value.int .i64 1] rfl Tryd.szQ (rowZ_len HLN.out hlt) (int_one _ _) ?_
                            intro wf huf hBf
                            have hWf := hW.upd huf (fun e => hapi.2.1 e.symm)
                            have hHf := hHe.upd huf (fun e => hapi.1 e.symm)
                            have hgx : g15 ≠ gi := by have := hapi.2.2.2; omega
                            have hBg := hBe.upd huf hgx
                            have hC0f : wf.cell? ⟨gw, 0, none⟩ = some (.slice (some ⟨gr, 0, none⟩) m cL) := by have h := hWf.cell (k := 0) rfl; rw [HM.out] at h; exact h
                            have hC1f : wf.cell? ⟨gr, i, none⟩ = some (.slice (some ⟨gi, 0, none⟩) N ci) := hHf.cell (by rw [List.getElem?_append_left (by rw [List.length_map]; exact (List.getElem?_eq_some_iff.1 HRI.out).1), List.getElem?_map, HRI.out]; rfl)
                            refine hK.out _ _ ⟨hC0f, hC1f, blk_range hBg⟩ (fun hHeld => ?_)
                            clear hK K hC0f hC1f hC0 hC1
                            refine wpAnyH_done (by kernel_rfl) ?_ _
                            have hOf : Only [gi, gw] wd wf := (hoe.mono (by simp)).trans (Only.of_upd huf (by simp))
                            clear hHeld hHe hRe hBe hW huf hHf hBg hoe
                            have hL : ∀ k ∈ [gi, gw], B ≤ k ∧ k < T := fun k hk => by
                              simp at hk
                              rcases hk with rfl | rfl
                              · exact hapi.2.2
                              · exact ⟨hI3.base.2.1, hI3.base.2.2.2.2⟩
                            have hszd := Nat.le_trans hszz hdd.size
                            have hbf := (hbe5.low hdd (Nat.le_trans hBT hszz)).only hOf hL (Nat.le_trans hBT hszd)
                            have hszf := Nat.le_trans hszd hOf.size
                            have B11f := (B11d.next hdd B11d.lt).only hOf (fun h => by have := (hL _ h).2; omega)
                            have hX6 := hI3.putX HRI.out HCI.out hlt hOf hBf hWf
                            have HX6 := Lib.hid hX6
                            have hstp := HST.out
                            rw [HSF.out, if_pos f1, okQ_no f2] at hstp
                            have HN := Lib.hid (show clearM u c C = none by rw [HCL.out, HOP.out]; exact mapO_fell (k := i + 1) (by rw [HSUB.out, opTo_fell hstp]; rfl))
                            clear hX6 hstp hI3 hBf hWf hI5 hdd hbe5
                            go_wp2
                            go_roundw
                            case rel => exact ⟨k + 1, by omega, by go_num, hbf, hszf, B11f, .inr ⟨HN.out, HX6.out⟩⟩
                            case measure => simp [intOf]; omega
                        · skip
                          go_wp2_with fail
                          (with_reducible refine (keep_bad gw _ _ _ _ hI2.wk).mono ?_)
                          rintro e w3 ⟨rfl, hW, ho3⟩
                          have B13c := B13.only ho3 (by simp; exact hgw13)
                          clear z0 z1 B13
                          go_wp2_with (with_reducible refine wpList_put (o := ⟨none, .store 23 (.tmp 13) (.tmp 138), _, _, _, _⟩) (by with_unfolding_all rfl) 23 (.tmp 13) (.tmp 138) (by with_unfolding_all rfl) g13 0 (by with_unfolding_all rfl) (.agg [Value.int .i64 0, Value.int .i64 1].toArray) (by with_unfolding_all rfl) B13c [Value.int .i64 0, Value.int .i64 1] (by with_unfolding_all rfl) (by with_unfolding_all (exact Tryd.szQ)) (by with_unfolding_all (exact Nat.le_refl 2)) (by with_unfolding_all (exact int_one _ _)) ?_)
                          intro w4 hu4 B13
                          rw [splice_all _ _ (by rfl)] at B13
                          have hW3 := hI2.toX ho3 hW
                          have hI4 := hW3.keep (hu4.below (B := T) hT13)
                          have hgwB : B ≤ gw := hI2.base.2.1
                          have hb3 := hbe2.only ho3 (fun k hk => by rw [List.mem_singleton.1 hk]; exact ⟨hgwB, hI2.base.2.2.2.2⟩) (Nat.le_trans hBT hszz)
                          have hb4 := hb3.upd hu4 (Nat.le_trans hBT hT13) ha13
                          have hsz4 : T ≤ w4.heap.size := Nat.le_trans hszz (Nat.le_trans ho3.size (Nat.le_of_eq hu4.size.symm))
                          have B11c := (B11b.only ho3 (by simp; have := hI2.base.2.2.2.2; omega)).upd hu4 hn1113
                          have cE := hI4.wk.cell (k := 1) rfl
                          clear hW hW3 hb3 B13c hbe2 B11b ho3 hu4
                          have HX4 := Lib.hid hI4
                          have hstp := HST.out
                          rw [HSF.out, if_neg f1] at hstp
                          have HN := Lib.hid (show clearM u c C = none by rw [HCL.out, HOP.out]; exact mapO_fell (k := i + 1) (by rw [HSUB.out, opTo_fell hstp]; rfl))
                          clear hI4 hstp hI2 B13
                          go_wp2
                          go_roundw
                          case rel => exact ⟨k + 1, by omega, by go_num, hb4, hsz4, B11c, .inr ⟨HN.out, HX4.out⟩⟩
                          case measure => simp [intOf]; omega
                      · skip
                        have hki : (k : Int) < (N : Int) := by omega
                        have c0 := hX.wk.cell (k := 0) rfl
                        have cE := hX.wk.cell (k := 1) rfl
                        have c2 := hX.hdr HRI.out
                        rw [HM.out] at c0
                        unfold rowV at c2
                        dsimp only at c2
                        have HN := Lib.hid hno
                        have HX := Lib.hid hX
                        clear hno hX
                        go_wp2
                        go_roundw
                        case rel => exact ⟨i + 1, by omega, by go_num, hbe, hsz, .inr ⟨HN.out, HX.out⟩⟩
                        case measure => simp [intOf]; omega
                    · skip
                      obtain rfl : N = k := by omega
                      have hkk : ¬ (N : Int) < (N : Int) := by omega
                      rcases hst with ⟨E, hE, hop, hI⟩ | ⟨hno, hX⟩
                      · have c0 := hI.wk.cell (k := 0) rfl
                        have c2 := hI.hdr HRI.out
                        rw [HM.out] at c0
                        unfold rowV at c2
                        dsimp only at c2
                        rw [List.take_of_length_le (by have := HIL.out; omega)] at hop
                        rw [List.drop_eq_nil_of_le (by have := HIL.out; omega), List.append_nil] at hI
                        have hI7 := hI
                        rw [← HCM2.out, mid_set HDD.out HLI.out] at hI7
                        have hD2 := HSUB.out
                        rw [hop] at hD2
                        have HI7 := Lib.hid hI7
                        have HD2 := Lib.hid hD2
                        clear hI hI7 hD2 hop hE
                        go_wp2
                        go_roundw
                        case rel => exact ⟨i + 1, by omega, by go_num, hbe, hsz, .inl ⟨h, D ++ [E], HOP.out, by simp; exact HDD.out, HD2.out, HI7.out⟩⟩
                        case measure => simp [intOf]; omega
                      · have c0 := hX.wk.cell (k := 0) rfl
                        have c2 := hX.hdr HRI.out
                        rw [HM.out] at c0
                        unfold rowV at c2
                        dsimp only at c2
                        have HN := Lib.hid hno
                        have HX := Lib.hid hX
                        clear hno hX
                        go_wp2
                        go_roundw
                        case rel => exact ⟨i + 1, by omega, by go_num, hbe, hsz, .inr ⟨HN.out, HX.out⟩⟩
                        case measure => simp [intOf]; omega
            · skip
              have hii : (i : Int) < (m : Int) := by omega
              obtain ⟨ri, hri⟩ : ∃ r, M[i]? = some r := ⟨_, List.getElem?_eq_getElem (by have := HM.out; omega)⟩
              obtain ⟨raw, hrl, hiB⟩ := hX.rows i ri hri
              obtain ⟨p, hp⟩ : ∃ y, raw[c]? = some y := ⟨_, List.getElem?_eq_getElem (by omega)⟩
              have c0 := hX.wk.cell (k := 0) rfl
              have c1 := hX.hdr hri
              rw [HM.out] at c0
              obtain ⟨gi, ci, Ri⟩ := ri
              unfold rowV at c1
              dsimp only at c1 hiB
              obtain ⟨pa, pb⟩ := p
              have q0 := hiB.cell (rowR_cell (R := Ri) hp).1
              have q1 := hiB.cell (rowR_cell (R := Ri) hp).2
              dsimp only at q0 q1
              have HRI := Lib.hid hri
              have HX := Lib.hid hX
              have HN := Lib.hid hno
              clear hri hX hno hiB hp hrl
              go_wp2_with (with_reducible refine wpList_alloc (o := ⟨some 11, .alloc 23, _, _, _, _⟩) (by with_unfolding_all rfl) 23 (by with_unfolding_all rfl) (.agg zC.toArray) zC (by exact Tryd.zeroQ) (by with_unfolding_all rfl) ?_)
              intro g11 w1 hg11 hs1 hb1 B11
              have hl11 : wr.heap.size ≤ g11 := Nat.le_of_eq hg11.out.symm
              have hb1 := hb1.mono (Nat.le_of_eq hg11.out.symm)
              clear hg11 hs1
              go_wp2_with (with_reducible refine wpList_put (o := ⟨none, .store 23 (.tmp 11) (.tmp 92), _, _, _, _⟩) (by with_unfolding_all rfl) 23 (.tmp 11) (.tmp 92) (by with_unfolding_all rfl) g11 0 (by with_unfolding_all rfl) (.agg [Value.int .i64 pa, Value.int .i64 pb].toArray) (by with_unfolding_all rfl) B11 [Value.int .i64 pa, Value.int .i64 pb] (by with_unfolding_all rfl) (by with_unfolding_all (exact Tryd.szQ)) (by with_unfolding_all (exact Nat.le_refl 2)) (by with_unfolding_all (exact int_one _ _)) ?_)
              intro w2 hu2 hB2
              rw [splice_all _ _ (by rfl)] at hB2
              have hbw := hb1.trans (hu2.below (B := wr.heap.size) hl11)
              have hbe2 := hbe.low hbw (Nat.le_trans hBT hsz)
              have hsz2 := Nat.le_trans hsz hbw.size
              have HX2 := Lib.hid (HX.out.keep (hbw.mono hsz))
              have m0 := hB2.cell (k := 0) rfl
              have c0 := HX2.out.wk.cell (k := 0) rfl
              have cE := HX2.out.wk.cell (k := 1) rfl
              have c1 := HX2.out.hdr HRI.out
              rw [HM.out] at c0
              unfold rowV at c1
              dsimp only at c1
              clear hb1 hu2 B11 q0 q1 HX hl11 hbe hbw hsz
              by_cases hju : i = u
              · skip
                have hjui : (i : Int) = (u : Int) := by omega
                have hjub : ((i : Int) == (u : Int)) = true := beq_iff_eq.2 hjui
                go_wp2
                go_roundw
                case rel => exact ⟨i + 1, by omega, by go_num, hbe2, hsz2, .inr ⟨HN.out, HX2.out⟩⟩
                case measure => simp [intOf]; omega
              · skip
                have hjui : ¬ (i : Int) = (u : Int) := by omega
                have hjub : ((i : Int) == (u : Int)) = false := beq_eq_false_iff_ne.2 hjui
                by_cases hp0 : pa = 0
                · skip
                  subst hp0
                  go_wp2
                  go_roundw
                  case rel => exact ⟨i + 1, by omega, by go_num, hbe2, hsz2, .inr ⟨HN.out, HX2.out⟩⟩
                  case measure => simp [intOf]; omega
                · skip
                  have hp0b : (pa == 0) = false := beq_eq_false_iff_ne.2 hp0
                  have hn0 : (0 : Int) < (N : Int) := by omega
                  go_wp2
                  go_loopw [12] (fun i wx => i = .int .i64 0 ∧ wx = w2) (fun _ _ => 0)
                  case atStart => exact ⟨rfl, rfl⟩
                  case round =>
                    obtain ⟨rfl, rfl⟩ := hrel
                    go_wp2
                    go_roundw
                    case rel => exact ⟨i + 1, by omega, by go_num, hbe2, hsz2, .inr ⟨HN.out, HX2.out⟩⟩
                    case measure => simp [intOf]; omega
          · skip
            obtain rfl : m = i := by omega
            have hkk : ¬ (m : Int) < (m : Int) := by omega
            have hfin : (∃ D, clearM u c C = some D ∧ RL B T gw gr N cL J M D wr) ∨ (clearM u c C = none ∧ RX B T gw gr N cL J M wr) := by
              rcases hst with ⟨h, D, hop, hD, hmo, hI⟩ | ⟨hno, hX⟩
              · left
                rw [List.take_of_length_le (by rw [List.length_set]; have := HCM.out; omega)] at hmo
                rw [List.drop_eq_nil_of_le (by rw [List.length_set]; have := HCM.out; omega), List.append_nil] at hI
                exact ⟨D, by rw [HCL.out, hop]; exact hmo, hI⟩
              · exact .inr ⟨hno, hX⟩
            have c0 : wr.cell? ⟨gw, 0, none⟩ = some (.slice (some ⟨gr, 0, none⟩) m cL) := by
              rcases hfin with ⟨D, _, hI⟩ | ⟨_, hX⟩
              · have h := hI.wk.cell (k := 0) rfl; rw [HM.out] at h; exact h
              · have h := hX.wk.cell (k := 0) rfl; rw [HM.out] at h; exact h
            have HF := Lib.hid hfin
            clear hfin hst
            go_wp2
            (try simp only [Exit.inBlock, Exit.then])
            first | refine bodyPost_end (results_none rfl _ _ _) rfl ?_ | refine bodyPost_ret (results_none rfl _ _ _) rfl ?_
            exact ⟨rfl, hbe, hsz, HF.out⟩
    · skip
      obtain rfl : N = k := by omega
      have hkk : ¬ (N : Int) < (N : Int) := by omega
      have H2 : Hid (Cl2 B T gw gr N cL J M u c m C d l w (.int .i64 0) wr) := by
        have : Cl2 B T gw gr N cL J M u c m C d l w (.int .i64 0) wr := by
          refine ⟨0, Nat.zero_le _, rfl, hbe, hsz, ?_⟩
          rcases hst with ⟨D, hD, hop, hI⟩ | ⟨hno, hX⟩
          · left
            rw [List.take_of_length_le (by have := HLL.out; omega)] at hop
            rw [List.drop_eq_nil_of_le (by have := HLL.out; omega), List.append_nil] at hI
            exact ⟨D, [], hop, rfl, rfl, hI⟩
          · exact .inr ⟨hno, hX⟩
        exact this
      have c01 : wr.cell? ⟨gw, 0, none⟩ = some (.slice (some ⟨gr, 0, none⟩) m cL) ∧ wr.cell? ⟨gr, u, none⟩ = some (.slice (some ⟨g, 0, none⟩) N cr) := by
        rcases hst with ⟨D, hD, hop, hI⟩ | ⟨hno, hX⟩
        · have h := hI.wk.cell (k := 0) rfl; rw [HM.out] at h; exact ⟨h, hI.hdr HR.out⟩
        · have h := hX.wk.cell (k := 0) rfl; rw [HM.out] at h; exact ⟨h, hX.hdr HR.out⟩
      obtain ⟨c0, c1⟩ := c01
      clear hst hbe hsz B6
      go_wp2
      go_loopw [10] (Cl2 B T gw gr N cL J M u c m C d l w) (fun i _ => m - (intOf i).toNat)
      case atStart => exact H2.out
      case round =>
        clear H2
        obtain ⟨i, hi, rfl, hbe, hsz, hst⟩ := hrel
        have hi0 : (0 : Int) ≤ (i : Int) := by omega
        by_cases hlt2 : i < m
        · rcases hst with ⟨h, D, hop, hD, hmo, hI⟩ | ⟨hno, hX⟩
          · skip
            have hii : (i : Int) < (m : Int) := by omega
            obtain ⟨ri, hri⟩ : ∃ r, M[i]? = some r := ⟨_, List.getElem?_eq_getElem (by have := HM.out; omega)⟩
            obtain ⟨li, hli⟩ : ∃ x, (C.set u h)[i]? = some x := ⟨_, List.getElem?_eq_getElem (by rw [List.length_set]; have := HCM.out; omega)⟩
            have hmi := mid_get hD hli
            obtain ⟨hil, hif, hiB⟩ := hI.rows i ri li hri hmi
            obtain ⟨y, hy⟩ : ∃ y, li[c]? = some y := ⟨_, List.getElem?_eq_getElem (by omega)⟩
            have hapi := hI.apart i ri hri
            have hdf : ∀ r p, M[u]? = some r → M[i]? = some p → r.1 = p.1 → u = i := hI.diff u i
            have hstj := mapO_step hli hmo
            have hh : h.length = N ∧ ∀ x ∈ h, fits x := ⟨(opTo_size l 0 h hop).trans HLL.out, opTo_fits (fun _ _ _ h => okQ_fits h) l 0 h hop⟩
            have hhu : (C.set u h)[u]? = some h := List.getElem?_set_self (by have := HCM.out; omega)
            have hhk := head_keep hmo hD hhu
            have c0 := hI.wk.cell (k := 0) rfl
            have c1 := hI.hdr hri
            rw [HM.out] at c0
            obtain ⟨gi, ci, Ri⟩ := ri
            unfold rowV at c1
            dsimp only at c1 hapi hiB
            have q0 := hiB.cell (rowR_cell (R := Ri) (prs_get hy)).1
            have q1 := hiB.cell (rowR_cell (R := Ri) (prs_get hy)).2
            dsimp only at q0 q1
            have HRI := Lib.hid hri
            have HLI := Lib.hid hli
            have HMI := Lib.hid hmi
            have HIL := Lib.hid hil
            have HIF := Lib.hid hif
            have HY := Lib.hid hy
            have HDF := Lib.hid hdf
            have HST := Lib.hid hstj
            have HH := Lib.hid hh
            have HHK := Lib.hid hhk
            have HI := Lib.hid hI
            have HOP := Lib.hid hop
            have HDD := Lib.hid hD
            clear hri hli hmi hil hif hy hdf hstj hh hhk hI hop hD hmo hhu hiB
            go_wp2_with (with_reducible refine wpList_alloc (o := ⟨some 11, .alloc 23, _, _, _, _⟩) (by with_unfolding_all rfl) 23 (by with_unfolding_all rfl) (.agg zC.toArray) zC (by exact Tryd.zeroQ) (by with_unfolding_all rfl) ?_)
            intro g11 w1 hg11 hs1 hb1 B11
            have hl11 : wr.heap.size ≤ g11 := Nat.le_of_eq hg11.out.symm
            have hb1 := hb1.mono (Nat.le_of_eq hg11.out.symm)
            clear hg11 hs1
            go_wp2_with (with_reducible refine wpList_put (o := ⟨none, .store 23 (.tmp 11) (.tmp 92), _, _, _, _⟩) (by with_unfolding_all rfl) 23 (.tmp 11) (.tmp 92) (by with_unfolding_all rfl) g11 0 (by with_unfolding_all rfl) (.agg [Value.int .i64 y.num, Value.int .i64 (y.den : Int)].toArray) (by with_unfolding_all rfl) B11 [Value.int .i64 y.num, Value.int .i64 (y.den : Int)] (by with_unfolding_all rfl) (by with_unfolding_all (exact Tryd.szQ)) (by with_unfolding_all (exact Nat.le_refl 2)) (by with_unfolding_all (exact int_one _ _)) ?_)
            intro w2 hu2 hB2
            rw [splice_all _ _ (by rfl)] at hB2
            have hbw := hb1.trans (hu2.below (B := wr.heap.size) hl11)
            have hbe2 := hbe.low hbw (Nat.le_trans hBT hsz)
            have hsz2 := Nat.le_trans hsz hbw.size
            have hT11 : T ≤ g11 := Nat.le_trans hsz hl11
            have HI2 := Lib.hid (HI.out.keep (hbw.mono hsz))
            have m0 := hB2.cell (k := 0) rfl
            clear hb1 hu2 B11 c0 c1 q0 q1 HI hl11 hbe hbw
            by_cases hju : i = u
            · skip
              have hjui : (i : Int) = (u : Int) := by omega
              have hjub : ((i : Int) == (u : Int)) = true := beq_iff_eq.2 hjui
              have hD2 := HST.out
              rw [rowF_skip (.inl hju)] at hD2
              have HD2 := Lib.hid hD2
              clear hD2
              go_wp2
              go_roundw
              case rel => exact ⟨i + 1, by omega, by go_num, hbe2, hsz2, .inl ⟨h, D ++ [li], HOP.out, by simp; exact HDD.out, HD2.out, by rw [← mid_next HLI.out]; exact HI2.out⟩⟩
              case measure => simp [intOf]; omega
            · skip
              have hjui : ¬ (i : Int) = (u : Int) := by omega
              have hjub : ((i : Int) == (u : Int)) = false := beq_eq_false_iff_ne.2 hjui
              by_cases hy0 : y.num = 0
              · skip
                rw [hy0] at m0
                have hD2 := HST.out
                rw [rowF_skip (.inr (by rw [HY.out]; exact Rat.num_eq_zero.1 hy0))] at hD2
                have HD2 := Lib.hid hD2
                clear hD2
                go_wp2
                go_roundw
                case rel => exact ⟨i + 1, by omega, by go_num, hbe2, hsz2, .inl ⟨h, D ++ [li], HOP.out, by simp; exact HDD.out, HD2.out, by rw [← mid_next HLI.out]; exact HI2.out⟩⟩
                case measure => simp [intOf]; omega
              · skip
                have hy0b : (y.num == 0) = false := beq_eq_false_iff_ne.2 hy0
                have hyz : y ≠ 0 := fun e => hy0 (by rw [e]; rfl)
                have hsub := HST.out
                rw [rowF_sub hju HY.out hyz] at hsub
                have HSUB := Lib.hid hsub
                have hgg : g ≠ gi := fun e => hju (HDF.out _ _ HR.out HRI.out e).symm
                have fy := Lib.hid (HIF.out y (List.mem_of_getElem? HY.out))
                obtain ⟨Cm, hCm⟩ : ∃ Cm, D ++ (C.set u h).drop i = Cm := ⟨_, rfl⟩
                have hmi := HMI.out
                have hhk := HHK.out
                have hI2 := HI2.out
                rw [hCm] at hmi hhk hI2
                have HMI2 := Lib.hid hmi
                have HHK2 := Lib.hid hhk
                have HCM2 := Lib.hid hCm
                have HCML := Lib.hid (hI2.same.symm.trans HM.out)
                have H3 : Hid (Cl3 B T gw gr N cL J M u c C Cm i g11 y h li w (.int .i64 0) w2) := (⟨0, Nat.zero_le _, rfl, hbe2, hsz2, hB2, .inl ⟨[], rfl, rfl, by rw [show ([] : List Rat) ++ li.drop 0 = li from rfl, set_same hmi]; exact hI2⟩⟩ : Cl3 B T gw gr N cL J M u c C Cm i g11 y h li w (.int .i64 0) w2)
                clear hsub hmi hhk hI2 hCm HMI HHK HI2 HST hbe2 hsz2 hB2 hsz
                go_wp2
                go_loopw [12] (Cl3 B T gw gr N cL J M u c C Cm i g11 y h li w) (fun i _ => N - (intOf i).toNat)
                case atStart => exact H3.out
                case round =>
                  clear H3 m0
                  obtain ⟨k, hk, rfl, hbe, hsz, B11, hst⟩ := hrel
                  have hk0 : (0 : Int) ≤ (k : Int) := by omega
                  by_cases hlt : k < N
                  · rcases hst with ⟨E, hE, hop, hI⟩ | ⟨hno, hX⟩
                    · skip
                      have hki : (k : Int) < (N : Int) := by omega
                      have hCi : (Cm.set i (E ++ li.drop k))[i]? = some (E ++ li.drop k) := List.getElem?_set_self (by have := HCML.out; omega)
                      have hCu : (Cm.set i (E ++ li.drop k))[u]? = some h := by rw [List.getElem?_set_ne hju]; exact HHK2.out
                      obtain ⟨hcl, hcf, hrow⟩ := hI.rows i _ _ HRI.out hCi
                      obtain ⟨_, _, hrou⟩ := hI.rows u _ _ HR.out hCu
                      obtain ⟨x, hx⟩ : ∃ x, li[k]? = some x := ⟨_, List.getElem?_eq_getElem (by have := HIL.out; omega)⟩
                      obtain ⟨o, ho⟩ : ∃ x, h[k]? = some x := ⟨_, List.getElem?_eq_getElem (by have := HH.out.1; omega)⟩
                      have hq : wr.rangeAt g (k * 2) (qC o) := rowR_range hrou (prs_get ho)
                      have hqi : wr.rangeAt gi (k * 2) (qC x) := rowR_range hrow (prs_get (mid_get hE hx))
                      have c0 := hI.wk.cell (k := 0) rfl
                      have cE := hI.wk.cell (k := 1) rfl
                      have c1 := hI.hdr HR.out
                      have c2 := hI.hdr HRI.out
                      rw [HM.out] at c0
                      unfold rowV at c1 c2
                      dsimp only at c1 c2
                      have fo := HH.out.2 o (List.mem_of_getElem? ho)
                      have fx := HIF.out x (List.mem_of_getElem? hx)
                      obtain ⟨N1, D1, k1, h1, g1⟩ := ansQ_two (y * o)
                      have x1 := fun w => rmul_any y o w fy.out fo
                      rw [h1] at x1
                      obtain ⟨N2, D2, k2, h2, g2⟩ := ansQ_two (x - y * o)
                      have x2 : fits (y * o) → ∀ w, Calls Tryd.prog 20 #[.agg (qC x).toArray, .agg (qC (y * o)).toArray] w fun e w' => e = .returned (.tuple #[.agg #[.int .i64 N2, .int .i64 D2], .int .i64 k2]) ∧ Below w.heap.size w w' := fun h w => by
                        have x0 := rsub_any x (y * o) w fx h
                        rw [h2] at x0
                        exact x0
                      obtain ⟨X, hX⟩ : ∃ X, qC o = X := ⟨_, rfl⟩
                      obtain ⟨Y, hY⟩ : ∃ X, qC y = X := ⟨_, rfl⟩
                      obtain ⟨Z, hZ⟩ : ∃ X, qC x = X := ⟨_, rfl⟩
                      have HZZ := Lib.hid hZ
                      have hzX := Tryd.szQl X (by rw [← hX]; rfl)
                      have hzY := Tryd.szQl Y (by rw [← hY]; rfl)
                      have hzZ := Tryd.szQl Z (by rw [← hZ]; rfl)
                      have hr11 : wr.rangeAt g11 0 (qC y) := blk_range B11
                      rw [hX, hY] at x1
                      rw [hX] at hq
                      rw [hY] at hr11
                      rw [hZ] at x2 hqi
                      have HS : Hid (∀ w', Below wr.heap.size wr w' → w'.cell? ⟨gw, 0, none⟩ = some (.slice (some ⟨gr, 0, none⟩) m cL) ∧ w'.cell? ⟨gr, u, none⟩ = some (.slice (some ⟨g, 0, none⟩) N cr) ∧ w'.rangeAt g (k * 2) X ∧ w'.rangeAt g11 0 Y) :=
                        (fun w' h => ⟨cellq_below h c0, cellq_below h c1, range_below hq h, range_below hr11 h⟩ : ∀ w', Below wr.heap.size wr w' → w'.cell? ⟨gw, 0, none⟩ = some (.slice (some ⟨gr, 0, none⟩) m cL) ∧ w'.cell? ⟨gr, u, none⟩ = some (.slice (some ⟨g, 0, none⟩) N cr) ∧ w'.rangeAt g (k * 2) X ∧ w'.rangeAt g11 0 Y)
                      have X1 := Lib.hid x1
                      have G1 := Lib.hid g1
                      have X2 := Lib.hid x2
                      have G2 := Lib.hid g2
                      have HQI := Lib.hid hqi
                      have HST := Lib.hid (opTo_step hE hx hop)
                      have HSF := Lib.hid (show subF y h k x = if fits (y * o) then okQ (x - y * o) else none by unfold subF; rw [ho]; rfl)
                      have HLN := Lib.hid hcl
                      have HXX := Lib.hid hx
                      have HI := Lib.hid hI
                      have HEE := Lib.hid hE
                      have HCI := Lib.hid hCi
                      clear hX hY hZ x1 h1 g1 x2 h2 g2 hop hcl hcf hrow hrou hq hqi hr11 fo fx ho hx hI hE hCi hCu
                      go_wp2
                      have hdd := below_drew wr
                      refine wp_region_held_drew (S := fun w' => w'.cell? ⟨gw, 0, none⟩ = some (.slice (some ⟨gr, 0, none⟩) m cL) ∧ w'.cell? ⟨gr, u, none⟩ = some (.slice (some ⟨g, 0, none⟩) N cr) ∧ w'.rangeAt g (k * 2) X ∧ w'.rangeAt g11 0 Y) (by kernel_rfl) (HS.out _ hdd) (fun hHeld => ?_)
                      generalize wr.drew = wd at hdd hHeld ⊢
                      refine' wpAnyH_take (i := 0) (v := _) rfl (by kernel_rfl) (by kernel_rfl) (by kernel_rfl) (fun _ _ _ h => h) (yieldsIf_load_mid (by rfl) _ _ (by rfl) _ _ (by rfl) _ _ ?Sai_0 ?uai_0 ?dai_0 ?iai_0) (by assumption) ?rai_0
                      case Sai_0 => exact (by intro w h; exact h.2.2.2)
                      case uai_0 => exact Tryd.underlying23
                      case dai_0 => rfl
                      case iai_0 => exact hzY
                      (try simp only [List.getElem_toArray, List.getElem_cons_zero, Act.put, List.setIfInBounds_toArray, List.set_cons_zero, List.set_cons_succ])
                      refine wpAnyH_take (i := 1) (v := ?vai_1) rfl (by kernel_rfl) (by kernel_rfl) (by kernel_rfl) (fun _ _ _ h => h) (Or.inl ⟨by rfl, ?yai_1⟩) (by assumption) ?rai_1
                      case yai_1 => intro w hSw; (try dsimp only at hSw); go_simp <;> (try with_reducible rfl)
                      (try simp only [List.getElem_toArray, List.getElem_cons_succ, List.getElem_cons_zero, Act.put, List.setIfInBounds_toArray, List.set_cons_zero, List.set_cons_succ])
                      refine wpAnyH_take (i := 2) (v := ?vai_2) rfl (by kernel_rfl) (by kernel_rfl) (by kernel_rfl) (fun _ _ _ h => h) (Or.inl ⟨by rfl, ?yai_2⟩) (by assumption) ?rai_2
                      case yai_2 => intro w hSw; (try dsimp only at hSw); go_simp <;> (try with_reducible rfl)
                      (try simp only [List.getElem_toArray, List.getElem_cons_succ, List.getElem_cons_zero, Act.put, List.setIfInBounds_toArray, List.set_cons_zero, List.set_cons_succ])
                      refine wpAnyH_take (i := 3) (v := ?vai_3) rfl (by kernel_rfl) (by kernel_rfl) (by kernel_rfl) (fun _ _ _ h => h) (Or.inl ⟨by rfl, ?yai_3⟩) (by assumption) ?rai_3
                      case yai_3 => intro w hSw; (try dsimp only at hSw); go_simp <;> (try with_reducible rfl)
                      (try simp only [List.getElem_toArray, List.getElem_cons_succ, List.getElem_cons_zero, Act.put, List.setIfInBounds_toArray, List.set_cons_zero, List.set_cons_succ])
                      refine wpAnyH_take (i := 4) (v := ?vai_4) rfl (by kernel_rfl) (by kernel_rfl) (by kernel_rfl) (fun _ _ _ h => h) (Or.inl ⟨by rfl, ?yai_4⟩) (by assumption) ?rai_4
                      case yai_4 => intro w hSw; (try dsimp only at hSw); go_simp <;> (try with_reducible rfl)
                      (try simp only [List.getElem_toArray, List.getElem_cons_succ, List.getElem_cons_zero, Act.put, List.setIfInBounds_toArray, List.set_cons_zero, List.set_cons_succ])
                      refine wpAnyH_take (i := 5) (v := ?vai_5) rfl (by kernel_rfl) (by kernel_rfl) (by kernel_rfl) (fun _ _ _ h => h) (Or.inl ⟨by rfl, ?yai_5⟩) (by assumption) ?rai_5
                      case yai_5 => intro w hSw; (try dsimp only at hSw); go_simp <;> (try with_reducible rfl)
                      (try simp only [List.getElem_toArray, List.getElem_cons_succ, List.getElem_cons_zero, Act.put, List.setIfInBounds_toArray, List.set_cons_zero, List.set_cons_succ])
                      refine wpAnyH_take (i := 6) (v := ?vai_6) rfl (by kernel_rfl) (by kernel_rfl) (by kernel_rfl) (fun _ _ _ h => h) (Or.inl ⟨by rfl, ?yai_6⟩) (by assumption) ?rai_6
                      case yai_6 => intro w hSw; (try dsimp only at hSw); go_simp <;> (try with_reducible rfl)
                      (try simp only [List.getElem_toArray, List.getElem_cons_succ, List.getElem_cons_zero, Act.put, List.setIfInBounds_toArray, List.set_cons_zero, List.set_cons_succ])
                      refine wpAnyH_take (i := 7) (v := ?vai_7) rfl (by kernel_rfl) (by kernel_rfl) (by kernel_rfl) (fun _ _ _ h => h) (Or.inl ⟨by rfl, ?yai_7⟩) (by assumption) ?rai_7
                      case yai_7 => intro w hSw; (try dsimp only at hSw); go_simp <;> (try with_reducible rfl)
                      (try simp only [List.getElem_toArray, List.getElem_cons_succ, List.getElem_cons_zero, Act.put, List.setIfInBounds_toArray, List.set_cons_zero, List.set_cons_succ])
                      refine wpAnyH_take (i := 8) (v := ?vai_8) rfl (by kernel_rfl) (by kernel_rfl) (by kernel_rfl) (fun _ _ _ h => h) (Or.inl ⟨by rfl, ?yai_8⟩) (by assumption) ?rai_8
                      case yai_8 => intro w hSw; (try dsimp only at hSw); go_simp <;> (try with_reducible rfl)
                      (try simp only [List.getElem_toArray, List.getElem_cons_succ, List.getElem_cons_zero, Act.put, List.setIfInBounds_toArray, List.set_cons_zero, List.set_cons_succ])
                      refine wpAnyH_take (i := 9) (v := ?vai_9) rfl (by kernel_rfl) (by kernel_rfl) (by kernel_rfl) (fun _ _ _ h => h) (Or.inl ⟨by rfl, ?yai_9⟩) (by assumption) ?rai_9
                      case yai_9 => intro w hSw; (try dsimp only at hSw); go_simp <;> (try with_reducible rfl)
                      (try simp only [List.getElem_toArray, List.getElem_cons_succ, List.getElem_cons_zero, Act.put, List.setIfInBounds_toArray, List.set_cons_zero, List.set_cons_succ])
                      refine' wpAnyH_take (i := 10) (v := _) rfl (by kernel_rfl) (by kernel_rfl) (by kernel_rfl) (fun _ _ _ h => h) (yieldsIf_load_mid (by rfl) _ _ (by rfl) _ _ (by rfl) _ _ ?Sai_10 ?uai_10 ?dai_10 ?iai_10) (by assumption) ?rai_10
                      case Sai_10 => exact (by intro w h; exact h.2.2.1)
                      case uai_10 => exact Tryd.underlying23
                      case dai_10 => rfl
                      case iai_10 => exact hzX
                      (try simp only [List.getElem_toArray, List.getElem_cons_succ, List.getElem_cons_zero, Act.put, List.setIfInBounds_toArray, List.set_cons_zero, List.set_cons_succ])
                      apply rest2
                      · intro hrest
                        refine wpAnyH_ready (rs := [11, 15]) (by kernel_rfl) (by simp) ?_
                        refine AllReadyH.cons rfl (fun K hK => ?_) (AllReadyH.cons rfl (fun K hK => ?_) AllReadyH.nil)
                        · skip
                          go_simp
                          go_wp2_with fail
                          (with_reducible refine (X1.out _).mono ?_)
                          rintro e wa ⟨rfl, hba⟩
                          have hka := below_join hdd hba
                          refine hK.out _ _ (HS.out _ hka) (fun hHeld => ?_)
                          clear hK K hba
                          refine wpAnyH_take (i := 12) (v := ?vai_x12) rfl (by kernel_rfl) (by kernel_rfl) (by kernel_rfl) (fun _ _ _ h => h) (Or.inl ⟨by rfl, ?yai_x12⟩) (by assumption) ?rai_x12
                          case yai_x12 => intro w hSw; (try dsimp only at hSw); go_simp <;> (try with_reducible rfl)
                          (try simp only [List.getElem_toArray, List.getElem_cons_succ, List.getElem_cons_zero, Act.put, List.setIfInBounds_toArray, List.set_cons_zero, List.set_cons_succ])
                          refine wpAnyH_take (i := 13) (v := ?vai_x13) rfl (by kernel_rfl) (by kernel_rfl) (by kernel_rfl) (fun _ _ _ h => h) (Or.inl ⟨by rfl, ?yai_x13⟩) (by assumption) ?rai_x13
                          case yai_x13 => intro w hSw; (try dsimp only at hSw); go_simp <;> (try with_reducible rfl)
                          (try simp only [List.getElem_toArray, List.getElem_cons_succ, List.getElem_cons_zero, Act.put, List.setIfInBounds_toArray, List.set_cons_zero, List.set_cons_succ])
                          refine wpAnyH_take (i := 14) (v := ?vai_x14) rfl (by kernel_rfl) (by kernel_rfl) (by kernel_rfl) (fun _ _ _ h => h) (Or.inl ⟨by rfl, ?yai_x14⟩) (by assumption) ?rai_x14
                          case yai_x14 => intro w hSw; (try dsimp only at hSw); go_simp <;> (try with_reducible rfl)
                          (try simp only [List.getElem_toArray, List.getElem_cons_succ, List.getElem_cons_zero, Act.put, List.setIfInBounds_toArray, List.set_cons_zero, List.set_cons_succ])
                          refine wpAnyH_ready (rs := [15]) (by kernel_rfl) (by simp) ?_
                          refine AllReadyH.cons rfl (fun K hK => ?_) AllReadyH.nil
                          rw [if_pos (by rfl)]
                          refine wp_allocz 23 rfl (.agg zC.toArray) zC Tryd.zeroQ rfl ?_
                          intro g13 wb hg13 hsx hbx B13
                          have hbx := hbx.mono (Nat.le_of_eq hg13.out.symm)
                          have hkwb := below_join hka hbx
                          have hle13 : wr.heap.size ≤ g13 := by have := hka.size; have := hg13.out; omega
                          clear hg13 hsx
                          refine hK.out _ _ (HS.out _ hkwb) (fun hHeld => ?_)
                          clear hK K hbx hka
                          have F1 := B13
                          have F2 := hkwb
                          have F3 := hle13
                          have F4 := hHeld
                          revert F1 F2 F3 F4
                          exact hrest g13 wb
                        · skip
                          rw [if_pos (by rfl)]
                          refine wp_allocz 23 rfl (.agg zC.toArray) zC Tryd.zeroQ rfl ?_
                          intro g13 wb hg13 hsx hbx B13
                          have hbx := hbx.mono (Nat.le_of_eq hg13.out.symm)
                          have hkwb := below_join hdd hbx
                          have hle13 : wr.heap.size ≤ g13 := by have := hdd.size; have := hg13.out; omega
                          clear hg13 hsx
                          refine hK.out _ _ (HS.out _ hkwb) (fun hHeld => ?_)
                          clear hK K hbx
                          refine wpAnyH_ready (rs := [11]) (by kernel_rfl) (by simp) ?_
                          refine AllReadyH.cons rfl (fun K hK => ?_) AllReadyH.nil
                          go_simp
                          go_wp2_with fail
                          (with_reducible refine (X1.out _).mono ?_)
                          rintro e wa ⟨rfl, hba⟩
                          have hka := below_join hkwb hba
                          have B13 := B13.next hba B13.lt
                          refine hK.out _ _ (HS.out _ hka) (fun hHeld => ?_)
                          clear hK K hba hkwb
                          refine wpAnyH_take (i := 12) (v := ?vai_y12) rfl (by kernel_rfl) (by kernel_rfl) (by kernel_rfl) (fun _ _ _ h => h) (Or.inl ⟨by rfl, ?yai_y12⟩) (by assumption) ?rai_y12
                          case yai_y12 => intro w hSw; (try dsimp only at hSw); go_simp <;> (try with_reducible rfl)
                          (try simp only [List.getElem_toArray, List.getElem_cons_succ, List.getElem_cons_zero, Act.put, List.setIfInBounds_toArray, List.set_cons_zero, List.set_cons_succ])
                          refine wpAnyH_take (i := 13) (v := ?vai_y13) rfl (by kernel_rfl) (by kernel_rfl) (by kernel_rfl) (fun _ _ _ h => h) (Or.inl ⟨by rfl, ?yai_y13⟩) (by assumption) ?rai_y13
                          case yai_y13 => intro w hSw; (try dsimp only at hSw); go_simp <;> (try with_reducible rfl)
                          (try simp only [List.getElem_toArray, List.getElem_cons_succ, List.getElem_cons_zero, Act.put, List.setIfInBounds_toArray, List.set_cons_zero, List.set_cons_succ])
                          refine wpAnyH_take (i := 14) (v := ?vai_y14) rfl (by kernel_rfl) (by kernel_rfl) (by kernel_rfl) (fun _ _ _ h => h) (Or.inl ⟨by rfl, ?yai_y14⟩) (by assumption) ?rai_y14
                          case yai_y14 => intro w hSw; (try dsimp only at hSw); go_simp <;> (try with_reducible rfl)
                          (try simp only [List.getElem_toArray, List.getElem_cons_succ, List.getElem_cons_zero, Act.put, List.setIfInBounds_toArray, List.set_cons_zero, List.set_cons_succ])
                          have F1 := B13
                          have F2 := hka
                          have F3 := hle13
                          have F4 := hHeld
                          revert F1 F2 F3 F4
                          exact hrest g13 wa
                      intro g13 wb B13 hkb hle13 hHeld
                      refine wpAnyH_ready (rs := [16]) (by kernel_rfl) (by simp) ?_
                      refine AllReadyH.cons rfl (fun K hK => ?_) AllReadyH.nil
                      rw [if_pos (by rfl)]
                      refine wp_put 23 (.tmp 13) (.tmp 133) rfl g13 0 rfl (.agg [Value.int .i64 N1, Value.int .i64 D1].toArray) rfl B13 [Value.int .i64 N1, Value.int .i64 D1] rfl Tryd.szQ (Nat.le_refl 2) (int_one _ _) ?_
                      intro wc hux hBx
                      rw [splice_all _ _ (by rfl)] at hBx
                      clear B13
                      have B13 := hBx
                      have hkwc := hkb.trans (hux.below (B := wr.heap.size) hle13)
                      refine hK.out _ _ (HS.out _ hkwc) (fun hHeld => ?_)
                      clear hK K hux hBx hkb hdd
                      refine wpAnyH_take (i := 17) (v := ?vai_z17) rfl (by kernel_rfl) (by kernel_rfl) (by kernel_rfl) (fun _ _ _ h => h) (Or.inl ⟨by rfl, ?yai_z17⟩) (by assumption) ?rai_z17
                      case yai_z17 => intro w hSw; (try dsimp only at hSw); go_simp <;> (try with_reducible rfl)
                      (try simp only [List.getElem_toArray, List.getElem_cons_succ, List.getElem_cons_zero, Act.put, List.setIfInBounds_toArray, List.set_cons_zero, List.set_cons_succ])
                      refine wpAnyH_done (by kernel_rfl) ?_ _
                      clear hHeld HS X1 hzX hzY c1
                      have hI2 := HI.out.keep (hkwc.mono hsz)
                      have hszz : T ≤ wc.heap.size := Nat.le_trans hsz hkwc.size
                      have hbe2 := hbe.low hkwc (Nat.le_trans hBT hsz)
                      have B11b := B11.next hkwc B11.lt
                      have hT13 : T ≤ g13 := Nat.le_trans hsz hle13
                      have ha13 : w.heap.size ≤ g13 := Nat.le_trans hbe.below.size hle13
                      have hn1113 : g11 ≠ g13 := by have := B11.lt; omega
                      have hgw13 : g13 ≠ gw := by have := hI2.base.2.2.2.2; omega
                      have z0 := B13.cell (k := 0) rfl
                      have z1 := B13.cell (k := 1) rfl
                      clear hbe HI B11 c0 cE c2
                      have HQ2 := HQI
                      clear HQI
                      rcases G1.out with ⟨f1, rfl, rfl, rfl⟩ | ⟨f1, rfl⟩
                      · skip
                        go_wp2_with fail
                        (with_reducible refine (keep_ok gw _ _ _ _ hI2.wk).mono ?_)
                        rintro e w3 ⟨rfl, hW, ho3⟩
                        have B13c := B13.only ho3 (by simp; exact hgw13)
                        clear z0 z1 B13
                        go_wp2_with (with_reducible refine wpList_put (o := ⟨none, .store 23 (.tmp 13) (.tmp 138), _, _, _, _⟩) (by with_unfolding_all rfl) 23 (.tmp 13) (.tmp 138) (by with_unfolding_all rfl) g13 0 (by with_unfolding_all rfl) (.agg [Value.int .i64 (y * o).num, Value.int .i64 ((y * o).den : Int)].toArray) (by with_unfolding_all rfl) B13c [Value.int .i64 (y * o).num, Value.int .i64 ((y * o).den : Int)] (by with_unfolding_all rfl) (by with_unfolding_all (exact Tryd.szQ)) (by with_unfolding_all (exact Nat.le_refl 2)) (by with_unfolding_all (exact int_one _ _)) ?_)
                        intro w4 hu4 B13
                        rw [splice_all _ _ (by rfl)] at B13
                        have hW3 := hI2.stay ho3 hW
                        have hI4 := hW3.keep (hu4.below (B := T) hT13)
                        have hgwB : B ≤ gw := hI2.base.2.1
                        have hb3 := hbe2.only ho3 (fun k hk => by rw [List.mem_singleton.1 hk]; exact ⟨hgwB, hI2.base.2.2.2.2⟩) (Nat.le_trans hBT hszz)
                        have hb4 := hb3.upd hu4 (Nat.le_trans hBT hT13) ha13
                        have hsz4 : T ≤ w4.heap.size := Nat.le_trans hszz (Nat.le_trans ho3.size (Nat.le_of_eq hu4.size.symm))
                        have B11c := (B11b.only ho3 (by simp; have := hI2.base.2.2.2.2; omega)).upd hu4 hn1113
                        have cE := hI4.wk.cell (k := 1) rfl
                        clear hW hW3 hb3 B13c hbe2 B11b ho3 hu4
                        obtain ⟨P, hP⟩ : ∃ X, qC (y * o) = X := ⟨_, rfl⟩
                        have hzP := Tryd.szQl P (by rw [← hP]; rfl)
                        have hB13 : Blk w4 g13 23 (qC (y * o)) := B13
                        have x2 := X2.out f1
                        rw [hP] at hB13 x2
                        have hr13 : w4.rangeAt g13 0 P := blk_range hB13
                        have hqi : w4.rangeAt gi (k * 2) Z := by
                          rw [← HZZ.out]
                          exact rowR_range (hI4.rows i _ _ HRI.out HCI.out).2.2 (prs_get (mid_get HEE.out HXX.out))
                        have c0 := hI4.wk.cell (k := 0) rfl
                        have c1 := hI4.hdr HRI.out
                        rw [HM.out] at c0
                        unfold rowV at c1
                        dsimp only at c1
                        have HS : Hid (∀ w', Below w4.heap.size w4 w' → w'.cell? ⟨gw, 0, none⟩ = some (.slice (some ⟨gr, 0, none⟩) m cL) ∧ w'.cell? ⟨gr, i, none⟩ = some (.slice (some ⟨gi, 0, none⟩) N ci) ∧ w'.rangeAt gi (k * 2) Z ∧ w'.rangeAt g13 0 P) :=
                          (fun w' h => ⟨cellq_below h c0, cellq_below h c1, range_below hqi h, range_below hr13 h⟩ : ∀ w', Below w4.heap.size w4 w' → w'.cell? ⟨gw, 0, none⟩ = some (.slice (some ⟨gr, 0, none⟩) m cL) ∧ w'.cell? ⟨gr, i, none⟩ = some (.slice (some ⟨gi, 0, none⟩) N ci) ∧ w'.rangeAt gi (k * 2) Z ∧ w'.rangeAt g13 0 P)
                        have X3 := Lib.hid x2
                        have HI := Lib.hid hI4
                        clear hP hB13 x2 hr13 hqi hI4 hI2 B13 X2
                        go_wp2
                        have hdd := below_drew w4
                        refine wp_region_held_drew (S := fun w' => w'.cell? ⟨gw, 0, none⟩ = some (.slice (some ⟨gr, 0, none⟩) m cL) ∧ w'.cell? ⟨gr, i, none⟩ = some (.slice (some ⟨gi, 0, none⟩) N ci) ∧ w'.rangeAt gi (k * 2) Z ∧ w'.rangeAt g13 0 P) (by kernel_rfl) (HS.out _ hdd) (fun hHeld => ?_)
                        generalize w4.drew = wd at hdd hHeld ⊢
                        refine wpAnyH_take (i := 0) (v := ?vaj_0) rfl (by kernel_rfl) (by kernel_rfl) (by kernel_rfl) (fun _ _ _ h => h) (Or.inl ⟨by rfl, ?yaj_0⟩) (by assumption) ?raj_0
                        case yaj_0 => intro w hSw; (try dsimp only at hSw); go_simp <;> (try with_reducible rfl)
                        (try simp only [List.getElem_toArray, List.getElem_cons_zero, Act.put, List.setIfInBounds_toArray, List.set_cons_zero, List.set_cons_succ])
                        refine wpAnyH_take (i := 1) (v := ?vaj_1) rfl (by kernel_rfl) (by kernel_rfl) (by kernel_rfl) (fun _ _ _ h => h) (Or.inl ⟨by rfl, ?yaj_1⟩) (by assumption) ?raj_1
                        case yaj_1 => intro w hSw; (try dsimp only at hSw); go_simp <;> (try with_reducible rfl)
                        (try simp only [List.getElem_toArray, List.getElem_cons_succ, List.getElem_cons_zero, Act.put, List.setIfInBounds_toArray, List.set_cons_zero, List.set_cons_succ])
                        refine wpAnyH_take (i := 2) (v := ?vaj_2) rfl (by kernel_rfl) (by kernel_rfl) (by kernel_rfl) (fun _ _ _ h => h) (Or.inl ⟨by rfl, ?yaj_2⟩) (by assumption) ?raj_2
                        case yaj_2 => intro w hSw; (try dsimp only at hSw); go_simp <;> (try with_reducible rfl)
                        (try simp only [List.getElem_toArray, List.getElem_cons_succ, List.getElem_cons_zero, Act.put, List.setIfInBounds_toArray, List.set_cons_zero, List.set_cons_succ])
                        refine wpAnyH_take (i := 3) (v := ?vaj_3) rfl (by kernel_rfl) (by kernel_rfl) (by kernel_rfl) (fun _ _ _ h => h) (Or.inl ⟨by rfl, ?yaj_3⟩) (by assumption) ?raj_3
                        case yaj_3 => intro w hSw; (try dsimp only at hSw); go_simp <;> (try with_reducible rfl)
                        (try simp only [List.getElem_toArray, List.getElem_cons_succ, List.getElem_cons_zero, Act.put, List.setIfInBounds_toArray, List.set_cons_zero, List.set_cons_succ])
                        refine wpAnyH_take (i := 4) (v := ?vaj_4) rfl (by kernel_rfl) (by kernel_rfl) (by kernel_rfl) (fun _ _ _ h => h) (Or.inl ⟨by rfl, ?yaj_4⟩) (by assumption) ?raj_4
                        case yaj_4 => intro w hSw; (try dsimp only at hSw); go_simp <;> (try with_reducible rfl)
                        (try simp only [List.getElem_toArray, List.getElem_cons_succ, List.getElem_cons_zero, Act.put, List.setIfInBounds_toArray, List.set_cons_zero, List.set_cons_succ])
                        refine wpAnyH_take (i := 5) (v := ?vaj_5) rfl (by kernel_rfl) (by kernel_rfl) (by kernel_rfl) (fun _ _ _ h => h) (Or.inl ⟨by rfl, ?yaj_5⟩) (by assumption) ?raj_5
                        case yaj_5 => intro w hSw; (try dsimp only at hSw); go_simp <;> (try with_reducible rfl)
                        (try simp only [List.getElem_toArray, List.getElem_cons_succ, List.getElem_cons_zero, Act.put, List.setIfInBounds_toArray, List.set_cons_zero, List.set_cons_succ])
                        refine wpAnyH_take (i := 6) (v := ?vaj_6) rfl (by kernel_rfl) (by kernel_rfl) (by kernel_rfl) (fun _ _ _ h => h) (Or.inl ⟨by rfl, ?yaj_6⟩) (by assumption) ?raj_6
                        case yaj_6 => intro w hSw; (try dsimp only at hSw); go_simp <;> (try with_reducible rfl)
                        (try simp only [List.getElem_toArray, List.getElem_cons_succ, List.getElem_cons_zero, Act.put, List.setIfInBounds_toArray, List.set_cons_zero, List.set_cons_succ])
                        refine wpAnyH_take (i := 7) (v := ?vaj_7) rfl (by kernel_rfl) (by kernel_rfl) (by kernel_rfl) (fun _ _ _ h => h) (Or.inl ⟨by rfl, ?yaj_7⟩) (by assumption) ?raj_7
                        case yaj_7 => intro w hSw; (try dsimp only at hSw); go_simp <;> (try with_reducible rfl)
                        (try simp only [List.getElem_toArray, List.getElem_cons_succ, List.getElem_cons_zero, Act.put, List.setIfInBounds_toArray, List.set_cons_zero, List.set_cons_succ])
                        refine wpAnyH_take (i := 8) (v := ?vaj_8) rfl (by kernel_rfl) (by kernel_rfl) (by kernel_rfl) (fun _ _ _ h => h) (Or.inl ⟨by rfl, ?yaj_8⟩) (by assumption) ?raj_8
                        case yaj_8 => intro w hSw; (try dsimp only at hSw); go_simp <;> (try with_reducible rfl)
                        (try simp only [List.getElem_toArray, List.getElem_cons_succ, List.getElem_cons_zero, Act.put, List.setIfInBounds_toArray, List.set_cons_zero, List.set_cons_succ])
                        refine' wpAnyH_take (i := 9) (v := _) rfl (by kernel_rfl) (by kernel_rfl) (by kernel_rfl) (fun _ _ _ h => h) (yieldsIf_load_mid (by rfl) _ _ (by rfl) _ _ (by rfl) _ _ ?Saj_9 ?uaj_9 ?daj_9 ?iaj_9) (by assumption) ?raj_9
                        case Saj_9 => exact (by intro w h; exact h.2.2.1)
                        case uaj_9 => exact Tryd.underlying23
                        case daj_9 => rfl
                        case iaj_9 => exact hzZ
                        (try simp only [List.getElem_toArray, List.getElem_cons_succ, List.getElem_cons_zero, Act.put, List.setIfInBounds_toArray, List.set_cons_zero, List.set_cons_succ])
                        refine' wpAnyH_take (i := 10) (v := _) rfl (by kernel_rfl) (by kernel_rfl) (by kernel_rfl) (fun _ _ _ h => h) (yieldsIf_load_mid (by rfl) _ _ (by rfl) _ _ (by rfl) _ _ ?Saj_10 ?uaj_10 ?daj_10 ?iaj_10) (by assumption) ?raj_10
                        case Saj_10 => exact (by intro w h; exact h.2.2.2)
                        case uaj_10 => exact Tryd.underlying23
                        case daj_10 => rfl
                        case iaj_10 => exact hzP
                        (try simp only [List.getElem_toArray, List.getElem_cons_succ, List.getElem_cons_zero, Act.put, List.setIfInBounds_toArray, List.set_cons_zero, List.set_cons_succ])
                        apply rest2
                        · intro hrest
                          refine wpAnyH_ready (rs := [11, 15]) (by kernel_rfl) (by simp) ?_
                          refine AllReadyH.cons rfl (fun K hK => ?_) (AllReadyH.cons rfl (fun K hK => ?_) AllReadyH.nil)
                          · skip
                            go_simp
                            go_wp2_with fail
                            (with_reducible refine (X3.out _).mono ?_)
                            rintro e wa ⟨rfl, hba⟩
                            have hka := below_join hdd hba
                            refine hK.out _ _ (HS.out _ hka) (fun hHeld => ?_)
                            clear hK K hba
                            refine wpAnyH_take (i := 12) (v := ?vaj_x12) rfl (by kernel_rfl) (by kernel_rfl) (by kernel_rfl) (fun _ _ _ h => h) (Or.inl ⟨by rfl, ?yaj_x12⟩) (by assumption) ?raj_x12
                            case yaj_x12 => intro w hSw; (try dsimp only at hSw); go_simp <;> (try with_reducible rfl)
                            (try simp only [List.getElem_toArray, List.getElem_cons_succ, List.getElem_cons_zero, Act.put, List.setIfInBounds_toArray, List.set_cons_zero, List.set_cons_succ])
                            refine wpAnyH_take (i := 13) (v := ?vaj_x13) rfl (by kernel_rfl) (by kernel_rfl) (by kernel_rfl) (fun _ _ _ h => h) (Or.inl ⟨by rfl, ?yaj_x13⟩) (by assumption) ?raj_x13
                            case yaj_x13 => intro w hSw; (try dsimp only at hSw); go_simp <;> (try with_reducible rfl)
                            (try simp only [List.getElem_toArray, List.getElem_cons_succ, List.getElem_cons_zero, Act.put, List.setIfInBounds_toArray, List.set_cons_zero, List.set_cons_succ])
                            refine wpAnyH_take (i := 14) (v := ?vaj_x14) rfl (by kernel_rfl) (by kernel_rfl) (by kernel_rfl) (fun _ _ _ h => h) (Or.inl ⟨by rfl, ?yaj_x14⟩) (by assumption) ?raj_x14
                            case yaj_x14 => intro w hSw; (try dsimp only at hSw); go_simp <;> (try with_reducible rfl)
                            (try simp only [List.getElem_toArray, List.getElem_cons_succ, List.getElem_cons_zero, Act.put, List.setIfInBounds_toArray, List.set_cons_zero, List.set_cons_succ])
                            refine wpAnyH_ready (rs := [15]) (by kernel_rfl) (by simp) ?_
                            refine AllReadyH.cons rfl (fun K hK => ?_) AllReadyH.nil
                            rw [if_pos (by rfl)]
                            refine wp_allocz 23 rfl (.agg zC.toArray) zC Tryd.zeroQ rfl ?_
                            intro g15 wb hg15 hsx hbx B15
                            have hbx := hbx.mono (Nat.le_of_eq hg15.out.symm)
                            have hkwb := below_join hka hbx
                            have hle15 : w4.heap.size ≤ g15 := by have := hka.size; have := hg15.out; omega
                            clear hg15 hsx
                            refine hK.out _ _ (HS.out _ hkwb) (fun hHeld => ?_)
                            clear hK K hbx hka
                            have F1 := B15
                            have F2 := hkwb
                            have F3 := hle15
                            have F4 := hHeld
                            revert F1 F2 F3 F4
                            exact hrest g15 wb
                          · skip
                            rw [if_pos (by rfl)]
                            refine wp_allocz 23 rfl (.agg zC.toArray) zC Tryd.zeroQ rfl ?_
                            intro g15 wb hg15 hsx hbx B15
                            have hbx := hbx.mono (Nat.le_of_eq hg15.out.symm)
                            have hkwb := below_join hdd hbx
                            have hle15 : w4.heap.size ≤ g15 := by have := hdd.size; have := hg15.out; omega
                            clear hg15 hsx
                            refine hK.out _ _ (HS.out _ hkwb) (fun hHeld => ?_)
                            clear hK K hbx
                            refine wpAnyH_ready (rs := [11]) (by kernel_rfl) (by simp) ?_
                            refine AllReadyH.cons rfl (fun K hK => ?_) AllReadyH.nil
                            go_simp
                            go_wp2_with fail
                            (with_reducible refine (X3.out _).mono ?_)
                            rintro e wa ⟨rfl, hba⟩
                            have hka := below_join hkwb hba
                            have B15 := B15.next hba B15.lt
                            refine hK.out _ _ (HS.out _ hka) (fun hHeld => ?_)
                            clear hK K hba hkwb
                            refine wpAnyH_take (i := 12) (v := ?vaj_y12) rfl (by kernel_rfl) (by kernel_rfl) (by kernel_rfl) (fun _ _ _ h => h) (Or.inl ⟨by rfl, ?yaj_y12⟩) (by assumption) ?raj_y12
                            case yaj_y12 => intro w hSw; (try dsimp only at hSw); go_simp <;> (try with_reducible rfl)
                            (try simp only [List.getElem_toArray, List.getElem_cons_succ, List.getElem_cons_zero, Act.put, List.setIfInBounds_toArray, List.set_cons_zero, List.set_cons_succ])
                            refine wpAnyH_take (i := 13) (v := ?vaj_y13) rfl (by kernel_rfl) (by kernel_rfl) (by kernel_rfl) (fun _ _ _ h => h) (Or.inl ⟨by rfl, ?yaj_y13⟩) (by assumption) ?raj_y13
                            case yaj_y13 => intro w hSw; (try dsimp only at hSw); go_simp <;> (try with_reducible rfl)
                            (try simp only [List.getElem_toArray, List.getElem_cons_succ, List.getElem_cons_zero, Act.put, List.setIfInBounds_toArray, List.set_cons_zero, List.set_cons_succ])
                            refine wpAnyH_take (i := 14) (v := ?vaj_y14) rfl (by kernel_rfl) (by kernel_rfl) (by kernel_rfl) (fun _ _ _ h => h) (Or.inl ⟨by rfl, ?yaj_y14⟩) (by assumption) ?raj_y14
                            case yaj_y14 => intro w hSw; (try dsimp only at hSw); go_simp <;> (try with_reducible rfl)
                            (try simp only [List.getElem_toArray, List.getElem_cons_succ, List.getElem_cons_zero, Act.put, List.setIfInBounds_toArray, List.set_cons_zero, List.set_cons_succ])
                            have F1 := B15
                            have F2 := hka
                            have F3 := hle15
                            have F4 := hHeld
                            revert F1 F2 F3 F4
                            exact hrest g15 wa
                        intro g15 wb B15 hkb hle15 hHeld
                        refine wpAnyH_ready (rs := [16]) (by kernel_rfl) (by simp) ?_
                        refine AllReadyH.cons rfl (fun K hK => ?_) AllReadyH.nil
                        rw [if_pos (by rfl)]
                        refine wp_put 23 (.tmp 15) (.tmp 157) rfl g15 0 rfl (.agg [Value.int .i64 N2, Value.int .i64 D2].toArray) rfl B15 [Value.int .i64 N2, Value.int .i64 D2] rfl Tryd.szQ (Nat.le_refl 2) (int_one _ _) ?_
                        intro w5 hux hBx
                        rw [splice_all _ _ (by rfl)] at hBx
                        clear B15
                        have B15 := hBx
                        have hkw5 := hkb.trans (hux.below (B := w4.heap.size) hle15)
                        refine hK.out _ _ (HS.out _ hkw5) (fun hHeld => ?_)
                        clear hK K hux hBx hkb hdd
                        refine wpAnyH_take (i := 17) (v := ?vaj_z17) rfl (by kernel_rfl) (by kernel_rfl) (by kernel_rfl) (fun _ _ _ h => h) (Or.inl ⟨by rfl, ?yaj_z17⟩) (by assumption) ?raj_z17
                        case yaj_z17 => intro w hSw; (try dsimp only at hSw); go_simp <;> (try with_reducible rfl)
                        (try simp only [List.getElem_toArray, List.getElem_cons_succ, List.getElem_cons_zero, Act.put, List.setIfInBounds_toArray, List.set_cons_zero, List.set_cons_succ])
                        refine wpAnyH_done (by kernel_rfl) ?_ _
                        clear hHeld HS X3 hzZ hzP c0 c1 cE
                        have hI5 := HI.out.keep (hkw5.mono hsz4)
                        have hszz : T ≤ w5.heap.size := Nat.le_trans hsz4 hkw5.size
                        have hbe5 := hb4.low hkw5 (Nat.le_trans hBT hsz4)
                        have B11d := B11c.next hkw5 B11c.lt
                        have hT15 : T ≤ g15 := Nat.le_trans hsz4 hle15
                        clear hb4 HI B11c
                        rcases G2.out with ⟨f2, rfl, rfl, rfl⟩ | ⟨f2, rfl⟩
                        · skip
                          go_wp2
                          have hdd := below_drew w5
                          have hI3 := hI5.keep (hdd.mono hszz)
                          have hB3 := B15.next hdd B15.lt
                          have hgwg : g15 ≠ gw := by have := hI5.base.2.2.2.2; omega
                          have hgrg : gr ≠ gw := hI5.base.2.2.1
                          have hC0 : w5.drew.cell? ⟨gw, 0, none⟩ = some (.slice (some ⟨gr, 0, none⟩) m cL) := by have h := hI3.wk.cell (k := 0) rfl; rw [HM.out] at h; exact h
                          refine wp_region_held_drew (S := fun w' => w'.cell? ⟨gw, 0, none⟩ = some (.slice (some ⟨gr, 0, none⟩) m cL) ∧ w'.cell? ⟨gr, i, none⟩ = some (.slice (some ⟨gi, 0, none⟩) N ci) ∧ w'.rangeAt g15 0 [Value.int .i64 (x - y * o).num, Value.int .i64 ((x - y * o).den : Int)]) (by kernel_rfl) ⟨hC0, hI3.hdr HRI.out, blk_range hB3⟩ (fun hHeld => ?_)
                          clear hC0
                          generalize w5.drew = wd at hdd hI3 hB3 hHeld ⊢
                          refine wpAnyH_take (i := 0) (v := ?vak_0) rfl (by kernel_rfl) (by kernel_rfl) (by kernel_rfl) (fun _ _ _ h => h) (Or.inl ⟨by rfl, ?yak_0⟩) (by assumption) ?rak_0
                          case yak_0 => intro w hSw; (try dsimp only at hSw); go_simp <;> (try with_reducible rfl)
                          (try simp only [List.getElem_toArray, List.getElem_cons_zero, Act.put, List.setIfInBounds_toArray, List.set_cons_zero, List.set_cons_succ])
                          refine wpAnyH_take (i := 1) (v := ?vak_1) rfl (by kernel_rfl) (by kernel_rfl) (by kernel_rfl) (fun _ _ _ h => h) (Or.inl ⟨by rfl, ?yak_1⟩) (by assumption) ?rak_1
                          case yak_1 => intro w hSw; (try dsimp only at hSw); go_simp <;> (try with_reducible rfl)
                          (try simp only [List.getElem_toArray, List.getElem_cons_succ, List.getElem_cons_zero, Act.put, List.setIfInBounds_toArray, List.set_cons_zero, List.set_cons_succ])
                          refine wpAnyH_take (i := 2) (v := ?vak_2) rfl (by kernel_rfl) (by kernel_rfl) (by kernel_rfl) (fun _ _ _ h => h) (Or.inl ⟨by rfl, ?yak_2⟩) (by assumption) ?rak_2
                          case yak_2 => intro w hSw; (try dsimp only at hSw); go_simp <;> (try with_reducible rfl)
                          (try simp only [List.getElem_toArray, List.getElem_cons_succ, List.getElem_cons_zero, Act.put, List.setIfInBounds_toArray, List.set_cons_zero, List.set_cons_succ])
                          refine wpAnyH_take (i := 3) (v := ?vak_3) rfl (by kernel_rfl) (by kernel_rfl) (by kernel_rfl) (fun _ _ _ h => h) (Or.inl ⟨by rfl, ?yak_3⟩) (by assumption) ?rak_3
                          case yak_3 => intro w hSw; (try dsimp only at hSw); go_simp <;> (try with_reducible rfl)
                          (try simp only [List.getElem_toArray, List.getElem_cons_succ, List.getElem_cons_zero, Act.put, List.setIfInBounds_toArray, List.set_cons_zero, List.set_cons_succ])
                          refine wpAnyH_take (i := 4) (v := ?vak_4) rfl (by kernel_rfl) (by kernel_rfl) (by kernel_rfl) (fun _ _ _ h => h) (Or.inl ⟨by rfl, ?yak_4⟩) (by assumption) ?rak_4
                          case yak_4 => intro w hSw; (try dsimp only at hSw); go_simp <;> (try with_reducible rfl)
                          (try simp only [List.getElem_toArray, List.getElem_cons_succ, List.getElem_cons_zero, Act.put, List.setIfInBounds_toArray, List.set_cons_zero, List.set_cons_succ])
                          refine wpAnyH_take (i := 5) (v := ?vak_5) rfl (by kernel_rfl) (by kernel_rfl) (by kernel_rfl) (fun _ _ _ h => h) (Or.inl ⟨by rfl, ?yak_5⟩) (by assumption) ?rak_5
                          case yak_5 => intro w hSw; (try dsimp only at hSw); go_simp <;> (try with_reducible rfl)
                          (try simp only [List.getElem_toArray, List.getElem_cons_succ, List.getElem_cons_zero, Act.put, List.setIfInBounds_toArray, List.set_cons_zero, List.set_cons_succ])
                          refine wpAnyH_take (i := 6) (v := ?vak_6) rfl (by kernel_rfl) (by kernel_rfl) (by kernel_rfl) (fun _ _ _ h => h) (Or.inl ⟨by rfl, ?yak_6⟩) (by assumption) ?rak_6
                          case yak_6 => intro w hSw; (try dsimp only at hSw); go_simp <;> (try with_reducible rfl)
                          (try simp only [List.getElem_toArray, List.getElem_cons_succ, List.getElem_cons_zero, Act.put, List.setIfInBounds_toArray, List.set_cons_zero, List.set_cons_succ])
                          refine wpAnyH_take (i := 7) (v := ?vak_7) rfl (by kernel_rfl) (by kernel_rfl) (by kernel_rfl) (fun _ _ _ h => h) (Or.inl ⟨by rfl, ?yak_7⟩) (by assumption) ?rak_7
                          case yak_7 => intro w hSw; (try dsimp only at hSw); go_simp <;> (try with_reducible rfl)
                          (try simp only [List.getElem_toArray, List.getElem_cons_succ, List.getElem_cons_zero, Act.put, List.setIfInBounds_toArray, List.set_cons_zero, List.set_cons_succ])
                          refine wpAnyH_take (i := 8) (v := ?vak_8) rfl (by kernel_rfl) (by kernel_rfl) (by kernel_rfl) (fun _ _ _ h => h) (Or.inl ⟨by rfl, ?yak_8⟩) (by assumption) ?rak_8
                          case yak_8 => intro w hSw; (try dsimp only at hSw); go_simp <;> (try with_reducible rfl)
                          (try simp only [List.getElem_toArray, List.getElem_cons_succ, List.getElem_cons_zero, Act.put, List.setIfInBounds_toArray, List.set_cons_zero, List.set_cons_succ])
                          refine' wpAnyH_take (i := 9) (v := _) rfl (by kernel_rfl) (by kernel_rfl) (by kernel_rfl) (fun _ _ _ h => h) (yieldsIf_load_mid (by rfl) _ _ (by rfl) _ _ (by rfl) _ _ ?Sak_9 ?uak_9 ?dak_9 ?iak_9) (by assumption) ?rak_9
                          case Sak_9 => exact (by intro w h; exact h.2.2)
                          case uak_9 => exact Tryd.underlying23
                          case dak_9 => rfl
                          case iak_9 => exact Tryd.szQ
                          (try simp only [List.getElem_toArray, List.getElem_cons_succ, List.getElem_cons_zero, Act.put, List.setIfInBounds_toArray, List.set_cons_zero, List.set_cons_succ])
                          refine wpAnyH_take (i := 10) (v := ?vak_10) rfl (by kernel_rfl) (by kernel_rfl) (by kernel_rfl) (fun _ _ _ h => h) (Or.inl ⟨by rfl, ?yak_10⟩) (by assumption) ?rak_10
                          case yak_10 => intro w hSw; (try dsimp only at hSw); go_simp <;> (try with_reducible rfl)
                          (try simp only [List.getElem_toArray, List.getElem_cons_succ, List.getElem_cons_zero, Act.put, List.setIfInBounds_toArray, List.set_cons_zero, List.set_cons_succ])
                          refine wpAnyH_ready (rs := [11]) (by kernel_rfl) (by simp) ?_
                          refine AllReadyH.cons rfl (fun K hK => ?_) AllReadyH.nil
                          go_simp
                          go_wp2_with fail
                          (with_reducible refine (keep_ok gw _ _ _ _ hI3.wk).mono ?_)
                          rintro e we ⟨rfl, hW, hoe⟩
                          have hRe := ((hI3.rows i _ _ HRI.out HCI.out).2.2).only hoe (by simp; exact hapi.2.1)
                          have hHe := hI3.hdrs.only hoe (by simp; exact hgrg)
                          have hBe := hB3.only hoe (by simp; exact hgwg)
                          have hC0 : we.cell? ⟨gw, 0, none⟩ = some (.slice (some ⟨gr, 0, none⟩) m cL) := by have h := hW.cell (k := 0) rfl; rw [HM.out] at h; exact h
                          have hC1 : we.cell? ⟨gr, i, none⟩ = some (.slice (some ⟨gi, 0, none⟩) N ci) := hHe.cell (by rw [List.getElem?_append_left (by rw [List.length_map]; exact (List.getElem?_eq_some_iff.1 HRI.out).1), List.getElem?_map, HRI.out]; rfl)
                          refine hK.out _ _ ⟨hC0, hC1, blk_range hBe⟩ (fun hHeld => ?_)
                          clear hK K
                          refine wpAnyH_take (i := 12) (v := ?vak_12) rfl (by kernel_rfl) (by kernel_rfl) (by kernel_rfl) (fun _ _ _ h => h) (Or.inl ⟨by rfl, ?yak_12⟩) (by assumption) ?rak_12
                          case yak_12 => intro w hSw; (try dsimp only at hSw); go_simp <;> (try with_reducible rfl)
                          (try simp only [List.getElem_toArray, List.getElem_cons_succ, List.getElem_cons_zero, Act.put, List.setIfInBounds_toArray, List.set_cons_zero, List.set_cons_succ])
                          refine wpAnyH_ready (rs := [13]) (by kernel_rfl) (by simp) ?_
                          refine AllReadyH.cons rfl (fun K hK => ?_) AllReadyH.nil
                          rw [if_pos (by rfl)]
                          refine wp_put 23 (.tmp 171) (.tmp 170) rfl gi (k * 2) rfl (.agg [Value.int .i64 (x - y * o).num, Value.int .i64 ((x - y * o).den : Int)].toArray) rfl hRe [Value.int .i64 (x - y * o).num, Value.int .i64 ((x - y * o).den : Int)] rfl Tryd.szQ (rowZ_len HLN.out hlt) (int_one _ _) ?_
                          intro wf huf hBf
                          have hWf := hW.upd huf (fun e => hapi.2.1 e.symm)
                          have hHf := hHe.upd huf (fun e => hapi.1 e.symm)
                          have hgx : g15 ≠ gi := by have := hapi.2.2.2; omega
                          have hBg := hBe.upd huf hgx
                          have hC0f : wf.cell? ⟨gw, 0, none⟩ = some (.slice (some ⟨gr, 0, none⟩) m cL) := by have h := hWf.cell (k := 0) rfl; rw [HM.out] at h; exact h
                          have hC1f : wf.cell? ⟨gr, i, none⟩ = some (.slice (some ⟨gi, 0, none⟩) N ci) := hHf.cell (by rw [List.getElem?_append_left (by rw [List.length_map]; exact (List.getElem?_eq_some_iff.1 HRI.out).1), List.getElem?_map, HRI.out]; rfl)
                          refine hK.out _ _ ⟨hC0f, hC1f, blk_range hBg⟩ (fun hHeld => ?_)
                          clear hK K hC0f hC1f hC0 hC1
                          refine wpAnyH_done (by kernel_rfl) ?_ _
                          have hOf : Only [gi, gw] wd wf := (hoe.mono (by simp)).trans (Only.of_upd huf (by simp))
                          clear hHeld hHe hRe hBe hW huf hHf hBg hoe
                          have hL : ∀ k ∈ [gi, gw], B ≤ k ∧ k < T := fun k hk => by
                            simp at hk
                            rcases hk with rfl | rfl
                            · exact hapi.2.2
                            · exact ⟨hI3.base.2.1, hI3.base.2.2.2.2⟩
                          have hszd := Nat.le_trans hszz hdd.size
                          have hbf := (hbe5.low hdd (Nat.le_trans hBT hszz)).only hOf hL (Nat.le_trans hBT hszd)
                          have hszf := Nat.le_trans hszd hOf.size
                          have B11f := (B11d.next hdd B11d.lt).only hOf (fun h => by have := (hL _ h).2; omega)
                          have hI6 := hI3.put HRI.out HCI.out hlt f2 hOf hBf hWf
                          rw [List.set_set, mid_set HEE.out HXX.out] at hI6
                          have HI6 := Lib.hid hI6
                          have hstp := HST.out
                          rw [HSF.out, if_pos f1, okQ_yes f2] at hstp
                          have HS2 := Lib.hid hstp
                          clear hI6 hstp hI3 hBf hWf hI5 hdd hbe5
                          go_wp2
                          go_roundw
                          case rel => exact ⟨k + 1, by omega, by go_num, hbf, hszf, B11f, .inl ⟨E ++ [x - y * o], by simp; exact HEE.out, by rw [HS2.out]; rfl, HI6.out⟩⟩
                          case measure => simp [intOf]; omega
                        · skip
                          go_wp2
                          have hdd := below_drew w5
                          have hI3 := hI5.keep (hdd.mono hszz)
                          have hB3 := B15.next hdd B15.lt
                          have hgwg : g15 ≠ gw := by have := hI5.base.2.2.2.2; omega
                          have hgrg : gr ≠ gw := hI5.base.2.2.1
                          have hC0 : w5.drew.cell? ⟨gw, 0, none⟩ = some (.slice (some ⟨gr, 0, none⟩) m cL) := by have h := hI3.wk.cell (k := 0) rfl; rw [HM.out] at h; exact h
                          refine wp_region_held_drew (S := fun w' => w'.cell? ⟨gw, 0, none⟩ = some (.slice (some ⟨gr, 0, none⟩) m cL) ∧ w'.cell? ⟨gr, i, none⟩ = some (.slice (some ⟨gi, 0, none⟩) N ci) ∧ w'.rangeAt g15 0 [Value.int .i64 N2, Value.int .i64 D2]) (by kernel_rfl) ⟨hC0, hI3.hdr HRI.out, blk_range hB3⟩ (fun hHeld => ?_)
                          clear hC0
                          generalize w5.drew = wd at hdd hI3 hB3 hHeld ⊢
                          refine wpAnyH_take (i := 0) (v := ?val_0) rfl (by kernel_rfl) (by kernel_rfl) (by kernel_rfl) (fun _ _ _ h => h) (Or.inl ⟨by rfl, ?yal_0⟩) (by assumption) ?ral_0
                          case yal_0 => intro w hSw; (try dsimp only at hSw); go_simp <;> (try with_reducible rfl)
                          (try simp only [List.getElem_toArray, List.getElem_cons_zero, Act.put, List.setIfInBounds_toArray, List.set_cons_zero, List.set_cons_succ])
                          refine wpAnyH_take (i := 1) (v := ?val_1) rfl (by kernel_rfl) (by kernel_rfl) (by kernel_rfl) (fun _ _ _ h => h) (Or.inl ⟨by rfl, ?yal_1⟩) (by assumption) ?ral_1
                          case yal_1 => intro w hSw; (try dsimp only at hSw); go_simp <;> (try with_reducible rfl)
                          (try simp only [List.getElem_toArray, List.getElem_cons_succ, List.getElem_cons_zero, Act.put, List.setIfInBounds_toArray, List.set_cons_zero, List.set_cons_succ])
                          refine wpAnyH_take (i := 2) (v := ?val_2) rfl (by kernel_rfl) (by kernel_rfl) (by kernel_rfl) (fun _ _ _ h => h) (Or.inl ⟨by rfl, ?yal_2⟩) (by assumption) ?ral_2
                          case yal_2 => intro w hSw; (try dsimp only at hSw); go_simp <;> (try with_reducible rfl)
                          (try simp only [List.getElem_toArray, List.getElem_cons_succ, List.getElem_cons_zero, Act.put, List.setIfInBounds_toArray, List.set_cons_zero, List.set_cons_succ])
                          refine wpAnyH_take (i := 3) (v := ?val_3) rfl (by kernel_rfl) (by kernel_rfl) (by kernel_rfl) (fun _ _ _ h => h) (Or.inl ⟨by rfl, ?yal_3⟩) (by assumption) ?ral_3
                          case yal_3 => intro w hSw; (try dsimp only at hSw); go_simp <;> (try with_reducible rfl)
                          (try simp only [List.getElem_toArray, List.getElem_cons_succ, List.getElem_cons_zero, Act.put, List.setIfInBounds_toArray, List.set_cons_zero, List.set_cons_succ])
                          refine wpAnyH_take (i := 4) (v := ?val_4) rfl (by kernel_rfl) (by kernel_rfl) (by kernel_rfl) (fun _ _ _ h => h) (Or.inl ⟨by rfl, ?yal_4⟩) (by assumption) ?ral_4
                          case yal_4 => intro w hSw; (try dsimp only at hSw); go_simp <;> (try with_reducible rfl)
                          (try simp only [List.getElem_toArray, List.getElem_cons_succ, List.getElem_cons_zero, Act.put, List.setIfInBounds_toArray, List.set_cons_zero, List.set_cons_succ])
                          refine wpAnyH_take (i := 5) (v := ?val_5) rfl (by kernel_rfl) (by kernel_rfl) (by kernel_rfl) (fun _ _ _ h => h) (Or.inl ⟨by rfl, ?yal_5⟩) (by assumption) ?ral_5
                          case yal_5 => intro w hSw; (try dsimp only at hSw); go_simp <;> (try with_reducible rfl)
                          (try simp only [List.getElem_toArray, List.getElem_cons_succ, List.getElem_cons_zero, Act.put, List.setIfInBounds_toArray, List.set_cons_zero, List.set_cons_succ])
                          refine wpAnyH_take (i := 6) (v := ?val_6) rfl (by kernel_rfl) (by kernel_rfl) (by kernel_rfl) (fun _ _ _ h => h) (Or.inl ⟨by rfl, ?yal_6⟩) (by assumption) ?ral_6
                          case yal_6 => intro w hSw; (try dsimp only at hSw); go_simp <;> (try with_reducible rfl)
                          (try simp only [List.getElem_toArray, List.getElem_cons_succ, List.getElem_cons_zero, Act.put, List.setIfInBounds_toArray, List.set_cons_zero, List.set_cons_succ])
                          refine wpAnyH_take (i := 7) (v := ?val_7) rfl (by kernel_rfl) (by kernel_rfl) (by kernel_rfl) (fun _ _ _ h => h) (Or.inl ⟨by rfl, ?yal_7⟩) (by assumption) ?ral_7
                          case yal_7 => intro w hSw; (try dsimp only at hSw); go_simp <;> (try with_reducible rfl)
                          (try simp only [List.getElem_toArray, List.getElem_cons_succ, List.getElem_cons_zero, Act.put, List.setIfInBounds_toArray, List.set_cons_zero, List.set_cons_succ])
                          refine wpAnyH_take (i := 8) (v := ?val_8) rfl (by kernel_rfl) (by kernel_rfl) (by kernel_rfl) (fun _ _ _ h => h) (Or.inl ⟨by rfl, ?yal_8⟩) (by assumption) ?ral_8
                          case yal_8 => intro w hSw; (try dsimp only at hSw); go_simp <;> (try with_reducible rfl)
                          (try simp only [List.getElem_toArray, List.getElem_cons_succ, List.getElem_cons_zero, Act.put, List.setIfInBounds_toArray, List.set_cons_zero, List.set_cons_succ])
                          refine' wpAnyH_take (i := 9) (v := _) rfl (by kernel_rfl) (by kernel_rfl) (by kernel_rfl) (fun _ _ _ h => h) (yieldsIf_load_mid (by rfl) _ _ (by rfl) _ _ (by rfl) _ _ ?Sal_9 ?ual_9 ?dal_9 ?ial_9) (by assumption) ?ral_9
                          case Sal_9 => exact (by intro w h; exact h.2.2)
                          case ual_9 => exact Tryd.underlying23
                          case dal_9 => rfl
                          case ial_9 => exact Tryd.szQ
                          (try simp only [List.getElem_toArray, List.getElem_cons_succ, List.getElem_cons_zero, Act.put, List.setIfInBounds_toArray, List.set_cons_zero, List.set_cons_succ])
                          refine wpAnyH_take (i := 10) (v := ?val_10) rfl (by kernel_rfl) (by kernel_rfl) (by kernel_rfl) (fun _ _ _ h => h) (Or.inl ⟨by rfl, ?yal_10⟩) (by assumption) ?ral_10
                          case yal_10 => intro w hSw; (try dsimp only at hSw); go_simp <;> (try with_reducible rfl)
                          (try simp only [List.getElem_toArray, List.getElem_cons_succ, List.getElem_cons_zero, Act.put, List.setIfInBounds_toArray, List.set_cons_zero, List.set_cons_succ])
                          refine wpAnyH_ready (rs := [11]) (by kernel_rfl) (by simp) ?_
                          refine AllReadyH.cons rfl (fun K hK => ?_) AllReadyH.nil
                          go_simp
                          go_wp2_with fail
                          (with_reducible refine (keep_bad gw _ _ _ _ hI3.wk).mono ?_)
                          rintro e we ⟨rfl, hW, hoe⟩
                          have hRe := ((hI3.rows i _ _ HRI.out HCI.out).2.2).only hoe (by simp; exact hapi.2.1)
                          have hHe := hI3.hdrs.only hoe (by simp; exact hgrg)
                          have hBe := hB3.only hoe (by simp; exact hgwg)
                          have hC0 : we.cell? ⟨gw, 0, none⟩ = some (.slice (some ⟨gr, 0, none⟩) m cL) := by have h := hW.cell (k := 0) rfl; rw [HM.out] at h; exact h
                          have hC1 : we.cell? ⟨gr, i, none⟩ = some (.slice (some ⟨gi, 0, none⟩) N ci) := hHe.cell (by rw [List.getElem?_append_left (by rw [List.length_map]; exact (List.getElem?_eq_some_iff.1 HRI.out).1), List.getElem?_map, HRI.out]; rfl)
                          refine hK.out _ _ ⟨hC0, hC1, blk_range hBe⟩ (fun hHeld => ?_)
                          clear hK K
                          refine wpAnyH_take (i := 12) (v := ?val_12) rfl (by kernel_rfl) (by kernel_rfl) (by kernel_rfl) (fun _ _ _ h => h) (Or.inl ⟨by rfl, ?yal_12⟩) (by assumption) ?ral_12
                          case yal_12 => intro w hSw; (try dsimp only at hSw); go_simp <;> (try with_reducible rfl)
                          (try simp only [List.getElem_toArray, List.getElem_cons_succ, List.getElem_cons_zero, Act.put, List.setIfInBounds_toArray, List.set_cons_zero, List.set_cons_succ])
                          refine wpAnyH_ready (rs := [13]) (by kernel_rfl) (by simp) ?_
                          refine AllReadyH.cons rfl (fun K hK => ?_) AllReadyH.nil
                          rw [if_pos (by rfl)]
                          refine wp_put 23 (.tmp 171) (.tmp 170) rfl gi (k * 2) rfl (.agg [Value.int .i64 0, Value.int .i64 1].toArray) rfl hRe [Value.int .i64 0, Value.int .i64 1] rfl Tryd.szQ (rowZ_len HLN.out hlt) (int_one _ _) ?_
                          intro wf huf hBf
                          have hWf := hW.upd huf (fun e => hapi.2.1 e.symm)
                          have hHf := hHe.upd huf (fun e => hapi.1 e.symm)
                          have hgx : g15 ≠ gi := by have := hapi.2.2.2; omega
                          have hBg := hBe.upd huf hgx
                          have hC0f : wf.cell? ⟨gw, 0, none⟩ = some (.slice (some ⟨gr, 0, none⟩) m cL) := by have h := hWf.cell (k := 0) rfl; rw [HM.out] at h; exact h
                          have hC1f : wf.cell? ⟨gr, i, none⟩ = some (.slice (some ⟨gi, 0, none⟩) N ci) := hHf.cell (by rw [List.getElem?_append_left (by rw [List.length_map]; exact (List.getElem?_eq_some_iff.1 HRI.out).1), List.getElem?_map, HRI.out]; rfl)
                          refine hK.out _ _ ⟨hC0f, hC1f, blk_range hBg⟩ (fun hHeld => ?_)
                          clear hK K hC0f hC1f hC0 hC1
                          refine wpAnyH_done (by kernel_rfl) ?_ _
                          have hOf : Only [gi, gw] wd wf := (hoe.mono (by simp)).trans (Only.of_upd huf (by simp))
                          clear hHeld hHe hRe hBe hW huf hHf hBg hoe
                          have hL : ∀ k ∈ [gi, gw], B ≤ k ∧ k < T := fun k hk => by
                            simp at hk
                            rcases hk with rfl | rfl
                            · exact hapi.2.2
                            · exact ⟨hI3.base.2.1, hI3.base.2.2.2.2⟩
                          have hszd := Nat.le_trans hszz hdd.size
                          have hbf := (hbe5.low hdd (Nat.le_trans hBT hszz)).only hOf hL (Nat.le_trans hBT hszd)
                          have hszf := Nat.le_trans hszd hOf.size
                          have B11f := (B11d.next hdd B11d.lt).only hOf (fun h => by have := (hL _ h).2; omega)
                          have hX6 := hI3.putX HRI.out HCI.out hlt hOf hBf hWf
                          have HX6 := Lib.hid hX6
                          have hstp := HST.out
                          rw [HSF.out, if_pos f1, okQ_no f2] at hstp
                          have HN := Lib.hid (show clearM u c C = none by rw [HCL.out, HOP.out]; exact mapO_fell (k := i + 1) (by rw [HSUB.out, opTo_fell hstp]; rfl))
                          clear hX6 hstp hI3 hBf hWf hI5 hdd hbe5
                          go_wp2
                          go_roundw
                          case rel => exact ⟨k + 1, by omega, by go_num, hbf, hszf, B11f, .inr ⟨HN.out, HX6.out⟩⟩
                          case measure => simp [intOf]; omega
                      · skip
                        go_wp2_with fail
                        (with_reducible refine (keep_bad gw _ _ _ _ hI2.wk).mono ?_)
                        rintro e w3 ⟨rfl, hW, ho3⟩
                        have B13c := B13.only ho3 (by simp; exact hgw13)
                        clear z0 z1 B13
                        go_wp2_with (with_reducible refine wpList_put (o := ⟨none, .store 23 (.tmp 13) (.tmp 138), _, _, _, _⟩) (by with_unfolding_all rfl) 23 (.tmp 13) (.tmp 138) (by with_unfolding_all rfl) g13 0 (by with_unfolding_all rfl) (.agg [Value.int .i64 0, Value.int .i64 1].toArray) (by with_unfolding_all rfl) B13c [Value.int .i64 0, Value.int .i64 1] (by with_unfolding_all rfl) (by with_unfolding_all (exact Tryd.szQ)) (by with_unfolding_all (exact Nat.le_refl 2)) (by with_unfolding_all (exact int_one _ _)) ?_)
                        intro w4 hu4 B13
                        rw [splice_all _ _ (by rfl)] at B13
                        have hW3 := hI2.toX ho3 hW
                        have hI4 := hW3.keep (hu4.below (B := T) hT13)
                        have hgwB : B ≤ gw := hI2.base.2.1
                        have hb3 := hbe2.only ho3 (fun k hk => by rw [List.mem_singleton.1 hk]; exact ⟨hgwB, hI2.base.2.2.2.2⟩) (Nat.le_trans hBT hszz)
                        have hb4 := hb3.upd hu4 (Nat.le_trans hBT hT13) ha13
                        have hsz4 : T ≤ w4.heap.size := Nat.le_trans hszz (Nat.le_trans ho3.size (Nat.le_of_eq hu4.size.symm))
                        have B11c := (B11b.only ho3 (by simp; have := hI2.base.2.2.2.2; omega)).upd hu4 hn1113
                        have cE := hI4.wk.cell (k := 1) rfl
                        clear hW hW3 hb3 B13c hbe2 B11b ho3 hu4
                        have HX4 := Lib.hid hI4
                        have hstp := HST.out
                        rw [HSF.out, if_neg f1] at hstp
                        have HN := Lib.hid (show clearM u c C = none by rw [HCL.out, HOP.out]; exact mapO_fell (k := i + 1) (by rw [HSUB.out, opTo_fell hstp]; rfl))
                        clear hI4 hstp hI2 B13
                        go_wp2
                        go_roundw
                        case rel => exact ⟨k + 1, by omega, by go_num, hb4, hsz4, B11c, .inr ⟨HN.out, HX4.out⟩⟩
                        case measure => simp [intOf]; omega
                    · skip
                      have hki : (k : Int) < (N : Int) := by omega
                      have c0 := hX.wk.cell (k := 0) rfl
                      have cE := hX.wk.cell (k := 1) rfl
                      have c2 := hX.hdr HRI.out
                      rw [HM.out] at c0
                      unfold rowV at c2
                      dsimp only at c2
                      have HN := Lib.hid hno
                      have HX := Lib.hid hX
                      clear hno hX
                      go_wp2
                      go_roundw
                      case rel => exact ⟨i + 1, by omega, by go_num, hbe, hsz, .inr ⟨HN.out, HX.out⟩⟩
                      case measure => simp [intOf]; omega
                  · skip
                    obtain rfl : N = k := by omega
                    have hkk : ¬ (N : Int) < (N : Int) := by omega
                    rcases hst with ⟨E, hE, hop, hI⟩ | ⟨hno, hX⟩
                    · have c0 := hI.wk.cell (k := 0) rfl
                      have c2 := hI.hdr HRI.out
                      rw [HM.out] at c0
                      unfold rowV at c2
                      dsimp only at c2
                      rw [List.take_of_length_le (by have := HIL.out; omega)] at hop
                      rw [List.drop_eq_nil_of_le (by have := HIL.out; omega), List.append_nil] at hI
                      have hI7 := hI
                      rw [← HCM2.out, mid_set HDD.out HLI.out] at hI7
                      have hD2 := HSUB.out
                      rw [hop] at hD2
                      have HI7 := Lib.hid hI7
                      have HD2 := Lib.hid hD2
                      clear hI hI7 hD2 hop hE
                      go_wp2
                      go_roundw
                      case rel => exact ⟨i + 1, by omega, by go_num, hbe, hsz, .inl ⟨h, D ++ [E], HOP.out, by simp; exact HDD.out, HD2.out, HI7.out⟩⟩
                      case measure => simp [intOf]; omega
                    · have c0 := hX.wk.cell (k := 0) rfl
                      have c2 := hX.hdr HRI.out
                      rw [HM.out] at c0
                      unfold rowV at c2
                      dsimp only at c2
                      have HN := Lib.hid hno
                      have HX := Lib.hid hX
                      clear hno hX
                      go_wp2
                      go_roundw
                      case rel => exact ⟨i + 1, by omega, by go_num, hbe, hsz, .inr ⟨HN.out, HX.out⟩⟩
                      case measure => simp [intOf]; omega
          · skip
            have hii : (i : Int) < (m : Int) := by omega
            obtain ⟨ri, hri⟩ : ∃ r, M[i]? = some r := ⟨_, List.getElem?_eq_getElem (by have := HM.out; omega)⟩
            obtain ⟨raw, hrl, hiB⟩ := hX.rows i ri hri
            obtain ⟨p, hp⟩ : ∃ y, raw[c]? = some y := ⟨_, List.getElem?_eq_getElem (by omega)⟩
            have c0 := hX.wk.cell (k := 0) rfl
            have c1 := hX.hdr hri
            rw [HM.out] at c0
            obtain ⟨gi, ci, Ri⟩ := ri
            unfold rowV at c1
            dsimp only at c1 hiB
            obtain ⟨pa, pb⟩ := p
            have q0 := hiB.cell (rowR_cell (R := Ri) hp).1
            have q1 := hiB.cell (rowR_cell (R := Ri) hp).2
            dsimp only at q0 q1
            have HRI := Lib.hid hri
            have HX := Lib.hid hX
            have HN := Lib.hid hno
            clear hri hX hno hiB hp hrl
            go_wp2_with (with_reducible refine wpList_alloc (o := ⟨some 11, .alloc 23, _, _, _, _⟩) (by with_unfolding_all rfl) 23 (by with_unfolding_all rfl) (.agg zC.toArray) zC (by exact Tryd.zeroQ) (by with_unfolding_all rfl) ?_)
            intro g11 w1 hg11 hs1 hb1 B11
            have hl11 : wr.heap.size ≤ g11 := Nat.le_of_eq hg11.out.symm
            have hb1 := hb1.mono (Nat.le_of_eq hg11.out.symm)
            clear hg11 hs1
            go_wp2_with (with_reducible refine wpList_put (o := ⟨none, .store 23 (.tmp 11) (.tmp 92), _, _, _, _⟩) (by with_unfolding_all rfl) 23 (.tmp 11) (.tmp 92) (by with_unfolding_all rfl) g11 0 (by with_unfolding_all rfl) (.agg [Value.int .i64 pa, Value.int .i64 pb].toArray) (by with_unfolding_all rfl) B11 [Value.int .i64 pa, Value.int .i64 pb] (by with_unfolding_all rfl) (by with_unfolding_all (exact Tryd.szQ)) (by with_unfolding_all (exact Nat.le_refl 2)) (by with_unfolding_all (exact int_one _ _)) ?_)
            intro w2 hu2 hB2
            rw [splice_all _ _ (by rfl)] at hB2
            have hbw := hb1.trans (hu2.below (B := wr.heap.size) hl11)
            have hbe2 := hbe.low hbw (Nat.le_trans hBT hsz)
            have hsz2 := Nat.le_trans hsz hbw.size
            have HX2 := Lib.hid (HX.out.keep (hbw.mono hsz))
            have m0 := hB2.cell (k := 0) rfl
            have c0 := HX2.out.wk.cell (k := 0) rfl
            have cE := HX2.out.wk.cell (k := 1) rfl
            have c1 := HX2.out.hdr HRI.out
            rw [HM.out] at c0
            unfold rowV at c1
            dsimp only at c1
            clear hb1 hu2 B11 q0 q1 HX hl11 hbe hbw hsz
            by_cases hju : i = u
            · skip
              have hjui : (i : Int) = (u : Int) := by omega
              have hjub : ((i : Int) == (u : Int)) = true := beq_iff_eq.2 hjui
              go_wp2
              go_roundw
              case rel => exact ⟨i + 1, by omega, by go_num, hbe2, hsz2, .inr ⟨HN.out, HX2.out⟩⟩
              case measure => simp [intOf]; omega
            · skip
              have hjui : ¬ (i : Int) = (u : Int) := by omega
              have hjub : ((i : Int) == (u : Int)) = false := beq_eq_false_iff_ne.2 hjui
              by_cases hp0 : pa = 0
              · skip
                subst hp0
                go_wp2
                go_roundw
                case rel => exact ⟨i + 1, by omega, by go_num, hbe2, hsz2, .inr ⟨HN.out, HX2.out⟩⟩
                case measure => simp [intOf]; omega
              · skip
                have hp0b : (pa == 0) = false := beq_eq_false_iff_ne.2 hp0
                have hn0 : (0 : Int) < (N : Int) := by omega
                go_wp2
                go_loopw [12] (fun i wx => i = .int .i64 0 ∧ wx = w2) (fun _ _ => 0)
                case atStart => exact ⟨rfl, rfl⟩
                case round =>
                  obtain ⟨rfl, rfl⟩ := hrel
                  go_wp2
                  go_roundw
                  case rel => exact ⟨i + 1, by omega, by go_num, hbe2, hsz2, .inr ⟨HN.out, HX2.out⟩⟩
                  case measure => simp [intOf]; omega
        · skip
          obtain rfl : m = i := by omega
          have hkk : ¬ (m : Int) < (m : Int) := by omega
          have hfin : (∃ D, clearM u c C = some D ∧ RL B T gw gr N cL J M D wr) ∨ (clearM u c C = none ∧ RX B T gw gr N cL J M wr) := by
            rcases hst with ⟨h, D, hop, hD, hmo, hI⟩ | ⟨hno, hX⟩
            · left
              rw [List.take_of_length_le (by rw [List.length_set]; have := HCM.out; omega)] at hmo
              rw [List.drop_eq_nil_of_le (by rw [List.length_set]; have := HCM.out; omega), List.append_nil] at hI
              exact ⟨D, by rw [HCL.out, hop]; exact hmo, hI⟩
            · exact .inr ⟨hno, hX⟩
          have c0 : wr.cell? ⟨gw, 0, none⟩ = some (.slice (some ⟨gr, 0, none⟩) m cL) := by
            rcases hfin with ⟨D, _, hI⟩ | ⟨_, hX⟩
            · have h := hI.wk.cell (k := 0) rfl; rw [HM.out] at h; exact h
            · have h := hX.wk.cell (k := 0) rfl; rw [HM.out] at h; exact h
          have HF := Lib.hid hfin
          clear hfin hst
          go_wp2
          (try simp only [Exit.inBlock, Exit.then])
          first | refine bodyPost_end (results_none rfl _ _ _) rfl ?_ | refine bodyPost_ret (results_none rfl _ _ _) rfl ?_
          exact ⟨rfl, hbe, hsz, HF.out⟩
end Go.Proofs.YthjaelopmfjfeaaDoor
