/-
  Contract of the walk over the reference's Solve. Conditions: the system lies there.
-/
import Derived.Test.YthjaelopmfjfeaaDoorZj
import Derived.Test.YthjaelopmfjfeaaDoorZg
import Derived.Test.YthjaelopmfjfeaaDoorZd
namespace Go.Proofs.YthjaelopmfjfeaaDoor
set_option linter.unusedVariables false
set_option linter.unusedSimpArgs false
open Go.RowKit Go.Shelf
set_option linter.unusedVariables false

theorem run_buildW (w : World) : (Instr.build 75 #[]).run Tryd.prog w = .ok (.agg [Value.slice none 0 0, Value.int .i64 0].toArray) w := by kernel_rfl
theorem Tryd.szL1 : (Tryd.prog.info? 45).map (·.size) = some 1 := by kernel_rfl
/-- append of a row that is given; it may be nil. -/
theorem wpList_appG {ops : Array Oper} {rest : List Oper} {o : Oper} {a : Act} {w : World} {Q : Exit → Act → World → Prop} (hgd : o.guard = none) (s x : Operand)
    (ho : o.op = .call { callee := .builtin .append, args := #[s, x], argTypes := #[40, 40] }) (base g c n : Nat) (p : Hdr × List Rat) (hs : a.eval s = .slice (some ⟨g, 0, none⟩) 0 c) (hown : w.ownsRow base 23 2 (.slice (some ⟨g, 0, none⟩) 0 c) 0 [])
    (B : Option Addr) (q f : Nat) (hp : p.1 = (B, q, f)) (hx : a.eval x = .slice B q f) (hG : GivenRow w n p) (hn : n ≤ 1000) (hbase : base ≤ w.heap.size)
    (h : ∀ v' w', w'.ownsRow base 23 2 v' n (rowC p.2) → w.grownBy w' (some g) → wpList Tryd.prog ops Q rest (a.put o.dst v') w') : wpList Tryd.prog ops Q (o :: rest) a w := by
  obtain ⟨h1, h2, h0 | ⟨ad, h3, h4⟩⟩ := hG
  · rw [hp] at h0 h1
    injection h0 with e1 e2
    injection e2 with e2 e3
    subst e1 e2 e3
    dsimp only at h1
    subst h1
    have hnil : p.2 = [] := List.eq_nil_of_length_eq_zero h2
    refine wpList_append0 hgd s x ho (some ⟨g, 0, none⟩) 0 c (Nat.zero_le _) (fun e => by cases e) hs hx ?_
    exact h _ w (by rw [hnil]; exact hown) ⟨rfl, rfl, rfl, Nat.le_refl _, fun _ _ _ => rfl⟩
  · rw [hp] at h1 h3
    dsimp only at h1 h3
    subst h1 h3
    obtain ⟨i, i1, i2, i3, i4⟩ := infoQ
    refine wpList_appendN (P := Tryd.prog) w hgd s x 40 ho base 23 i (.agg zC.toArray) 2 16 Tryd.underlying40 i1 i2 i3 i4 rfl (by decide) _ 0 [] hs hown ad q f (rowC p.2) hx (by rw [rowC_length, h2]) h4 (rowR_one _) (by show 0 + q ≤ maxLen; unfold maxLen; omega) (by omega) hbase ?_
    intro v' w' r1 r2 _
    rw [Nat.zero_add, List.nil_append] at r1
    exact h v' w' r1 r2
theorem SysQ.given {w : World} {A B : Option Addr} {m n : Nat} {rs : List (Hdr × List Rat)} {bs : List Rat} (h : SysQ w A B m n rs bs) {p : Hdr × List Rat} (hp : p ∈ rs) : GivenRow w n p := by
  obtain ⟨hq, hv⟩ := h.rows p hp
  refine ⟨hq.len, hq.size, ?_⟩
  cases ha : p.1.1 with
  | none => exact .inl (hv ha)
  | some ad => exact .inr ⟨ad, rfl, cells_add hq.lies ha⟩
theorem swap_hdrs {N : Nat} {M : List RowM} {J : List Value} {u i : Nat} {x y : RowM} (hx : M[u]? = some x) (hy : M[i]? = some y) : splice (splice (M.map (rowV N) ++ J) i [rowV N x]) u [rowV N y] = (swapR M u i x y).map (rowV N) ++ J := by
  have hu := (List.getElem?_eq_some_iff.1 hx).1
  have hi := (List.getElem?_eq_some_iff.1 hy).1
  rw [splice_set1 (M.map (rowV N) ++ J) i (rowV N x) (by rw [List.length_append, List.length_map]; omega), splice_set1 ((M.map (rowV N) ++ J).set i (rowV N x)) u (rowV N y) (by rw [List.length_set, List.length_append, List.length_map]; omega), List.set_append_left _ _ (by rw [List.length_map]; exact hi), List.set_append_left _ _ (by rw [List.length_set, List.length_map]; exact hu)]
  congr 1
  unfold swapR
  rw [List.map_set, List.map_set]
  by_cases e : u = i
  · subst e
    rw [hx] at hy
    injection hy with hy
    subst hy
    rfl
  · exact List.set_comm _ _ (fun h => e h.symm)
theorem elimM_skip {C C2 : List (List Rat)} {hs : List Nat} {k : Nat} (h : elimM C k = some (C2, hs)) (hp : pivot C2 hs.length k = none) : elimM C (k + 1) = some (C2, hs) := by
  show (elimM C k).bind (stepE k) = _
  rw [h, Option.bind_some]
  unfold stepE
  dsimp only
  rw [hp]
theorem RL.at2_fits {B T gw gr N cL n : Nat} {J : List Value} {M : List RowM} {C : List (List Rat)} {w : World} (h : RL B T gw gr N cL J M C w) (i : Nat) : fits (at2 C i n) := by
  unfold at2
  cases hl : C[i]? with
  | none => exact fits_zero
  | some l =>
    rw [Option.bind_some]
    cases hx : l[n]? with
    | none => exact fits_zero
    | some x =>
      have hi := (List.getElem?_eq_some_iff.1 hl).1
      have hs := h.same
      exact (h.rows i M[i] l (List.getElem?_eq_getElem (by omega)) hl).2.1 x (List.mem_of_getElem? hx)
theorem elimM_clear {C C2 : List (List Rat)} {hs : List Nat} {k u i : Nat} {x : Rat} {l lu : List Rat} (h : elimM C k = some (C2, hs)) (hu : hs.length = u) (hp : pivot C2 u k = some i) (hx : at2 C2 i k = x) (hl : C2[i]? = some l) (hlu : C2[u]? = some lu) :
    elimM C (k + 1) = (clearM u k (swapR C2 u i lu l)).map fun C3 => (C3, hs ++ [k]) := by
  have h1 : (swapR C2 u i lu l)[u]? = some l := swap_at hlu hl
  have h2 : at2 (swapR C2 u i lu l) u k = x := by
    rw [← hx]; unfold at2; rw [h1, hl]
  rw [elimM_step h hu hp hx hl hlu]
  unfold clearM
  rw [h2, h1]
  show _ = Option.map _ ((opTo (fun _ y => okQ (y / x)) 0 l).bind _)
  cases opTo (fun _ y => okQ (y / x)) 0 l <;> rfl
theorem RL.swap {B T gw gr N cL : Nat} {J : List Value} {M : List RowM} {C : List (List Rat)} {w w' : World} (h : RL B T gw gr N cL J M C w) {u i : Nat} {ru ri : RowM} {lu li : List Rat} (h1 : M[u]? = some ru) (h2 : M[i]? = some ri) (h3 : C[u]? = some lu) (h4 : C[i]? = some li)
    (ho : Only [gr] w w') (hB : Blk w' gr 40 ((swapR M u i ru ri).map (rowV N) ++ J)) : RL B T gw gr N cL J (swapR M u i ru ri) (swapR C u i lu li) w' := by
  have key : ∀ j (r : RowM), (swapR M u i ru ri)[j]? = some r → ∃ k, M[k]? = some r ∧ (swapR C u i lu li)[j]? = C[k]? ∧ ((j = i ∧ k = u) ∨ (j ≠ i ∧ j = u ∧ k = i) ∨ (j ≠ i ∧ j ≠ u ∧ k = j)) := fun j r hr => by
    rw [swap_get h1 h2] at hr
    rw [swap_get h3 h4]
    by_cases e : j = i
    · rw [if_pos e] at hr
      injection hr with hr
      subst hr
      exact ⟨u, h1, by rw [if_pos e, h3], .inl ⟨e, rfl⟩⟩
    · rw [if_neg e] at hr
      by_cases e2 : j = u
      · rw [if_pos e2] at hr
        injection hr with hr
        subst hr
        exact ⟨i, h2, by rw [if_neg e, if_pos e2, h4], .inr (.inl ⟨e, e2, rfl⟩)⟩
      · rw [if_neg e2] at hr
        exact ⟨j, hr, by rw [if_neg e, if_neg e2], .inr (.inr ⟨e, e2, rfl⟩)⟩
  refine ⟨by rw [swap_len]; exact h.wk.only ho (by simp; exact fun e => h.base.2.2.1 e.symm), hB, by unfold swapR; rw [List.length_set, List.length_set, List.length_set, List.length_set]; exact h.same, fun j r l a b => ?_, fun j k r p a b c => ?_, fun j r a => ?_, h.base, fun j r a => ?_⟩
  · obtain ⟨k, hk, he, _⟩ := key j r a
    rw [he] at b
    obtain ⟨x, y, z⟩ := h.rows k r l hk b
    exact ⟨x, y, z.only ho (by simp; exact (h.apart k r hk).1)⟩
  · obtain ⟨j2, hj, _, cj⟩ := key j r a
    obtain ⟨k2, hk, _, ck⟩ := key k p b
    have e := h.diff j2 k2 r p hj hk c
    omega
  · obtain ⟨k, hk, _⟩ := key j r a
    exact h.apart k r hk
  · obtain ⟨k, hk, _⟩ := key j r a
    exact h.caps k r hk
def Bu1 (gw m n : Nat) (rs : List (Hdr × List Rat)) (bs : List Rat) (w0 : World) (i : Value) (wr : World) : Prop :=
  ∃ (k : Nat) (M : List RowM) (Lv : Value), k ≤ m ∧ i = .int .i64 (k : Int) ∧ BuR w0.heap.size gw m n rs bs k M Lv wr ∧ Below w0.heap.size w0 wr
theorem mark_yes {m k : Nat} (hk : k < m) : markL m k (k + 1) = markL m k k ++ [1] := by rw [mark_step hk, if_pos rfl]
theorem mark_no {m k j : Nat} (hj : j < m) (h : j ≠ k) : markL m k (j + 1) = markL m k j ++ [0] := by rw [mark_step hj, if_neg h]
def Mk1 (m k n1 : Nat) (hd : List Rat) (W1 : World) (v i : Value) (wr : World) : Prop :=
  ∃ j : Nat, j ≤ m ∧ i = .int .i64 (j : Int) ∧ wr.ownsRow W1.heap.size 23 2 v (n1 + j) (rowC (hd ++ markL m k j)) ∧ Below W1.heap.size W1 wr
def Pv1 (C : List (List Rat)) (u c m : Nat) (w0 : World) (i : Value) (wr : World) : Prop :=
  ∃ j : Nat, u ≤ j ∧ j ≤ m ∧ i = .int .i64 (j : Int) ∧ (∀ x, u ≤ x → x < j → at2 C x c = 0) ∧ wr = w0
def El1 (B T gw gr N cL : Nat) (J : List Value) (C : List (List Rat)) (n m gi : Nat) (w0 : World) (u i : Value) (wr : World) : Prop :=
  ∃ k : Nat, k ≤ n ∧ i = .int .i64 (k : Int) ∧ Below B w0 wr ∧ T ≤ wr.heap.size ∧
    ((∃ (hs : List Nat) (M : List RowM) (C2 : List (List Rat)) (Lr : List Value), elimM C k = some (C2, hs) ∧ u = .int .i64 (hs.length : Int) ∧ hs.length ≤ m ∧ M.length = m ∧ RL B T gw gr N cL J M C2 wr ∧ Lr.length = n ∧ Blk wr gi 3 Lr ∧ IxAt hs k Lr ∧ Uq hs) ∨
      (elimM C n = none ∧ (∃ u0 : Int, u = .int .i64 u0) ∧ ∃ M : List RowM, M.length = m ∧ RX B T gw gr N cL J M wr))
theorem solve_big {C C2 : List (List Rat)} {n i : Nat} {hs : List Nat} {l : List Rat} {d : Rat} (h : elimM C n = some (C2, hs)) (hp : pivot C2 hs.length n = some i) (hl : C2[i]? = some l) (hd : at2 C2 i n = d) (ho : opTo (fun _ y => okQ (y / d)) 0 (l.drop (n + 1)) = none) : solveM C n = .large := by
  unfold solveM
  rw [h]
  dsimp only
  rw [hp]
  dsimp only
  rw [hl, hd, Option.getD_some, ho]
theorem solve_marks {C C2 : List (List Rat)} {n i : Nat} {hs : List Nat} {l y : List Rat} {d : Rat} (h : elimM C n = some (C2, hs)) (hp : pivot C2 hs.length n = some i) (hl : C2[i]? = some l) (hd : at2 C2 i n = d) (ho : opTo (fun _ y => okQ (y / d)) 0 (l.drop (n + 1)) = some y) : solveM C n = .marks y := by
  unfold solveM
  rw [h]
  dsimp only
  rw [hp]
  dsimp only
  rw [hl, hd, Option.getD_some, ho]
theorem solve_num {C C2 : List (List Rat)} {n : Nat} {hs : List Nat} (h : elimM C n = some (C2, hs)) (hp : pivot C2 hs.length n = none) : solveM C n = .numbers (setTo C2 n 0 hs (List.replicate n 0)) := by
  unfold solveM
  rw [h]
  dsimp only
  rw [hp]
def Fr1 (C : List (List Rat)) (u n m : Nat) (w4 : World) (i : Value) (wr : World) : Prop :=
  ∃ j : Nat, u ≤ j ∧ j ≤ m ∧ i = .int .i64 (j : Int) ∧ (∀ x, u ≤ x → x < j → at2 C x n = 0) ∧ Below w4.heap.size w4 wr
def Yl1 (d : Rat) (l : List Rat) (s : Nat) (W1 : World) (N : Nat) (v i : Value) (wr : World) : Prop :=
  ∃ (q e : Nat) (D : List Rat), e = s + q ∧ e ≤ N ∧ i = .int .i64 (e : Int) ∧ D.length = q ∧ opTo (fun _ x => okQ (x / d)) 0 ((l.drop s).take q) = some D ∧ wr.ownsRow W1.heap.size 23 2 v q (rowC D) ∧ Below W1.heap.size W1 wr
def Nu1 (S : List Rat) (n gx : Nat) (w4 : World) (i : Value) (wr : World) : Prop :=
  ∃ (k : Nat) (Jx : List Value), k ≤ n ∧ i = .int .i64 (k : Int) ∧ Jx.length = (n - k) * 2 ∧ Blk wr gx 23 (rowC (S.take k) ++ Jx) ∧ Below w4.heap.size w4 wr
set_option maxRecDepth 100000 in
set_option maxHeartbeats 12800000 in
theorem rsolve_at {w : World} {A B : Option Addr} {c cb m n : Nat} {rs : List (Hdr × List Rat)} {bs : List Rat} (h : SysQ w A B m n rs bs) (hm0 : 0 < m) :
    Calls Tryd.prog 42 #[.slice A m c, .slice B m cb] w fun e w' => Below w.heap.size w w' ∧ SolvedR (solveM (tabC m (rs.map fun p => p.2) bs) n) n m w e w' := by
  have hml : (rs.map fun p => p.1).length = m := by rw [List.length_map, h.cnt]
  have hm20 := h.m20
  have hn20 := h.n20
  have hFO := rformed_any A B c m cb (rs.map fun p => p.1) w (by omega) (by omega) h.hdrs (fun x hx => by
    obtain ⟨p, hp, rfl⟩ := List.mem_map.1 hx
    have := (h.rows p hp).1.len
    omega)
  rw [hml, h.form] at hFO
  have HCO : Hid (∀ w1, Below w.heap.size w w1 → Calls Tryd.prog 65 #[.slice A m c] w1 fun e w' => e = .returned (.int .i64 (n : Int)) ∧ w1 = w') := (fun w1 h1 => by
    have h2 := rcolumns_any A c (rs.map fun p => p.1) w1 (h.hdrs.next h1)
    rw [hml, h.cols] at h2
    exact h2 : ∀ w1, Below w.heap.size w w1 → Calls Tryd.prog 65 #[.slice A m c] w1 fun e w' => e = .returned (.int .i64 (n : Int)) ∧ w1 = w')
  have HFO := Lib.hid hFO
  have HGT : Hid (∀ k, k < m → ∃ p b, rs[k]? = some p ∧ bs[k]? = some b ∧ GivenRow w n p ∧ ∃ ad, A = some ad ∧ w.cell? (ad.add k) = some (hdrV p.1)) := by
    have : ∀ k, k < m → ∃ p b, rs[k]? = some p ∧ bs[k]? = some b ∧ GivenRow w n p ∧ ∃ ad, A = some ad ∧ w.cell? (ad.add k) = some (hdrV p.1) := fun k hk => by
      have h1 : rs[k]? = some (rs[k]'(by have := h.cnt; omega)) := List.getElem?_eq_getElem (by have := h.cnt; omega)
      have h2 : bs[k]? = some (bs[k]'(by have := h.bl; omega)) := List.getElem?_eq_getElem (by have := h.bl; omega)
      exact ⟨_, _, h1, h2, h.given (List.mem_of_getElem? h1), h.hdrs k _ (by rw [List.getElem?_map, h1]; rfl)⟩
    exact this
  have HB := Lib.hid h.b
  have HSY := Lib.hid h
  obtain ⟨C, hC⟩ : ∃ C, tabC m (rs.map fun p => p.2) bs = C := ⟨_, rfl⟩
  rw [hC]
  have HC := Lib.hid hC
  have hmi : (m : Int) ≤ 20 := by omega
  have hni : (n : Int) ≤ 20 := by omega
  clear hC h hFO hml
  go_enter Tryd.func42, Tryd.ntmps42
  go_wp2_with fail
  (with_reducible refine HFO.out.mono ?_)
  rintro e w1 ⟨rfl, hb1⟩
  clear HFO
  go_wp2_with fail
  (with_reducible refine (HCO.out _ hb1).mono ?_)
  rintro e w1c ⟨rfl, rfl⟩
  clear HCO
  go_wp2_with (first | (with_reducible refine wpList_build (o := ⟨some 37, .build 75 #[], _, _, _, _⟩) (by with_unfolding_all rfl) 75 #[] (by with_unfolding_all rfl) #[] (by with_unfolding_all rfl) (.agg [Value.slice none 0 0, Value.int .i64 0].toArray) (by with_unfolding_all exact fun w => run_buildW w) ?_) | (with_reducible refine wpList_box (o := ⟨some 38, .box 75 (.tmp 37), _, _, _, _⟩) ?g38 75 (.tmp 37) ?o38 (.agg [Value.slice none 0 0, Value.int .i64 0].toArray) [Value.slice none 0 0, Value.int .i64 0] ?x38 ?c38 ?_))
  try (case g38 => rfl)
  try (case o38 => rfl)
  try (case x38 => rfl)
  try (case c38 => rfl)
  intro gw w2 hgw hs2 hb2 BW
  have hlw : w1.heap.size ≤ gw := Nat.le_of_eq hgw.out.symm
  have hb2 := hb2.mono (Nat.le_of_eq hgw.out.symm)
  have hbe := below_join hb1 hb2
  have hlw0 : w.heap.size ≤ gw := Nat.le_trans hb1.size hlw
  have HB0 : Hid (Bu1 gw m n rs bs w (.int .i64 0) w2) := (⟨0, [], .slice none 0 0, Nat.zero_le _, rfl, ⟨BW, World.ownsRow_nil _ _ _ _, rfl, (fun i r p b h1 => by cases h1), (fun i j r p h1 => by cases h1), (fun i r h1 => by cases h1), (fun e => by cases e), hlw0, (fun i r h1 => by cases h1)⟩, hbe⟩ : Bu1 gw m n rs bs w (.int .i64 0) w2)
  clear hgw hs2 hb2 hb1 BW hbe hlw
  go_wp2
  go_loopw [11] (Bu1 gw m n rs bs w) (fun i _ => m - (intOf i).toNat)
  case atStart => exact HB0.out
  case round =>
    clear HB0
    obtain ⟨k, M, Lv, hk, rfl, hBu, hbe⟩ := hrel
    obtain ⟨W1, hW1⟩ : ∃ W, W = wr := ⟨wr, rfl⟩
    subst hW1
    have hk0 : (0 : Int) ≤ (k : Int) := by omega
    by_cases hlt : k < m
    · skip
      have hki : (k : Int) < (m : Int) := by omega
      obtain ⟨p, b, hp, hb, hG, ad, hA, hc⟩ := HGT.out k hlt
      subst hA
      obtain ⟨gb, ob, hBa, d0, d1⟩ := (HB.out.next hbe) k _ (prs_get hb)
      subst hBa
      have hGw := hG.next hbe
      have hcw := cellq_below hbe hc
      obtain ⟨⟨Ca, q, f⟩, al⟩ := p
      replace hcw : W1.cell? (ad.add k) = some (.slice Ca q f) := hcw
      have hql : q = n := hG.len
      subst hql
      have hall : al.length = q := hG.size
      obtain ⟨Lx, lc, rfl, hLv⟩ := own_shape hBu.own
      have HBU := Lib.hid hBu
      have HP := Lib.hid hp
      have HBK := Lib.hid hb
      have HAL := Lib.hid hall
      have DD0 := Lib.hid d0
      have DD1 := Lib.hid d1
      clear hBu hp hb hG hc hLv hall d0 d1
      go_wp2_with (with_reducible refine wpList_row0Q (o := ⟨some 44, .buildSlice 40 0 #[], _, _, _, _⟩) (by with_unfolding_all rfl) (by with_unfolding_all rfl) ?_)
      intro g0 w3 hg0 hb3 hown
      have hc3 := cellq_below hb3 hcw
      have hG3 := hGw.next hb3
      have hsz3 : W1.heap.size ≤ w3.heap.size := hb3.size
      have hg0l : W1.heap.size ≤ g0 := Nat.le_of_eq hg0.out.symm
      clear hcw hGw hg0
      go_wp2_with (with_reducible refine wpList_appG (o := ⟨some 49, .call ⟨.builtin .append, #[.tmp 44, .tmp 48], #[40, 40]⟩, _, _, _, _⟩) (by with_unfolding_all rfl) (.tmp 44) (.tmp 48) (by with_unfolding_all rfl) W1.heap.size g0 0 q ((Ca, q, f), al) (by with_unfolding_all rfl) hown Ca q f rfl (by with_unfolding_all rfl) hG3 (by omega) hsz3 ?_)
      intro v4 w4 hown4 hgr4
      have hb4 := hb3.trans (below_grown hgr4 (fun g hg => by injection hg with hg; omega) hsz3)
      have e0 := cellq_below hb4 DD0.out
      have e1 := cellq_below hb4 DD1.out
      obtain ⟨A4, c4, rfl, _⟩ := own_shape hown4
      obtain ⟨B0, hB0⟩ : ∃ X, b.num = X := ⟨_, rfl⟩
      obtain ⟨B1, hB1⟩ : ∃ X, (b.den : Int) = X := ⟨_, rfl⟩
      rw [hB0] at e0
      rw [hB1] at e1
      have HB2 : Hid ([Value.int .i64 B0, Value.int .i64 B1] = rowC [b]) := by
        have : [Value.int .i64 B0, Value.int .i64 B1] = rowC [b] := by rw [← hB0, ← hB1]; rfl
        exact this
      have HOW4 := Lib.hid hown4
      have hsz4 := hb4.size
      clear hB0 hB1 hc3 hG3 hown hgr4 hown4 hb3 hsz3 DD0 DD1
      go_wp2_with (with_reducible refine wpList_rowQ (o := ⟨some 55, .buildSlice 40 1 #[(0, .tmp 54)], _, _, _, _⟩) (by with_unfolding_all rfl) (.tmp 54) (by with_unfolding_all rfl) B0 B1 (by with_unfolding_all rfl) ?_)
      intro gi wi hgi hbi hBi
      have hoi := own_only (L := []) HOW4.out (Only.of_below hbi) (fun k hk => by cases hk)
      have hb5 := below_join hb4 hbi
      have hszi := hb5.size
      clear hgi hbi hb4 e0 e1 hsz4
      go_wp2_with (with_reducible refine wpList_appQ (o := ⟨some 56, .call ⟨.builtin .append, #[.tmp 50, .tmp 55], #[40, 40]⟩, _, _, _, _⟩) (by with_unfolding_all rfl) (.tmp 50) (.tmp 55) (by with_unfolding_all rfl) W1.heap.size (.slice A4 q c4) q _ (by with_unfolding_all rfl) hoi gi B0 B1 (by with_unfolding_all rfl) hBi (by omega) hszi ?_)
      intro v5 w5 hown5 hgr5 _
      have hb6 := hb5.trans (below_grown hgr5 (fun g hg => (own_base hoi g hg).1) hszi)
      rw [HB2.out, ← rowC_append] at hown5
      obtain ⟨hd0, hhd⟩ : ∃ hd0, al ++ [b] = hd0 := ⟨_, rfl⟩
      rw [hhd] at hown5
      have HHD := Lib.hid hhd
      clear hhd
      have HM0 : Hid (Mk1 m k (q + 1) hd0 W1 v5 (.int .i64 0) w5) := (⟨0, Nat.zero_le _, rfl, by rw [show markL m k 0 = [] from List.take_zero, List.append_nil]; exact hown5, hb6⟩ : Mk1 m k (q + 1) hd0 W1 v5 (.int .i64 0) w5)
      clear hown5 hgr5 hoi hBi hb5 hszi HOW4 HB2 hb6
      go_wp2
      go_loopw [12, 13] (Mk1 m k (q + 1) hd0 W1) (fun _ i _ => m - (intOf i).toNat)
      case atStart => exact HM0.out
      case round =>
        clear HM0
        obtain ⟨j, hj, rfl, hown, hb3⟩ := hrel
        have hj0 : (0 : Int) ≤ (j : Int) := by omega
        obtain ⟨A5, c5, rfl, _⟩ := own_shape hown
        by_cases hjm : j < m
        · have hji : (j : Int) < (m : Int) := by omega
          have HOW := Lib.hid hown
          have hms := mark_step (i := k) hjm
          have HMS := Lib.hid hms
          clear hown hms
          have hszr := hb3.size
          go_wp2_with (first | (with_reducible refine wpList_build (o := ⟨some 62, .build 23 #[(1, .const (.int .i64 1))], _, _, _, _⟩) (by with_unfolding_all rfl) 23 #[(1, .const (.int .i64 1))] (by with_unfolding_all rfl) #[(1, .int .i64 1)] (by with_unfolding_all rfl) (.agg [Value.int .i64 0, Value.int .i64 1].toArray) (by with_unfolding_all exact fun w => run_buildQ1 w) ?_) | (with_reducible refine wpList_alloc (o := ⟨some 14, .alloc 23, _, _, _, _⟩) (by with_unfolding_all rfl) 23 (by with_unfolding_all rfl) (.agg zC.toArray) zC (by exact Tryd.zeroQ) (by with_unfolding_all rfl) ?_))
          intro g14 w6 hg14 hs6 hb6 B14
          have hl14 : wr.heap.size ≤ g14 := Nat.le_of_eq hg14.out.symm
          have hb6 := hb6.mono (Nat.le_of_eq hg14.out.symm)
          clear hg14 hs6
          go_wp2_with (with_reducible refine wpList_put (o := ⟨none, .store 23 (.tmp 14) (.tmp 62), _, _, _, _⟩) (by with_unfolding_all rfl) 23 (.tmp 14) (.tmp 62) (by with_unfolding_all rfl) g14 0 (by with_unfolding_all rfl) (.agg [Value.int .i64 0, Value.int .i64 1].toArray) (by with_unfolding_all rfl) B14 [Value.int .i64 0, Value.int .i64 1] (by with_unfolding_all rfl) (by with_unfolding_all (exact Tryd.szQ)) (by with_unfolding_all (exact Nat.le_refl 2)) (by with_unfolding_all (exact int_one _ _)) ?_)
          intro w7 hu7 hB7
          rw [splice_all _ _ (by rfl)] at hB7
          have hb7 := hb6.trans (hu7.below (B := wr.heap.size) hl14)
          clear hb6 hu7 B14
          by_cases hjk : j = k
          · skip
            obtain rfl : k = j := hjk.symm
            have hjkb : ((k : Int) == (k : Int)) = true := by simp
            go_wp2_with (with_reducible refine wpList_put (o := ⟨none, .store 3 (.tmp 66) (.const (.int .i64 1)), _, _, _, _⟩) (by with_unfolding_all rfl) 3 (.tmp 66) (.const (.int .i64 1)) (by with_unfolding_all rfl) g14 0 (by with_unfolding_all rfl) (.int .i64 1) (by with_unfolding_all rfl) hB7 [Value.int .i64 1] (by with_unfolding_all rfl) (by with_unfolding_all (exact Tryd.szI)) (by with_unfolding_all (show 0 + 1 ≤ 2; omega)) (by with_unfolding_all (exact one_cell1 rfl)) ?_)
            intro w7b hu7b hB8
            have hB8 : Blk w7b g14 23 [Value.int .i64 1, Value.int .i64 1] := hB8
            have hb7b := hb7.trans (hu7b.below (B := wr.heap.size) hl14)
            clear hu7b hB7 hb7

            have z0 := hB8.cell (k := 0) rfl
            have z1 := hB8.cell (k := 1) rfl
            have how := own_only (L := []) HOW.out (Only.of_below hb7b) (fun k hk => by cases hk)
            have hbw := below_join hb3 hb7b
            have hszw := hbw.size
            have HHO := Lib.hid how
            clear how hb7b
            go_wp2_with (with_reducible refine wpList_rowQ (o := ⟨some 69, .buildSlice 40 1 #[(0, .tmp 68)], _, _, _, _⟩) (by with_unfolding_all rfl) (.tmp 68) (by with_unfolding_all rfl) 1 1 (by with_unfolding_all rfl) ?_)
            intro gi wi hgi hbi hBi
            have hoi := own_only (L := []) HHO.out (Only.of_below hbi) (fun k hk => by cases hk)
            have hb9 := below_join hbw hbi
            have hszi := hb9.size
            clear hgi hbi hbw z0 z1 hszw
            go_wp2_with (with_reducible refine wpList_appQ (o := ⟨some 70, .call ⟨.builtin .append, #[.tmp 67, .tmp 69], #[40, 40]⟩, _, _, _, _⟩) (by with_unfolding_all rfl) (.tmp 67) (.tmp 69) (by with_unfolding_all rfl) W1.heap.size (.slice A5 (q + 1 + k) c5) (q + 1 + k) _ (by with_unfolding_all rfl) hoi gi 1 1 (by with_unfolding_all rfl) hBi (by omega) hszi ?_)
            intro v8 w8 hown8 hgr8 _
            have hb8 := hb9.trans (below_grown hgr8 (fun g hg => (own_base hoi g hg).1) hszi)
            have hx : rowC (hd0 ++ markL m k k) ++ [Value.int .i64 1, Value.int .i64 1] = rowC (hd0 ++ markL m k (k + 1)) := by
              rw [mark_yes hlt, ← List.append_assoc, rowC_append (hd0 ++ markL m k k)]; rfl
            rw [hx] at hown8
            have HO8 := Lib.hid hown8
            clear hown8 hx hgr8 hoi hBi hb9
            go_wp2
            go_roundw
            case rel => exact ⟨k + 1, by omega, by go_num, HO8.out, hb8⟩
            case measure => simp [intOf]; omega
          · skip
            have hjki : ¬ (j : Int) = (k : Int) := by omega
            have hjkb : ((j : Int) == (k : Int)) = false := beq_eq_false_iff_ne.2 hjki

            have z0 := hB7.cell (k := 0) rfl
            have z1 := hB7.cell (k := 1) rfl
            have how := own_only (L := []) HOW.out (Only.of_below hb7) (fun k hk => by cases hk)
            have hbw := below_join hb3 hb7
            have hszw := hbw.size
            have HHO := Lib.hid how
            clear how hb7
            go_wp2_with (with_reducible refine wpList_rowQ (o := ⟨some 69, .buildSlice 40 1 #[(0, .tmp 68)], _, _, _, _⟩) (by with_unfolding_all rfl) (.tmp 68) (by with_unfolding_all rfl) 0 1 (by with_unfolding_all rfl) ?_)
            intro gi wi hgi hbi hBi
            have hoi := own_only (L := []) HHO.out (Only.of_below hbi) (fun k hk => by cases hk)
            have hb9 := below_join hbw hbi
            have hszi := hb9.size
            clear hgi hbi hbw z0 z1 hszw
            go_wp2_with (with_reducible refine wpList_appQ (o := ⟨some 70, .call ⟨.builtin .append, #[.tmp 67, .tmp 69], #[40, 40]⟩, _, _, _, _⟩) (by with_unfolding_all rfl) (.tmp 67) (.tmp 69) (by with_unfolding_all rfl) W1.heap.size (.slice A5 (q + 1 + j) c5) (q + 1 + j) _ (by with_unfolding_all rfl) hoi gi 0 1 (by with_unfolding_all rfl) hBi (by omega) hszi ?_)
            intro v8 w8 hown8 hgr8 _
            have hb8 := hb9.trans (below_grown hgr8 (fun g hg => (own_base hoi g hg).1) hszi)
            have hx : rowC (hd0 ++ markL m k j) ++ [Value.int .i64 0, Value.int .i64 1] = rowC (hd0 ++ markL m k (j + 1)) := by
              rw [mark_no hjm hjk, ← List.append_assoc, rowC_append (hd0 ++ markL m k j)]; rfl
            rw [hx] at hown8
            have HO8 := Lib.hid hown8
            clear hown8 hx hgr8 hoi hBi hb9
            go_wp2
            go_roundw
            case rel => exact ⟨j + 1, by omega, by go_num, HO8.out, hb8⟩
            case measure => simp [intOf]; omega
        · obtain rfl : m = j := by omega
          have hjj : ¬ (m : Int) < (m : Int) := by omega
          rw [mark_all] at hown
          obtain ⟨gr0, R0, hA5, hgr0, hN0, hBr⟩ := own_lies hown (by omega)
          subst hA5
          have hBr : Blk wr gr0 23 (rowC (tabRow m al b k) ++ R0) := by
            have e : hd0 ++ (List.replicate m (0 : Rat)).set k 1 = tabRow m al b k := by rw [← HHD.out]; exact List.append_assoc ..
            rw [← e]; exact hBr
          have hBu2 := HBU.out.next hb3
          have cL0 := hBu2.wk.cell (k := 0) rfl
          have hbw := below_join hbe hb3
          have HBR := Lib.hid hBr
          have HBU2 := Lib.hid hBu2
          have hszr := hb3.size
          clear hown hBr hBu2
          go_wp2_with (with_reducible refine wpList_rowL (o := ⟨some 77, .buildSlice 45 1 #[(0, .tmp 76)], _, _, _, _⟩) (by with_unfolding_all rfl) (.tmp 76) (by with_unfolding_all rfl) (some ⟨gr0, 0, none⟩) (q + 1 + m) c5 (by with_unfolding_all rfl) ?_)
          intro gi wi hgi hbi hBi
          have hBui := Lib.hid (HBU2.out.next hbi)
          have hBri := Lib.hid (HBR.out.next hbi HBR.out.lt)
          have hgl : gr0 < wi.heap.size := by have := HBR.out.lt; have := hbi.size; omega
          have hszw : w.heap.size ≤ wi.heap.size := by have := hbw.size; have := hbi.size; omega
          clear hgi cL0
          go_wp2_with (with_reducible refine wpList_appL (o := ⟨some 78, .call ⟨.builtin .append, #[.tmp 75, .tmp 77], #[45, 45]⟩, _, _, _, _⟩) (by with_unfolding_all rfl) (.tmp 75) (.tmp 77) (by with_unfolding_all rfl) w.heap.size (.slice Lx k lc) k _ (by with_unfolding_all rfl) hBui.out.own gi (some ⟨gr0, 0, none⟩) (q + 1 + m) c5 (by with_unfolding_all rfl) hBi (by omega) hszw ?_)
          intro v8 w8 hown8 hgr8 hnew8
          obtain ⟨A8, c8, rfl, _⟩ := own_shape hown8
          have hgw8 : Blk w8 gw 75 [.slice Lx k lc, .int .i64 0] := by
            have h9 := hBui.out.wk
            unfold Blk
            rw [hgr8.block gw h9.lt (fun e => hBui.out.sep e.symm)]
            exact h9
          have HO8 := Lib.hid hown8
          have HN8 := Lib.hid hnew8
          clear hown8 hnew8
          go_wp2_with (with_reducible refine wpList_put (o := ⟨none, .store 45 (.tmp 80) (.tmp 78), _, _, _, _⟩) (by with_unfolding_all rfl) 45 (.tmp 80) (.tmp 78) (by with_unfolding_all rfl) gw 0 (by with_unfolding_all rfl) (.slice A8 (k + 1) c8) (by with_unfolding_all rfl) hgw8 [Value.slice A8 (k + 1) c8] (by with_unfolding_all rfl) (by with_unfolding_all (exact Tryd.szL1)) (by with_unfolding_all (show 0 + 1 ≤ 2; omega)) (by with_unfolding_all (exact one_cell1 rfl)) ?_)
          intro w9 hu9 hB9
          have hB9 : Blk w9 gw 75 [.slice A8 (k + 1) c8, .int .i64 0] := hB9
          have hB10 := HBU.out.add (r := (gr0, c5, R0)) (below_join hb3 hbi) hgr8 HO8.out HN8.out hu9 hB9 (fun p b2 h1 h2 => by
            rw [HP.out] at h1
            rw [HBK.out] at h2
            injection h1 with h1
            injection h2 with h2
            rw [← h1, ← h2]
            exact hBri.out) hgr0 hgl hN0
          have hbz := ((below_join hbw hbi).trans (below_grown hgr8 (fun g hg => (own_base hBui.out.own g hg).1) hszw)).trans (hu9.below (B := w.heap.size) HBU.out.gwB)
          have HB10 := Lib.hid hB10
          clear hB10 hB9 hu9 hgr8 hgw8 hBi
          go_wp2
          go_roundw
          case rel => exact ⟨k + 1, _, _, by omega, by go_num, HB10.out, hbz⟩
          case measure => simp [intOf]; omega
    · skip
      obtain rfl : m = k := by omega
      have hkk : ¬ (m : Int) < (m : Int) := by omega
      obtain ⟨gr, cL, J, rfl, hRL⟩ := hBu.rl hm0 HSY.out.cnt HSY.out.bl (fun p hp => ⟨(HSY.out.rows p hp).1.size, HSY.out.fit p hp⟩) HSY.out.bf
      have hMm := hBu.cnt
      rw [HC.out] at hRL
      obtain ⟨N, hN⟩ : ∃ N, n + 1 + m = N := ⟨_, rfl⟩
      rw [hN] at hRL
      have HNN := Lib.hid hN
      obtain ⟨T, hT⟩ : ∃ T, W1.heap.size = T := ⟨_, rfl⟩
      rw [hT] at hRL
      obtain ⟨S0, hS0⟩ : ∃ S0, w.heap.size = S0 := ⟨_, rfl⟩
      have hBT : S0 ≤ T := by rw [← hT, ← hS0]; exact hbe.size
      have HS0 := Lib.hid hS0
      rw [hS0] at hRL
      have hTs : T ≤ W1.heap.size := Nat.le_of_eq hT.symm
      have HRL := Lib.hid hRL
      have HMM := Lib.hid hMm
      clear hBu hRL hMm hN HGT HB hS0 hT
      go_wp2_with (with_reducible refine wpList_makeI (o := ⟨some 82, .makeSlice 68 (.tmp 81) (.tmp 81), _, _, _, _⟩) (by with_unfolding_all rfl) (.tmp 81) (.tmp 81) (by with_unfolding_all rfl) n (by omega) (by with_unfolding_all rfl) (by with_unfolding_all rfl) ?_)
      intro gi w3 Lr hgi hb3 hLr hBi
      have hTi : T ≤ gi := Nat.le_trans hTs (Nat.le_of_eq hgi.out.symm)
      have hbw := HS0.out ▸ (below_join hbe hb3)
      have HE0 : Hid (El1 S0 T gw gr N cL J C n m gi w (.int .i64 0) (.int .i64 0) w3) := (⟨0, Nat.zero_le _, rfl, hbw, Nat.le_trans hTs hb3.size, .inl ⟨[], M, C, Lr, rfl, rfl, Nat.zero_le _, HMM.out, HRL.out.keep (hb3.mono hTs), hLr, hBi, (fun j hj => absurd hj (Nat.not_lt_zero j)), (fun i j a h1 => by cases h1)⟩⟩ : El1 S0 T gw gr N cL J C n m gi w (.int .i64 0) (.int .i64 0) w3)
      clear hgi hb3 hLr hBi HRL HMM hbw hTs
      go_wp2
      go_loopw [15, 17] (El1 S0 T gw gr N cL J C n m gi w) (fun _ i _ => n - (intOf i).toNat)
      case atStart => exact HE0.out
      case round =>
        clear HE0
        obtain ⟨k, hk, rfl, hbe2, hsz, hst⟩ := hrel
        have hk0 : (0 : Int) ≤ (k : Int) := by omega
        by_cases hlt : k < n
        · rcases hst with ⟨hs, M2, C2, Lr, hel, hu, hum, hM2, hI, hLr, hBi, hix, huq⟩ | ⟨hno, ⟨u0, rfl⟩, M2, hM2, hX⟩
          · skip
            have hki : (k : Int) < (n : Int) := by omega
            obtain ⟨u, hul⟩ : ∃ u, hs.length = u := ⟨_, rfl⟩
            rw [hul] at hum hu
            subst hu
            have hui0 : (0 : Int) ≤ (u : Int) := by omega
            have cE := hI.wk.cell (k := 1) rfl
            have hlts := elimM_lt k C2 hs hel
            have HEL := Lib.hid hel
            have HUL := Lib.hid hul
            have HLR := Lib.hid hLr
            have HM2 := Lib.hid hM2
            have HI := Lib.hid hI
            have HIX := Lib.hid hix
            have HUQ := Lib.hid huq
            have HLT := Lib.hid hlts
            clear hel hul hLr hM2 hI hix huq hlts
            go_wp2_with (with_reducible refine wpList_put (o := ⟨none, .store 3 (.tmp 97) (.const (.int .i64 (-1))), _, _, _, _⟩) (by with_unfolding_all rfl) 3 (.tmp 97) (.const (.int .i64 (-1))) (by with_unfolding_all rfl) gi k (by with_unfolding_all rfl) (.int .i64 (-1)) (by with_unfolding_all rfl) hBi [Value.int .i64 (-1)] (by with_unfolding_all rfl) (by with_unfolding_all (exact Tryd.szI)) (by with_unfolding_all (show k + 1 ≤ _; rw [HLR.out]; omega)) (by with_unfolding_all (exact one_cell1 rfl)) ?_)
            intro w5 hu5 hB5
            rw [splice_set1 _ _ _ (by rw [HLR.out]; exact hlt)] at hB5
            have hI5 := HI.out.keep (hu5.below (B := T) hTi)
            have hbe5 := hbe2.trans (hu5.below (B := S0) (Nat.le_trans hBT hTi))
            have hsz5 : T ≤ w5.heap.size := Nat.le_trans hsz (Nat.le_of_eq hu5.size.symm)
            have HI5 := Lib.hid hI5
            have hC2l := HI5.out.same.symm.trans HM2.out
            have HC2L := Lib.hid hC2l
            have HB5 := Lib.hid hB5
            clear hu5 hI5 hB5 hBi HI cE hC2l hbe2 hsz
            go_wp2
            go_loopw [18] (Pv1 C2 u k m w5) (fun i _ => m - (intOf i).toNat)
            case atStart => exact ⟨u, Nat.le_refl _, hum, rfl, (fun x h1 h2 => absurd h2 (by omega)), rfl⟩
            case round =>
              obtain ⟨j, huj, hjm, rfl, hz, hww⟩ := hrel
              subst hww
              have hj0 : (0 : Int) ≤ (j : Int) := by omega
              have c0 := HI5.out.wk.cell (k := 0) rfl
              rw [HM2.out] at c0
              have HZ := Lib.hid hz
              clear hz
              by_cases hjl : j < m
              · skip
                have hji : (j : Int) < (m : Int) := by omega
                have hkN : k < N := by have := HNN.out; omega
                have hkNi : (k : Int) < (N : Int) := by omega
                obtain ⟨r, hr⟩ : ∃ r, M2[j]? = some r := ⟨_, List.getElem?_eq_getElem (by have := HM2.out; omega)⟩
                obtain ⟨l, hl⟩ : ∃ l, C2[j]? = some l := ⟨_, List.getElem?_eq_getElem (by have := HC2L.out; omega)⟩
                obtain ⟨hll, hlf, hlB⟩ := HI5.out.rows j r l hr hl
                obtain ⟨x, hx⟩ : ∃ x, l[k]? = some x := ⟨_, List.getElem?_eq_getElem (by omega)⟩
                have hat : at2 C2 j k = x := by unfold at2; rw [hl, Option.bind_some, hx]; rfl
                have c1 := HI5.out.hdr hr
                obtain ⟨g, cr, R⟩ := r
                unfold rowV at c1
                dsimp only at c1 hlB
                have q0 := hlB.cell (rowR_cell (R := R) (prs_get hx)).1
                dsimp only at q0
                have HR := Lib.hid hr
                have HL := Lib.hid hl
                have HAT := Lib.hid hat
                clear hr hl hll hlf hlB hx hat
                by_cases hx0 : x.num = 0
                · rw [hx0] at q0
                  have HX0 := Lib.hid hx0
                  clear hx0
                  go_wp2
                  go_roundw
                  case rel => exact ⟨j + 1, by omega, by omega, by go_num, (fun y h1 h2 => by
                    rcases Nat.lt_or_ge y j with h3 | h3
                    · exact HZ.out y h1 h3
                    · obtain rfl : y = j := by omega
                      rw [HAT.out]; exact Rat.num_eq_zero.1 HX0.out), rfl⟩
                  case measure => simp [intOf]; omega
                · skip
                  have hx0b : (x.num == 0) = false := beq_eq_false_iff_ne.2 hx0
                  have hxz : x ≠ 0 := fun e => hx0 (by rw [e]; rfl)
                  have HPV := Lib.hid (pivot_some (C := C2) (u := u) (c := k) (by have := HC2L.out; omega) huj (by rw [HAT.out]; exact hxz) HZ.out)
                  have HXZ := Lib.hid hxz
                  have hjmb : ((j : Int) == (m : Int)) = false := beq_eq_false_iff_ne.2 (by omega)
                  have hjmi : ¬ (j : Int) = (m : Int) := by omega
                  have hul2 : u < m := by omega
                  have hui : (u : Int) < (m : Int) := by omega
                  obtain ⟨ru, hru⟩ : ∃ r, M2[u]? = some r := ⟨_, List.getElem?_eq_getElem (by have := HM2.out; omega)⟩
                  obtain ⟨lu, hlu⟩ : ∃ l, C2[u]? = some l := ⟨_, List.getElem?_eq_getElem (by have := HC2L.out; omega)⟩
                  have HRU := Lib.hid hru
                  have HLU := Lib.hid hlu
                  clear hru hlu hxz
                  go_wp2
                  have hdd := below_drew wr
                  have hId := HI5.out.keep (hdd.mono hsz5)
                  have hBd := HB5.out.next hdd HB5.out.lt
                  have hbd := hbe5.trans (hdd.mono (Nat.le_trans hBT hsz5))
                  have hszd := Nat.le_trans hsz5 hdd.size
                  have cu := hId.hdr HRU.out
                  have cw := hId.wk.cell (k := 0) rfl
                  rw [HM2.out] at cw
                  obtain ⟨gu, cru, Ru⟩ := ru
                  unfold rowV at cu
                  dsimp only at cu
                  refine wp_region_held_drew (S := fun w' => w'.cell? ⟨gw, 0, none⟩ = some (.slice (some ⟨gr, 0, none⟩) m cL) ∧ w'.cell? ⟨gr, u, none⟩ = some (.slice (some ⟨gu, 0, none⟩) N cru)) (by kernel_rfl) ⟨cw, cu⟩ (fun hHeld => ?_)
                  generalize wr.drew = wd at hdd hId hBd hbd hszd hHeld cu cw ⊢
                  refine wpAnyH_take (i := 0) (v := ?vpa_0) rfl (by kernel_rfl) (by kernel_rfl) (by kernel_rfl) (fun _ _ _ h => h) (Or.inl ⟨by rfl, ?ypa_0⟩) (by assumption) ?rpa_0
                  case ypa_0 => intro w hSw; (try dsimp only at hSw); go_simp <;> (try with_reducible rfl)
                  (try simp only [List.getElem_toArray, List.getElem_cons_zero, Act.put, List.setIfInBounds_toArray, List.set_cons_zero, List.set_cons_succ])
                  refine wpAnyH_take (i := 1) (v := ?vpa_1) rfl (by kernel_rfl) (by kernel_rfl) (by kernel_rfl) (fun _ _ _ h => h) (Or.inl ⟨by rfl, ?ypa_1⟩) (by assumption) ?rpa_1
                  case ypa_1 => intro w hSw; (try dsimp only at hSw); go_simp <;> (try with_reducible rfl)
                  (try simp only [List.getElem_toArray, List.getElem_cons_succ, List.getElem_cons_zero, Act.put, List.setIfInBounds_toArray, List.set_cons_zero, List.set_cons_succ])
                  refine wpAnyH_take (i := 2) (v := ?vpa_2) rfl (by kernel_rfl) (by kernel_rfl) (by kernel_rfl) (fun _ _ _ h => h) (Or.inl ⟨by rfl, ?ypa_2⟩) (by assumption) ?rpa_2
                  case ypa_2 => intro w hSw; (try dsimp only at hSw); go_simp <;> (try with_reducible rfl)
                  (try simp only [List.getElem_toArray, List.getElem_cons_succ, List.getElem_cons_zero, Act.put, List.setIfInBounds_toArray, List.set_cons_zero, List.set_cons_succ])
                  refine wpAnyH_take (i := 3) (v := ?vpa_3) rfl (by kernel_rfl) (by kernel_rfl) (by kernel_rfl) (fun _ _ _ h => h) (Or.inl ⟨by rfl, ?ypa_3⟩) (by assumption) ?rpa_3
                  case ypa_3 => intro w hSw; (try dsimp only at hSw); go_simp <;> (try with_reducible rfl)
                  (try simp only [List.getElem_toArray, List.getElem_cons_succ, List.getElem_cons_zero, Act.put, List.setIfInBounds_toArray, List.set_cons_zero, List.set_cons_succ])
                  refine wpAnyH_take (i := 4) (v := ?vpa_4) rfl (by kernel_rfl) (by kernel_rfl) (by kernel_rfl) (fun _ _ _ h => h) (Or.inl ⟨by rfl, ?ypa_4⟩) (by assumption) ?rpa_4
                  case ypa_4 => intro w hSw; (try dsimp only at hSw); go_simp <;> (try with_reducible rfl)
                  (try simp only [List.getElem_toArray, List.getElem_cons_succ, List.getElem_cons_zero, Act.put, List.setIfInBounds_toArray, List.set_cons_zero, List.set_cons_succ])
                  refine wpAnyH_take (i := 5) (v := ?vpa_5) rfl (by kernel_rfl) (by kernel_rfl) (by kernel_rfl) (fun _ _ _ h => h) (Or.inl ⟨by rfl, ?ypa_5⟩) (by assumption) ?rpa_5
                  case ypa_5 => intro w hSw; (try dsimp only at hSw); go_simp <;> (try with_reducible rfl)
                  (try simp only [List.getElem_toArray, List.getElem_cons_succ, List.getElem_cons_zero, Act.put, List.setIfInBounds_toArray, List.set_cons_zero, List.set_cons_succ])
                  refine wpAnyH_take (i := 6) (v := ?vpa_6) rfl (by kernel_rfl) (by kernel_rfl) (by kernel_rfl) (fun _ _ _ h => h) (Or.inl ⟨by rfl, ?ypa_6⟩) (by assumption) ?rpa_6
                  case ypa_6 => intro w hSw; (try dsimp only at hSw); go_simp <;> (try with_reducible rfl)
                  (try simp only [List.getElem_toArray, List.getElem_cons_succ, List.getElem_cons_zero, Act.put, List.setIfInBounds_toArray, List.set_cons_zero, List.set_cons_succ])
                  refine wpAnyH_take (i := 7) (v := ?vpa_7) rfl (by kernel_rfl) (by kernel_rfl) (by kernel_rfl) (fun _ _ _ h => h) (Or.inl ⟨by rfl, ?ypa_7⟩) (by assumption) ?rpa_7
                  case ypa_7 => intro w hSw; (try dsimp only at hSw); go_simp <;> (try with_reducible rfl)
                  (try simp only [List.getElem_toArray, List.getElem_cons_succ, List.getElem_cons_zero, Act.put, List.setIfInBounds_toArray, List.set_cons_zero, List.set_cons_succ])
                  refine wpAnyH_take (i := 8) (v := ?vpa_8) rfl (by kernel_rfl) (by kernel_rfl) (by kernel_rfl) (fun _ _ _ h => h) (Or.inl ⟨by rfl, ?ypa_8⟩) (by assumption) ?rpa_8
                  case ypa_8 => intro w hSw; (try dsimp only at hSw); go_simp <;> (try with_reducible rfl)
                  (try simp only [List.getElem_toArray, List.getElem_cons_succ, List.getElem_cons_zero, Act.put, List.setIfInBounds_toArray, List.set_cons_zero, List.set_cons_succ])
                  refine wpAnyH_take (i := 9) (v := ?vpa_9) rfl (by kernel_rfl) (by kernel_rfl) (by kernel_rfl) (fun _ _ _ h => h) (Or.inl ⟨by rfl, ?ypa_9⟩) (by assumption) ?rpa_9
                  case ypa_9 => intro w hSw; (try dsimp only at hSw); go_simp <;> (try with_reducible rfl)
                  (try simp only [List.getElem_toArray, List.getElem_cons_succ, List.getElem_cons_zero, Act.put, List.setIfInBounds_toArray, List.set_cons_zero, List.set_cons_succ])
                  refine wpAnyH_take (i := 10) (v := ?vpa_10) rfl (by kernel_rfl) (by kernel_rfl) (by kernel_rfl) (fun _ _ _ h => h) (Or.inl ⟨by rfl, ?ypa_10⟩) (by assumption) ?rpa_10
                  case ypa_10 => intro w hSw; (try dsimp only at hSw); go_simp <;> (try with_reducible rfl)
                  (try simp only [List.getElem_toArray, List.getElem_cons_succ, List.getElem_cons_zero, Act.put, List.setIfInBounds_toArray, List.set_cons_zero, List.set_cons_succ])
                  refine wpAnyH_take (i := 11) (v := ?vpa_11) rfl (by kernel_rfl) (by kernel_rfl) (by kernel_rfl) (fun _ _ _ h => h) (Or.inl ⟨by rfl, ?ypa_11⟩) (by assumption) ?rpa_11
                  case ypa_11 => intro w hSw; (try dsimp only at hSw); go_simp <;> (try with_reducible rfl)
                  (try simp only [List.getElem_toArray, List.getElem_cons_succ, List.getElem_cons_zero, Act.put, List.setIfInBounds_toArray, List.set_cons_zero, List.set_cons_succ])
                  refine wpAnyH_take (i := 12) (v := ?vpa_12) rfl (by kernel_rfl) (by kernel_rfl) (by kernel_rfl) (fun _ _ _ h => h) (Or.inl ⟨by rfl, ?ypa_12⟩) (by assumption) ?rpa_12
                  case ypa_12 => intro w hSw; (try dsimp only at hSw); go_simp <;> (try with_reducible rfl)
                  (try simp only [List.getElem_toArray, List.getElem_cons_succ, List.getElem_cons_zero, Act.put, List.setIfInBounds_toArray, List.set_cons_zero, List.set_cons_succ])
                  refine wpAnyH_ready (rs := [13]) (by kernel_rfl) (by simp) ?_
                  refine AllReadyH.cons rfl (fun K hK => ?_) AllReadyH.nil
                  rw [if_pos (by rfl)]
                  refine wp_put 40 (.tmp 140) (.tmp 139) rfl gr j rfl (.slice (some ⟨gu, 0, none⟩) N cru) rfl hId.hdrs [rowV N (gu, cru, Ru)] rfl Tryd.szL (by rw [List.length_append, List.length_map, HM2.out]; show j + 1 ≤ _; omega) (one_cell1 rfl) ?_
                  intro w6 hu6 hB6
                  have hgwr : gw ≠ gr := fun e => hId.base.2.2.1 e.symm
                  have hW6 := hId.wk.upd hu6 hgwr
                  have cw6 := hW6.cell (k := 0) rfl
                  rw [HM2.out] at cw6
                  have cu6 : w6.cell? ⟨gr, u, none⟩ = some (.slice (some ⟨gu, 0, none⟩) N cru) := hB6.cell (by
                    rw [splice_set1 _ _ _ (by rw [List.length_append, List.length_map, HM2.out]; omega)]
                    by_cases e : j = u
                    · subst e; rw [List.getElem?_set_self (by rw [List.length_append, List.length_map, HM2.out]; omega)]; rfl
                    · rw [List.getElem?_set_ne e, List.getElem?_append_left (by rw [List.length_map, HM2.out]; omega), List.getElem?_map, HRU.out]; rfl)
                  refine hK.out _ _ ⟨cw6, cu6⟩ (fun hHeld => ?_)
                  clear hK K
                  refine wpAnyH_done (by kernel_rfl) ?_ _
                  clear hHeld cu6 cu cw c0 c1 q0
                  go_wp2_with (with_reducible refine wpList_put (o := ⟨none, .store 40 (.tmp 147) (.tmp 146), _, _, _, _⟩) (by with_unfolding_all rfl) 40 (.tmp 147) (.tmp 146) (by with_unfolding_all rfl) gr u (by with_unfolding_all rfl) (.slice (some ⟨g, 0, none⟩) N cr) (by with_unfolding_all rfl) hB6 [rowV N (g, cr, R)] (by with_unfolding_all rfl) (by with_unfolding_all (exact Tryd.szL)) (by with_unfolding_all (rw [splice_set1 _ _ _ (by rw [List.length_append, List.length_map, HM2.out]; omega), List.length_set, List.length_append, List.length_map, HM2.out]; show u + 1 ≤ _; omega)) (by with_unfolding_all (exact one_cell1 rfl)) ?_)
                  intro w7 hu7 hB7
                  rw [swap_hdrs HRU.out HR.out] at hB7
                  have ho7 : Only [gr] wd w7 := (Only.of_upd hu6 (List.mem_singleton.2 rfl)).trans (Only.of_upd hu7 (List.mem_singleton.2 rfl))
                  have hI7 := hId.swap HRU.out HR.out HLU.out HL.out ho7 hB7
                  have hgrT := hId.base.2.2.2.1
                  have hBi7 := hBd.only ho7 (by simp; omega)
                  have hbe7 := hbd.trans (ho7.below (B := S0) (fun k hk => by rw [List.mem_singleton.1 hk]; exact hId.base.1) (Nat.le_trans hBT hszd))
                  have hsz7 := Nat.le_trans hszd ho7.size
                  have hst := elimM_clear HEL.out HUL.out HPV.out HAT.out HL.out HLU.out
                  obtain ⟨M1, hM1⟩ : ∃ Y, swapR M2 u j (gu, cru, Ru) (g, cr, R) = Y := ⟨_, rfl⟩
                  obtain ⟨C1, hC1⟩ : ∃ Y, swapR C2 u j lu l = Y := ⟨_, rfl⟩
                  have hm1 : M1.length = m := by rw [← hM1, swap_len]; exact HM2.out
                  have hat1 : at2 C1 u k ≠ 0 := by
                    have e : at2 C1 u k = at2 C2 j k := by rw [← hC1]; unfold at2; rw [swap_at HLU.out HL.out, HL.out]
                    rw [e, HAT.out]; exact HXZ.out
                  rw [hM1, hC1] at hI7
                  rw [hC1] at hst
                  have HST := Lib.hid hst
                  have HM1 := Lib.hid hm1
                  have HCLR := Lib.hid (clear_any S0 T gw gr N cL u k m J M1 C1 w7 hsz7 hBT hm1 (by omega) hul2 hkN (by have := HNN.out; omega) hat1 hI7)
                  have HBI7 := Lib.hid hBi7
                  clear hst hI7 hBi7 hB7 hB6 hW6 hu6 hu7 ho7 hId hBd hbd hszd hdd hM1 hC1 hm1 hat1 cw6 HB5 HI5
                  go_wp2_with fail
                  (with_reducible refine HCLR.out.mono ?_)
                  rintro e w8 ⟨rfl, hmid, hsz8, hcase⟩
                  clear HCLR
                  have hBi8 : Blk w8 gi 3 (Lr.set k (.int .i64 (-1))) := by
                    unfold Blk
                    rw [hmid.high gi hTi HBI7.out.lt]
                    exact HBI7.out
                  have hbe8 := hbe7.trans hmid.below
                  have HCASE := Lib.hid hcase
                  clear hmid hcase hbe7 hsz7 HBI7
                  go_wp2_with (with_reducible refine wpList_put (o := ⟨none, .store 3 (.tmp 155) (.tmp 154), _, _, _, _⟩) (by with_unfolding_all rfl) 3 (.tmp 155) (.tmp 154) (by with_unfolding_all rfl) gi k (by with_unfolding_all rfl) (.int .i64 (u : Int)) (by with_unfolding_all rfl) hBi8 [Value.int .i64 (u : Int)] (by with_unfolding_all rfl) (by with_unfolding_all (exact Tryd.szI)) (by with_unfolding_all (show k + 1 ≤ _; rw [List.length_set, HLR.out]; omega)) (by with_unfolding_all (exact one_cell1 rfl)) ?_)
                  intro w9 hu9 hB9
                  rw [splice_set1 _ _ _ (by rw [List.length_set, HLR.out]; exact hlt), List.set_set] at hB9
                  have hbe9 := hbe8.trans (hu9.below (B := S0) (Nat.le_trans hBT hTi))
                  have hsz9 : T ≤ w9.heap.size := Nat.le_trans hsz8 (Nat.le_of_eq hu9.size.symm)
                  have hlow := hu9.below (B := T) hTi
                  have HB9 := Lib.hid hB9
                  have hlen : (hs ++ [k]).length = u + 1 := by rw [List.length_append, HUL.out]; rfl
                  have HLE := Lib.hid hlen
                  clear hB9 hu9 hBi8 hbe8 hsz8 hlen
                  rcases HCASE.out with ⟨D, hD, hI8⟩ | ⟨hD, hX8⟩
                  · have hel2 := HST.out
                    rw [hD] at hel2
                    have HE2 := Lib.hid hel2
                    have HI9 := Lib.hid (hI8.keep hlow)
                    clear hel2 hI8 hD hlow HCASE
                    go_wp2
                    go_roundw
                    case rel => exact ⟨k + 1, by omega, by go_num, hbe9, hsz9, .inl ⟨hs ++ [k], M1, D, _, HE2.out, by rw [HLE.out]; go_num, by rw [HLE.out]; omega, HM1.out, HI9.out, by rw [List.length_set]; exact HLR.out, HB9.out, ix_some HIX.out HLT.out (by rw [HLR.out]; exact hlt) HUL.out, uq_add HUQ.out HLT.out⟩⟩
                    case measure => simp [intOf]; omega
                  · have hno : elimM C n = none := elimM_none (c := k + 1) (by rw [HST.out, hD]; rfl) n (by omega)
                    have HNO := Lib.hid hno
                    have HX9 := Lib.hid (hX8.keep hlow)
                    clear hno hX8 hD hlow HCASE
                    go_wp2
                    go_roundw
                    case rel => exact ⟨k + 1, by omega, by go_num, hbe9, hsz9, .inr ⟨HNO.out, ⟨_, rfl⟩, M1, HM1.out, HX9.out⟩⟩
                    case measure => simp [intOf]; omega
              · skip
                obtain rfl : m = j := by omega
                have hmmb : ((m : Int) == (m : Int)) = true := by simp
                have hmm : ¬ (m : Int) < (m : Int) := by omega
                have HPV := Lib.hid (pivot_none (C := C2) (u := u) (c := k) (fun y h1 h2 => HZ.out y h1 (by have := HC2L.out; omega)))
                have hel2 : elimM C (k + 1) = some (C2, hs) := elimM_skip HEL.out (by rw [HUL.out]; exact HPV.out)
                have HE2 := Lib.hid hel2
                clear hel2
                go_wp2
                go_roundw
                case rel => exact ⟨k + 1, by omega, by go_num, hbe5, hsz5, .inl ⟨hs, M2, C2, _, HE2.out, by rw [HUL.out], by rw [HUL.out]; exact hum, HM2.out, HI5.out, by rw [List.length_set]; exact HLR.out, HB5.out, ix_none HIX.out HLT.out (by rw [HLR.out]; exact hlt), HUQ.out⟩⟩
                case measure => simp [intOf]; omega
          · skip
            have hki : (k : Int) < (n : Int) := by omega
            have cE := hX.wk.cell (k := 1) rfl
            have HX := Lib.hid hX
            have hso : solveM C n = .large := by unfold solveM; rw [hno]
            have HSO := Lib.hid hso
            have HBZ := Lib.hid (HS0.out.symm ▸ hbe2 : Below w.heap.size w _)
            clear hX hno hso
            go_wp2
            refine wp_region_held_drew (S := fun w' => w'.cell? ⟨gw, 1, none⟩ = some (.int .i64 17)) (by kernel_rfl) ((HX.out.keep ((below_drew _).mono hsz)).wk.cell (k := 1) rfl) (fun hHeld => ?_)
            have hbd := HBZ.out.trans ((below_drew _).mono (Nat.le_trans (Nat.le_of_eq HS0.out) (Nat.le_trans hBT hsz)))
            refine wpAnyH_take (i := 0) (v := ?vrx1_0) rfl (by kernel_rfl) (by kernel_rfl) (by kernel_rfl) (fun _ _ _ h => h) (Or.inl ⟨by rfl, ?yrx1_0⟩) (by assumption) ?rrx1_0
            case yrx1_0 => intro w hSw; (try dsimp only at hSw); go_simp <;> (try with_reducible rfl)
            (try simp only [List.getElem_toArray, List.getElem_cons_zero, Act.put, List.setIfInBounds_toArray, List.set_cons_zero, List.set_cons_succ])
            refine wpAnyH_take (i := 1) (v := ?vrx1_1) rfl (by kernel_rfl) (by kernel_rfl) (by kernel_rfl) (fun _ _ _ h => h) (Or.inl ⟨by rfl, ?yrx1_1⟩) (by assumption) ?rrx1_1
            case yrx1_1 => intro w hSw; (try dsimp only at hSw); go_simp <;> (try with_reducible rfl)
            (try simp only [List.getElem_toArray, List.getElem_cons_succ, List.getElem_cons_zero, Act.put, List.setIfInBounds_toArray, List.set_cons_zero, List.set_cons_succ])
            refine wpAnyH_take (i := 2) (v := ?vrx1_2) rfl (by kernel_rfl) (by kernel_rfl) (by kernel_rfl) (fun _ _ _ h => h) (Or.inl ⟨by rfl, ?yrx1_2⟩) (by assumption) ?rrx1_2
            case yrx1_2 => intro w hSw; (try dsimp only at hSw); go_simp <;> (try with_reducible rfl)
            (try simp only [List.getElem_toArray, List.getElem_cons_succ, List.getElem_cons_zero, Act.put, List.setIfInBounds_toArray, List.set_cons_zero, List.set_cons_succ])
            refine wpAnyH_take (i := 3) (v := ?vrx1_3) rfl (by kernel_rfl) (by kernel_rfl) (by kernel_rfl) (fun _ _ _ h => h) (Or.inl ⟨by rfl, ?yrx1_3⟩) (by assumption) ?rrx1_3
            case yrx1_3 => intro w hSw; (try dsimp only at hSw); go_simp <;> (try with_reducible rfl)
            (try simp only [List.getElem_toArray, List.getElem_cons_succ, List.getElem_cons_zero, Act.put, List.setIfInBounds_toArray, List.set_cons_zero, List.set_cons_succ])
            refine wpAnyH_take (i := 4) (v := ?vrx1_4) rfl (by kernel_rfl) (by kernel_rfl) (by kernel_rfl) (fun _ _ _ h => h) (Or.inl ⟨by rfl, ?yrx1_4⟩) (by assumption) ?rrx1_4
            case yrx1_4 => intro w hSw; (try dsimp only at hSw); go_simp <;> (try with_reducible rfl)
            (try simp only [List.getElem_toArray, List.getElem_cons_succ, List.getElem_cons_zero, Act.put, List.setIfInBounds_toArray, List.set_cons_zero, List.set_cons_succ])
            refine wpAnyH_take (i := 5) (v := ?vrx1_5) rfl (by kernel_rfl) (by kernel_rfl) (by kernel_rfl) (fun _ _ _ h => h) (Or.inl ⟨by rfl, ?yrx1_5⟩) (by assumption) ?rrx1_5
            case yrx1_5 => intro w hSw; (try dsimp only at hSw); go_simp <;> (try with_reducible rfl)
            (try simp only [List.getElem_toArray, List.getElem_cons_succ, List.getElem_cons_zero, Act.put, List.setIfInBounds_toArray, List.set_cons_zero, List.set_cons_succ])
            refine wpAnyH_take (i := 6) (v := ?vrx1_6) rfl (by kernel_rfl) (by kernel_rfl) (by kernel_rfl) (fun _ _ _ h => h) (Or.inl ⟨by rfl, ?yrx1_6⟩) (by assumption) ?rrx1_6
            case yrx1_6 => intro w hSw; (try dsimp only at hSw); go_simp <;> (try with_reducible rfl)
            (try simp only [List.getElem_toArray, List.getElem_cons_succ, List.getElem_cons_zero, Act.put, List.setIfInBounds_toArray, List.set_cons_zero, List.set_cons_succ])
            refine wpAnyH_done (by kernel_rfl) ?_ _
            clear hHeld
            go_wp2
            go_ret3
            rw [HSO.out]
            exact ⟨hbd, rfl⟩
        · rcases hst with ⟨hs, M2, C2, Lr, hel, hu, hum, hM2, hI, hLr, hBi, hix, huq⟩ | ⟨hno, ⟨u0, rfl⟩, M2, hM2, hX⟩
          · skip
            obtain rfl : n = k := by omega
            have hnn : ¬ (n : Int) < (n : Int) := by omega
            obtain ⟨u, hul⟩ : ∃ u, hs.length = u := ⟨_, rfl⟩
            rw [hul] at hum hu
            subst hu
            have hui0 : (0 : Int) ≤ (u : Int) := by omega
            have cE := hI.wk.cell (k := 1) rfl
            have hC2l := hI.same.symm.trans hM2
            have HC2L := Lib.hid hC2l
            have HEL := Lib.hid hel
            have HUL := Lib.hid hul
            have HLR := Lib.hid hLr
            have HM2 := Lib.hid hM2
            have HI := Lib.hid hI
            have HIX := Lib.hid hix
            have HUQ := Lib.hid huq
            have HBI := Lib.hid hBi
            have HBZ := Lib.hid (HS0.out.symm ▸ hbe2 : Below w.heap.size w _)
            have hnN : n < N := by have := HNN.out; omega
            have hnNi : (n : Int) < (N : Int) := by omega
            have hn0 : (0 : Int) ≤ (n : Int) := by omega
            have hN20 : N ≤ 41 := by have := HNN.out; omega
            obtain ⟨W4, hW4⟩ : ∃ W, W = wr := ⟨wr, rfl⟩
            subst hW4
            have hws : w.heap.size ≤ W4.heap.size := HBZ.out.size
            clear hel hul hLr hM2 hI hix huq hC2l hBi hbe2
            go_wp2
            go_loopw [20] (Fr1 C2 u n m W4) (fun i _ => m - (intOf i).toNat)
            case atStart => exact ⟨u, Nat.le_refl _, hum, rfl, (fun x h1 h2 => absurd h2 (by omega)), Below.refl _ _⟩
            case round =>
              clear cE
              obtain ⟨j, huj, hjm, rfl, hz, hb4⟩ := hrel
              have hj0 : (0 : Int) ≤ (j : Int) := by omega
              have HZ := Lib.hid hz
              have hszr : T ≤ wr.heap.size := Nat.le_trans hsz hb4.size
              have hIr := HI.out.keep (hb4.mono hsz)
              have c0 := hIr.wk.cell (k := 0) rfl
              rw [HM2.out] at c0
              clear hz
              by_cases hjl : j < m
              · skip
                have hji : (j : Int) < (m : Int) := by omega
                obtain ⟨r, hr⟩ : ∃ r, M2[j]? = some r := ⟨_, List.getElem?_eq_getElem (by have := HM2.out; omega)⟩
                obtain ⟨l, hl⟩ : ∃ l, C2[j]? = some l := ⟨_, List.getElem?_eq_getElem (by have := HC2L.out; omega)⟩
                obtain ⟨hll, hlf, hlB⟩ := hIr.rows j r l hr hl
                obtain ⟨d, hx⟩ : ∃ x, l[n]? = some x := ⟨_, List.getElem?_eq_getElem (by omega)⟩
                have hat : at2 C2 j n = d := by unfold at2; rw [hl, Option.bind_some, hx]; rfl
                have c1 := hIr.hdr hr
                obtain ⟨g, cr, R⟩ := r
                unfold rowV at c1
                dsimp only at c1 hlB
                have q0 := hlB.cell (rowR_cell (R := R) (prs_get hx)).1
                have q1 := hlB.cell (rowR_cell (R := R) (prs_get hx)).2
                dsimp only at q0 q1
                have fd := Lib.hid (hlf d (List.mem_of_getElem? hx))
                have HR := Lib.hid hr
                have HL := Lib.hid hl
                have HAT := Lib.hid hat
                have HLL := Lib.hid hll
                have HLF := Lib.hid hlf
                clear hr hl hll hlf hlB hx hat
                go_wp2_with (with_reducible refine wpList_alloc (o := ⟨some 21, .alloc 23, _, _, _, _⟩) (by with_unfolding_all rfl) 23 (by with_unfolding_all rfl) (.agg zC.toArray) zC (by exact Tryd.zeroQ) (by with_unfolding_all rfl) ?_)
                intro g21 w1 hg21 hs1 hb1 B21
                have hl21 : wr.heap.size ≤ g21 := Nat.le_of_eq hg21.out.symm
                have hb1 := hb1.mono (Nat.le_of_eq hg21.out.symm)
                clear hg21 hs1
                go_wp2_with (with_reducible refine wpList_put (o := ⟨none, .store 23 (.tmp 21) (.tmp 182), _, _, _, _⟩) (by with_unfolding_all rfl) 23 (.tmp 21) (.tmp 182) (by with_unfolding_all rfl) g21 0 (by with_unfolding_all rfl) (.agg [Value.int .i64 d.num, Value.int .i64 (d.den : Int)].toArray) (by with_unfolding_all rfl) B21 [Value.int .i64 d.num, Value.int .i64 (d.den : Int)] (by with_unfolding_all rfl) (by with_unfolding_all (exact Tryd.szQ)) (by with_unfolding_all (exact Nat.le_refl 2)) (by with_unfolding_all (exact int_one _ _)) ?_)
                intro w6 hu6 hB6
                rw [splice_all _ _ (by rfl)] at hB6
                have hb6 := hb1.trans (hu6.below (B := wr.heap.size) hl21)
                have hb46 := below_join hb4 hb6
                have m0 := hB6.cell (k := 0) rfl
                have HI6 := Lib.hid (hIr.keep (hb6.mono hszr))
                have hsz6 : T ≤ w6.heap.size := Nat.le_trans hszr hb6.size
                clear hb1 hu6 B21 c0 c1 q0 q1 hIr hb4 hb6 hl21
                by_cases hd0 : d.num = 0
                · rw [hd0] at m0
                  have HD0 := Lib.hid hd0
                  clear hd0
                  go_wp2
                  go_roundw
                  case rel => exact ⟨j + 1, by omega, by omega, by go_num, (fun y h1 h2 => by
                    rcases Nat.lt_or_ge y j with h3 | h3
                    · exact HZ.out y h1 h3
                    · obtain rfl : y = j := by omega
                      rw [HAT.out]; exact Rat.num_eq_zero.1 HD0.out), hb46⟩
                  case measure => simp [intOf]; omega
                · skip
                  have hd0b : (d.num == 0) = false := beq_eq_false_iff_ne.2 hd0
                  have hdz : d ≠ 0 := fun e => hd0 (by rw [e]; rfl)
                  have hpv := pivot_some (C := C2) (u := u) (c := n) (by have := HC2L.out; omega) huj (by rw [HAT.out]; exact hdz) HZ.out
                  rw [← HUL.out] at hpv
                  have HPV := Lib.hid hpv
                  have HDZ := Lib.hid hdz
                  have hwn : IntKind.i64.wrap ((n : Int) + 1) = (n : Int) + 1 := by simp only [IntKind.wrap_i64]; omega
                  have HY0 : Hid (Yl1 d l (n + 1) w6 N (.slice none 0 0) (.int .i64 ((n : Int) + 1)) w6) := (⟨0, n + 1, [], rfl, by omega, rfl, rfl, rfl, World.ownsRow_nil _ _ _ _, Below.refl _ _⟩ : Yl1 d l (n + 1) w6 N (.slice none 0 0) (.int .i64 ((n : Int) + 1)) w6)
                  clear hpv hdz
                  go_wp2
                  go_loopw [22, 23] (Yl1 d l (n + 1) w6 N) (fun _ i _ => N - (intOf i).toNat)
                  case atStart => exact HY0.out
                  case round =>
                    clear HY0 m0
                    obtain ⟨q, e, D, heq, heN, rfl, hD, hop, hown, hb7⟩ := hrel
                    have hq20 : q ≤ 41 := by omega
                    have he0 : (0 : Int) ≤ (e : Int) := by omega
                    have hszq : T ≤ wr.heap.size := Nat.le_trans hsz6 hb7.size
                    have hIq := HI6.out.keep (hb7.mono hsz6)
                    have c0 := hIq.wk.cell (k := 0) rfl
                    have c1 := hIq.hdr HR.out
                    rw [HM2.out] at c0
                    unfold rowV at c1
                    dsimp only at c1
                    obtain ⟨Ay, cy, rfl, _⟩ := own_shape hown
                    have HEQ := Lib.hid heq
                    clear heq
                    by_cases hel : e < N
                    · skip
                      have hei : (e : Int) < (N : Int) := by omega
                      obtain ⟨x, hx⟩ : ∃ x, l[e]? = some x := ⟨_, List.getElem?_eq_getElem (by have := HLL.out; omega)⟩
                      have hxd : (l.drop (n + 1))[q]? = some x := by rw [List.getElem?_drop, ← HEQ.out]; exact hx
                      have hrow := (hIq.rows j _ l HR.out HL.out).2.2
                      have hq : wr.rangeAt g (e * 2) (qC x) := rowR_range hrow (prs_get hx)
                      have fx := HLF.out x (List.mem_of_getElem? hx)
                      obtain ⟨N1, D1, k1, h1, g1⟩ := ansQ_two (x / d)
                      have x1 := fun w => rdiv_any x d w fx fd.out
                      rw [show divE x d = ansQ (x / d) from if_neg HDZ.out, h1] at x1
                      obtain ⟨X, hX⟩ : ∃ X, qC x = X := ⟨_, rfl⟩
                      obtain ⟨Y, hY⟩ : ∃ X, qC d = X := ⟨_, rfl⟩
                      have hzX := Tryd.szQl X (by rw [← hX]; rfl)
                      have hzY := Tryd.szQl Y (by rw [← hY]; rfl)
                      have hr21 : wr.rangeAt g21 0 (qC d) := blk_range (hB6.next hb7 hB6.lt)
                      rw [hX, hY] at x1
                      rw [hX] at hq
                      rw [hY] at hr21
                      have HS : Hid (∀ w', Below wr.heap.size wr w' → w'.cell? ⟨gw, 0, none⟩ = some (.slice (some ⟨gr, 0, none⟩) m cL) ∧ w'.cell? ⟨gr, j, none⟩ = some (.slice (some ⟨g, 0, none⟩) N cr) ∧ w'.rangeAt g (e * 2) X ∧ w'.rangeAt g21 0 Y) :=
                        (fun w' h => ⟨cellq_below h c0, cellq_below h c1, range_below hq h, range_below hr21 h⟩ : ∀ w', Below wr.heap.size wr w' → w'.cell? ⟨gw, 0, none⟩ = some (.slice (some ⟨gr, 0, none⟩) m cL) ∧ w'.cell? ⟨gr, j, none⟩ = some (.slice (some ⟨g, 0, none⟩) N cr) ∧ w'.rangeAt g (e * 2) X ∧ w'.rangeAt g21 0 Y)
                      have X1 := Lib.hid x1
                      have G1 := Lib.hid g1
                      have HST := Lib.hid (opTo_step hD hxd hop)
                      have HDD := Lib.hid hD
                      have HOW := Lib.hid hown
                      clear hX hY x1 h1 g1 hop hrow hq hr21 fx hx hxd hD hown hIq
                      go_wp2
                      have hdd := below_drew wr
                      refine wp_region_held_drew (S := fun w' => w'.cell? ⟨gw, 0, none⟩ = some (.slice (some ⟨gr, 0, none⟩) m cL) ∧ w'.cell? ⟨gr, j, none⟩ = some (.slice (some ⟨g, 0, none⟩) N cr) ∧ w'.rangeAt g (e * 2) X ∧ w'.rangeAt g21 0 Y) (by kernel_rfl) (HS.out _ hdd) (fun hHeld => ?_)
                      generalize wr.drew = wd at hdd hHeld ⊢
                      refine wpAnyH_take (i := 0) (v := ?vyb_0) rfl (by kernel_rfl) (by kernel_rfl) (by kernel_rfl) (fun _ _ _ h => h) (Or.inl ⟨by rfl, ?yyb_0⟩) (by assumption) ?ryb_0
                      case yyb_0 => intro w hSw; (try dsimp only at hSw); go_simp <;> (try with_reducible rfl)
                      (try simp only [List.getElem_toArray, List.getElem_cons_zero, Act.put, List.setIfInBounds_toArray, List.set_cons_zero, List.set_cons_succ])
                      refine wpAnyH_take (i := 1) (v := ?vyb_1) rfl (by kernel_rfl) (by kernel_rfl) (by kernel_rfl) (fun _ _ _ h => h) (Or.inl ⟨by rfl, ?yyb_1⟩) (by assumption) ?ryb_1
                      case yyb_1 => intro w hSw; (try dsimp only at hSw); go_simp <;> (try with_reducible rfl)
                      (try simp only [List.getElem_toArray, List.getElem_cons_succ, List.getElem_cons_zero, Act.put, List.setIfInBounds_toArray, List.set_cons_zero, List.set_cons_succ])
                      refine wpAnyH_take (i := 2) (v := ?vyb_2) rfl (by kernel_rfl) (by kernel_rfl) (by kernel_rfl) (fun _ _ _ h => h) (Or.inl ⟨by rfl, ?yyb_2⟩) (by assumption) ?ryb_2
                      case yyb_2 => intro w hSw; (try dsimp only at hSw); go_simp <;> (try with_reducible rfl)
                      (try simp only [List.getElem_toArray, List.getElem_cons_succ, List.getElem_cons_zero, Act.put, List.setIfInBounds_toArray, List.set_cons_zero, List.set_cons_succ])
                      refine wpAnyH_take (i := 3) (v := ?vyb_3) rfl (by kernel_rfl) (by kernel_rfl) (by kernel_rfl) (fun _ _ _ h => h) (Or.inl ⟨by rfl, ?yyb_3⟩) (by assumption) ?ryb_3
                      case yyb_3 => intro w hSw; (try dsimp only at hSw); go_simp <;> (try with_reducible rfl)
                      (try simp only [List.getElem_toArray, List.getElem_cons_succ, List.getElem_cons_zero, Act.put, List.setIfInBounds_toArray, List.set_cons_zero, List.set_cons_succ])
                      refine wpAnyH_take (i := 4) (v := ?vyb_4) rfl (by kernel_rfl) (by kernel_rfl) (by kernel_rfl) (fun _ _ _ h => h) (Or.inl ⟨by rfl, ?yyb_4⟩) (by assumption) ?ryb_4
                      case yyb_4 => intro w hSw; (try dsimp only at hSw); go_simp <;> (try with_reducible rfl)
                      (try simp only [List.getElem_toArray, List.getElem_cons_succ, List.getElem_cons_zero, Act.put, List.setIfInBounds_toArray, List.set_cons_zero, List.set_cons_succ])
                      refine wpAnyH_take (i := 5) (v := ?vyb_5) rfl (by kernel_rfl) (by kernel_rfl) (by kernel_rfl) (fun _ _ _ h => h) (Or.inl ⟨by rfl, ?yyb_5⟩) (by assumption) ?ryb_5
                      case yyb_5 => intro w hSw; (try dsimp only at hSw); go_simp <;> (try with_reducible rfl)
                      (try simp only [List.getElem_toArray, List.getElem_cons_succ, List.getElem_cons_zero, Act.put, List.setIfInBounds_toArray, List.set_cons_zero, List.set_cons_succ])
                      refine wpAnyH_take (i := 6) (v := ?vyb_6) rfl (by kernel_rfl) (by kernel_rfl) (by kernel_rfl) (fun _ _ _ h => h) (Or.inl ⟨by rfl, ?yyb_6⟩) (by assumption) ?ryb_6
                      case yyb_6 => intro w hSw; (try dsimp only at hSw); go_simp <;> (try with_reducible rfl)
                      (try simp only [List.getElem_toArray, List.getElem_cons_succ, List.getElem_cons_zero, Act.put, List.setIfInBounds_toArray, List.set_cons_zero, List.set_cons_succ])
                      refine wpAnyH_take (i := 7) (v := ?vyb_7) rfl (by kernel_rfl) (by kernel_rfl) (by kernel_rfl) (fun _ _ _ h => h) (Or.inl ⟨by rfl, ?yyb_7⟩) (by assumption) ?ryb_7
                      case yyb_7 => intro w hSw; (try dsimp only at hSw); go_simp <;> (try with_reducible rfl)
                      (try simp only [List.getElem_toArray, List.getElem_cons_succ, List.getElem_cons_zero, Act.put, List.setIfInBounds_toArray, List.set_cons_zero, List.set_cons_succ])
                      refine wpAnyH_take (i := 8) (v := ?vyb_8) rfl (by kernel_rfl) (by kernel_rfl) (by kernel_rfl) (fun _ _ _ h => h) (Or.inl ⟨by rfl, ?yyb_8⟩) (by assumption) ?ryb_8
                      case yyb_8 => intro w hSw; (try dsimp only at hSw); go_simp <;> (try with_reducible rfl)
                      (try simp only [List.getElem_toArray, List.getElem_cons_succ, List.getElem_cons_zero, Act.put, List.setIfInBounds_toArray, List.set_cons_zero, List.set_cons_succ])
                      refine' wpAnyH_take (i := 9) (v := _) rfl (by kernel_rfl) (by kernel_rfl) (by kernel_rfl) (fun _ _ _ h => h) (yieldsIf_load_mid (by rfl) _ _ (by rfl) _ _ (by rfl) _ _ ?Syb_9 ?uyb_9 ?dyb_9 ?iyb_9) (by assumption) ?ryb_9
                      case Syb_9 => exact (by intro w h; exact h.2.2.1)
                      case uyb_9 => exact Tryd.underlying23
                      case dyb_9 => rfl
                      case iyb_9 => exact hzX
                      (try simp only [List.getElem_toArray, List.getElem_cons_succ, List.getElem_cons_zero, Act.put, List.setIfInBounds_toArray, List.set_cons_zero, List.set_cons_succ])
                      refine' wpAnyH_take (i := 10) (v := _) rfl (by kernel_rfl) (by kernel_rfl) (by kernel_rfl) (fun _ _ _ h => h) (yieldsIf_load_mid (by rfl) _ _ (by rfl) _ _ (by rfl) _ _ ?Syb_10 ?uyb_10 ?dyb_10 ?iyb_10) (by assumption) ?ryb_10
                      case Syb_10 => exact (by intro w h; exact h.2.2.2)
                      case uyb_10 => exact Tryd.underlying23
                      case dyb_10 => rfl
                      case iyb_10 => exact hzY
                      (try simp only [List.getElem_toArray, List.getElem_cons_succ, List.getElem_cons_zero, Act.put, List.setIfInBounds_toArray, List.set_cons_zero, List.set_cons_succ])
                      apply rest2
                      · intro hrest
                        refine wpAnyH_ready (rs := [11, 15]) (by kernel_rfl) (by simp) ?_
                        refine AllReadyH.cons rfl (fun K hK => ?_) (AllReadyH.cons rfl (fun K hK => ?_) AllReadyH.nil)
                        · skip
                          go_simp
                          go_wp2_with fail
                          (with_reducible refine (X1.out _).mono ?_)
                          rintro e wa ⟨rfl, hba⟩
                          have hka := below_join hdd hba
                          refine hK.out _ _ (HS.out _ hka) (fun hHeld => ?_)
                          clear hK K hba
                          refine wpAnyH_take (i := 12) (v := ?vyb_x12) rfl (by kernel_rfl) (by kernel_rfl) (by kernel_rfl) (fun _ _ _ h => h) (Or.inl ⟨by rfl, ?yyb_x12⟩) (by assumption) ?ryb_x12
                          case yyb_x12 => intro w hSw; (try dsimp only at hSw); go_simp <;> (try with_reducible rfl)
                          (try simp only [List.getElem_toArray, List.getElem_cons_succ, List.getElem_cons_zero, Act.put, List.setIfInBounds_toArray, List.set_cons_zero, List.set_cons_succ])
                          refine wpAnyH_take (i := 13) (v := ?vyb_x13) rfl (by kernel_rfl) (by kernel_rfl) (by kernel_rfl) (fun _ _ _ h => h) (Or.inl ⟨by rfl, ?yyb_x13⟩) (by assumption) ?ryb_x13
                          case yyb_x13 => intro w hSw; (try dsimp only at hSw); go_simp <;> (try with_reducible rfl)
                          (try simp only [List.getElem_toArray, List.getElem_cons_succ, List.getElem_cons_zero, Act.put, List.setIfInBounds_toArray, List.set_cons_zero, List.set_cons_succ])
                          refine wpAnyH_take (i := 14) (v := ?vyb_x14) rfl (by kernel_rfl) (by kernel_rfl) (by kernel_rfl) (fun _ _ _ h => h) (Or.inl ⟨by rfl, ?yyb_x14⟩) (by assumption) ?ryb_x14
                          case yyb_x14 => intro w hSw; (try dsimp only at hSw); go_simp <;> (try with_reducible rfl)
                          (try simp only [List.getElem_toArray, List.getElem_cons_succ, List.getElem_cons_zero, Act.put, List.setIfInBounds_toArray, List.set_cons_zero, List.set_cons_succ])
                          refine wpAnyH_ready (rs := [15]) (by kernel_rfl) (by simp) ?_
                          refine AllReadyH.cons rfl (fun K hK => ?_) AllReadyH.nil
                          rw [if_pos (by rfl)]
                          refine wp_allocz 23 rfl (.agg zC.toArray) zC Tryd.zeroQ rfl ?_
                          intro g24 wb hg24 hsx hbx B24
                          have hbx := hbx.mono (Nat.le_of_eq hg24.out.symm)
                          have hkwb := below_join hka hbx
                          have hle24 : wr.heap.size ≤ g24 := by have := hka.size; have := hg24.out; omega
                          clear hg24 hsx
                          refine hK.out _ _ (HS.out _ hkwb) (fun hHeld => ?_)
                          clear hK K hbx hka
                          have F1 := B24
                          have F2 := hkwb
                          have F3 := hle24
                          have F4 := hHeld
                          revert F1 F2 F3 F4
                          exact hrest g24 wb
                        · skip
                          rw [if_pos (by rfl)]
                          refine wp_allocz 23 rfl (.agg zC.toArray) zC Tryd.zeroQ rfl ?_
                          intro g24 wb hg24 hsx hbx B24
                          have hbx := hbx.mono (Nat.le_of_eq hg24.out.symm)
                          have hkwb := below_join hdd hbx
                          have hle24 : wr.heap.size ≤ g24 := by have := hdd.size; have := hg24.out; omega
                          clear hg24 hsx
                          refine hK.out _ _ (HS.out _ hkwb) (fun hHeld => ?_)
                          clear hK K hbx
                          refine wpAnyH_ready (rs := [11]) (by kernel_rfl) (by simp) ?_
                          refine AllReadyH.cons rfl (fun K hK => ?_) AllReadyH.nil
                          go_simp
                          go_wp2_with fail
                          (with_reducible refine (X1.out _).mono ?_)
                          rintro e wa ⟨rfl, hba⟩
                          have hka := below_join hkwb hba
                          have B24 := B24.next hba B24.lt
                          refine hK.out _ _ (HS.out _ hka) (fun hHeld => ?_)
                          clear hK K hba hkwb
                          refine wpAnyH_take (i := 12) (v := ?vyb_y12) rfl (by kernel_rfl) (by kernel_rfl) (by kernel_rfl) (fun _ _ _ h => h) (Or.inl ⟨by rfl, ?yyb_y12⟩) (by assumption) ?ryb_y12
                          case yyb_y12 => intro w hSw; (try dsimp only at hSw); go_simp <;> (try with_reducible rfl)
                          (try simp only [List.getElem_toArray, List.getElem_cons_succ, List.getElem_cons_zero, Act.put, List.setIfInBounds_toArray, List.set_cons_zero, List.set_cons_succ])
                          refine wpAnyH_take (i := 13) (v := ?vyb_y13) rfl (by kernel_rfl) (by kernel_rfl) (by kernel_rfl) (fun _ _ _ h => h) (Or.inl ⟨by rfl, ?yyb_y13⟩) (by assumption) ?ryb_y13
                          case yyb_y13 => intro w hSw; (try dsimp only at hSw); go_simp <;> (try with_reducible rfl)
                          (try simp only [List.getElem_toArray, List.getElem_cons_succ, List.getElem_cons_zero, Act.put, List.setIfInBounds_toArray, List.set_cons_zero, List.set_cons_succ])
                          refine wpAnyH_take (i := 14) (v := ?vyb_y14) rfl (by kernel_rfl) (by kernel_rfl) (by kernel_rfl) (fun _ _ _ h => h) (Or.inl ⟨by rfl, ?yyb_y14⟩) (by assumption) ?ryb_y14
                          case yyb_y14 => intro w hSw; (try dsimp only at hSw); go_simp <;> (try with_reducible rfl)
                          (try simp only [List.getElem_toArray, List.getElem_cons_succ, List.getElem_cons_zero, Act.put, List.setIfInBounds_toArray, List.set_cons_zero, List.set_cons_succ])
                          have F1 := B24
                          have F2 := hka
                          have F3 := hle24
                          have F4 := hHeld
                          revert F1 F2 F3 F4
                          exact hrest g24 wa
                      intro g24 wb B24 hkb hle24 hHeld
                      refine wpAnyH_ready (rs := [16]) (by kernel_rfl) (by simp) ?_
                      refine AllReadyH.cons rfl (fun K hK => ?_) AllReadyH.nil
                      rw [if_pos (by rfl)]
                      refine wp_put 23 (.tmp 24) (.tmp 213) rfl g24 0 rfl (.agg [Value.int .i64 N1, Value.int .i64 D1].toArray) rfl B24 [Value.int .i64 N1, Value.int .i64 D1] rfl Tryd.szQ (Nat.le_refl 2) (int_one _ _) ?_
                      intro wc hux hBx
                      rw [splice_all _ _ (by rfl)] at hBx
                      clear B24
                      have B24 := hBx
                      have hkwc := hkb.trans (hux.below (B := wr.heap.size) hle24)
                      refine hK.out _ _ (HS.out _ hkwc) (fun hHeld => ?_)
                      clear hK K hux hBx hkb hdd
                      refine wpAnyH_take (i := 17) (v := ?vyb_z17) rfl (by kernel_rfl) (by kernel_rfl) (by kernel_rfl) (fun _ _ _ h => h) (Or.inl ⟨by rfl, ?yyb_z17⟩) (by assumption) ?ryb_z17
                      case yyb_z17 => intro w hSw; (try dsimp only at hSw); go_simp <;> (try with_reducible rfl)
                      (try simp only [List.getElem_toArray, List.getElem_cons_succ, List.getElem_cons_zero, Act.put, List.setIfInBounds_toArray, List.set_cons_zero, List.set_cons_succ])
                      refine wpAnyH_done (by kernel_rfl) ?_ _
                      clear hHeld HS X1 hzX hzY c0 c1
                      have how := own_only (L := []) HOW.out (Only.of_below hkwc) (fun k hk => by cases hk)
                      have hb8 := below_join hb7 hkwc
                      have hsz8 := hb8.size
                      have HHO := Lib.hid how
                      have z0 := B24.cell (k := 0) rfl
                      have z1 := B24.cell (k := 1) rfl
                      clear how HOW hb7 hkwc hszq
                      rcases G1.out with ⟨f1, rfl, rfl, rfl⟩ | ⟨f1, rfl⟩
                      · have hstp := HST.out
                        rw [okQ_yes f1] at hstp
                        have HS2 := Lib.hid hstp
                        obtain ⟨X0, hX0⟩ : ∃ Z, (x / d).num = Z := ⟨_, rfl⟩
                        obtain ⟨X1, hX1⟩ : ∃ Z, ((x / d).den : Int) = Z := ⟨_, rfl⟩
                        have hx2 : rowC D ++ [Value.int .i64 X0, Value.int .i64 X1] = rowC (D ++ [x / d]) := by rw [rowC_append, ← hX0, ← hX1]; rfl
                        rw [hX0] at z0
                        rw [hX1] at z1
                        have HX2 := Lib.hid hx2
                        clear hstp hX0 hX1 hx2 B24
                        go_wp2_with (with_reducible refine wpList_rowQ (o := ⟨some 220, .buildSlice 40 1 #[(0, .tmp 219)], _, _, _, _⟩) (by with_unfolding_all rfl) (.tmp 219) (by with_unfolding_all rfl) X0 X1 (by with_unfolding_all rfl) ?_)
                        intro gj wi hgj hbi hBj
                        have hoi := own_only (L := []) HHO.out (Only.of_below hbi) (fun k hk => by cases hk)
                        have hb9 := below_join hb8 hbi
                        have hszi := hb9.size
                        clear hgj hbi hb8 z0 z1 hsz8
                        go_wp2_with (with_reducible refine wpList_appQ (o := ⟨some 221, .call ⟨.builtin .append, #[.tmp 218, .tmp 220], #[40, 40]⟩, _, _, _, _⟩) (by with_unfolding_all rfl) (.tmp 218) (.tmp 220) (by with_unfolding_all rfl) w6.heap.size (.slice Ay q cy) q _ (by with_unfolding_all rfl) hoi gj X0 X1 (by with_unfolding_all rfl) hBj (by omega) hszi ?_)
                        intro v8 w8 hown8 hgr8 _
                        have hbq := hb9.trans (below_grown hgr8 (fun g hg => (own_base hoi g hg).1) hszi)
                        rw [HX2.out] at hown8
                        have HO8 := Lib.hid hown8
                        clear hown8 hgr8 hoi hBj hb9
                        go_wp2
                        go_roundw
                        case rel => exact ⟨q + 1, e + 1, D ++ [x / d], by rw [HEQ.out]; omega, by omega, by go_num, by rw [List.length_append, HDD.out]; rfl, by rw [HS2.out]; rfl, HO8.out, hbq⟩
                        case measure => simp [intOf]; omega
                      · have hstp := HST.out
                        rw [okQ_no f1] at hstp
                        have hso := solve_big HEL.out HPV.out HL.out HAT.out (opTo_fell hstp)
                        have HSO := Lib.hid hso
                        have hbz := HBZ.out.trans ((below_join hb46 hb8).mono hws)
                        clear hstp hso z0 z1 B24
                        go_wp2
                        go_ret3
                        rw [HSO.out]
                        exact ⟨hbz, rfl⟩
                    · obtain rfl : N = e := by omega
                      have hee : ¬ (N : Int) < (N : Int) := by omega
                      have hqm : q = m := by have := HNN.out; have := HEQ.out; omega
                      subst hqm
                      rw [List.take_of_length_le (by rw [List.length_drop, HLL.out]; have := HNN.out; omega)] at hop
                      have hso := solve_marks HEL.out HPV.out HL.out HAT.out hop
                      have hyf := opTo_fits (fun _ _ _ h => okQ_fits h) (l.drop (n + 1)) 0 D hop
                      have hcell := psAt_own hown
                      obtain ⟨gy, Ry, rfl, hgy, _, hBy⟩ := own_lies hown hm0
                      have hbz := HBZ.out.trans ((below_join hb46 hb7).mono hws)
                      have hgw : w.heap.size ≤ gy := Nat.le_trans (Nat.le_trans hws hb46.size) hgy
                      have HBY := Lib.hid hBy
                      have HSO := Lib.hid hso
                      have HYF := Lib.hid hyf
                      have HDD := Lib.hid hD
                      clear hso hyf hcell hBy hD hop hown hIq
                      go_wp2
                      go_ret3
                      rw [HSO.out]
                      exact ⟨hbz, gy, 0, cy, rfl, hgw, HDD.out, HYF.out, fun j u hu => by
                        rw [Nat.zero_add]
                        exact HBY.out.cell (by rw [List.getElem?_append_left (List.getElem?_eq_some_iff.1 hu).1]; exact hu)⟩
              · skip
                obtain rfl : m = j := by omega
                have hmm : ¬ (m : Int) < (m : Int) := by omega
                have hso := solve_num HEL.out (by rw [HUL.out]; exact pivot_none (C := C2) (u := u) (c := n) (fun y h1 h2 => HZ.out y h1 (by have := HC2L.out; omega)))
                have HNUM := Lib.hid (fun (c : Nat) (hc : c < n) => ix_num (C := C2) HIX.out HUQ.out hc)
                have hfit := setTo_fits (C := C2) (n := n) (fun i => hIr.at2_fits i) hs 0 (List.replicate n 0) (fun y hy => by rw [(List.mem_replicate.1 hy).2]; exact fits_zero)
                have hlenS : (setTo C2 n 0 hs (List.replicate n 0)).length = n := by rw [setTo_length, List.length_replicate]
                obtain ⟨S, hS⟩ : ∃ S, setTo C2 n 0 hs (List.replicate n 0) = S := ⟨_, rfl⟩
                rw [hS] at hso hfit hlenS HNUM
                have HSO := Lib.hid hso
                have HFT := Lib.hid hfit
                have HLS := Lib.hid hlenS
                have HI4 := Lib.hid hIr
                have HBI4 := Lib.hid (HBI.out.next hb4 HBI.out.lt)
                clear hso hfit hlenS hS hIr c0
                go_wp2_with (with_reducible refine wpList_makeQ (o := ⟨some 224, .makeSlice 40 (.tmp 223) (.tmp 223), _, _, _, _⟩) (by with_unfolding_all rfl) (.tmp 223) (.tmp 223) (by with_unfolding_all rfl) n (by omega) (by with_unfolding_all rfl) (by with_unfolding_all rfl) ?_)
                intro gx w8 Lx hgx hb8 hLx hBx
                have hlx : wr.heap.size ≤ gx := Nat.le_of_eq hgx.out.symm
                have HI8 := Lib.hid (HI4.out.keep (hb8.mono hszr))
                have HBI8 := Lib.hid (HBI4.out.next hb8 HBI4.out.lt)
                have hsz8 : T ≤ w8.heap.size := Nat.le_trans hszr hb8.size
                have hTx : T ≤ gx := Nat.le_trans hszr hlx
                have hgix : gi ≠ gx := by have := HBI4.out.lt; omega
                have hbz := HBZ.out.trans ((below_join hb4 hb8).mono hws)
                have hw8 : w.heap.size ≤ gx := Nat.le_trans (Nat.le_trans hws hb4.size) hlx
                have HN0 : Hid (Nu1 S n gx wr (.int .i64 0) w8) := (⟨0, Lx, Nat.zero_le _, rfl, by rw [hLx, Nat.sub_zero], hBx, hb8⟩ : Nu1 S n gx wr (.int .i64 0) w8)
                clear hgx hLx hBx hb8
                obtain ⟨W6, hW6⟩ : ∃ W, W = wr := ⟨wr, rfl⟩
                subst hW6
                have hw6 : w.heap.size ≤ W6.heap.size := Nat.le_trans hws hb4.size
                have hbz6 := HBZ.out.trans (hb4.mono hws)
                go_wp2
                go_loopw [27] (Nu1 S n gx W6) (fun i _ => n - (intOf i).toNat)
                case atStart => exact HN0.out
                case round =>
                  clear HN0
                  obtain ⟨c2, Jx, hc, rfl, hJx, hBx, hb9⟩ := hrel
                  have hc0 : (0 : Int) ≤ (c2 : Int) := by omega
                  by_cases hcn : c2 < n
                  · skip
                    have hci : (c2 : Int) < (n : Int) := by omega
                    have hcl : (rowC (S.take c2)).length = c2 * 2 := by rw [rowC_length, List.length_take, HLS.out]; omega
                    have HCL := Lib.hid hcl
                    have hlen : c2 * 2 + 2 ≤ (rowC (S.take c2) ++ Jx).length := by rw [List.length_append, hcl, hJx]; omega
                    have HLE := Lib.hid hlen
                    clear hlen hcl
                    go_wp2_with (first | (with_reducible refine wpList_build (o := ⟨some 232, .build 23 #[(1, .const (.int .i64 1))], _, _, _, _⟩) (by with_unfolding_all rfl) 23 #[(1, .const (.int .i64 1))] (by with_unfolding_all rfl) #[(1, .int .i64 1)] (by with_unfolding_all rfl) (.agg [Value.int .i64 0, Value.int .i64 1].toArray) (by with_unfolding_all exact fun w => run_buildQ1 w) ?_) | (with_reducible refine wpList_put (o := ⟨none, .store 23 (.tmp 233) (.tmp 232), _, _, _, _⟩) (by with_unfolding_all rfl) 23 (.tmp 233) (.tmp 232) (by with_unfolding_all rfl) gx (c2 * 2) (by with_unfolding_all rfl) (.agg [Value.int .i64 0, Value.int .i64 1].toArray) (by with_unfolding_all rfl) hBx [Value.int .i64 0, Value.int .i64 1] (by with_unfolding_all rfl) (by with_unfolding_all (exact Tryd.szQ)) (by with_unfolding_all (exact HLE.out)) (by with_unfolding_all (exact int_one _ _)) ?_))
                    intro wa hua hBa
                    rw [splice_next _ _ _ _ _ HCL.out (by omega)] at hBa
                    have hba := hb9.trans (hua.below (B := W6.heap.size) hlx)
                    have hBia : Blk wa gi 3 Lr := (HBI4.out.next hb9 HBI4.out.lt).upd hua hgix
                    have hIa := HI4.out.keep (hba.mono hszr)
                    clear hua hBx hb9 HLE
                    rcases HNUM.out c2 hcn with ⟨i, hi, hLi, hSc⟩ | ⟨hLi, hSc⟩
                    · have ci := hBia.cell hLi
                      have hi0 : (0 : Int) ≤ (i : Int) := by omega
                      have hib : decide ((0 : Int) ≤ (i : Int)) = true := decide_eq_true hi0
                      have him : i < m := by have := HUL.out; omega
                      have himi : (i : Int) < (m : Int) := by omega
                      obtain ⟨r, hr⟩ : ∃ r, M2[i]? = some r := ⟨_, List.getElem?_eq_getElem (by have := HM2.out; omega)⟩
                      obtain ⟨l, hl⟩ : ∃ l, C2[i]? = some l := ⟨_, List.getElem?_eq_getElem (by have := HC2L.out; omega)⟩
                      obtain ⟨hll, hlf, hlB⟩ := hIa.rows i r l hr hl
                      obtain ⟨x, hx⟩ : ∃ x, l[n]? = some x := ⟨_, List.getElem?_eq_getElem (by omega)⟩
                      have hat : at2 C2 i n = x := by unfold at2; rw [hl, Option.bind_some, hx]; rfl
                      rw [hat] at hSc
                      have c1 := hIa.hdr hr
                      have c0 := hIa.wk.cell (k := 0) rfl
                      rw [HM2.out] at c0
                      obtain ⟨g, cr, R⟩ := r
                      unfold rowV at c1
                      dsimp only at c1 hlB
                      have hgT := (hIa.apart i _ hr).2.2.2
                      dsimp only at hgT
                      have hq : wa.rangeAt g (n * 2) (qC x) := rowR_range hlB (prs_get hx)
                      obtain ⟨X, hX⟩ : ∃ X, qC x = X := ⟨_, rfl⟩
                      have hXl : X.length = 2 := by rw [← hX]; rfl
                      have hX1 : ∀ u ∈ X, u.oneCell' = true := by rw [← hX]; exact int_one _ _
                      have hzX := Tryd.szQl X hXl
                      rw [hX] at hq
                      have HXX := Lib.hid hX
                      have HSC := Lib.hid hSc
                      have hgrT := hIa.base.2.2.2.1
                      have hgwT := hIa.base.2.2.2.2
                      have hzx : rowC (S.take c2) ++ [Value.int .i64 0, Value.int .i64 1] ++ Jx.drop 2 = rowC (S.take c2) ++ ([Value.int .i64 0, Value.int .i64 1] ++ Jx.drop 2) := List.append_assoc ..
                      rw [hzx] at hBa
                      have HS : Hid (∀ w', Below wa.heap.size wa w' → w'.cell? ⟨gw, 0, none⟩ = some (.slice (some ⟨gr, 0, none⟩) m cL) ∧ w'.cell? ⟨gi, c2, none⟩ = some (.int .i64 (i : Int)) ∧ w'.cell? ⟨gr, i, none⟩ = some (.slice (some ⟨g, 0, none⟩) N cr) ∧ w'.rangeAt g (n * 2) X) :=
                        (fun w' h => ⟨cellq_below h c0, cellq_below h ci, cellq_below h c1, range_below hq h⟩ : ∀ w', Below wa.heap.size wa w' → w'.cell? ⟨gw, 0, none⟩ = some (.slice (some ⟨gr, 0, none⟩) m cL) ∧ w'.cell? ⟨gi, c2, none⟩ = some (.int .i64 (i : Int)) ∧ w'.cell? ⟨gr, i, none⟩ = some (.slice (some ⟨g, 0, none⟩) N cr) ∧ w'.rangeAt g (n * 2) X)
                      have HHQ := Lib.hid hq
                      have hBiaL := Lib.hid hBia
                      have HIA := Lib.hid hIa
                      have HRR := Lib.hid hr
                      have HLI := Lib.hid hLi
                      clear hr hl hll hlf hlB hx hat hX hSc hLi hzx hq hBia hIa
                      go_wp2
                      have hdd := below_drew wa
                      have hBd := hBa.next hdd hBa.lt
                      have hbd := hba.trans (hdd.mono hba.size)
                      have hId := HIA.out.keep (hdd.mono (Nat.le_trans hszr hba.size))
                      have hBid := hBiaL.out.next hdd hBiaL.out.lt
                      have hqd := range_below HHQ.out hdd
                      refine wp_region_held_drew (S := fun w' => w'.cell? ⟨gw, 0, none⟩ = some (.slice (some ⟨gr, 0, none⟩) m cL) ∧ w'.cell? ⟨gi, c2, none⟩ = some (.int .i64 (i : Int)) ∧ w'.cell? ⟨gr, i, none⟩ = some (.slice (some ⟨g, 0, none⟩) N cr) ∧ w'.rangeAt g (n * 2) X) (by kernel_rfl) (HS.out _ hdd) (fun hHeld => ?_)
                      clear c0 ci c1 HS hba hBa
                      generalize wa.drew = wd at hdd hBd hbd hId hBid hqd hHeld ⊢
                      refine wpAnyH_take (i := 0) (v := ?vnb_0) rfl (by kernel_rfl) (by kernel_rfl) (by kernel_rfl) (fun _ _ _ h => h) (Or.inl ⟨by rfl, ?ynb_0⟩) (by assumption) ?rnb_0
                      case ynb_0 => intro w hSw; (try dsimp only at hSw); go_simp <;> (try with_reducible rfl)
                      (try simp only [List.getElem_toArray, List.getElem_cons_zero, Act.put, List.setIfInBounds_toArray, List.set_cons_zero, List.set_cons_succ])
                      refine wpAnyH_take (i := 1) (v := ?vnb_1) rfl (by kernel_rfl) (by kernel_rfl) (by kernel_rfl) (fun _ _ _ h => h) (Or.inl ⟨by rfl, ?ynb_1⟩) (by assumption) ?rnb_1
                      case ynb_1 => intro w hSw; (try dsimp only at hSw); go_simp <;> (try with_reducible rfl)
                      (try simp only [List.getElem_toArray, List.getElem_cons_succ, List.getElem_cons_zero, Act.put, List.setIfInBounds_toArray, List.set_cons_zero, List.set_cons_succ])
                      refine wpAnyH_take (i := 2) (v := ?vnb_2) rfl (by kernel_rfl) (by kernel_rfl) (by kernel_rfl) (fun _ _ _ h => h) (Or.inl ⟨by rfl, ?ynb_2⟩) (by assumption) ?rnb_2
                      case ynb_2 => intro w hSw; (try dsimp only at hSw); go_simp <;> (try with_reducible rfl)
                      (try simp only [List.getElem_toArray, List.getElem_cons_succ, List.getElem_cons_zero, Act.put, List.setIfInBounds_toArray, List.set_cons_zero, List.set_cons_succ])
                      refine wpAnyH_take (i := 3) (v := ?vnb_3) rfl (by kernel_rfl) (by kernel_rfl) (by kernel_rfl) (fun _ _ _ h => h) (Or.inl ⟨by rfl, ?ynb_3⟩) (by assumption) ?rnb_3
                      case ynb_3 => intro w hSw; (try dsimp only at hSw); go_simp <;> (try with_reducible rfl)
                      (try simp only [List.getElem_toArray, List.getElem_cons_succ, List.getElem_cons_zero, Act.put, List.setIfInBounds_toArray, List.set_cons_zero, List.set_cons_succ])
                      refine wpAnyH_take (i := 4) (v := ?vnb_4) rfl (by kernel_rfl) (by kernel_rfl) (by kernel_rfl) (fun _ _ _ h => h) (Or.inl ⟨by rfl, ?ynb_4⟩) (by assumption) ?rnb_4
                      case ynb_4 => intro w hSw; (try dsimp only at hSw); go_simp <;> (try with_reducible rfl)
                      (try simp only [List.getElem_toArray, List.getElem_cons_succ, List.getElem_cons_zero, Act.put, List.setIfInBounds_toArray, List.set_cons_zero, List.set_cons_succ])
                      refine wpAnyH_take (i := 5) (v := ?vnb_5) rfl (by kernel_rfl) (by kernel_rfl) (by kernel_rfl) (fun _ _ _ h => h) (Or.inl ⟨by rfl, ?ynb_5⟩) (by assumption) ?rnb_5
                      case ynb_5 => intro w hSw; (try dsimp only at hSw); go_simp <;> (try with_reducible rfl)
                      (try simp only [List.getElem_toArray, List.getElem_cons_succ, List.getElem_cons_zero, Act.put, List.setIfInBounds_toArray, List.set_cons_zero, List.set_cons_succ])
                      refine wpAnyH_take (i := 6) (v := ?vnb_6) rfl (by kernel_rfl) (by kernel_rfl) (by kernel_rfl) (fun _ _ _ h => h) (Or.inl ⟨by rfl, ?ynb_6⟩) (by assumption) ?rnb_6
                      case ynb_6 => intro w hSw; (try dsimp only at hSw); go_simp <;> (try with_reducible rfl)
                      (try simp only [List.getElem_toArray, List.getElem_cons_succ, List.getElem_cons_zero, Act.put, List.setIfInBounds_toArray, List.set_cons_zero, List.set_cons_succ])
                      refine wpAnyH_take (i := 7) (v := ?vnb_7) rfl (by kernel_rfl) (by kernel_rfl) (by kernel_rfl) (fun _ _ _ h => h) (Or.inl ⟨by rfl, ?ynb_7⟩) (by assumption) ?rnb_7
                      case ynb_7 => intro w hSw; (try dsimp only at hSw); go_simp <;> (try with_reducible rfl)
                      (try simp only [List.getElem_toArray, List.getElem_cons_succ, List.getElem_cons_zero, Act.put, List.setIfInBounds_toArray, List.set_cons_zero, List.set_cons_succ])
                      refine wpAnyH_take (i := 8) (v := ?vnb_8) rfl (by kernel_rfl) (by kernel_rfl) (by kernel_rfl) (fun _ _ _ h => h) (Or.inl ⟨by rfl, ?ynb_8⟩) (by assumption) ?rnb_8
                      case ynb_8 => intro w hSw; (try dsimp only at hSw); go_simp <;> (try with_reducible rfl)
                      (try simp only [List.getElem_toArray, List.getElem_cons_succ, List.getElem_cons_zero, Act.put, List.setIfInBounds_toArray, List.set_cons_zero, List.set_cons_succ])
                      refine wpAnyH_take (i := 9) (v := ?vnb_9) rfl (by kernel_rfl) (by kernel_rfl) (by kernel_rfl) (fun _ _ _ h => h) (Or.inl ⟨by rfl, ?ynb_9⟩) (by assumption) ?rnb_9
                      case ynb_9 => intro w hSw; (try dsimp only at hSw); go_simp <;> (try with_reducible rfl)
                      (try simp only [List.getElem_toArray, List.getElem_cons_succ, List.getElem_cons_zero, Act.put, List.setIfInBounds_toArray, List.set_cons_zero, List.set_cons_succ])
                      refine wpAnyH_take (i := 10) (v := ?vnb_10) rfl (by kernel_rfl) (by kernel_rfl) (by kernel_rfl) (fun _ _ _ h => h) (Or.inl ⟨by rfl, ?ynb_10⟩) (by assumption) ?rnb_10
                      case ynb_10 => intro w hSw; (try dsimp only at hSw); go_simp <;> (try with_reducible rfl)
                      (try simp only [List.getElem_toArray, List.getElem_cons_succ, List.getElem_cons_zero, Act.put, List.setIfInBounds_toArray, List.set_cons_zero, List.set_cons_succ])
                      refine wpAnyH_take (i := 11) (v := ?vnb_11) rfl (by kernel_rfl) (by kernel_rfl) (by kernel_rfl) (fun _ _ _ h => h) (Or.inl ⟨by rfl, ?ynb_11⟩) (by assumption) ?rnb_11
                      case ynb_11 => intro w hSw; (try dsimp only at hSw); go_simp <;> (try with_reducible rfl)
                      (try simp only [List.getElem_toArray, List.getElem_cons_succ, List.getElem_cons_zero, Act.put, List.setIfInBounds_toArray, List.set_cons_zero, List.set_cons_succ])
                      refine wpAnyH_take (i := 12) (v := ?vnb_12) rfl (by kernel_rfl) (by kernel_rfl) (by kernel_rfl) (fun _ _ _ h => h) (Or.inl ⟨by rfl, ?ynb_12⟩) (by assumption) ?rnb_12
                      case ynb_12 => intro w hSw; (try dsimp only at hSw); go_simp <;> (try with_reducible rfl)
                      (try simp only [List.getElem_toArray, List.getElem_cons_succ, List.getElem_cons_zero, Act.put, List.setIfInBounds_toArray, List.set_cons_zero, List.set_cons_succ])
                      refine wpAnyH_take (i := 13) (v := ?vnb_13) rfl (by kernel_rfl) (by kernel_rfl) (by kernel_rfl) (fun _ _ _ h => h) (Or.inl ⟨by rfl, ?ynb_13⟩) (by assumption) ?rnb_13
                      case ynb_13 => intro w hSw; (try dsimp only at hSw); go_simp <;> (try with_reducible rfl)
                      (try simp only [List.getElem_toArray, List.getElem_cons_succ, List.getElem_cons_zero, Act.put, List.setIfInBounds_toArray, List.set_cons_zero, List.set_cons_succ])
                      refine' wpAnyH_take (i := 14) (v := _) rfl (by kernel_rfl) (by kernel_rfl) (by kernel_rfl) (fun _ _ _ h => h) (yieldsIf_load_mid (by rfl) _ _ (by rfl) _ _ (by rfl) _ _ ?Snb_14 ?unb_14 ?dnb_14 ?inb_14) (by assumption) ?rnb_14
                      case Snb_14 => exact (by intro w h; exact h.2.2.2)
                      case unb_14 => exact Tryd.underlying23
                      case dnb_14 => rfl
                      case inb_14 => exact hzX
                      (try simp only [List.getElem_toArray, List.getElem_cons_succ, List.getElem_cons_zero, Act.put, List.setIfInBounds_toArray, List.set_cons_zero, List.set_cons_succ])
                      refine wpAnyH_take (i := 15) (v := ?vnb_15) rfl (by kernel_rfl) (by kernel_rfl) (by kernel_rfl) (fun _ _ _ h => h) (Or.inl ⟨by rfl, ?ynb_15⟩) (by assumption) ?rnb_15
                      case ynb_15 => intro w hSw; (try dsimp only at hSw); go_simp <;> (try with_reducible rfl)
                      (try simp only [List.getElem_toArray, List.getElem_cons_succ, List.getElem_cons_zero, Act.put, List.setIfInBounds_toArray, List.set_cons_zero, List.set_cons_succ])
                      refine wpAnyH_ready (rs := [16]) (by kernel_rfl) (by simp) ?_
                      refine AllReadyH.cons rfl (fun K hK => ?_) AllReadyH.nil
                      rw [if_pos (by rfl)]
                      refine wp_put 23 (.tmp 254) (.tmp 253) rfl gx (c2 * 2) rfl (.agg X.toArray) rfl hBd X rfl (by rw [hXl]; exact Tryd.szQ) (by rw [hXl, List.length_append, HCL.out, List.length_append]; show _ ≤ c2 * 2 + (2 + _); omega) hX1 ?_
                      intro we hue hBe
                      have hcw := (hId.wk.upd hue (by omega)).cell (k := 0) rfl
                      rw [HM2.out] at hcw
                      have hcg := (hId.hdrs.upd hue (by omega)).cell (k := i) (v := .slice (some ⟨g, 0, none⟩) N cr) (by rw [List.getElem?_append_left (by rw [List.length_map]; exact (List.getElem?_eq_some_iff.1 HRR.out).1), List.getElem?_map, HRR.out]; rfl)
                      have hci2 := (hBid.upd hue hgix).cell HLI.out
                      have hqe : we.rangeAt g (n * 2) X := fun j u hu => by
                        have hb := World.block_lt_of_cell? wd _ (hqd j u hu)
                        rw [World.cell?_of_block (hue.block g (by omega))]
                        exact hqd j u hu
                      refine hK.out _ _ ⟨hcw, hci2, hcg, hqe⟩ (fun hHeld => ?_)
                      clear hK K
                      refine wpAnyH_done (by kernel_rfl) ?_ _
                      clear hHeld hcw hci2 hcg hqe hqd hBid hId
                      have hbe9 := hbd.trans (hue.below (B := W6.heap.size) hlx)
                      have hSc := HSC.out
                      rw [← HXX.out] at hBe
                      rw [show qC x = [Value.int .i64 x.num, Value.int .i64 (x.den : Int)] from rfl, splice_next _ _ _ _ _ HCL.out (by rw [List.length_append]; show 2 ≤ 2 + _; omega)] at hBe
                      have hBf : Blk we gx 23 (rowC (S.take c2) ++ [Value.int .i64 x.num, Value.int .i64 (x.den : Int)] ++ Jx.drop 2) := hBe
                      clear hBe hBd hue hbd hdd
                      have hx2 : rowC (S.take c2) ++ [Value.int .i64 x.num, Value.int .i64 (x.den : Int)] = rowC (S.take (c2 + 1)) := by
                        obtain ⟨h3, h4⟩ := List.getElem?_eq_some_iff.1 hSc
                        rw [List.take_succ_eq_append_getElem h3, h4, rowC_append]; rfl
                      rw [hx2] at hBf
                      have HBF := Lib.hid hBf
                      have HJ2 := Lib.hid (show (Jx.drop 2).length = (n - (c2 + 1)) * 2 by rw [List.length_drop, hJx]; omega)
                      clear hBf hx2 hSc hJx
                      go_wp2
                      go_roundw
                      case rel => exact ⟨c2 + 1, Jx.drop 2, by omega, by go_num, HJ2.out, HBF.out, hbe9⟩
                      case measure => simp [intOf]; omega
                    · have ci := hBia.cell hLi
                      have hib : decide ((0 : Int) ≤ (-1 : Int)) = false := by decide
                      clear hIa
                      have hx2 : rowC (S.take c2) ++ [Value.int .i64 0, Value.int .i64 1] = rowC (S.take (c2 + 1)) := by
                        obtain ⟨h3, h4⟩ := List.getElem?_eq_some_iff.1 hSc
                        rw [List.take_succ_eq_append_getElem h3, h4, rowC_append]; rfl
                      rw [hx2] at hBa
                      have HBF := Lib.hid hBa
                      have HJ2 := Lib.hid (show (Jx.drop 2).length = (n - (c2 + 1)) * 2 by rw [List.length_drop, hJx]; omega)
                      clear hBa hx2 hSc hJx
                      go_wp2
                      go_roundw
                      case rel => exact ⟨c2 + 1, Jx.drop 2, by omega, by go_num, HJ2.out, HBF.out, hba⟩
                      case measure => simp [intOf]; omega
                  · obtain rfl : n = c2 := by omega
                    have hnn2 : ¬ (n : Int) < (n : Int) := by omega
                    have hJ0 : Jx = [] := List.eq_nil_of_length_eq_zero (by omega)
                    subst hJ0
                    rw [List.append_nil, List.take_of_length_le (by rw [HLS.out]; exact Nat.le_refl _)] at hBx
                    have HBX := Lib.hid hBx
                    have hbe9 := hbz6.trans (hb9.mono hw6)
                    clear hBx hJx
                    go_wp2
                    go_ret3
                    rw [HSO.out]
                    exact ⟨hbe9, gx, rfl, hw8, HLS.out, HFT.out, HBX.out⟩
          · skip
            obtain rfl : n = k := by omega
            have hnn : ¬ (n : Int) < (n : Int) := by omega
            have cE := hX.wk.cell (k := 1) rfl
            have HX := Lib.hid hX
            have hso : solveM C n = .large := by unfold solveM; rw [hno]
            have HSO := Lib.hid hso
            have HBZ := Lib.hid (HS0.out.symm ▸ hbe2 : Below w.heap.size w _)
            clear hX hno hso
            go_wp2
            refine wp_region_held_drew (S := fun w' => w'.cell? ⟨gw, 1, none⟩ = some (.int .i64 17)) (by kernel_rfl) ((HX.out.keep ((below_drew _).mono hsz)).wk.cell (k := 1) rfl) (fun hHeld => ?_)
            have hbd := HBZ.out.trans ((below_drew _).mono (Nat.le_trans (Nat.le_of_eq HS0.out) (Nat.le_trans hBT hsz)))
            refine wpAnyH_take (i := 0) (v := ?vrx2_0) rfl (by kernel_rfl) (by kernel_rfl) (by kernel_rfl) (fun _ _ _ h => h) (Or.inl ⟨by rfl, ?yrx2_0⟩) (by assumption) ?rrx2_0
            case yrx2_0 => intro w hSw; (try dsimp only at hSw); go_simp <;> (try with_reducible rfl)
            (try simp only [List.getElem_toArray, List.getElem_cons_zero, Act.put, List.setIfInBounds_toArray, List.set_cons_zero, List.set_cons_succ])
            refine wpAnyH_take (i := 1) (v := ?vrx2_1) rfl (by kernel_rfl) (by kernel_rfl) (by kernel_rfl) (fun _ _ _ h => h) (Or.inl ⟨by rfl, ?yrx2_1⟩) (by assumption) ?rrx2_1
            case yrx2_1 => intro w hSw; (try dsimp only at hSw); go_simp <;> (try with_reducible rfl)
            (try simp only [List.getElem_toArray, List.getElem_cons_succ, List.getElem_cons_zero, Act.put, List.setIfInBounds_toArray, List.set_cons_zero, List.set_cons_succ])
            refine wpAnyH_take (i := 2) (v := ?vrx2_2) rfl (by kernel_rfl) (by kernel_rfl) (by kernel_rfl) (fun _ _ _ h => h) (Or.inl ⟨by rfl, ?yrx2_2⟩) (by assumption) ?rrx2_2
            case yrx2_2 => intro w hSw; (try dsimp only at hSw); go_simp <;> (try with_reducible rfl)
            (try simp only [List.getElem_toArray, List.getElem_cons_succ, List.getElem_cons_zero, Act.put, List.setIfInBounds_toArray, List.set_cons_zero, List.set_cons_succ])
            refine wpAnyH_take (i := 3) (v := ?vrx2_3) rfl (by kernel_rfl) (by kernel_rfl) (by kernel_rfl) (fun _ _ _ h => h) (Or.inl ⟨by rfl, ?yrx2_3⟩) (by assumption) ?rrx2_3
            case yrx2_3 => intro w hSw; (try dsimp only at hSw); go_simp <;> (try with_reducible rfl)
            (try simp only [List.getElem_toArray, List.getElem_cons_succ, List.getElem_cons_zero, Act.put, List.setIfInBounds_toArray, List.set_cons_zero, List.set_cons_succ])
            refine wpAnyH_take (i := 4) (v := ?vrx2_4) rfl (by kernel_rfl) (by kernel_rfl) (by kernel_rfl) (fun _ _ _ h => h) (Or.inl ⟨by rfl, ?yrx2_4⟩) (by assumption) ?rrx2_4
            case yrx2_4 => intro w hSw; (try dsimp only at hSw); go_simp <;> (try with_reducible rfl)
            (try simp only [List.getElem_toArray, List.getElem_cons_succ, List.getElem_cons_zero, Act.put, List.setIfInBounds_toArray, List.set_cons_zero, List.set_cons_succ])
            refine wpAnyH_take (i := 5) (v := ?vrx2_5) rfl (by kernel_rfl) (by kernel_rfl) (by kernel_rfl) (fun _ _ _ h => h) (Or.inl ⟨by rfl, ?yrx2_5⟩) (by assumption) ?rrx2_5
            case yrx2_5 => intro w hSw; (try dsimp only at hSw); go_simp <;> (try with_reducible rfl)
            (try simp only [List.getElem_toArray, List.getElem_cons_succ, List.getElem_cons_zero, Act.put, List.setIfInBounds_toArray, List.set_cons_zero, List.set_cons_succ])
            refine wpAnyH_take (i := 6) (v := ?vrx2_6) rfl (by kernel_rfl) (by kernel_rfl) (by kernel_rfl) (fun _ _ _ h => h) (Or.inl ⟨by rfl, ?yrx2_6⟩) (by assumption) ?rrx2_6
            case yrx2_6 => intro w hSw; (try dsimp only at hSw); go_simp <;> (try with_reducible rfl)
            (try simp only [List.getElem_toArray, List.getElem_cons_succ, List.getElem_cons_zero, Act.put, List.setIfInBounds_toArray, List.set_cons_zero, List.set_cons_succ])
            refine wpAnyH_done (by kernel_rfl) ?_ _
            clear hHeld
            go_wp2
            go_ret3
            rw [HSO.out]
            exact ⟨hbd, rfl⟩
end Go.Proofs.YthjaelopmfjfeaaDoor
