/-
  Contracts of the walks over the reference's columns, Holds and Refutes, and over systems that are not formed. Conditions: the rows and the lists lie there.
-/
import Derived.Test.YthjaelopmfjfeaaDoorZb
import Derived.Test.YthjaelopmfjfeaaDoorZc
import Derived.Test.YthjaelopmfjfeaaDoorWn
namespace Go.Proofs.YthjaelopmfjfeaaDoor
set_option linter.unusedVariables false
set_option linter.unusedSimpArgs false
open Go.RowKit Go.Shelf
set_option linter.unusedVariables false

/-- A slice of one ratio. -/
theorem run_rowQ (w : World) (a b : Int) : (Instr.buildSlice 40 1 #[(0, .agg #[.int .i64 a, .int .i64 b])]).run Tryd.prog w = .ok (.slice (some ⟨w.heap.size, 0, none⟩) 1 1) (w.alloc (.cells [Value.int .i64 a, Value.int .i64 b].toArray 23)) := by kernel_rfl
theorem wpList_rowQ {ops : Array Oper} {rest : List Oper} {o : Oper} {a : Act} {w : World} {Q : Exit → Act → World → Prop} (hgd : o.guard = none) (x : Operand) (ho : o.op = .buildSlice 40 1 #[(0, x)]) (n d : Int) (hx : a.eval x = .agg #[.int .i64 n, .int .i64 d])
    (h : ∀ g w', Hid (g = w.heap.size) → Below w.heap.size w w' → Blk w' g 23 [Value.int .i64 n, Value.int .i64 d] → wpList Tryd.prog ops Q rest (a.put o.dst (.slice (some ⟨g, 0, none⟩) 1 1)) w') : wpList Tryd.prog ops Q (o :: rest) a w := by
  refine wpList_plain hgd fun K hK => ?_
  have hr := run_rowQ w n d
  unfold Oper.wp execOp
  simp only [ho, List.map_toArray, List.map_cons, List.map_nil, hx, Sem.run_bind, Sem.run_pure, Result.andThen_ok, hr]
  exact hK _ _ (h _ _ rfl (below_new w _) (blk_new w _ _))
/-- append of one ratio. -/
theorem wpList_appQ {ops : Array Oper} {rest : List Oper} {o : Oper} {a : Act} {w : World} {Q : Exit → Act → World → Prop} (hgd : o.guard = none) (s x : Operand)
    (ho : o.op = .call { callee := .builtin .append, args := #[s, x], argTypes := #[40, 40] }) (base : Nat) (v : Value) (n : Nat) (xs : List Value) (hs : a.eval s = v) (hown : w.ownsRow base 23 2 v n xs)
    (g : Nat) (c d : Int) (hx : a.eval x = .slice (some ⟨g, 0, none⟩) 1 1) (hg : Blk w g 23 [.int .i64 c, .int .i64 d]) (hn : n ≤ 1000) (hbase : base ≤ w.heap.size)
    (h : ∀ v' w', w'.ownsRow base 23 2 v' (n + 1) (xs ++ [.int .i64 c, .int .i64 d]) → w.grownBy w' v.ownBlock → (v'.ownBlock = v.ownBlock ∨ ∀ g, v'.ownBlock = some g → w.heap.size ≤ g) → wpList Tryd.prog ops Q rest (a.put o.dst v') w') : wpList Tryd.prog ops Q (o :: rest) a w := by
  obtain ⟨i, i1, i2, i3, i4⟩ := infoQ
  exact wpList_appendN (P := Tryd.prog) w hgd s x 40 ho base 23 i (.agg zC.toArray) 2 16 Tryd.underlying40 i1 i2 i3 i4 rfl (by decide) v n xs hs hown ⟨g, 0, none⟩ 1 1 [.int .i64 c, .int .i64 d] hx rfl (fun j y hy => by
    rw [addr_mid, Nat.zero_add]
    exact hg.cell hy) (int_one c d) (by show n + 1 ≤ maxLen; unfold maxLen; omega) (by omega) hbase h
theorem psAt_own {w : World} {T n c : Nat} {A : Option Addr} {l : List (Int × Int)} (h : w.ownsRow T 23 2 (.slice A n c) n (rowR l)) : PsAt w A l := fun k p hp => by
  obtain ⟨c1, c2⟩ := rowR_cell (R := []) hp
  rw [List.append_nil] at c1 c2
  obtain ⟨A2, c3, e, hA⟩ := own_shape h
  injection e with eA _ ec
  subst eA
  rcases hA with ⟨rfl, _, h0⟩ | ⟨g, rfl, _, _⟩
  · exfalso
    have h1 := h.1
    have h2 := (List.getElem?_eq_some_iff.1 c1).1
    omega
  · have hc := h.cells (g := g) rfl
    have d1 := hc _ _ c1
    have d2 := hc _ _ c2
    rw [addr_mid] at d1 d2
    exact ⟨g, 0, rfl, d1, d2⟩
set_option maxRecDepth 100000 in
set_option maxHeartbeats 1600000 in
theorem rcolumns_any (A : Option Addr) (c : Nat) (hs : List Hdr) (w : World) (hS : HdrsAt w A hs) :
    Calls Tryd.prog 65 #[.slice A hs.length c] w fun e w' => e = .returned (.int .i64 (colsN hs : Int)) ∧ w = w' := by
  cases hs with
  | nil =>
    go_enter Tryd.func65, Tryd.ntmps65
    go_wp2
    go_ret
    exact ⟨rfl, rfl⟩
  | cons h hs =>
    obtain ⟨ad, rfl, hc⟩ := hS 0 h rfl
    obtain ⟨B, n, d⟩ := h
    have hc0 : w.cell? (ad.add 0) = some (.slice B n d) := hc
    have hcz : w.cell? ad = some (.slice B n d) := by
      have e : ad.add 0 = ad := by cases ad; rfl
      rw [e] at hc0; exact hc0
    have hl : (h0 : Nat) → (h0 = ((B, n, d) :: hs : List Hdr).length) → (h0 == 0) = false ∧ ((h0 : Int) == 0) = false ∧ (0 : Int) < (h0 : Int) := fun h0 e => by
      rw [List.length_cons] at e
      refine ⟨by rw [beq_eq_false_iff_ne]; omega, by rw [beq_eq_false_iff_ne]; omega, by omega⟩
    obtain ⟨m, hm⟩ : ∃ m, ((B, n, d) :: hs : List Hdr).length = m := ⟨_, rfl⟩
    obtain ⟨q1, q2, q3⟩ := hl m hm.symm
    have hcn : colsN ((B, n, d) :: hs) = n := rfl
    rw [hm, hcn]
    clear hl hm hS hc hcn
    go_enter Tryd.func65, Tryd.ntmps65
    go_wp2
    go_ret
    exact ⟨rfl, rfl⟩
set_option maxRecDepth 100000 in
set_option maxHeartbeats 3200000 in
theorem rsolve_bad (A B : Option Addr) (c bl bc : Nat) (hs : List Hdr) (w : World) (hl : hs.length ≤ 100000) (hbl : bl ≤ 140737488355328) (hsm : ∀ h ∈ hs, h.2.1 ≤ 140737488355328) (hS : HdrsAt w A hs) (hf : formedB hs bl = false) :
    Calls Tryd.prog 42 #[.slice A hs.length c, .slice B bl bc] w fun e w' => e = .returned (.tuple #[.slice none 0 0, .slice none 0 0, .int .i64 1]) ∧ Below w.heap.size w w' := by
  have hcn : colsN hs ≤ 140737488355328 := by
    cases hs with
    | nil => exact Nat.zero_le _
    | cons a l => exact hsm a (List.mem_cons_self ..)
  have hFO := rformed_any A B c bl bc hs w (by omega) hbl hS hsm
  rw [hf] at hFO
  have HFO := Lib.hid hFO
  obtain ⟨m, hm⟩ : ∃ m, hs.length = m := ⟨_, rfl⟩
  rw [hm] at HFO
  rw [hm]
  clear hFO hS hf hl hcn hm hsm
  go_enter Tryd.func42, Tryd.ntmps42
  go_wp2_with fail
  (with_reducible refine HFO.out.mono ?_)
  rintro e w1 ⟨rfl, hb1⟩
  clear HFO
  go_wp2
  go_ret3
  first | exact ⟨rfl, hb1⟩ | exact hb1
set_option maxRecDepth 100000 in
set_option maxHeartbeats 3200000 in
theorem holds_bad (A B X : Option Addr) (c bl bc xl e : Nat) (hs : List Hdr) (w : World) (hl : hs.length ≤ 100000) (hbl : bl ≤ 140737488355328) (hsm : ∀ h ∈ hs, h.2.1 ≤ 140737488355328) (hS : HdrsAt w A hs) (hf : formedB hs bl = false) :
    Calls Tryd.prog 44 #[.slice A hs.length c, .slice B bl bc, .slice X xl e] w fun e w' => e = .returned (.int .i64 1) ∧ Below w.heap.size w w' := by
  have hcn : colsN hs ≤ 140737488355328 := by
    cases hs with
    | nil => exact Nat.zero_le _
    | cons a l => exact hsm a (List.mem_cons_self ..)
  have hFO := formed_any A B c bl bc hs w hl hbl hcn hS
  rw [hf] at hFO
  have HFO := Lib.hid hFO
  obtain ⟨m, hm⟩ : ∃ m, hs.length = m := ⟨_, rfl⟩
  rw [hm] at HFO
  rw [hm]
  clear hFO hS hf hl hcn hm hsm
  go_enter Tryd.func44, Tryd.ntmps44
  go_wp2_with fail
  (with_reducible refine HFO.out.mono ?_)
  rintro e w1 ⟨rfl, hb1⟩
  clear HFO
  go_wp2
  go_ret
  first | exact ⟨rfl, hb1⟩ | exact hb1
set_option maxRecDepth 100000 in
set_option maxHeartbeats 3200000 in
theorem refutes_bad (A B X : Option Addr) (c bl bc xl e : Nat) (hs : List Hdr) (w : World) (hl : hs.length ≤ 100000) (hbl : bl ≤ 140737488355328) (hsm : ∀ h ∈ hs, h.2.1 ≤ 140737488355328) (hS : HdrsAt w A hs) (hf : formedB hs bl = false) :
    Calls Tryd.prog 46 #[.slice A hs.length c, .slice B bl bc, .slice X xl e] w fun e w' => e = .returned (.int .i64 1) ∧ Below w.heap.size w w' := by
  have hcn : colsN hs ≤ 140737488355328 := by
    cases hs with
    | nil => exact Nat.zero_le _
    | cons a l => exact hsm a (List.mem_cons_self ..)
  have hFO := formed_any A B c bl bc hs w hl hbl hcn hS
  rw [hf] at hFO
  have HFO := Lib.hid hFO
  obtain ⟨m, hm⟩ : ∃ m, hs.length = m := ⟨_, rfl⟩
  rw [hm] at HFO
  rw [hm]
  clear hFO hS hf hl hcn hm hsm
  go_enter Tryd.func46, Tryd.ntmps46
  go_wp2_with fail
  (with_reducible refine HFO.out.mono ?_)
  rintro e w1 ⟨rfl, hb1⟩
  clear HFO
  go_wp2
  go_ret
  first | exact ⟨rfl, hb1⟩ | exact hb1
set_option maxRecDepth 100000 in
set_option maxHeartbeats 3200000 in
theorem rholds_bad (A B X : Option Addr) (c bl bc xl e : Nat) (hs : List Hdr) (w : World) (hl : hs.length ≤ 100000) (hbl : bl ≤ 140737488355328) (hsm : ∀ h ∈ hs, h.2.1 ≤ 140737488355328) (hS : HdrsAt w A hs) (hf : formedB hs bl = false) :
    Calls Tryd.prog 45 #[.slice A hs.length c, .slice B bl bc, .slice X xl e] w fun e w' => e = .returned (.int .i64 1) ∧ Below w.heap.size w w' := by
  have hcn : colsN hs ≤ 140737488355328 := by
    cases hs with
    | nil => exact Nat.zero_le _
    | cons a l => exact hsm a (List.mem_cons_self ..)
  have hFO := rformed_any A B c bl bc hs w (by omega) hbl hS hsm
  rw [hf] at hFO
  have HFO := Lib.hid hFO
  obtain ⟨m, hm⟩ : ∃ m, hs.length = m := ⟨_, rfl⟩
  rw [hm] at HFO
  rw [hm]
  clear hFO hS hf hl hcn hm hsm
  go_enter Tryd.func45, Tryd.ntmps45
  go_wp2_with fail
  (with_reducible refine HFO.out.mono ?_)
  rintro e w1 ⟨rfl, hb1⟩
  clear HFO
  go_wp2
  go_ret
  first | exact ⟨rfl, hb1⟩ | exact hb1
set_option maxRecDepth 100000 in
set_option maxHeartbeats 3200000 in
theorem rrefutes_bad (A B X : Option Addr) (c bl bc xl e : Nat) (hs : List Hdr) (w : World) (hl : hs.length ≤ 100000) (hbl : bl ≤ 140737488355328) (hsm : ∀ h ∈ hs, h.2.1 ≤ 140737488355328) (hS : HdrsAt w A hs) (hf : formedB hs bl = false) :
    Calls Tryd.prog 47 #[.slice A hs.length c, .slice B bl bc, .slice X xl e] w fun e w' => e = .returned (.int .i64 1) ∧ Below w.heap.size w w' := by
  have hcn : colsN hs ≤ 140737488355328 := by
    cases hs with
    | nil => exact Nat.zero_le _
    | cons a l => exact hsm a (List.mem_cons_self ..)
  have hFO := rformed_any A B c bl bc hs w (by omega) hbl hS hsm
  rw [hf] at hFO
  have HFO := Lib.hid hFO
  obtain ⟨m, hm⟩ : ∃ m, hs.length = m := ⟨_, rfl⟩
  rw [hm] at HFO
  rw [hm]
  clear hFO hS hf hl hcn hm hsm
  go_enter Tryd.func47, Tryd.ntmps47
  go_wp2_with fail
  (with_reducible refine HFO.out.mono ?_)
  rintro e w1 ⟨rfl, hb1⟩
  clear HFO
  go_wp2
  go_ret
  first | exact ⟨rfl, hb1⟩ | exact hb1
set_option maxRecDepth 100000 in
set_option maxHeartbeats 6400000 in
theorem rholds_any (A B X : Option Addr) (c d e m n xl : Nat) (rs : List (Hdr × List Rat)) (bs xs : List Rat) (w : World) (hm : rs.length = m) (hm20 : m ≤ 20) (hn20 : n ≤ 20) (hcn : colsN (rs.map fun p => p.1) = n) (hform : formedB (rs.map fun p => p.1) m = true) (hbl : bs.length = m) (hxl : xs.length = xl) (hx : xl ≤ 140737488355328)
    (hS : HdrsAt w A (rs.map fun p => p.1)) (hR : ∀ p ∈ rs, RowQ w n p) (hf : ∀ p ∈ rs, ∀ x ∈ p.2, fits x) (hB : PsAt w B (prs bs)) (hbf : ∀ x ∈ bs, fits x) (hX : PsAt w X (prs xs)) (hxf : ∀ x ∈ xs, fits x) :
    Calls Tryd.prog 45 #[.slice A m c, .slice B m d, .slice X xl e] w fun e w' => e = .returned (.int .i64 (if xl = n then holdsTo (rs.map fun p => p.2) bs xs m else 1)) ∧ Below w.heap.size w w' := by
  have hml : (rs.map fun p => p.1).length = m := by rw [List.length_map, hm]
  have hFO := rformed_any A B c m d (rs.map fun p => p.1) w (by omega) (by omega) hS (fun h hh => by
    obtain ⟨p, hp, rfl⟩ := List.mem_map.1 hh
    have := (hR p hp).len
    omega)
  rw [hml, hform] at hFO
  have HCO : Hid (∀ w1, Below w.heap.size w w1 → Calls Tryd.prog 65 #[.slice A m c] w1 fun e w' => e = .returned (.int .i64 (n : Int)) ∧ w1 = w') := (fun w1 h1 => by
    have h := rcolumns_any A c (rs.map fun p => p.1) w1 (hS.next h1)
    rw [hml, hcn] at h
    exact h : ∀ w1, Below w.heap.size w w1 → Calls Tryd.prog 65 #[.slice A m c] w1 fun e w' => e = .returned (.int .i64 (n : Int)) ∧ w1 = w')
  have hget : ∀ k, k < m → ∃ p b, rs[k]? = some p ∧ bs[k]? = some b ∧ RowQ w n p ∧ (∀ x ∈ p.2, fits x) ∧ fits b ∧ ∃ ad, A = some ad ∧ w.cell? (ad.add k) = some (hdrV p.1) := fun k hk => by
    have h1 : rs[k]? = some (rs[k]'(by omega)) := List.getElem?_eq_getElem (by omega)
    have h2 : bs[k]? = some (bs[k]'(by omega)) := List.getElem?_eq_getElem (by omega)
    exact ⟨_, _, h1, h2, hR _ (List.mem_of_getElem? h1), hf _ (List.mem_of_getElem? h1), hbf _ (List.mem_of_getElem? h2), hS k _ (by rw [List.getElem?_map, h1]; rfl)⟩
  have HGT := Lib.hid hget
  have HB := Lib.hid hB
  have HX := Lib.hid hX
  have HXF := Lib.hid hxf
  have HXL := Lib.hid hxl
  obtain ⟨R, hRR⟩ : ∃ R, Hid ((if xl = n then holdsTo (rs.map fun p => p.2) bs xs m else 1) = R) := ⟨_, rfl⟩
  rw [hRR.out]
  have HFO := Lib.hid hFO
  have hmi : (m : Int) ≤ 20 := by omega
  have hxi : (xl : Int) ≤ 140737488355328 := by omega
  clear hS hR hf hbf hxf hX hB hget hFO hml hcn hform hm hbl hxl
  have hgd := Tryd.guardQ
  go_enter Tryd.func45, Tryd.ntmps45
  go_wp2_with fail
  (with_reducible refine HFO.out.mono ?_)
  rintro e w1 ⟨rfl, hb1⟩
  go_wp2_with fail
  (with_reducible refine (HCO.out _ hb1).mono ?_)
  rintro e w2 ⟨rfl, rfl⟩
  by_cases hxn : xl = n
  · have hxb : ((xl : Int) != (n : Int)) = false := by rw [hxn]; simp
    have hR2 : Hid (holdsTo (rs.map fun p => p.2) bs xs m = R) := by
      have := hRR.out
      rw [if_pos hxn] at this
      exact this
    have HXN := Lib.hid hxn
    clear hxn
    go_wp2
    go_loopw [8] (HoRel (rs.map fun p => p.2) bs xs m w) (fun i _ => m - (intOf i).toNat)
    case atStart => exact ⟨0, Nat.zero_le _, rfl, rfl, hb1⟩
    case round =>
      clear hb1
      obtain ⟨k, hk, rfl, hz, hbe⟩ := hrel
      have HZ := Lib.hid hz
      clear hz
      by_cases hlt : k < m
      · have hki : (k : Int) < (m : Int) := by omega
        have hk0 : (0 : Int) ≤ (k : Int) := by omega
        obtain ⟨p, b, hp, hb, hrow, hpf, hbf, ad, rfl, hc⟩ := HGT.out k hlt
        have hstep : holdsTo (rs.map fun p => p.2) bs xs (k + 1) = expI p.2 xs b := by
          show (if holdsTo _ bs xs k = 0 then _ else _) = _
          rw [if_pos HZ.out, List.getElem?_map, hp, nth_get hb]; rfl
        have hro := hrow.next hbe
        obtain ⟨⟨C, q, f⟩, al⟩ := p
        have hqn : q = n := hro.len
        subst hqn
        have hc0 : wr.cell? (ad.add k) = some (.slice C q f) := cellq_below hbe hc
        obtain ⟨gb, ob, hBa, d0, d1⟩ := (HB.out.next hbe) k _ (prs_get hb)
        subst hBa
        obtain ⟨N, D, kk, h1, h2⟩ := expI_form al xs b
        have hrl : al.length = q := hro.size
        have hex := fun w' (h : Below wr.heap.size wr w') => rdot_any C X f e al xs w' (by omega) (by have := HXL.out; omega) hpf HXF.out (hro.lies.next h) ((HX.out.next hbe).next h)
        rw [h1, hrl, HXL.out] at hex
        rw [show expI al xs b = holdsTo (rs.map fun p => p.2) bs xs (k + 1) from hstep.symm] at h2
        obtain ⟨E, hE⟩ : ∃ E, holdsTo (rs.map fun p => p.2) bs xs (k + 1) = E := ⟨_, rfl⟩
        rw [hE] at h2
        have hqb : wr.rangeAt gb (ob + k * 2) [Value.int .i64 b.num, Value.int .i64 (b.den : Int)] := range_two d0 d1
        have HQB := Lib.hid hqb
        have HEX := Lib.hid hex
        have HE := Lib.hid hE
        have H2 := Lib.hid h2
        clear hex hE hstep hro hrow hp hb hpf hbf hc h1 h2 hrl hqb d0 d1
        go_wp2_with fail
        (with_reducible refine (HEX.out _ (Below.refl _ _)).mono ?_)
        rintro e w3 ⟨rfl, hb3⟩
        clear hc0 HEX
        go_wp2_with (with_reducible refine wpList_alloc (o := ⟨some 9, .alloc 23, _, _, _, _⟩) (by with_unfolding_all rfl) 23 (by with_unfolding_all rfl) (.agg zC.toArray) zC (by exact Tryd.zeroQ) (by with_unfolding_all rfl) ?_)
        intro g9 w4 hg9 hs4 hb4 B9
        have hl9 : wr.heap.size ≤ g9 := Nat.le_trans hb3.size (Nat.le_of_eq hg9.out.symm)
        have hb4 := hb4.mono (Nat.le_of_eq hg9.out.symm)
        clear hg9 hs4
        go_wp2_with (with_reducible refine wpList_put (o := ⟨none, .store 23 (.tmp 9) (.tmp 36), _, _, _, _⟩) (by with_unfolding_all rfl) 23 (.tmp 9) (.tmp 36) (by with_unfolding_all rfl) g9 0 (by with_unfolding_all rfl) (.agg [Value.int .i64 N, Value.int .i64 D].toArray) (by with_unfolding_all rfl) B9 [Value.int .i64 N, Value.int .i64 D] (by with_unfolding_all rfl) (by with_unfolding_all (exact Tryd.szQ)) (by with_unfolding_all (exact Nat.le_refl 2)) (by with_unfolding_all (exact int_one _ _)) ?_)
        intro w5 hu5 hB9
        rw [splice_all _ _ (by rfl)] at hB9
        have hb5 := (below_join hb3 hb4).trans (hu5.below (B := wr.heap.size) hl9)
        have hbe5 := below_join hbe hb5
        clear hb3 hb4 hu5 B9
        rcases H2.out with ⟨hk0, rfl⟩ | ⟨rfl, s, rfl, rfl, hs⟩
        · have hkb : (E != 0) = true := bne_iff_ne.2 hk0
          have hER : Hid (E = R) := by
            have : E = R := by rw [← hR2.out, ← HE.out]; exact (holdsTo_stop (by rw [HE.out]; exact hk0) m (by omega)).symm
            exact this
          clear hb5
          go_wp2
          go_ret
          exact ⟨by rw [hER.out]; rfl, hbe5⟩
        · have HSE := Lib.hid hs
          have hqb := range_below HQB.out hb5
          obtain ⟨V, hV⟩ : ∃ V, Hid (decide (s = b) = V) := ⟨_, rfl⟩
          have hneq : ∀ w, (binOp .neq 23 (.agg [Value.int .i64 s.num, Value.int .i64 (s.den : Int)].toArray) (.agg [Value.int .i64 b.num, Value.int .i64 (b.den : Int)].toArray)).run Tryd.prog w = .ok (.bool (!V)) w := fun w => by rw [neqQ, cells_same, hV.out]
          clear hs HQB hb5
          go_wp2
          have hdd := below_drew w5
          have hbe6 := hbe5.trans (hdd.mono hbe5.size)
          refine wp_region_held_drew (S := fun w' => w'.rangeAt g9 0 [Value.int .i64 s.num, Value.int .i64 (s.den : Int)] ∧ w'.rangeAt gb (ob + k * 2) [Value.int .i64 b.num, Value.int .i64 (b.den : Int)]) (by kernel_rfl) ⟨blk_range (hB9.next hdd hB9.lt), range_below hqb hdd⟩ (fun hHeld => ?_)
          generalize w5.drew = wd at hdd hbe6 hHeld ⊢
          clear hqb hB9
          refine' wpAnyH_take (i := 0) (v := _) rfl (by kernel_rfl) (by kernel_rfl) (by kernel_rfl) (fun _ _ _ h => h) (yieldsIf_load_mid (by rfl) _ _ (by rfl) _ _ (by rfl) _ _ ?Sv0 ?uv0 ?dv0 ?iv0) (by assumption) ?rv0
          case Sv0 => exact (by intro w h; exact h.1)
          case uv0 => exact Tryd.underlying23
          case dv0 => rfl
          case iv0 => exact Tryd.szQ
          (try simp only [List.getElem_toArray, List.getElem_cons_zero, Act.put, List.setIfInBounds_toArray, List.set_cons_zero, List.set_cons_succ])
          refine wpAnyH_take (i := 1) (v := ?vv1) rfl (by kernel_rfl) (by kernel_rfl) (by kernel_rfl) (fun _ _ _ h => h) (Or.inl ⟨by rfl, ?yv1⟩) (by assumption) ?rv1
          case yv1 => intro w hSw; (try dsimp only at hSw); go_simp <;> (try with_reducible rfl)
          (try simp only [List.getElem_toArray, List.getElem_cons_succ, List.getElem_cons_zero, Act.put, List.setIfInBounds_toArray, List.set_cons_zero, List.set_cons_succ])
          refine wpAnyH_take (i := 2) (v := ?vv2) rfl (by kernel_rfl) (by kernel_rfl) (by kernel_rfl) (fun _ _ _ h => h) (Or.inl ⟨by rfl, ?yv2⟩) (by assumption) ?rv2
          case yv2 => intro w hSw; (try dsimp only at hSw); go_simp <;> (try with_reducible rfl)
          (try simp only [List.getElem_toArray, List.getElem_cons_succ, List.getElem_cons_zero, Act.put, List.setIfInBounds_toArray, List.set_cons_zero, List.set_cons_succ])
          refine wpAnyH_take (i := 3) (v := ?vv3) rfl (by kernel_rfl) (by kernel_rfl) (by kernel_rfl) (fun _ _ _ h => h) (Or.inl ⟨by rfl, ?yv3⟩) (by assumption) ?rv3
          case yv3 => intro w hSw; (try dsimp only at hSw); go_simp <;> (try with_reducible rfl)
          (try simp only [List.getElem_toArray, List.getElem_cons_succ, List.getElem_cons_zero, Act.put, List.setIfInBounds_toArray, List.set_cons_zero, List.set_cons_succ])
          refine' wpAnyH_take (i := 4) (v := _) rfl (by kernel_rfl) (by kernel_rfl) (by kernel_rfl) (fun _ _ _ h => h) (yieldsIf_load_mid (by rfl) _ _ (by rfl) _ _ (by rfl) _ _ ?Sv4 ?uv4 ?dv4 ?iv4) (by assumption) ?rv4
          case Sv4 => exact (by intro w h; exact h.2)
          case uv4 => exact Tryd.underlying23
          case dv4 => rfl
          case iv4 => exact Tryd.szQ
          (try simp only [List.getElem_toArray, List.getElem_cons_succ, List.getElem_cons_zero, Act.put, List.setIfInBounds_toArray, List.set_cons_zero, List.set_cons_succ])
          refine wpAnyH_take (i := 5) (v := ?vv5) rfl (by kernel_rfl) (by kernel_rfl) (by kernel_rfl) (fun _ _ _ h => h) (Or.inl ⟨by rfl, ?yv5⟩) (by assumption) ?rv5
          case yv5 => intro w hSw; (try dsimp only at hSw); go_simp <;> (try with_reducible rfl)
          (try simp only [List.getElem_toArray, List.getElem_cons_succ, List.getElem_cons_zero, Act.put, List.setIfInBounds_toArray, List.set_cons_zero, List.set_cons_succ])
          refine wpAnyH_done (by kernel_rfl) ?_ _
          clear hneq hdd hHeld
          rcases V with _ | _
          · have hER : Hid (R = 7) := by
              have : R = 7 := by
                have h7 : E = 7 := by rw [HSE.out, if_neg (decide_eq_false_iff_not.1 hV.out)]
                rw [← hR2.out, holdsTo_stop (k := k + 1) (by rw [HE.out, h7]; decide) m (by omega), HE.out, h7]
              exact this
            go_wp2
            go_ret
            exact ⟨by rw [hER.out]; rfl, hbe6⟩
          · have hE0 : Hid (E = 0) := by
              have : E = 0 := by rw [HSE.out, if_pos (decide_eq_true_iff.1 hV.out)]
              exact this
            go_wp2
            go_roundw
            case rel => exact ⟨k + 1, by omega, by go_num, by rw [HE.out]; exact hE0.out, hbe6⟩
            case measure => simp [intOf]; omega
      · obtain rfl : k = m := by omega
        have hfin : Hid (R = 0) := by
          have : R = 0 := by rw [← hR2.out]; exact HZ.out
          exact this
        go_wp2
        go_ret
        exact ⟨by rw [hfin.out]; rfl, hbe⟩
  · have hxb : ((xl : Int) != (n : Int)) = true := bne_iff_ne.2 (by omega)
    have hfin : Hid (R = 1) := by
      have : R = 1 := by rw [← hRR.out, if_neg hxn]
      exact this
    clear hxn
    go_wp2
    go_ret
    exact ⟨by rw [hfin.out]; rfl, hb1⟩
def ColQ (al : List (List Rat)) (c m : Nat) (w : World) (v i : Value) (wr : World) : Prop := ∃ k : Nat, k ≤ m ∧ i = .int .i64 (k : Int) ∧ wr.ownsRow w.heap.size 23 2 v k (rowC (colL (al.take k) c)) ∧ Below w.heap.size w wr
set_option maxRecDepth 100000 in
set_option maxHeartbeats 6400000 in
theorem rrefutes_any (A B X : Option Addr) (c d e m n xl : Nat) (rs : List (Hdr × List Rat)) (bs ys : List Rat) (w : World) (hm : rs.length = m) (hm20 : m ≤ 20) (hn20 : n ≤ 20) (hcn : colsN (rs.map fun p => p.1) = n) (hform : formedB (rs.map fun p => p.1) m = true) (hbl : bs.length = m) (hxl : ys.length = xl) (hx : xl ≤ 140737488355328)
    (hS : HdrsAt w A (rs.map fun p => p.1)) (hR : ∀ p ∈ rs, RowQ w n p) (hf : ∀ p ∈ rs, ∀ x ∈ p.2, fits x) (hB : PsAt w B (prs bs)) (hbf : ∀ x ∈ bs, fits x) (hX : PsAt w X (prs ys)) (hxf : ∀ x ∈ ys, fits x) :
    Calls Tryd.prog 47 #[.slice A m c, .slice B m d, .slice X xl e] w fun e w' => e = .returned (.int .i64 (if xl = m then (if refTo (rs.map fun p => p.2) ys n = 0 then expI ys bs 1 else refTo (rs.map fun p => p.2) ys n) else 1)) ∧ Below w.heap.size w w' := by
  have hml : (rs.map fun p => p.1).length = m := by rw [List.length_map, hm]
  have hFO := rformed_any A B c m d (rs.map fun p => p.1) w (by omega) (by omega) hS (fun h hh => by
    obtain ⟨p, hp, rfl⟩ := List.mem_map.1 hh
    have := (hR p hp).len
    omega)
  rw [hml, hform] at hFO
  have HCO : Hid (∀ w1, Below w.heap.size w w1 → Calls Tryd.prog 65 #[.slice A m c] w1 fun e w' => e = .returned (.int .i64 (n : Int)) ∧ w1 = w') := (fun w1 h1 => by
    have h := rcolumns_any A c (rs.map fun p => p.1) w1 (hS.next h1)
    rw [hml, hcn] at h
    exact h : ∀ w1, Below w.heap.size w w1 → Calls Tryd.prog 65 #[.slice A m c] w1 fun e w' => e = .returned (.int .i64 (n : Int)) ∧ w1 = w')
  have hget : ∀ k, k < m → ∃ p, rs[k]? = some p ∧ RowQ w n p ∧ ∃ ad, A = some ad ∧ w.cell? (ad.add k) = some (hdrV p.1) := fun k hk => by
    have h1 : rs[k]? = some (rs[k]'(by omega)) := List.getElem?_eq_getElem (by omega)
    exact ⟨_, h1, hR _ (List.mem_of_getElem? h1), hS k _ (by rw [List.getElem?_map, h1]; rfl)⟩
  have hcf : ∀ c, ∀ x ∈ colL (rs.map fun p => p.2) c, fits x := fun c x hx => by
    unfold colL at hx
    obtain ⟨r, hr, rfl⟩ := List.mem_map.1 hx
    obtain ⟨p, hp, rfl⟩ := List.mem_map.1 hr
    exact nth_fits (hf p hp) c
  obtain ⟨al, hal⟩ : ∃ al, (rs.map fun p => p.2) = al := ⟨_, rfl⟩
  have hall : al.length = m := by rw [← hal, List.length_map, hm]
  have hag : ∀ (k : Nat) (p : Hdr × List Rat), rs[k]? = some p → al[k]? = some p.2 := fun k p hp => by rw [← hal, List.getElem?_map, hp]; rfl
  rw [hal] at hcf ⊢
  have HGT := Lib.hid hget
  have HCF := Lib.hid hcf
  have HAG := Lib.hid hag
  have HAL := Lib.hid hall
  have HB := Lib.hid hB
  have HX := Lib.hid hX
  have HXF := Lib.hid hxf
  have HXL := Lib.hid hxl
  have HBF := Lib.hid hbf
  have HBL := Lib.hid hbl
  obtain ⟨R, hRR⟩ : ∃ R, Hid ((if xl = m then (if refTo al ys n = 0 then expI ys bs 1 else refTo al ys n) else 1) = R) := ⟨_, rfl⟩
  rw [hRR.out]
  have HFO := Lib.hid hFO
  have hmi : (m : Int) ≤ 20 := by omega
  have hni : (n : Int) ≤ 20 := by omega
  have hxi : (xl : Int) ≤ 140737488355328 := by omega
  clear hS hR hf hbf hxf hX hB hget hFO hml hcn hform hm hbl hxl hcf hag hall hal
  have hgd := Tryd.guardQ
  go_enter Tryd.func47, Tryd.ntmps47
  go_wp2_with fail
  (with_reducible refine HFO.out.mono ?_)
  rintro e w1 ⟨rfl, hb1⟩
  by_cases hxn : xl = m
  · have hxb : ((xl : Int) != (m : Int)) = false := by rw [hxn]; simp
    have hR2 : Hid ((if refTo al ys n = 0 then expI ys bs 1 else refTo al ys n) = R) := by
      have := hRR.out
      rw [if_pos hxn] at this
      exact this
    have HXN := Lib.hid hxn
    clear hxn
    go_wp2
    go_loopw [8] (ReRel al ys n w) (fun i _ => n - (intOf i).toNat)
    case atStart => exact ⟨0, Nat.zero_le _, rfl, rfl, hb1⟩
    case round =>
      clear hb1
      obtain ⟨k, hk, rfl, hz, hbe⟩ := hrel
      have HZ := Lib.hid hz
      clear hz
      obtain ⟨W1, hW1⟩ : ∃ W, W = wr := ⟨wr, rfl⟩
      subst hW1
      go_wp2_with fail
      (with_reducible refine (HCO.out _ hbe).mono ?_)
      rintro e w2 ⟨rfl, rfl⟩
      by_cases hlt : k < n
      · have hki : (k : Int) < (n : Int) := by omega
        have hk0 : (0 : Int) ≤ (k : Int) := by omega
        go_wp2
        go_loopw [9, 10] (ColQ al k m W1) (fun _ i _ => m - (intOf i).toNat)
        case atStart => exact ⟨0, Nat.zero_le _, rfl, World.ownsRow_nil _ _ _ _, Below.refl _ _⟩
        case round =>
          obtain ⟨j, hj, rfl, hown, hb3⟩ := hrel
          by_cases hjm : j < m
          · have hji : (j : Int) < (m : Int) := by omega
            have hj0 : (0 : Int) ≤ (j : Int) := by omega
            obtain ⟨p, hp, hrow, ad, rfl, hc⟩ := HGT.out j hjm
            have har := HAG.out j p hp
            have hrw := (hrow.next hbe).next hb3
            obtain ⟨⟨C, q, f⟩, r⟩ := p
            have hqn : q = n := hrw.len
            subst hqn
            have hc0 : wr.cell? (ad.add j) = some (.slice C q f) := cellq_below hb3 (cellq_below hbe hc)
            obtain ⟨x, hx⟩ : ∃ x, r[k]? = some x := ⟨_, List.getElem?_eq_getElem (by have := hrw.size; dsimp only at this; omega)⟩
            obtain ⟨gc, oc, hCa, x0, x1⟩ := hrw.lies k _ (prs_get hx)
            dsimp only at hCa
            subst hCa
            have HSP := Lib.hid (col_step har hx)
            obtain ⟨A1, c1, rfl, hsh⟩ := own_shape hown
            have HOW := Lib.hid hown
            have hszr := hb3.size
            have hj9 : j ≤ 1000 := by omega
            obtain ⟨X0, hX0⟩ : ∃ X0, x.num = X0 := ⟨_, rfl⟩
            obtain ⟨X1, hX1⟩ : ∃ X1, (x.den : Int) = X1 := ⟨_, rfl⟩
            rw [hX0] at x0 HSP
            rw [hX1] at x1 HSP
            clear har hrw hrow hp hx hc hown hsh hX0 hX1
            go_wp2_with (with_reducible refine wpList_rowQ (o := ⟨some 47, .buildSlice 40 1 #[(0, .tmp 46)], _, _, _, _⟩) (by with_unfolding_all rfl) (.tmp 46) (by with_unfolding_all rfl) X0 X1 (by with_unfolding_all rfl) ?_)
            intro gi wi hgi hbi hBi
            have hoi := own_only (L := []) HOW.out (Only.of_below hbi) (fun k hk => by cases hk)
            have hb4 := below_join hb3 hbi
            have hszi := hb4.size
            clear hgi hbi hb3 x0 x1 hc0 hszr
            go_wp2_with (with_reducible refine wpList_appQ (o := ⟨some 48, .call ⟨.builtin .append, #[.tmp 39, .tmp 47], #[40, 40]⟩, _, _, _, _⟩) (by with_unfolding_all rfl) (.tmp 39) (.tmp 47) (by with_unfolding_all rfl) W1.heap.size (.slice A1 j c1) j _ (by with_unfolding_all rfl) hoi gi X0 X1 (by with_unfolding_all rfl) hBi hj9 hszi ?_)
            intro v2 w5 hown5 hgr5 _
            have hb5 := hb4.trans (below_grown hgr5 (fun g hg => (own_base hoi g hg).1) hszi)
            rw [← HSP.out] at hown5
            obtain ⟨A2, c2, rfl, _⟩ := own_shape hown5
            have HOW5 := Lib.hid hown5
            clear hown5 hgr5 hoi hBi hb4 hszi HOW
            go_wp2
            go_roundw
            case rel => exact ⟨j + 1, by omega, by go_num, HOW5.out, hb5⟩
            case measure => simp [intOf]; omega
          · obtain rfl : j = m := by omega
            have hjj : ¬ (j : Int) < (j : Int) := by omega
            rw [List.take_of_length_le (by rw [HAL.out]; exact Nat.le_refl _)] at hown
            obtain ⟨A1, c1, rfl, _⟩ := own_shape hown
            have hbw := below_join hbe hb3
            have hclen : (colL al k).length = j := by rw [col_len, HAL.out]
            have hstep : refTo al ys (k + 1) = expI ys (colL al k) 0 := by
              show (if refTo al ys k = 0 then _ else _) = _
              rw [if_pos HZ.out]
            obtain ⟨E, hE⟩ : ∃ E, refTo al ys (k + 1) = E := ⟨_, rfl⟩
            obtain ⟨N, D, kk, h1, h2⟩ := expI_form ys (colL al k) 0
            have hex := rdot_any X A1 e c1 ys (colL al k) wr (by have := HXL.out; omega) (by omega) HXF.out (HCF.out k) ((HX.out.next hbe).next hb3) (psAt_own hown)
            rw [h1, HXL.out, hclen] at hex
            rw [← hstep, hE] at h2
            have HEX := Lib.hid hex
            have HE := Lib.hid hE
            have H2 := Lib.hid h2
            clear hE hstep hex hown hclen hb3 hbe h1 h2
            go_wp2_with fail
            (with_reducible refine HEX.out.mono ?_)
            rintro e w5 ⟨rfl, hb5⟩
            clear HEX
            go_wp2_with (with_reducible refine wpList_alloc (o := ⟨some 11, .alloc 23, _, _, _, _⟩) (by with_unfolding_all rfl) 23 (by with_unfolding_all rfl) (.agg zC.toArray) zC (by exact Tryd.zeroQ) (by with_unfolding_all rfl) ?_)
            intro g11 w8 hg8 hs8 hb8 B8
            have hl8 : wr.heap.size ≤ g11 := Nat.le_trans hb5.size (Nat.le_of_eq hg8.out.symm)
            have hb8 := hb8.mono (Nat.le_of_eq hg8.out.symm)
            clear hg8 hs8
            go_wp2_with (with_reducible refine wpList_put (o := ⟨none, .store 23 (.tmp 11) (.tmp 53), _, _, _, _⟩) (by with_unfolding_all rfl) 23 (.tmp 11) (.tmp 53) (by with_unfolding_all rfl) g11 0 (by with_unfolding_all rfl) (.agg [Value.int .i64 N, Value.int .i64 D].toArray) (by with_unfolding_all rfl) B8 [Value.int .i64 N, Value.int .i64 D] (by with_unfolding_all rfl) (by with_unfolding_all (exact Tryd.szQ)) (by with_unfolding_all (exact Nat.le_refl 2)) (by with_unfolding_all (exact int_one _ _)) ?_)
            intro w9 hu9 hB9
            rw [splice_all _ _ (by rfl)] at hB9
            have hbe9 := below_join hbw ((below_join hb5 hb8).trans (hu9.below (B := wr.heap.size) hl8))
            have z0 := hB9.cell (k := 0) rfl
            clear hb5 hb8 hu9 hbw B8
            rcases H2.out with ⟨hk0, rfl⟩ | ⟨rfl, s, rfl, rfl, hs⟩
            · have hkb : (E != 0) = true := bne_iff_ne.2 hk0
              have hER : Hid (E = R) := by
                have : E = R := by
                  have h9 := refTo_stop (al := al) (ys := ys) (k := k + 1) (by rw [HE.out]; exact hk0) n (by omega)
                  rw [HE.out] at h9
                  rw [← hR2.out, if_neg (by rw [h9]; exact hk0), h9]
                exact this
              clear hk0
              go_wp2
              go_ret
              exact ⟨by rw [hER.out]; rfl, hbe9⟩
            · have HSE := Lib.hid hs
              clear hs
              by_cases hs0 : s.num = 0
              · have hE0 : Hid (E = 0) := by
                  have : E = 0 := by rw [HSE.out, if_pos (Rat.num_eq_zero.1 hs0)]
                  exact this
                rw [hs0] at z0
                clear hs0 hB9
                go_wp2
                go_roundw
                case rel => exact ⟨k + 1, by omega, by go_num, by rw [HE.out]; exact hE0.out, hbe9⟩
                case measure => simp [intOf]; omega
              · have hsb : (s.num != 0) = true := bne_iff_ne.2 hs0
                have hER : Hid (R = 7) := by
                  have : R = 7 := by
                    have h7 : E = 7 := by rw [HSE.out, if_neg (fun h => hs0 (by rw [h]; rfl))]
                    have h9 := refTo_stop (al := al) (ys := ys) (k := k + 1) (by rw [HE.out, h7]; decide) n (by omega)
                    rw [HE.out, h7] at h9
                    rw [← hR2.out, if_neg (by rw [h9]; decide), h9]
                  exact this
                go_wp2
                go_ret
                exact ⟨by rw [hER.out]; rfl, hbe9⟩
      · obtain rfl : k = n := by omega
        have hkk : ¬ (k : Int) < (k : Int) := by omega
        have hfin : expI ys bs 1 = R := by rw [← hR2.out, if_pos HZ.out]
        obtain ⟨N, D, kk, h1, h2⟩ := expI_form ys bs 1
        have hex := rdot_any X B e d ys bs W1 (by have := HXL.out; omega) (by have := HBL.out; omega) HXF.out HBF.out (HX.out.next hbe) (HB.out.next hbe)
        rw [h1, HXL.out, HBL.out] at hex
        rw [hfin] at h2
        have HEX := Lib.hid hex
        have H2 := Lib.hid h2
        clear hex hfin h1 h2
        go_wp2_with fail
        (with_reducible refine HEX.out.mono ?_)
        rintro e w5 ⟨rfl, hb5⟩
        clear HEX
        go_wp2_with (with_reducible refine wpList_alloc (o := ⟨some 13, .alloc 23, _, _, _, _⟩) (by with_unfolding_all rfl) 23 (by with_unfolding_all rfl) (.agg zC.toArray) zC (by exact Tryd.zeroQ) (by with_unfolding_all rfl) ?_)
        intro g13 w8 hg8 hs8 hb8 B8
        have hl8 : W1.heap.size ≤ g13 := Nat.le_trans hb5.size (Nat.le_of_eq hg8.out.symm)
        have hb8 := hb8.mono (Nat.le_of_eq hg8.out.symm)
        clear hg8 hs8
        go_wp2_with (with_reducible refine wpList_put (o := ⟨none, .store 23 (.tmp 13) (.tmp 65), _, _, _, _⟩) (by with_unfolding_all rfl) 23 (.tmp 13) (.tmp 65) (by with_unfolding_all rfl) g13 0 (by with_unfolding_all rfl) (.agg [Value.int .i64 N, Value.int .i64 D].toArray) (by with_unfolding_all rfl) B8 [Value.int .i64 N, Value.int .i64 D] (by with_unfolding_all rfl) (by with_unfolding_all (exact Tryd.szQ)) (by with_unfolding_all (exact Nat.le_refl 2)) (by with_unfolding_all (exact int_one _ _)) ?_)
        intro w9 hu9 hB9
        rw [splice_all _ _ (by rfl)] at hB9
        have hbe9 := below_join hbe ((below_join hb5 hb8).trans (hu9.below (B := W1.heap.size) hl8))
        clear hb5 hb8 hu9 hbe B8
        rcases H2.out with ⟨hk0, rfl⟩ | ⟨rfl, s, rfl, rfl, hs⟩
        · have hkb : (R != 0) = true := bne_iff_ne.2 hk0
          clear hk0
          go_wp2
          go_ret
          exact ⟨rfl, hbe9⟩
        · have HSE := Lib.hid hs
          clear hs
          obtain ⟨V, hV⟩ : ∃ V, Hid (decide (s = 1) = V) := ⟨_, rfl⟩
          have hneq : ∀ w, (binOp .neq 23 (.agg [Value.int .i64 s.num, Value.int .i64 (s.den : Int)].toArray) (.agg [Value.int .i64 1, Value.int .i64 1].toArray)).run Tryd.prog w = .ok (.bool (!V)) w := fun w => by
            have := cells_same s 1
            rw [neqQ, ← hV.out, ← this]; rfl
          have z0 := hB9.cell (k := 0) rfl
          have z1 := hB9.cell (k := 1) rfl
          rcases V with _ | _
          · have hER : Hid (R = 7) := by
              have : R = 7 := by rw [HSE.out, if_neg (decide_eq_false_iff_not.1 hV.out)]
              exact this
            go_wp2_with (first | (with_reducible refine wpList_build (o := ⟨some 71, .build 23 #[(0, .const (.int .i64 1)), (1, .const (.int .i64 1))], _, _, _, _⟩) (by with_unfolding_all rfl) 23 #[(0, .const (.int .i64 1)), (1, .const (.int .i64 1))] (by with_unfolding_all rfl) #[(0, .int .i64 1), (1, .int .i64 1)] (by with_unfolding_all rfl) (.agg [Value.int .i64 1, Value.int .i64 1].toArray) (by with_unfolding_all exact fun w => run_buildQ w 1 1) ?_))
            go_ret
            exact ⟨by rw [hER.out]; rfl, hbe9⟩
          · have hER : Hid (R = 0) := by
              have : R = 0 := by rw [HSE.out, if_pos (decide_eq_true_iff.1 hV.out)]
              exact this
            go_wp2_with (first | (with_reducible refine wpList_build (o := ⟨some 71, .build 23 #[(0, .const (.int .i64 1)), (1, .const (.int .i64 1))], _, _, _, _⟩) (by with_unfolding_all rfl) 23 #[(0, .const (.int .i64 1)), (1, .const (.int .i64 1))] (by with_unfolding_all rfl) #[(0, .int .i64 1), (1, .int .i64 1)] (by with_unfolding_all rfl) (.agg [Value.int .i64 1, Value.int .i64 1].toArray) (by with_unfolding_all exact fun w => run_buildQ w 1 1) ?_))
            go_ret
            exact ⟨by rw [hER.out]; rfl, hbe9⟩
  · have hxb : ((xl : Int) != (m : Int)) = true := bne_iff_ne.2 (by omega)
    have hfin : Hid (R = 1) := by
      have : R = 1 := by rw [← hRR.out, if_neg hxn]
      exact this
    clear hxn
    go_wp2
    go_ret
    exact ⟨by rw [hfin.out]; rfl, hb1⟩
end Go.Proofs.YthjaelopmfjfeaaDoor
