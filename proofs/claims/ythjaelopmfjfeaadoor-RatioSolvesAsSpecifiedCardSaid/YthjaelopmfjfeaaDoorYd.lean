/-
  '==' of ratios; CheckAll and Same of the reference. Conditions: the lists lie there.
-/
import Derived.Test.YthjaelopmfjfeaaDoorYb
import Derived.ChangeKeysEq
namespace Go.Proofs.YthjaelopmfjfeaaDoor
set_option linter.unusedVariables false
set_option linter.unusedSimpArgs false
open Go.RowKit Go.Shelf
set_option linter.unusedVariables false

theorem Tryd.guardQ : Tryd.prog.eqGuardType Tryd.prog.depth 23 = false := by kernel_rfl
theorem Tryd.structQ : Tryd.prog.underlying 23 = some (.struct (Tryd.prog.fieldsOf 23)) := by kernel_rfl
theorem Tryd.heldQ : Tryd.prog.stoodInHeld 23 = false := by kernel_rfl
theorem Tryd.plainIn : Tryd.prog.plainKey 3 = true := by kernel_rfl
theorem equal_ratio (w : World) (k : Nat) (a b c d : Int) :
    (Op.equalIn (k + 3) 23 (.agg [Value.int .i64 a, Value.int .i64 b].toArray) (.agg [Value.int .i64 c, Value.int .i64 d].toArray)).run Tryd.prog w = .ok (decide (a = c) && decide (b = d)) w := by
  rw [run_equalIn_struct (P := Tryd.prog) w (k + 2) _ _ _ Tryd.structQ Tryd.heldQ]
  have hf : (Tryd.prog.fieldsOf 23).toList.map (fun f => (f.name == "_", f.type, f.offset)) = [(false, 3, 0), (false, 3, 1)] := by kernel_rfl
  generalize (Tryd.prog.fieldsOf 23).toList = fs at hf
  obtain ⟨f, g, rfl⟩ : ∃ f g, fs = [f, g] := by
    rcases fs with _ | ⟨f, _ | ⟨g, _ | ⟨x, r⟩⟩⟩
    · simp at hf
    · simp at hf
    · exact ⟨f, g, rfl⟩
    · simp at hf
  simp only [List.map_cons, List.map_nil, List.cons.injEq, Prod.mk.injEq, and_true] at hf
  obtain ⟨⟨n1, t1, o1⟩, n2, t2, o2⟩ := hf
  have p1 := run_part_plain (P := Tryd.prog) (w := w) Tryd.plainIn (xs := [Value.int .i64 a, Value.int .i64 b].toArray) (off := 0) (v := .int .i64 a) rfl
  have p2 := run_part_plain (P := Tryd.prog) (w := w) Tryd.plainIn (xs := [Value.int .i64 c, Value.int .i64 d].toArray) (off := 0) (v := .int .i64 c) rfl
  have p3 := run_part_plain (P := Tryd.prog) (w := w) Tryd.plainIn (xs := [Value.int .i64 a, Value.int .i64 b].toArray) (off := 1) (v := .int .i64 b) rfl
  have p4 := run_part_plain (P := Tryd.prog) (w := w) Tryd.plainIn (xs := [Value.int .i64 c, Value.int .i64 d].toArray) (off := 1) (v := .int .i64 d) rfl
  have q1 : (Op.equalIn (k + 2) 3 (.int .i64 a) (.int .i64 c)).run Tryd.prog w = .ok (a == c) w := run_equalIn_int (P := Tryd.prog) w (k + 1) 3 .i64 .i64 _ _ Tryd.underlying3
  have q2 : (Op.equalIn (k + 2) 3 (.int .i64 b) (.int .i64 d)).run Tryd.prog w = .ok (b == d) w := run_equalIn_int (P := Tryd.prog) w (k + 1) 3 .i64 .i64 _ _ Tryd.underlying3
  have k1 := beq_eq_false_iff_ne.1 n1
  have k2 := beq_eq_false_iff_ne.1 n2
  have last : (Op.eqFields (k + 2) [Value.int .i64 a, Value.int .i64 b].toArray [Value.int .i64 c, Value.int .i64 d].toArray [g]).run Tryd.prog w = .ok (decide (b = d)) w := by
    simp only [Op.eqFields, t2, o2, Sem.run_bind, Sem.run_ite, Sem.run_pure, p3, p4, Result.andThen_ok, q2]
    rw [if_pos (by simpa using k2)]
    by_cases e : b = d
    · subst e; simp
    · have : (b == d) = false := beq_eq_false_iff_ne.2 e
      rw [this, decide_eq_false e]; simp
  show (Op.eqFields (k + 2) _ _ (f :: [g])).run Tryd.prog w = _
  rw [Op.eqFields]
  simp only [t1, o1, Sem.run_bind, Sem.run_ite, Sem.run_pure, p1, p2, Result.andThen_ok, q1, last]
  rw [if_pos (by simpa using k1)]
  by_cases e : a = c
  · subst e; simp
  · have : (a == c) = false := beq_eq_false_iff_ne.2 e
    rw [this, decide_eq_false e]; simp
theorem eqlQ (w : World) (a b c d : Int) : (binOp .eql 23 (.agg [Value.int .i64 a, Value.int .i64 b].toArray) (.agg [Value.int .i64 c, Value.int .i64 d].toArray)).run Tryd.prog w = .ok (.bool (decide (a = c) && decide (b = d))) w := by
  rw [run_eql_struct, equal_ratio w 9997]; rfl
theorem neqQ (w : World) (a b c d : Int) : (binOp .neq 23 (.agg [Value.int .i64 a, Value.int .i64 b].toArray) (.agg [Value.int .i64 c, Value.int .i64 d].toArray)).run Tryd.prog w = .ok (.bool (!(decide (a = c) && decide (b = d)))) w := by
  rw [run_neq_struct, equal_ratio w 9997]; rfl
def rat2 (p : Int × Int) : List Value := [.int .i64 p.1, .int .i64 p.2]
theorem PsAt.range {w : World} {A : Option Addr} {l : List (Int × Int)} (h : PsAt w A l) {k : Nat} {p : Int × Int} (hp : l[k]? = some p) : ∃ g o, A = some ⟨g, o, none⟩ ∧ w.rangeAt g (o + k * 2) (rat2 p) := by
  obtain ⟨g, o, e, h1, h2⟩ := h k p hp
  exact ⟨g, o, e, range_two h1 h2⟩
def CARel (l : List (Int × Int)) (n : Nat) (w : World) (i : Value) (wr : World) : Prop :=
  ∃ k : Nat, k ≤ n ∧ i = .int .i64 (k : Int) ∧ (∀ j p, j < k → l[j]? = some p → chk p.1 p.2 = true) ∧ Below w.heap.size w wr
set_option maxRecDepth 100000 in
set_option maxHeartbeats 1600000 in
theorem rcheckAll_any (A : Option Addr) (c : Nat) (l : List (Int × Int)) (w : World) (hl : l.length ≤ 9223372036854775807) (hS : PsAt w A l) :
    Calls Tryd.prog 35 #[.slice A l.length c] w fun e w' => e = .returned (.bool (l.all fun p => chk p.1 p.2)) ∧ Below w.heap.size w w' := by
  obtain ⟨D, hD⟩ : ∃ D, Hid ((l.all fun p => chk p.1 p.2) = D) := ⟨_, rfl⟩
  rw [hD.out]
  have HS := Lib.hid hS
  obtain ⟨n, hn⟩ : ∃ n, Hid (l.length = n) := ⟨_, rfl⟩
  rw [hn.out] at hl ⊢
  clear hS
  go_enter Tryd.func35, Tryd.ntmps35
  go_wp2
  go_loopw [3] (CARel l n w) (fun i _ => n - (intOf i).toNat)
  case atStart => exact ⟨0, Nat.zero_le _, rfl, fun j p hj => absurd hj (Nat.not_lt_zero j), Below.refl _ _⟩
  case round =>
    obtain ⟨k, hk, rfl, hz, hbe⟩ := hrel
    have HZ := Lib.hid hz
    clear hz
    by_cases hlt : k < n
    · have hki : (k : Int) < (n : Int) := by omega
      have hk0 : (0 : Int) ≤ (k : Int) := by omega
      obtain ⟨p, hp⟩ : ∃ p, l[k]? = some p := ⟨_, List.getElem?_eq_getElem (by rw [hn.out]; exact hlt)⟩
      obtain ⟨ga, oa, hA, c0, c1⟩ := (HS.out.next hbe) k p hp
      subst hA
      have HP := Lib.hid hp
      obtain ⟨x, y⟩ := p
      dsimp only at c0 c1
      obtain ⟨E, hE⟩ : ∃ E, Hid (chk x y = E) := ⟨_, rfl⟩
      have hc := fun w => rcheck_any x y w
      rw [hE.out] at hc
      have HC := Lib.hid hc
      clear hp hc
      go_wp2_with fail
      (with_reducible refine (HC.out _).mono ?_)
      rintro e w1 ⟨rfl, hb1⟩
      have hbe1 := below_join hbe hb1
      clear hbe hb1 c0 c1
      rcases E with _ | _
      · have hno : Hid (D = false) := by
          have : D = false := by
            rw [← hD.out, List.all_eq_false]
            exact ⟨_, List.mem_of_getElem? HP.out, by rw [hE.out]; decide⟩
          exact this
        go_wp2
        go_ret
        exact ⟨by rw [hno.out]; rfl, hbe1⟩
      · go_wp2
        go_roundw
        case rel => exact ⟨k + 1, by omega, by go_num, fun j q hj hq => by
          by_cases e : j = k
          · rw [e, HP.out] at hq
            injection hq with hq
            rw [← hq]; exact hE.out
          · exact HZ.out j q (by omega) hq, hbe1⟩
        case measure => simp [intOf]; omega
    · obtain rfl : k = n := by omega
      have hyes : Hid (D = true) := by
        have : D = true := by
          rw [← hD.out, List.all_eq_true]
          intro p hp
          obtain ⟨j, hj⟩ := List.getElem?_of_mem hp
          exact HZ.out j p (by rw [← hn.out]; exact (List.getElem?_eq_some_iff.1 hj).1) hj
        exact this
      go_wp2
      go_ret
      exact ⟨by rw [hyes.out]; rfl, hbe⟩
def SMRel (l r : List (Int × Int)) (n : Nat) (w : World) (i : Value) (wr : World) : Prop :=
  ∃ k : Nat, k ≤ n ∧ i = .int .i64 (k : Int) ∧ (∀ j p q, j < k → l[j]? = some p → r[j]? = some q → p = q) ∧ Below w.heap.size w wr
set_option maxRecDepth 100000 in
set_option maxHeartbeats 1600000 in
theorem rsame_any (A B : Option Addr) (c d : Nat) (l r : List (Int × Int)) (w : World) (hl : l.length ≤ 140737488355328) (hr : r.length ≤ 140737488355328) (hS : PsAt w A l) (hS2 : PsAt w B r) :
    Calls Tryd.prog 43 #[.slice A l.length c, .slice B r.length d] w fun e w' => e = .returned (.bool (decide (l = r))) ∧ Below w.heap.size w w' := by
  obtain ⟨D, hD⟩ : ∃ D, Hid (decide (l = r) = D) := ⟨_, rfl⟩
  rw [hD.out]
  have HS := Lib.hid hS
  have HS2 := Lib.hid hS2
  obtain ⟨n, hn⟩ : ∃ n, Hid (l.length = n) := ⟨_, rfl⟩
  obtain ⟨m, hm⟩ : ∃ m, Hid (r.length = m) := ⟨_, rfl⟩
  rw [hn.out] at hl ⊢
  rw [hm.out] at hr ⊢
  clear hS hS2
  go_enter Tryd.func43, Tryd.ntmps43
  by_cases hnm : n = m
  · subst hnm
    go_wp2
    go_loopw [5] (SMRel l r n w) (fun i _ => n - (intOf i).toNat)
    case atStart => exact ⟨0, Nat.zero_le _, rfl, fun j p q hj => absurd hj (Nat.not_lt_zero j), Below.refl _ _⟩
    case round =>
      obtain ⟨k, hk, rfl, hz, hbel⟩ := hrel
      have HZ := Lib.hid hz
      clear hz
      by_cases hlt : k < n
      · have hki : (k : Int) < (n : Int) := by omega
        have hk0 : (0 : Int) ≤ (k : Int) := by omega
        obtain ⟨p, hp⟩ : ∃ p, l[k]? = some p := ⟨_, List.getElem?_eq_getElem (by rw [hn.out]; exact hlt)⟩
        obtain ⟨q, hq⟩ : ∃ q, r[k]? = some q := ⟨_, List.getElem?_eq_getElem (by rw [hm.out]; exact hlt)⟩
        obtain ⟨ga, oa, rfl, hca⟩ := (HS.out.next hbel).range hp
        obtain ⟨gb, ob, rfl, hcb⟩ := (HS2.out.next hbel).range hq
        obtain ⟨E, hE⟩ : ∃ E, Hid (decide (p = q) = E) := ⟨_, rfl⟩
        have hneq : ∀ w, (binOp .neq 23 (.agg (rat2 p).toArray) (.agg (rat2 q).toArray)).run Tryd.prog w = .ok (.bool (!E)) w := fun w => by
          have e : decide (p = q) = (decide (p.1 = q.1) && decide (p.2 = q.2)) := by
            obtain ⟨a, b⟩ := p
            obtain ⟨a', b'⟩ := q
            simp [Prod.mk.injEq, Bool.decide_and]
          rw [← hE.out, e]
          exact neqQ w _ _ _ _
        have hgd := Tryd.guardQ
        have HPk := Lib.hid hp
        have HQk := Lib.hid hq
        have hun := Tryd.underlying23
        have hz1 : (Tryd.prog.info? 23).map (·.size) = some (rat2 p).length := Tryd.szQ
        have hz2 : (Tryd.prog.info? 23).map (·.size) = some (rat2 q).length := Tryd.szQ
        clear hp hq
        go_wp2
        have hdd := below_drew wr
        refine wp_region_held_drew (S := fun w' => w'.rangeAt ga (oa + k * 2) (rat2 p) ∧ w'.rangeAt gb (ob + k * 2) (rat2 q)) (by kernel_rfl) ⟨hca, hcb⟩ (fun hHeld => ?_)
        generalize wr.drew = wd at hdd hHeld ⊢
        clear hca hcb
        refine wpAnyH_take (i := 0) (v := ?vv0) rfl (by kernel_rfl) (by kernel_rfl) (by kernel_rfl) (fun _ _ _ h => h) (Or.inl ⟨by rfl, ?yv0⟩) (by assumption) ?rv0
        case yv0 => intro w hSw; (try dsimp only at hSw); go_simp <;> (try with_reducible rfl)
        (try simp only [List.getElem_toArray, List.getElem_cons_zero, Act.put, List.setIfInBounds_toArray, List.set_cons_zero, List.set_cons_succ])
        refine wpAnyH_take (i := 1) (v := ?vv1) rfl (by kernel_rfl) (by kernel_rfl) (by kernel_rfl) (fun _ _ _ h => h) (Or.inl ⟨by rfl, ?yv1⟩) (by assumption) ?rv1
        case yv1 => intro w hSw; (try dsimp only at hSw); go_simp <;> (try with_reducible rfl)
        (try simp only [List.getElem_toArray, List.getElem_cons_succ, List.getElem_cons_zero, Act.put, List.setIfInBounds_toArray, List.set_cons_zero, List.set_cons_succ])
        refine wpAnyH_take (i := 2) (v := ?vv2) rfl (by kernel_rfl) (by kernel_rfl) (by kernel_rfl) (fun _ _ _ h => h) (Or.inl ⟨by rfl, ?yv2⟩) (by assumption) ?rv2
        case yv2 => intro w hSw; (try dsimp only at hSw); go_simp <;> (try with_reducible rfl)
        (try simp only [List.getElem_toArray, List.getElem_cons_succ, List.getElem_cons_zero, Act.put, List.setIfInBounds_toArray, List.set_cons_zero, List.set_cons_succ])
        refine' wpAnyH_take (i := 3) (v := _) rfl (by kernel_rfl) (by kernel_rfl) (by kernel_rfl) (fun _ _ _ h => h) (yieldsIf_load_mid (by rfl) _ _ (by rfl) _ _ (by rfl) _ _ ?Sv3 ?uv3 ?dv3 ?iv3) (by assumption) ?rv3
        case Sv3 => exact (by intro w h; exact h.1)
        case uv3 => exact hun
        case dv3 => rfl
        case iv3 => exact hz1
        (try simp only [List.getElem_toArray, List.getElem_cons_succ, List.getElem_cons_zero, Act.put, List.setIfInBounds_toArray, List.set_cons_zero, List.set_cons_succ])
        refine wpAnyH_take (i := 4) (v := ?vv4) rfl (by kernel_rfl) (by kernel_rfl) (by kernel_rfl) (fun _ _ _ h => h) (Or.inl ⟨by rfl, ?yv4⟩) (by assumption) ?rv4
        case yv4 => intro w hSw; (try dsimp only at hSw); go_simp <;> (try with_reducible rfl)
        (try simp only [List.getElem_toArray, List.getElem_cons_succ, List.getElem_cons_zero, Act.put, List.setIfInBounds_toArray, List.set_cons_zero, List.set_cons_succ])
        refine wpAnyH_take (i := 5) (v := ?vv5) rfl (by kernel_rfl) (by kernel_rfl) (by kernel_rfl) (fun _ _ _ h => h) (Or.inl ⟨by rfl, ?yv5⟩) (by assumption) ?rv5
        case yv5 => intro w hSw; (try dsimp only at hSw); go_simp <;> (try with_reducible rfl)
        (try simp only [List.getElem_toArray, List.getElem_cons_succ, List.getElem_cons_zero, Act.put, List.setIfInBounds_toArray, List.set_cons_zero, List.set_cons_succ])
        refine wpAnyH_take (i := 6) (v := ?vv6) rfl (by kernel_rfl) (by kernel_rfl) (by kernel_rfl) (fun _ _ _ h => h) (Or.inl ⟨by rfl, ?yv6⟩) (by assumption) ?rv6
        case yv6 => intro w hSw; (try dsimp only at hSw); go_simp <;> (try with_reducible rfl)
        (try simp only [List.getElem_toArray, List.getElem_cons_succ, List.getElem_cons_zero, Act.put, List.setIfInBounds_toArray, List.set_cons_zero, List.set_cons_succ])
        refine' wpAnyH_take (i := 7) (v := _) rfl (by kernel_rfl) (by kernel_rfl) (by kernel_rfl) (fun _ _ _ h => h) (yieldsIf_load_mid (by rfl) _ _ (by rfl) _ _ (by rfl) _ _ ?Sv7 ?uv7 ?dv7 ?iv7) (by assumption) ?rv7
        case Sv7 => exact (by intro w h; exact h.2)
        case uv7 => exact hun
        case dv7 => rfl
        case iv7 => exact hz2
        (try simp only [List.getElem_toArray, List.getElem_cons_succ, List.getElem_cons_zero, Act.put, List.setIfInBounds_toArray, List.set_cons_zero, List.set_cons_succ])
        refine wpAnyH_take (i := 8) (v := ?vv8) rfl (by kernel_rfl) (by kernel_rfl) (by kernel_rfl) (fun _ _ _ h => h) (Or.inl ⟨by rfl, ?yv8⟩) (by assumption) ?rv8
        case yv8 => intro w hSw; (try dsimp only at hSw); go_simp <;> (try with_reducible rfl)
        (try simp only [List.getElem_toArray, List.getElem_cons_succ, List.getElem_cons_zero, Act.put, List.setIfInBounds_toArray, List.set_cons_zero, List.set_cons_succ])
        refine wpAnyH_done (by kernel_rfl) ?_ _
        have hbel2 := hbel.trans (hdd.mono hbel.size)
        clear hneq hbel hdd
        rcases E with _ | _
        · have hno : Hid (D = false) := by
            have : D = false := by
              rw [← hD.out, decide_eq_false_iff_not]
              intro hall
              have e1 := HPk.out
              rw [hall, HQk.out] at e1
              injection e1 with e1
              have e2 := hE.out
              rw [e1, decide_eq_true rfl] at e2
              cases e2
            exact this
          go_wp2
          go_ret
          exact ⟨by rw [hno.out]; rfl, hbel2⟩
        · go_wp2
          go_roundw
          case rel => exact ⟨k + 1, by omega, by go_num, fun j a b hj ha hb => by
            by_cases e : j = k
            · rw [e, HPk.out] at ha
              rw [e, HQk.out] at hb
              injection ha with ha
              injection hb with hb
              rw [← ha, ← hb]; exact of_decide_eq_true hE.out
            · exact HZ.out j a b (by omega) ha hb, hbel2⟩
          case measure => simp [intOf]; omega
      · obtain rfl : k = n := by omega
        have hyes : Hid (D = true) := by
          have : D = true := by
            rw [← hD.out, decide_eq_true_eq]
            apply List.ext_getElem (by rw [hn.out, hm.out])
            intro j h1 h2
            exact HZ.out j _ _ (by rw [← hn.out]; exact h1) (List.getElem?_eq_getElem h1) (List.getElem?_eq_getElem h2)
          exact this
        go_wp2
        go_ret
        exact ⟨by rw [hyes.out]; rfl, hbel⟩
  · have hne : ((n : Int) != (m : Int)) = true := bne_iff_ne.2 (by omega)
    have hno : Hid (D = false) := by
      have : D = false := by
        rw [← hD.out, decide_eq_false_iff_not]
        intro hall
        rw [hall, hm.out] at hn
        exact hnm hn.out.symm
      exact this
    go_wp2
    go_ret
    exact ⟨by rw [hno.out]; rfl, Below.refl _ _⟩
end Go.Proofs.YthjaelopmfjfeaaDoor
