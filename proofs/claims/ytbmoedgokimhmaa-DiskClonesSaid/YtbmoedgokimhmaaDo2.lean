/-
  Contract of the walk over the law package's few: what it accepts is short. Conditions: the script lies in memory that the law leaves alone.
-/
import Derived.Test.YtbmoedgokimhmaaDo1
namespace Go.Proofs.Ytbmoedgokimhmaa
open Go.RowKit

/-- A row of cells, read as a struct, from an address on. -/
theorem run_loadVar_add (w : World) (p : Addr) (ty : TypeId) (cs : List Value) (d : TypeDesc) (hc : ∀ (q : Nat) (u : Value), cs[q]? = some u → w.cell? (p.add q) = some u)
    (hu : Try.prog.underlying ty = some d) (hd : d.isRow = true) (hi : (Try.prog.info? ty).map (·.size) = some cs.length) : (loadVar ty p).run Try.prog w = .ok (.agg cs.toArray) w := by
  have hl : (loadCells p cs.length).run Try.prog w = .ok cs.toArray w := run_loadCells_list (P := Try.prog) w p cs hc
  cases hq : Try.prog.info? ty with
  | none => simp [hq] at hi
  | some i =>
    have hs : i.size = cs.length := by simpa [hq] using hi
    have hagg : (isAgg ty).run Try.prog w = .ok true w := by
      unfold isAgg
      rw [Sem.run_bind, run_underlying hu w]
      cases d <;> simp_all
    simp [loadVar, Sem.run_bind, hagg, sizeOf, typeInfo, hq, hs, hl]
theorem wpList_load_add {ops : Array Oper} {rest : List Oper} {op : Oper} {a : Act} {w : World} {Q : Exit → Act → World → Prop} (hgd : op.guard = none) (ty : TypeId) (x : Operand) (ho : op.op = .load ty x)
    (p : Addr) (hx : a.eval x = .pointer (some p)) (cs : List Value) (d : TypeDesc) (hc : ∀ (q : Nat) (u : Value), cs[q]? = some u → w.cell? (p.add q) = some u)
    (hu : Try.prog.underlying ty = some d) (hd : d.isRow = true) (hi : (Try.prog.info? ty).map (·.size) = some cs.length)
    (h : wpList Try.prog ops Q rest (a.put op.dst (.agg cs.toArray)) w) : wpList Try.prog ops Q (op :: rest) a w := by
  refine wpList_plain hgd fun K hK => ?_
  unfold Oper.wp execOp
  simp only [ho, hx, Instr.loadAt, Instr.sureAddr, Sem.run_bind, Sem.run_pure, Result.andThen_ok, run_loadVar_add w p ty cs d hc hu hd hi]
  exact hK _ _ h
theorem Try.zeroO : (Try.prog.info? 34).map (·.zero) = some (some (.agg #[.int .i64 0, .int .i64 0, .int .i64 0, .string ⟨#[]⟩, .slice none 0 0])) := by kernel_rfl
theorem Try.sizeO : (Try.prog.info? 34).map (·.size) = some 5 := by kernel_rfl
theorem Try.structO : ∃ d, Try.prog.underlying 34 = some d ∧ d.isRow = true := ⟨_, Try.underlying34, rfl⟩
theorem one_cell5 {a b c d e : Value} (ha : a.oneCell' = true) (hb : b.oneCell' = true) (hc : c.oneCell' = true) (hd : d.oneCell' = true) (he : e.oneCell' = true) : ∀ u ∈ [a, b, c, d, e], u.oneCell' = true := by
  intro u hu
  simp only [List.mem_cons, List.not_mem_nil, or_false] at hu
  rcases hu with rfl | rfl | rfl | rfl | rfl <;> assumption
def FewRel (xs : List OpM) (n : Nat) (w : World) (i : Value) (wr : World) : Prop :=
  ∃ j : Nat, j ≤ n ∧ i = .int .i64 j ∧ (∀ m x, m < j → xs[m]? = some x → x.text.size ≤ 300 ∧ x.picks.length ≤ 70) ∧ Below w.heap.size w wr
set_option maxRecDepth 100000 in
set_option maxHeartbeats 1600000 in
theorem few_any (A : Option Addr) (c : Nat) (xs : List OpM) (w : World) (hl : xs.length ≤ 140737488355328) (hS : ScriptAt w.heap.size w A xs) :
    Calls Try.prog 14 #[.slice A xs.length c] w fun e w' => (∃ b, e = .returned (.bool b) ∧ (b = true → xs.length ≤ 40 ∧ ∀ x ∈ xs, x.text.size ≤ 300 ∧ x.picks.length ≤ 70)) ∧ Below w.heap.size w w' := by
  have HS := Lib.hid hS
  obtain ⟨n, hn⟩ : ∃ n, Hid (xs.length = n) := ⟨_, rfl⟩
  rw [hn.out] at hl ⊢
  clear hS
  go_enter Try.func14, Try.ntmps14
  go_wp2
  go_loopw [7] (FewRel xs n w) (fun i _ => n - natOf i)
  case atStart => exact ⟨0, Nat.zero_le _, rfl, fun m x hm => absurd hm (Nat.not_lt_zero m), Below.refl _ _⟩
  case round =>
    obtain ⟨j, hj, rfl, hdone, hbel⟩ := hrel
    by_cases hjn : j < n
    · have hji : (j : Int) < (n : Int) := by omega
      obtain ⟨x, hx⟩ : ∃ x, xs[j]? = some x := ⟨_, List.getElem?_eq_getElem (by rw [hn.out]; exact hjn)⟩
      obtain ⟨p, pa, pc, rfl, hcw⟩ := HS.out j x hx
      obtain ⟨hc, _⟩ := hcw wr hbel
      have HX := Lib.hid hx
      have HD := Lib.hid hdone
      obtain ⟨kind, i, at_, tx, pk⟩ := x
      obtain ⟨q, hq⟩ : ∃ q, Hid (pk.length = q) := ⟨_, rfl⟩
      unfold opRow at hc
      simp only [hq.out] at hc
      have hun := Try.underlying34
      clear hx hdone hj hcw
      go_wp2_with (first | (with_reducible refine wpList_load_add (op := ⟨some 10, .load 34 (.tmp 9), _, _, _, _⟩) (by with_unfolding_all rfl) 34 (.tmp 9) (by with_unfolding_all rfl) (p.add (j * 5)) (by with_unfolding_all rfl) [.int .i64 kind, .int .i64 i, .int .i64 at_, .string tx, .slice pa q pc] _ hc hun (by with_unfolding_all rfl) (by with_unfolding_all exact Try.sizeO) ?_) | (with_reducible refine wpList_alloc (o := ⟨some 4, .alloc 34, _, _, _, _⟩) (by with_unfolding_all rfl) 34 (by with_unfolding_all rfl) (.agg #[.int .i64 0, .int .i64 0, .int .i64 0, .string ⟨#[]⟩, .slice none 0 0]) [.int .i64 0, .int .i64 0, .int .i64 0, .string ⟨#[]⟩, .slice none 0 0] (by exact Try.zeroO) (by with_unfolding_all rfl) ?_))
      intro g4 w2 hg4 hs2 hb2 hB2
      have hle4 : wr.heap.size ≤ g4 := Nat.le_of_eq hg4.out.symm
      go_wp2_with (with_reducible refine wpList_put (o := ⟨none, .store 34 (.tmp 4) (.tmp 10), _, _, _, _⟩) (by with_unfolding_all rfl) 34 (.tmp 4) (.tmp 10) (by with_unfolding_all rfl) g4 0 (by with_unfolding_all rfl) (.agg #[.int .i64 kind, .int .i64 i, .int .i64 at_, .string tx, .slice pa q pc]) (by with_unfolding_all rfl) hB2 [.int .i64 kind, .int .i64 i, .int .i64 at_, .string tx, .slice pa q pc] (by with_unfolding_all rfl) (by with_unfolding_all exact Try.sizeO) (by with_unfolding_all exact Nat.le_refl _) (by with_unfolding_all exact one_cell5 rfl rfl rfl rfl rfl) ?_)
      intro w3 hu3 hB3
      have hb3 : Below wr.heap.size wr w3 := (hb2.mono hle4).trans (hu3.below (B := wr.heap.size) hle4)
      have hbel3 := below_join hbel hb3
      have k3 := hB3.cell (k := 3) (v := .string tx) rfl
      have k4 := hB3.cell (k := 4) (v := .slice pa q pc) rfl
      clear hc hbel hb2 hB2 hB3 hu3 hb3 hg4 hs2
      by_cases ht : tx.size ≤ 300
      · have hti : ((tx.size : Nat) : Int) ≤ 300 := by omega
        by_cases hp : q ≤ 70
        · have hpi : ((q : Nat) : Int) ≤ 70 := by omega
          go_wp2
          go_roundw
          case rel =>
            refine ⟨j + 1, by omega, by go_num, fun m y hm hy => ?_, hbel3⟩
            by_cases hmj : m = j
            · subst hmj
              have e := HX.out
              rw [hy] at e
              injection e with e
              rw [e]
              exact ⟨ht, by rw [hq.out]; exact hp⟩
            · exact HD.out m y (by omega) hy
          case measure => simp [natOf]; omega
        · have hpi : 70 < ((q : Nat) : Int) := by omega
          go_wp2
          go_ret
          exact ⟨⟨_, rfl, fun h => by cases h⟩, hbel3⟩
      · have hti : 300 < ((tx.size : Nat) : Int) := by omega
        go_wp2
        go_ret
        exact ⟨⟨_, rfl, fun h => by cases h⟩, hbel3⟩
    · obtain rfl : j = n := by omega
      have HD := Lib.hid hdone
      clear hdone hj hjn
      by_cases h40 : j ≤ 40
      · have h40i : (j : Int) ≤ 40 := by omega
        go_wp2
        go_ret
        refine ⟨⟨_, rfl, fun _ => ⟨h40, fun x hx => ?_⟩⟩, hbel⟩
        obtain ⟨m, hm, e⟩ := List.mem_iff_getElem.1 hx
        exact HD.out m x (by rw [← hn.out]; exact hm) (by rw [← e]; exact List.getElem?_eq_getElem hm)
      · have h40i : 40 < (j : Int) := by omega
        go_wp2
        go_ret
        exact ⟨⟨_, rfl, fun h => by simp at h; omega⟩, hbel⟩
end Go.Proofs.Ytbmoedgokimhmaa
