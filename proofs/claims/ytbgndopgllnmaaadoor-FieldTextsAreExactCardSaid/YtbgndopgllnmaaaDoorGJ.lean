/-
  Contracts of the functions that the statement calls, part 10 of 25 (merged texts: Ie, Ig, Kb, Kl, Km, Pb, Kn, Fa, Fb, Fc). Conditions: as the head of each part says.
-/
import Derived.BigQuiet
import Derived.ChangeKeysEq
import Derived.Deep.MidRow
import Derived.Deep.QuietTactic
import Derived.Deep.RegionHeld
import Derived.Deep.RegionHeld3
import Derived.Great.BuildSlice
import Derived.Laws.BytesArg
import Derived.Laws.CopyOwn
import Derived.Laws.CopyRow
import Derived.Laws.Rows
import Derived.Laws.StructEq
import Derived.Laws.World
import Derived.Lib.BitFns
import Derived.Lib.BufferWrite
import Derived.Lib.Hide
import Derived.LoopIn
import Derived.LoopNIn
import Derived.Outline
import Derived.OwnWalkIn
import Derived.RangeFuncLeaves
import Derived.RangeFuncWrites
import Derived.Shelf.Small.Bits
import Derived.StillTailTactics
import Derived.TacticsInMore
import Derived.Test.YtbgndopgllnmaaaDoorRows
import Derived.Test.YtbgndopgllnmaaaDoorGA
import Derived.WalkKit
import Derived.WalkMore
import Derived.Test.YtbgndopgllnmaaaDoorGD
import Derived.Test.YtbgndopgllnmaaaDoorGH
import Derived.Test.YtbgndopgllnmaaaDoorGI
import Derived.Test.YtbgndopgllnmaaaDoorGG

/-
  Contract of the walk over the iterator of bits.pieces: it visits the pieces of a difference. Conditions: right patterns, which lie there.
-/

namespace Go.Proofs.YtbgndopgllnmaaaDoor
set_option linter.unusedVariables false
set_option linter.unusedSimpArgs false
open Go.RowKit

attribute [local go_sem] Oper.semAt_some
/-! A region that draws its order, in a round: as outside of it, if no operation is a defer statement. -/
/-- A statement that is left by its end. -/
def EndsIn (R : Act → World → Prop) : Exit → Act → World → Prop
  | .normal, a, w => R a w
  | _, _, _ => False
theorem wp_cut {P : Program} {c : Code} {Q : Exit → Act → World → Prop} {a : Act} {w : World} {R : Act → World → Prop} (h : c.wp P (EndsIn R) a w) (hr : ∀ a w, R a w → Q .normal a w) : c.wp P Q a w :=
  wp_mono h fun e a w q => by cases e <;> first | exact hr _ _ q | exact q.elim
end Go.Proofs.YtbgndopgllnmaaaDoor

/-
  Contracts of the walks over pieces, slices.AppendSeq, slices.Collect and Minus: the pieces of a difference, behind a row of patterns. Conditions: right patterns.
-/

namespace Go.Proofs.YtbgndopgllnmaaaDoor
set_option linter.unusedVariables false
set_option linter.unusedSimpArgs false
open Go.RowKit

attribute [local go_sem] Oper.semAt_some
/-- 'append' to a row: where the new one lies. -/
theorem run_append_new {P : Program} (w : World) (base : Nat) (t ty e : TypeId) (i : TypeInfo) (z : Value) (size bytes : Nat) (ht : P.underlying t = some (.slice e)) (hi : P.info? e = some i) (hz : i.zero = some z)
    (hsize : i.size = size) (hby : i.bytes = bytes) (hzs : z.cells.size = size) (hsz : 0 < size) (v : Value) (n : Nat) (xs : List Value) (hown : w.ownsRow base e size v n xs)
    (a : Addr) (m c : Nat) (news : List Value) (hl : news.length = m * size) (hnews : ∀ j u, news[j]? = some u → w.cell? (a.add j) = some u) (h1 : ∀ u ∈ news, u.oneCell' = true)
    (h63 : n + m ≤ maxLen) (hbytes : (n + m) * bytes ≤ 140737488355328) (hbase : base ≤ w.heap.size) :
    ∃ v' w', (Builtin.append_ #[t, t] ty #[v, .slice (some a) m c]).run P w = .ok v' w' ∧ w'.ownsRow base e size v' (n + m) (xs ++ news) ∧ w.grownBy w' v.ownBlock ∧ (v'.ownBlock = v.ownBlock ∨ ∀ g, v'.ownBlock = some g → w.heap.size ≤ g) := by
  obtain ⟨v', w', hr, ho, hg, hn⟩ := run_append_own (P := P) w base t ty e i z size bytes ht hi hz hsize hby hzs hsz v n xs hown a m c news hl hnews h1 h63 hbytes hbase
  refine ⟨v', w', hr, ho, hg, ?_⟩
  rcases hown.2 with ⟨rfl, rfl⟩ | ⟨g, cap, cur, rfl, hbg, hgc, hnc, hcm, hcs, htake⟩
  · have hx : xs = [] := List.eq_nil_of_length_eq_zero (by simpa using hown.1)
    subst hx
    obtain ⟨v2, w2, hr2, ho2, _, _⟩ := run_append_own (P := P) w w.heap.size t ty e i z size bytes ht hi hz hsize hby hzs hsz (.slice none 0 0) 0 [] (World.ownsRow_nil _ _ _ _) a m c news hl hnews h1 h63 hbytes (Nat.le_refl _)
    rw [hr] at hr2
    injection hr2 with e1 e2
    subst e1 e2
    exact .inr fun g hg => (ho2.lt g hg).1
  · by_cases hroom : n + m ≤ cap
    · obtain ⟨w2, hr2, _, _⟩ := run_append_fits (P := P) w base t ty e i size ht hi hsize g n cap xs hown a m c news hl hnews h1 hroom
      rw [hr] at hr2
      injection hr2 with e1 e2
      subst e1
      exact .inl rfl
    · have holds : ∀ j u, xs[j]? = some u → w.cell? ((⟨g, 0, none⟩ : Addr).add j) = some u := hown.cells (g := g) rfl
      have hr2 := run_append_grow (P := P) w t ty e i z ht hi hz ⟨g, 0, none⟩ n cap xs (by rw [hsize]; exact hown.1) holds a m c news (by rw [hsize]; exact hl) hnews (by omega) (by simp only [maxLen] at h63; omega) (growslice_fits (by omega) (by rw [hby]; exact hbytes))
      rw [hr] at hr2
      injection hr2 with e1 e2
      subst e1
      exact .inr fun g hg => by
        have : w.heap.size = g := by simpa [Value.ownBlock] using hg
        omega
theorem wpList_appendN {P : Program} (w : World) {ops : Array Oper} {rest : List Oper} {o : Oper} {a : Act} {Q : Exit → Act → World → Prop} (hgd : o.guard = none) (s x : Operand) (t : TypeId)
    (ho : o.op = .call { callee := .builtin .append, args := #[s, x], argTypes := #[t, t] })
    (base : Nat) (e : TypeId) (i : TypeInfo) (z : Value) (size bytes : Nat) (ht : P.underlying t = some (.slice e)) (hi : P.info? e = some i) (hz : i.zero = some z)
    (hsize : i.size = size) (hby : i.bytes = bytes) (hzs : z.cells.size = size) (hsz : 0 < size)
    (v : Value) (n : Nat) (xs : List Value) (hs : a.eval s = v) (hown : w.ownsRow base e size v n xs)
    (ad : Addr) (m c : Nat) (news : List Value) (hx : a.eval x = .slice (some ad) m c) (hl : news.length = m * size) (hnews : ∀ j u, news[j]? = some u → w.cell? (ad.add j) = some u) (h1 : ∀ u ∈ news, u.oneCell' = true)
    (h63 : n + m ≤ maxLen) (hbytes : (n + m) * bytes ≤ 140737488355328) (hbase : base ≤ w.heap.size)
    (h : ∀ v' w', w'.ownsRow base e size v' (n + m) (xs ++ news) → w.grownBy w' v.ownBlock → (v'.ownBlock = v.ownBlock ∨ ∀ g, v'.ownBlock = some g → w.heap.size ≤ g) → wpList P ops Q rest (a.put o.dst v') w') : wpList P ops Q (o :: rest) a w := by
  refine wpList_plain hgd fun K hK' => ?_
  obtain ⟨v', w', hrun, r1, r2, r3⟩ := run_append_new (P := P) w base t o.type e i z size bytes ht hi hz hsize hby hzs hsz v n xs hown ad m c news hl hnews h1 h63 hbytes hbase
  unfold Oper.wp
  simp [execOp, ho, resolve, invoke, builtin, hs, hx, hrun, Result.andThen]
  exact hK' _ _ (h v' w' r1 r2 r3)
theorem Tryd.infoPt : (Tryd.prog.info? 48).map (fun i => (i.zero, i.size, i.bytes)) = some (some (.agg (H no ++ H no).toArray), 20, 160) := by kernel_rfl
theorem run_slicePat (W : World) : ∀ (l : List Value), l.length = 20 →
    (Instr.buildSlice 51 1 #[(0, .agg l.toArray)]).run Tryd.prog W = .ok (.slice (some ⟨W.heap.size, 0, none⟩) 1 1) (W.alloc (.cells l.toArray 48))
  | [_, _, _, _, _, _, _, _, _, _, _, _, _, _, _, _, _, _, _, _], _ => by kernel_rfl
theorem wpList_slicePat {ops : Array Oper} {rest : List Oper} {o : Oper} {a : Act} {W : World} {Q : Exit → Act → World → Prop} (hgd : o.guard = none) (x : Operand) (ho : o.op = .buildSlice 51 1 #[(0, x)])
    (l : List Value) (hx : a.eval x = .agg l.toArray) (hl : l.length = 20)
    (h : ∀ g w', Hid (g = W.heap.size) → Below W.heap.size W w' → Blk w' g 48 l → wpList Tryd.prog ops Q rest (a.put o.dst (.slice (some ⟨g, 0, none⟩) 1 1)) w') : wpList Tryd.prog ops Q (o :: rest) a W := by
  refine wpList_plain hgd fun K hK => ?_
  have hrun := run_slicePat W l hl
  unfold Oper.wp execOp
  simp only [ho, List.map_toArray, List.map_cons, List.map_nil, hx, Sem.run_bind, Sem.run_pure, Result.andThen_ok, hrun]
  exact hK _ _ (h _ _ rfl (below_new W _) (blk_new W _ l))
/-- The cells of a row of patterns. -/
def patCells (l : List Pat) : List Value := l.flatMap Pat.cells
theorem patCells_snoc (l : List Pat) (p : Pat) : patCells (l ++ [p]) = patCells l ++ p.cells := by simp [patCells]
theorem own_keep {w w' : World} {base n size : Nat} {e : TypeId} {v : Value} {xs : List Value} (h : w.ownsRow base e size v n xs) (hb : ∀ g, v.ownBlock = some g → w'.heap[g]? = w.heap[g]?) : w'.ownsRow base e size v n xs := by
  refine ⟨h.1, ?_⟩
  rcases h.2 with hn | ⟨g, cap, cur, rfl, h2, h3, h4⟩
  · exact .inl hn
  · exact .inr ⟨g, cap, cur, rfl, h2, (hb g rfl).trans h3, h4⟩
theorem own_shape {w : World} {base n size : Nat} {e : TypeId} {v : Value} {xs : List Value} (h : w.ownsRow base e size v n xs) : ∃ A c, v = .slice A n c ∧ ((A = none ∧ c = 0 ∧ n = 0) ∨ ∃ g, A = some ⟨g, 0, none⟩ ∧ base ≤ g ∧ g < w.heap.size) := by
  rcases h.2 with ⟨rfl, rfl⟩ | ⟨g, cap, cur, rfl, hb, h3, _⟩
  · exact ⟨none, 0, rfl, .inl ⟨rfl, rfl, rfl⟩⟩
  · exact ⟨_, _, rfl, .inr ⟨g, rfl, hb, (Array.getElem?_eq_some_iff.1 h3).1⟩⟩
theorem own_mono {w : World} {base base' n size : Nat} {e : TypeId} {v : Value} {xs : List Value} (h : w.ownsRow base e size v n xs) (hb : ∀ g, v.ownBlock = some g → base' ≤ g) : w.ownsRow base' e size v n xs := by
  refine ⟨h.1, ?_⟩
  rcases h.2 with hn | ⟨g, cap, cur, rfl, h2, h4⟩
  · exact .inl hn
  · exact .inr ⟨g, cap, cur, rfl, hb g rfl, h4⟩
theorem blk_add {w : World} {g : Nat} {t : TypeId} {l : List Value} (h : Blk w g t l) : ∀ j u, l[j]? = some u → w.cell? ((⟨g, 0, none⟩ : Addr).add j) = some u := fun j u hu => by rw [addr_mid, Nat.zero_add]; exact h.cell hu
theorem Blk.grown {w w' : World} {g : Nat} {t : TypeId} {l : List Value} {row : Option Nat} (h : Blk w g t l) (hg : w.grownBy w' row) (hn : row ≠ some g) : Blk w' g t l := by unfold Blk; rw [hg.block g h.lt (fun e => hn e.symm)]; exact h
end Go.Proofs.YtbgndopgllnmaaaDoor

/-
  Contract of the walk over overlapping: the elements among some that overlap a pattern are put behind a row of numbers. Conditions: the rows lie there, apart from what is written.
-/

namespace Go.Proofs.YtbgndopgllnmaaaDoor
set_option linter.unusedVariables false
set_option linter.unusedSimpArgs false
open Go.RowKit

/-- 'append' to a row: where the new one lies, and that the old one's cells stay. -/
theorem run_append_low {P : Program} (w : World) (base : Nat) (t ty e : TypeId) (i : TypeInfo) (z : Value) (size bytes : Nat) (ht : P.underlying t = some (.slice e)) (hi : P.info? e = some i) (hz : i.zero = some z)
    (hsize : i.size = size) (hby : i.bytes = bytes) (hzs : z.cells.size = size) (hsz : 0 < size) (v : Value) (n : Nat) (xs : List Value) (hown : w.ownsRow base e size v n xs)
    (a : Addr) (m c : Nat) (news : List Value) (hl : news.length = m * size) (hnews : ∀ j u, news[j]? = some u → w.cell? (a.add j) = some u) (h1 : ∀ u ∈ news, u.oneCell' = true)
    (h63 : n + m ≤ maxLen) (hbytes : (n + m) * bytes ≤ 140737488355328) (hbase : base ≤ w.heap.size) :
    ∃ v' w', (Builtin.append_ #[t, t] ty #[v, .slice (some a) m c]).run P w = .ok v' w' ∧ w'.ownsRow base e size v' (n + m) (xs ++ news) ∧ w.grownBy w' v.ownBlock ∧ (v'.ownBlock = v.ownBlock ∨ ∀ g, v'.ownBlock = some g → w.heap.size ≤ g) ∧
      ∀ g, v.ownBlock = some g → ∀ j u, xs[j]? = some u → w'.cell? ⟨g, j, none⟩ = some u := by
  obtain ⟨v', w', hr, ho, hg, hn⟩ := run_append_new (P := P) w base t ty e i z size bytes ht hi hz hsize hby hzs hsz v n xs hown a m c news hl hnews h1 h63 hbytes hbase
  refine ⟨v', w', hr, ho, hg, hn, ?_⟩
  rcases hown.2 with ⟨rfl, rfl⟩ | ⟨g, cap, cur, rfl, hbg, hgc, hnc, hcm, hcs, htake⟩
  · intro g hg; cases hg
  · intro g' hg' j u hu
    have hgg : g = g' := by simpa [Value.ownBlock] using hg'
    subst hgg
    by_cases hroom : n + m ≤ cap
    · obtain ⟨w2, hr2, ho2, _⟩ := run_append_fits (P := P) w base t ty e i size ht hi hsize g n cap xs hown a m c news hl hnews h1 hroom
      rw [hr] at hr2
      injection hr2 with e1 e2
      subst e2
      have := ho2.cells (g := g) rfl j u (by rw [List.getElem?_append_left (List.getElem?_eq_some_iff.1 hu).1]; exact hu)
      rwa [addr_mid, Nat.zero_add] at this
    · have holds : ∀ j u, xs[j]? = some u → w.cell? ((⟨g, 0, none⟩ : Addr).add j) = some u := hown.cells (g := g) rfl
      have hr2 := run_append_grow (P := P) w t ty e i z ht hi hz ⟨g, 0, none⟩ n cap xs (by rw [hsize]; exact hown.1) holds a m c news (by rw [hsize]; exact hl) hnews (by omega) (by simp only [maxLen] at h63; omega) (growslice_fits (by omega) (by rw [hby]; exact hbytes))
      rw [hr] at hr2
      injection hr2 with e1 e2
      subst e2
      have h2 := holds j u hu
      rw [addr_mid, Nat.zero_add] at h2
      have hlt := (Array.getElem?_eq_some_iff.1 hgc).1
      rw [World.cell?_alloc_lt _ _ _ (by simpa using hlt), World.cell?_drew]
      exact h2
theorem wpList_appendL {P : Program} (w : World) {ops : Array Oper} {rest : List Oper} {o : Oper} {a : Act} {Q : Exit → Act → World → Prop} (hgd : o.guard = none) (s x : Operand) (t : TypeId)
    (ho : o.op = .call { callee := .builtin .append, args := #[s, x], argTypes := #[t, t] })
    (base : Nat) (e : TypeId) (i : TypeInfo) (z : Value) (size bytes : Nat) (ht : P.underlying t = some (.slice e)) (hi : P.info? e = some i) (hz : i.zero = some z)
    (hsize : i.size = size) (hby : i.bytes = bytes) (hzs : z.cells.size = size) (hsz : 0 < size)
    (v : Value) (n : Nat) (xs : List Value) (hs : a.eval s = v) (hown : w.ownsRow base e size v n xs)
    (ad : Addr) (m c : Nat) (news : List Value) (hx : a.eval x = .slice (some ad) m c) (hl : news.length = m * size) (hnews : ∀ j u, news[j]? = some u → w.cell? (ad.add j) = some u) (h1 : ∀ u ∈ news, u.oneCell' = true)
    (h63 : n + m ≤ maxLen) (hbytes : (n + m) * bytes ≤ 140737488355328) (hbase : base ≤ w.heap.size)
    (h : ∀ v' w', w'.ownsRow base e size v' (n + m) (xs ++ news) → w.grownBy w' v.ownBlock → (v'.ownBlock = v.ownBlock ∨ ∀ g, v'.ownBlock = some g → w.heap.size ≤ g) → (∀ g, v.ownBlock = some g → ∀ j u, xs[j]? = some u → w'.cell? ⟨g, j, none⟩ = some u) → wpList P ops Q rest (a.put o.dst v') w') : wpList P ops Q (o :: rest) a w := by
  refine wpList_plain hgd fun K hK' => ?_
  obtain ⟨v', w', hrun, r1, r2, r3, r4⟩ := run_append_low (P := P) w base t o.type e i z size bytes ht hi hz hsize hby hzs hsz v n xs hown ad m c news hl hnews h1 h63 hbytes hbase
  unfold Oper.wp
  simp [execOp, ho, resolve, invoke, builtin, hs, hx, hrun, Result.andThen]
  exact hK' _ _ (h v' w' r1 r2 r3 r4)
end Go.Proofs.YtbgndopgllnmaaaDoor

/-
  Contract of the walk over Outside. Conditions: right patterns; at most 6000 of them.
-/

namespace Go.Proofs.YtbgndopgllnmaaaDoor
set_option linter.unusedVariables false
set_option linter.unusedSimpArgs false
open Go.RowKit

theorem wp_allocz {P : Program} {o : Oper} {a : Act} {w : World} {K : Act → World → Prop} {Q : Exit → Act → World → Prop} (ty : TypeId) (ho : o.op = .alloc ty) (z : Value) (cs : List Value)
    (hz : (P.info? ty).map (·.zero) = some (some z)) (hc : z.cells = cs.toArray)
    (h : ∀ g w', Hid (g = w.heap.size) → Hid (w'.heap.size = g + 1) → Below g w w' → Blk w' g ty cs → K (a.put o.dst (.pointer (some ⟨g, 0, none⟩))) w') : Oper.wp P o a w K Q := by
  cases hq : P.info? ty with
  | none => simp [hq] at hz
  | some i =>
    have hz' : i.zero = some z := by simpa [hq] using hz
    unfold Oper.wp execOp
    simp [ho, Instr.alloc, newVar, newRow, zeroValue, typeInfo, hq, hz', hc]
    exact h _ _ rfl (by show (w.alloc _).heap.size = _; simp) (below_new w _) (blk_new w ty cs)
end Go.Proofs.YtbgndopgllnmaaaDoor

/-
  The blocks of a range in plain words; contract of the walk over block. Conditions: small numbers.
-/

namespace Go.Proofs.YtbgndopgllnmaaaDoor
set_option linter.unusedVariables false
set_option linter.unusedSimpArgs false
open Go.RowKit

/-- How many bits the greatest block leaves free that begins at lo and does not go beyond hi. -/
def freeGo (lo hi : Nat) : Nat → Nat → Nat
  | 0, k => k
  | f + 1, k => if lo % 2 ^ (k + 1) = 0 ∧ lo + 2 ^ (k + 1) ≤ hi + 1 then freeGo lo hi f (k + 1) else k
def rfree (lo hi : Nat) : Nat := freeGo lo hi 17 0
theorem freeGo_spec {lo hi : Nat} (hh : hi < 65536) : ∀ f k, f + k = 17 → k ≤ 16 → lo % 2 ^ k = 0 → lo + 2 ^ k ≤ hi + 1 → freeGo lo hi f k ≤ 16 ∧ lo % 2 ^ freeGo lo hi f k = 0 ∧ lo + 2 ^ freeGo lo hi f k ≤ hi + 1
  | 0, k, h, h1, _, _ => by omega
  | f + 1, k, h, h1, h2, h3 => by
    unfold freeGo
    split
    · rename_i hc
      have hk : k + 1 ≤ 16 := Classical.byContradiction fun hn => by
        have : 2 ^ 17 ≤ 2 ^ (k + 1) := Nat.pow_le_pow_right (by decide) (by omega)
        omega
      exact freeGo_spec hh f (k + 1) (by omega) hk hc.1 hc.2
    · exact ⟨h1, h2, h3⟩
theorem rfree_spec {lo hi : Nat} (h : lo ≤ hi) (hh : hi < 65536) : rfree lo hi ≤ 16 ∧ lo % 2 ^ rfree lo hi = 0 ∧ lo + 2 ^ rfree lo hi ≤ hi + 1 :=
  freeGo_spec hh 17 0 rfl (by omega) (by rw [Nat.pow_zero]; omega) (by omega)
/-- The patterns of a range. -/
def rangeGo (at_ wd hi : Nat) : Nat → Nat → List Pat
  | 0, _ => []
  | f + 1, lo => if lo ≤ hi then Pat.pre at_ wd lo (wd - rfree lo hi) :: rangeGo at_ wd hi f (lo + 2 ^ rfree lo hi) else []
def rangeL (at_ wd lo hi : Nat) : List Pat := rangeGo at_ wd hi 65537 lo
theorem rangeGo_none (at_ wd hi : Nat) : ∀ {f lo : Nat}, hi < lo → rangeGo at_ wd hi f lo = []
  | 0, _, _ => rfl
  | _ + 1, _, h => by unfold rangeGo; rw [if_neg (by omega)]
theorem pre_m_word {at_ wd fr lo v : Nat} (h : at_ % 16 + wd ≤ 16) (hf : fr ≤ wd) : word (Pat.pre at_ wd lo (wd - fr)).m v = if v = at_ / 16 then (2 ^ wd - 2 ^ fr) * 2 ^ (16 - at_ % 16 - wd) else 0 := by
  apply Nat.eq_of_testBit_eq
  intro j
  rw [word_test]
  show (decide (j < 16) && (decide (at_ ≤ 16 * v + (15 - j)) && decide (16 * v + (15 - j) < at_ + (wd - fr)))) = _
  by_cases hv : v = at_ / 16
  · rw [if_pos hv, show (2 ^ wd - 2 ^ fr) * 2 ^ (16 - at_ % 16 - wd) = 2 ^ (16 - at_ % 16 - wd + fr) * (2 ^ (wd - fr) - 1) by
      rw [show 2 ^ wd = 2 ^ fr * 2 ^ (wd - fr) by rw [← Nat.pow_add]; congr 1; omega, Nat.pow_add, Nat.mul_comm, Nat.mul_assoc, Nat.mul_sub (2 ^ fr), Nat.mul_one], Nat.testBit_two_pow_mul, Nat.testBit_two_pow_sub_one, Bool.eq_iff_iff]
    simp only [Bool.and_eq_true, decide_eq_true_eq]
    omega
  · rw [if_neg hv, Nat.zero_testBit, Bool.and_eq_false_iff, Bool.and_eq_false_iff, decide_eq_false_iff_not, decide_eq_false_iff_not, decide_eq_false_iff_not]
    omega
theorem pre_b_word {at_ wd fr lo v : Nat} (h : at_ % 16 + wd ≤ 16) (hf : fr ≤ wd) (hd : lo % 2 ^ fr = 0) (hl : lo < 2 ^ wd) : word (Pat.pre at_ wd lo (wd - fr)).b v = if v = at_ / 16 then lo * 2 ^ (16 - at_ % 16 - wd) else 0 := by
  apply Nat.eq_of_testBit_eq
  intro j
  rw [word_test]
  show (decide (j < 16) && ((decide (at_ ≤ 16 * v + (15 - j)) && decide (16 * v + (15 - j) < at_ + (wd - fr))) && lo.testBit (wd - 1 - (16 * v + (15 - j) - at_)))) = _
  by_cases hv : v = at_ / 16
  · rw [if_pos hv, Nat.mul_comm lo, Nat.testBit_two_pow_mul]
    by_cases hin : j < 16 ∧ at_ ≤ 16 * v + (15 - j) ∧ 16 * v + (15 - j) < at_ + (wd - fr)
    · rw [decide_eq_true hin.1, decide_eq_true hin.2.1, decide_eq_true hin.2.2, decide_eq_true (show j ≥ 16 - at_ % 16 - wd by omega), show wd - 1 - (16 * v + (15 - j) - at_) = j - (16 - at_ % 16 - wd) by omega]
      rfl
    · have hl0 : (decide (j < 16) && (decide (at_ ≤ 16 * v + (15 - j)) && decide (16 * v + (15 - j) < at_ + (wd - fr)))) = false := by
        rw [Bool.and_eq_false_iff, Bool.and_eq_false_iff, decide_eq_false_iff_not, decide_eq_false_iff_not, decide_eq_false_iff_not]
        omega
      rw [← Bool.and_assoc, hl0, Bool.false_and]
      by_cases hj : j ≥ 16 - at_ % 16 - wd
      · rw [decide_eq_true hj, Bool.true_and]
        by_cases h1 : j - (16 - at_ % 16 - wd) < fr
        · obtain ⟨c, hc⟩ := Nat.dvd_of_mod_eq_zero hd
          rw [hc, Nat.testBit_two_pow_mul, decide_eq_false (by omega)]
          rfl
        · exact (Nat.testBit_lt_two_pow (Nat.lt_of_lt_of_le hl (Nat.pow_le_pow_right (by decide) (by omega)))).symm
      · rw [decide_eq_false hj]; rfl
  · rw [if_neg hv, Nat.zero_testBit, Bool.and_eq_false_iff, Bool.and_eq_false_iff, Bool.and_eq_false_iff, decide_eq_false_iff_not, decide_eq_false_iff_not, decide_eq_false_iff_not]
    omega
def BlkRel (lo hi : Nat) (i : Value) : Prop := ∃ k : Nat, k ≤ 16 ∧ i = .int .i64 ((2 ^ k : Nat) : Int) ∧ freeGo lo hi (17 - k) k = rfree lo hi
set_option maxRecDepth 100000 in
set_option maxHeartbeats 1600000 in
theorem block_any (lo hi : Nat) (w : World) (h : lo ≤ hi) (hh : hi < 65536) :
    Calls Tryd.prog 67 #[.int .i64 (lo : Int), .int .i64 (hi : Int)] w fun e w' => e = .returned (.int .i64 ((2 ^ rfree lo hi : Nat) : Int)) ∧ w = w' := by
  obtain ⟨V, hV⟩ : ∃ V : Nat, Hid (2 ^ rfree lo hi = V) := ⟨_, rfl⟩
  rw [hV.out]
  go_enter Tryd.func67, Tryd.ntmps67
  go_wp2
  go_loop [5] (BlkRel lo hi) (fun i => 65536 - (intOf i).toNat)
  case atStart => exact ⟨0, by omega, rfl, rfl⟩
  case round =>
    obtain ⟨k, hk, rfl, hg⟩ := hrel
    obtain ⟨x, hx⟩ : ∃ x : Nat, 2 ^ k = x := ⟨_, rfl⟩
    have hx6 : x ≤ 65536 := by rw [← hx]; exact Nat.pow_le_pow_right (by decide) (by omega : k ≤ 16)
    have hx1 : 1 ≤ x := by rw [← hx]; exact Nat.one_le_two_pow
    have hy : 2 ^ (k + 1) = 2 * x := by rw [Nat.pow_succ, hx]; omega
    have hg' : (if lo % (2 * x) = 0 ∧ lo + 2 * x ≤ hi + 1 then freeGo lo hi (16 - k) (k + 1) else k) = rfree lo hi := by
      rw [← hg, show 17 - k = (16 - k) + 1 by omega]
      show _ = (if lo % 2 ^ (k + 1) = 0 ∧ lo + 2 ^ (k + 1) ≤ hi + 1 then freeGo lo hi (16 - k) (k + 1) else k)
      rw [hy]
    obtain ⟨r, hr⟩ : ∃ r : Nat, lo % (2 * x) = r := ⟨_, rfl⟩
    have hrd : (lo : Int).tmod (2 * (x : Int)) = (r : Int) := by rw [Int.tmod_eq_emod_of_nonneg (by omega), ← hr]; rfl
    have hw1 : IntKind.i64.wrap (2 * (x : Int)) = 2 * (x : Int) := by simp only [IntKind.wrap_i64]; omega
    have hw2 : IntKind.i64.wrap (r : Int) = (r : Int) := by have := Nat.mod_le lo (2 * x); simp only [IntKind.wrap_i64]; omega
    have hw3 : IntKind.i64.wrap ((lo : Int) + 2 * (x : Int)) = (lo : Int) + 2 * (x : Int) := by simp only [IntKind.wrap_i64]; omega
    have hw4 : IntKind.i64.wrap ((lo : Int) + 2 * (x : Int) - 1) = (lo : Int) + 2 * (x : Int) - 1 := by simp only [IntKind.wrap_i64]; omega
    have hw5 : IntKind.i64.wrap ((x : Int) * 2) = (x : Int) * 2 := by simp only [IntKind.wrap_i64]; omega
    have hz : (2 * (x : Int)) ≠ 0 := by omega
    rw [hr] at hg'
    rw [hx]
    have HG := Lib.hid hg'
    have HG0 := Lib.hid hg
    have HX := Lib.hid hx
    have HY := Lib.hid hy
    clear hg' hg hx hy hr
    by_cases h1 : r = 0
    · subst h1
      by_cases h2 : lo + 2 * x ≤ hi + 1
      · have h2i : (lo : Int) + 2 * (x : Int) - 1 ≤ (hi : Int) := by omega
        have HG2 : Hid (freeGo lo hi (16 - k) (k + 1) = rfree lo hi) := by
          have : freeGo lo hi (16 - k) (k + 1) = rfree lo hi := by
            have := HG.out
            rwa [if_pos ⟨rfl, h2⟩] at this
          exact this
        have hk2 : k + 1 ≤ 16 := Classical.byContradiction fun hn => by
          have : 2 ^ 17 ≤ 2 ^ (k + 1) := Nat.pow_le_pow_right (by decide) (by omega)
          have := HY.out
          omega
        go_wp2
        go_round
        case rel => exact ⟨k + 1, hk2, by rw [HY.out]; congr 1; omega, by rw [show 17 - (k + 1) = 16 - k by omega]; exact HG2.out⟩
        case measure => simp [intOf]; omega
      · have h2i : ¬ ((lo : Int) + 2 * (x : Int) - 1 ≤ (hi : Int)) := by omega
        obtain rfl : x = V := by
          have := HG.out
          rw [if_neg (fun hc => h2 hc.2)] at this
          rw [← hV.out, ← this, HX.out]
        go_wp2
        go_ret
        exact ⟨rfl, rfl⟩
    · have h1i : ¬ ((r : Int) = 0) := by omega
      obtain rfl : x = V := by
        have := HG.out
        rw [if_neg (fun hc => h1 hc.1)] at this
        rw [← hV.out, ← this, HX.out]
      go_wp2
      go_ret
      exact ⟨rfl, rfl⟩
end Go.Proofs.YtbgndopgllnmaaaDoor

/-
  The patterns of a range in plain words: which heads they match, how many there are, that no two overlap or can be joined. Conditions: what Range accepts.
-/

namespace Go.Proofs.YtbgndopgllnmaaaDoor
set_option linter.unusedVariables false
set_option linter.unusedSimpArgs false
open Go.RowKit

/-- A block goes no further: twice its size does not fit. -/
theorem freeGo_max {lo hi : Nat} (hh : hi < 65536) : ∀ f k, f + k = 17 → k ≤ 16 → ¬ (lo % 2 ^ (freeGo lo hi f k + 1) = 0 ∧ lo + 2 ^ (freeGo lo hi f k + 1) ≤ hi + 1)
  | 0, k, h, h1 => by omega
  | f + 1, k, h, h1 => by
    unfold freeGo
    split
    · rename_i hc
      have hk : k + 1 ≤ 16 := Classical.byContradiction fun hn => by
        have : 2 ^ 17 ≤ 2 ^ (k + 1) := Nat.pow_le_pow_right (by decide) (by omega)
        omega
      exact freeGo_max hh f (k + 1) (by omega) hk
    · assumption
theorem rfree_max {lo hi : Nat} (hh : hi < 65536) : ¬ (lo % 2 ^ (rfree lo hi + 1) = 0 ∧ lo + 2 ^ (rfree lo hi + 1) ≤ hi + 1) := freeGo_max hh 17 0 rfl (by omega)
theorem mod_pow_le {x a b : Nat} (h : x % 2 ^ b = 0) (hab : a ≤ b) : x % 2 ^ a = 0 :=
  Nat.mod_eq_zero_of_dvd (Nat.dvd_trans (Nat.pow_dvd_pow 2 hab) (Nat.dvd_of_mod_eq_zero h))
/-- It goes as far as it can. -/
theorem rfree_ge {lo hi t : Nat} (hh : hi < 65536) (h1 : lo % 2 ^ t = 0) (h2 : lo + 2 ^ t ≤ hi + 1) : t ≤ rfree lo hi := Classical.byContradiction fun hn => by
  have hlt : rfree lo hi + 1 ≤ t := by omega
  have := Nat.pow_le_pow_right (show 0 < 2 by decide) hlt
  exact rfree_max (lo := lo) hh ⟨mod_pow_le h1 hlt, by omega⟩
/-- The number that a head has in a field. -/
def fieldN (h : Nat → Bool) (a wd : Nat) : Nat := wordB h a wd
theorem pre_hit {a wd fr j : Nat} (h : Nat → Bool) (ha : a + wd ≤ 160) (hf : fr ≤ wd) (hd : j % 2 ^ fr = 0) (hj : j < 2 ^ wd) : (Pat.pre a wd j (wd - fr)).hit h ↔ j ≤ fieldN h a wd ∧ fieldN h a wd < j + 2 ^ fr := by
  obtain ⟨c, hc⟩ := Nat.dvd_of_mod_eq_zero hd
  have hN : fieldN h a wd = wordB h a (wd - fr) * 2 ^ fr + wordB h (a + (wd - fr)) fr := by
    have := wordB_add h a (wd - fr) fr
    rwa [show wd - fr + fr = wd by omega] at this
  have hlow := wordB_lt h (a + (wd - fr)) fr
  have hpos : 0 < 2 ^ fr := Nat.two_pow_pos fr
  have hcl : c < 2 ^ (wd - fr) := by
    have e : 2 ^ wd = 2 ^ fr * 2 ^ (wd - fr) := by rw [← Nat.pow_add]; congr 1; omega
    rw [hc, e] at hj
    exact Nat.lt_of_mul_lt_mul_left hj
  have hbit : ∀ i, a ≤ i → i < a + (wd - fr) → j.testBit (wd - 1 - (i - a)) = c.testBit (wd - fr - 1 - (i - a)) := fun i h1 h2 => by
    rw [hc, Nat.testBit_two_pow_mul, decide_eq_true (show wd - 1 - (i - a) ≥ fr by omega), Bool.true_and]
    congr 1; omega
  have key : (Pat.pre a wd j (wd - fr)).hit h ↔ wordB h a (wd - fr) = c := by
    constructor
    · intro hh
      apply Nat.eq_of_testBit_eq
      intro t
      rw [wordB_test]
      by_cases ht : t < wd - fr
      · rw [decide_eq_true ht, Bool.true_and]
        have h1 := hh (a + (wd - fr - 1 - t)) (by omega) (by show (decide (a ≤ a + (wd - fr - 1 - t)) && decide (a + (wd - fr - 1 - t) < a + (wd - fr))) = true; rw [decide_eq_true (by omega), decide_eq_true (by omega)]; rfl)
        have h2 : ((decide (a ≤ a + (wd - fr - 1 - t)) && decide (a + (wd - fr - 1 - t) < a + (wd - fr))) && j.testBit (wd - 1 - (a + (wd - fr - 1 - t) - a))) = h (a + (wd - fr - 1 - t)) := h1
        rw [decide_eq_true (by omega), decide_eq_true (by omega), hbit _ (by omega) (by omega), show wd - fr - 1 - (a + (wd - fr - 1 - t) - a) = t by omega] at h2
        rw [← h2]; rfl
      · rw [decide_eq_false ht, Bool.false_and]
        exact (Nat.testBit_lt_two_pow (Nat.lt_of_lt_of_le hcl (Nat.pow_le_pow_right (by decide) (by omega)))).symm
    · intro e i hi hm
      have hm' : (decide (a ≤ i) && decide (i < a + (wd - fr))) = true := hm
      rw [Bool.and_eq_true, decide_eq_true_eq, decide_eq_true_eq] at hm'
      show ((decide (a ≤ i) && decide (i < a + (wd - fr))) && j.testBit (wd - 1 - (i - a))) = h i
      rw [decide_eq_true hm'.1, decide_eq_true hm'.2, hbit i hm'.1 hm'.2, ← e, wordB_test, decide_eq_true (by omega), show a + (wd - fr - 1 - (wd - fr - 1 - (i - a))) = i by omega]
      rfl
  rw [key, hN, hc]
  constructor
  · intro e
    rw [e, Nat.mul_comm c]
    omega
  · rintro ⟨h1, h2⟩
    have h3 : 2 ^ fr * wordB h a (wd - fr) < 2 ^ fr * (c + 1) := by rw [Nat.mul_add, Nat.mul_one, Nat.mul_comm]; omega
    have h4 : 2 ^ fr * c < 2 ^ fr * (wordB h a (wd - fr) + 1) := by rw [Nat.mul_add, Nat.mul_one, Nat.mul_comm (2 ^ fr) (wordB h a (wd - fr))]; omega
    have h5 := Nat.lt_of_mul_lt_mul_left h3
    have h6 := Nat.lt_of_mul_lt_mul_left h4
    omega
/-- One block. -/
structure BlkF (a wd hi j : Nat) (p : Pat) : Prop where
  le : rfree j hi ≤ wd
  p : p = Pat.pre a wd j (wd - rfree j hi)
  mod : j % 2 ^ rfree j hi = 0
  lt : j < 2 ^ wd
  fit : j + 2 ^ rfree j hi ≤ hi + 1
theorem blkF {a wd hi j : Nat} (h : j ≤ hi) (hh : hi < 65536) (hw : hi < 2 ^ wd) : BlkF a wd hi j (Pat.pre a wd j (wd - rfree j hi)) := by
  obtain ⟨_, h2, h3⟩ := rfree_spec h hh
  refine ⟨Classical.byContradiction fun hn => ?_, rfl, h2, by omega, h3⟩
  have h4 : 2 ^ (wd + 1) ≤ 2 ^ rfree j hi := Nat.pow_le_pow_right (by decide) (by omega)
  have h5 := Nat.pow_le_pow_right (show 0 < 2 by decide) (show wd ≤ wd + 1 by omega)
  rw [Nat.pow_succ] at h4
  have h6 : j = 0 ∨ 2 ^ rfree j hi ≤ j := by
    obtain ⟨c, hc⟩ := Nat.dvd_of_mod_eq_zero h2
    rcases Nat.eq_zero_or_pos c with h | h
    · left; rw [h, Nat.mul_zero] at hc; exact hc
    · right
      have := Nat.le_mul_of_pos_right (2 ^ rfree j hi) h
      omega
  omega
/-- Exactly one pattern matches a head whose number is in the range, and none another. -/
theorem range_count {a wd hi : Nat} (h : Nat → Bool) (ha : a + wd ≤ 160) (hh : hi < 65536) (hw : hi < 2 ^ wd) : ∀ f j, hi < j + f → ((rangeGo a wd hi f j).countP fun p => decide (p.hit h)) = if j ≤ fieldN h a wd ∧ fieldN h a wd ≤ hi then 1 else 0
  | 0, j, hf => by
    rw [if_neg (by omega)]; rfl
  | f + 1, j, hf => by
    unfold rangeGo
    by_cases hj : j ≤ hi
    · rw [if_pos hj]
      have hb := blkF (a := a) (wd := wd) hj hh hw
      have hp := Nat.two_pow_pos (rfree j hi)
      have ih := range_count h ha hh hw f (j + 2 ^ rfree j hi) (by omega)
      have hk := pre_hit h ha hb.le hb.mod hb.lt
      have hfit := hb.fit
      by_cases hc : (Pat.pre a wd j (wd - rfree j hi)).hit h
      · rw [List.countP_cons_of_pos (by simpa using hc), ih]
        have := hk.1 hc
        have e1 : ¬ (j + 2 ^ rfree j hi ≤ fieldN h a wd ∧ fieldN h a wd ≤ hi) := by omega
        have e2 : j ≤ fieldN h a wd ∧ fieldN h a wd ≤ hi := by omega
        rw [if_neg e1, if_pos e2]
      · rw [List.countP_cons_of_neg (by simpa using hc), ih]
        have hno : ¬ (j ≤ fieldN h a wd ∧ fieldN h a wd < j + 2 ^ rfree j hi) := fun k => hc (hk.2 k)
        by_cases h1 : j + 2 ^ rfree j hi ≤ fieldN h a wd ∧ fieldN h a wd ≤ hi
        · have e2 : j ≤ fieldN h a wd ∧ fieldN h a wd ≤ hi := by omega
          rw [if_pos h1, if_pos e2]
        · have e2 : ¬ (j ≤ fieldN h a wd ∧ fieldN h a wd ≤ hi) := by omega
          rw [if_neg h1, if_neg e2]
    · rw [if_neg hj, if_neg (by omega)]; rfl
/-- Falling: less than a size is left behind a multiple of it. -/
theorem range_fall {a wd hi : Nat} (hh : hi < 65536) : ∀ f x t, x % 2 ^ t = 0 → hi + 1 < x + 2 ^ t → (rangeGo a wd hi f x).length ≤ t
  | 0, _, _, _, _ => Nat.zero_le _
  | f + 1, x, t, h1, h2 => by
    unfold rangeGo
    by_cases hx : x ≤ hi
    · rw [if_pos hx, List.length_cons]
      obtain ⟨_, hm, hfit⟩ := rfree_spec hx hh
      have hrt : rfree x hi < t := Classical.byContradiction fun hn => by
        have := Nat.pow_le_pow_right (show 0 < 2 by decide) (show t ≤ rfree x hi by omega)
        omega
      have hmax : ¬ (x + 2 ^ (rfree x hi + 1) ≤ hi + 1) := fun hc => rfree_max (lo := x) hh ⟨mod_pow_le h1 (by omega), hc⟩
      rw [Nat.pow_succ] at hmax
      have ih := range_fall (a := a) (wd := wd) hh f (x + 2 ^ rfree x hi) (rfree x hi) (by rw [Nat.add_mod_right]; exact hm) (by omega)
      omega
    · rw [if_neg hx]; exact Nat.zero_le _
/-- Rising: up to a multiple of a size. -/
theorem range_rise {a wd hi m t K : Nat} (hh : hi < 65536) (hm : m % 2 ^ t = 0) (hmh : m ≤ hi) (hK : ∀ f, (rangeGo a wd hi f m).length ≤ K) : ∀ f x s, x % 2 ^ s = 0 → x < m → m < x + 2 ^ t → s < t → (rangeGo a wd hi f x).length ≤ t - s + K
  | 0, _, _, _, _, _, _ => Nat.zero_le _
  | f + 1, x, s, h1, h2, h3, h4 => by
    unfold rangeGo
    rw [if_pos (by omega), List.length_cons]
    obtain ⟨_, hmr, hfit⟩ := rfree_spec (show x ≤ hi by omega) hh
    -- x is no multiple of 2^t
    have hxt : ¬ x % 2 ^ t = 0 := fun hc => by
      obtain ⟨c, hc⟩ := Nat.dvd_of_mod_eq_zero hc
      obtain ⟨d, hd⟩ := Nat.dvd_of_mod_eq_zero hm
      rw [hc, hd] at h2 h3
      have h5 : 2 ^ t * d < 2 ^ t * (c + 1) := by rw [Nat.mul_add, Nat.mul_one]; omega
      have := Nat.lt_of_mul_lt_mul_left h2
      have := Nat.lt_of_mul_lt_mul_left h5
      omega
    have hrt : rfree x hi < t := Classical.byContradiction fun hn => hxt (mod_pow_le hmr (by omega))
    -- a step up to the next multiple stays within m
    have hstep : ∀ v, x % 2 ^ v = 0 → v ≤ t → x + 2 ^ v ≤ m := fun v hv hvt => by
      obtain ⟨c, hc⟩ := Nat.dvd_of_mod_eq_zero hv
      obtain ⟨d, hd⟩ := Nat.dvd_of_mod_eq_zero (mod_pow_le hm hvt)
      rw [hc, hd] at h2 ⊢
      have := Nat.lt_of_mul_lt_mul_left h2
      calc 2 ^ v * c + 2 ^ v = 2 ^ v * (c + 1) := by rw [Nat.mul_add, Nat.mul_one]
        _ ≤ 2 ^ v * d := Nat.mul_le_mul_left _ (by omega)
    have hsr : s ≤ rfree x hi := rfree_ge hh h1 (by have := hstep s h1 (by omega); omega)
    have hnext : x + 2 ^ rfree x hi ≤ m := hstep _ hmr (by omega)
    have hodd : ¬ x % 2 ^ (rfree x hi + 1) = 0 := fun hc => rfree_max (lo := x) hh ⟨hc, by have := hstep _ hc (by omega); omega⟩
    have hev : (x + 2 ^ rfree x hi) % 2 ^ (rfree x hi + 1) = 0 := by
      obtain ⟨c, hc⟩ := Nat.dvd_of_mod_eq_zero hmr
      rw [Nat.pow_succ] at hodd ⊢
      rcases Nat.mod_two_eq_zero_or_one c with h | h
      · exfalso; apply hodd
        obtain ⟨d, hd⟩ := Nat.dvd_of_mod_eq_zero h
        rw [hd, ← Nat.mul_assoc] at hc
        exact Nat.mod_eq_zero_of_dvd ⟨d, hc⟩
      · have hd : c + 1 = 2 * (c / 2 + 1) := by omega
        have e : x + 2 ^ rfree x hi = 2 ^ rfree x hi * 2 * (c / 2 + 1) := by
          calc x + 2 ^ rfree x hi = 2 ^ rfree x hi * c + 2 ^ rfree x hi := by rw [← hc]
            _ = 2 ^ rfree x hi * (c + 1) := by rw [Nat.mul_add, Nat.mul_one]
            _ = _ := by rw [hd, Nat.mul_assoc]
        rw [e]; exact Nat.mul_mod_right _ _
    rcases Nat.lt_or_ge (x + 2 ^ rfree x hi) m with hlt | hge
    · have hr1 : rfree x hi + 1 < t := Classical.byContradiction fun hn => by
        have e : rfree x hi + 1 = t := by omega
        rw [e] at hev
        obtain ⟨c, hc⟩ := Nat.dvd_of_mod_eq_zero hev
        obtain ⟨d, hd⟩ := Nat.dvd_of_mod_eq_zero hm
        have hp := Nat.two_pow_pos (rfree x hi)
        rw [hc, hd] at hlt
        have h5 := Nat.lt_of_mul_lt_mul_left hlt
        have h6 : 2 ^ t * (c + 1) ≤ 2 ^ t * d := Nat.mul_le_mul_left _ (by omega)
        rw [Nat.mul_add, Nat.mul_one, ← hc, ← hd] at h6
        omega
      have ih := range_rise hh hm hmh hK f (x + 2 ^ rfree x hi) (rfree x hi + 1) hev hlt (by omega) hr1
      omega
    · have e : x + 2 ^ rfree x hi = m := by omega
      rw [e]
      have := hK f
      omega
theorem range_one {a wd hi x : Nat} (hx : x ≤ hi) (h : x + 2 ^ rfree x hi = hi + 1) (f : Nat) : (rangeGo a wd hi f x).length ≤ 1 := by
  cases f with
  | zero => exact Nat.zero_le _
  | succ f =>
    unfold rangeGo
    rw [if_pos hx, h, rangeGo_none a wd hi (by omega)]
    exact Nat.le_refl _
/-- There are at most 2 * width - 2 patterns, or one. -/
theorem range_few {a wd lo hi : Nat} (hh : hi < 65536) (h1 : 1 ≤ wd) (h4 : lo ≤ hi) (h5 : hi < 2 ^ wd) : (rangeL a wd lo hi).length ≤ max 1 (2 * wd - 2) := by
  have split : ∀ t, hi / 2 ^ t = lo / 2 ^ t → (∀ f, (rangeGo a wd hi f lo).length ≤ max 1 (2 * t - 2)) := by
    intro t
    induction t with
    | zero =>
      intro h f
      rw [Nat.pow_zero, Nat.div_one, Nat.div_one] at h
      refine Nat.le_trans (range_one h4 ?_ f) (by omega)
      obtain ⟨_, _, hfit⟩ := rfree_spec h4 hh
      have := Nat.two_pow_pos (rfree lo hi)
      omega
    | succ t ih =>
      intro h f
      by_cases he : hi / 2 ^ t = lo / 2 ^ t
      · exact Nat.le_trans (ih he f) (by omega)
      · have hp := Nat.two_pow_pos t
        have e1 : hi / 2 ^ t / 2 = lo / 2 ^ t / 2 := by rw [Nat.div_div_eq_div_mul, Nat.div_div_eq_div_mul, ← Nat.pow_succ]; exact h
        have hle : lo / 2 ^ t ≤ hi / 2 ^ t := Nat.div_le_div_right h4
        obtain ⟨c, hc⟩ : ∃ c, lo / 2 ^ t = 2 * c := ⟨lo / 2 ^ t / 2, by omega⟩
        have hc2 : hi / 2 ^ t = 2 * c + 1 := by omega
        have l1 := Nat.div_add_mod lo (2 ^ t)
        have l2 := Nat.div_add_mod hi (2 ^ t)
        have l3 := Nat.mod_lt lo hp
        have l4 := Nat.mod_lt hi hp
        rw [hc] at l1
        rw [hc2, Nat.mul_add, Nat.mul_one] at l2
        obtain ⟨B, hB⟩ : ∃ B, 2 ^ t * (2 * c) = B := ⟨_, rfl⟩
        rw [hB] at l1 l2
        have hBm : B % 2 ^ (t + 1) = 0 := by rw [← hB, ← Nat.mul_assoc, Nat.pow_succ]; exact Nat.mul_mod_right _ _
        have hmm : (B + 2 ^ t) % 2 ^ t = 0 := by rw [Nat.add_mod_right]; exact mod_pow_le hBm (by omega)
        have hfall : ∀ f, (rangeGo a wd hi f (B + 2 ^ t)).length ≤ max 1 t := fun f => by
          rcases Nat.lt_or_ge (hi + 1) (B + 2 ^ t + 2 ^ t) with h | h
          · exact Nat.le_trans (range_fall hh f _ t hmm h) (by omega)
          · refine Nat.le_trans (range_one (by omega) ?_ f) (by omega)
            have hge := rfree_ge hh hmm (show B + 2 ^ t + 2 ^ t ≤ hi + 1 by omega)
            obtain ⟨_, _, hfit⟩ := rfree_spec (show B + 2 ^ t ≤ hi by omega) hh
            have := Nat.pow_le_pow_right (show 0 < 2 by decide) hge
            omega
        rcases Nat.lt_or_ge B lo with hlo | hlo
        · have ht : 0 < t := by
            rcases Nat.eq_zero_or_pos t with h | h
            · have h1 : 2 ^ t = 1 := by rw [h]
              omega
            · exact h
          have g1 : B + 2 ^ t ≤ hi := by omega
          have g2 : lo < B + 2 ^ t := by omega
          have g3 : B + 2 ^ t < lo + 2 ^ t := by omega
          have := range_rise (a := a) (wd := wd) hh hmm g1 hfall f lo 0 (by rw [Nat.pow_zero]; exact Nat.mod_one _) g2 g3 ht
          omega
        · have e : lo = B := by omega
          rcases Nat.lt_or_ge (hi + 1) (B + 2 ^ (t + 1)) with h | h
          · have := range_fall (a := a) (wd := wd) hh f lo (t + 1) (by rw [e]; exact hBm) (by rw [e]; exact h)
            rcases Nat.eq_zero_or_pos t with h0 | h0
            · omega
            · omega
          · have hge := rfree_ge (lo := lo) hh (by rw [e]; exact hBm) (show lo + 2 ^ (t + 1) ≤ hi + 1 by omega)
            obtain ⟨_, _, hfit⟩ := rfree_spec h4 hh
            have hpp := Nat.pow_le_pow_right (show 0 < 2 by decide) hge
            rw [Nat.pow_succ] at hpp h
            exact Nat.le_trans (range_one h4 (by omega) f) (by omega)
  have h0 : hi / 2 ^ wd = lo / 2 ^ wd := by rw [Nat.div_eq_of_lt h5, Nat.div_eq_of_lt (by omega)]
  exact split wd h0 65537
end Go.Proofs.YtbgndopgllnmaaaDoor

/-
  Contract of the walk over Range. Conditions: none.
-/

namespace Go.Proofs.YtbgndopgllnmaaaDoor
set_option linter.unusedVariables false
set_option linter.unusedSimpArgs false
open Go.RowKit

theorem H_rep : H no = List.replicate 10 (nV 0) := by
  unfold H HN
  rw [List.map_map]
  rfl
theorem H_word {f : Nat → Bool} {q x : Nat} (h : ∀ v, word f v = if v = q then x else 0) : H f = (List.range 10).map fun v => nV (if v = q then x else 0) := by
  unfold H HN
  rw [List.map_map]
  exact List.map_congr_left fun v _ => by show nV (word f v) = _; rw [h]
theorem put_m {x : Nat} {L : List Value} : ∀ {q : Nat}, q < 10 → splice (List.replicate 10 (nV 0) ++ L) q [nV x] = ((List.range 10).map fun v => nV (if v = q then x else 0)) ++ L
  | 0, _ => rfl
  | 1, _ => rfl
  | 2, _ => rfl
  | 3, _ => rfl
  | 4, _ => rfl
  | 5, _ => rfl
  | 6, _ => rfl
  | 7, _ => rfl
  | 8, _ => rfl
  | 9, _ => rfl
  | q + 10, h => by omega
theorem put_b {x : Nat} {a0 a1 a2 a3 a4 a5 a6 a7 a8 a9 : Value} : ∀ {q : Nat}, q < 10 → splice ([a0, a1, a2, a3, a4, a5, a6, a7, a8, a9] ++ List.replicate 10 (nV 0)) (10 + q) [nV x] = [a0, a1, a2, a3, a4, a5, a6, a7, a8, a9] ++ ((List.range 10).map fun v => nV (if v = q then x else 0))
  | 0, _ => rfl
  | 1, _ => rfl
  | 2, _ => rfl
  | 3, _ => rfl
  | 4, _ => rfl
  | 5, _ => rfl
  | 6, _ => rfl
  | 7, _ => rfl
  | 8, _ => rfl
  | 9, _ => rfl
  | q + 10, h => by omega
theorem cells_put_m {f : Nat → Bool} {q x : Nat} (hq : q < 10) (h : ∀ v, word f v = if v = q then x else 0) : splice Pat.zero.cells q [.int .i64 (x : Int)] = (⟨f, no⟩ : Pat).cells := by
  show splice (H no ++ H no) q [nV x] = H f ++ H no
  rw [H_word h, ← put_m hq, H_rep]
theorem cells_put_b {f g : Nat → Bool} {q x : Nat} (hq : q < 10) (h : ∀ v, word g v = if v = q then x else 0) : splice (⟨f, no⟩ : Pat).cells (10 + q) [.int .i64 (x : Int)] = (⟨f, g⟩ : Pat).cells := by
  show splice (H f ++ H no) (10 + q) [nV x] = H f ++ H g
  obtain ⟨a0, a1, a2, a3, a4, a5, a6, a7, a8, a9, e⟩ := list10 (H_length f)
  rw [H_word h, e, ← put_b hq, H_rep]
structure RgI (a wd lo hi : Nat) (w : World) (j : Nat) (D : List Pat) (A : Option Addr) (c : Nat) (wr : World) : Prop where
  own : wr.ownsRow w.heap.size 48 20 (.slice A D.length c) D.length (patCells D)
  all : ∃ f, 65536 < f + j ∧ D ++ rangeGo a wd hi f j = rangeL a wd lo hi
  lo : lo ≤ j ∧ j ≤ hi + 1 ∧ D.length + lo ≤ j
  below : Below w.heap.size w wr
def RgRel (a wd lo hi : Nat) (w : World) (lv jv : Value) (wr : World) : Prop :=
  ∃ (j : Nat) (D : List Pat) (A : Option Addr) (c : Nat), jv = .int .i64 (j : Int) ∧ lv = .slice A D.length c ∧ RgI a wd lo hi w j D A c wr
set_option maxRecDepth 100000 in
set_option maxHeartbeats 1600000 in
theorem range_any (a wd lo hi : Nat) (w : World) (h1 : 1 ≤ wd) (h2 : a % 16 + wd ≤ 16) (h3 : a + wd ≤ 160) (h4 : lo ≤ hi) (h5 : hi < 2 ^ wd) :
    Calls Tryd.prog 58 #[.int .i64 (a : Int), .int .i64 (wd : Int), .int .i64 (lo : Int), .int .i64 (hi : Int)] w fun e w' => ∃ A c, e = .returned (.tuple #[.slice A (rangeL a wd lo hi).length c, .int .i64 0]) ∧ w'.ownsRow w.heap.size 48 20 (.slice A (rangeL a wd lo hi).length c) (rangeL a wd lo hi).length (patCells (rangeL a wd lo hi)) ∧ Below w.heap.size w w' := by
  obtain ⟨i0, hi0, hz0, hz1, hz2⟩ := info_parts Tryd.infoPt
  have HI := Lib.hid hi0
  have HZ0 := Lib.hid hz0
  have HZ1 := Lib.hid hz1
  have HZ2 := Lib.hid hz2
  have hzs : (Value.agg (H no ++ H no).toArray).cells.size = 20 := by
    show (H no ++ H no).toArray.size = 20
    rw [List.size_toArray, List.length_append, H_length]
  have HZS := Lib.hid hzs
  clear hi0 hz0 hz1 hz2 hzs
  obtain ⟨R, hR⟩ : ∃ R, Hid (rangeL a wd lo hi = R) := ⟨_, rfl⟩
  rw [hR.out]
  have hpw : 2 ^ wd ≤ 65536 := Nat.pow_le_pow_right (by decide) (show wd ≤ 16 by omega)
  obtain ⟨r, hr⟩ : ∃ r : Nat, Hid (a % 16 = r) := ⟨_, rfl⟩
  have hrd : (a : Int).tmod 16 = (r : Int) := by rw [Int.tmod_eq_emod_of_nonneg (by omega), ← hr.out]; rfl
  have hr16 : r + wd ≤ 16 := by rw [← hr.out]; exact h2
  have hi16 : hi < 65536 := by omega
  obtain ⟨PW, hPW⟩ : ∃ PW : Nat, Hid (2 ^ wd = PW) := ⟨_, rfl⟩
  have hsh : ((2 : Int) ^ wd) = (PW : Int) := by rw [← hPW.out, Int.natCast_pow]; rfl
  have hPWl : PW ≤ 65536 := by rw [← hPW.out]; exact hpw
  have hhi : hi < PW := by rw [← hPW.out]; exact h5
  have H2 := Lib.hid h2
  have H5 := Lib.hid h5
  clear hpw h2 h5
  go_enter Tryd.func58, Tryd.ntmps58
  have e1 : ¬ ((wd : Int) < 1) := by omega
  have e2 : ¬ ((wd : Int) > 16) := by omega
  have e3 : ¬ ((a : Int) < 0) := by omega
  have e4 : ¬ ((a : Int) > 160 - (wd : Int)) := by omega
  have e5 : ¬ ((r : Int) + (wd : Int) > 16) := by omega
  have e6 : ¬ ((lo : Int) < 0) := by omega
  have e7 : ¬ ((lo : Int) > (hi : Int)) := by omega
  have e8 : ¬ ((hi : Int) ≥ (PW : Int)) := by omega
  obtain ⟨s, hs⟩ : ∃ s : Nat, Hid (16 - r - wd = s) := ⟨_, rfl⟩
  have hsI : (16 : Int) - (r : Int) - (wd : Int) = (s : Int) := by rw [← hs.out]; omega
  have hw1 : IntKind.i64.wrap ((16 : Int) - (r : Int)) = (16 : Int) - (r : Int) := by simp only [IntKind.wrap_i64]; omega
  have hw2 : IntKind.i64.wrap (s : Int) = (s : Int) := by have := hs.out; simp only [IntKind.wrap_i64]; omega
  have H0 : Hid (RgI a wd lo hi w lo [] none 0 w) := by
    have : RgI a wd lo hi w lo [] none 0 w := ⟨World.ownsRow_nil _ _ _ _, ⟨65537, by omega, rfl⟩, ⟨Nat.le_refl _, by omega, by simp⟩, Below.refl _ _⟩
    exact this
  go_wp2
  go_loopw [10, 2] (RgRel a wd lo hi w) (fun _ i _ => hi + 1 - (intOf i).toNat)
  case atStart => exact ⟨lo, [], none, 0, rfl, rfl, H0.out⟩
  case round =>
    clear H0
    obtain ⟨j, D, A, c, rfl, rfl, hL⟩ := hrel
    have HL := Lib.hid hL
    clear hL
    by_cases hjh : j ≤ hi
    · have hji : (j : Int) ≤ (hi : Int) := by omega
      obtain ⟨m, hm⟩ : ∃ m, Hid (D.length = m) := ⟨_, rfl⟩
      obtain ⟨X, hX⟩ : ∃ X, Hid (Pat.pre a wd j (wd - rfree j hi) = X) := ⟨_, rfl⟩
      have hfs := rfree_spec hjh hi16
      obtain ⟨Z, hZ⟩ : ∃ Z : Nat, Hid (2 ^ rfree j hi = Z) := ⟨_, rfl⟩
      have hblk := fun w => block_any j hi w hjh hi16
      rw [hZ.out] at hblk hfs
      have HBK := Lib.hid hblk
      have HFS := Lib.hid hfs
      have hZl : Z ≤ PW := by have := hfs.2.2; omega
      obtain ⟨q, hq⟩ : ∃ q : Nat, Hid (a / 16 = q) := ⟨_, rfl⟩
      have hqd : (a : Int).tdiv 16 = (q : Int) := by rw [Int.tdiv_eq_ediv_of_nonneg (by omega), ← hq.out]; rfl
      have hq10 : q < 10 := by have := hq.out; omega
      have hq0 : (0 : Int) ≤ (q : Int) := by omega
      have hq10i : (q : Int) < 10 := by omega
      have hwq : IntKind.i64.wrap (q : Int) = (q : Int) := by simp only [IntKind.wrap_i64]; omega
      have hwz : IntKind.i64.wrap ((PW : Int) - (Z : Int)) = (PW : Int) - (Z : Int) := by simp only [IntKind.wrap_i64]; omega
      obtain ⟨SP, hSP⟩ : ∃ SP : Nat, Hid (2 ^ s = SP) := ⟨_, rfl⟩
      have hsp : ((2 : Int) ^ s) = (SP : Int) := by rw [← hSP.out, Int.natCast_pow]; rfl
      have hSP1 : PW * SP ≤ 65536 := by
        rw [← hPW.out, ← hSP.out, ← Nat.pow_add]
        exact Nat.pow_le_pow_right (by decide) (show wd + s ≤ 16 by have := hs.out; omega)
      obtain ⟨MV, hMV⟩ : ∃ MV : Nat, Hid ((PW - Z) * SP = MV) := ⟨_, rfl⟩
      obtain ⟨BV, hBV⟩ : ∃ BV : Nat, Hid (j * SP = BV) := ⟨_, rfl⟩
      have hMVl : MV ≤ 65536 := by rw [← hMV.out]; exact Nat.le_trans (Nat.mul_le_mul_right _ (by omega)) hSP1
      have hBVl : BV ≤ 65536 := by rw [← hBV.out]; exact Nat.le_trans (Nat.mul_le_mul_right _ (by omega)) hSP1
      have hmv : ((PW : Int) - (Z : Int)) * (SP : Int) = (MV : Int) := by rw [← hMV.out, Int.natCast_mul, Int.natCast_sub hZl]
      have hbv : (j : Int) * (SP : Int) = (BV : Int) := by rw [← hBV.out, Int.natCast_mul]
      have hwm : IntKind.i64.wrap (MV : Int) = (MV : Int) := by simp only [IntKind.wrap_i64]; omega
      have hwb : IntKind.i64.wrap (BV : Int) = (BV : Int) := by simp only [IntKind.wrap_i64]; omega
      have hjZ : j + Z ≤ hi + 1 := HFS.out.2.2
      have hwj : IntKind.i64.wrap ((j : Int) + (Z : Int)) = (j : Int) + (Z : Int) := by simp only [IntKind.wrap_i64]; omega
      have hfw : rfree j hi ≤ wd := Classical.byContradiction fun hn => by
        have h1 : 2 ^ (wd + 1) ≤ 2 ^ rfree j hi := Nat.pow_le_pow_right (by decide) (by omega)
        rw [hZ.out, Nat.pow_succ, hPW.out] at h1
        omega
      have hwm' : ∀ v, word X.m v = if v = q then MV else 0 := fun v => by
        rw [← hX.out, pre_m_word H2.out hfw, hq.out, hr.out, hs.out, hPW.out, hZ.out, hSP.out, hMV.out]
      have hwb' : ∀ v, word X.b v = if v = q then BV else 0 := fun v => by
        rw [← hX.out, pre_b_word H2.out hfw (by rw [hZ.out]; exact HFS.out.2.1) (by rw [hPW.out]; omega), hq.out, hr.out, hs.out, hSP.out, hBV.out]
      have HWM := Lib.hid hwm'
      have HWB := Lib.hid hwb'
      have hm1 : m + 1 ≤ 65537 := by have := HL.out.lo; rw [hm.out] at this; omega
      have hZ1 : 1 ≤ Z := by rw [← hZ.out]; exact Nat.one_le_two_pow
      obtain ⟨Y, hY⟩ : ∃ Y, Hid (patCells D = Y) := ⟨_, rfl⟩
      have how := HL.out.own
      rw [hm.out, hY.out] at how
      have HOW := Lib.hid how
      have HBE := Lib.hid HL.out.below
      rw [hm.out]
      clear hblk hfs hwm' hwb' how
      go_wp2_with fail
      (with_reducible refine (HBK.out _).mono ?_)
      rintro e w4 ⟨rfl, rfl⟩
      go_wp2_with (with_reducible refine wpList_alloc (o := ⟨some 13, .alloc 48, _, _, _, _⟩) (by with_unfolding_all rfl) 48 (by with_unfolding_all rfl) (.agg (H no ++ H no).toArray) (H no ++ H no) (by exact Tryd.zeroPt) (by with_unfolding_all rfl) ?_)
      intro g w5 hg hs5 hb5 hB5
      rw [cells_zero] at hB5
      have hgw : wr.heap.size ≤ g := Nat.le_of_eq hg.out.symm
      have hb5' := hb5.mono hgw
      clear hb5 hs5 hg
      go_wp2_with (with_reducible refine wpList_put (o := ⟨none, .store 3 (.tmp 70) (.tmp 68), _, _, _, _⟩) (by with_unfolding_all rfl) 3 (.tmp 70) (.tmp 68) (by with_unfolding_all rfl) g q (by with_unfolding_all rfl) (.int .i64 (MV : Int)) (by with_unfolding_all rfl) hB5 [.int .i64 (MV : Int)] (by with_unfolding_all rfl) (by with_unfolding_all (exact Tryd.szI)) (by with_unfolding_all (rw [Pat.cells_length]; show q + 1 ≤ 20; omega)) (by with_unfolding_all (exact one_cell1 rfl)) ?_)
      intro w6 hu6 hB6
      rw [cells_put_m hq10 HWM.out] at hB6
      have hb6 := hb5'.trans (hu6.below (B := wr.heap.size) hgw)
      clear hb5' hu6 hB5
      go_wp2_with (with_reducible refine wpList_put (o := ⟨none, .store 3 (.tmp 77) (.tmp 75), _, _, _, _⟩) (by with_unfolding_all rfl) 3 (.tmp 77) (.tmp 75) (by with_unfolding_all rfl) g (10 + q) (by with_unfolding_all rfl) (.int .i64 (BV : Int)) (by with_unfolding_all rfl) hB6 [.int .i64 (BV : Int)] (by with_unfolding_all rfl) (by with_unfolding_all (exact Tryd.szI)) (by with_unfolding_all (rw [Pat.cells_length]; show 10 + q + 1 ≤ 20; omega)) (by with_unfolding_all (exact one_cell1 rfl)) ?_)
      intro w7 hu7 hB7
      rw [cells_put_b hq10 HWB.out] at hB7
      have hB7' : Blk w7 g 48 X.cells := hB7
      have hb7 := hb6.trans (hu7.below (B := wr.heap.size) hgw)
      clear hb6 hu7 hB6 hB7
      go_wp2_with (first | (with_reducible refine wpList_get (o := ⟨some 79, .load 48 (.tmp 13), _, _, _, _⟩) (by with_unfolding_all rfl) 48 (.tmp 13) (by with_unfolding_all rfl) g 0 (by with_unfolding_all rfl) hB7' X.cells (cs_all _) _ (by exact Tryd.underlying48) (by with_unfolding_all rfl) (by rw [Pat.cells_length]; exact Tryd.szP) ?_) | (with_reducible refine wpList_slicePat (o := ⟨some 80, .buildSlice 51 1 #[(0, .tmp 79)], _, _, _, _⟩) (by with_unfolding_all rfl) (.tmp 79) (by with_unfolding_all rfl) X.cells (by with_unfolding_all rfl) (Pat.cells_length _) ?_))
      intro g80 w8 hg80 hb8 hB80
      have hb8' := below_join hb7 hb8
      have HOW8 := Lib.hid (own_keep HOW.out (fun g hg => hb8'.block g (HOW.out.lt g hg).2))
      have HNW := Lib.hid (blk_add hB80)
      have HBE8 := Lib.hid (below_join HBE.out hb8')
      have hxl : X.cells.length = 1 * 20 := by rw [Pat.cells_length]
      have HXL := Lib.hid hxl
      have hmx : m + 1 ≤ maxLen := by unfold maxLen; omega
      have HMX := Lib.hid hmx
      have hby : (m + 1) * 160 ≤ 140737488355328 := by omega
      have HBY := Lib.hid hby
      have HBC := Lib.hid HBE8.out.size
      clear hxl hmx hby hB80 hg80 hb8 hb7 hB7'
      go_wp2_with (with_reducible refine wpList_appendN w8 (o := ⟨some 81, .call ⟨.builtin .append, #[.tmp 78, .tmp 80], #[51, 51]⟩, _, _, _, _⟩) (by with_unfolding_all rfl) (.tmp 78) (.tmp 80) 51 (by with_unfolding_all rfl) w.heap.size 48 i0 (.agg (H no ++ H no).toArray) 20 160 Tryd.underlying51 HI.out HZ0.out HZ1.out HZ2.out HZS.out (by decide) (.slice A m c) m Y (by with_unfolding_all rfl) HOW8.out ⟨g80, 0, none⟩ 1 1 X.cells (by with_unfolding_all rfl) HXL.out HNW.out (cells_one _) HMX.out HBY.out HBC.out ?_)
      intro v9 w9 hown9 hgr9 hnew9
      obtain ⟨A9, c9, rfl, _⟩ := own_shape hown9
      have hb9 := HBE8.out.grown hgr9 HBC.out (fun g hg => (HOW8.out.lt g hg).1)
      have hDl : (D ++ [X]).length = m + 1 := by rw [List.length_append, List.length_singleton, hm.out]
      have hall : ∃ f, 65536 < f + (j + Z) ∧ (D ++ [X]) ++ rangeGo a wd hi f (j + Z) = rangeL a wd lo hi := by
        obtain ⟨f, hf1, hf2⟩ := HL.out.all
        obtain ⟨f, rfl⟩ : ∃ f', f = f' + 1 := ⟨f - 1, by omega⟩
        refine ⟨f, by omega, ?_⟩
        rw [← hf2]
        show _ = D ++ (if j ≤ hi then Pat.pre a wd j (wd - rfree j hi) :: rangeGo a wd hi f (j + 2 ^ rfree j hi) else [])
        rw [if_pos hjh, hX.out, hZ.out, List.append_assoc]; rfl
      have hI9 : RgI a wd lo hi w (j + Z) (D ++ [X]) A9 c9 w9 := ⟨by rw [hDl, patCells_snoc, hY.out]; exact hown9, hall, by rw [hDl]; have := HL.out.lo; rw [hm.out] at this; omega, hb9⟩
      have HI9 := Lib.hid hI9
      have HDL := Lib.hid hDl
      clear hown9 hgr9 hnew9 hb9 hDl hall hI9 HOW HOW8 HL
      go_wp2
      go_roundw
      case rel => exact ⟨j + Z, D ++ [X], A9, c9, by go_num, by rw [HDL.out], HI9.out⟩
      case measure => simp [intOf]; omega
    · have hji : ¬ ((j : Int) ≤ (hi : Int)) := by omega
      have hDR : Hid (D = R) := by
        have : D = R := by
          obtain ⟨f, hf1, hf2⟩ := HL.out.all
          rw [rangeGo_none a wd hi (by omega), List.append_nil, hR.out] at hf2
          exact hf2
        exact this
      obtain rfl := hDR.out
      have HO := Lib.hid HL.out.own
      have HBE := Lib.hid HL.out.below
      go_wp2
      go_ret2
      exact ⟨A, c, rfl, HO.out, HBE.out⟩
end Go.Proofs.YtbgndopgllnmaaaDoor

/-
  Fields in plain words: their numbers, what a set makes of a head, what their patterns match. Conditions: fields that lie in a word.
-/
namespace Go.Proofs.YtbgndopgllnmaaaDoor
set_option linter.unusedVariables false
set_option linter.unusedSimpArgs false
open Go.RowKit

/-- It lies in one word of a head. -/
structure Lies (a n : Nat) : Prop where
  one : 1 ≤ n
  word : a % 16 + n ≤ 16
  at_ : a < 160
theorem Lies.head {a n : Nat} (h : Lies a n) : a + n ≤ 160 := by have := h.word; have := h.at_; omega
theorem Lies.q {a n : Nat} (h : Lies a n) : a / 16 < 10 := by have := h.at_; omega
theorem Lies.le {a n : Nat} (h : Lies a n) : n ≤ 16 := by have := h.word; omega
theorem Lies.pow {a n : Nat} (h : Lies a n) : 2 ^ n ≤ 65536 := by
  have := Nat.pow_le_pow_right (show 0 < 2 by decide) h.le
  simpa using this
/-- How a value is shifted in its word. -/
def shiftN (a n : Nat) : Nat := 16 - a % 16 - n
theorem fieldN_lt (f : Nat → Bool) (a n : Nat) : fieldN f a n < 2 ^ n := wordB_lt f a n
/-- A word in three parts. -/
theorem word_parts (f : Nat → Bool) {a n : Nat} (h : Lies a n) : word f (a / 16) = (wordB f (16 * (a / 16)) (a % 16) * 2 ^ n + fieldN f a n) * 2 ^ shiftN a n + wordB f (a + n) (shiftN a n) := by
  have hw := h.word
  have e1 := wordB_add f (16 * (a / 16)) (a % 16) (n + shiftN a n)
  rw [show a % 16 + (n + shiftN a n) = 16 by unfold shiftN; omega, show 16 * (a / 16) + a % 16 = a by omega] at e1
  have e2 := wordB_add f a n (shiftN a n)
  unfold word
  rw [e1, e2, Nat.pow_add, Nat.add_mul, Nat.mul_assoc, Nat.add_assoc]
  rfl
/-- A value as it is read. -/
theorem get_word (f : Nat → Bool) {a n : Nat} (h : Lies a n) : word f (a / 16) / 2 ^ shiftN a n % 2 ^ n = fieldN f a n := by
  have hl := wordB_lt f (a + n) (shiftN a n)
  have hp := Nat.two_pow_pos (shiftN a n)
  rw [word_parts f h, Nat.add_comm _ (wordB f (a + n) (shiftN a n)), Nat.add_mul_div_right _ _ hp, Nat.div_eq_of_lt hl, Nat.zero_add, Nat.add_comm, Nat.add_mul_mod_self_right, Nat.mod_eq_of_lt (fieldN_lt f a n)]
/-- The head in which a field is x. -/
def setF (a n x : Nat) (f : Nat → Bool) : Nat → Bool := (Pat.pre a n x n).app f
theorem setF_in {a n x : Nat} (f : Nat → Bool) {i : Nat} (h1 : a ≤ i) (h2 : i < a + n) : setF a n x f i = x.testBit (n - 1 - (i - a)) := by
  show ((f i && !(decide (a ≤ i) && decide (i < a + n))) || ((decide (a ≤ i) && decide (i < a + n)) && x.testBit (n - 1 - (i - a)))) = _
  rw [decide_eq_true h1, decide_eq_true h2]
  simp
theorem setF_out {a n x : Nat} (f : Nat → Bool) {i : Nat} (h : i < a ∨ a + n ≤ i) : setF a n x f i = f i := by
  show ((f i && !(decide (a ≤ i) && decide (i < a + n))) || ((decide (a ≤ i) && decide (i < a + n)) && x.testBit (n - 1 - (i - a)))) = _
  have : (decide (a ≤ i) && decide (i < a + n)) = false := by
    rw [Bool.and_eq_false_iff, decide_eq_false_iff_not, decide_eq_false_iff_not]; omega
  rw [this]
  simp
theorem setF_get {a n x : Nat} (f : Nat → Bool) (hx : x < 2 ^ n) : fieldN (setF a n x f) a n = x := by
  apply Nat.eq_of_testBit_eq
  intro j
  unfold fieldN
  rw [wordB_test]
  by_cases hj : j < n
  · rw [decide_eq_true hj, Bool.true_and, setF_in f (by omega) (by omega), show n - 1 - (a + (n - 1 - j) - a) = j by omega]
  · rw [decide_eq_false hj, Bool.false_and]
    exact (Nat.testBit_lt_two_pow (Nat.lt_of_lt_of_le hx (Nat.pow_le_pow_right (by decide) (by omega)))).symm
theorem setF_other {a n x b m : Nat} (f : Nat → Bool) (h : a + n ≤ b ∨ b + m ≤ a) : fieldN (setF a n x f) b m = fieldN f b m :=
  wordB_congr fun j hj => setF_out f (by omega)
theorem setF_same {a n : Nat} (f : Nat → Bool) (i : Nat) : setF a n (fieldN f a n) f i = f i := by
  by_cases h : a ≤ i ∧ i < a + n
  · rw [setF_in f h.1 h.2]
    unfold fieldN
    rw [wordB_test, decide_eq_true (by omega), Bool.true_and, show a + (n - 1 - (n - 1 - (i - a))) = i by omega]
  · exact setF_out f (by omega)
theorem setF_back {a n x : Nat} (f : Nat → Bool) (i : Nat) : setF a n (fieldN f a n) (setF a n x f) i = f i := by
  by_cases h : a ≤ i ∧ i < a + n
  · rw [setF_in _ h.1 h.2]
    unfold fieldN
    rw [wordB_test, decide_eq_true (by omega), Bool.true_and, show a + (n - 1 - (n - 1 - (i - a))) = i by omega]
  · rw [setF_out _ (by omega), setF_out _ (by omega)]
/-- The word as the specification sets it. -/
theorem set_word {a n x : Nat} (f : Nat → Bool) (h : Lies a n) (hx : x < 2 ^ n) : (word f (a / 16) : Int) + ((x : Int) - (fieldN f a n : Int)) * ((2 ^ shiftN a n : Nat) : Int) = (word (setF a n x f) (a / 16) : Int) := by
  have hw := h.word
  have e1 := word_parts f h
  have e2 := word_parts (setF a n x f) h
  rw [setF_get f hx] at e2
  have e3 : wordB (setF a n x f) (16 * (a / 16)) (a % 16) = wordB f (16 * (a / 16)) (a % 16) := wordB_congr fun j hj => setF_out f (by omega)
  have e4 : wordB (setF a n x f) (a + n) (shiftN a n) = wordB f (a + n) (shiftN a n) := wordB_congr fun j hj => setF_out f (by omega)
  rw [e3, e4] at e2
  rw [e1, e2]
  generalize wordB f (16 * (a / 16)) (a % 16) = A
  generalize wordB f (a + n) (shiftN a n) = B
  generalize 2 ^ shiftN a n = S
  generalize fieldN f a n = F
  generalize 2 ^ n = N
  push_cast
  rw [Int.sub_mul, Int.add_mul, Int.add_mul]
  omega
theorem set_words {a n x : Nat} (f : Nat → Bool) (h : Lies a n) : (H f).set (a / 16) (.int .i64 (word (setF a n x f) (a / 16) : Int)) = H (setF a n x f) := by
  have hw := h.word
  rw [H_set f (setF a n x f) h.q]
  refine H_congr fun i _ => ?_
  split
  · rfl
  · exact (setF_out f (by omega)).symm
theorem setF_congr {a n x : Nat} {f g : Nat → Bool} (h : ∀ i, i < 160 → f i = g i) : ∀ i, i < 160 → setF a n x f i = setF a n x g i := fun i hi => by
  by_cases hc : a ≤ i ∧ i < a + n
  · rw [setF_in f hc.1 hc.2, setF_in g hc.1 hc.2]
  · rw [setF_out f (by omega), setF_out g (by omega)]; exact h i hi
/-- The first bits alone are left of a number. -/
theorem and_high {n fr x : Nat} (hf : fr ≤ n) (hx : x < 2 ^ n) : x &&& (2 ^ n - 2 ^ fr) = x / 2 ^ fr * 2 ^ fr := by
  apply Nat.eq_of_testBit_eq
  intro j
  rw [Nat.testBit_and, show 2 ^ n - 2 ^ fr = 2 ^ fr * (2 ^ (n - fr) - 1) by
    rw [show 2 ^ n = 2 ^ fr * 2 ^ (n - fr) by rw [← Nat.pow_add]; congr 1; omega, Nat.mul_sub (2 ^ fr), Nat.mul_one], Nat.testBit_two_pow_mul, Nat.testBit_two_pow_sub_one, Nat.mul_comm (x / 2 ^ fr), Nat.testBit_two_pow_mul, Nat.testBit_div_two_pow]
  by_cases hj : fr ≤ j
  · rw [decide_eq_true (show j ≥ fr from hj), Bool.true_and, Bool.true_and, show j - fr + fr = j by omega]
    by_cases hn : j < n
    · rw [decide_eq_true (show j - fr < n - fr by omega), Bool.and_true]
    · rw [Nat.testBit_lt_two_pow (Nat.lt_of_lt_of_le hx (Nat.pow_le_pow_right (by decide) (by omega))), Bool.false_and]
  · rw [decide_eq_false (show ¬ j ≥ fr from hj)]
    simp
theorem div_mod_zero (x fr : Nat) : x / 2 ^ fr * 2 ^ fr % 2 ^ fr = 0 := Nat.mul_mod_left _ _
theorem div_mul_le' (x fr : Nat) : x / 2 ^ fr * 2 ^ fr ≤ x := Nat.div_mul_le_self _ _
theorem all_high {n fr : Nat} (hf : fr ≤ n) : (2 ^ n - 1) / 2 ^ fr * 2 ^ fr = 2 ^ n - 2 ^ fr := by
  have h := and_high hf (show 2 ^ n - 1 < 2 ^ n by have := Nat.two_pow_pos n; omega)
  rw [← h]
  have hle := Nat.pow_le_pow_right (show 0 < 2 by decide) hf
  have hp := Nat.two_pow_pos fr
  rw [Nat.and_comm, Nat.and_two_pow_sub_one_eq_mod, Nat.mod_eq_of_lt (by omega)]
/-- The pattern of the first bits of a number does not ask for the others. -/
theorem pre_cut {a n x m : Nat} (hm : m ≤ n) : (Pat.pre a n (x / 2 ^ (n - m) * 2 ^ (n - m)) m).alike (Pat.pre a n x m) := by
  refine ⟨fun i _ => rfl, fun i _ => ?_⟩
  show ((decide (a ≤ i) && decide (i < a + m)) && (x / 2 ^ (n - m) * 2 ^ (n - m)).testBit (n - 1 - (i - a))) = ((decide (a ≤ i) && decide (i < a + m)) && x.testBit (n - 1 - (i - a)))
  by_cases h : a ≤ i ∧ i < a + m
  · rw [decide_eq_true h.1, decide_eq_true h.2, Nat.mul_comm, Nat.testBit_two_pow_mul, Nat.testBit_div_two_pow, decide_eq_true (by omega), show n - 1 - (i - a) - (n - m) + (n - m) = n - 1 - (i - a) by omega, Bool.true_and]
    rfl
  · have : (decide (a ≤ i) && decide (i < a + m)) = false := by
      rw [Bool.and_eq_false_iff, decide_eq_false_iff_not, decide_eq_false_iff_not]; omega
    rw [this, Bool.false_and, Bool.false_and]
/-- It matches the heads whose values begin so. -/
theorem pre_match {a n x m : Nat} (f : Nat → Bool) (h : Lies a n) (hm : m ≤ n) (hx : x < 2 ^ n) : (Pat.pre a n x m).hit f ↔ fieldN f a n / 2 ^ (n - m) = x / 2 ^ (n - m) := by
  have hp := Nat.two_pow_pos (n - m)
  have hc := pre_cut (a := a) (x := x) hm
  have e : (Pat.pre a n x m).hit f ↔ (Pat.pre a n (x / 2 ^ (n - m) * 2 ^ (n - m)) (n - (n - m))).hit f := by
    rw [show n - (n - m) = m by omega]
    exact ⟨fun k i hi hmi => by rw [hc.2 i hi]; exact k i hi hmi, fun k i hi hmi => by rw [← hc.2 i hi]; exact k i hi hmi⟩
  rw [e, pre_hit f h.head (Nat.sub_le _ _) (div_mod_zero _ _) (Nat.lt_of_le_of_lt (div_mul_le' _ _) hx)]
  generalize fieldN f a n = F
  generalize 2 ^ (n - m) = S at hp
  constructor
  · rintro ⟨h1, h2⟩
    rw [Nat.div_eq_iff hp]
    omega
  · intro h1
    rw [Nat.div_eq_iff hp] at h1
    omega
end Go.Proofs.YtbgndopgllnmaaaDoor

/-
  Contracts of the walks over lies, place and Max. Conditions: for place and Max a field that lies in a word.
-/
namespace Go.Proofs.YtbgndopgllnmaaaDoor
set_option linter.unusedVariables false
set_option linter.unusedSimpArgs false
open Go.RowKit

theorem Tryd.szF : (Tryd.prog.info? 33).map (·.size) = some 3 := by kernel_rfl
theorem Tryd.szI1 : (Tryd.prog.info? 3).map (·.size) = some 1 := by kernel_rfl
theorem Tryd.zeroF : (Tryd.prog.info? 33).map (·.zero) = some (some (.agg #[.string ByteArray.empty, .int .i64 0, .int .i64 0])) := by kernel_rfl
/-- A field as cells. -/
def fC (s : ByteArray) (a n : Int) : List Value := [.string s, .int .i64 a, .int .i64 n]
/-- Whether its bits lie in one word of a head. -/
def liesB (a n : Int) : Bool := decide (1 ≤ n) && decide (n ≤ 16) && decide (0 ≤ a) && decide (a < 160) && decide (a % 16 + n ≤ 16)
theorem liesB_nat {a n : Nat} (h : Lies a n) : liesB a n = true := by
  have := h.one; have := h.word; have := h.at_
  unfold liesB
  rw [decide_eq_true (by omega), decide_eq_true (by omega), decide_eq_true (by omega), decide_eq_true (by omega), decide_eq_true (by omega)]
  rfl
set_option maxRecDepth 100000 in
set_option maxHeartbeats 1600000 in
theorem lies_any (s : ByteArray) (a n : Int) (w : World) :
    Calls Tryd.prog 44 #[.agg #[.string s, .int .i64 a, .int .i64 n]] w fun e w' => e = .returned (.bool (liesB a n)) ∧ Below w.heap.size w w' := by
  obtain ⟨C, hC⟩ : ∃ C, Hid (liesB a n = C) := ⟨_, rfl⟩
  rw [hC.out]
  have HC : Hid ((decide (1 ≤ n) && decide (n ≤ 16) && decide (0 ≤ a) && decide (a < 160) && decide (a % 16 + n ≤ 16)) = C) := hC
  go_enter Tryd.func44, Tryd.ntmps44
  go_wp2_with (with_reducible refine wpList_box (o := ⟨some 1, .box 33 (.tmp 0), _, _, _, _⟩) ?g1 33 (.tmp 0) ?o1 (.agg #[.string s, .int .i64 a, .int .i64 n]) [Value.string s, .int .i64 a, .int .i64 n] ?x1 ?c1 ?_)
  try (case g1 => rfl)
  try (case o1 => rfl)
  try (case x1 => rfl)
  try (case c1 => rfl)
  intro g1 w1 hg1 hs1 hb1 hA1
  have hbe1 : Below w.heap.size w w1 := hb1.mono (Nat.le_of_eq hg1.out.symm)
  clear hb1 hs1 hg1
  have c1 := hA1.cell (k := 1) rfl
  have c2 := hA1.cell (k := 2) rfl
  by_cases h1 : 1 ≤ n
  · by_cases h2 : n ≤ 16
    · by_cases h3 : 0 ≤ a
      · by_cases h4 : a < 160
        · obtain ⟨r, hr⟩ : ∃ r, a % 16 = r := ⟨_, rfl⟩
          have hr0 : 0 ≤ r := by omega
          have hr1 : r < 16 := by omega
          have ht : a.tmod 16 = r := by rw [Int.tmod_eq_emod_of_nonneg h3, hr]
          obtain ⟨t, htt⟩ : ∃ t, r + n = t := ⟨_, rfl⟩
          have hwt : IntKind.i64.wrap t = t := by simp only [IntKind.wrap_i64]; omega
          have HE : Hid (decide (t ≤ 16) = C) := by
            have : decide (t ≤ 16) = C := by
              rw [← HC.out, decide_eq_true h1, decide_eq_true h2, decide_eq_true h3, decide_eq_true h4, hr, htt]; rfl
            exact this
          clear hr
          go_wp2
          go_ret
          exact ⟨by rw [← HE.out]; rfl, hbe1⟩
        · have hc : C = false := by rw [← HC.out, decide_eq_false h4, Bool.and_false]; rfl
          subst hc
          go_wp2
          go_ret
          exact ⟨rfl, hbe1⟩
      · have hc : C = false := by rw [← HC.out, decide_eq_false h3, Bool.and_false]; rfl
        subst hc
        go_wp2
        go_ret
        exact ⟨rfl, hbe1⟩
    · have hc : C = false := by rw [← HC.out, decide_eq_false h2, Bool.and_false]; rfl
      subst hc
      go_wp2
      go_ret
      exact ⟨rfl, hbe1⟩
  · have hc : C = false := by rw [← HC.out, decide_eq_false h1]; rfl
    subst hc
    go_wp2
    go_ret
    exact ⟨rfl, hbe1⟩
set_option maxRecDepth 100000 in
set_option maxHeartbeats 1600000 in
theorem max_any (s : ByteArray) (a n : Nat) (w : World) (h : Lies a n) :
    Calls Tryd.prog 16 #[.agg #[.string s, .int .i64 (a : Int), .int .i64 (n : Int)]] w fun e w' => e = .returned (.int .i64 ((2 ^ n - 1 : Nat) : Int)) ∧ Below w.heap.size w w' := by
  have hL := Lib.hid (fun w => lies_any s (a : Int) (n : Int) w)
  rw [liesB_nat h] at hL
  have hp := h.pow
  have hp0 := Nat.two_pow_pos n
  have hn16 := h.le
  obtain ⟨P, hP⟩ : ∃ P, 2 ^ n = P := ⟨_, rfl⟩
  rw [hP] at hp hp0
  have hP' : (2 : Int) ^ n = (P : Int) := by rw [← hP]; simp
  have hwP : IntKind.i64.wrap (P : Int) = (P : Int) := by simp only [IntKind.wrap_i64]; omega
  obtain ⟨M, hM⟩ : ∃ M : Int, (P : Int) - 1 = M := ⟨_, rfl⟩
  have hwM : IntKind.i64.wrap M = M := by simp only [IntKind.wrap_i64]; omega
  have hME : Hid (M = ((2 ^ n - 1 : Nat) : Int)) := by
    have : M = ((2 ^ n - 1 : Nat) : Int) := by rw [hP]; omega
    exact this
  rw [← hME.out]
  clear hP
  go_enter Tryd.func16, Tryd.ntmps16
  go_wp2_with (with_reducible refine wpList_box (o := ⟨some 1, .box 33 (.tmp 0), _, _, _, _⟩) ?g1 33 (.tmp 0) ?o1 (.agg #[.string s, .int .i64 (a : Int), .int .i64 (n : Int)]) [Value.string s, .int .i64 (a : Int), .int .i64 (n : Int)] ?x1 ?c1 ?_)
  try (case g1 => rfl)
  try (case o1 => rfl)
  try (case x1 => rfl)
  try (case c1 => rfl)
  intro g1 w1 hg1 hs1 hb1 hA1
  have hbe1 : Below w.heap.size w w1 := hb1.mono (Nat.le_of_eq hg1.out.symm)
  clear hb1 hs1 hg1
  have c0 := hA1.cell (k := 0) rfl
  have c1 := hA1.cell (k := 1) rfl
  have c2 := hA1.cell (k := 2) rfl
  go_wp2_with fail
  (with_reducible refine (hL.out _).mono ?_)
  rintro e w2 ⟨rfl, hb2⟩
  have hbe2 := below_join hbe1 hb2
  have c2 := (hA1.next hb2 hA1.lt).cell (k := 2) rfl
  go_wp2
  go_ret
  exact ⟨rfl, hbe2⟩
set_option maxRecDepth 100000 in
set_option maxHeartbeats 1600000 in
theorem place_any (s : ByteArray) (a n : Nat) (w : World) (h : Lies a n) :
    Calls Tryd.prog 53 #[.agg #[.string s, .int .i64 (a : Int), .int .i64 (n : Int)]] w fun e w' => e = .returned (.tuple #[.int .i64 ((a / 16 : Nat) : Int), .int .i64 (shiftN a n : Int)]) ∧ Below w.heap.size w w' := by
  have hL := Lib.hid (fun w => lies_any s (a : Int) (n : Int) w)
  rw [liesB_nat h] at hL
  have hn16 := h.word
  have ha := h.at_
  have hq : (a : Int).tdiv 16 = ((a / 16 : Nat) : Int) := by rw [Int.tdiv_eq_ediv_of_nonneg (by omega)]; omega
  have hr : (a : Int).tmod 16 = ((a % 16 : Nat) : Int) := by rw [Int.tmod_eq_emod_of_nonneg (by omega)]; omega
  have hs : Hid (((16 - ((a % 16 : Nat) : Int)) - (n : Int)) = (shiftN a n : Int)) := by
    have : ((16 - ((a % 16 : Nat) : Int)) - (n : Int)) = (shiftN a n : Int) := by unfold shiftN; omega
    exact this
  have hSb : shiftN a n ≤ 16 := by unfold shiftN; omega
  have hqb : a / 16 < 10 := by omega
  obtain ⟨S, hS⟩ : ∃ S, shiftN a n = S := ⟨_, rfl⟩
  obtain ⟨q, hq'⟩ : ∃ q, a / 16 = q := ⟨_, rfl⟩
  obtain ⟨r, hr'⟩ : ∃ r, a % 16 = r := ⟨_, rfl⟩
  rw [hS] at hs hSb
  rw [hq'] at hq hqb
  rw [hr'] at hr hs hn16
  rw [hS, hq']
  clear hS hq' hr'
  obtain ⟨U, hU⟩ : ∃ U : Int, 16 - (r : Int) = U := ⟨_, rfl⟩
  rw [hU] at hs
  have hwU : IntKind.i64.wrap U = U := by simp only [IntKind.wrap_i64]; omega
  obtain ⟨V, hV⟩ : ∃ V : Int, U - (n : Int) = V := ⟨_, rfl⟩
  rw [hV] at hs
  have hwV : IntKind.i64.wrap V = V := by rw [hs.out]; simp only [IntKind.wrap_i64]; omega
  rw [← hs.out]
  go_enter Tryd.func53, Tryd.ntmps53
  go_wp2_with (with_reducible refine wpList_box (o := ⟨some 1, .box 33 (.tmp 0), _, _, _, _⟩) ?g1 33 (.tmp 0) ?o1 (.agg #[.string s, .int .i64 (a : Int), .int .i64 (n : Int)]) [Value.string s, .int .i64 (a : Int), .int .i64 (n : Int)] ?x1 ?c1 ?_)
  try (case g1 => rfl)
  try (case o1 => rfl)
  try (case x1 => rfl)
  try (case c1 => rfl)
  intro g1 w1 hg1 hs1 hb1 hA1
  have hbe1 : Below w.heap.size w w1 := hb1.mono (Nat.le_of_eq hg1.out.symm)
  clear hb1 hs1 hg1
  have c0 := hA1.cell (k := 0) rfl
  have c1 := hA1.cell (k := 1) rfl
  have c2 := hA1.cell (k := 2) rfl
  go_wp2_with fail
  (with_reducible refine (hL.out _).mono ?_)
  rintro e w2 ⟨rfl, hb2⟩
  have hbe2 := below_join hbe1 hb2
  have hA2 := hA1.next hb2 hA1.lt
  have c0 := hA2.cell (k := 0) rfl
  have c1 := hA2.cell (k := 1) rfl
  have c2 := hA2.cell (k := 2) rfl
  go_wp2
  go_quiet (fail)
  have hdd := hbe2.trans ((below_drewN w2 nq).mono hbe2.size)
  go_wp2
  go_ret2
  exact ⟨rfl, hdd⟩
end Go.Proofs.YtbgndopgllnmaaaDoor

/-
  Contracts of the walks over Prefix, Equal, Mod, Set and Get. Conditions: a field that lies in a word, and a value that it can have.
-/
namespace Go.Proofs.YtbgndopgllnmaaaDoor
set_option linter.unusedVariables false
set_option linter.unusedSimpArgs false
open Go.RowKit

theorem shl_nat (x s : Nat) : (x : Int) * (2 : Int) ^ s = ((x * 2 ^ s : Nat) : Int) := by
  rw [Int.natCast_mul, Int.natCast_pow]; rfl
theorem and16 (x y : Nat) (hx : x < 65536) (hy : y < 65536) : bits .and .i64 (x : Int) (y : Int) = ((x &&& y : Nat) : Int) := and_nat x y hx hy
theorem zero_one : ∀ u ∈ Pat.zero.cells, u.oneCell' = true := cells_one Pat.zero
/-- The words of the pattern of first bits. -/
theorem pre_word_m {a n m : Nat} (x : Nat) (h : Lies a n) (hm : m ≤ n) (v : Nat) : word (Pat.pre a n x m).m v = if v = a / 16 then (2 ^ n - 1 - (2 ^ (n - m) - 1)) * 2 ^ shiftN a n else 0 := by
  have := pre_m_word (at_ := a) (wd := n) (fr := n - m) (lo := x) (v := v) h.word (Nat.sub_le _ _)
  rw [show n - (n - m) = m by omega] at this
  have hp := Nat.two_pow_pos (n - m)
  have hl := Nat.pow_le_pow_right (show 0 < 2 by decide) (Nat.sub_le n m)
  rw [this, show 2 ^ n - 1 - (2 ^ (n - m) - 1) = 2 ^ n - 2 ^ (n - m) by omega]
  rfl
theorem pre_word_b {a n x m : Nat} (h : Lies a n) (hm : m ≤ n) (hx : x < 2 ^ n) (v : Nat) : word (Pat.pre a n x m).b v = if v = a / 16 then (x &&& (2 ^ n - 1 - (2 ^ (n - m) - 1))) * 2 ^ shiftN a n else 0 := by
  have hp := Nat.two_pow_pos (n - m)
  have hl := Nat.pow_le_pow_right (show 0 < 2 by decide) (Nat.sub_le n m)
  have this := pre_b_word (at_ := a) (wd := n) (fr := n - m) (lo := x / 2 ^ (n - m) * 2 ^ (n - m)) (v := v) h.word (Nat.sub_le _ _) (div_mod_zero _ _) (Nat.lt_of_le_of_lt (div_mul_le' _ _) hx)
  rw [show n - (n - m) = m by omega] at this
  rw [show 2 ^ n - 1 - (2 ^ (n - m) - 1) = 2 ^ n - 2 ^ (n - m) by omega, and_high (Nat.sub_le _ _) hx]
  rw [← show word (Pat.pre a n (x / 2 ^ (n - m) * 2 ^ (n - m)) m).b v = word (Pat.pre a n x m).b v from ?_]
  · exact this
  · apply Nat.eq_of_testBit_eq
    intro j
    rw [word_test, word_test]
    by_cases hi : 16 * v + (15 - j) < 160
    · rw [(pre_cut (a := a) (n := n) (x := x) hm).2 _ hi]
    · have hw := h.head
      have z : ∀ y, (Pat.pre a n y m).b (16 * v + (15 - j)) = false := fun y => by
        show ((decide (a ≤ 16 * v + (15 - j)) && decide (16 * v + (15 - j) < a + m)) && _) = false
        rw [decide_eq_false (show ¬ 16 * v + (15 - j) < a + m by omega), Bool.and_false, Bool.false_and]
      rw [z, z]
set_option maxRecDepth 100000 in
set_option maxHeartbeats 1600000 in
theorem prefix_any (s : ByteArray) (a n x m : Nat) (w : World) (h : Lies a n) (hx : x < 2 ^ n) (hm : m ≤ n) :
    Calls Tryd.prog 29 #[.agg #[.string s, .int .i64 (a : Int), .int .i64 (n : Int)], .int .i64 (x : Int), .int .i64 (m : Int)] w fun e w' => e = .returned (.agg (Pat.pre a n x m).cells.toArray) ∧ Below w.heap.size w w' := by
  have hL := Lib.hid (fun w => lies_any s (a : Int) (n : Int) w)
  rw [liesB_nat h] at hL
  have HM := Lib.hid (fun w => max_any s a n w h)
  have HP := Lib.hid (fun w => place_any s a n w h)
  have hwm := pre_word_m x h hm
  have hwb := pre_word_b h hm hx
  obtain ⟨X, hX⟩ : ∃ X, Hid (Pat.pre a n x m = X) := ⟨_, rfl⟩
  rw [hX.out] at hwm hwb
  rw [hX.out]
  have hp := h.pow
  have hn16 := h.le
  have hqb := h.q
  have hSb : shiftN a n ≤ 16 - n := by unfold shiftN; have := h.word; omega
  have hPS : 2 ^ n * 2 ^ shiftN a n ≤ 65536 := by
    rw [← Nat.pow_add]
    exact Nat.pow_le_pow_right (n := 2) (by decide) (show n + shiftN a n ≤ 16 by omega)
  obtain ⟨fr, hfr⟩ : ∃ fr, n - m = fr := ⟨_, rfl⟩
  have hfrI : (n : Int) - (m : Int) = (fr : Int) := by omega
  have hfl : 2 ^ fr ≤ 2 ^ n := Nat.pow_le_pow_right (by decide) (by omega)
  have hf0 := Nat.two_pow_pos fr
  obtain ⟨q, hq⟩ : ∃ q, a / 16 = q := ⟨_, rfl⟩
  obtain ⟨S, hS⟩ : ∃ S, shiftN a n = S := ⟨_, rfl⟩
  rw [hfr, hq, hS] at hwm hwb
  rw [hq, hS] at HP
  rw [hq] at hqb
  rw [hS] at hSb hPS
  obtain ⟨P, hP⟩ : ∃ P, 2 ^ n = P := ⟨_, rfl⟩
  obtain ⟨R, hR⟩ : ∃ R, 2 ^ fr = R := ⟨_, rfl⟩
  rw [hP] at hwm hwb hx hp hPS hfl HM
  rw [hR] at hwm hwb hfl hf0
  have hR' : (2 : Int) ^ fr = (R : Int) := by rw [← hR]; simp
  obtain ⟨M, hM⟩ : ∃ M, P - 1 = M := ⟨_, rfl⟩
  obtain ⟨L, hL'⟩ : ∃ L, R - 1 = L := ⟨_, rfl⟩
  rw [hM, hL'] at hwm hwb
  rw [hM] at HM
  obtain ⟨F, hF⟩ : ∃ F, M - L = F := ⟨_, rfl⟩
  rw [hF] at hwm hwb
  have hRL : (R : Int) - 1 = (L : Int) := by omega
  have hML : (M : Int) - (L : Int) = (F : Int) := by omega
  have hF6 : F < 65536 := by omega
  have hx6 : x < 65536 := by omega
  have hwL : IntKind.i64.wrap (L : Int) = (L : Int) := by simp only [IntKind.wrap_i64]; omega
  have hwF : IntKind.i64.wrap (F : Int) = (F : Int) := by simp only [IntKind.wrap_i64]; omega
  have hwR : IntKind.i64.wrap (R : Int) = (R : Int) := by simp only [IntKind.wrap_i64]; omega
  have hwfr : IntKind.i64.wrap (fr : Int) = (fr : Int) := by simp only [IntKind.wrap_i64]; omega
  obtain ⟨Y, hY⟩ : ∃ Y, x &&& F = Y := ⟨_, rfl⟩
  have hand := and16 x F hx6 hF6
  have hYF : Y ≤ F := by rw [← hY]; exact Nat.and_le_right
  rw [hY] at hwb hand
  obtain ⟨SP, hSP⟩ : ∃ SP, 2 ^ S = SP := ⟨_, rfl⟩
  rw [hSP] at hwm hwb hPS
  have hsp : (2 : Int) ^ S = (SP : Int) := by rw [← hSP]; simp
  have hFS : F * SP ≤ P * SP := Nat.mul_le_mul_right _ (by omega)
  have hYS : Y * SP ≤ P * SP := Nat.mul_le_mul_right _ (by omega)
  obtain ⟨MV, hMV⟩ : ∃ MV, F * SP = MV := ⟨_, rfl⟩
  obtain ⟨BV, hBV⟩ : ∃ BV, Y * SP = BV := ⟨_, rfl⟩
  have hmv : (F : Int) * (SP : Int) = (MV : Int) := by rw [← hMV, Int.natCast_mul]
  have hbv : (Y : Int) * (SP : Int) = (BV : Int) := by rw [← hBV, Int.natCast_mul]
  rw [hMV] at hwm hFS
  rw [hBV] at hwb hYS
  have hwMV : IntKind.i64.wrap (MV : Int) = (MV : Int) := by simp only [IntKind.wrap_i64]; omega
  have hwBV : IntKind.i64.wrap (BV : Int) = (BV : Int) := by simp only [IntKind.wrap_i64]; omega
  have HWM := Lib.hid hwm
  have HWB := Lib.hid hwb
  have hm0 : ¬ ((m : Int) < 0) := by omega
  have hmn : ¬ ((m : Int) > (n : Int)) := by omega
  have hS16 : S ≤ 16 := by omega
  have hq0 : (0 : Int) ≤ (q : Int) := by omega
  have hq10i : (q : Int) < 10 := by omega
  have hwq : IntKind.i64.wrap (q : Int) = (q : Int) := by simp only [IntKind.wrap_i64]; omega
  clear hwm hwb hfr hq hS hP hR hM hL' hF hY hSP hMV hBV hPS hFS hYS
  go_enter Tryd.func29, Tryd.ntmps29
  go_wp2_with (with_reducible refine wpList_box (o := ⟨some 3, .box 33 (.tmp 0), _, _, _, _⟩) ?g3 33 (.tmp 0) ?o3 (.agg #[.string s, .int .i64 (a : Int), .int .i64 (n : Int)]) [Value.string s, .int .i64 (a : Int), .int .i64 (n : Int)] ?x3 ?c3 ?_)
  try (case g3 => rfl)
  try (case o3 => rfl)
  try (case x3 => rfl)
  try (case c3 => rfl)
  intro g3 w1 hg3 hs1 hb1 B3
  have hl3 : w.heap.size ≤ g3 := Nat.le_of_eq hg3.out.symm
  have hb1 := hb1.mono (Nat.le_of_eq hg3.out.symm)
  have hbe : Below w.heap.size w w1 := hb1
  clear hb1 hs1 hg3
  go_wp2_with (with_reducible refine wpList_alloc (o := ⟨some 6, .alloc 48, _, _, _, _⟩) (by with_unfolding_all rfl) 48 (by with_unfolding_all rfl) (.agg (H no ++ H no).toArray) (H no ++ H no) (by exact Tryd.zeroPt) (by with_unfolding_all rfl) ?_)
  intro g6 w2 hg6 hs2 hb2 B6
  have hl6 : w.heap.size ≤ g6 := Nat.le_trans hbe.size (Nat.le_of_eq hg6.out.symm)
  have ne36 : g3 < g6 := by have := B3.lt; have := hg6.out; omega
  have hb2 := hb2.mono (Nat.le_of_eq hg6.out.symm)
  have B3 := B3.next hb2 B3.lt
  have hbe := below_join hbe hb2
  clear hb2 hs2 hg6
  have c0 := B3.cell (k := 0) rfl
  have c1 := B3.cell (k := 1) rfl
  have c2 := B3.cell (k := 2) rfl
  go_wp2_with fail
  (with_reducible refine (hL.out _).mono ?_)
  rintro e w3 ⟨rfl, hb3⟩
  clear c0 c1 c2
  have B3 := B3.next hb3 B3.lt
  have B6 := B6.next hb3 B6.lt
  have hbe := below_join hbe hb3
  have c0 := B3.cell (k := 0) rfl
  have c1 := B3.cell (k := 1) rfl
  have c2 := B3.cell (k := 2) rfl
  clear hb3
  go_wp2_with fail
  (with_reducible refine (HP.out _).mono ?_)
  rintro e w4 ⟨rfl, hb4⟩
  clear c0 c1 c2
  have B3 := B3.next hb4 B3.lt
  have B6 := B6.next hb4 B6.lt
  have hbe := below_join hbe hb4
  have c0 := B3.cell (k := 0) rfl
  have c1 := B3.cell (k := 1) rfl
  have c2 := B3.cell (k := 2) rfl
  clear hb4
  go_wp2_with fail
  (with_reducible refine (HM.out _).mono ?_)
  rintro e w5 ⟨rfl, hb5⟩
  clear c0 c1 c2
  have B6 := B6.next hb5 B6.lt
  have hbe := below_join hbe hb5
  clear hb5
  go_wp2_with (with_reducible refine wpList_alloc (o := ⟨some 11, .alloc 48, _, _, _, _⟩) (by with_unfolding_all rfl) 48 (by with_unfolding_all rfl) (.agg (H no ++ H no).toArray) (H no ++ H no) (by exact Tryd.zeroPt) (by with_unfolding_all rfl) ?_)
  intro g11 w6 hg11 hs6 hb6 B11
  have hl11 : w.heap.size ≤ g11 := Nat.le_trans hbe.size (Nat.le_of_eq hg11.out.symm)
  have ne611 : g6 ≠ g11 := by have := B6.lt; have := hg11.out; omega
  have hb6 := hb6.mono (Nat.le_of_eq hg11.out.symm)
  have B6 := B6.next hb6 B6.lt
  have hbe := below_join hbe hb6
  clear hb6 hs6 hg11
  rw [cells_zero] at B11
  go_wp2
  have hdd := below_drew w6
  have B6 := B6.next hdd B6.lt
  have B11 := B11.next hdd B11.lt
  have hbe := below_join hbe hdd
  refine wp_region_held_drew (S := fun _ => True) (by kernel_rfl) trivial (fun hHeld => ?_)
  generalize w6.drew = w7 at B6 B11 hbe ⊢
  clear hdd
  refine wpAnyH_take (i := 0) (v := ?vv0) rfl (by kernel_rfl) (by kernel_rfl) (by kernel_rfl) (fun _ _ _ h => h) (Or.inl ⟨by rfl, ?yv0⟩) (by assumption) ?rv0
  case yv0 => intro w hSw; (try dsimp only at hSw); go_simp <;> (try with_reducible rfl)
  (try simp only [List.getElem_toArray, List.getElem_cons_zero, Act.put, List.setIfInBounds_toArray, List.set_cons_zero, List.set_cons_succ])
  refine wpAnyH_take (i := 1) (v := ?vv1) rfl (by kernel_rfl) (by kernel_rfl) (by kernel_rfl) (fun _ _ _ h => h) (Or.inl ⟨by rfl, ?yv1⟩) (by assumption) ?rv1
  case yv1 => intro w hSw; (try dsimp only at hSw); go_simp <;> (try with_reducible rfl)
  (try simp only [List.getElem_toArray, List.getElem_cons_succ, List.getElem_cons_zero, Act.put, List.setIfInBounds_toArray, List.set_cons_zero, List.set_cons_succ])
  refine wpAnyH_take (i := 2) (v := ?vv2) rfl (by kernel_rfl) (by kernel_rfl) (by kernel_rfl) (fun _ _ _ h => h) (Or.inl ⟨by rfl, ?yv2⟩) (by assumption) ?rv2
  case yv2 => intro w hSw; (try dsimp only at hSw); go_simp <;> (try with_reducible rfl)
  (try simp only [List.getElem_toArray, List.getElem_cons_succ, List.getElem_cons_zero, Act.put, List.setIfInBounds_toArray, List.set_cons_zero, List.set_cons_succ])
  refine wpAnyH_take (i := 3) (v := ?vv3) rfl (by kernel_rfl) (by kernel_rfl) (by kernel_rfl) (fun _ _ _ h => h) (Or.inl ⟨by rfl, ?yv3⟩) (by assumption) ?rv3
  case yv3 => intro w hSw; (try dsimp only at hSw); go_simp <;> (try with_reducible rfl)
  (try simp only [List.getElem_toArray, List.getElem_cons_succ, List.getElem_cons_zero, Act.put, List.setIfInBounds_toArray, List.set_cons_zero, List.set_cons_succ])
  refine wpAnyH_take (i := 4) (v := ?vv4) rfl (by kernel_rfl) (by kernel_rfl) (by kernel_rfl) (fun _ _ _ h => h) (Or.inl ⟨by rfl, ?yv4⟩) (by assumption) ?rv4
  case yv4 => intro w hSw; (try dsimp only at hSw); go_simp <;> (try with_reducible rfl)
  (try simp only [List.getElem_toArray, List.getElem_cons_succ, List.getElem_cons_zero, Act.put, List.setIfInBounds_toArray, List.set_cons_zero, List.set_cons_succ])
  refine wpAnyH_take (i := 5) (v := ?vv5) rfl (by kernel_rfl) (by kernel_rfl) (by kernel_rfl) (fun _ _ _ h => h) (Or.inl ⟨by rfl, ?yv5⟩) (by assumption) ?rv5
  case yv5 => intro w hSw; (try dsimp only at hSw); go_simp <;> (try with_reducible rfl)
  (try simp only [List.getElem_toArray, List.getElem_cons_succ, List.getElem_cons_zero, Act.put, List.setIfInBounds_toArray, List.set_cons_zero, List.set_cons_succ])
  refine wpAnyH_take (i := 6) (v := ?vv6) rfl (by kernel_rfl) (by kernel_rfl) (by kernel_rfl) (fun _ _ _ h => h) (Or.inl ⟨by rfl, ?yv6⟩) (by assumption) ?rv6
  case yv6 => intro w hSw; (try dsimp only at hSw); go_simp <;> (try with_reducible rfl)
  (try simp only [List.getElem_toArray, List.getElem_cons_succ, List.getElem_cons_zero, Act.put, List.setIfInBounds_toArray, List.set_cons_zero, List.set_cons_succ])
  refine wpAnyH_take (i := 7) (v := ?vv7) rfl (by kernel_rfl) (by kernel_rfl) (by kernel_rfl) (fun _ _ _ h => h) (Or.inl ⟨by rfl, ?yv7⟩) (by assumption) ?rv7
  case yv7 => intro w hSw; (try dsimp only at hSw); go_simp <;> (try with_reducible rfl)
  (try simp only [List.getElem_toArray, List.getElem_cons_succ, List.getElem_cons_zero, Act.put, List.setIfInBounds_toArray, List.set_cons_zero, List.set_cons_succ])
  refine wpAnyH_take (i := 8) (v := ?vv8) rfl (by kernel_rfl) (by kernel_rfl) (by kernel_rfl) (fun _ _ _ h => h) (Or.inl ⟨by rfl, ?yv8⟩) (by assumption) ?rv8
  case yv8 => intro w hSw; (try dsimp only at hSw); go_simp <;> (try with_reducible rfl)
  (try simp only [List.getElem_toArray, List.getElem_cons_succ, List.getElem_cons_zero, Act.put, List.setIfInBounds_toArray, List.set_cons_zero, List.set_cons_succ])
  refine wpAnyH_take (i := 9) (v := ?vv9) rfl (by kernel_rfl) (by kernel_rfl) (by kernel_rfl) (fun _ _ _ h => h) (Or.inl ⟨by rfl, ?yv9⟩) (by assumption) ?rv9
  case yv9 => intro w hSw; (try dsimp only at hSw); go_simp <;> (try with_reducible rfl)
  (try simp only [List.getElem_toArray, List.getElem_cons_succ, List.getElem_cons_zero, Act.put, List.setIfInBounds_toArray, List.set_cons_zero, List.set_cons_succ])
  refine wpAnyH_take (i := 10) (v := ?vv10) rfl (by kernel_rfl) (by kernel_rfl) (by kernel_rfl) (fun _ _ _ h => h) (Or.inl ⟨by rfl, ?yv10⟩) (by assumption) ?rv10
  case yv10 => intro w hSw; (try dsimp only at hSw); go_simp <;> (try with_reducible rfl)
  (try simp only [List.getElem_toArray, List.getElem_cons_succ, List.getElem_cons_zero, Act.put, List.setIfInBounds_toArray, List.set_cons_zero, List.set_cons_succ])
  refine wpAnyH_take (i := 11) (v := ?vv11) rfl (by kernel_rfl) (by kernel_rfl) (by kernel_rfl) (fun _ _ _ h => h) (Or.inl ⟨by rfl, ?yv11⟩) (by assumption) ?rv11
  case yv11 => intro w hSw; (try dsimp only at hSw); go_simp <;> (try with_reducible rfl)
  (try simp only [List.getElem_toArray, List.getElem_cons_succ, List.getElem_cons_zero, Act.put, List.setIfInBounds_toArray, List.set_cons_zero, List.set_cons_succ])
  refine wpAnyH_take (i := 13) (v := ?vv13) rfl (by kernel_rfl) (by kernel_rfl) (by kernel_rfl) (fun _ _ _ h => h) (Or.inl ⟨by rfl, ?yv13⟩) (by assumption) ?rv13
  case yv13 => intro w hSw; (try dsimp only at hSw); go_simp <;> (try with_reducible rfl)
  (try simp only [List.getElem_toArray, List.getElem_cons_succ, List.getElem_cons_zero, Act.put, List.setIfInBounds_toArray, List.set_cons_zero, List.set_cons_succ])
  refine wpAnyH_ready (rs := [12]) (by kernel_rfl) (by simp) ?_
  refine AllReadyH.cons rfl (fun K hK => ?_) AllReadyH.nil
  rw [if_pos (by rfl)]
  refine wp_put 3 (.tmp 52) (.tmp 45) rfl g11 q rfl (.int .i64 (MV : Int)) rfl B11 [.int .i64 (MV : Int)] rfl (by exact Tryd.szI1) (by rw [Pat.cells_length]; show q + 1 ≤ 20; omega) (one_cell1 rfl) ?_
  intro w8 hu8 C11
  rw [cells_put_m hqb HWM.out] at C11
  have B6 := B6.upd hu8 ne611
  have hbe := hbe.trans (hu8.below (B := w.heap.size) hl11)
  refine hK.out _ _ trivial (fun hHeld => ?_)
  clear hK K hu8 B11
  refine wpAnyH_take (i := 14) (v := ?vu14) rfl (by kernel_rfl) (by kernel_rfl) (by kernel_rfl) (fun _ _ _ h => h) (Or.inl ⟨by rfl, ?yu14⟩) (by assumption) ?ru14
  case yu14 => intro w hSw; (try dsimp only at hSw); go_simp <;> (try with_reducible rfl)
  (try simp only [List.getElem_toArray, List.getElem_cons_succ, List.getElem_cons_zero, Act.put, List.setIfInBounds_toArray, List.set_cons_zero, List.set_cons_succ])
  refine wpAnyH_ready (rs := [15]) (by kernel_rfl) (by simp) ?_
  refine AllReadyH.cons rfl (fun K hK => ?_) AllReadyH.nil
  rw [if_pos (by rfl)]
  refine wp_put 3 (.tmp 54) (.tmp 50) rfl g11 (10 + q) rfl (.int .i64 (BV : Int)) rfl C11 [.int .i64 (BV : Int)] rfl (by exact Tryd.szI1) (by rw [Pat.cells_length]; show 10 + q + 1 ≤ 20; omega) (one_cell1 rfl) ?_
  intro w9 hu9 D11
  rw [cells_put_b hqb HWB.out] at D11
  have hD : Blk w9 g11 48 X.cells := D11
  have B6 := B6.upd hu9 ne611
  have hbe := hbe.trans (hu9.below (B := w.heap.size) hl11)
  refine hK.out _ _ trivial (fun hHeld => ?_)
  clear hK K hu9 C11 D11 hHeld
  refine wpAnyH_done (by kernel_rfl) ?_ _
  go_wp2_with (first | (with_reducible refine wpList_get (o := ⟨some 55, .load 48 (.tmp 11), _, _, _, _⟩) (by with_unfolding_all rfl) 48 (.tmp 11) (by with_unfolding_all rfl) g11 0 (by with_unfolding_all rfl) hD X.cells (cs_all _) _ (by exact Tryd.underlying48) (by with_unfolding_all rfl) (by rw [Pat.cells_length]; exact Tryd.szP) ?_) | (with_reducible refine wpList_put (o := ⟨none, .store 48 (.tmp 6) (.tmp 55), _, _, _, _⟩) (by with_unfolding_all rfl) 48 (.tmp 6) (.tmp 55) (by with_unfolding_all rfl) g6 0 (by with_unfolding_all rfl) (.agg X.cells.toArray) (by with_unfolding_all rfl) B6 X.cells (by with_unfolding_all rfl) (by with_unfolding_all (rw [Pat.cells_length]; exact Tryd.szP)) (by with_unfolding_all (rw [Pat.cells_length, List.length_append, H_length]; omega)) (by with_unfolding_all (exact cells_one _)) ?_))
  intro w10 hu10 E6
  rw [splice_all _ _ (by rw [Pat.cells_length, List.length_append, H_length])] at E6
  have hbe := hbe.trans (hu10.below (B := w.heap.size) hl6)
  go_wp2
  exact bodyPost_ret (results_cell_row rfl _ _ g6 _ _ _ _ rfl E6 Tryd.underlying48 rfl (by rw [List.size_toArray, Pat.cells_length]; exact Tryd.szP)) rfl ⟨rfl, hbe⟩
set_option maxRecDepth 100000 in
set_option maxHeartbeats 1600000 in
theorem equal_any (s : ByteArray) (a n x : Nat) (w : World) (h : Lies a n) (hx : x < 2 ^ n) :
    Calls Tryd.prog 28 #[.agg #[.string s, .int .i64 (a : Int), .int .i64 (n : Int)], .int .i64 (x : Int)] w fun e w' => e = .returned (.agg (Pat.pre a n x n).cells.toArray) ∧ Below w.heap.size w w' := by
  have HP := Lib.hid (fun w => prefix_any s a n x n w h hx (Nat.le_refl n))
  obtain ⟨X, hX⟩ : ∃ X, Hid (Pat.pre a n x n = X) := ⟨_, rfl⟩
  rw [hX.out] at HP ⊢
  clear hX hx h
  go_enter Tryd.func28, Tryd.ntmps28
  go_wp2_with (with_reducible refine wpList_box (o := ⟨some 2, .box 33 (.tmp 0), _, _, _, _⟩) ?g2 33 (.tmp 0) ?o2 (.agg #[.string s, .int .i64 (a : Int), .int .i64 (n : Int)]) [Value.string s, .int .i64 (a : Int), .int .i64 (n : Int)] ?x2 ?c2 ?_)
  try (case g2 => rfl)
  try (case o2 => rfl)
  try (case x2 => rfl)
  try (case c2 => rfl)
  intro g2 w1 hg2 hs1 hb1 B2
  have hl2 : w.heap.size ≤ g2 := Nat.le_of_eq hg2.out.symm
  have hb1 := hb1.mono (Nat.le_of_eq hg2.out.symm)
  have hbe : Below w.heap.size w w1 := hb1
  clear hb1 hs1 hg2
  go_wp2_with (with_reducible refine wpList_alloc (o := ⟨some 4, .alloc 48, _, _, _, _⟩) (by with_unfolding_all rfl) 48 (by with_unfolding_all rfl) (.agg (H no ++ H no).toArray) (H no ++ H no) (by exact Tryd.zeroPt) (by with_unfolding_all rfl) ?_)
  intro g4 w2 hg4 hs2 hb2 B4
  have hl4 : w.heap.size ≤ g4 := Nat.le_trans hbe.size (Nat.le_of_eq hg4.out.symm)
  have ne2_4 : g2 ≠ g4 := by have := B2.lt; have := hg4.out; omega
  have hb2 := hb2.mono (Nat.le_of_eq hg4.out.symm)
  have B2 := B2.next hb2 B2.lt
  have hbe := below_join hbe hb2
  clear hb2 hs2 hg4
  have zB20 := B2.cell (k := 0) rfl
  have zB21 := B2.cell (k := 1) rfl
  have zB22 := B2.cell (k := 2) rfl
  go_wp2_with fail
  (with_reducible refine (HP.out _).mono ?_)
  rintro e w3 ⟨rfl, hb3⟩
  clear zB20 zB21 zB22
  have B4 := B4.next hb3 B4.lt
  have hbe := below_join hbe hb3
  clear hb3
  go_wp2_with (with_reducible refine wpList_put (o := ⟨none, .store 48 (.tmp 4) (.tmp 9), _, _, _, _⟩) (by with_unfolding_all rfl) 48 (.tmp 4) (.tmp 9) (by with_unfolding_all rfl) g4 0 (by with_unfolding_all rfl) (.agg X.cells.toArray) (by with_unfolding_all rfl) B4 X.cells (by with_unfolding_all rfl) (by with_unfolding_all (rw [Pat.cells_length]; exact Tryd.szP)) (by with_unfolding_all (rw [Pat.cells_length, List.length_append, H_length]; omega)) (by with_unfolding_all (exact cells_one _)) ?_)
  intro wz huz Ez
  rw [splice_all _ _ (by rw [Pat.cells_length, List.length_append, H_length])] at Ez
  have hbe := hbe.trans (huz.below (B := w.heap.size) hl4)
  go_wp2
  exact bodyPost_ret (results_cell_row rfl _ _ g4 _ _ _ _ rfl Ez Tryd.underlying48 rfl (by rw [List.size_toArray, Pat.cells_length]; exact Tryd.szP)) rfl ⟨rfl, hbe⟩
set_option maxRecDepth 100000 in
set_option maxHeartbeats 1600000 in
theorem mod_any (s : ByteArray) (a n x : Nat) (w : World) (h : Lies a n) (hx : x < 2 ^ n) :
    Calls Tryd.prog 31 #[.agg #[.string s, .int .i64 (a : Int), .int .i64 (n : Int)], .int .i64 (x : Int)] w fun e w' => e = .returned (.agg (Pat.pre a n x n).cells.toArray) ∧ Below w.heap.size w w' := by
  have HP := Lib.hid (fun w => equal_any s a n x w h hx)
  obtain ⟨X, hX⟩ : ∃ X, Hid (Pat.pre a n x n = X) := ⟨_, rfl⟩
  rw [hX.out] at HP ⊢
  clear hX hx h
  go_enter Tryd.func31, Tryd.ntmps31
  go_wp2_with (with_reducible refine wpList_box (o := ⟨some 2, .box 33 (.tmp 0), _, _, _, _⟩) ?g2 33 (.tmp 0) ?o2 (.agg #[.string s, .int .i64 (a : Int), .int .i64 (n : Int)]) [Value.string s, .int .i64 (a : Int), .int .i64 (n : Int)] ?x2 ?c2 ?_)
  try (case g2 => rfl)
  try (case o2 => rfl)
  try (case x2 => rfl)
  try (case c2 => rfl)
  intro g2 w1 hg2 hs1 hb1 B2
  have hl2 : w.heap.size ≤ g2 := Nat.le_of_eq hg2.out.symm
  have hb1 := hb1.mono (Nat.le_of_eq hg2.out.symm)
  have hbe : Below w.heap.size w w1 := hb1
  clear hb1 hs1 hg2
  go_wp2_with (with_reducible refine wpList_alloc (o := ⟨some 4, .alloc 53, _, _, _, _⟩) (by with_unfolding_all rfl) 53 (by with_unfolding_all rfl) (.agg (H no ++ H no).toArray) (H no ++ H no) (by exact Tryd.zeroMd) (by with_unfolding_all rfl) ?_)
  intro g4 w2 hg4 hs2 hb2 B4
  have hl4 : w.heap.size ≤ g4 := Nat.le_trans hbe.size (Nat.le_of_eq hg4.out.symm)
  have ne2_4 : g2 ≠ g4 := by have := B2.lt; have := hg4.out; omega
  have hb2 := hb2.mono (Nat.le_of_eq hg4.out.symm)
  have B2 := B2.next hb2 B2.lt
  have hbe := below_join hbe hb2
  clear hb2 hs2 hg4
  have zB20 := B2.cell (k := 0) rfl
  have zB21 := B2.cell (k := 1) rfl
  have zB22 := B2.cell (k := 2) rfl
  go_wp2_with fail
  (with_reducible refine (HP.out _).mono ?_)
  rintro e w3 ⟨rfl, hb3⟩
  clear zB20 zB21 zB22
  have B4 := B4.next hb3 B4.lt
  have hbe := below_join hbe hb3
  clear hb3
  go_wp2_with (with_reducible refine wpList_put (o := ⟨none, .store 53 (.tmp 4) (.tmp 7), _, _, _, _⟩) (by with_unfolding_all rfl) 53 (.tmp 4) (.tmp 7) (by with_unfolding_all rfl) g4 0 (by with_unfolding_all rfl) (.agg X.cells.toArray) (by with_unfolding_all rfl) B4 X.cells (by with_unfolding_all rfl) (by with_unfolding_all (rw [Pat.cells_length]; exact Tryd.szM)) (by with_unfolding_all (rw [Pat.cells_length, List.length_append, H_length]; omega)) (by with_unfolding_all (exact cells_one _)) ?_)
  intro wz huz Ez
  rw [splice_all _ _ (by rw [Pat.cells_length, List.length_append, H_length])] at Ez
  have hbe := hbe.trans (huz.below (B := w.heap.size) hl4)
  go_wp2
  exact bodyPost_ret (results_cell_row rfl _ _ g4 _ _ _ _ rfl Ez Tryd.underlying53 rfl (by rw [List.size_toArray, Pat.cells_length]; exact Tryd.szM)) rfl ⟨rfl, hbe⟩
set_option maxRecDepth 100000 in
set_option maxHeartbeats 1600000 in
theorem set_any (s : ByteArray) (a n x : Nat) (f : Nat → Bool) (w : World) (h : Lies a n) (hx : x < 2 ^ n) :
    Calls Tryd.prog 26 #[.agg #[.string s, .int .i64 (a : Int), .int .i64 (n : Int)], .agg (H f).toArray, .int .i64 (x : Int)] w fun e w' => e = .returned (.agg (H (setF a n x f)).toArray) ∧ Below w.heap.size w w' := by
  have HP := Lib.hid (fun w => mod_any s a n x w h hx)
  have HA := Lib.hid (fun w => apply_any (Pat.pre a n x n) f w)
  obtain ⟨F, hF⟩ : ∃ F, Hid (setF a n x f = F) := ⟨_, rfl⟩
  have HA : Hid (∀ w, Calls Tryd.prog 38 #[.agg (Pat.pre a n x n).cells.toArray, .agg (H f).toArray] w fun e w' => e = .returned (.agg (H F).toArray) ∧ Below w.heap.size w w') := by
    rw [← hF.out]; exact HA
  rw [hF.out]
  obtain ⟨X, hX⟩ : ∃ X, Hid (Pat.pre a n x n = X) := ⟨_, rfl⟩
  rw [hX.out] at HP HA
  clear hX hx h hF
  go_enter Tryd.func26, Tryd.ntmps26
  go_wp2_with (with_reducible refine wpList_box (o := ⟨some 3, .box 33 (.tmp 0), _, _, _, _⟩) ?g3 33 (.tmp 0) ?o3 (.agg #[.string s, .int .i64 (a : Int), .int .i64 (n : Int)]) [Value.string s, .int .i64 (a : Int), .int .i64 (n : Int)] ?x3 ?c3 ?_)
  try (case g3 => rfl)
  try (case o3 => rfl)
  try (case x3 => rfl)
  try (case c3 => rfl)
  intro g3 w1 hg3 hs1 hb1 B3
  have hl3 : w.heap.size ≤ g3 := Nat.le_of_eq hg3.out.symm
  have hb1 := hb1.mono (Nat.le_of_eq hg3.out.symm)
  have hbe : Below w.heap.size w w1 := hb1
  clear hb1 hs1 hg3
  go_wp2_with (with_reducible refine wpList_box (o := ⟨some 4, .box 30 (.tmp 1), _, _, _, _⟩) ?g4 30 (.tmp 1) ?o4 (.agg (H f).toArray) (H f) ?x4 ?c4 ?_)
  try (case g4 => rfl)
  try (case o4 => rfl)
  try (case x4 => rfl)
  try (case c4 => rfl)
  intro g4 w2 hg4 hs2 hb2 B4
  have hb2 := hb2.mono (Nat.le_of_eq hg4.out.symm)
  have B3 := B3.next hb2 B3.lt
  have hbe := below_join hbe hb2
  clear hb2 hs2 hg4
  go_wp2_with (with_reducible refine wpList_alloc (o := ⟨some 6, .alloc 30, _, _, _, _⟩) (by with_unfolding_all rfl) 30 (by with_unfolding_all rfl) (.agg (H no).toArray) (H no) (by exact Tryd.zeroH) (by with_unfolding_all rfl) ?_)
  intro g6 w3 hg6 hs3 hb3 B6
  have hl6 : w.heap.size ≤ g6 := Nat.le_trans hbe.size (Nat.le_of_eq hg6.out.symm)
  have ne3_6 : g3 ≠ g6 := by have := B3.lt; have := hg6.out; omega
  have ne4_6 : g4 ≠ g6 := by have := B4.lt; have := hg6.out; omega
  have hb3 := hb3.mono (Nat.le_of_eq hg6.out.symm)
  have B3 := B3.next hb3 B3.lt
  have B4 := B4.next hb3 B4.lt
  have hbe := below_join hbe hb3
  clear hb3 hs3 hg6
  have zz3 : (Tryd.prog.info? 33).map (·.size) = some [Value.string s, .int .i64 (a : Int), .int .i64 (n : Int)].length := Tryd.szF
  have zz4 : (Tryd.prog.info? 30).map (·.size) = some (H f).length := by rw [H_length]; exact Tryd.szH
  go_wp2
  have hdd := below_drew w3
  have B3 := B3.next hdd B3.lt
  have B4 := B4.next hdd B4.lt
  have B6 := B6.next hdd B6.lt
  have hbe := below_join hbe hdd
  refine wp_region_held_drew (S := fun w' => w'.rangeAt g3 0 [Value.string s, .int .i64 (a : Int), .int .i64 (n : Int)] ∧ w'.rangeAt g4 0 (H f)) (by kernel_rfl) ⟨blk_range B3, blk_range B4⟩ (fun hHeld => ?_)
  clear hdd
  generalize w3.drew = wd at B3 B4 B6 hbe hHeld ⊢
  refine' wpAnyH_take (i := 0) (v := _) rfl (by kernel_rfl) (by kernel_rfl) (by kernel_rfl) (fun _ _ _ h => h) (yieldsIf_load_mid (by rfl) _ _ (by rfl) _ _ (by rfl) _ _ ?Sv0 ?uv0 ?dv0 ?iv0) (by assumption) ?rv0
  case Sv0 => exact (by intro w h; exact h.1)
  case uv0 => exact Tryd.underlying33
  case dv0 => rfl
  case iv0 => exact zz3
  (try simp only [List.getElem_toArray, List.getElem_cons_zero, Act.put, List.setIfInBounds_toArray, List.set_cons_zero, List.set_cons_succ])
  refine wpAnyH_take (i := 1) (v := ?vv1) rfl (by kernel_rfl) (by kernel_rfl) (by kernel_rfl) (fun _ _ _ h => h) (Or.inl ⟨by rfl, ?yv1⟩) (by assumption) ?rv1
  case yv1 => intro w hSw; (try dsimp only at hSw); go_simp <;> (try with_reducible rfl)
  (try simp only [List.getElem_toArray, List.getElem_cons_succ, List.getElem_cons_zero, Act.put, List.setIfInBounds_toArray, List.set_cons_zero, List.set_cons_succ])
  refine' wpAnyH_take (i := 3) (v := _) rfl (by kernel_rfl) (by kernel_rfl) (by kernel_rfl) (fun _ _ _ h => h) (yieldsIf_load_mid (by rfl) _ _ (by rfl) _ _ (by rfl) _ _ ?Sv3 ?uv3 ?dv3 ?iv3) (by assumption) ?rv3
  case Sv3 => exact (by intro w h; exact h.2)
  case uv3 => exact Tryd.underlying30
  case dv3 => rfl
  case iv3 => exact zz4
  (try simp only [List.getElem_toArray, List.getElem_cons_succ, List.getElem_cons_zero, Act.put, List.setIfInBounds_toArray, List.set_cons_zero, List.set_cons_succ])
  refine wpAnyH_ready (rs := [2]) (by kernel_rfl) (by simp) ?_
  refine AllReadyH.cons rfl (fun K hK => ?_) AllReadyH.nil
  go_simp
  go_wp2_with fail
  (with_reducible refine (HP.out _).mono ?_)
  rintro e w4 ⟨rfl, hb4⟩
  have B3 := B3.next hb4 B3.lt
  have B4 := B4.next hb4 B4.lt
  have B6 := B6.next hb4 B6.lt
  have hbe := below_join hbe hb4
  refine hK.out _ _ ⟨blk_range B3, blk_range B4⟩ (fun hHeld => ?_)
  clear hK K hb4
  refine wpAnyH_ready (rs := [4]) (by kernel_rfl) (by simp) ?_
  refine AllReadyH.cons rfl (fun K hK => ?_) AllReadyH.nil
  go_simp
  go_wp2_with fail
  (with_reducible refine (HA.out _).mono ?_)
  rintro e w5 ⟨rfl, hb5⟩
  have B3 := B3.next hb5 B3.lt
  have B4 := B4.next hb5 B4.lt
  have B6 := B6.next hb5 B6.lt
  have hbe := below_join hbe hb5
  refine hK.out _ _ ⟨blk_range B3, blk_range B4⟩ (fun hHeld => ?_)
  clear hK K hb5
  refine wpAnyH_ready (rs := [5]) (by kernel_rfl) (by simp) ?_
  refine AllReadyH.cons rfl (fun K hK => ?_) AllReadyH.nil
  rw [if_pos (by rfl)]
  refine wp_put 30 (.tmp 6) (.tmp 11) rfl g6 0 rfl (.agg (H F).toArray) rfl B6 (H F) rfl (by rw [H_length]; exact Tryd.szH) (by rw [H_length, H_length]; omega) (H_one F) ?_
  intro w6 hu6 E6
  rw [splice_all _ _ (by rw [H_length, H_length])] at E6
  have B3 := B3.upd hu6 ne3_6
  have B4 := B4.upd hu6 ne4_6
  have hbe := hbe.trans (hu6.below (B := w.heap.size) hl6)
  refine hK.out _ _ ⟨blk_range B3, blk_range B4⟩ (fun hHeld => ?_)
  clear hK K hu6 hHeld
  refine wpAnyH_done (by kernel_rfl) ?_ _
  go_wp2
  exact bodyPost_ret (results_cell_row rfl _ _ g6 _ _ _ _ rfl E6 Tryd.underlying30 rfl (by rw [List.size_toArray, H_length]; exact Tryd.szH)) rfl ⟨rfl, hbe⟩
set_option maxRecDepth 100000 in
set_option maxHeartbeats 1600000 in
theorem get_any (s : ByteArray) (a n : Nat) (f : Nat → Bool) (w : World) (h : Lies a n) :
    Calls Tryd.prog 18 #[.agg #[.string s, .int .i64 (a : Int), .int .i64 (n : Int)], .agg (H f).toArray] w fun e w' => e = .returned (.int .i64 (fieldN f a n : Int)) ∧ Below w.heap.size w w' := by
  have HM := Lib.hid (fun w => max_any s a n w h)
  have HP := Lib.hid (fun w => place_any s a n w h)
  have hg := get_word f h
  have hqb := h.q
  have hwl := word_lt f (a / 16)
  have hp := h.pow
  have hcell := H_get f h.q
  have hSb : shiftN a n ≤ 16 := by unfold shiftN; omega
  obtain ⟨V, hV⟩ : ∃ V, fieldN f a n = V := ⟨_, rfl⟩
  rw [hV] at hg
  rw [hV]
  obtain ⟨q, hq⟩ : ∃ q, a / 16 = q := ⟨_, rfl⟩
  obtain ⟨S, hS⟩ : ∃ S, shiftN a n = S := ⟨_, rfl⟩
  rw [hq] at hg hqb hwl hcell HP
  rw [hS] at hg hSb HP
  obtain ⟨x, hx⟩ : ∃ x, word f q = x := ⟨_, rfl⟩
  rw [hx] at hg hwl hcell
  have hdl : x / 2 ^ S < 65536 := Nat.lt_of_le_of_lt (Nat.div_le_self _ _) hwl
  have hdv : (x : Int) / (2 : Int) ^ S = ((x / 2 ^ S : Nat) : Int) := by rw [Int.natCast_ediv, Int.natCast_pow]; rfl
  obtain ⟨y, hy⟩ : ∃ y, x / 2 ^ S = y := ⟨_, rfl⟩
  rw [hy] at hg hdl hdv
  have hpos := Nat.two_pow_pos n
  have hand : bits .and .i64 (y : Int) ((2 ^ n - 1 : Nat) : Int) = (V : Int) := by
    rw [and_nat y _ hdl (by omega), Nat.and_two_pow_sub_one_eq_mod, hg]
  obtain ⟨M, hM⟩ : ∃ M, 2 ^ n - 1 = M := ⟨_, rfl⟩
  rw [hM] at hand HM
  have hmin : min S 64 = S := by omega
  have hwy : IntKind.i64.wrap (y : Int) = (y : Int) := by simp only [IntKind.wrap_i64]; omega
  have hwq : IntKind.i64.wrap (q : Int) = (q : Int) := by simp only [IntKind.wrap_i64]; omega
  have hq0 : (0 : Int) ≤ (q : Int) := by omega
  have hq10i : (q : Int) < 10 := by omega
  clear hg hV hq hS hx hy hpos hM hp h
  have HC := Lib.hid hcell
  clear hcell
  go_enter Tryd.func18, Tryd.ntmps18
  go_wp2_with (with_reducible refine wpList_box (o := ⟨some 2, .box 33 (.tmp 0), _, _, _, _⟩) ?g2 33 (.tmp 0) ?o2 (.agg #[.string s, .int .i64 (a : Int), .int .i64 (n : Int)]) [Value.string s, .int .i64 (a : Int), .int .i64 (n : Int)] ?x2 ?c2 ?_)
  try (case g2 => rfl)
  try (case o2 => rfl)
  try (case x2 => rfl)
  try (case c2 => rfl)
  intro g2 w1 hg2 hs1 hb1 B2
  have hl2 : w.heap.size ≤ g2 := Nat.le_of_eq hg2.out.symm
  have hb1 := hb1.mono (Nat.le_of_eq hg2.out.symm)
  have hbe : Below w.heap.size w w1 := hb1
  clear hb1 hs1 hg2
  go_wp2_with (with_reducible refine wpList_box (o := ⟨some 3, .box 30 (.tmp 1), _, _, _, _⟩) ?g3 30 (.tmp 1) ?o3 (.agg (H f).toArray) (H f) ?x3 ?c3 ?_)
  try (case g3 => rfl)
  try (case o3 => rfl)
  try (case x3 => rfl)
  try (case c3 => rfl)
  intro g3 w2 hg3 hs2 hb2 B3
  have hb2 := hb2.mono (Nat.le_of_eq hg3.out.symm)
  have B2 := B2.next hb2 B2.lt
  have hbe := below_join hbe hb2
  clear hb2 hs2 hg3
  have zB20 := B2.cell (k := 0) rfl
  have zB21 := B2.cell (k := 1) rfl
  have zB22 := B2.cell (k := 2) rfl
  go_wp2_with fail
  (with_reducible refine (HP.out _).mono ?_)
  rintro e w3 ⟨rfl, hb3⟩
  clear zB20 zB21 zB22
  have B2 := B2.next hb3 B2.lt
  have B3 := B3.next hb3 B3.lt
  have hbe := below_join hbe hb3
  clear hb3
  have zz2 : (Tryd.prog.info? 33).map (·.size) = some [Value.string s, .int .i64 (a : Int), .int .i64 (n : Int)].length := Tryd.szF
  go_wp2
  have hdd := below_drew w3
  have B2 := B2.next hdd B2.lt
  have B3 := B3.next hdd B3.lt
  have hbe := below_join hbe hdd
  refine wp_region_held_drew (S := fun w' => w'.rangeAt g2 0 [Value.string s, .int .i64 (a : Int), .int .i64 (n : Int)] ∧ w'.cell? ⟨g3, q, none⟩ = some (.int .i64 (x : Int))) (by kernel_rfl) ⟨blk_range B2, B3.cell HC.out⟩ (fun hHeld => ?_)
  clear hdd
  generalize w3.drew = wd at B2 B3 hbe hHeld ⊢
  refine wpAnyH_take (i := 0) (v := ?vv0) rfl (by kernel_rfl) (by kernel_rfl) (by kernel_rfl) (fun _ _ _ h => h) (Or.inl ⟨by rfl, ?yv0⟩) (by assumption) ?rv0
  case yv0 => intro w hSw; (try dsimp only at hSw); go_simp <;> (try with_reducible rfl)
  (try simp only [List.getElem_toArray, List.getElem_cons_zero, Act.put, List.setIfInBounds_toArray, List.set_cons_zero, List.set_cons_succ])
  refine wpAnyH_take (i := 1) (v := ?vv1) rfl (by kernel_rfl) (by kernel_rfl) (by kernel_rfl) (fun _ _ _ h => h) (Or.inl ⟨by rfl, ?yv1⟩) (by assumption) ?rv1
  case yv1 => intro w hSw; (try dsimp only at hSw); go_simp <;> (try with_reducible rfl)
  (try simp only [List.getElem_toArray, List.getElem_cons_succ, List.getElem_cons_zero, Act.put, List.setIfInBounds_toArray, List.set_cons_zero, List.set_cons_succ])
  refine wpAnyH_take (i := 2) (v := ?vv2) rfl (by kernel_rfl) (by kernel_rfl) (by kernel_rfl) (fun _ _ _ h => h) (Or.inl ⟨by rfl, ?yv2⟩) (by assumption) ?rv2
  case yv2 => intro w hSw; have hSc := hSw.2; go_simp <;> (try with_reducible rfl)
  (try simp only [List.getElem_toArray, List.getElem_cons_succ, List.getElem_cons_zero, Act.put, List.setIfInBounds_toArray, List.set_cons_zero, List.set_cons_succ])
  refine wpAnyH_take (i := 3) (v := ?vv3) rfl (by kernel_rfl) (by kernel_rfl) (by kernel_rfl) (fun _ _ _ h => h) (Or.inl ⟨by rfl, ?yv3⟩) (by assumption) ?rv3
  case yv3 => intro w hSw; (try dsimp only at hSw); go_simp <;> (try with_reducible rfl)
  (try simp only [List.getElem_toArray, List.getElem_cons_succ, List.getElem_cons_zero, Act.put, List.setIfInBounds_toArray, List.set_cons_zero, List.set_cons_succ])
  refine wpAnyH_take (i := 4) (v := ?vv4) rfl (by kernel_rfl) (by kernel_rfl) (by kernel_rfl) (fun _ _ _ h => h) (Or.inl ⟨by rfl, ?yv4⟩) (by assumption) ?rv4
  case yv4 => intro w hSw; (try dsimp only at hSw); go_simp <;> (try with_reducible rfl)
  (try simp only [List.getElem_toArray, List.getElem_cons_succ, List.getElem_cons_zero, Act.put, List.setIfInBounds_toArray, List.set_cons_zero, List.set_cons_succ])
  refine' wpAnyH_take (i := 5) (v := _) rfl (by kernel_rfl) (by kernel_rfl) (by kernel_rfl) (fun _ _ _ h => h) (yieldsIf_load_mid (by rfl) _ _ (by rfl) _ _ (by rfl) _ _ ?Sv5 ?uv5 ?dv5 ?iv5) (by assumption) ?rv5
  case Sv5 => exact (by intro w h; exact h.1)
  case uv5 => exact Tryd.underlying33
  case dv5 => rfl
  case iv5 => exact zz2
  (try simp only [List.getElem_toArray, List.getElem_cons_succ, List.getElem_cons_zero, Act.put, List.setIfInBounds_toArray, List.set_cons_zero, List.set_cons_succ])
  refine wpAnyH_ready (rs := [6]) (by kernel_rfl) (by simp) ?_
  refine AllReadyH.cons rfl (fun K hK => ?_) AllReadyH.nil
  go_simp
  go_wp2_with fail
  (with_reducible refine (HM.out _).mono ?_)
  rintro e w4 ⟨rfl, hb4⟩
  have B2 := B2.next hb4 B2.lt
  have B3 := B3.next hb4 B3.lt
  have hbe := below_join hbe hb4
  refine hK.out _ _ ⟨blk_range B2, B3.cell HC.out⟩ (fun hHeld => ?_)
  clear hK K hb4
  refine wpAnyH_take (i := 7) (v := ?vu7) rfl (by kernel_rfl) (by kernel_rfl) (by kernel_rfl) (fun _ _ _ h => h) (Or.inl ⟨by rfl, ?yu7⟩) (by assumption) ?ru7
  case yu7 => intro w hSw; (try dsimp only at hSw); go_simp <;> (try with_reducible rfl)
  (try simp only [List.getElem_toArray, List.getElem_cons_succ, List.getElem_cons_zero, Act.put, List.setIfInBounds_toArray, List.set_cons_zero, List.set_cons_succ])
  refine wpAnyH_take (i := 8) (v := ?vu8) rfl (by kernel_rfl) (by kernel_rfl) (by kernel_rfl) (fun _ _ _ h => h) (Or.inl ⟨by rfl, ?yu8⟩) (by assumption) ?ru8
  case yu8 => intro w hSw; (try dsimp only at hSw); go_simp <;> (try with_reducible rfl)
  (try simp only [List.getElem_toArray, List.getElem_cons_succ, List.getElem_cons_zero, Act.put, List.setIfInBounds_toArray, List.set_cons_zero, List.set_cons_succ])
  refine wpAnyH_done (by kernel_rfl) ?_ _
  clear hHeld
  go_wp2
  go_ret
  exact ⟨rfl, hbe⟩
end Go.Proofs.YtbgndopgllnmaaaDoor
