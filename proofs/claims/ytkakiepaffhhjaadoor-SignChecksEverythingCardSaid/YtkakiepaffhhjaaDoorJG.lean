/-
  Contracts of the functions that the statements of layer 3 call, part 7 of 10 (merged texts: Sc9, Sc10, Sc11, Sc12, Sc13). Conditions: as the head of each part says.
-/
import Derived.Test.YtkakiepaffhhjaaDoorJF

/-
  Contract of the walk over sign.tree. Conditions: heights from 0 to 6; a seed of at most 10^7 bytes; the tables read as the document has them.
-/
namespace Go.Proofs.YtkakiepaffhhjaaDoor
open Go.RowKit

/-- A digest stored into a row of the call's own, as one step. -/
theorem wp_own57 {o : Oper} {a : Act} {W : World} {K : Act → World → Prop} {Q : Exit → Act → World → Prop} (x y : Operand) (ho : o.op = .store 23 x y)
    (base n cap g k : Nat) (xs vs : List Value) (hx : a.eval x = .pointer (some ⟨g, k * 16, none⟩)) (hy : a.eval y = .agg vs.toArray) (hown : W.ownsRow base 23 16 (.slice (some ⟨g, 0, none⟩) n cap) n xs) (hk : k < n) (hv : vs.length = 16) (h1 : ∀ v ∈ vs, v.oneCell' = true)
    (h : ∀ W', W'.ownsRow base 23 16 (.slice (some ⟨g, 0, none⟩) n cap) n (xs.take (k * 16) ++ vs ++ xs.drop (k * 16 + 16)) → W.grownBy W' (some g) → K (a.put o.dst undef) W') : Oper.wp Tryd.prog o a W K Q := by
  obtain ⟨i0, hi, _, hz1, _⟩ := info_parts Tryd.info57
  obtain ⟨W', hst, r1, r2⟩ := own_store16 (P := Tryd.prog) hown k hk vs hv h1
  have hrun : (storeVar 23 ⟨g, k * 16, none⟩ (.agg vs.toArray)).run Tryd.prog W = .ok () W' := by
    simp [storeVar, sizeOf, typeInfo, hi, Value.cells, hz1, hv, hst]
  unfold Oper.wp execOp
  simp only [ho, hx, hy, Instr.storeAt, Instr.sureAddr, Sem.run_bind, Sem.run_pure, Result.andThen_ok, hrun]
  exact h W' r1 r2
/-- A level of the tree, where it lies. -/
def LevOK (seed : List UInt8) (h q : Nat) (w : World) (v : Value) : Prop :=
  ∃ g c, v = .slice (some ⟨g, 0, none⟩) (2 ^ (h - q)) c ∧ 2 ^ (h - q) ≤ c ∧ Holds w (some ⟨g, 0, none⟩) (digCells (SG.row seed q (2 ^ (h - q))))
theorem LevOK.next {seed : List UInt8} {h q : Nat} {w w' : World} {v : Value} (hv : LevOK seed h q w v) (hb : Below w.heap.size w w') : LevOK seed h q w' v := by
  obtain ⟨g, c, rfl, hc, hh⟩ := hv
  exact ⟨g, c, rfl, hc, hh.next hb⟩
def Levs (seed : List UInt8) (h : Nat) (w : World) (vs : List Value) : Prop := ∀ q v, vs[q]? = some v → LevOK seed h q w v
theorem Levs.next {seed : List UInt8} {h : Nat} {w w' : World} {vs : List Value} (hv : Levs seed h w vs) (hb : Below w.heap.size w w') : Levs seed h w' vs := fun q v hq => (hv q v hq).next hb
/-- A row of bytes is kept by what changes a row of slices alone. -/
theorem Holds.kept {w w' : World} {b : Nat} {L : List (List UInt8)} {row : Option Nat} (h : Holds w (some ⟨b, 0, none⟩) (digCells L)) (hg : w.grownBy w' row) (hne : ∀ g, row = some g → ∃ a n c, w.cell? ⟨g, 0, none⟩ = some (.slice a n c)) : Holds w' (some ⟨b, 0, none⟩) (digCells L) := fun k u hu => by
  obtain ⟨ad, e, hc⟩ := h k u hu
  cases e
  refine ⟨_, rfl, ?_⟩
  rw [addr_mid] at hc ⊢
  have hlt : b < w.heap.size := World.block_lt_of_cell? w _ hc
  have hblk : w'.heap[b]? = w.heap[b]? := by
    refine hg.block b hlt (fun e => ?_)
    obtain ⟨a, n, c, hs⟩ := hne b e.symm
    have h0 : 0 < (digCells L).length := by
      have := (List.getElem?_eq_some_iff.1 hu).1
      omega
    obtain ⟨ad', e', hc'⟩ := h 0 _ (List.getElem?_eq_getElem h0)
    cases e'
    rw [addr_mid] at hc'
    rw [show (0 + 0 : Nat) = 0 from rfl] at hc'
    rw [hs] at hc'
    have hm := List.getElem_mem h0
    rw [← Option.some.inj hc'] at hm
    unfold digCells at hm
    obtain ⟨d, _, hd⟩ := List.mem_flatMap.1 hm
    obtain ⟨x, _, hx⟩ := List.mem_map.1 hd
    cases hx
  unfold World.cell? at hc ⊢
  simp only [hblk]
  exact hc
theorem Levs.kept {seed : List UInt8} {h : Nat} {w w' : World} {vs : List Value} {row : Option Nat} (hv : Levs seed h w vs) (hg : w.grownBy w' row) (hne : ∀ g, row = some g → ∃ a n c, w.cell? ⟨g, 0, none⟩ = some (.slice a n c)) : Levs seed h w' vs := fun q v hq => by
  obtain ⟨g, c, rfl, hc, hh⟩ := hv q v hq
  exact ⟨g, c, rfl, hc, hh.kept hg hne⟩
theorem own_someE {w : World} {base size : Nat} {E : TypeId} {v : Value} {n : Nat} {xs : List Value} (h : w.ownsRow base E size v n xs) (hn : 0 < n) : ∃ g cap, v = .slice (some ⟨g, 0, none⟩) n cap ∧ (∀ j u, xs[j]? = some u → w.cell? ((⟨g, 0, none⟩ : Addr).add j) = some u) := by
  obtain ⟨h1, h2⟩ := h
  rcases h2 with ⟨rfl, h0⟩ | ⟨g, cap, cur, rfl, r⟩
  · omega
  · exact ⟨g, cap, rfl, World.ownsRow.cells ⟨h1, .inr ⟨g, cap, cur, rfl, r⟩⟩ rfl⟩
/-- What the loop over the levels has made. -/
def TrRel (seed : List UInt8) (h : Nat) (w : World) (below levels i : Value) (wr : World) : Prop :=
  ∃ (q : Nat) (vs : List Value), q ≤ h ∧ i = .int .i64 q ∧ vs.length = q + 1 ∧ vs[q]? = some below ∧ Levs seed h wr vs ∧ wr.ownsRow w.heap.size 55 1 levels (q + 1) vs ∧ Below w.heap.size w wr
theorem Tryd.info91 : (Tryd.prog.info? 55).map (fun i => (i.zero, i.size, i.bytes)) = some (some (.slice none 0 0), 1, 24) := by kernel_rfl
theorem row_range {w : World} {g : Nat} {L : List (List UInt8)} (h16 : ∀ d ∈ L, d.length = 16) (hh : Holds w (some ⟨g, 0, none⟩) (digCells L)) {k : Nat} {d : List UInt8} (hk : L[k]? = some d) : w.rangeAt g (k * 16) (d.map B8) := fun j u hu => by
  obtain ⟨hlt, rfl⟩ := List.getElem?_eq_some_iff.1 hk
  have := digCells_get L h16 k hlt j u hu
  obtain ⟨ad, e, hc⟩ := hh _ _ this
  cases e
  rw [addr_mid, Nat.zero_add] at hc
  exact hc
theorem SG.row_next (seed : List UInt8) (q m k : Nat) (_hk : k < m) : SG.value seed (q + 1) k = SG.node (q + 1) k (SG.value seed q (2 * k)) (SG.value seed q (2 * k + 1)) := rfl
def AbRel (L : List (List UInt8)) (m : Nat) (wb : World) (i : Value) (wr : World) : Prop :=
  ∃ j : Nat, j ≤ m ∧ i = .int .i64 j ∧ wr.ownsRow wb.heap.size 23 16 (.slice (some ⟨wb.heap.size, 0, none⟩) m m) m (fillD L m j) ∧ Below wb.heap.size wb wr
theorem sjoin_at (lv n : Nat) (li : Int) (a b D : List UInt8) (w : World) (hl : li = (lv : Int)) (hD : Unit → SG.node lv n a b = D) (hlv : lv ≤ 1000) (hn : n ≤ 1000000) (ha : a.length = 16) (hb : b.length = 16) (HY : Lay w) :
    Calls Tryd.prog 49 #[.int .i64 li, .int .i64 n, .agg (a.map B8).toArray, .agg (b.map B8).toArray] w fun e w' => e = .returned (.agg (D.map B8).toArray) ∧ Below w.heap.size w w' := by
  subst hl; exact sjoin_any lv n a b D w hD hlv hn ha hb HY
set_option maxRecDepth 100000 in
set_option maxHeartbeats 3200000 in
theorem tree_any (seed : ByteArray) (h : Nat) (w : World) (h6 : h ≤ 6) (hs : seed.size ≤ 10000000) (HY : Lay w) :
    Calls Tryd.prog 30 #[.string seed, .int .i64 h] w fun e w' => ∃ v vs, e = .returned v ∧ vs.length = h + 1 ∧ Levs seed.data.toList h w' vs ∧ w'.ownsRow w.heap.size 55 1 v (h + 1) vs ∧ Below w.heap.size w w' := by
  obtain ⟨i0, hi, hz0, hz1, hz2⟩ := info_parts Tryd.info57
  obtain ⟨j0, ji, jz0, jz1, jz2⟩ := info_parts Tryd.info91
  have hcn : cnt (h : Int) = 2 ^ h := by
    unfold cnt okH
    rw [decide_eq_true (by omega), if_pos rfl, Int.toNat_natCast]
  go_enter Tryd.func30, Tryd.ntmps30
  go_wp2_with fail
  (with_reducible refine (leaves_any seed h (2 ^ h) _ hcn hs HY).mono ?_)
  rintro e w1 ⟨g1, rfl, hown1, hb1⟩
  have hlev0 : LevOK seed.data.toList h 0 w1 (.slice (some ⟨g1, 0, none⟩) (2 ^ h) (2 ^ h)) := by
    obtain ⟨A, c, hv, hc, hh⟩ := holds_own hown1
    cases hv
    exact ⟨g1, _, rfl, Nat.le_refl _, hh⟩
  clear hown1
  have hp : (2 : Nat) ^ h ≤ 64 := Nat.le_trans (Nat.pow_le_pow_right (by decide) h6) (by decide)
  obtain ⟨n0, hn0⟩ : ∃ n0, Hid ((2 : Nat) ^ h = n0) := ⟨_, rfl⟩
  have hlev1 : LevOK seed.data.toList h 0 w1 (.slice (some ⟨g1, 0, none⟩) n0 n0) := by rw [← hn0.out]; exact hlev0
  rw [hn0.out] at hp ⊢
  clear hlev0 hcn
  have hown2 := World.ownsRow_lit (base := w.heap.size) (e := 55) (size := 1) w1 #[Value.slice (some ⟨g1, 0, none⟩) n0 n0] 1 hb1.size (by decide) rfl
  have hbn := below_new w1 (.cells #[Value.slice (some ⟨g1, 0, none⟩) n0 n0] 55)
  have hbel2 := below_join hb1 hbn
  have hlev2 := hlev1.next hbn
  clear hlev1 hb1 hbn
  go_wp2
  go_loopw [5, 6, 16] (TrRel seed.data.toList h w) (fun _ _ i _ => h - (intOf i).toNat)
  case atStart => exact ⟨0, [Value.slice (some ⟨g1, 0, none⟩) n0 n0], Nat.zero_le _, rfl, rfl, rfl, (fun q v hq => by
    match q, hq with
    | 0, hq => cases hq; exact hlev2), hown2, hbel2⟩
  case round =>
    clear hown2 hbel2 hlev2 hn0 hp
    obtain ⟨q, vs, hq, rfl, hvl, hvq, hlv, hown, hbel⟩ := hrel
    obtain ⟨wo, rfl⟩ : ∃ wo, wo = wr := ⟨_, rfl⟩
    by_cases hlt : q < h
    · obtain ⟨g, c, rfl, hc, hh⟩ := hlv q _ hvq
      obtain ⟨m, hm⟩ : ∃ m : Nat, Hid ((2 : Nat) ^ (h - (q + 1)) = m) := ⟨_, rfl⟩
      have hm2 : Hid (2 ^ (h - q) = 2 * m) := by
        have : 2 ^ (h - q) = 2 * m := by rw [← hm.out, show h - q = (h - (q + 1)) + 1 by omega, Nat.pow_succ, Nat.mul_comm]
        exact this
      have h7 : h - q ≤ 6 := by omega
      have hm64 : 2 * m ≤ 64 := by rw [← hm2.out]; exact Nat.le_trans (Nat.pow_le_pow_right (by decide) h7) (by decide)
      obtain ⟨B, hB⟩ : ∃ B, Hid (SG.row seed.data.toList q (2 * m) = B) := ⟨_, rfl⟩
      have hB16 : Hid (∀ d ∈ B, d.length = 16) := by rw [← hB.out]; exact SG.row_16 _ _ _
      have hBa : Hid (∀ k, k < 2 * m → B[k]? = some (SG.value seed.data.toList q k)) := by rw [← hB.out]; exact fun k hk => SG.row_at _ _ _ _ hk
      obtain ⟨L, hL⟩ : ∃ L, Hid (SG.row seed.data.toList (q + 1) m = L) := ⟨_, rfl⟩
      have hLl : Hid (L.length = m) := by rw [← hL.out]; exact SG.row_length _ _ _
      have hL16 : Hid (∀ d ∈ L, d.length = 16) := by rw [← hL.out]; exact SG.row_16 _ _ _
      have hLa : Hid (∀ k, k < m → L[k]? = some (SG.value seed.data.toList (q + 1) k)) := by rw [← hL.out]; exact fun k hk => SG.row_at _ _ _ _ hk
      rw [hm2.out] at hh hc ⊢
      rw [hB.out] at hh
      have HVQ := Lib.hid hvq
      have hdiv : ((2 * m : Nat) : Int).tdiv 2 = (m : Int) := by rw [Int.tdiv_eq_ediv_of_nonneg (by omega)]; omega
      obtain ⟨M2, hM2⟩ : ∃ M2, Hid (2 * m = M2) := ⟨_, rfl⟩
      rw [hM2.out] at hdiv hc hm64 ⊢
      have hm32 : m ≤ 32 := by have := hM2.out; omega
      clear hvq
      go_wp2_with (at_make; refine wpList_make_full _ rfl _ _ 55 rfl wo.heap.size 23 i0 _ 16 Tryd.underlying55 hi hz0 hz1 _ _ _ _ m rfl rfl rfl rfl ?b2 ?b3 ?b4 ?_)
      case b2 => rw [hz2]; have := hM2.out; omega
      case b3 => unfold maxLen; have := hM2.out; omega
      case b4 => omega
      intro w3 hown3 hg3
      have hown3' : w3.ownsRow wo.heap.size 23 16 (.slice (some ⟨wo.heap.size, 0, none⟩) m m) m (fillD L m 0) := by
        have hownx : w3.ownsRow wo.heap.size 23 16 (.slice (some ⟨wo.heap.size, 0, none⟩) m m) m (madeCells (List.replicate 16 (Value.int .u8 0)).toArray (m * 16)).toList := hown3
        rw [made_rep 16 _ _ (by decide)] at hownx
        rw [fillD_zero]; exact hownx
      have hbel3 := (Below.refl wo.heap.size wo).grown hg3 (Nat.le_refl _) (fun k hk => by cases hk)
      clear hown3 hg3
      go_wp2
      go_loopw [25] (AbRel L m wo) (fun i _ => m - (intOf i).toNat)
      case atStart => exact ⟨0, Nat.zero_le _, rfl, hown3', hbel3⟩
      case round =>
        clear hown3' hbel3
        obtain ⟨j, hj, rfl, hownj, hbelj⟩ := hrel
        have hbelw := below_join hbel hbelj
        by_cases hjm : j < m
        · obtain ⟨X, hX⟩ : ∃ X, Hid (SG.value seed.data.toList q (2 * j) = X) := ⟨_, rfl⟩
          obtain ⟨Y, hY⟩ : ∃ X, Hid (SG.value seed.data.toList q (2 * j + 1) = X) := ⟨_, rfl⟩
          obtain ⟨D, hD⟩ : ∃ X, Hid (SG.value seed.data.toList (q + 1) j = X) := ⟨_, rfl⟩
          have hXl : Hid (X.length = 16) := by rw [← hX.out]; exact SG.value_length _ _ _
          have hYl : Hid (Y.length = 16) := by rw [← hY.out]; exact SG.value_length _ _ _
          have hDl : Hid (D.length = 16) := by rw [← hD.out]; exact SG.value_length _ _ _
          have hDn : Unit → SG.node (q + 1) j X Y = D := fun _ => by rw [← hD.out, ← hX.out, ← hY.out]; rfl
          have hLj : Hid (L[j]? = some D) := by
            have := hLa.out j hjm
            rw [hD.out] at this
            exact this
          have hBX : B[2 * j]? = some X := by rw [hBa.out (2 * j) (by omega), hX.out]
          have hBY : B[2 * j + 1]? = some Y := by rw [hBa.out (2 * j + 1) (by omega), hY.out]
          have hS : ∀ w', Below wo.heap.size wo w' → (Below w.heap.size w w' ∧ w'.rangeAt g (2 * j * 16) (X.map B8) ∧ w'.rangeAt g ((2 * j + 1) * 16) (Y.map B8)) := fun w' h => ⟨below_join hbel h, row_range hB16.out (hh.next h) hBX, row_range hB16.out (hh.next h) hBY⟩
          have hu := Tryd.underlying23
          have hzx : (Tryd.prog.info? 23).map (·.size) = some (X.map B8).length := by rw [List.length_map, hXl.out]; exact Tryd.size44
          have hzy : (Tryd.prog.info? 23).map (·.size) = some (Y.map B8).length := by rw [List.length_map, hYl.out]; exact Tryd.size44
          have hdd := below_drew wr
          have hq6 : q ≤ 6 := by omega
          have hi1 : (2 * (j : Int)) < (M2 : Int) := by have := hM2.out; omega
          have hi2 : (2 * (j : Int) + 1) < (M2 : Int) := by have := hM2.out; omega
          have hw1 : IntKind.i64.wrap ((q : Int) + 1) = (q : Int) + 1 := by simp only [IntKind.wrap_i64]; omega
          have hw2 : IntKind.i64.wrap (2 * (j : Int)) = 2 * (j : Int) := by simp only [IntKind.wrap_i64]; omega
          have hw3 : IntKind.i64.wrap (2 * (j : Int) + 1) = 2 * (j : Int) + 1 := by simp only [IntKind.wrap_i64]; omega
          have hp1 : 0 ≤ 2 * (j : Int) := by omega
          have hp2 : 0 ≤ 2 * (j : Int) + 1 := by omega
          have ht1 : (2 * (j : Int)).toNat = 2 * j := by omega
          have ht2 : (2 * (j : Int) + 1).toNat = 2 * j + 1 := by omega
          go_wp2
          refine wp_region_held_drew (S := fun w' => Below w.heap.size w w' ∧ w'.rangeAt g (2 * j * 16) (X.map B8) ∧ w'.rangeAt g ((2 * j + 1) * 16) (Y.map B8)) (by kernel_rfl) (hS _ (below_join hbelj hdd)) (fun hHeld => ?_)
          generalize wr.drew = wd at hdd hHeld ⊢
          have hownd := own_next hownj hdd
          have hbd := below_join hbelj hdd
          clear hownj hdd
          refine wpAnyH_take (i := 0) (v := ?vt0) rfl (by kernel_rfl) (by kernel_rfl) (by kernel_rfl) (fun _ _ _ h => h) (Or.inl ⟨by rfl, ?yt0⟩) (by assumption) ?rt0
          case yt0 => intro w hSw; (try dsimp only at hSw); go_simp <;> (try with_reducible rfl)
          (try simp only [List.getElem_toArray, List.getElem_cons_zero, Act.put, List.setIfInBounds_toArray, List.set_cons_zero, List.set_cons_succ])
          refine wpAnyH_take (i := 1) (v := ?vt1) rfl (by kernel_rfl) (by kernel_rfl) (by kernel_rfl) (fun _ _ _ h => h) (Or.inl ⟨by rfl, ?yt1⟩) (by assumption) ?rt1
          case yt1 => intro w hSw; (try dsimp only at hSw); go_simp <;> (try with_reducible rfl)
          (try simp only [List.getElem_toArray, List.getElem_cons_succ, List.getElem_cons_zero, Act.put, List.setIfInBounds_toArray, List.set_cons_zero, List.set_cons_succ])
          refine wpAnyH_take (i := 2) (v := ?vt2) rfl (by kernel_rfl) (by kernel_rfl) (by kernel_rfl) (fun _ _ _ h => h) (Or.inl ⟨by rfl, ?yt2⟩) (by assumption) ?rt2
          case yt2 => intro w hSw; (try dsimp only at hSw); go_simp <;> (try with_reducible rfl)
          (try simp only [List.getElem_toArray, List.getElem_cons_succ, List.getElem_cons_zero, Act.put, List.setIfInBounds_toArray, List.set_cons_zero, List.set_cons_succ])
          refine wpAnyH_take (i := 3) (v := ?vt3) rfl (by kernel_rfl) (by kernel_rfl) (by kernel_rfl) (fun _ _ _ h => h) (Or.inl ⟨by rfl, ?yt3⟩) (by assumption) ?rt3
          case yt3 => intro w hSw; (try dsimp only at hSw); go_simp <;> (try with_reducible rfl)
          (try simp only [List.getElem_toArray, List.getElem_cons_succ, List.getElem_cons_zero, Act.put, List.setIfInBounds_toArray, List.set_cons_zero, List.set_cons_succ])
          refine wpAnyH_take (i := 4) (v := ?vt4) rfl (by kernel_rfl) (by kernel_rfl) (by kernel_rfl) (fun _ _ _ h => h) (Or.inl ⟨by rfl, ?yt4⟩) (by assumption) ?rt4
          case yt4 => intro w hSw; (try dsimp only at hSw); go_simp <;> (try with_reducible rfl)
          (try simp only [List.getElem_toArray, List.getElem_cons_succ, List.getElem_cons_zero, Act.put, List.setIfInBounds_toArray, List.set_cons_zero, List.set_cons_succ])
          refine wpAnyH_take (i := 5) (v := ?vt5) rfl (by kernel_rfl) (by kernel_rfl) (by kernel_rfl) (fun _ _ _ h => h) (Or.inl ⟨by rfl, ?yt5⟩) (by assumption) ?rt5
          case yt5 => intro w hSw; (try dsimp only at hSw); go_simp <;> (try with_reducible rfl)
          (try simp only [List.getElem_toArray, List.getElem_cons_succ, List.getElem_cons_zero, Act.put, List.setIfInBounds_toArray, List.set_cons_zero, List.set_cons_succ])
          refine wpAnyH_take (i := 6) (v := ?vt6) rfl (by kernel_rfl) (by kernel_rfl) (by kernel_rfl) (fun _ _ _ h => h) (Or.inl ⟨by rfl, ?yt6⟩) (by assumption) ?rt6
          case yt6 => intro w hSw; (try dsimp only at hSw); go_simp <;> (try with_reducible rfl)
          (try simp only [List.getElem_toArray, List.getElem_cons_succ, List.getElem_cons_zero, Act.put, List.setIfInBounds_toArray, List.set_cons_zero, List.set_cons_succ])
          refine wpAnyH_take (i := 7) (v := ?vt7) rfl (by kernel_rfl) (by kernel_rfl) (by kernel_rfl) (fun _ _ _ h => h) (Or.inl ⟨by rfl, ?yt7⟩) (by assumption) ?rt7
          case yt7 => intro w hSw; (try dsimp only at hSw); go_simp <;> (try with_reducible rfl)
          (try simp only [List.getElem_toArray, List.getElem_cons_succ, List.getElem_cons_zero, Act.put, List.setIfInBounds_toArray, List.set_cons_zero, List.set_cons_succ])
          refine wpAnyH_take (i := 8) (v := ?vt8) rfl (by kernel_rfl) (by kernel_rfl) (by kernel_rfl) (fun _ _ _ h => h) (Or.inl ⟨by rfl, ?yt8⟩) (by assumption) ?rt8
          case yt8 => intro w hSw; (try dsimp only at hSw); go_simp <;> (try with_reducible rfl)
          (try simp only [List.getElem_toArray, List.getElem_cons_succ, List.getElem_cons_zero, Act.put, List.setIfInBounds_toArray, List.set_cons_zero, List.set_cons_succ])
          refine' wpAnyH_take (i := 9) (v := _) rfl (by kernel_rfl) (by kernel_rfl) (by kernel_rfl) (fun _ _ _ h => h) (yieldsIf_load_mid (by rfl) _ _ (by rfl) _ _ (by rfl) _ _ ?St9 ?ut9 ?dt9 ?it9) (by assumption) ?rt9
          case St9 => exact (by intro w h; exact h.2.1)
          case ut9 => exact hu
          case dt9 => rfl
          case it9 => exact hzx
          (try simp only [List.getElem_toArray, List.getElem_cons_succ, List.getElem_cons_zero, Act.put, List.setIfInBounds_toArray, List.set_cons_zero, List.set_cons_succ])
          refine wpAnyH_take (i := 10) (v := ?vt10) rfl (by kernel_rfl) (by kernel_rfl) (by kernel_rfl) (fun _ _ _ h => h) (Or.inl ⟨by rfl, ?yt10⟩) (by assumption) ?rt10
          case yt10 => intro w hSw; (try dsimp only at hSw); go_simp <;> (try with_reducible rfl)
          (try simp only [List.getElem_toArray, List.getElem_cons_succ, List.getElem_cons_zero, Act.put, List.setIfInBounds_toArray, List.set_cons_zero, List.set_cons_succ])
          refine wpAnyH_take (i := 11) (v := ?vt11) rfl (by kernel_rfl) (by kernel_rfl) (by kernel_rfl) (fun _ _ _ h => h) (Or.inl ⟨by rfl, ?yt11⟩) (by assumption) ?rt11
          case yt11 => intro w hSw; (try dsimp only at hSw); go_simp <;> (try with_reducible rfl)
          (try simp only [List.getElem_toArray, List.getElem_cons_succ, List.getElem_cons_zero, Act.put, List.setIfInBounds_toArray, List.set_cons_zero, List.set_cons_succ])
          refine wpAnyH_take (i := 12) (v := ?vt12) rfl (by kernel_rfl) (by kernel_rfl) (by kernel_rfl) (fun _ _ _ h => h) (Or.inl ⟨by rfl, ?yt12⟩) (by assumption) ?rt12
          case yt12 => intro w hSw; (try dsimp only at hSw); go_simp <;> (try with_reducible rfl)
          (try simp only [List.getElem_toArray, List.getElem_cons_succ, List.getElem_cons_zero, Act.put, List.setIfInBounds_toArray, List.set_cons_zero, List.set_cons_succ])
          refine wpAnyH_take (i := 13) (v := ?vt13) rfl (by kernel_rfl) (by kernel_rfl) (by kernel_rfl) (fun _ _ _ h => h) (Or.inl ⟨by rfl, ?yt13⟩) (by assumption) ?rt13
          case yt13 => intro w hSw; (try dsimp only at hSw); go_simp <;> (try with_reducible rfl)
          (try simp only [List.getElem_toArray, List.getElem_cons_succ, List.getElem_cons_zero, Act.put, List.setIfInBounds_toArray, List.set_cons_zero, List.set_cons_succ])
          refine wpAnyH_take (i := 14) (v := ?vt14) rfl (by kernel_rfl) (by kernel_rfl) (by kernel_rfl) (fun _ _ _ h => h) (Or.inl ⟨by rfl, ?yt14⟩) (by assumption) ?rt14
          case yt14 => intro w hSw; (try dsimp only at hSw); go_simp <;> (try with_reducible rfl)
          (try simp only [List.getElem_toArray, List.getElem_cons_succ, List.getElem_cons_zero, Act.put, List.setIfInBounds_toArray, List.set_cons_zero, List.set_cons_succ])
          refine' wpAnyH_take (i := 15) (v := _) rfl (by kernel_rfl) (by kernel_rfl) (by kernel_rfl) (fun _ _ _ h => h) (yieldsIf_load_mid (by rfl) _ _ (by rfl) _ _ (by rfl) _ _ ?St15 ?ut15 ?dt15 ?it15) (by assumption) ?rt15
          case St15 => exact (by intro w h; exact h.2.2)
          case ut15 => exact hu
          case dt15 => rfl
          case it15 => exact hzy
          (try simp only [List.getElem_toArray, List.getElem_cons_succ, List.getElem_cons_zero, Act.put, List.setIfInBounds_toArray, List.set_cons_zero, List.set_cons_succ])
          refine wpAnyH_ready (rs := [16]) (by kernel_rfl) (by simp) ?_
          refine AllReadyH.cons rfl (fun K hK => ?_) AllReadyH.nil
          go_simp
          go_wp2_with fail
          (with_reducible refine (sjoin_at (q + 1) j _ X Y D _ (by omega) hDn (by omega) (by omega) hXl.out hYl.out (HY.next hHeld.1)).mono ?_)
          rintro e w7 ⟨rfl, hb7⟩
          have hown7 := own_next hownd hb7
          have hbel7 := below_join hbd hb7
          have hsz7 := hbel7.size
          clear hownd hbd hb7 hHeld
          refine hK.out _ _ (hS _ hbel7) (fun hHeld => ?_)
          clear hK K
          refine wpAnyH_take (i := 17) (v := ?vt17) rfl (by kernel_rfl) (by kernel_rfl) (by kernel_rfl) (fun _ _ _ h => h) (Or.inl ⟨by rfl, ?yt17⟩) (by assumption) ?rt17
          case yt17 => intro w hSw; (try dsimp only at hSw); go_simp <;> (try with_reducible rfl)
          (try simp only [List.getElem_toArray, List.getElem_cons_succ, List.getElem_cons_zero, Act.put, List.setIfInBounds_toArray, List.set_cons_zero, List.set_cons_succ])
          refine wpAnyH_ready (rs := [18]) (by kernel_rfl) (by simp) ?_
          refine AllReadyH.cons rfl (fun K hK => ?_) AllReadyH.nil
          rw [if_pos (by rfl)]
          refine wp_own57 (.tmp 45) (.tmp 44) rfl wo.heap.size m m wo.heap.size j (fillD L m j) (D.map B8) ?x8 rfl hown7 hjm (by rw [List.length_map]; exact hDl.out) (B8_one D) ?_
          case x8 => rfl
          intro w8 hown8 hg8
          rw [fillD_next L m j D hL16.out hLl.out hjm hLj.out] at hown8
          have hbel8 := hbel7.grown hg8 hsz7 (fun q hq => by cases hq; exact Nat.le_refl _)
          refine hK.out _ _ (hS _ hbel8) (fun hHeld => ?_)
          clear hK K hown7 hg8 hbel7
          refine wpAnyH_done (by kernel_rfl) ?_ _
          go_wp2
          go_roundw
          case rel => exact ⟨j + 1, by omega, by go_num, hown8, hbel8⟩
          case measure => simp [intOf]; omega
        · obtain rfl : j = m := by omega
          rw [fillD_all L j hLl.out] at hownj
          obtain ⟨A3, c3, hv3, hc3, hh3⟩ := holds_own hownj
          cases hv3
          have hlv3 := hlv.next hbelj
          have hown3 := own_next hown hbelj
          obtain ⟨gl, cL, hvL, hhL⟩ := own_someE hown3 (Nat.succ_pos q)
          subst hvL
          have hlt3 := hown3.lt
          have hsz3 := hbelw.size
          clear hownj hown hlv hbel hbelj
          go_wp2_with (at_builtin; refine wpList_append_own _ rfl _ _ 50 rfl w.heap.size 55 j0 (.slice none 0 0) 1 24 Tryd.underlying50 ji jz0 jz1 jz2 rfl (by decide) _ _ _ rfl (hown3.alloc _) ⟨wr.heap.size, 0, none⟩ 1 1 [.slice (some ⟨wo.heap.size, 0, none⟩) j j] rfl ?c1 ?c2 ?c3 ?c4 ?c5 ?c6 ?_)
          case c1 => rfl
          case c2 => exact fun k u hu => one_cellB hu
          case c3 => exact one_cell1 rfl
          case c4 => unfold maxLen; omega
          case c5 => omega
          case c6 => simp; omega
          intro v4 w4 hown4 hgrow _
          have hbel4 := (hbelw.alloc hsz3 (.cells #[.slice (some ⟨wo.heap.size, 0, none⟩) j j] 55)).grown hgrow (by simp; omega) (fun k hk => (hlt3 k hk).1)
          have hlv4 : Levs seed.data.toList h w4 (vs ++ [.slice (some ⟨wo.heap.size, 0, none⟩) j j]) := by
            have hbn := below_new wr (.cells #[.slice (some ⟨wo.heap.size, 0, none⟩) j j] 55)
            have hk := (hlv3.next hbn).kept hgrow (fun g' hg' => by
              cases hg'
              obtain ⟨v0, hv0⟩ : ∃ v0, vs[0]? = some v0 := ⟨_, List.getElem?_eq_getElem (by omega)⟩
              obtain ⟨ga, ca, rfl, _, _⟩ := hlv3 0 v0 hv0
              have hc := hhL 0 _ hv0
              rw [addr_mid] at hc
              exact ⟨_, _, _, by rw [hbn.cell (World.block_lt_of_cell? wr _ hc)]; exact hc⟩)
            intro q' v' hq'
            rcases Nat.lt_or_ge q' vs.length with hlt' | hge
            · rw [List.getElem?_append_left hlt'] at hq'; exact hk q' v' hq'
            · rw [List.getElem?_append_right hge] at hq'
              have hqe : q' = q + 1 := by
                rcases Nat.lt_or_ge (q' - vs.length) 1 with h1 | h1
                · omega
                · rw [List.getElem?_eq_none (by simpa using h1)] at hq'; cases hq'
              subst hqe
              rw [hvl, Nat.sub_self] at hq'
              cases hq'
              have hh4 := (Holds.next hh3 hbn).kept hgrow (fun g' hg' => by
                cases hg'
                obtain ⟨v0, hv0⟩ : ∃ v0, vs[0]? = some v0 := ⟨_, List.getElem?_eq_getElem (by omega)⟩
                obtain ⟨ga, ca, rfl, _, _⟩ := hlv3 0 v0 hv0
                have hc := hhL 0 _ hv0
                rw [addr_mid] at hc
                exact ⟨_, _, _, by rw [hbn.cell (World.block_lt_of_cell? wr _ hc)]; exact hc⟩)
              refine ⟨_, _, by rw [hm.out], by rw [hm.out]; exact Nat.le_refl _, ?_⟩
              rw [hm.out, hL.out]; exact hh4
          go_wp2
          go_roundw
          case rel => exact ⟨q + 1, _, by omega, by go_num, by rw [List.length_append, hvl]; rfl, by rw [List.getElem?_append_right (by omega), hvl]; simp, hlv4, hown4, hbel4⟩
          case measure => simp [intOf]; omega
    · obtain rfl : q = h := by omega
      clear hlt hq
      go_wp2
      go_ret
      exact ⟨_, vs, rfl, hvl, hlv, hown, hbel⟩
end Go.Proofs.YtkakiepaffhhjaaDoor

/-
  Contracts of the walks over sign.root, sign.Public, sign.Message, sign.has, sign.Size and the reference's Count, Size, Message, Public. Conditions: a seed of at most 10^7 bytes; the tables read as the document has them.
-/
namespace Go.Proofs.YtkakiepaffhhjaaDoor
open Go.RowKit

set_option maxRecDepth 100000 in
set_option maxHeartbeats 800000 in
theorem root_any (seed : List UInt8) (h : Nat) (base : Nat) (v : Value) (vs : List Value) (D : List UInt8) (w : World) (hD : Unit → SG.value seed h 0 = D) (h6 : h ≤ 6) (hl : vs.length = h + 1) (hlv : Levs seed h w vs) (hown : w.ownsRow base 55 1 v (h + 1) vs) :
    Calls Tryd.prog 29 #[v] w fun e w' => e = .returned (.agg (D.map B8).toArray) ∧ Below w.heap.size w w' := by
  obtain ⟨gl, cL, rfl, hcl⟩ := own_someE hown (Nat.succ_pos h)
  obtain ⟨v0, hv0⟩ : ∃ v0, vs[h]? = some v0 := ⟨_, List.getElem?_eq_getElem (by omega)⟩
  obtain ⟨g, c, rfl, hc, hh⟩ := hlv h v0 hv0
  rw [Nat.sub_self] at hh hc hv0
  have hDl : Hid (D.length = 16) := by rw [← hD ()]; exact SG.value_length _ _ _
  have hc1 := hcl h _ hv0
  have hrow : SG.row seed h (2 ^ 0) = [D] := by rw [← hD ()]; rfl
  rw [hrow] at hh
  have hrg : w.rangeAt g (0 * 16) (D.map B8) := row_range (L := [D]) (fun d hd => by simp at hd; subst hd; exact hDl.out) hh rfl
  rw [Nat.zero_mul] at hrg
  rw [show (2 : Nat) ^ 0 = 1 from rfl] at hc1
  rw [addr_mid, Nat.zero_add] at hc1
  have hlt0 := World.block_lt_of_cell? w _ hc1
  have hgl : g < w.heap.size := by
    have := hrg 0 (B8 (D.getD 0 0)) (by rw [List.getElem?_map, List.getD_eq_getElem?_getD, List.getElem?_eq_getElem (by rw [hDl.out]; decide)]; rfl)
    exact World.block_lt_of_cell? w _ this
  have HC1 := Lib.hid hc1
  have HRG := Lib.hid hrg
  clear hD hl hlv hown hcl hc hh hrow hv0 hc1 hrg
  go_enter Tryd.func29, Tryd.ntmps29
  go_wp2_with (with_reducible refine wpList_alloc (o := ⟨some 2, .alloc 23, _, _, _, _⟩) (by with_unfolding_all rfl) 23 (by with_unfolding_all rfl) (aggB (SM.zeros 16)) zero16 (by exact Tryd.zero44) (by with_unfolding_all rfl) ?_)
  intro gr w1 hgr hs1 hb1 hB1
  have hle : w.heap.size ≤ gr := Nat.le_of_eq hgr.out.symm
  have hbel1 : Below w.heap.size w w1 := hb1.mono hle
  have hcell : w1.cell? ⟨gl, h, none⟩ = some (.slice (some ⟨g, 0, none⟩) 1 c) := by rw [hbel1.cell (p := ⟨gl, h, none⟩) hlt0]; exact HC1.out
  have hrg1 : w1.rangeAt g 0 (D.map B8) := fun j u hu => by rw [hbel1.cell (p := ⟨g, 0 + j, none⟩) hgl]; exact HRG.out j u hu
  have hu := Tryd.underlying23
  have hz : (Tryd.prog.info? 23).map (·.size) = some (D.map B8).length := by rw [List.length_map, hDl.out]; exact Tryd.size44
  have hidx : ((h : Int) + 1 - 1) = (h : Int) := by omega
  clear hgr hs1 hb1
  go_wp2_with (first | (with_reducible refine wpList_load_mid (op := ⟨some 10, .load 23 (.tmp 9), _, _, _, _⟩) (by with_unfolding_all rfl) 23 (.tmp 9) (by with_unfolding_all rfl) g 0 (by with_unfolding_all rfl) (D.map B8) (.array 16 5) hrg1 hu (by with_unfolding_all rfl) hz ?_) | (with_reducible refine wpList_put (o := ⟨none, .store 23 (.tmp 2) (.tmp 10), _, _, _, _⟩) (by with_unfolding_all rfl) 23 (.tmp 2) (.tmp 10) (by with_unfolding_all rfl) gr 0 (by with_unfolding_all rfl) (.agg (D.map B8).toArray) (by with_unfolding_all rfl) hB1 (D.map B8) (by with_unfolding_all rfl) (by rw [List.length_map, hDl.out]; exact Tryd.size44) (by with_unfolding_all (rw [List.length_map, hDl.out]; exact Nat.le_refl _)) (B8_one _) ?_))
  intro w9 hu9 hB9
  rw [splice_all _ _ (by rw [List.length_map, hDl.out]; rfl)] at hB9
  have hbel9 := hbel1.trans (hu9.below (B := w.heap.size) hle)
  go_wp2
  refine bodyPost_ret (results_cell_row rfl _ _ gr _ _ _ _ rfl hB9 Tryd.underlying23 rfl (by rw [List.size_toArray, List.length_map, hDl.out]; exact Tryd.size44)) rfl ⟨rfl, hbel9⟩
/-- Two results: a digest in a cell, and a number. -/
theorem results_dig_tmp {fn : Func} {p u : Tmp} (h : fn.results = #[.cell p 23, .tmp u]) (tmps : Array Value) (w : World) (g : Nat) (t : TypeId) (cs : Array Value) (fr : Nat × Nat)
    (hp : tmps.getD p undef = .pointer (some ⟨g, 0, none⟩)) (hg : w.heap[g]? = some (.cells cs t fr)) (hi : (Tryd.prog.info? 23).map (·.size) = some cs.size) :
    (results fn tmps).run Tryd.prog w = .ok (.tuple #[.agg cs, tmps.getD u undef]) w := by
  have hp' : tmps[p]?.getD undef = .pointer (some ⟨g, 0, none⟩) := by simpa using hp
  have hrun := run_loadVar_row (P := Tryd.prog) w g t 23 cs fr (.array 16 5) hg Tryd.underlying23 rfl hi
  simp [results, h, hp', asAddr, hrun]
theorem okH_nat {h : Int} (ho : okH h = true) : ∃ k : Nat, h = (k : Int) ∧ k ≤ 6 := by
  have := of_decide_eq_true ho
  exact ⟨h.toNat, by omega, by omega⟩
def pubD (seed : List UInt8) (h : Int) : List UInt8 := if okH h then SG.value seed h.toNat 0 else SM.zeros 16
def pubE (h : Int) : Int := if okH h then 0 else 1
theorem pubD_length (seed : List UInt8) (h : Int) : (pubD seed h).length = 16 := by
  unfold pubD; split
  · exact SG.value_length _ _ _
  · rfl
set_option maxRecDepth 100000 in
set_option maxHeartbeats 800000 in
theorem public_any (seed : ByteArray) (h : Int) (D : List UInt8) (w : World) (hD : Unit → pubD seed.data.toList h = D) (hs : seed.size ≤ 10000000) (HY : Lay w) :
    Calls Tryd.prog 16 #[.string seed, .int .i64 h] w fun e w' => e = .returned (.tuple #[.agg (D.map B8).toArray, .int .i64 (pubE h)]) ∧ Below w.heap.size w w' := by
  have hDl : Hid (D.length = 16) := by rw [← hD ()]; exact pubD_length _ _
  by_cases ho : okH h = true
  · obtain ⟨k, rfl, hk⟩ := okH_nat ho
    have hDv : Unit → SG.value seed.data.toList k 0 = D := fun _ => by rw [← hD ()]; unfold pubD; rw [if_pos ho, Int.toNat_natCast]
    have hE : pubE (k : Int) = 0 := by unfold pubE; rw [if_pos ho]
    rw [hE]
    clear hD
    go_enter Tryd.func16, Tryd.ntmps16
    go_wp2_with (with_reducible refine wpList_alloc (o := ⟨some 4, .alloc 23, _, _, _, _⟩) (by with_unfolding_all rfl) 23 (by with_unfolding_all rfl) (aggB (SM.zeros 16)) zero16 (by exact Tryd.zero44) (by with_unfolding_all rfl) ?_)
    intro gr w1 hgr hs1 hb1 hB1
    have hle : w.heap.size ≤ gr := Nat.le_of_eq hgr.out.symm
    have hbel1 : Below w.heap.size w w1 := hb1.mono hle
    clear hgr hs1 hb1
    go_wp2_with fail
    (with_reducible refine (permitted_to _ true _ ho).mono ?_)
    rintro e w' ⟨rfl, rfl⟩
    go_wp2_with fail
    (with_reducible refine (tree_any seed k _ hk hs (HY.next hbel1)).mono ?_)
    rintro e w2 ⟨v, vs, rfl, hvl, hlv, hown, hb2⟩
    have hB2 := hB1.next hb2 hB1.lt
    have hbel2 := below_join hbel1 hb2
    clear hB1 hbel1
    go_wp2_with fail
    (with_reducible refine (root_any seed.data.toList k _ v vs D _ hDv hk hvl hlv hown).mono ?_)
    rintro e w3 ⟨rfl, hb3⟩
    have hB3 := hB2.next hb3 hB2.lt
    have hbel3 := below_join hbel2 hb3
    clear hB2 hbel2 hb3 hown hlv hb2
    go_wp2_with (with_reducible refine wpList_put (o := ⟨none, .store 23 (.tmp 4) (.tmp 13), _, _, _, _⟩) (by with_unfolding_all rfl) 23 (.tmp 4) (.tmp 13) (by with_unfolding_all rfl) gr 0 (by with_unfolding_all rfl) (.agg (D.map B8).toArray) (by with_unfolding_all rfl) hB3 (D.map B8) (by with_unfolding_all rfl) (by rw [List.length_map, hDl.out]; exact Tryd.size44) (by with_unfolding_all (rw [List.length_map, hDl.out]; exact Nat.le_refl _)) (B8_one _) ?_)
    intro w9 hu9 hB9
    rw [splice_all _ _ (by rw [List.length_map, hDl.out]; rfl)] at hB9
    have hbel9 := hbel3.trans (hu9.below (B := w.heap.size) hle)
    go_wp2
    refine bodyPost_ret (results_dig_tmp rfl _ _ gr _ _ _ rfl hB9 (by rw [List.size_toArray, List.length_map, hDl.out]; exact Tryd.size44)) rfl ⟨rfl, hbel9⟩
  · have hof : okH h = false := by simpa using ho
    have hDz : Hid ((SM.zeros 16).map B8 = D.map B8) := by
      have : D = SM.zeros 16 := by rw [← hD ()]; unfold pubD; rw [hof]; rfl
      rw [this]; rfl
    have hE : pubE h = 1 := by unfold pubE; rw [hof]; rfl
    rw [hE]
    clear hD
    go_enter Tryd.func16, Tryd.ntmps16
    go_wp2_with (with_reducible refine wpList_alloc (o := ⟨some 4, .alloc 23, _, _, _, _⟩) (by with_unfolding_all rfl) 23 (by with_unfolding_all rfl) (aggB (SM.zeros 16)) zero16 (by exact Tryd.zero44) (by with_unfolding_all rfl) ?_)
    intro gr w1 hgr hs1 hb1 hB1
    have hle : w.heap.size ≤ gr := Nat.le_of_eq hgr.out.symm
    have hbel1 : Below w.heap.size w w1 := hb1.mono hle
    clear hgr hs1 hb1
    go_wp2_with fail
    (with_reducible refine (permitted_to _ false _ hof).mono ?_)
    rintro e w' ⟨rfl, rfl⟩
    go_wp2_with (first | (with_reducible refine wpList_build (o := ⟨some 9, .build 23 #[], _, _, _, _⟩) ?g4 23 #[] ?o4 #[] ?x4 (.agg ((SM.zeros 16).map B8).toArray) ?r4 ?_) | (with_reducible refine wpList_put (o := ⟨none, .store 23 (.tmp 4) (.tmp 9), _, _, _, _⟩) ?g6 23 (.tmp 4) (.tmp 9) ?o6 gr 0 ?x6 (.agg ((SM.zeros 16).map B8).toArray) ?y6 hB1 ((SM.zeros 16).map B8) ?v6 ?i6 ?l6 ?q6 ?_))
    try (case x4 => first | rfl | simp)
    try (case g4 => rfl)
    try (case o4 => rfl)
    try (case r4 => exact Tryd.build44)
    try (case y6 => rfl)
    try (case x6 => rfl)
    try (case g6 => rfl)
    try (case o6 => rfl)
    try (case v6 => rfl)
    try (case i6 => exact Tryd.size44)
    try (case l6 => exact Nat.le_refl _)
    try (case q6 => exact B8_one _)
    intro w9 hu9 hB9
    rw [splice_all _ _ (by rfl), hDz.out] at hB9
    have hbel9 := hbel1.trans (hu9.below (B := w.heap.size) hle)
    go_wp2
    refine bodyPost_ret (results_dig_tmp rfl _ _ gr _ _ _ rfl hB9 (by rw [List.size_toArray, List.length_map, hDl.out]; exact Tryd.size44)) rfl ⟨rfl, hbel9⟩
end Go.Proofs.YtkakiepaffhhjaaDoor

/-
  Contracts of the walks over sign.has, sign.Size, sign.Message and the reference's Count, Size, Message, Public. Conditions: a seed of at most 10^7 bytes; messages of at most 10^6 bytes; the tables read as the document has them.
-/
namespace Go.Proofs.YtkakiepaffhhjaaDoor
open Go.RowKit

def CtRel (h : Nat) (w : World) (n i : Value) (wr : World) : Prop := ∃ k : Nat, k ≤ h ∧ i = .int .i64 k ∧ n = .int .i64 ((2 ^ k : Nat) : Int) ∧ w = wr
set_option maxRecDepth 100000 in
theorem rcount_any (h : Int) (w : World) :
    Calls Tryd.prog 13 #[.int .i64 h] w fun e w' => e = .returned (.int .i64 (cnt h : Nat)) ∧ w = w' := by
  by_cases ho : okH h = true
  · obtain ⟨k, rfl, hk⟩ := okH_nat ho
    have hc : cnt (k : Int) = 2 ^ k := by unfold cnt; rw [if_pos ho, Int.toNat_natCast]
    rw [hc]
    clear hc ho
    go_enter Tryd.func13, Tryd.ntmps13
    go_wp2
    go_loopw [3, 4] (CtRel k w) (fun _ i _ => k - (intOf i).toNat)
    case atStart => exact ⟨0, Nat.zero_le _, rfl, rfl, rfl⟩
    case round =>
      obtain ⟨q, hq, rfl, rfl, rfl⟩ := hrel
      by_cases hlt : q < k
      · have hp : (2 : Nat) ^ q ≤ 64 := Nat.le_trans (Nat.pow_le_pow_right (by decide) (show q ≤ 6 by omega)) (by decide)
        have hsuc : Hid ((2 : Nat) ^ (q + 1) = 2 * 2 ^ q) := by
          have : (2 : Nat) ^ (q + 1) = 2 * 2 ^ q := by rw [Nat.pow_succ, Nat.mul_comm]
          exact this
        generalize (2 : Nat) ^ q = p at hp hsuc
        go_wp2
        go_roundw
        case rel => exact ⟨q + 1, hlt, by go_num, by rw [hsuc.out]; go_num, rfl⟩
        case measure => simp [intOf]; omega
      · obtain rfl : q = k := by omega
        go_wp2
        go_ret
        exact ⟨rfl, rfl⟩
  · have hof : okH h = false := by simpa using ho
    have hc : cnt h = 0 := by unfold cnt; rw [hof]; rfl
    have hnb : ¬ (0 ≤ h ∧ h ≤ 6) := of_decide_eq_false hof
    rw [hc]
    by_cases hneg : h < 0
    · go_enter Tryd.func13, Tryd.ntmps13
      go_wp2
      go_ret
      exact ⟨rfl, rfl⟩
    · have h6 : 6 < h := by omega
      go_enter Tryd.func13, Tryd.ntmps13
      go_wp2
      go_ret
      exact ⟨rfl, rfl⟩
theorem rcount_to (h : Int) (n : Nat) (w : World) (hn : cnt h = n) :
    Calls Tryd.prog 13 #[.int .i64 h] w fun e w' => e = .returned (.int .i64 (n : Int)) ∧ w = w' := by
  rw [← hn]; exact rcount_any h w
def okI2 (h i : Int) : Bool := decide (0 ≤ i ∧ i < (cnt h : Nat))
theorem has_any (h i : Int) (b : Bool) (w : World) (hb : okI2 h i = b) :
    Calls Tryd.prog 27 #[.int .i64 h, .int .i64 i] w fun e w' => e = .returned (.bool b) ∧ w = w' := by
  rw [← hb]
  by_cases h0 : 0 ≤ i
  · obtain ⟨n, hn⟩ : ∃ n, Hid (cnt h = n) := ⟨_, rfl⟩
    by_cases h1 : i < (n : Int)
    · have ho : Hid (okI2 h i = true) := by
        have : okI2 h i = true := decide_eq_true ⟨h0, by rw [hn.out]; exact h1⟩
        exact this
      rw [ho.out]
      go_enter Tryd.func27, Tryd.ntmps27
      go_wp2_with fail
      (with_reducible refine (count_to h n _ hn.out).mono ?_)
      rintro e w' ⟨rfl, rfl⟩
      go_wp2
      go_ret
      exact ⟨rfl, rfl⟩
    · have ho : Hid (okI2 h i = false) := by
        have : okI2 h i = false := decide_eq_false (fun x => h1 (by have := x.2; rw [hn.out] at this; exact this))
        exact this
      rw [ho.out]
      go_enter Tryd.func27, Tryd.ntmps27
      go_wp2_with fail
      (with_reducible refine (count_to h n _ hn.out).mono ?_)
      rintro e w' ⟨rfl, rfl⟩
      go_wp2
      go_ret
      exact ⟨by simp; omega, rfl⟩
  · have ho : Hid (okI2 h i = false) := by
      have : okI2 h i = false := decide_eq_false (fun x => h0 x.1)
      exact this
    rw [ho.out]
    go_enter Tryd.func27, Tryd.ntmps27
    go_wp2
    go_ret
    exact ⟨rfl, rfl⟩
theorem okI2_h {h i : Int} (hb : okI2 h i = true) : 0 ≤ i ∧ i < 64 ∧ 0 ≤ h ∧ h ≤ 6 := by
  have h1 := of_decide_eq_true hb
  have h2 := cnt_le h
  have h3 : okH h = true := by
    cases ho : okH h
    · have : cnt h = 0 := by unfold cnt; rw [ho]; rfl
      omega
    · rfl
  have h4 := of_decide_eq_true h3
  omega
/-- How many bytes a signature has. -/
def siz (h i : Int) : Nat := if okI2 h i then (WM.encI i).length + (35 + h.toNat) * 16 else 0
theorem size_any (h i : Int) (n : Nat) (w : World) (hn : siz h i = n) :
    Calls Tryd.prog 14 #[.int .i64 h, .int .i64 i] w fun e w' => e = .returned (.int .i64 (n : Int)) ∧ Below w.heap.size w w' := by
  by_cases ho : okI2 h i = true
  · obtain ⟨h1, h2, h3, h4⟩ := okI2_h ho
    obtain ⟨k, rfl⟩ := Int.eq_ofNat_of_zero_le h3
    have hE : (WM.encI i).length ≤ 10 := WM.encI_le ⟨by omega, by omega⟩
    have hsz : Hid (n = (WM.encI i).length + (35 + k) * 16) := by
      have : n = (WM.encI i).length + (35 + k) * 16 := by rw [← hn]; unfold siz; rw [if_pos ho]; rfl
      exact this
    have HI := fun w => int_any i w (by omega) (by omega)
    generalize (WM.encI i) = E at hE hsz HI
    clear hn
    go_enter Tryd.func14, Tryd.ntmps14
    go_wp2_with fail
    (with_reducible refine (has_any _ i true _ ho).mono ?_)
    rintro e w' ⟨rfl, rfl⟩
    go_wp2_with fail
    (with_reducible refine (HI _).mono ?_)
    rintro e w1 ⟨v1, rfl, hown1, hb1⟩
    obtain ⟨A, c, rfl, hc, _⟩ := holds_own hown1
    clear hown1
    go_wp2
    go_ret
    exact ⟨by rw [hsz.out]; (congr 2 <;> omega), hb1⟩
  · have hof : okI2 h i = false := by simpa using ho
    have hz : n = 0 := by rw [← hn]; unfold siz; rw [hof]; rfl
    subst hz
    go_enter Tryd.func14, Tryd.ntmps14
    go_wp2_with fail
    (with_reducible refine (has_any h i false _ hof).mono ?_)
    rintro e w' ⟨rfl, rfl⟩
    go_wp2
    go_ret
    exact ⟨rfl, Below.refl _ _⟩

theorem rsize_any (h i : Int) (n : Nat) (w : World) (hn : siz h i = n) :
    Calls Tryd.prog 15 #[.int .i64 h, .int .i64 i] w fun e w' => e = .returned (.int .i64 (n : Int)) ∧ Below w.heap.size w w' := by
  by_cases h0 : i < 0
  · have hz : n = 0 := by
      rw [← hn]; unfold siz
      rw [show okI2 h i = false from decide_eq_false (fun x => by omega)]; rfl
    subst hz
    go_enter Tryd.func15, Tryd.ntmps15
    go_wp2
    go_ret
    exact ⟨rfl, Below.refl _ _⟩
  · obtain ⟨q, hq⟩ : ∃ q, Hid (cnt h = q) := ⟨_, rfl⟩
    by_cases h1 : (q : Int) ≤ i
    · have hz : n = 0 := by
        rw [← hn]; unfold siz
        rw [show okI2 h i = false from decide_eq_false (fun x => by have := x.2; rw [hq.out] at this; omega)]; rfl
      subst hz
      go_enter Tryd.func15, Tryd.ntmps15
      go_wp2_with fail
      (with_reducible refine (rcount_to h q _ hq.out).mono ?_)
      rintro e w' ⟨rfl, rfl⟩
      go_wp2
      go_ret
      exact ⟨rfl, Below.refl _ _⟩
    · have ho : okI2 h i = true := decide_eq_true ⟨by omega, by rw [hq.out]; omega⟩
      obtain ⟨h1', h2, h3, h4⟩ := okI2_h ho
      obtain ⟨k, rfl⟩ := Int.eq_ofNat_of_zero_le h3
      have hE : (WM.encI i).length ≤ 10 := WM.encI_le ⟨by omega, by omega⟩
      have hsz : Hid (n = (WM.encI i).length + (35 + k) * 16) := by
        have : n = (WM.encI i).length + (35 + k) * 16 := by rw [← hn]; unfold siz; rw [if_pos ho]; rfl
        exact this
      have HI := fun w => refInt_any i w (by omega) (by omega)
      generalize (WM.encI i) = E at hE hsz HI
      clear hn ho
      go_enter Tryd.func15, Tryd.ntmps15
      go_wp2_with fail
      (with_reducible refine (rcount_to _ q _ hq.out).mono ?_)
      rintro e w' ⟨rfl, rfl⟩
      go_wp2_with fail
      (with_reducible refine (HI _).mono ?_)
      rintro e w1 ⟨v1, rfl, hown1, hb1⟩
      obtain ⟨A, c, rfl, hc, _⟩ := holds_own hown1
      clear hown1
      go_wp2
      go_ret
      exact ⟨by rw [hsz.out, show (((E.length + (35 + k) * 16 : Nat)) : Int) = (E.length : Int) + 16 * (35 + (k : Int)) by omega]; rfl, hb1⟩
set_option maxRecDepth 100000 in
set_option maxHeartbeats 800000 in
theorem rpublic_any (seed : ByteArray) (h : Int) (D : List UInt8) (w : World) (hD : Unit → pubD seed.data.toList h = D) (hs : seed.size ≤ 10000000) (HY : LayC w) :
    Calls Tryd.prog 17 #[.string seed, .int .i64 h] w fun e w' => e = .returned (.tuple #[.agg (D.map B8).toArray, .int .i64 (pubE h)]) ∧ Below w.heap.size w w' := by
  have hDl : Hid (D.length = 16) := by rw [← hD ()]; exact pubD_length _ _
  by_cases ho : okH h = true
  · obtain ⟨k, rfl, hk⟩ := okH_nat ho
    have hDv : Unit → SG.value seed.data.toList k 0 = D := fun _ => by rw [← hD ()]; unfold pubD; rw [if_pos ho, Int.toNat_natCast]
    have hE : pubE (k : Int) = 0 := by unfold pubE; rw [if_pos ho]
    have hp64 : (2 : Nat) ^ k ≤ 64 := Nat.le_trans (Nat.pow_le_pow_right (by decide) hk) (by decide)
    have hp1 : 1 ≤ (2 : Nat) ^ k := Nat.one_le_two_pow
    have hc : cnt (k : Int) = 2 ^ k := by unfold cnt; rw [if_pos ho, Int.toNat_natCast]
    have hb : (0 + 1) * 2 ^ k ≤ 1000 := by omega
    rw [hE]
    obtain ⟨q, hq⟩ : ∃ q, Hid ((2 : Nat) ^ k = q) := ⟨_, rfl⟩
    rw [hq.out] at hc hp1
    have hq0 : ((q : Int) == 0) = false := beq_eq_false_iff_ne.2 (by omega)
    have HBD := Lib.hid hb
    clear hD hp64 hb
    go_enter Tryd.func17, Tryd.ntmps17
    go_wp2_with (with_reducible refine wpList_alloc (o := ⟨some 4, .alloc 23, _, _, _, _⟩) (by with_unfolding_all rfl) 23 (by with_unfolding_all rfl) (aggB (SM.zeros 16)) zero16 (by exact Tryd.zero44) (by with_unfolding_all rfl) ?_)
    intro gr w1 hgr hs1 hb1 hB1
    have hle : w.heap.size ≤ gr := Nat.le_of_eq hgr.out.symm
    have hbel1 : Below w.heap.size w w1 := hb1.mono hle
    clear hgr hs1 hb1
    go_wp2_with fail
    (with_reducible refine (rcount_to _ q _ hc).mono ?_)
    rintro e w' ⟨rfl, rfl⟩
    go_wp2_with fail
    (with_reducible refine (rvalue_any seed hs k 0 _ 0 D _ rfl rfl hDv HBD.out (HY.next hbel1)).mono ?_)
    rintro e w3 ⟨rfl, hb3⟩
    have hB3 := hB1.next hb3 hB1.lt
    have hbel3 := below_join hbel1 hb3
    clear hB1 hbel1 hb3
    go_wp2_with (with_reducible refine wpList_put (o := ⟨none, .store 23 (.tmp 4) (.tmp 12), _, _, _, _⟩) (by with_unfolding_all rfl) 23 (.tmp 4) (.tmp 12) (by with_unfolding_all rfl) gr 0 (by with_unfolding_all rfl) (.agg (D.map B8).toArray) (by with_unfolding_all rfl) hB3 (D.map B8) (by with_unfolding_all rfl) (by rw [List.length_map, hDl.out]; exact Tryd.size44) (by with_unfolding_all (rw [List.length_map, hDl.out]; exact Nat.le_refl _)) (B8_one _) ?_)
    intro w9 hu9 hB9
    rw [splice_all _ _ (by rw [List.length_map, hDl.out]; rfl)] at hB9
    have hbel9 := hbel3.trans (hu9.below (B := w.heap.size) hle)
    go_wp2
    refine bodyPost_ret (results_dig_tmp rfl _ _ gr _ _ _ rfl hB9 (by rw [List.size_toArray, List.length_map, hDl.out]; exact Tryd.size44)) rfl ⟨rfl, hbel9⟩
  · have hof : okH h = false := by simpa using ho
    have hDz : Hid ((SM.zeros 16).map B8 = D.map B8) := by
      have : D = SM.zeros 16 := by rw [← hD ()]; unfold pubD; rw [hof]; rfl
      rw [this]; rfl
    have hE : pubE h = 1 := by unfold pubE; rw [hof]; rfl
    have hc : cnt h = 0 := by unfold cnt; rw [hof]; rfl
    rw [hE]
    clear hD
    go_enter Tryd.func17, Tryd.ntmps17
    go_wp2_with (with_reducible refine wpList_alloc (o := ⟨some 4, .alloc 23, _, _, _, _⟩) (by with_unfolding_all rfl) 23 (by with_unfolding_all rfl) (aggB (SM.zeros 16)) zero16 (by exact Tryd.zero44) (by with_unfolding_all rfl) ?_)
    intro gr w1 hgr hs1 hb1 hB1
    have hle : w.heap.size ≤ gr := Nat.le_of_eq hgr.out.symm
    have hbel1 : Below w.heap.size w w1 := hb1.mono hle
    clear hgr hs1 hb1
    go_wp2_with fail
    (with_reducible refine (rcount_to _ 0 _ hc).mono ?_)
    rintro e w' ⟨rfl, rfl⟩
    go_wp2_with (first | (with_reducible refine wpList_build (o := ⟨some 9, .build 23 #[], _, _, _, _⟩) ?g4 23 #[] ?o4 #[] ?x4 (.agg ((SM.zeros 16).map B8).toArray) ?r4 ?_) | (with_reducible refine wpList_put (o := ⟨none, .store 23 (.tmp 4) (.tmp 9), _, _, _, _⟩) ?g6 23 (.tmp 4) (.tmp 9) ?o6 gr 0 ?x6 (.agg ((SM.zeros 16).map B8).toArray) ?y6 hB1 ((SM.zeros 16).map B8) ?v6 ?i6 ?l6 ?q6 ?_))
    try (case x4 => first | rfl | simp)
    try (case g4 => rfl)
    try (case o4 => rfl)
    try (case r4 => exact Tryd.build44)
    try (case y6 => rfl)
    try (case x6 => rfl)
    try (case g6 => rfl)
    try (case o6 => rfl)
    try (case v6 => rfl)
    try (case i6 => exact Tryd.size44)
    try (case l6 => exact Nat.le_refl _)
    try (case q6 => exact B8_one _)
    intro w9 hu9 hB9
    rw [splice_all _ _ (by rfl), hDz.out] at hB9
    have hbel9 := hbel1.trans (hu9.below (B := w.heap.size) hle)
    go_wp2
    refine bodyPost_ret (results_dig_tmp rfl _ _ gr _ _ _ rfl hB9 (by rw [List.size_toArray, List.length_map, hDl.out]; exact Tryd.size44)) rfl ⟨rfl, hbel9⟩

set_option maxRecDepth 100000 in
set_option maxHeartbeats 400000 in
theorem smessage_any (pub : List UInt8) (i : Int) (ml D : List UInt8) (w : World) (hD : Unit → SG.message pub i ml = D) (hp : pub.length = 16) (hi : WM.okI i) (hm : ml.length ≤ 1000000) (HY : Lay w) :
    Calls Tryd.prog 20 #[.agg (pub.map B8).toArray, .int .i64 i, .string ⟨ml.toArray⟩] w fun e w' => e = .returned (.agg (D.map B8).toArray) ∧ Below w.heap.size w w' := by
  have HP := Lib.hid hp
  have hE : (WM.encI i).length ≤ 10 := WM.encI_le hi
  have hE0 := WM.encI_pos i
  have HI := fun w => int_any i w hi.1 hi.2
  have hDh : Unit → SG.hof 3 [pub, WM.encI i, ml] = D := hD
  have hDl : Hid (D.length = 16) := by rw [← hDh ()]; exact SG.hof_length _ _
  generalize (WM.encI i) = E at hE hE0 HI hDh
  clear hD hp hi
  go_enter Tryd.func20, Tryd.ntmps20
  go_wp2_with (with_reducible refine wpList_box (o := ⟨some 3, .box 23 (.tmp 0), _, _, _, _⟩) ?g1 23 (.tmp 0) ?o1 (.agg (pub.map B8).toArray) (pub.map B8) ?x1 ?c1 ?_)
  try (case g1 => rfl)
  try (case o1 => rfl)
  try (case x1 => rfl)
  try (case c1 => rfl)
  intro gp w1 hgp hs1 hb1 hB1
  go_wp2_with (with_reducible refine wpList_alloc (o := ⟨some 6, .alloc 23, _, _, _, _⟩) (by with_unfolding_all rfl) 23 (by with_unfolding_all rfl) (aggB (SM.zeros 16)) zero16 (by exact Tryd.zero44) (by with_unfolding_all rfl) ?_)
  intro gr w2 hgr hs2 hb2 hB2
  have hl1 : gp < gr := by have := hs1.out; have := hgr.out; have := hgp.out; omega
  have hle : w.heap.size ≤ gp := Nat.le_of_eq hgp.out.symm
  have hBp := hB1.next hb2 hl1
  have hbel2 : Below w.heap.size w w2 := (hb1.mono hle).trans (hb2.mono (by omega))
  clear hgp hgr hs1 hs2 hb1 hb2 hB1
  go_wp2_with (with_reducible refine wpList_get (o := ⟨some 7, .load 23 (.tmp 3), _, _, _, _⟩) (by with_unfolding_all rfl) 23 (.tmp 3) (by with_unfolding_all rfl) gp 0 (by with_unfolding_all rfl) hBp (pub.map B8) (cs_all _) (.array 16 5) (by exact Tryd.underlying23) (by with_unfolding_all rfl) (by rw [List.length_map, HP.out]; exact Tryd.size44) ?_)
  (with_reducible refine (stext_any pub _ HP.out).mono ?_)
  rintro e w3 ⟨rfl, hb3⟩
  have hB3 := hB2.next hb3 hB2.lt
  have hbel3 := below_join hbel2 hb3
  clear hB2 hbel2 hb3 hBp
  go_wp2_with fail
  (with_reducible refine (HI _).mono ?_)
  rintro e w4 ⟨v4, rfl, hown4, hb4⟩
  obtain ⟨g4, c4, rfl, hcs4⟩ := own_some hown4 (by omega)
  have hB4 := hB3.next hb4 hB3.lt
  have hbel4 := below_join hbel3 hb4
  have hcv := run_conv_later w4 (some ⟨g4, 0, none⟩) c4 E.length E rfl (fun j u hu => ⟨_, rfl, hcs4 j u hu⟩) w4 (Below.refl _ _)
  clear hB3 hbel3 hb4 hown4 hcs4
  go_wp2_with fail
  (with_reducible refine (of3_new 3 3 pub E ml D w4 _ rfl rfl (by decide) hDh (by rw [HP.out]; decide) (by omega) hm (HY.next hbel4)).mono ?_)
  rintro e w5 ⟨rfl, hb5⟩
  have hB5 := hB4.next hb5 hB4.lt
  have hbel5 := below_join hbel4 hb5
  clear hB4 hbel4 hb5 hcv
  go_wp2_with (with_reducible refine wpList_put (o := ⟨none, .store 23 (.tmp 6) (.tmp 14), _, _, _, _⟩) (by with_unfolding_all rfl) 23 (.tmp 6) (.tmp 14) (by with_unfolding_all rfl) gr 0 (by with_unfolding_all rfl) (.agg (D.map B8).toArray) (by with_unfolding_all rfl) hB5 (D.map B8) (by with_unfolding_all rfl) (by rw [List.length_map, hDl.out]; exact Tryd.size44) (by with_unfolding_all (rw [List.length_map, hDl.out]; exact Nat.le_refl _)) (B8_one _) ?_)
  intro w9 hu9 hB9
  rw [splice_all _ _ (by rw [List.length_map, hDl.out]; rfl)] at hB9
  have hbel9 := hbel5.trans (hu9.below (B := w.heap.size) (by omega))
  go_wp2
  refine bodyPost_ret (results_cell_row rfl _ _ gr _ _ _ _ rfl hB9 Tryd.underlying23 rfl (by rw [List.size_toArray, List.length_map, hDl.out]; exact Tryd.size44)) rfl ⟨rfl, hbel9⟩

set_option maxRecDepth 100000 in
set_option maxHeartbeats 400000 in
theorem rmessage_any (pub : List UInt8) (i : Int) (ml D : List UInt8) (w : World) (hD : Unit → SG.message pub i ml = D) (hp : pub.length = 16) (hi : WM.okI i) (hm : ml.length ≤ 1000000) (HY : LayC w) :
    Calls Tryd.prog 21 #[.agg (pub.map B8).toArray, .int .i64 i, .string ⟨ml.toArray⟩] w fun e w' => e = .returned (.agg (D.map B8).toArray) ∧ Below w.heap.size w w' := by
  have HP := Lib.hid hp
  have hE : (WM.encI i).length ≤ 10 := WM.encI_le hi
  have hE0 := WM.encI_pos i
  have HI := fun w => refInt_any i w hi.1 hi.2
  have hDh : Unit → SG.hof 3 [pub, WM.encI i, ml] = D := hD
  have hDl : Hid (D.length = 16) := by rw [← hDh ()]; exact SG.hof_length _ _
  generalize (WM.encI i) = E at hE hE0 HI hDh
  clear hD hp hi
  go_enter Tryd.func21, Tryd.ntmps21
  go_wp2_with (with_reducible refine wpList_box (o := ⟨some 3, .box 23 (.tmp 0), _, _, _, _⟩) ?g1 23 (.tmp 0) ?o1 (.agg (pub.map B8).toArray) (pub.map B8) ?x1 ?c1 ?_)
  try (case g1 => rfl)
  try (case o1 => rfl)
  try (case x1 => rfl)
  try (case c1 => rfl)
  intro gp w1 hgp hs1 hb1 hB1
  go_wp2_with (with_reducible refine wpList_alloc (o := ⟨some 6, .alloc 23, _, _, _, _⟩) (by with_unfolding_all rfl) 23 (by with_unfolding_all rfl) (aggB (SM.zeros 16)) zero16 (by exact Tryd.zero44) (by with_unfolding_all rfl) ?_)
  intro gr w2 hgr hs2 hb2 hB2
  have hl1 : gp < gr := by have := hs1.out; have := hgr.out; have := hgp.out; omega
  have hle : w.heap.size ≤ gp := Nat.le_of_eq hgp.out.symm
  have hBp := hB1.next hb2 hl1
  have hbel2 : Below w.heap.size w w2 := (hb1.mono hle).trans (hb2.mono (by omega))
  clear hgp hgr hs1 hs2 hb1 hb2 hB1
  go_wp2_with (with_reducible refine wpList_get (o := ⟨some 7, .load 23 (.tmp 3), _, _, _, _⟩) (by with_unfolding_all rfl) 23 (.tmp 3) (by with_unfolding_all rfl) gp 0 (by with_unfolding_all rfl) hBp (pub.map B8) (cs_all _) (.array 16 5) (by exact Tryd.underlying23) (by with_unfolding_all rfl) (by rw [List.length_map, HP.out]; exact Tryd.size44) ?_)
  (with_reducible refine (text_any pub _ HP.out).mono ?_)
  rintro e w3 ⟨rfl, hb3⟩
  have hB3 := hB2.next hb3 hB2.lt
  have hbel3 := below_join hbel2 hb3
  clear hB2 hbel2 hb3 hBp
  go_wp2_with fail
  (with_reducible refine (HI _).mono ?_)
  rintro e w4 ⟨v4, rfl, hown4, hb4⟩
  obtain ⟨g4, c4, rfl, hcs4⟩ := own_some hown4 (by omega)
  have hB4 := hB3.next hb4 hB3.lt
  have hbel4 := below_join hbel3 hb4
  have hcv := run_conv_later w4 (some ⟨g4, 0, none⟩) c4 E.length E rfl (fun j u hu => ⟨_, rfl, hcs4 j u hu⟩) w4 (Below.refl _ _)
  clear hB3 hbel3 hb4 hown4 hcs4
  go_wp2_with fail
  (with_reducible refine (rof3_new 3 3 pub E ml D w4 _ rfl rfl (by decide) hDh (by rw [HP.out]; decide) (by omega) hm (HY.next hbel4)).mono ?_)
  rintro e w5 ⟨rfl, hb5⟩
  have hB5 := hB4.next hb5 hB4.lt
  have hbel5 := below_join hbel4 hb5
  clear hB4 hbel4 hb5 hcv
  go_wp2_with (with_reducible refine wpList_put (o := ⟨none, .store 23 (.tmp 6) (.tmp 14), _, _, _, _⟩) (by with_unfolding_all rfl) 23 (.tmp 6) (.tmp 14) (by with_unfolding_all rfl) gr 0 (by with_unfolding_all rfl) (.agg (D.map B8).toArray) (by with_unfolding_all rfl) hB5 (D.map B8) (by with_unfolding_all rfl) (by rw [List.length_map, hDl.out]; exact Tryd.size44) (by with_unfolding_all (rw [List.length_map, hDl.out]; exact Nat.le_refl _)) (B8_one _) ?_)
  intro w9 hu9 hB9
  rw [splice_all _ _ (by rw [List.length_map, hDl.out]; rfl)] at hB9
  have hbel9 := hbel5.trans (hu9.below (B := w.heap.size) (by omega))
  go_wp2
  refine bodyPost_ret (results_cell_row rfl _ _ gr _ _ _ _ rfl hB9 Tryd.underlying23 rfl (by rw [List.size_toArray, List.length_map, hDl.out]; exact Tryd.size44)) rfl ⟨rfl, hbel9⟩
end Go.Proofs.YtkakiepaffhhjaaDoor

/-
  Contracts of the walks over sign.Digits and the reference's. Conditions: a digest of 16 bytes.
-/
namespace Go.Proofs.YtkakiepaffhhjaaDoor
open Go.RowKit

def N8 (n : Nat) : Value := .int .i64 (n : Int)
theorem N8_one (l : List Nat) : ∀ u ∈ l.map N8, u.oneCell' = true := by
  intro u hu; simp only [List.mem_map] at hu; obtain ⟨c, _, rfl⟩ := hu; rfl
theorem Tryd.zero51 : (Tryd.prog.info? 25).map (·.zero) = some (some (.agg ((List.replicate 35 0).map N8).toArray)) := by kernel_rfl
theorem Tryd.size51 : (Tryd.prog.info? 25).map (·.size) = some 35 := by kernel_rfl
theorem Tryd.size3 : (Tryd.prog.info? 3).map (·.size) = some 1 := by kernel_rfl
namespace SG
/-- The digits of some bytes. -/
def nib (d : List UInt8) : List Nat := d.flatMap fun x => [x.toNat / 16, x.toNat % 16]
def dsum : List UInt8 → Nat
  | [] => 0
  | x :: r => (30 - x.toNat / 16 - x.toNat % 16) + dsum r
def digits (d : List UInt8) : List Nat := nib d ++ [dsum d / 256, dsum d / 16 % 16, dsum d % 16]
theorem nib_length (d : List UInt8) : (nib d).length = 2 * d.length := by
  unfold nib
  induction d with
  | nil => rfl
  | cons x r ih => rw [List.flatMap_cons, List.length_append, ih]; simp; omega
theorem digits_length (d : List UInt8) (h : d.length = 16) : (digits d).length = 35 := by unfold digits; rw [List.length_append, nib_length, h]; rfl
theorem dsum_snoc (d : List UInt8) (x : UInt8) : dsum (d ++ [x]) = dsum d + (30 - x.toNat / 16 - x.toNat % 16) := by
  induction d with
  | nil => simp [dsum]
  | cons y r ih => simp only [List.cons_append, dsum, ih]; omega
theorem dsum_le (d : List UInt8) : dsum d ≤ 30 * d.length := by
  induction d with
  | nil => simp [dsum]
  | cons y r ih => simp only [dsum, List.length_cons]; omega
theorem nib_snoc (d : List UInt8) (x : UInt8) : nib (d ++ [x]) = nib d ++ [x.toNat / 16, x.toNat % 16] := by unfold nib; simp
end SG
/-- A row of 35 numbers that begins with these. -/
def nRow (l : List Nat) : List Value := (l ++ List.replicate (35 - l.length) 0).map N8
theorem nRow_length (l : List Nat) (h : l.length ≤ 35) : (nRow l).length = 35 := by unfold nRow; simp; omega
theorem nRow_full (l : List Nat) (h : l.length = 35) : nRow l = l.map N8 := by unfold nRow; rw [h]; simp
theorem nRow_snoc (l : List Nat) (n : Nat) (h : l.length < 35) : splice (nRow l) l.length [N8 n] = nRow (l ++ [n]) := by
  unfold nRow
  have hz : List.replicate (35 - l.length) 0 = 0 :: List.replicate (35 - (l ++ [n]).length) 0 := by
    rw [← List.replicate_succ]; congr 1; simp; omega
  rw [hz, List.map_append, List.map_cons, splice_at _ _ _ _ l.length (by simp)]
  simp
theorem nRow_set (l : List Nat) (i n : Nat) (hl : l.length = 35) (hi : i < 35) : splice (l.map N8) i [N8 n] = (l.set i n).map N8 := by
  unfold splice
  rw [List.set_eq_take_append_cons_drop, if_pos (by omega)]
  simp [List.map_take, List.map_drop]
theorem nRow_two (l : List Nat) (a b : Nat) (h : l.length + 1 < 35) : splice (splice (nRow l) l.length [N8 a]) (l.length + 1) [N8 b] = nRow (l ++ [a, b]) := by
  rw [nRow_snoc l a (by omega)]
  have := nRow_snoc (l ++ [a]) b (by simp; omega)
  rw [List.length_append] at this
  rw [show [a].length = 1 from rfl] at this
  rw [this]; simp
def DgsRel (d : List UInt8) (gd gr gx : Nat) (w : World) (s i : Value) (wr : World) : Prop :=
  ∃ k : Nat, k ≤ 16 ∧ i = .int .i64 k ∧ s = .int .i64 ((SG.dsum (d.take k) : Nat) : Int) ∧ Blk wr gd 25 (nRow (SG.nib (d.take k))) ∧ Blk wr gr 25 ((List.replicate 35 0).map N8) ∧ Blk wr gx 23 (d.map B8) ∧ Below w.heap.size w wr
def tail3 (s k : Nat) : List Nat := match k with
  | 0 => [0, 0, 0]
  | 1 => [0, 0, s % 16]
  | 2 => [0, s / 16 % 16, s % 16]
  | _ => [s / 256, s / 16 % 16, s % 16]
def Dg2Rel (l : List Nat) (s : Nat) (gd gr : Nat) (w : World) (sv j : Value) (wr : World) : Prop :=
  ∃ k : Nat, k ≤ 3 ∧ j = .int .i64 ((34 : Int) - k) ∧ sv = .int .i64 ((s / 16 ^ k : Nat) : Int) ∧ Blk wr gd 25 ((l ++ tail3 s k).map N8) ∧ Blk wr gr 25 ((List.replicate 35 0).map N8) ∧ Below w.heap.size w wr
set_option maxRecDepth 100000 in
set_option maxHeartbeats 1600000 in
theorem sdigits_any (d : List UInt8) (w : World) (hd : d.length = 16) :
    Calls Tryd.prog 10 #[.agg (d.map B8).toArray] w fun e w' => e = .returned (.agg ((SG.digits d).map N8).toArray) ∧ Below w.heap.size w w' := by
  have HD := Lib.hid hd
  clear hd
  go_enter Tryd.func10, Tryd.ntmps10
  go_wp2_with (with_reducible refine wpList_box (o := ⟨some 1, .box 23 (.tmp 0), _, _, _, _⟩) ?g1 23 (.tmp 0) ?o1 (.agg (d.map B8).toArray) (d.map B8) ?x1 ?c1 ?_)
  try (case g1 => rfl)
  try (case o1 => rfl)
  try (case x1 => rfl)
  try (case c1 => rfl)
  intro gx w1 hgx hs1 hb1 hB1
  go_wp2_with (with_reducible refine wpList_alloc (o := ⟨some 2, .alloc 25, _, _, _, _⟩) (by with_unfolding_all rfl) 25 (by with_unfolding_all rfl) (.agg ((List.replicate 35 0).map N8).toArray) ((List.replicate 35 0).map N8) (by exact Tryd.zero51) (by with_unfolding_all rfl) ?_)
  intro gr w2 hgr hs2 hb2 hB2
  go_wp2_with (with_reducible refine wpList_alloc (o := ⟨some 3, .alloc 25, _, _, _, _⟩) (by with_unfolding_all rfl) 25 (by with_unfolding_all rfl) (.agg ((List.replicate 35 0).map N8).toArray) ((List.replicate 35 0).map N8) (by exact Tryd.zero51) (by with_unfolding_all rfl) ?_)
  intro gd w3 hgd hs3 hb3 hB3
  have hl1 : gx < gr := by have := hs1.out; have := hgr.out; have := hgx.out; omega
  have hl2 : gr < gd := by have := hs2.out; have := hgd.out; have := hgr.out; omega
  have hle : w.heap.size ≤ gx := Nat.le_of_eq hgx.out.symm
  have hBx := (hB1.next hb2 hl1).next hb3 (by omega)
  have hBr := hB2.next hb3 hl2
  have hbel : Below w.heap.size w w3 := ((hb1.mono hle).trans (hb2.mono (by omega))).trans (hb3.mono (by omega))
  have hB3' : Blk w3 gd 25 (nRow (SG.nib (d.take 0))) := hB3
  clear hgx hgr hgd hs1 hs2 hs3 hb1 hb2 hb3 hB1 hB2 hB3
  go_wp2_with (with_reducible refine wpList_get (o := ⟨some 10, .load 23 (.tmp 1), _, _, _, _⟩) (by with_unfolding_all rfl) 23 (.tmp 1) (by with_unfolding_all rfl) gx 0 (by with_unfolding_all rfl) hBx (d.map B8) (cs_all _) (.array 16 5) (by exact Tryd.underlying23) (by with_unfolding_all rfl) (by rw [List.length_map, HD.out]; exact Tryd.size44) ?_)
  have HU8 : ∃ dd, Hid (Tryd.prog.underlying 5 = some dd) ∧ dd.isRow = false := ⟨_, Tryd.underlying5, rfl⟩
  obtain ⟨dd, HDD, hdd⟩ := HU8
  go_loopw [4, 11] (DgsRel d gd gr gx w) (fun _ i _ => 16 - (intOf i).toNat)
  case atStart => exact ⟨0, by omega, rfl, rfl, hB3', hBr, hBx, hbel⟩
  case round =>
    clear hB3' hBr hBx hbel
    obtain ⟨k, hk, rfl, rfl, hB, hBr, hBx, hbel⟩ := hrel
    by_cases hlt : k < 16
    · obtain ⟨x, hx⟩ : ∃ x, d[k]? = some x := ⟨_, List.getElem?_eq_getElem (by rw [HD.out]; exact hlt)⟩
      have htk : d.take (k + 1) = d.take k ++ [x] := by rw [List.take_add_one, hx]; rfl
      have hds := SG.dsum_le (d.take k)
      have htl : (d.take k).length = k := by rw [List.length_take, HD.out]; omega
      have hnl : (SG.nib (d.take k)).length = 2 * k := by rw [SG.nib_length, htl]
      have h2 := nRow_two (SG.nib (d.take k)) (x.toNat / 16) (x.toNat % 16) (by rw [hnl]; omega)
      rw [hnl, ← SG.nib_snoc, ← htk] at h2
      have H2 := Lib.hid h2
      have hlen1 := nRow_length (SG.nib (d.take k)) (by rw [hnl]; omega)
      have HS : Hid (SG.dsum (d.take (k + 1)) = SG.dsum (d.take k) + (30 - x.toNat / 16 - x.toNat % 16)) := by rw [htk]; exact SG.dsum_snoc _ _
      have hx256 := x.toNat_lt
      have hdx : (d.map B8)[k]? = some (.int .u8 (x.toNat : Int)) := by rw [List.getElem?_map, hx]; rfl
      have HDX := Lib.hid hdx
      clear h2 htk hdx hx
      rw [htl] at hds
      obtain ⟨S, hSe⟩ : ∃ S, Hid (SG.dsum (d.take k) = S) := ⟨_, rfl⟩
      rw [hSe.out] at hds HS ⊢
      have hq16 : ((x.toNat : Int)).tdiv 16 = ((x.toNat / 16 : Nat) : Int) := by rw [Int.tdiv_eq_ediv_of_nonneg (by omega)]; rfl
      have hr16 : ((x.toNat : Int)).tmod 16 = ((x.toNat % 16 : Nat) : Int) := by rw [Int.tmod_eq_emod_of_nonneg (by omega)]; rfl
      obtain ⟨qa, hqa⟩ : ∃ qa, Hid (x.toNat / 16 = qa) := ⟨_, rfl⟩
      obtain ⟨qb, hqb⟩ : ∃ qb, Hid (x.toNat % 16 = qb) := ⟨_, rfl⟩
      have hqa16 : qa < 16 := by rw [← hqa.out]; omega
      have hqb16 : qb < 16 := by rw [← hqb.out]; omega
      rw [hqa.out] at hq16 H2 HS
      rw [hqb.out] at hr16 H2 HS
      have hw1 : IntKind.i64.wrap (2 * (k : Int)) = 2 * (k : Int) := by simp only [IntKind.wrap_i64]; omega
      have hw2 : IntKind.i64.wrap (2 * (k : Int) + 1) = 2 * (k : Int) + 1 := by simp only [IntKind.wrap_i64]; omega
      have hp1 : 0 ≤ 2 * (k : Int) := by omega
      have hp2 : 0 ≤ 2 * (k : Int) + 1 := by omega
      have hi1 : 2 * (k : Int) < 35 := by omega
      have hi2 : 2 * (k : Int) + 1 < 35 := by omega
      have ht1 : (2 * (k : Int)).toNat = 2 * k := by omega
      have ht2 : (2 * (k : Int) + 1).toNat = 2 * k + 1 := by omega
      go_wp2_with (first | (with_reducible refine wpList_idx (o := ⟨some 14, .index 23 (.tmp 10) (.tmp 11), _, _, _, _⟩) ?g5 23 (.tmp 10) (.tmp 11) ?o5 5 16 k (d.map B8) (.int .u8 (x.toNat : Int)) dd ?x5 ?y5 ?u5 ?i5 ?e5 ?d5 ?k5 ?l5 ?_) | (with_reducible refine wpList_put (o := ⟨none, .store 3 (.tmp 28) (.tmp 26), _, _, _, _⟩) ?g6 3 (.tmp 28) (.tmp 26) ?o6 gd (2 * k) ?x6 (N8 qa) ?y6 hB [N8 qa] ?v6 ?i6 ?l6 ?q6 ?_))
      try (case x5 => rfl)
      try (case g5 => rfl)
      try (case o5 => rfl)
      try (case y5 => rfl)
      try (case u5 => exact Tryd.underlying23)
      try (case i5 => exact Tryd.size5)
      try (case e5 => exact HDD.out)
      try (case d5 => first | rfl | assumption)
      try (case k5 => exact hlt)
      try (case l5 => exact HDX.out)
      try (case y6 => rfl)
      try (case x6 => rfl)
      try (case g6 => rfl)
      try (case o6 => rfl)
      try (case v6 => rfl)
      try (case i6 => exact Tryd.size3)
      try (case l6 => (rw [hlen1]; simp; omega))
      try (case q6 => exact one_cell1 rfl)
      intro w5 hu5 hB5
      go_wp2_with (with_reducible refine wpList_put (o := ⟨none, .store 3 (.tmp 29) (.tmp 27), _, _, _, _⟩) ?g7 3 (.tmp 29) (.tmp 27) ?o7 gd (2 * k + 1) ?x7 (N8 qb) ?y7 hB5 [N8 qb] ?v7 ?i7 ?l7 ?q7 ?_)
      try (case y7 => rfl)
      try (case x7 => rfl)
      try (case g7 => rfl)
      try (case o7 => rfl)
      try (case v7 => rfl)
      try (case i7 => exact Tryd.size3)
      try (case l7 => (rw [splice_len, hlen1]; simp; omega))
      try (case q7 => exact one_cell1 rfl)
      intro w6 hu6 hB6
      rw [H2.out] at hB6
      have hBr6 := (hBr.upd hu5 (by omega)).upd hu6 (by omega)
      have hBx6 := (hBx.upd hu5 (by omega)).upd hu6 (by omega)
      have hbel6 := (hbel.trans (hu5.below (B := w.heap.size) (by omega))).trans (hu6.below (B := w.heap.size) (by omega))
      clear hB hBr hBx hbel hu5 hu6 hB5
      go_wp2
      go_roundw
      case rel => exact ⟨k + 1, by omega, by go_num, by rw [HS.out]; congr 1; omega, hB6, hBr6, hBx6, hbel6⟩
      case measure => simp [intOf]; omega
    · obtain rfl : k = 16 := by omega
      have hdt : d.take 16 = d := List.take_of_length_le (by rw [HD.out]; exact Nat.le_refl _)
      rw [hdt] at hB ⊢
      rw [show (((16 : Nat)) : Int) = 16 from rfl]
      have hnl : (SG.nib d).length = 32 := by rw [SG.nib_length, HD.out]
      have hds := SG.dsum_le d
      rw [HD.out] at hds
      obtain ⟨S, hSe⟩ : ∃ S, Hid (SG.dsum d = S) := ⟨_, rfl⟩
      obtain ⟨L, hLe⟩ : ∃ L, Hid (SG.nib d = L) := ⟨_, rfl⟩
      have hdg : Hid (SG.digits d = L ++ tail3 S 3) := by rw [← hSe.out, ← hLe.out]; rfl
      have hdl : Hid (((SG.digits d).map N8).length = 35) := by
        have : ((SG.digits d).map N8).length = 35 := by rw [List.length_map]; exact SG.digits_length d HD.out
        exact this
      have hB0 : Blk wr gd 25 ((L ++ tail3 S 0).map N8) := by
        have e : nRow (SG.nib d) = (L ++ tail3 S 0).map N8 := by unfold nRow; rw [hnl, hLe.out]; rfl
        rw [← e]; exact hB
      rw [hLe.out] at hnl
      rw [hSe.out] at hds ⊢
      clear hB hdt hBx
      go_wp2
      go_loopw [4, 9] (Dg2Rel L S gd gr w) (fun _ j _ => (intOf j).toNat)
      case atStart => exact ⟨0, by omega, by go_num, by simp, hB0, hBr, hbel⟩
      case round =>
        clear hB0 hBr hbel
        obtain ⟨q, hq, rfl, rfl, hB, hBr, hbel⟩ := hrel
        have e : q = 0 ∨ q = 1 ∨ q = 2 ∨ q = 3 := by omega
        rcases e with rfl | rfl | rfl | rfl
        · -- 0
          have hsq : S / 16 ^ 0 = S / 1 := rfl
          rw [show ((34 : Int) - ((0 : Nat) : Int)) = 34 from rfl]
          have hsd : ((S / 1 : Nat) : Int).tmod 16 = ((S / 1 % 16 : Nat) : Int) := by rw [Int.tmod_eq_emod_of_nonneg (by omega)]; rfl
          have hsv : ((S / 1 : Nat) : Int).tdiv 16 = ((S / 16 : Nat) : Int) := by rw [Int.tdiv_eq_ediv_of_nonneg (by omega)]; omega
          have hset : Hid (splice ((L ++ tail3 S 0).map N8) 34 [N8 (S / 1 % 16)] = (L ++ tail3 S 1).map N8) := by
            have : splice ((L ++ tail3 S 0).map N8) 34 [N8 (S / 1 % 16)] = (L ++ tail3 S 1).map N8 := by
              rw [nRow_set _ 34 _ (by rw [List.length_append, hnl]; rfl) (by decide), List.set_append_right 34 _ (by rw [hnl]; decide), hnl]
              simp [tail3]
            exact this
          have hlq : Hid (((L ++ tail3 S 0).map N8).length = 35) := by
            have : ((L ++ tail3 S 0).map N8).length = 35 := by rw [List.length_map, List.length_append, hnl]; rfl
            exact this
          rw [hsq]
          obtain ⟨m, hm⟩ : ∃ m, Hid (S / 1 % 16 = m) := ⟨_, rfl⟩
          obtain ⟨r, hr⟩ : ∃ r, Hid (S / 16 = r) := ⟨_, rfl⟩
          have hrb : r ≤ 480 := by rw [← hr.out]; omega
          obtain ⟨u, hu⟩ : ∃ u, Hid (S / 1 = u) := ⟨_, rfl⟩
          have hub : u ≤ 480 := by rw [← hu.out]; omega
          have hmb : m < 16 := by rw [← hm.out]; omega
          rw [hm.out] at hset
          rw [hm.out, hu.out] at hsd
          rw [hr.out, hu.out] at hsv
          rw [hu.out]
          have hpl : 34 + [N8 m].length ≤ ((L ++ tail3 S 0).map N8).length := by rw [hlq.out]; show 34 + 1 ≤ 35; decide
          have hpo : ∀ u ∈ [N8 m], u.oneCell' = true := fun u hu => by rw [List.mem_singleton.1 hu]; rfl
          have hpc : (N8 m).cells = [N8 m].toArray := rfl
          have hps : (Tryd.prog.info? 3).map (·.size) = some [N8 m].length := Tryd.size3
          go_wp2_with (with_reducible refine wpList_put (o := ⟨none, .store 3 (.tmp 45) (.tmp 44), _, _, _, _⟩) (by with_unfolding_all rfl) 3 (.tmp 45) (.tmp 44) (by with_unfolding_all rfl) gd 34 (by with_unfolding_all rfl) (N8 m) (by with_unfolding_all rfl) hB [N8 m] hpc hps hpl hpo ?_)
          intro w7 hu7 hB7
          rw [← List.map_append, hset.out] at hB7
          have hBr7 := hBr.upd hu7 (by omega)
          have hbel7 := hbel.trans (hu7.below (B := w.heap.size) (by omega))
          clear hB hBr hbel hu7
          go_wp2
          go_roundw
          case rel => exact ⟨1, by decide, by go_num, by rw [show S / 16 ^ 1 = r from hr.out], hB7, hBr7, hbel7⟩
          case measure => simp [intOf]
        · -- 1
          have hsq : S / 16 ^ 1 = S / 16 := rfl
          rw [show ((34 : Int) - ((1 : Nat) : Int)) = 33 from rfl]
          have hsd : ((S / 16 : Nat) : Int).tmod 16 = ((S / 16 % 16 : Nat) : Int) := by rw [Int.tmod_eq_emod_of_nonneg (by omega)]; rfl
          have hsv : ((S / 16 : Nat) : Int).tdiv 16 = ((S / 256 : Nat) : Int) := by rw [Int.tdiv_eq_ediv_of_nonneg (by omega)]; omega
          have hset : Hid (splice ((L ++ tail3 S 1).map N8) 33 [N8 (S / 16 % 16)] = (L ++ tail3 S 2).map N8) := by
            have : splice ((L ++ tail3 S 1).map N8) 33 [N8 (S / 16 % 16)] = (L ++ tail3 S 2).map N8 := by
              rw [nRow_set _ 33 _ (by rw [List.length_append, hnl]; rfl) (by decide), List.set_append_right 33 _ (by rw [hnl]; decide), hnl]
              simp [tail3]
            exact this
          have hlq : Hid (((L ++ tail3 S 1).map N8).length = 35) := by
            have : ((L ++ tail3 S 1).map N8).length = 35 := by rw [List.length_map, List.length_append, hnl]; rfl
            exact this
          rw [hsq]
          obtain ⟨m, hm⟩ : ∃ m, Hid (S / 16 % 16 = m) := ⟨_, rfl⟩
          obtain ⟨r, hr⟩ : ∃ r, Hid (S / 256 = r) := ⟨_, rfl⟩
          have hrb : r ≤ 480 := by rw [← hr.out]; omega
          obtain ⟨u, hu⟩ : ∃ u, Hid (S / 16 = u) := ⟨_, rfl⟩
          have hub : u ≤ 480 := by rw [← hu.out]; omega
          have hmb : m < 16 := by rw [← hm.out]; omega
          rw [hm.out] at hset
          rw [hm.out, hu.out] at hsd
          rw [hr.out, hu.out] at hsv
          rw [hu.out]
          have hpl : 33 + [N8 m].length ≤ ((L ++ tail3 S 1).map N8).length := by rw [hlq.out]; show 33 + 1 ≤ 35; decide
          have hpo : ∀ u ∈ [N8 m], u.oneCell' = true := fun u hu => by rw [List.mem_singleton.1 hu]; rfl
          have hpc : (N8 m).cells = [N8 m].toArray := rfl
          have hps : (Tryd.prog.info? 3).map (·.size) = some [N8 m].length := Tryd.size3
          go_wp2_with (with_reducible refine wpList_put (o := ⟨none, .store 3 (.tmp 45) (.tmp 44), _, _, _, _⟩) (by with_unfolding_all rfl) 3 (.tmp 45) (.tmp 44) (by with_unfolding_all rfl) gd 33 (by with_unfolding_all rfl) (N8 m) (by with_unfolding_all rfl) hB [N8 m] hpc hps hpl hpo ?_)
          intro w7 hu7 hB7
          rw [← List.map_append, hset.out] at hB7
          have hBr7 := hBr.upd hu7 (by omega)
          have hbel7 := hbel.trans (hu7.below (B := w.heap.size) (by omega))
          clear hB hBr hbel hu7
          go_wp2
          go_roundw
          case rel => exact ⟨2, by decide, by go_num, by rw [show S / 16 ^ 2 = r from hr.out], hB7, hBr7, hbel7⟩
          case measure => simp [intOf]
        · -- 2
          have hsq : S / 16 ^ 2 = S / 256 := rfl
          rw [show ((34 : Int) - ((2 : Nat) : Int)) = 32 from rfl]
          have hsd : ((S / 256 : Nat) : Int).tmod 16 = ((S / 256 % 16 : Nat) : Int) := by rw [Int.tmod_eq_emod_of_nonneg (by omega)]; rfl
          have hsv : ((S / 256 : Nat) : Int).tdiv 16 = ((S / 4096 : Nat) : Int) := by rw [Int.tdiv_eq_ediv_of_nonneg (by omega)]; omega
          have hset : Hid (splice ((L ++ tail3 S 2).map N8) 32 [N8 (S / 256 % 16)] = (L ++ tail3 S 3).map N8) := by
            have : splice ((L ++ tail3 S 2).map N8) 32 [N8 (S / 256 % 16)] = (L ++ tail3 S 3).map N8 := by
              rw [nRow_set _ 32 _ (by rw [List.length_append, hnl]; rfl) (by decide), List.set_append_right 32 _ (by rw [hnl]; decide), hnl]
              simp only [tail3, List.set_cons_zero, Nat.sub_self]; rw [Nat.mod_eq_of_lt (show S / 256 < 16 by omega)]
            exact this
          have hlq : Hid (((L ++ tail3 S 2).map N8).length = 35) := by
            have : ((L ++ tail3 S 2).map N8).length = 35 := by rw [List.length_map, List.length_append, hnl]; rfl
            exact this
          rw [hsq]
          obtain ⟨m, hm⟩ : ∃ m, Hid (S / 256 % 16 = m) := ⟨_, rfl⟩
          obtain ⟨r, hr⟩ : ∃ r, Hid (S / 4096 = r) := ⟨_, rfl⟩
          have hrb : r ≤ 480 := by rw [← hr.out]; omega
          obtain ⟨u, hu⟩ : ∃ u, Hid (S / 256 = u) := ⟨_, rfl⟩
          have hub : u ≤ 480 := by rw [← hu.out]; omega
          have hmb : m < 16 := by rw [← hm.out]; omega
          rw [hm.out] at hset
          rw [hm.out, hu.out] at hsd
          rw [hr.out, hu.out] at hsv
          rw [hu.out]
          have hpl : 32 + [N8 m].length ≤ ((L ++ tail3 S 2).map N8).length := by rw [hlq.out]; show 32 + 1 ≤ 35; decide
          have hpo : ∀ u ∈ [N8 m], u.oneCell' = true := fun u hu => by rw [List.mem_singleton.1 hu]; rfl
          have hpc : (N8 m).cells = [N8 m].toArray := rfl
          have hps : (Tryd.prog.info? 3).map (·.size) = some [N8 m].length := Tryd.size3
          go_wp2_with (with_reducible refine wpList_put (o := ⟨none, .store 3 (.tmp 45) (.tmp 44), _, _, _, _⟩) (by with_unfolding_all rfl) 3 (.tmp 45) (.tmp 44) (by with_unfolding_all rfl) gd 32 (by with_unfolding_all rfl) (N8 m) (by with_unfolding_all rfl) hB [N8 m] hpc hps hpl hpo ?_)
          intro w7 hu7 hB7
          rw [← List.map_append, hset.out] at hB7
          have hBr7 := hBr.upd hu7 (by omega)
          have hbel7 := hbel.trans (hu7.below (B := w.heap.size) (by omega))
          clear hB hBr hbel hu7
          go_wp2
          go_roundw
          case rel => exact ⟨3, by decide, by go_num, by rw [show S / 16 ^ 3 = r from hr.out], hB7, hBr7, hbel7⟩
          case measure => simp [intOf]
        · rw [← hdg.out] at hB
          go_wp2_with (first | (with_reducible refine wpList_get (o := ⟨some 48, .load 25 (.tmp 3), _, _, _, _⟩) (by with_unfolding_all rfl) 25 (.tmp 3) (by with_unfolding_all rfl) gd 0 (by with_unfolding_all rfl) hB ((SG.digits d).map N8) (cs_all _) (.array 35 3) Tryd.underlying25 (by with_unfolding_all rfl) (by rw [hdl.out]; exact Tryd.size51) ?_) | (with_reducible refine wpList_put (o := ⟨none, .store 25 (.tmp 2) (.tmp 48), _, _, _, _⟩) (by with_unfolding_all rfl) 25 (.tmp 2) (.tmp 48) (by with_unfolding_all rfl) gr 0 (by with_unfolding_all rfl) (.agg ((SG.digits d).map N8).toArray) (by with_unfolding_all rfl) hBr ((SG.digits d).map N8) (by with_unfolding_all rfl) (by rw [hdl.out]; exact Tryd.size51) (by with_unfolding_all (rw [hdl.out]; exact Nat.le_refl _)) (N8_one _) ?_))
          intro w9 hu9 hB9
          rw [splice_all _ _ (by rw [hdl.out]; rfl)] at hB9
          have hbel9 := hbel.trans (hu9.below (B := w.heap.size) (by omega))
          go_wp2
          refine bodyPost_ret (results_cell_row rfl _ _ gr _ _ _ _ rfl hB9 Tryd.underlying25 rfl (by rw [List.size_toArray, hdl.out]; exact Tryd.size51)) rfl ⟨rfl, hbel9⟩
end Go.Proofs.YtkakiepaffhhjaaDoor

/-
  Contract of the walk over the reference's Digits. Conditions: a digest of 16 bytes.
-/
namespace Go.Proofs.YtkakiepaffhhjaaDoor
open Go.RowKit

set_option maxRecDepth 100000 in
set_option maxHeartbeats 1600000 in
theorem rdigits_any (d : List UInt8) (w : World) (hd : d.length = 16) :
    Calls Tryd.prog 11 #[.agg (d.map B8).toArray] w fun e w' => e = .returned (.agg ((SG.digits d).map N8).toArray) ∧ Below w.heap.size w w' := by
  have HD := Lib.hid hd
  clear hd
  go_enter Tryd.func11, Tryd.ntmps11
  go_wp2_with (with_reducible refine wpList_box (o := ⟨some 1, .box 23 (.tmp 0), _, _, _, _⟩) ?g1 23 (.tmp 0) ?o1 (.agg (d.map B8).toArray) (d.map B8) ?x1 ?c1 ?_)
  try (case g1 => rfl)
  try (case o1 => rfl)
  try (case x1 => rfl)
  try (case c1 => rfl)
  intro gx w1 hgx hs1 hb1 hB1
  go_wp2_with (with_reducible refine wpList_alloc (o := ⟨some 2, .alloc 25, _, _, _, _⟩) (by with_unfolding_all rfl) 25 (by with_unfolding_all rfl) (.agg ((List.replicate 35 0).map N8).toArray) ((List.replicate 35 0).map N8) (by exact Tryd.zero51) (by with_unfolding_all rfl) ?_)
  intro gr w2 hgr hs2 hb2 hB2
  go_wp2_with (with_reducible refine wpList_alloc (o := ⟨some 3, .alloc 25, _, _, _, _⟩) (by with_unfolding_all rfl) 25 (by with_unfolding_all rfl) (.agg ((List.replicate 35 0).map N8).toArray) ((List.replicate 35 0).map N8) (by exact Tryd.zero51) (by with_unfolding_all rfl) ?_)
  intro gd w3 hgd hs3 hb3 hB3
  have hl1 : gx < gr := by have := hs1.out; have := hgr.out; have := hgx.out; omega
  have hl2 : gr < gd := by have := hs2.out; have := hgd.out; have := hgr.out; omega
  have hle : w.heap.size ≤ gx := Nat.le_of_eq hgx.out.symm
  have hBx := (hB1.next hb2 hl1).next hb3 (by omega)
  have hBr := hB2.next hb3 hl2
  have hbel : Below w.heap.size w w3 := ((hb1.mono hle).trans (hb2.mono (by omega))).trans (hb3.mono (by omega))
  have hB3' : Blk w3 gd 25 (nRow (SG.nib (d.take 0))) := hB3
  clear hgx hgr hgd hs1 hs2 hs3 hb1 hb2 hb3 hB1 hB2 hB3
  have hpo : ∀ n : Nat, ∀ u ∈ [N8 n], u.oneCell' = true := fun n u hu => by rw [List.mem_singleton.1 hu]; rfl
  have hpc : ∀ n : Nat, (N8 n).cells = [N8 n].toArray := fun _ => rfl
  have hps : ∀ n : Nat, (Tryd.prog.info? 3).map (·.size) = some [N8 n].length := fun _ => Tryd.size3
  go_wp2
  go_loopw [4, 5] (DgsRel d gd gr gx w) (fun _ i _ => 16 - (intOf i).toNat)
  case atStart => exact ⟨0, by omega, rfl, rfl, hB3', hBr, hBx, hbel⟩
  case round =>
    clear hB3' hBr hBx hbel
    obtain ⟨k, hk, rfl, rfl, hB, hBr, hBx, hbel⟩ := hrel
    by_cases hlt : k < 16
    · obtain ⟨x, hx⟩ : ∃ x, d[k]? = some x := ⟨_, List.getElem?_eq_getElem (by rw [HD.out]; exact hlt)⟩
      have htk : d.take (k + 1) = d.take k ++ [x] := by rw [List.take_add_one, hx]; rfl
      have hds := SG.dsum_le (d.take k)
      have htl : (d.take k).length = k := by rw [List.length_take, HD.out]; omega
      have hnl : (SG.nib (d.take k)).length = 2 * k := by rw [SG.nib_length, htl]
      have h2 := nRow_two (SG.nib (d.take k)) (x.toNat / 16) (x.toNat % 16) (by rw [hnl]; omega)
      rw [hnl, ← SG.nib_snoc, ← htk] at h2
      have H2 := Lib.hid h2
      have hlen1 := nRow_length (SG.nib (d.take k)) (by rw [hnl]; omega)
      have HS : Hid (SG.dsum (d.take (k + 1)) = SG.dsum (d.take k) + (30 - x.toNat / 16 - x.toNat % 16)) := by rw [htk]; exact SG.dsum_snoc _ _
      have hx256 := x.toNat_lt
      have hdx : (d.map B8)[k]? = some (.int .u8 (x.toNat : Int)) := by rw [List.getElem?_map, hx]; rfl
      have hg1 : (nRow (SG.nib (d.take (k + 1))))[2 * k]? = some (N8 (x.toNat / 16)) := by
        rw [htk, SG.nib_snoc]; unfold nRow
        rw [List.getElem?_map, List.getElem?_append_left (by rw [List.length_append, hnl]; simp), List.getElem?_append_right (by rw [hnl]; exact Nat.le_refl _), hnl, Nat.sub_self]; rfl
      have hg2 : (nRow (SG.nib (d.take (k + 1))))[2 * k + 1]? = some (N8 (x.toNat % 16)) := by
        rw [htk, SG.nib_snoc]; unfold nRow
        rw [List.getElem?_map, List.getElem?_append_left (by rw [List.length_append, hnl]; simp), List.getElem?_append_right (by rw [hnl]; omega), hnl, Nat.add_sub_cancel_left]; rfl
      have hcx := hBx.cell hdx
      have hcell := hdx
      clear h2 htk hdx hx
      rw [htl] at hds
      obtain ⟨S, hSe⟩ : ∃ S, Hid (SG.dsum (d.take k) = S) := ⟨_, rfl⟩
      rw [hSe.out] at hds HS ⊢
      have hq16 : ((x.toNat : Int)).tdiv 16 = ((x.toNat / 16 : Nat) : Int) := by rw [Int.tdiv_eq_ediv_of_nonneg (by omega)]; rfl
      have hr16 : ((x.toNat : Int)).tmod 16 = ((x.toNat % 16 : Nat) : Int) := by rw [Int.tmod_eq_emod_of_nonneg (by omega)]; rfl
      obtain ⟨qa, hqa⟩ : ∃ qa, Hid (x.toNat / 16 = qa) := ⟨_, rfl⟩
      obtain ⟨qb, hqb⟩ : ∃ qb, Hid (x.toNat % 16 = qb) := ⟨_, rfl⟩
      have hqa16 : qa < 16 := by rw [← hqa.out]; omega
      have hqb16 : qb < 16 := by rw [← hqb.out]; omega
      rw [hqa.out] at hq16 H2 HS hg1
      rw [hqb.out] at hr16 H2 HS hg2
      have HG1 := Lib.hid hg1
      have HG2 := Lib.hid hg2
      clear hg1 hg2
      have hw1 : IntKind.i64.wrap (2 * (k : Int)) = 2 * (k : Int) := by simp only [IntKind.wrap_i64]; omega
      have hw2 : IntKind.i64.wrap (2 * (k : Int) + 1) = 2 * (k : Int) + 1 := by simp only [IntKind.wrap_i64]; omega
      have hp1 : 0 ≤ 2 * (k : Int) := by omega
      have hp2 : 0 ≤ 2 * (k : Int) + 1 := by omega
      have hi1 : 2 * (k : Int) < 35 := by omega
      have hi2 : 2 * (k : Int) + 1 < 35 := by omega
      have ht1 : (2 * (k : Int)).toNat = 2 * k := by omega
      have ht2 : (2 * (k : Int) + 1).toNat = 2 * k + 1 := by omega
      have hl5 : 2 * k + [N8 qa].length ≤ (nRow (SG.nib (d.take k))).length := by rw [hlen1]; show 2 * k + 1 ≤ 35; omega
      go_wp2_with (with_reducible refine wpList_put (o := ⟨none, .store 3 (.tmp 17) (.tmp 16), _, _, _, _⟩) (by with_unfolding_all rfl) 3 (.tmp 17) (.tmp 16) (by with_unfolding_all rfl) gd (2 * k) (by with_unfolding_all rfl) (N8 qa) (by with_unfolding_all rfl) hB [N8 qa] (hpc _) (hps _) hl5 (hpo _) ?_)
      intro w5 hu5 hB5
      have hBr5 := hBr.upd hu5 (by omega)
      have hBx5 := hBx.upd hu5 (by omega)
      have hbel5 := hbel.trans (hu5.below (B := w.heap.size) (by omega))
      have hcx5 := hBx5.cell (k := k) (v := .int .u8 (x.toNat : Int)) hcell
      have hl6 : 2 * k + 1 + [N8 qb].length ≤ (splice (nRow (SG.nib (d.take k))) (2 * k) [N8 qa]).length := by rw [splice_len, hlen1]; simp; omega
      clear hB hBr hBx hbel hu5 hcx
      go_wp2_with (with_reducible refine wpList_put (o := ⟨none, .store 3 (.tmp 26) (.tmp 25), _, _, _, _⟩) (by with_unfolding_all rfl) 3 (.tmp 26) (.tmp 25) (by with_unfolding_all rfl) gd (2 * k + 1) (by with_unfolding_all rfl) (N8 qb) (by with_unfolding_all rfl) hB5 [N8 qb] (hpc _) (hps _) hl6 (hpo _) ?_)
      intro w6 hu6 hB6
      rw [H2.out] at hB6
      have hBr6 := hBr5.upd hu6 (by omega)
      have hBx6 := hBx5.upd hu6 (by omega)
      have hbel6 := hbel5.trans (hu6.below (B := w.heap.size) (by omega))
      have hc1 : w6.cell? ⟨gd, 2 * k, none⟩ = some (.int .i64 (qa : Int)) := hB6.cell HG1.out
      have hc2 : w6.cell? ⟨gd, 2 * k + 1, none⟩ = some (.int .i64 (qb : Int)) := hB6.cell HG2.out
      clear hB5 hBr5 hBx5 hbel5 hu6 hcx5
      go_wp2
      go_quiet (fail)
      have hB7 := hB6.drewN nq
      have hBr7 := hBr6.drewN nq
      have hBx7 := hBx6.drewN nq
      have hbel7 := hbel6.drewN nq
      clear hB6 hBr6 hBx6 hbel6 hc1 hc2
      generalize w6.drewN nq = w7 at hB7 hBr7 hBx7 hbel7 ⊢
      go_wp2
      go_roundw
      case rel => exact ⟨k + 1, by omega, by go_num, by rw [HS.out]; congr 1; omega, hB7, hBr7, hBx7, hbel7⟩
      case measure => simp [intOf]; omega
    · obtain rfl : k = 16 := by omega
      have hdt : d.take 16 = d := List.take_of_length_le (by rw [HD.out]; exact Nat.le_refl _)
      rw [hdt] at hB ⊢
      rw [show (((16 : Nat)) : Int) = 16 from rfl]
      have hnl : (SG.nib d).length = 32 := by rw [SG.nib_length, HD.out]
      have hds := SG.dsum_le d
      rw [HD.out] at hds
      obtain ⟨S, hSe⟩ : ∃ S, Hid (SG.dsum d = S) := ⟨_, rfl⟩
      rw [hSe.out] at hds ⊢
      obtain ⟨L, hLe⟩ : ∃ L, Hid (SG.nib d = L) := ⟨_, rfl⟩
      have hdl : Hid (((SG.digits d).map N8).length = 35) := by
        have : ((SG.digits d).map N8).length = 35 := by rw [List.length_map]; exact SG.digits_length d HD.out
        exact this
      have hB0 : Blk wr gd 25 ((L ++ [0, 0, 0]).map N8) := by
        have e : nRow (SG.nib d) = (L ++ [0, 0, 0]).map N8 := by unfold nRow; rw [hnl, hLe.out]; rfl
        rw [← e]; exact hB
      rw [hLe.out] at hnl
      have hset : ∀ (i n a b c : Nat) (_ : i < 3), splice ((L ++ [a, b, c]).map N8) (32 + i) [N8 n] = (L ++ [a, b, c].set i n).map N8 := fun i n a b c hi => by
        rw [nRow_set _ (32 + i) _ (by rw [List.length_append, hnl]; rfl) (by omega), List.set_append_right (32 + i) _ (by rw [hnl]; omega), hnl, Nat.add_sub_cancel_left]
      have hlen_ : ∀ a b c : Nat, ((L ++ [a, b, c]).map N8).length = 35 := fun a b c => by rw [List.length_map, List.length_append, hnl]; rfl
      have hq1 : ((S : Nat) : Int).tdiv 256 = ((S / 256 : Nat) : Int) := by rw [Int.tdiv_eq_ediv_of_nonneg (by omega)]; rfl
      have hq2 : ((S : Nat) : Int).tdiv 16 = ((S / 16 : Nat) : Int) := by rw [Int.tdiv_eq_ediv_of_nonneg (by omega)]; rfl
      have hq3 : ((S / 16 : Nat) : Int).tmod 16 = ((S / 16 % 16 : Nat) : Int) := by rw [Int.tmod_eq_emod_of_nonneg (by omega)]; rfl
      have hq4 : ((S : Nat) : Int).tmod 16 = ((S % 16 : Nat) : Int) := by rw [Int.tmod_eq_emod_of_nonneg (by omega)]; rfl
      have hdg : Hid (SG.digits d = L ++ [S / 256, S / 16 % 16, S % 16]) := by rw [← hSe.out, ← hLe.out]; rfl
      obtain ⟨a1, ha1⟩ : ∃ a, Hid (S / 256 = a) := ⟨_, rfl⟩
      obtain ⟨a0, ha0⟩ : ∃ a, Hid (S / 16 = a) := ⟨_, rfl⟩
      obtain ⟨a2, ha2⟩ : ∃ a, Hid (a0 % 16 = a) := ⟨_, rfl⟩
      obtain ⟨a3, ha3⟩ : ∃ a, Hid (S % 16 = a) := ⟨_, rfl⟩
      have hb1 : a1 ≤ 480 := by rw [← ha1.out]; omega
      have hb0 : a0 ≤ 480 := by rw [← ha0.out]; omega
      have hb2 : a2 < 16 := by rw [← ha2.out]; omega
      have hb3 : a3 < 16 := by rw [← ha3.out]; omega
      rw [ha0.out] at hq2 hq3 hdg
      rw [ha2.out] at hq3 hdg
      rw [ha1.out] at hq1 hdg
      rw [ha3.out] at hq4 hdg
      have HSET := Lib.hid hset
      have hp1 : 32 + [N8 a1].length ≤ ((L ++ [0, 0, 0]).map N8).length := by rw [hlen_]; show 32 + 1 ≤ 35; decide
      have hp2 : 33 + [N8 a2].length ≤ ((L ++ [a1, 0, 0]).map N8).length := by rw [hlen_]; show 33 + 1 ≤ 35; decide
      have hp3 : 34 + [N8 a3].length ≤ ((L ++ [a1, a2, 0]).map N8).length := by rw [hlen_]; show 34 + 1 ≤ 35; decide
      clear hB hdt hBx hset hlen_
      go_wp2_with (with_reducible refine wpList_put (o := ⟨none, .store 3 (.tmp 42) (.tmp 41), _, _, _, _⟩) (by with_unfolding_all rfl) 3 (.tmp 42) (.tmp 41) (by with_unfolding_all rfl) gd 32 (by with_unfolding_all rfl) (N8 a1) (by with_unfolding_all rfl) hB0 [N8 a1] (hpc _) (hps _) hp1 (hpo _) ?_)
      intro w5 hu5 hB5
      have hB5' : Blk w5 gd 25 ((L ++ [a1, 0, 0]).map N8) := by have e := (HSET.out 0 a1 0 0 0 (by decide)).symm; simp only [List.map_append, List.map_cons, List.map_nil, List.set_cons_zero, Nat.add_zero] at e; simp only [List.map_append, List.map_cons, List.map_nil]; rw [e]; exact hB5
      have hBr5 := hBr.upd hu5 (by omega)
      have hbel5 := hbel.trans (hu5.below (B := w.heap.size) (by omega))
      clear hBr hbel hu5 hB5 hB0
      go_wp2_with (with_reducible refine wpList_put (o := ⟨none, .store 3 (.tmp 46) (.tmp 45), _, _, _, _⟩) (by with_unfolding_all rfl) 3 (.tmp 46) (.tmp 45) (by with_unfolding_all rfl) gd 33 (by with_unfolding_all rfl) (N8 a2) (by with_unfolding_all rfl) hB5' [N8 a2] (hpc _) (hps _) hp2 (hpo _) ?_)
      intro w6 hu6 hB6
      have hB6' : Blk w6 gd 25 ((L ++ [a1, a2, 0]).map N8) := by have e := (HSET.out 1 a2 a1 0 0 (by decide)).symm; simp only [List.map_append, List.map_cons, List.map_nil, List.set_cons_zero, List.set_cons_succ] at e; simp only [List.map_append, List.map_cons, List.map_nil]; rw [e]; exact hB6
      have hBr6 := hBr5.upd hu6 (by omega)
      have hbel6 := hbel5.trans (hu6.below (B := w.heap.size) (by omega))
      clear hBr5 hbel5 hu6 hB6 hB5'
      go_wp2_with (with_reducible refine wpList_put (o := ⟨none, .store 3 (.tmp 49) (.tmp 48), _, _, _, _⟩) (by with_unfolding_all rfl) 3 (.tmp 49) (.tmp 48) (by with_unfolding_all rfl) gd 34 (by with_unfolding_all rfl) (N8 a3) (by with_unfolding_all rfl) hB6' [N8 a3] (hpc _) (hps _) hp3 (hpo _) ?_)
      intro w7 hu7 hB7
      have hB7' : Blk w7 gd 25 ((SG.digits d).map N8) := by have e := (HSET.out 2 a3 a1 a2 0 (by decide)).symm; simp only [List.map_append, List.map_cons, List.map_nil, List.set_cons_zero, List.set_cons_succ] at e; rw [hdg.out]; simp only [List.map_append, List.map_cons, List.map_nil]; rw [e]; exact hB7
      have hBr7 := hBr6.upd hu7 (by omega)
      have hbel7 := hbel6.trans (hu7.below (B := w.heap.size) (by omega))
      clear hBr6 hbel6 hu7 hB7 hB6'
      go_wp2_with (first | (with_reducible refine wpList_get (o := ⟨some 50, .load 25 (.tmp 3), _, _, _, _⟩) (by with_unfolding_all rfl) 25 (.tmp 3) (by with_unfolding_all rfl) gd 0 (by with_unfolding_all rfl) hB7' ((SG.digits d).map N8) (cs_all _) (.array 35 3) Tryd.underlying25 (by with_unfolding_all rfl) (by rw [hdl.out]; exact Tryd.size51) ?_) | (with_reducible refine wpList_put (o := ⟨none, .store 25 (.tmp 2) (.tmp 50), _, _, _, _⟩) (by with_unfolding_all rfl) 25 (.tmp 2) (.tmp 50) (by with_unfolding_all rfl) gr 0 (by with_unfolding_all rfl) (.agg ((SG.digits d).map N8).toArray) (by with_unfolding_all rfl) hBr7 ((SG.digits d).map N8) (by with_unfolding_all rfl) (by rw [hdl.out]; exact Tryd.size51) (by with_unfolding_all (rw [hdl.out]; exact Nat.le_refl _)) (N8_one _) ?_))
      intro w9 hu9 hB9
      rw [splice_all _ _ (by rw [hdl.out]; rfl)] at hB9
      have hbel9 := hbel7.trans (hu9.below (B := w.heap.size) (by omega))
      go_wp2
      refine bodyPost_ret (results_cell_row rfl _ _ gr _ _ _ _ rfl hB9 Tryd.underlying25 rfl (by rw [List.size_toArray, hdl.out]; exact Tryd.size51)) rfl ⟨rfl, hbel9⟩
end Go.Proofs.YtkakiepaffhhjaaDoor
