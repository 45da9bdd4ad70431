/-
  Contracts of the walks over slices.Grow and slices.Concat at ratios. Conditions: the rows lie there, and none of them is nil.
-/
import Derived.Test.YthjaelopmfjfeaaDoorWf
import Derived.OwnWalk
import Derived.OwnWalkIn
import Derived.Lib.AppendZeros
namespace Go.Proofs.YthjaelopmfjfeaaDoor
set_option linter.unusedVariables false
set_option linter.unusedSimpArgs false
open Go.RowKit Go.Shelf

attribute [local go_sem] Oper.semAt_some
/-- 'append' to a row: where the new one lies. -/
theorem run_append_new {P : Program} (w : World) (base : Nat) (t ty e : TypeId) (i : TypeInfo) (z : Value) (size bytes : Nat) (ht : P.underlying t = some (.slice e)) (hi : P.info? e = some i) (hz : i.zero = some z)
    (hsize : i.size = size) (hby : i.bytes = bytes) (hzs : z.cells.size = size) (hsz : 0 < size) (v : Value) (n : Nat) (xs : List Value) (hown : w.ownsRow base e size v n xs)
    (a : Addr) (m c : Nat) (news : List Value) (hl : news.length = m * size) (hnews : ∀ j u, news[j]? = some u → w.cell? (a.add j) = some u) (h1 : ∀ u ∈ news, u.oneCell' = true)
    (h63 : n + m ≤ maxLen) (hbytes : (n + m) * bytes ≤ 140737488355328) (hbase : base ≤ w.heap.size) :
    ∃ v' w', (Builtin.append_ #[t, t] ty #[v, .slice (some a) m c]).run P w = .ok v' w' ∧ w'.ownsRow base e size v' (n + m) (xs ++ news) ∧ w.grownBy w' v.ownBlock ∧ (v'.ownBlock = v.ownBlock ∨ ∀ g, v'.ownBlock = some g → w.heap.size ≤ g) := by
  obtain ⟨v', w', hr, ho, hg, hn⟩ := run_append_own (P := P) w base t ty e i z size bytes ht hi hz hsize hby hzs hsz v n xs hown a m c news hl hnews h1 h63 hbytes hbase
  refine ⟨v', w', hr, ho, hg, ?_⟩
  rcases hown.2 with ⟨rfl, rfl⟩ | ⟨g, cap, cur, rfl, hbg, hgc, hnc, hcm, hcs, htake⟩
  · have hx : xs = [] := List.eq_nil_of_length_eq_zero (by simpa using hown.1)
    subst hx
    obtain ⟨v2, w2, hr2, ho2, _, _⟩ := run_append_own (P := P) w w.heap.size t ty e i z size bytes ht hi hz hsize hby hzs hsz (.slice none 0 0) 0 [] (World.ownsRow_nil _ _ _ _) a m c news hl hnews h1 h63 hbytes (Nat.le_refl _)
    rw [hr] at hr2
    injection hr2 with e1 e2
    subst e1 e2
    exact .inr fun g hg => (ho2.lt g hg).1
  · by_cases hroom : n + m ≤ cap
    · obtain ⟨w2, hr2, _, _⟩ := run_append_fits (P := P) w base t ty e i size ht hi hsize g n cap xs hown a m c news hl hnews h1 hroom
      rw [hr] at hr2
      injection hr2 with e1 e2
      subst e1
      exact .inl rfl
    · have holds : ∀ j u, xs[j]? = some u → w.cell? ((⟨g, 0, none⟩ : Addr).add j) = some u := hown.cells (g := g) rfl
      have hr2 := run_append_grow (P := P) w t ty e i z ht hi hz ⟨g, 0, none⟩ n cap xs (by rw [hsize]; exact hown.1) holds a m c news (by rw [hsize]; exact hl) hnews (by omega) (by simp only [maxLen] at h63; omega) (growslice_fits (by omega) (by rw [hby]; exact hbytes))
      rw [hr] at hr2
      injection hr2 with e1 e2
      subst e1
      exact .inr fun g hg => by
        have : w.heap.size = g := by simpa [Value.ownBlock] using hg
        omega
theorem wpList_appendN {P : Program} (w : World) {ops : Array Oper} {rest : List Oper} {o : Oper} {a : Act} {Q : Exit → Act → World → Prop} (hgd : o.guard = none) (s x : Operand) (t : TypeId)
    (ho : o.op = .call { callee := .builtin .append, args := #[s, x], argTypes := #[t, t] })
    (base : Nat) (e : TypeId) (i : TypeInfo) (z : Value) (size bytes : Nat) (ht : P.underlying t = some (.slice e)) (hi : P.info? e = some i) (hz : i.zero = some z)
    (hsize : i.size = size) (hby : i.bytes = bytes) (hzs : z.cells.size = size) (hsz : 0 < size)
    (v : Value) (n : Nat) (xs : List Value) (hs : a.eval s = v) (hown : w.ownsRow base e size v n xs)
    (ad : Addr) (m c : Nat) (news : List Value) (hx : a.eval x = .slice (some ad) m c) (hl : news.length = m * size) (hnews : ∀ j u, news[j]? = some u → w.cell? (ad.add j) = some u) (h1 : ∀ u ∈ news, u.oneCell' = true)
    (h63 : n + m ≤ maxLen) (hbytes : (n + m) * bytes ≤ 140737488355328) (hbase : base ≤ w.heap.size)
    (h : ∀ v' w', w'.ownsRow base e size v' (n + m) (xs ++ news) → w.grownBy w' v.ownBlock → (v'.ownBlock = v.ownBlock ∨ ∀ g, v'.ownBlock = some g → w.heap.size ≤ g) → wpList P ops Q rest (a.put o.dst v') w') : wpList P ops Q (o :: rest) a w := by
  refine wpList_plain hgd fun K hK' => ?_
  obtain ⟨v', w', hrun, r1, r2, r3⟩ := run_append_new (P := P) w base t o.type e i z size bytes ht hi hz hsize hby hzs hsz v n xs hown ad m c news hl hnews h1 h63 hbytes hbase
  unfold Oper.wp
  simp [execOp, ho, resolve, invoke, builtin, hs, hx, hrun, Result.andThen]
  exact hK' _ _ (h v' w' r1 r2 r3)
theorem run_append_zero (w : World) (ty : TypeId) (A : Option Addr) (n c : Nat) (hc : n ≤ c) (hA : A = none → n = 0 ∧ c = 0) : (Builtin.append_ #[40, 40] ty #[.slice A n c, .slice none 0 0]).run Tryd.prog w = .ok (.slice A n c) w := by
  obtain ⟨i0, hi, hz0, hz1, hz2⟩ := infoQ
  cases A with
  | none =>
    obtain ⟨rfl, rfl⟩ := hA rfl
    simp [Builtin.append_, run_underlying Tryd.underlying40, sizeOf, typeInfo, hi, Builtin.lenOf, Builtin.firstCells]
  | some ad =>
    simp [Builtin.append_, run_underlying Tryd.underlying40, sizeOf, typeInfo, hi, Builtin.lenOf, Builtin.firstCells, hc, storeCells]
theorem wpList_append0 {ops : Array Oper} {rest : List Oper} {o : Oper} {a : Act} {w : World} {Q : Exit → Act → World → Prop} (hgd : o.guard = none) (s x : Operand)
    (ho : o.op = .call { callee := .builtin .append, args := #[s, x], argTypes := #[40, 40] }) (A : Option Addr) (n c : Nat) (hc : n ≤ c) (hA : A = none → n = 0 ∧ c = 0) (hs : a.eval s = .slice A n c) (hx : a.eval x = .slice none 0 0)
    (h : wpList Tryd.prog ops Q rest (a.put o.dst (.slice A n c)) w) : wpList Tryd.prog ops Q (o :: rest) a w := by
  refine wpList_plain hgd fun K hK => ?_
  have hr := run_append_zero w o.type A n c hc hA
  unfold Oper.wp execOp
  simp only [ho, resolve, invoke, builtin, Sem.run_bind, Sem.run_pure, Result.andThen_ok, List.map_toArray, List.map_cons, List.map_nil, hs, hx, hr]
  exact hK _ _ h
theorem own_keep {w w' : World} {base n size : Nat} {e : TypeId} {v : Value} {xs : List Value} (h : w.ownsRow base e size v n xs) (hb : ∀ g, v.ownBlock = some g → w'.heap[g]? = w.heap[g]?) : w'.ownsRow base e size v n xs := by
  refine ⟨h.1, ?_⟩
  rcases h.2 with hn | ⟨g, cap, cur, rfl, h2, h3, h4⟩
  · exact .inl hn
  · exact .inr ⟨g, cap, cur, rfl, h2, (hb g rfl).trans h3, h4⟩

set_option maxRecDepth 100000 in
set_option maxHeartbeats 3200000 in
theorem grow_any (n : Nat) (w : World) (hn : n ≤ 100000) :
    Calls Tryd.prog 89 #[.slice none 0 0, .int .i64 (n : Int)] w fun e w' => ∃ v, e = .returned v ∧ w'.ownsRow w.heap.size 23 2 v 0 [] ∧ Below w.heap.size w w' := by
  obtain ⟨i, h1, h2, h3, h4⟩ := infoQ
  by_cases h0 : n = 0
  · subst h0
    go_enter Tryd.func89, Tryd.ntmps89
    go_wp2
    go_ret
    exact ⟨_, rfl, World.ownsRow_nil _ _ _ _, Below.refl _ _⟩
  · have hn0 : ¬ (n : Int) < 0 := by omega
    have hnp : (0 : Int) < (n : Int) := by omega
    have hnq : 0 < n := by omega
    have hw1 : IntKind.i64.wrap (n : Int) = (n : Int) := by simp only [IntKind.wrap_i64]; omega
    have hr := Lib.hid (fun (w : World) (ty : TypeId) => Lib.run_append_nil_zeros (P := Tryd.prog) w 40 3 ty 23 i _ .i64 .i64 Tryd.underlying40 Tryd.underlying3 h1 h2 n (by omega) (by rw [h3]; omega) (by omega) (by rw [h4]; omega))
    obtain ⟨G, hG⟩ : ∃ G, grownCap w n 0 23 = G := ⟨_, rfl⟩
    have hGn : n ≤ G := by rw [← hG]; exact grownCap_ge _ _ _ _
    have hGm : G ≤ maxLen := by rw [← hG]; exact grownCap_le_maxLen _ _ _ _ (by unfold maxLen; omega)
    have hGi : (0 : Int) ≤ (G : Int) := by omega
    go_enter Tryd.func89, Tryd.ntmps89
    go_wp2_with (at_builtin; refine Lib.wpList_append_run _ rfl _ _ _ _ rfl _ _ rfl rfl _ _ (hr.out _ _) ?_)
    go_ret
    refine ⟨_, rfl, ?_, ?_⟩
    · exact World.ownsRow_made w.drew _ _ (Nat.le_refl _) hGm (by rw [Array.size_append, size_zeroCells, size_zeroCells]; show n * 2 + (G - n) * 2 = G * 2; omega)
    · exact below_join (below_drew w) (below_new w.drew _)
theorem own_shape {w : World} {base n size : Nat} {e : TypeId} {v : Value} {xs : List Value} (h : w.ownsRow base e size v n xs) : ∃ A c, v = .slice A n c ∧ ((A = none ∧ c = 0 ∧ n = 0) ∨ ∃ g, A = some ⟨g, 0, none⟩ ∧ base ≤ g ∧ g < w.heap.size) := by
  rcases h.2 with ⟨rfl, rfl⟩ | ⟨g, cap, cur, rfl, hb, h3, _⟩
  · exact ⟨none, 0, rfl, .inl ⟨rfl, rfl, rfl⟩⟩
  · exact ⟨_, _, rfl, .inr ⟨g, rfl, hb, (Array.getElem?_eq_some_iff.1 h3).1⟩⟩
/-- A slice of ratios and its cells. -/
structure Part (w : World) (p : Hdr × List Value) : Prop where
  len : p.2.length = p.1.2.1 * 2
  lies : (p.1 = (none, 0, 0)) ∨ ∃ ad, p.1.1 = some ad ∧ ∀ j u, p.2[j]? = some u → w.cell? (ad.add j) = some u
  one : ∀ u ∈ p.2, u.oneCell' = true
theorem Part.next {w w' : World} {p : Hdr × List Value} (h : Part w p) (hb : Below w.heap.size w w') : Part w' p := by
  obtain ⟨h1, h0 | ⟨ad, h2, h3⟩, h4⟩ := h
  · exact ⟨h1, .inl h0, h4⟩
  · exact ⟨h1, .inr ⟨ad, h2, fun j u hu => cellq_below hb (h3 j u hu)⟩, h4⟩
def lensTo (L : List (Hdr × List Value)) : Nat := (L.map fun p => p.1.2.1).sum
theorem lensTo_step {L : List (Hdr × List Value)} {k : Nat} {p : Hdr × List Value} (h : L[k]? = some p) : lensTo (L.take (k + 1)) = lensTo (L.take k) + p.1.2.1 := by
  obtain ⟨hk, e⟩ := List.getElem?_eq_some_iff.1 h
  unfold lensTo
  rw [List.take_succ_eq_append_getElem hk, List.map_append, List.sum_append, e]
  simp
theorem lensTo_le (L : List (Hdr × List Value)) (k : Nat) : lensTo (L.take k) ≤ lensTo L := by
  have e : L = L.take k ++ L.drop k := (List.take_append_drop k L).symm
  have h : lensTo L = lensTo (L.take k) + lensTo (L.drop k) := by
    conv => lhs; rw [e]
    unfold lensTo
    rw [List.map_append, List.sum_append]
  omega
def cellsTo (L : List (Hdr × List Value)) : List Value := L.flatMap fun p => p.2
theorem cellsTo_step {L : List (Hdr × List Value)} {k : Nat} {p : Hdr × List Value} (h : L[k]? = some p) : cellsTo (L.take (k + 1)) = cellsTo (L.take k) ++ p.2 := by
  obtain ⟨hk, e⟩ := List.getElem?_eq_some_iff.1 h
  unfold cellsTo
  rw [List.take_succ_eq_append_getElem hk, List.flatMap_append, e]
  simp
def SumRel (L : List (Hdr × List Value)) (n : Nat) (w : World) (s i : Value) (wr : World) : Prop := ∃ k : Nat, k ≤ n ∧ i = .int .i64 (k : Int) ∧ s = .int .i64 (lensTo (L.take k) : Int) ∧ wr = w
def CatRel (L : List (Hdr × List Value)) (n : Nat) (w0 w : World) (s i : Value) (wr : World) : Prop := ∃ k : Nat, k ≤ n ∧ i = .int .i64 (k : Int) ∧ (∃ (B : Option Addr) (d : Nat), s = .slice B (lensTo (L.take k)) d ∧ wr.ownsRow w.heap.size 23 2 (.slice B (lensTo (L.take k)) d) (lensTo (L.take k)) (cellsTo (L.take k))) ∧ Below w.heap.size w0 wr
set_option maxRecDepth 100000 in
set_option maxHeartbeats 3200000 in
theorem concat_any (A : Option Addr) (c : Nat) (L : List (Hdr × List Value)) (w : World) (hl : L.length ≤ 1000) (hS : HdrsAt w A (L.map fun p => p.1)) (hP : ∀ p ∈ L, Part w p) (hN : lensTo L ≤ 100000) :
    Calls Tryd.prog 75 #[.slice A L.length c] w fun e w' => ∃ v, e = .returned v ∧ w'.ownsRow w.heap.size 23 2 v (lensTo L) (cellsTo L) ∧ Below w.heap.size w w' := by
  obtain ⟨i0, hi, hz0, hz1, hz2⟩ := infoQ
  have HI := Lib.hid hi
  have HZ0 := Lib.hid hz0
  have HZ1 := Lib.hid hz1
  have HZ2 := Lib.hid hz2
  have HZS : Hid ((Value.agg zC.toArray).cells.size = 2) := by
    have : (Value.agg zC.toArray).cells.size = 2 := rfl
    exact this
  have HS := Lib.hid hS
  have HP := Lib.hid hP
  have hsums := fun k => lensTo_le L k
  have HSU := Lib.hid hsums
  have HGR := Lib.hid (fun w => grow_any (lensTo L) w hN)
  obtain ⟨n, hn⟩ : ∃ n, L.length = n := ⟨_, rfl⟩
  have HN := Lib.hid hn
  rw [hn] at hl ⊢
  have hni : (n : Int) ≤ 1000 := by omega
  have hget : ∀ k, k < n → ∃ p, L[k]? = some p ∧ Part w p ∧ ∃ ad, A = some ad ∧ w.cell? (ad.add k) = some (hdrV p.1) := fun k hk => by
    have hk2 : k < L.length := by rw [hn]; exact hk
    have h1 : L[k]? = some L[k] := List.getElem?_eq_getElem hk2
    refine ⟨L[k], h1, hP _ (List.mem_of_getElem? h1), ?_⟩
    exact hS k L[k].1 (by rw [List.getElem?_map, h1]; rfl)
  have HGT := Lib.hid hget
  clear hi hz0 hz1 hz2 hS hP hsums hn hget
  go_enter Tryd.func75, Tryd.ntmps75
  go_wp2
  go_loopw [3, 11] (SumRel L n w) (fun _ i _ => n - (intOf i).toNat)
  case atStart => exact ⟨0, Nat.zero_le _, rfl, rfl, rfl⟩
  case round =>
    obtain ⟨k, hk, rfl, rfl, rfl⟩ := hrel
    by_cases hlt : k < n
    · have hki : (k : Int) < (n : Int) := by omega
      have hk0 : (0 : Int) ≤ (k : Int) := by omega
      obtain ⟨p, hp, hpt, ad, rfl, hc⟩ := HGT.out k hlt
      have hst := lensTo_step hp
      have hle1 := HSU.out (k + 1)
      obtain ⟨⟨B, q, d⟩, cs⟩ := p
      have hc0 : wr.cell? (ad.add k) = some (.slice B q d) := hc
      obtain ⟨S, hS⟩ : ∃ S, lensTo (L.take k) = S := ⟨_, rfl⟩
      have hst2 : lensTo (L.take (k + 1)) = S + q := by rw [hst, hS]
      have HST := Lib.hid hst2
      have hwS : IntKind.i64.wrap ((S : Int) + (q : Int)) = ((S + q : Nat) : Int) := by simp only [IntKind.wrap_i64]; omega
      have hSn : ¬ (((S + q : Nat) : Int) < 0) := by omega
      have hSp : (0 : Int) ≤ (S : Int) + (q : Int) := by omega
      rw [hS]
      clear hst hst2 hS hp hpt hc hle1
      go_wp2
      go_roundw
      case rel => exact ⟨k + 1, by omega, by go_num, by rw [HST.out]; first | rfl | exact congrArg (Value.int .i64) (by omega), rfl⟩
      case measure => simp [intOf]; omega
    · obtain rfl : k = n := by omega
      have hki : ¬ (k : Int) < (k : Int) := by omega
      have hall : lensTo (L.take k) = lensTo L := by rw [List.take_of_length_le (by rw [HN.out]; exact Nat.le_refl _)]
      have hallc : cellsTo (L.take k) = cellsTo L := by rw [List.take_of_length_le (by rw [HN.out]; exact Nat.le_refl _)]
      have HAL := Lib.hid hall
      have HALC := Lib.hid hallc
      rw [hall]
      clear hall hallc
      go_wp2_with fail
      (with_reducible refine (HGR.out _).mono ?_)
      rintro e w2 ⟨v, rfl, hown, hb2⟩
      obtain ⟨B0, d0, rfl, _⟩ := own_shape hown
      obtain ⟨W1, hW1⟩ : ∃ W, W = wr := ⟨wr, rfl⟩
      subst hW1
      go_wp2
      go_loopw [6, 27] (CatRel L k W1 W1) (fun _ i _ => k - (intOf i).toNat)
      case atStart => exact ⟨0, Nat.zero_le _, rfl, ⟨B0, d0, rfl, hown⟩, hb2⟩
      case round =>
        clear hown hb2
        obtain ⟨j, hj, rfl, ⟨B1, d1, rfl, hown⟩, hbe⟩ := hrel
        by_cases hlt : j < k
        · have hki : (j : Int) < (k : Int) := by omega
          have hk0 : (0 : Int) ≤ (j : Int) := by omega
          obtain ⟨p, hp, hpt, ad, rfl, hc⟩ := HGT.out j hlt
          have hst := lensTo_step hp
          have hsc := cellsTo_step hp
          have hle1 := HSU.out (j + 1)
          obtain ⟨⟨B, q, d⟩, cs⟩ := p
          obtain ⟨hpl, h0 | ⟨ae, hae, hlies⟩, hone⟩ := hpt.next hbe
          · have h0' : (B, q, d) = ((none, 0, 0) : Hdr) := h0
            injection h0' with e0 e1
            injection e1 with e1 e2
            subst e0 e1 e2
            have hc0 : wr.cell? (ad.add j) = some (.slice none 0 0) := cellq_below hbe hc
            have hcs : cs = [] := List.eq_nil_of_length_eq_zero (by have : cs.length = 0 * 2 := hpl; omega)
            subst hcs
            have HST := Lib.hid hst
            have HSC := Lib.hid hsc
            have hB1 : B1 = none → lensTo (L.take j) = 0 ∧ d1 = 0 := fun e => by
              obtain ⟨A2, c2, he, h2⟩ := own_shape hown
              injection he with e3 _ e4
              subst e3 e4
              rcases h2 with ⟨_, h3, h4⟩ | ⟨g, h3, _⟩
              · exact ⟨h4, h3⟩
              · rw [e] at h3; cases h3
            have hd1 : lensTo (L.take j) ≤ d1 := by
              rcases hown.2 with ⟨he, h4⟩ | ⟨g, cap, cur, he, _, _, hnc, _⟩
              · injection he with _ _ e4; omega
              · injection he with _ _ e4; omega
            obtain ⟨S, hS⟩ : ∃ S, lensTo (L.take j) = S := ⟨_, rfl⟩
            rw [hS] at hB1 hd1 hown ⊢
            have HOW : Hid (wr.ownsRow W1.heap.size 23 2 (.slice B1 S d1) S (cellsTo (L.take j))) := hown
            have hSS : Hid (lensTo (L.take (j + 1)) = S) := by
              have : lensTo (L.take (j + 1)) = S := by rw [HST.out, ← hS]; rfl
              exact this
            clear hst hsc hp hpt hc hle1 hpl hone h0 hown hS
            go_wp2_with (with_reducible refine wpList_append0 (o := ⟨some 33, .call ⟨.builtin .append, #[.tmp 31, .tmp 32], #[40, 40]⟩, _, _, _, _⟩) (by with_unfolding_all rfl) (.tmp 31) (.tmp 32) (by with_unfolding_all rfl) B1 S d1 hd1 hB1 (by with_unfolding_all rfl) (by with_unfolding_all rfl) ?_)
            go_roundw
            case rel => exact ⟨j + 1, by omega, by go_num, ⟨B1, d1, by rw [hSS.out], by rw [hSS.out, HSC.out, List.append_nil]; exact HOW.out⟩, hbe⟩
            case measure => simp [intOf]; omega
          · skip
            have hae' : B = some ae := hae
            subst hae'
            have hc0 : wr.cell? (ad.add j) = some (.slice (some ae) q d) := cellq_below hbe hc
            obtain ⟨S, hS⟩ : ∃ S, lensTo (L.take j) = S := ⟨_, rfl⟩
            obtain ⟨xs, hxs⟩ : ∃ xs, cellsTo (L.take j) = xs := ⟨_, rfl⟩
            have hst2 : lensTo (L.take (j + 1)) = S + q := by rw [hst, hS]
            have hsc2 : cellsTo (L.take (j + 1)) = xs ++ cs := by rw [hsc, hxs]
            have HST := Lib.hid hst2
            have HSC := Lib.hid hsc2
            rw [hS, hxs] at hown
            rw [hS]
            have hlen : cs.length = q * 2 := hpl
            have h63 : S + q ≤ maxLen := by unfold maxLen; omega
            have hby : (S + q) * 16 ≤ 140737488355328 := by omega
            have hbs := hbe.size
            clear hst hst2 hsc hsc2 hS hxs hp hpt hc hle1 hpl
            go_wp2_with (with_reducible refine wpList_appendN wr (o := ⟨some 33, .call ⟨.builtin .append, #[.tmp 31, .tmp 32], #[40, 40]⟩, _, _, _, _⟩) (by with_unfolding_all rfl) (.tmp 31) (.tmp 32) 40 (by with_unfolding_all rfl) W1.heap.size 23 i0 (.agg zC.toArray) 2 16 Tryd.underlying40 HI.out HZ0.out HZ1.out HZ2.out HZS.out (by decide) (.slice B1 S d1) S xs (by with_unfolding_all rfl) hown ae q d cs (by with_unfolding_all rfl) hlen hlies hone h63 hby hbs ?_)
            intro v9 w9 hown9 hgr9 hnew9
            obtain ⟨B9, d9, rfl, _⟩ := own_shape hown9
            have hb9 := hbe.grown hgr9 hbs (fun g hg => (hown.lt g hg).1)
            clear hgr9 hnew9 hown hbe
            go_wp2
            go_roundw
            case rel => exact ⟨j + 1, by omega, by go_num, ⟨B9, d9, by rw [HST.out], by rw [HST.out, HSC.out]; exact hown9⟩, hb9⟩
            case measure => simp [intOf]; omega
        · obtain rfl : j = k := by omega
          have hki : ¬ (j : Int) < (j : Int) := by omega
          rw [HAL.out, HALC.out] at hown
          rw [HAL.out]
          go_wp2
          go_ret
          exact ⟨_, rfl, hown, hbe⟩
end Go.Proofs.YthjaelopmfjfeaaDoor
