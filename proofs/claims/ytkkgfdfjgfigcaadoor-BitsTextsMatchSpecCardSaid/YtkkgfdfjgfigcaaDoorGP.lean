/-
  Contracts of the functions that the statement calls, part 16 of 25 (merged texts: Kc, Kd, Ke, Kf). Conditions: as the head of each part says.
-/
import Derived.Test.YtkkgfdfjgfigcaaDoorGO
import Derived.Test.YtkkgfdfjgfigcaaDoorGJ
import Derived.TacticsInMore

/-
  Contract of the walk over overlapping: the elements among some that overlap a pattern are put behind a row of numbers. Conditions: the rows lie there, apart from what is written.
-/
namespace Go.Proofs.YtkkgfdfjgfigcaaDoor
set_option linter.unusedVariables false
set_option linter.unusedSimpArgs false
open Go.RowKit

theorem excN_le (p q : Pat) : excN p q ≤ 160 := by
  unfold excN
  split
  · exact cnt_le _ _ _
  · omega
/-- What overlapping finds. -/
structure OvR (l : List Pat) (p : Pat) (K K1 : List Nat) (best : Int) : Prop where
  sub : ∀ k, k ∈ K1 → k ∈ K
  best : (K1 = [] ∧ best = -1 ∧ ∀ k, k ∈ K → ∀ q, l[k]? = some q → ¬ p.over q) ∨ (∃ (b : Nat) (q : Pat), best = (b : Int) ∧ l[b]? = some q ∧ p.over q ∧ b ∈ K1 ∧ (excN p q = 0 ∨ ∀ k, k ∈ K → ∀ q', l[k]? = some q' → p.over q' → k ∈ K1))
structure OvI (l : List Pat) (p : Pat) (K K1 : List Nat) (j : Nat) (best few : Int) : Prop where
  sub : ∀ k, k ∈ K1 → k ∈ K
  cov : ∀ i k, i < j → K[i]? = some k → ∀ q', l[k]? = some q' → p.over q' → k ∈ K1
  len : K1.length ≤ j
  best : (K1 = [] ∧ best = -1 ∧ few = 161) ∨ (∃ (b : Nat) (q : Pat), best = (b : Int) ∧ l[b]? = some q ∧ p.over q ∧ b ∈ K1 ∧ 1 ≤ few ∧ few ≤ 160)
theorem OvI.zero (l : List Pat) (p : Pat) (K : List Nat) : OvI l p K [] 0 (-1) 161 := ⟨fun _ h => (by cases h), fun _ _ h => absurd h (by omega), Nat.le_refl _, .inl ⟨rfl, rfl, rfl⟩⟩
theorem OvI.all {l : List Pat} {p : Pat} {K K1 : List Nat} {j : Nat} {b f : Int} (h : OvI l p K K1 j b f) (hj : j = K.length) : OvR l p K K1 b := by
  have cov : ∀ k, k ∈ K → ∀ q', l[k]? = some q' → p.over q' → k ∈ K1 := fun k hk q' hq ho => by
    obtain ⟨i, hi, e⟩ := List.getElem_of_mem hk
    exact h.cov i k (by omega) (by rw [List.getElem?_eq_getElem hi, e]) q' hq ho
  refine ⟨h.sub, ?_⟩
  rcases h.best with ⟨h1, h2, _⟩ | ⟨b', q, h1, h2, h3, h4, _⟩
  · exact .inl ⟨h1, h2, fun k hk q hq ho => by have := cov k hk q hq ho; rw [h1] at this; cases this⟩
  · exact .inr ⟨b', q, h1, h2, h3, h4, .inr cov⟩
theorem OvI.skip {l : List Pat} {p q : Pat} {K K1 : List Nat} {j k : Nat} {b f : Int} (h : OvI l p K K1 j b f) (hk : K[j]? = some k) (hq : l[k]? = some q) (ho : ¬ p.over q) : OvI l p K K1 (j + 1) b f :=
  ⟨h.sub, fun i k' hi hk' q' hq' ho' => by
    rcases (by omega : i < j ∨ i = j) with h1 | rfl
    · exact h.cov i k' h1 hk' q' hq' ho'
    · rw [hk] at hk'
      cases hk'
      rw [hq] at hq'
      cases hq'
      exact absurd ho' ho, Nat.le_succ_of_le h.len, h.best⟩
theorem OvI.take {l : List Pat} {p q : Pat} {K K1 : List Nat} {j k : Nat} {b f : Int} (h : OvI l p K K1 j b f) (hk : K[j]? = some k) (hq : l[k]? = some q) (ho : p.over q) (h0 : 1 ≤ excN p q) {b' f' : Int}
    (hb : (b' = (k : Int) ∧ f' = (excN p q : Int)) ∨ (b' = b ∧ f' = f ∧ ¬ (excN p q : Int) < f)) : OvI l p K (K1 ++ [k]) (j + 1) b' f' :=
  ⟨fun x hx => by
    rcases List.mem_append.1 hx with hx | hx
    · exact h.sub x hx
    · rw [List.mem_singleton.1 hx]; exact List.mem_of_getElem? hk, fun i k' hi hk' q' hq' ho' => by
    rcases (by omega : i < j ∨ i = j) with h1 | rfl
    · exact List.mem_append_left _ (h.cov i k' h1 hk' q' hq' ho')
    · rw [hk] at hk'
      cases hk'
      exact List.mem_append_right _ (List.mem_singleton.2 rfl), by rw [List.length_append, List.length_singleton]; have := h.len; omega, by
    have hx := excN_le p q
    rcases hb with ⟨rfl, rfl⟩ | ⟨rfl, rfl, hn⟩
    · exact .inr ⟨k, q, rfl, hq, ho, List.mem_append_right _ (List.mem_singleton.2 rfl), by omega, by omega⟩
    · rcases h.best with ⟨_, _, h3⟩ | ⟨c, r, h1, h2, h3, h4, h5⟩
      · omega
      · exact .inr ⟨c, r, h1, h2, h3, List.mem_append_left _ h4, h5⟩⟩
theorem OvI.cover {l : List Pat} {p q : Pat} {K K1 : List Nat} {j k : Nat} {b f : Int} (h : OvI l p K K1 j b f) (hk : K[j]? = some k) (hq : l[k]? = some q) (ho : p.over q) (h0 : excN p q = 0) : OvR l p K (K1 ++ [k]) (k : Int) :=
  ⟨fun x hx => by
    rcases List.mem_append.1 hx with hx | hx
    · exact h.sub x hx
    · rw [List.mem_singleton.1 hx]; exact List.mem_of_getElem? hk, .inr ⟨k, q, rfl, hq, ho, List.mem_append_right _ (List.mem_singleton.2 rfl), .inl h0⟩⟩
def OvRel (base n : Nat) (bn : Option Nat) (xs : List Nat) (l : List Pat) (p : Pat) (K : List Nat) (w : World) (nv bv fv iv : Value) (wr : World) : Prop :=
  ∃ (j : Nat) (K1 : List Nat) (A' : Option Addr) (c' : Nat) (b f : Int), j ≤ K.length ∧ iv = .int .i64 (j : Int) ∧ bv = .int .i64 b ∧ fv = .int .i64 f ∧ nv = .slice A' (n + K1.length) c' ∧ wr.ownsRow base 3 1 (.slice A' (n + K1.length) c') (n + K1.length) ((xs ++ K1).map nV) ∧
    ((Value.slice A' (n + K1.length) c').ownBlock = bn ∨ ∀ g, (Value.slice A' (n + K1.length) c').ownBlock = some g → w.heap.size ≤ g) ∧ Fr bn n w wr ∧ OvI l p K K1 j b f
set_option maxRecDepth 100000 in
set_option maxHeartbeats 1600000 in
theorem overlapping_any (base n c gp op cl ck : Nat) (An Al Ak : Option Addr) (xs : List Nat) (l : List Pat) (K : List Nat) (p : Pat) (w : World) (hbase : base ≤ w.heap.size) (hnl : n ≤ 1000000) (hKl : K.length ≤ 1000000) (hll : l.length ≤ 1000000)
    (hown : w.ownsRow base 3 1 (.slice An n c) n (xs.map nV)) (hp : w.rangeAt gp op p.cells) (hpg : (Value.slice An n c).ownBlock ≠ some gp) (hl : PatsAt w Al l) (hlg : ∀ g o, Al = some ⟨g, o, none⟩ → (Value.slice An n c).ownBlock ≠ some g)
    (hK : SafeAt w Ak K (Value.slice An n c).ownBlock n) (hKb : ∀ k, k ∈ K → k < l.length) :
    Calls Tryd.prog 243 #[.slice An n c, .pointer (some ⟨gp, op, none⟩), .slice Al l.length cl, .slice Ak K.length ck] w fun e w' => ∃ (A' : Option Addr) (c' : Nat) (K1 : List Nat) (b : Int), e = .returned (.tuple #[.slice A' (n + K1.length) c', .int .i64 b]) ∧ w'.ownsRow base 3 1 (.slice A' (n + K1.length) c') (n + K1.length) ((xs ++ K1).map nV) ∧
      ((Value.slice A' (n + K1.length) c').ownBlock = (Value.slice An n c).ownBlock ∨ ∀ g, (Value.slice A' (n + K1.length) c').ownBlock = some g → w.heap.size ≤ g) ∧ Fr (Value.slice An n c).ownBlock n w w' ∧ OvR l p K K1 b ∧ K1.length ≤ K.length := by
  obtain ⟨i0, hi, hz0, hz1, hz2⟩ := info_parts Tryd.infoI
  have HI := Lib.hid hi
  have HZ0 := Lib.hid hz0
  have HZ1 := Lib.hid hz1
  have HZ2 := Lib.hid hz2
  have HBL := Lib.hid (fun g h => (hown.lt g h).2)
  have HP := Lib.hid hp
  have HPG := Lib.hid hpg
  have HL := Lib.hid hl
  have HLG := Lib.hid hlg
  have HK := Lib.hid hK
  have HKB := Lib.hid hKb
  obtain ⟨bn, hbn⟩ : ∃ bn, (Value.slice An n c).ownBlock = bn := ⟨_, rfl⟩
  obtain ⟨m, hm⟩ : ∃ m, Hid (K.length = m) := ⟨_, rfl⟩
  obtain ⟨ll, hlL⟩ : ∃ m, Hid (l.length = m) := ⟨_, rfl⟩
  have h0 : OvRel base n bn xs l p K w (.slice An n c) (.int .i64 (-1)) (.int .i64 161) (.int .i64 ((0 : Nat) : Int)) w := ⟨0, [], An, c, -1, 161, Nat.zero_le _, rfl, rfl, rfl, rfl, by rw [List.append_nil]; exact hown, .inl hbn, Fr.refl _ _ _, OvI.zero _ _ _⟩
  have H0 := Lib.hid h0
  rw [hm.out] at hKl ⊢
  rw [hlL.out] at hll ⊢
  rw [hbn] at HBL HPG HLG HK ⊢
  have HBS := Lib.hid hbase
  clear hi hz0 hz1 hz2 hp hpg hl hlg hK hKb h0 hown hbase
  go_enter Tryd.func243, Tryd.ntmps243
  go_wp2
  go_loopw [0, 10, 11, 18] (OvRel base n bn xs l p K w) (fun _ _ _ i _ => m - (intOf i).toNat)
  case atStart => exact H0.out
  case round =>
    clear H0
    obtain ⟨j, K1, A', c', b, f, hj, rfl, rfl, rfl, rfl, hown, hor, hfr, hov⟩ := hrel
    rw [hm.out] at hj
    have HOW := Lib.hid hown
    have HOR := Lib.hid hor
    have HFR := Lib.hid hfr
    have HOV := Lib.hid hov
    clear hown hor hfr hov
    obtain ⟨n1, hn1⟩ : ∃ n1, Hid (n + K1.length = n1) := ⟨_, rfl⟩
    obtain ⟨Y, hY⟩ : ∃ Y, Hid ((xs ++ K1).map nV = Y) := ⟨_, rfl⟩
    rw [hn1.out] at HOW HOR ⊢
    rw [hY.out] at HOW
    by_cases hlt : j < m
    · have hji : (j : Int) < (m : Int) := by omega
      obtain ⟨k, hk⟩ : ∃ k, K[j]? = some k := ⟨_, List.getElem?_eq_getElem (by rw [hm.out]; exact hlt)⟩
      have hkl : k < ll := by rw [← hlL.out]; exact HKB.out k (List.mem_of_getElem? hk)
      have hkli : (k : Int) < (ll : Int) := by omega
      obtain ⟨q, hq⟩ : ∃ q, l[k]? = some q := ⟨_, List.getElem?_eq_getElem (by rw [hlL.out]; exact hkl)⟩
      obtain ⟨g, o, rfl, hc, _⟩ := (HK.out.fr HFR.out) j k hk
      obtain ⟨gl, ol, rfl, hcl⟩ := (HL.out.fr HFR.out HLG.out) k q hq
      have hcp := range_fr HP.out HFR.out HPG.out
      have HEX := Lib.hid (excess_any p q gp op gl (ol + k * 20) wr hcp hcl)
      have HK2 := Lib.hid hk
      have HQ2 := Lib.hid hq
      clear hk hq hcl hcp
      go_wp2_with fail
      (with_reducible refine HEX.out.mono ?_)
      rintro e w2 ⟨rfl, nn, rfl⟩
      have HEX2 := excN_le p q
      obtain ⟨x, hx⟩ : ∃ x, Hid (excN p q = x) := ⟨_, rfl⟩
      rw [hx.out] at HEX2 ⊢
      have hbw := below_drewN wr nn
      have HOW2 := Lib.hid (own_keep (w' := wr.drewN nn) HOW.out (fun _ _ => rfl))
      have HFR2 := Lib.hid (HFR.out.below hbw)
      have hsw : w.heap.size ≤ (wr.drewN nn).heap.size := HFR2.out.only.size
      generalize wr.drewN nn = w2 at HOW2 HFR2 hsw ⊢
      clear HOW HFR HEX hbw
      by_cases ho : p.over q
      · rw [decide_eq_true ho]
        have HO := Lib.hid ho
        clear ho
        go_wp2_with (with_reducible refine wpList_sliceI (o := ⟨some 34, .buildSlice 138 1 #[(0, .tmp 33)], _, _, _, _⟩) (by with_unfolding_all rfl) (.tmp 33) (by with_unfolding_all rfl) (k : Int) (by with_unfolding_all rfl) ?_)
        intro g34 w3 hg34 hb3 hB34
        have HOW3 := Lib.hid (own_keep HOW2.out (fun g hg => hb3.block g (HOW2.out.lt g hg).2))
        have HFR3 := Lib.hid (HFR2.out.below hb3)
        have hs3 := hb3.size
        have HNW := Lib.hid (blk_add hB34)
        have HBC : Hid (base ≤ w3.heap.size) := by
          have : base ≤ w3.heap.size := by have := HBS.out; omega
          exact this
        have hn1m : n1 ≤ 2000000 := by have := hn1.out; have := HOV.out.len; omega
        have HMX : Hid (n1 + 1 ≤ maxLen) := by
          have : n1 + 1 ≤ maxLen := by unfold maxLen; omega
          exact this
        have HBY : Hid ((n1 + 1) * 8 ≤ 140737488355328) := by
          have : (n1 + 1) * 8 ≤ 140737488355328 := by omega
          exact this
        clear HOW2 HFR2 hb3 hB34 hg34
        go_wp2_with (with_reducible refine wpList_appendL w3 (o := ⟨some 35, .call ⟨.builtin .append, #[.tmp 32, .tmp 34], #[138, 138]⟩, _, _, _, _⟩) (by with_unfolding_all rfl) (.tmp 32) (.tmp 34) 138 (by with_unfolding_all rfl) base 3 i0 (.int .i64 0) 1 8 Tryd.underlying138 HI.out HZ0.out HZ1.out HZ2.out rfl (by decide) (.slice A' n1 c') n1 Y (by with_unfolding_all rfl) HOW3.out ⟨g34, 0, none⟩ 1 1 [.int .i64 (k : Int)] (by with_unfolding_all rfl) rfl HNW.out (one_cell1 rfl) HMX.out HBY.out HBC.out ?_)
        intro v4 w4 hown4 hgr4 hor4 hlow4
        obtain ⟨A4, c4, rfl, _⟩ := own_shape hown4
        have HL4 : Hid (n + (K1 ++ [k]).length = n1 + 1) := by
          have : n + (K1 ++ [k]).length = n1 + 1 := by rw [List.length_append, List.length_singleton, ← hn1.out]; omega
          exact this
        have HOW4 : Hid (w4.ownsRow base 3 1 (.slice A4 (n1 + 1) c4) (n1 + 1) ((xs ++ (K1 ++ [k])).map nV)) := by
          have : w4.ownsRow base 3 1 (.slice A4 (n1 + 1) c4) (n1 + 1) ((xs ++ (K1 ++ [k])).map nV) := by
            rw [← List.append_assoc, List.map_append, hY.out]; exact hown4
          exact this
        have HOR4 : Hid ((Value.slice A4 (n1 + 1) c4).ownBlock = bn ∨ ∀ g, (Value.slice A4 (n1 + 1) c4).ownBlock = some g → w.heap.size ≤ g) := by
          have : (Value.slice A4 (n1 + 1) c4).ownBlock = bn ∨ ∀ g, (Value.slice A4 (n1 + 1) c4).ownBlock = some g → w.heap.size ≤ g := by
            rcases hor4 with h | h
            · rw [h]; exact HOR.out
            · exact .inr fun g hg => by have := h g hg; omega
          exact this
        have HFR4 : Hid (Fr bn n w w4) := by
          have : Fr bn n w w4 := HFR3.out.step (m := n1) hgr4 (by rw [← hn1.out]; omega) (fun g hg j hj => by
            have hxl : j < Y.length := by rw [HOW3.out.1]; omega
            refine ⟨_, List.getElem?_eq_getElem hxl, ?_⟩
            obtain ⟨g', hg'⟩ : ∃ g', A' = some ⟨g', 0, none⟩ ∧ g' = g := by
              obtain ⟨_, _, hv, hsh⟩ := own_shape HOW3.out
              cases hv
              rcases hsh with ⟨rfl, _⟩ | ⟨g', rfl, _⟩
              · cases hg
              · exact ⟨g', rfl, by simpa [Value.ownBlock] using hg⟩
            obtain ⟨rfl, rfl⟩ := hg'
            have := HOW3.out.cells (g := g') rfl j _ (List.getElem?_eq_getElem hxl)
            rwa [addr_mid, Nat.zero_add] at this) hlow4 HOR.out (fun g hg => HBL.out g hg)
          exact this
        clear hgr4 hor4 hlow4 hown4 HOW3 HFR3 HOR HNW
        by_cases h0 : x = 0
        · subst h0
          have HR := Lib.hid (HOV.out.cover HK2.out HQ2.out HO.out hx.out)
          have HLE : Hid ((K1 ++ [k]).length ≤ m) := by
            have : (K1 ++ [k]).length ≤ m := by rw [List.length_append, List.length_singleton]; have := HOV.out.len; omega
            exact this
          have hf0 : (0 : Int) < f := by
            rcases HOV.out.best with ⟨_, _, h⟩ | ⟨_, _, _, _, _, _, h, _⟩ <;> omega
          go_wp2
          go_ret2
          exact ⟨A4, c4, K1 ++ [k], (k : Int), by rw [HL4.out]; rfl, by rw [HL4.out]; exact HOW4.out, by rw [HL4.out]; exact HOR4.out, HFR4.out, HR.out, HLE.out⟩
        · have hx1 : 1 ≤ x := by omega
          have hxi : ¬ (x : Int) = 0 := by omega
          have hxb : ((x : Int) == 0) = false := beq_eq_false_iff_ne.2 hxi
          by_cases hcmp : (x : Int) < f
          · have HN := Lib.hid (HOV.out.take (b' := (k : Int)) (f' := (excN p q : Int)) HK2.out HQ2.out HO.out (by rw [hx.out]; exact hx1) (.inl ⟨rfl, rfl⟩))
            go_wp2
            go_roundw
            case rel => exact ⟨j + 1, K1 ++ [k], A4, c4, _, _, by rw [hm.out]; omega, by go_num, rfl, by rw [← hx.out], by rw [HL4.out], by rw [HL4.out]; exact HOW4.out, by rw [HL4.out]; exact HOR4.out, HFR4.out, HN.out⟩
            case measure => simp [intOf]; omega
          · have HN := Lib.hid (HOV.out.take (b' := b) (f' := f) HK2.out HQ2.out HO.out (by rw [hx.out]; exact hx1) (.inr ⟨rfl, rfl, by rw [hx.out]; exact hcmp⟩))
            go_wp2
            go_roundw
            case rel => exact ⟨j + 1, K1 ++ [k], A4, c4, _, _, by rw [hm.out]; omega, by go_num, rfl, rfl, by rw [HL4.out], by rw [HL4.out]; exact HOW4.out, by rw [HL4.out]; exact HOR4.out, HFR4.out, HN.out⟩
            case measure => simp [intOf]; omega
      · rw [decide_eq_false ho]
        have HN := Lib.hid (HOV.out.skip HK2.out HQ2.out ho)
        clear ho
        go_wp2
        go_roundw
        case rel => exact ⟨j + 1, K1, A', c', _, _, by rw [hm.out]; omega, by go_num, rfl, rfl, by rw [hn1.out], by rw [hn1.out, hY.out]; exact HOW2.out, by rw [hn1.out]; exact HOR.out, HFR2.out, HN.out⟩
        case measure => simp [intOf]; omega
    · obtain rfl : j = m := by omega
      have HR := Lib.hid (HOV.out.all hm.out.symm)
      have HLE := Lib.hid (HOV.out.len)
      go_wp2
      go_ret2
      exact ⟨A', c', K1, b, by rw [hn1.out]; rfl, by rw [hn1.out, hY.out]; exact HOW.out, by rw [hn1.out]; exact HOR.out, HFR.out, HR.out, HLE.out⟩
end Go.Proofs.YtkkgfdfjgfigcaaDoor

/-
  Contract of the walk over the deferred function of seeker: the stack is cut to what it was; and how seek is left. Conditions: the stack lies there.
-/
namespace Go.Proofs.YtkkgfdfjgfigcaaDoor
set_option linter.unusedVariables false
set_option linter.unusedSimpArgs false
open Go.RowKit

theorem Tryd.szLi : (Tryd.prog.info? 138).map (·.size) = some 1 := by kernel_rfl
theorem Tryd.szBo : (Tryd.prog.info? 4).map (·.size) = some 1 := by kernel_rfl
set_option maxRecDepth 100000 in
set_option maxHeartbeats 1600000 in
theorem cut_any (nn base n m c gn g10 : Nat) (A : Option Addr) (xs : List Value) (u : FrameMode) (w : World) (hn : n ≤ m) (hown : w.ownsRow base 3 1 (.slice A m c) m xs) (hB : Blk w gn 138 [.slice A m c]) (h10 : Blk w g10 3 [.int .i64 (n : Int)]) :
    CallsDIn Fence.wide nn Tryd.prog 242 #[.pointer (some ⟨gn, 0, none⟩), .pointer (some ⟨g10, 0, none⟩)] u w fun e u' w' => u' = u ∧ (∃ v, e = .returned v) ∧ Blk w' gn 138 [.slice A n c] ∧ Upd gn w w' := by
  have c1 := hB.cell (k := 0) rfl
  have c2 := h10.cell (k := 0) rfl
  have hmc : m ≤ c := by
    rcases hown.2 with ⟨hv, rfl⟩ | ⟨_, _, _, hv, _, _, h, _⟩
    · omega
    · cases hv; exact h
  have hni : (n : Int) ≤ (c : Int) := by omega
  have hnc : n ≤ c := by omega
  rcases own_shape hown with ⟨A', c', hv, hsh⟩
  cases hv
  refine callsDIn_of_wp (R := fun e w' => (∃ v, e = .returned v) ∧ Blk w' gn 138 [.slice A n c] ∧ Upd gn w w') Tryd.func242 rfl trivial (wpIn_wide.2 ?_) rfl
  simp only [Tryd.ntmps242, List.size_toArray, List.length_cons, List.length_nil, Nat.reduceAdd, Nat.reduceSub, Array.replicate_succ, Array.replicate_zero, List.push_toArray, List.append_toArray, List.nil_append, List.cons_append]
  rcases hsh with ⟨rfl, rfl, rfl⟩ | ⟨g, rfl, _⟩
  · obtain rfl : n = 0 := by omega
    clear hown hmc
    go_wp2_with (with_reducible refine wpList_put (o := ⟨none, .store 138 (.tmp 0) (.tmp 4), _, _, _, _⟩) (by with_unfolding_all rfl) 138 (.tmp 0) (.tmp 4) (by with_unfolding_all rfl) gn 0 (by with_unfolding_all rfl) (.slice none 0 0) (by with_unfolding_all rfl) hB [(.slice none 0 0)] (by with_unfolding_all rfl) (by with_unfolding_all exact Tryd.szLi) (by with_unfolding_all simp) (by with_unfolding_all exact one_cell1 rfl) ?_)
    intro w1 hu1 hB1
    have hB1' : Blk w1 gn 138 [.slice none 0 0] := hB1
    go_wp2
    exact bodyPost_end (results_none rfl _ _ _) rfl ⟨⟨_, rfl⟩, hB1', hu1⟩
  · clear hown hmc
    go_wp2_with (with_reducible refine wpList_put (o := ⟨none, .store 138 (.tmp 0) (.tmp 4), _, _, _, _⟩) (by with_unfolding_all rfl) 138 (.tmp 0) (.tmp 4) (by with_unfolding_all rfl) gn 0 (by with_unfolding_all rfl) (.slice (some ⟨g, 0, none⟩) n c) (by with_unfolding_all rfl) hB [(.slice (some ⟨g, 0, none⟩) n c)] (by with_unfolding_all rfl) (by with_unfolding_all exact Tryd.szLi) (by with_unfolding_all simp) (by with_unfolding_all exact one_cell1 rfl) ?_)
    intro w1 hu1 hB1
    have hB1' : Blk w1 gn 138 [.slice (some ⟨g, 0, none⟩) n c] := hB1
    go_wp2
    exact bodyPost_end (results_none rfl _ _ _) rfl ⟨⟨_, rfl⟩, hB1', hu1⟩
def cutD (gn g10 : Nat) : Deferred := { target := .fn (.func 242) #[.pointer (some ⟨gn, 0, none⟩), .pointer (some ⟨g10, 0, none⟩)], args := #[] }
theorem cut_leaves {nn base n m c gn g10 : Nat} {A : Option Addr} {xs : List Value} {fn : Func} {tmps : Array Value} {R : Ending → World → Prop} {w : World} (hn : n ≤ m) (hown : w.ownsRow base 3 1 (.slice A m c) m xs) (hB : Blk w gn 138 [.slice A m c]) (h10 : Blk w g10 3 [.int .i64 (n : Int)])
    (h : ∀ w', Blk w' gn 138 [.slice A n c] → Upd gn w w' → ∃ v, (results fn tmps).run Tryd.prog w' = .ok v w' ∧ R (.returned v) w') : LeavesInM Fence.wide nn Tryd.prog fn tmps R [cutD gn g10] .returning w := by
  refine ⟨by simp, .inr ⟨fun h => (by cases h), _, _, 242, _, rfl, ?_, fun _ _ => trivial, (cut_any (nn - 1) base n m c gn g10 A xs .returning w hn hown hB h10).mono ?_⟩⟩
  · exact ((by simp [cutD, invoke, go_sem, enters_of Tryd.func242 (by kernel_rfl) rfl]) : (invoke (cutD gn g10).target (cutD gn g10).args).run Tryd.prog w = .ok (.enter 242 #[.pointer (some ⟨gn, 0, none⟩), .pointer (some ⟨g10, 0, none⟩)]) w)
  · rintro e u' w' ⟨rfl, ⟨v, rfl⟩, hB', hu⟩
    exact h w' hB' hu
theorem cut_ret {nn base n m c gn g10 : Nat} {A : Option Addr} {xs : List Value} {fn : Func} {tmps : Array Value} {R : Ending → World → Prop} {w : World} (hn : n ≤ m) (hown : w.ownsRow base 3 1 (.slice A m c) m xs) (hB : Blk w gn 138 [.slice A m c]) (h10 : Blk w g10 3 [.int .i64 (n : Int)])
    (h : ∀ w', Blk w' gn 138 [.slice A n c] → Upd gn w w' → ∃ v, (results fn tmps).run Tryd.prog w' = .ok v w' ∧ R (.returned v) w') : NoPanic (bodyPostM Fence.wide nn Tryd.prog fn R) .ret { tmps := tmps, defers := [cutD gn g10] } w :=
  cut_leaves hn hown hB h10 h
theorem cut_ret2 {nn base n m c gn g10 D : Nat} {A : Option Addr} {xs : List Value} {fn : Func} {tmps : Array Value} {R : Ending → World → Prop} {w : World} (hD : w.heap[D]? = some (.deferred (some []))) (hDg : (Value.slice A m c).ownBlock ≠ some D) (hDn : gn ≠ D) (hD10 : g10 ≠ D) (hn : n ≤ m) (hown : w.ownsRow base 3 1 (.slice A m c) m xs) (hB : Blk w gn 138 [.slice A m c]) (h10 : Blk w g10 3 [.int .i64 (n : Int)])
    (h : ∀ w', Blk w' gn 138 [.slice A n c] → Upd gn (w.putObj D (.deferred none)) w' → ∃ v, (results fn tmps).run Tryd.prog w' = .ok v w' ∧ R (.returned v) w') : NoPanic (bodyPostM Fence.wide nn Tryd.prog fn R) .ret { tmps := tmps, defers := [{ target := .collected D, args := #[] }, cutD gn g10] } w := by
  have ho : ∀ g, g ≠ D → (w.putObj D (.deferred none)).heap[g]? = w.heap[g]? := fun g hg => World.putObj_heap_other hg
  exact ⟨by simp, .inl ⟨_, _, rfl, run_takeDeferred hD, cut_leaves hn (own_keep hown (fun g hg => ho g (fun e => hDg (e ▸ hg)))) (blk_back hB (ho gn hDn).symm) (blk_back h10 (ho g10 hD10).symm) h⟩⟩
theorem results_seek {fn : Func} {g7 g8 g9 : Nat} {p : Pat} {f : Nat → Bool} {b : Bool} (h : fn.results = #[.cell 7 25, .cell 8 23, .cell 9 4]) (tmps : Array Value) (w : World) (h7 : tmps.getD 7 undef = .pointer (some ⟨g7, 0, none⟩)) (h8 : tmps.getD 8 undef = .pointer (some ⟨g8, 0, none⟩)) (h9 : tmps.getD 9 undef = .pointer (some ⟨g9, 0, none⟩))
    (hB7 : Blk w g7 25 p.cells) (hB8 : Blk w g8 23 (H f)) (hB9 : Blk w g9 4 [.bool b]) : (results fn tmps).run Tryd.prog w = .ok (.tuple #[.agg p.cells.toArray, .agg (H f).toArray, .bool b]) w := by
  have h7' : tmps[7]?.getD undef = .pointer (some ⟨g7, 0, none⟩) := by simpa using h7
  have h8' : tmps[8]?.getD undef = .pointer (some ⟨g8, 0, none⟩) := by simpa using h8
  have h9' : tmps[9]?.getD undef = .pointer (some ⟨g9, 0, none⟩) := by simpa using h9
  have e7 := run_loadVar_row (P := Tryd.prog) w g7 25 25 p.cells.toArray (0, 0) _ hB7 Tryd.underlying25 rfl (by rw [List.size_toArray, Pat.cells_length]; exact Tryd.szP)
  have e8 := run_loadVar_row (P := Tryd.prog) w g8 23 23 (H f).toArray (0, 0) _ hB8 Tryd.underlying23 rfl (by rw [List.size_toArray, H_length]; exact Tryd.szH)
  have hc := hB9.cell (k := 0) rfl
  have e9 : (loadVar 4 ⟨g9, 0, none⟩).run Tryd.prog w = .ok (.bool b) w := by simp [go_sem, hc]
  simp [results, h, h7', h8', h9', asAddr, e7, e8, e9]
end Go.Proofs.YtkkgfdfjgfigcaaDoor

/-
  What seek works on, and what it finds, in plain words. Conditions: none.
-/
namespace Go.Proofs.YtkkgfdfjgfigcaaDoor
set_option linter.unusedVariables false
set_option linter.unusedSimpArgs false
open Go.RowKit

theorem cnt_mono {f g : Nat → Bool} {b : Nat} : ∀ {k}, (∀ j, j < k → f (b + j) = true → g (b + j) = true) → cnt f b k ≤ cnt g b k
  | 0, _ => Nat.le_refl _
  | k + 1, h => by
    have h1 := cnt_mono (k := k) fun j hj => h j (by omega)
    have h2 := h k (by omega)
    unfold cnt
    cases hf : f (b + k) <;> cases hg : g (b + k)
    · simp; omega
    · simp; omega
    · rw [hf, hg] at h2; cases h2 rfl
    · simp; omega
theorem cnt_lt {f g : Nat → Bool} {b s : Nat} : ∀ {k}, (∀ j, j < k → f (b + j) = true → g (b + j) = true) → s < k → f (b + s) = false → g (b + s) = true → cnt f b k < cnt g b k
  | 0, _, h, _, _ => absurd h (by omega)
  | k + 1, h, hs, h1, h2 => by
    unfold cnt
    by_cases e : s = k
    · subst e
      have := cnt_mono (k := s) fun j hj => h j (by omega)
      rw [h1, h2]
      simp; omega
    · have h3 := cnt_lt (k := k) (fun j hj => h j (by omega)) (by omega) h1 h2
      have h4 := h k (by omega)
      cases hf : f (b + k) <;> cases hg : g (b + k)
      · simp; omega
      · simp; omega
      · rw [hf, hg] at h4; cases h4 rfl
      · simp; omega
/-- How many bits a pattern leaves free. -/
def freeN (p : Pat) : Nat := 160 - cnt p.m 0 160
theorem piece_free {p q : Pat} {s : Nat} (hs : s < 160) (ho : p.only q s = true) : freeN (p.piece q s) < freeN p := by
  have h1 := Pat.only_iff.1 ho
  have hlt : cnt p.m 0 160 < cnt (p.piece q s).m 0 160 := cnt_lt (s := s) (fun j _ hm => by
    rw [Nat.zero_add] at hm ⊢
    exact (Pat.piece_sub ho hm).1) hs (by rw [Nat.zero_add]; exact h1.2) (by rw [Nat.zero_add]; exact Pat.piece_ms p q s)
  have := cnt_le (p.piece q s).m 0 160
  unfold freeN
  omega
theorem exc_zero {p q : Pat} (h : excN p q = 0) (ho : p.over q) : ∀ s, s < 160 → p.only q s = false := by
  unfold excN at h
  rw [if_pos ho] at h
  intro s hs
  cases hf : p.only q s
  · rfl
  · have : cnt no 0 160 < cnt (p.only q) 0 160 := cnt_lt (s := s) (fun _ _ h => by cases h) hs rfl (by rw [Nat.zero_add]; exact hf)
    omega
/-- What seek finds. -/
def SeekR (l : List Pat) (p part : Pat) (R : Nat → Bool) (ok : Bool) : Prop := (ok = true ∧ Pat.clear l p part) ∨ (ok = false ∧ Pat.why l p R)
/-- What seek only reads. -/
structure SkEnv (gn gl gs : Nat) (Al : Option Addr) (cl : Nat) (l : List Pat) (w : World) : Prop where
  bl : Blk w gl 82 [.slice Al l.length cl]
  bs : Blk w gs 215 [.func (.func 241) #[] #[.pointer (some ⟨gn, 0, none⟩), .pointer (some ⟨gl, 0, none⟩), .pointer (some ⟨gs, 0, none⟩)]]
  pats : PatsAt w Al l
  nl : gn ≠ gl
  ns : gn ≠ gs
  na : ∀ g o, Al = some ⟨g, o, none⟩ → g ≠ gn
  nb : ∀ g o, Al = some ⟨g, o, none⟩ → g < w.heap.size
theorem PatsAt.onlyD {D : Nat → Prop} {w w' : World} {A : Option Addr} {l : List Pat} (h : PatsAt w A l) (hf : OnlyD D w w') (hs : ∀ g o, A = some ⟨g, o, none⟩ → ¬ D g) : PatsAt w' A l := fun k p hp => by
  obtain ⟨g, o, e, hc⟩ := h k p hp
  exact ⟨g, o, e, fun q u hu => by
    have h1 := hc q u hu
    rw [World.cell?_of_block (a := ⟨g, o + k * 20 + q, none⟩) (hf.block g (World.block_lt_of_cell? w _ h1) (hs g o e))]; exact h1⟩
theorem SkEnv.onlyD {gn gl gs cl : Nat} {Al : Option Addr} {l : List Pat} {D : Nat → Prop} {w w' : World} (h : SkEnv gn gl gs Al cl l w) (hf : OnlyD D w w') (h1 : ¬ D gl) (h2 : ¬ D gs) (h3 : ∀ g o, Al = some ⟨g, o, none⟩ → ¬ D g) : SkEnv gn gl gs Al cl l w' :=
  ⟨h.bl.onlyD hf h1, h.bs.onlyD hf h2, h.pats.onlyD hf h3, h.nl, h.ns, h.na, fun g o e => Nat.lt_of_lt_of_le (h.nb g o e) hf.size⟩
theorem SkEnv.next {gn gl gs cl : Nat} {Al : Option Addr} {l : List Pat} {w w' : World} (h : SkEnv gn gl gs Al cl l w) (hb : Below w.heap.size w w') : SkEnv gn gl gs Al cl l w' :=
  h.onlyD (OnlyD.of_below (D := fun _ => False) hb) (fun h => h) (fun h => h) (fun _ _ _ h => h)
/-- Seek's own variables. -/
structure Sk6 (B g5 g6 g7 g8 g9 g10 : Nat) (p : Pat) (v6 : Value) (p7 : Pat) (f8 : Nat → Bool) (b9 : Bool) (n : Nat) (W : World) : Prop where
  b5 : Blk W g5 25 p.cells
  b6 : Blk W g6 138 [v6]
  b7 : Blk W g7 25 p7.cells
  b8 : Blk W g8 23 (H f8)
  b9 : Blk W g9 4 [.bool b9]
  b10 : Blk W g10 3 [.int .i64 (n : Int)]
  lo : B ≤ g5 ∧ B ≤ g6 ∧ B ≤ g7 ∧ B ≤ g8 ∧ B ≤ g9 ∧ B ≤ g10
  ne : g5 < g6 ∧ g6 < g7 ∧ g7 < g8 ∧ g8 < g9 ∧ g9 < g10
section
variable {B g5 g6 g7 g8 g9 g10 : Nat} {p : Pat} {v6 : Value} {p7 : Pat} {f8 : Nat → Bool} {b9 : Bool} {n : Nat} {W W' : World}
theorem Sk6.onlyD {D : Nat → Prop} (h : Sk6 B g5 g6 g7 g8 g9 g10 p v6 p7 f8 b9 n W) (ho : OnlyD D W W') (hD : ∀ g, D g → g < B) : Sk6 B g5 g6 g7 g8 g9 g10 p v6 p7 f8 b9 n W' :=
  have l := h.lo
  ⟨h.b5.onlyD ho (fun h => by have := hD _ h; omega), h.b6.onlyD ho (fun h => by have := hD _ h; omega), h.b7.onlyD ho (fun h => by have := hD _ h; omega), h.b8.onlyD ho (fun h => by have := hD _ h; omega), h.b9.onlyD ho (fun h => by have := hD _ h; omega), h.b10.onlyD ho (fun h => by have := hD _ h; omega), h.lo, h.ne⟩
theorem Sk6.next (h : Sk6 B g5 g6 g7 g8 g9 g10 p v6 p7 f8 b9 n W) (hb : Below W.heap.size W W') : Sk6 B g5 g6 g7 g8 g9 g10 p v6 p7 f8 b9 n W' :=
  h.onlyD (OnlyD.of_below (D := fun _ => False) hb) (fun _ h => h.elim)
theorem Sk6.put6 (h : Sk6 B g5 g6 g7 g8 g9 g10 p v6 p7 f8 b9 n W) (hu : Upd g6 W W') {v : Value} (hB : Blk W' g6 138 [v]) : Sk6 B g5 g6 g7 g8 g9 g10 p v p7 f8 b9 n W' :=
  have l := h.ne
  ⟨h.b5.upd hu (by omega), hB, h.b7.upd hu (by omega), h.b8.upd hu (by omega), h.b9.upd hu (by omega), h.b10.upd hu (by omega), h.lo, h.ne⟩
theorem Sk6.put7 (h : Sk6 B g5 g6 g7 g8 g9 g10 p v6 p7 f8 b9 n W) (hu : Upd g7 W W') {q : Pat} (hB : Blk W' g7 25 q.cells) : Sk6 B g5 g6 g7 g8 g9 g10 p v6 q f8 b9 n W' :=
  have l := h.ne
  ⟨h.b5.upd hu (by omega), h.b6.upd hu (by omega), hB, h.b8.upd hu (by omega), h.b9.upd hu (by omega), h.b10.upd hu (by omega), h.lo, h.ne⟩
theorem Sk6.put8 (h : Sk6 B g5 g6 g7 g8 g9 g10 p v6 p7 f8 b9 n W) (hu : Upd g8 W W') {f : Nat → Bool} (hB : Blk W' g8 23 (H f)) : Sk6 B g5 g6 g7 g8 g9 g10 p v6 p7 f b9 n W' :=
  have l := h.ne
  ⟨h.b5.upd hu (by omega), h.b6.upd hu (by omega), h.b7.upd hu (by omega), hB, h.b9.upd hu (by omega), h.b10.upd hu (by omega), h.lo, h.ne⟩
theorem Sk6.put9 (h : Sk6 B g5 g6 g7 g8 g9 g10 p v6 p7 f8 b9 n W) (hu : Upd g9 W W') {b : Bool} (hB : Blk W' g9 4 [.bool b]) : Sk6 B g5 g6 g7 g8 g9 g10 p v6 p7 f8 b n W' :=
  have l := h.ne
  ⟨h.b5.upd hu (by omega), h.b6.upd hu (by omega), h.b7.upd hu (by omega), h.b8.upd hu (by omega), hB, h.b10.upd hu (by omega), h.lo, h.ne⟩
end
/-- The stack. -/
structure SkNear (base gn gl gs : Nat) (Al : Option Addr) (n : Nat) (A : Option Addr) (c : Nat) (xs : List Nat) (w : World) : Prop where
  bn : Blk w gn 138 [.slice A n c]
  own : w.ownsRow base 3 1 (.slice A n c) n (xs.map nV)
  apart : ∀ g, (Value.slice A n c).ownBlock = some g → g ≠ gn ∧ g ≠ gl ∧ g ≠ gs ∧ ∀ o, Al ≠ some ⟨g, o, none⟩
theorem SkNear.same {base gn gl gs n c : Nat} {Al A : Option Addr} {xs : List Nat} {w w' : World} (h : SkNear base gn gl gs Al n A c xs w) (h1 : w'.heap[gn]? = w.heap[gn]?) (h2 : ∀ g, (Value.slice A n c).ownBlock = some g → w'.heap[g]? = w.heap[g]?) : SkNear base gn gl gs Al n A c xs w' :=
  ⟨blk_back h.bn h1.symm, own_keep h.own h2, h.apart⟩
theorem SkNear.upd {base gn gl gs n c k : Nat} {Al A : Option Addr} {xs : List Nat} {w w' : World} (h : SkNear base gn gl gs Al n A c xs w) (hu : Upd k w w') (h1 : gn ≠ k) (h2 : ∀ g, (Value.slice A n c).ownBlock = some g → g ≠ k) : SkNear base gn gl gs Al n A c xs w' :=
  h.same (hu.block gn h1) (fun g hg => hu.block g (h2 g hg))
theorem SkNear.next {base gn gl gs n c : Nat} {Al A : Option Addr} {xs : List Nat} {w w' : World} (h : SkNear base gn gl gs Al n A c xs w) (hb : Below w.heap.size w w') : SkNear base gn gl gs Al n A c xs w' :=
  h.same (hb.block gn h.bn.lt) (fun g hg => hb.block g (h.own.lt g hg).2)
theorem SafeAt.next {w w' : World} {A : Option Addr} {K : List Nat} {bn : Option Nat} {n : Nat} (h : SafeAt w A K bn n) (hb : Below w.heap.size w w') : SafeAt w' A K bn n := fun j k hj => by
  obtain ⟨g, o, e, hc, hs⟩ := h j k hj
  exact ⟨g, o, e, by rw [hb.cell (World.block_lt_of_cell? w _ hc)]; exact hc, hs⟩
/-- Only the stack's variable and its row have turned, the row from its n-th cell on. -/
structure FrS (gn : Nat) (bn : Option Nat) (n : Nat) (w w' : World) : Prop where
  only : OnlyD (fun g => g = gn ∨ bn = some g) w w'
  low : ∀ g, bn = some g → ∀ j u, j < n → w.cell? ⟨g, j, none⟩ = some u → w'.cell? ⟨g, j, none⟩ = some u
theorem FrS.refl (gn : Nat) (bn : Option Nat) (n : Nat) (w : World) : FrS gn bn n w w := ⟨OnlyD.refl _ _, fun _ _ _ _ _ h => h⟩
theorem FrS.below {gn n : Nat} {bn : Option Nat} {w x y : World} (h : FrS gn bn n w x) (hb : Below x.heap.size x y) : FrS gn bn n w y :=
  ⟨h.only.trans (OnlyD.of_below hb), fun g e j u hj hc => by
    have := h.low g e j u hj hc
    rw [hb.cell (World.block_lt_of_cell? x _ this)]; exact this⟩
/-- A change of blocks that are new, or of the variable. -/
theorem FrS.turn {gn n : Nat} {bn : Option Nat} {w x y : World} {D : Nat → Prop} (h : FrS gn bn n w x) (ho : OnlyD D x y) (hD : ∀ g, D g → g = gn ∨ w.heap.size ≤ g) (hbn : ∀ g, bn = some g → g ≠ gn ∧ g < w.heap.size) : FrS gn bn n w y :=
  ⟨h.only.join ho (fun g hg => (hD g hg).imp .inl id), fun g e j u hj hc => by
    have h1 := h.low g e j u hj hc
    have h2 := hbn g e
    rw [World.cell?_of_block (a := ⟨g, j, none⟩) (ho.block g (World.block_lt_of_cell? x _ h1) (fun hd => by
      rcases hD g hd with h3 | h3
      · exact h2.1 h3
      · omega))]; exact h1⟩
/-- One change of the stack after another. -/
theorem FrS.join {gn n m : Nat} {bn b' : Option Nat} {w x y : World} (h : FrS gn bn n w x) (k : FrS gn b' m x y) (hnm : n ≤ m) (hb : b' = bn ∨ ∀ g, b' = some g → w.heap.size ≤ g) (hbn : ∀ g, bn = some g → g ≠ gn ∧ g < w.heap.size) : FrS gn bn n w y :=
  ⟨h.only.join k.only (fun g hg => by
    rcases hg with hg | hg
    · exact .inl (.inl hg)
    · rcases hb with e | e
      · exact .inl (.inr (e ▸ hg))
      · exact .inr (e g hg)), fun g e j u hj hc => by
    have h1 := h.low g e j u hj hc
    have h2 := hbn g e
    by_cases hbg : b' = some g
    · exact k.low g hbg j u (Nat.lt_of_lt_of_le hj hnm) h1
    · rw [World.cell?_of_block (a := ⟨g, j, none⟩) (k.only.block g (World.block_lt_of_cell? x _ h1) (fun hd => by
        rcases hd with h3 | h3
        · exact h2.1 h3
        · exact hbg h3))]; exact h1⟩
theorem FrS.of_fr {gn n : Nat} {bn : Option Nat} {w w' : World} (h : Fr bn n w w') : FrS gn bn n w w' := ⟨h.only.mono (fun _ hg => .inr hg), h.low⟩
theorem SafeAt.frS {gn n m : Nat} {bn b' : Option Nat} {w w' : World} {A : Option Addr} {K : List Nat} (h : SafeAt w A K bn n) (hf : FrS gn b' m w w') (hA : ∀ g o, A = some ⟨g, o, none⟩ → g ≠ gn) (hb : b' = bn) (hm : n ≤ m) : SafeAt w' A K bn n := fun j k hj => by
  obtain ⟨g, o, e, hc, hs⟩ := h j k hj
  refine ⟨g, o, e, ?_, hs⟩
  subst hb
  by_cases hbg : b' = some g
  · exact hf.low g hbg _ _ (Nat.lt_of_lt_of_le (hs hbg) hm) hc
  · rw [World.cell?_of_block (a := ⟨g, o + j, none⟩) (hf.only.block g (World.block_lt_of_cell? w _ hc) (fun hd => by
      rcases hd with h3 | h3
      · exact hA g o e h3
      · exact hbg h3))]; exact hc
theorem own_cut {w : World} {base n m c : Nat} {e : TypeId} {A : Option Addr} {xs : List Value} (h : w.ownsRow base e 1 (.slice A m c) m xs) (hn : n ≤ m) : w.ownsRow base e 1 (.slice A n c) n (xs.take n) := by
  have h1 := h.1
  refine ⟨by rw [List.length_take]; omega, ?_⟩
  rcases h.2 with ⟨hv, rfl⟩ | ⟨g, cap, cur, hv, h2, h3, h4, h5, h6, h7⟩
  · cases hv
    obtain rfl : n = 0 := by omega
    exact .inl ⟨rfl, rfl⟩
  · cases hv
    refine .inr ⟨g, c, cur, rfl, h2, h3, by omega, h5, h6, ?_⟩
    rw [← h7, List.take_take, Nat.mul_one, Nat.mul_one, Nat.min_eq_left hn]
theorem ownBlock_len (A : Option Addr) (n m c : Nat) : (Value.slice A n c).ownBlock = (Value.slice A m c).ownBlock := by cases A <;> rfl
def SeekPost (gn gl gs base n : Nat) (Al A : Option Addr) (c : Nat) (xs : List Nat) (l : List Pat) (p : Pat) (w : World) (e : Ending) (w' : World) : Prop :=
  ∃ (part : Pat) (R : Nat → Bool) (ok : Bool) (A' : Option Addr) (c' : Nat), e = .returned (.tuple #[.agg part.cells.toArray, .agg (H R).toArray, .bool ok]) ∧ SeekR l p part R ok ∧ SkNear base gn gl gs Al n A' c' xs w' ∧
    ((Value.slice A' n c').ownBlock = (Value.slice A n c).ownBlock ∨ ∀ g, (Value.slice A' n c').ownBlock = some g → w.heap.size ≤ g) ∧ FrS gn (Value.slice A n c).ownBlock n w w'
theorem seek_fin {gn gl gs base n n1 c c1 : Nat} {Al A A1 : Option Addr} {xs ys : List Nat} {l : List Pat} {p part : Pat} {R : Nat → Bool} {ok : Bool} {w W w' : World} (hbn : ∀ g, (Value.slice A n c).ownBlock = some g → g ≠ gn ∧ g < w.heap.size) (hfs : FrS gn (Value.slice A n c).ownBlock n w W) (hn : SkNear base gn gl gs Al n1 A1 c1 ys W) (hle : n ≤ n1) (hys : ys.take n = xs)
    (hor : (Value.slice A1 n1 c1).ownBlock = (Value.slice A n c).ownBlock ∨ ∀ g, (Value.slice A1 n1 c1).ownBlock = some g → w.heap.size ≤ g) (hsr : SeekR l p part R ok) (hB : Blk w' gn 138 [.slice A1 n c1]) (hu : Upd gn W w') :
    SeekPost gn gl gs base n Al A c xs l p w (.returned (.tuple #[.agg part.cells.toArray, .agg (H R).toArray, .bool ok])) w' := by
  have e := ownBlock_len A1 n n1 c1
  refine ⟨part, R, ok, A1, c1, rfl, hsr, ⟨hB, own_keep (by rw [← hys, List.map_take]; exact own_cut hn.own hle) (fun g hg => hu.block g (hn.apart g (e ▸ hg)).1), fun g hg => hn.apart g (e ▸ hg)⟩, ?_, hfs.turn (OnlyD.of_upd (D := fun g => g = gn) hu rfl) (fun g h => .inl h) hbn⟩
  rw [e]; exact hor
/-- All that seek holds, at one world. -/
structure SkAll (gn gl gs base cl n B7 : Nat) (Al : Option Addr) (l : List Pat) (bn : Option Nat) (w : World) (g5 g6 g7 g8 g9 g10 : Nat) (p : Pat) (v6 : Value) (p7 : Pat) (f8 : Nat → Bool) (b9 : Bool) (n1 : Nat) (A1 : Option Addr) (c1 : Nat) (ys : List Nat) (W : World) : Prop where
  env : SkEnv gn gl gs Al cl l W
  near : SkNear base gn gl gs Al n1 A1 c1 ys W
  sk : Sk6 w.heap.size g5 g6 g7 g8 g9 g10 p v6 p7 f8 b9 n W
  frs : FrS gn bn n w W
  nb : ∀ g, (Value.slice A1 n1 c1).ownBlock = some g → g < w.heap.size ∨ B7 ≤ g
  hB7 : g10 < B7
  hgn : gn < w.heap.size
  hgl : gl < w.heap.size
  hgs : gs < w.heap.size
  hal : ∀ g o, Al = some ⟨g, o, none⟩ → g < w.heap.size
  hbn : ∀ g, bn = some g → g ≠ gn ∧ g < w.heap.size
section
variable {gn gl gs base cl n B7 : Nat} {Al : Option Addr} {l : List Pat} {bn : Option Nat} {w : World} {g5 g6 g7 g8 g9 g10 : Nat} {p : Pat} {v6 : Value} {p7 : Pat} {f8 : Nat → Bool} {b9 : Bool} {n1 : Nat} {A1 : Option Addr} {c1 : Nat} {ys : List Nat} {W W' : World}
theorem SkAll.next (h : SkAll gn gl gs base cl n B7 Al l bn w g5 g6 g7 g8 g9 g10 p v6 p7 f8 b9 n1 A1 c1 ys W) (hb : Below W.heap.size W W') : SkAll gn gl gs base cl n B7 Al l bn w g5 g6 g7 g8 g9 g10 p v6 p7 f8 b9 n1 A1 c1 ys W' :=
  ⟨h.env.next hb, h.near.next hb, h.sk.next hb, h.frs.below hb, h.nb, h.hB7, h.hgn, h.hgl, h.hgs, h.hal, h.hbn⟩
theorem SkAll.core {k : Nat} {v6' : Value} {p7' : Pat} {f8' : Nat → Bool} {b9' : Bool} (h : SkAll gn gl gs base cl n B7 Al l bn w g5 g6 g7 g8 g9 g10 p v6 p7 f8 b9 n1 A1 c1 ys W) (hu : Upd k W W') (hk1 : g5 ≤ k) (hk2 : k ≤ g10) (hs : Sk6 w.heap.size g5 g6 g7 g8 g9 g10 p v6' p7' f8' b9' n W') : SkAll gn gl gs base cl n B7 Al l bn w g5 g6 g7 g8 g9 g10 p v6' p7' f8' b9' n1 A1 c1 ys W' :=
  have lo := h.sk.lo
  have a1 := h.hB7
  have a2 := h.hgn
  have a3 := h.hgl
  have a4 := h.hgs
  have ho : OnlyD (fun g => g = k) W W' := OnlyD.of_upd hu rfl
  ⟨h.env.onlyD ho (by omega) (by omega) (fun g o e => by have := h.hal g o e; omega), h.near.upd hu (by omega) (fun g hg => by have := h.nb g hg; omega), hs, h.frs.turn ho (fun g e => .inr (by omega)) h.hbn, h.nb, h.hB7, h.hgn, h.hgl, h.hgs, h.hal, h.hbn⟩
theorem SkAll.put6 (h : SkAll gn gl gs base cl n B7 Al l bn w g5 g6 g7 g8 g9 g10 p v6 p7 f8 b9 n1 A1 c1 ys W) (hu : Upd g6 W W') {v : Value} (hB : Blk W' g6 138 [v]) : SkAll gn gl gs base cl n B7 Al l bn w g5 g6 g7 g8 g9 g10 p v p7 f8 b9 n1 A1 c1 ys W' :=
  have := h.sk.ne
  h.core hu (by omega) (by omega) (h.sk.put6 hu hB)
theorem SkAll.put7 (h : SkAll gn gl gs base cl n B7 Al l bn w g5 g6 g7 g8 g9 g10 p v6 p7 f8 b9 n1 A1 c1 ys W) (hu : Upd g7 W W') {q : Pat} (hB : Blk W' g7 25 q.cells) : SkAll gn gl gs base cl n B7 Al l bn w g5 g6 g7 g8 g9 g10 p v6 q f8 b9 n1 A1 c1 ys W' :=
  have := h.sk.ne
  h.core hu (by omega) (by omega) (h.sk.put7 hu hB)
theorem SkAll.put8 (h : SkAll gn gl gs base cl n B7 Al l bn w g5 g6 g7 g8 g9 g10 p v6 p7 f8 b9 n1 A1 c1 ys W) (hu : Upd g8 W W') {f : Nat → Bool} (hB : Blk W' g8 23 (H f)) : SkAll gn gl gs base cl n B7 Al l bn w g5 g6 g7 g8 g9 g10 p v6 p7 f b9 n1 A1 c1 ys W' :=
  have := h.sk.ne
  h.core hu (by omega) (by omega) (h.sk.put8 hu hB)
theorem SkAll.put9 (h : SkAll gn gl gs base cl n B7 Al l bn w g5 g6 g7 g8 g9 g10 p v6 p7 f8 b9 n1 A1 c1 ys W) (hu : Upd g9 W W') {b : Bool} (hB : Blk W' g9 4 [.bool b]) : SkAll gn gl gs base cl n B7 Al l bn w g5 g6 g7 g8 g9 g10 p v6 p7 f8 b n1 A1 c1 ys W' :=
  have := h.sk.ne
  h.core hu (by omega) (by omega) (h.sk.put9 hu hB)
/-- New blocks, and those of a mark. -/
theorem SkAll.fresh {D : Nat → Prop} (h : SkAll gn gl gs base cl n B7 Al l bn w g5 g6 g7 g8 g9 g10 p v6 p7 f8 b9 n1 A1 c1 ys W) (ho : OnlyD D W W') (hD : ∀ g, D g → B7 ≤ g ∧ (Value.slice A1 n1 c1).ownBlock ≠ some g) : SkAll gn gl gs base cl n B7 Al l bn w g5 g6 g7 g8 g9 g10 p v6 p7 f8 b9 n1 A1 c1 ys W' :=
  have lo := h.sk.lo
  have ne := h.sk.ne
  have a1 := h.hB7
  have a2 := h.hgn
  have a3 := h.hgl
  have a4 := h.hgs
  have hn : SkNear base gn gl gs Al n1 A1 c1 ys W' := ⟨h.near.bn.onlyD ho (fun e => by have := hD _ e; omega), own_keep h.near.own (fun g hg => ho.block g (h.near.own.lt g hg).2 (fun e => (hD g e).2 hg)), h.near.apart⟩
  have hs : Sk6 w.heap.size g5 g6 g7 g8 g9 g10 p v6 p7 f8 b9 n W' := ⟨h.sk.b5.onlyD ho (fun e => by have := hD _ e; omega), h.sk.b6.onlyD ho (fun e => by have := hD _ e; omega), h.sk.b7.onlyD ho (fun e => by have := hD _ e; omega), h.sk.b8.onlyD ho (fun e => by have := hD _ e; omega), h.sk.b9.onlyD ho (fun e => by have := hD _ e; omega), h.sk.b10.onlyD ho (fun e => by have := hD _ e; omega), h.sk.lo, h.sk.ne⟩
  ⟨h.env.onlyD ho (fun e => by have := hD _ e; omega) (fun e => by have := hD _ e; omega) (fun g o ea e => by have := hD _ e; have := h.hal g o ea; omega), hn, hs, h.frs.turn ho (fun g e => .inr (by have := hD g e; omega)) h.hbn, h.nb, h.hB7, h.hgn, h.hgl, h.hgs, h.hal, h.hbn⟩
/-- What a call of seek itself makes of it. -/
theorem SkAll.call {A2 : Option Addr} {c2 : Nat} (h : SkAll gn gl gs base cl n B7 Al l bn w g5 g6 g7 g8 g9 g10 p v6 p7 f8 b9 n1 A1 c1 ys W) (hn : SkNear base gn gl gs Al n1 A2 c2 ys W') (hf : FrS gn (Value.slice A1 n1 c1).ownBlock n1 W W') (hle : n ≤ n1) (hB : B7 ≤ W.heap.size)
    (hor : (Value.slice A1 n1 c1).ownBlock = bn ∨ ∀ g, (Value.slice A1 n1 c1).ownBlock = some g → B7 ≤ g) (hor2 : (Value.slice A2 n1 c2).ownBlock = (Value.slice A1 n1 c1).ownBlock ∨ ∀ g, (Value.slice A2 n1 c2).ownBlock = some g → W.heap.size ≤ g) :
    SkAll gn gl gs base cl n B7 Al l bn w g5 g6 g7 g8 g9 g10 p v6 p7 f8 b9 n1 A2 c2 ys W' ∧ ((Value.slice A2 n1 c2).ownBlock = bn ∨ ∀ g, (Value.slice A2 n1 c2).ownBlock = some g → B7 ≤ g) := by
  have lo := h.sk.lo
  have ne := h.sk.ne
  have a1 := h.hB7
  have a2 := h.hgn
  have a3 := h.hgl
  have a4 := h.hgs
  have ho := hf.only
  have hD : ∀ k, w.heap.size ≤ k → k < B7 → ¬ (k = gn ∨ (Value.slice A1 n1 c1).ownBlock = some k) := fun k h1 h2 hc => by
    rcases hc with hc | hc
    · omega
    · have := h.nb k hc; omega
  have hor' : (Value.slice A2 n1 c2).ownBlock = bn ∨ ∀ g, (Value.slice A2 n1 c2).ownBlock = some g → B7 ≤ g := by
    rcases hor2 with e | e
    · rw [e]; exact hor
    · exact .inr fun g hg => by have := e g hg; omega
  refine ⟨⟨h.env.onlyD ho ?_ ?_ ?_, hn, ⟨h.sk.b5.onlyD ho (hD _ (by omega) (by omega)), h.sk.b6.onlyD ho (hD _ (by omega) (by omega)), h.sk.b7.onlyD ho (hD _ (by omega) (by omega)), h.sk.b8.onlyD ho (hD _ (by omega) (by omega)), h.sk.b9.onlyD ho (hD _ (by omega) (by omega)), h.sk.b10.onlyD ho (hD _ (by omega) (by omega)), h.sk.lo, h.sk.ne⟩, ?_, ?_, h.hB7, h.hgn, h.hgl, h.hgs, h.hal, h.hbn⟩, hor'⟩
  · rintro (e | e)
    · exact h.env.nl e.symm
    · exact (h.near.apart _ e).2.1 rfl
  · rintro (e | e)
    · exact h.env.ns e.symm
    · exact (h.near.apart _ e).2.2.1 rfl
  · rintro g o ea (e | e)
    · exact h.env.na g o ea e
    · exact (h.near.apart _ e).2.2.2 o ea
  · refine h.frs.join hf hle ?_ h.hbn
    rcases hor with e | e
    · exact .inl e
    · exact .inr fun g hg => by have := e g hg; omega
  · intro g hg
    rcases hor' with e | e
    · exact .inl (h.hbn g (by rw [← e]; exact hg)).2
    · exact .inr (e g hg)
end
/-- What belongs to the body of seek's range. -/
def SkD (gn g7 g8 g9 : Nat) (W : World) (g : Nat) : Prop := g = gn ∨ g = g7 ∨ g = g8 ∨ g = g9 ∨ ∃ v, Blk W gn 138 [v] ∧ v.ownBlock = some g
theorem skD_stays {gn g7 g8 g9 B : Nat} (h2 : gn < B) : StaysD (SkD gn g7 g8 g9) B := fun W W' _ hk g => by
  have e := hk.below.block gn h2
  constructor
  · rintro (h | h | h | h | ⟨v, h, hv⟩)
    · exact .inl h
    · exact .inr (.inl h)
    · exact .inr (.inr (.inl h))
    · exact .inr (.inr (.inr (.inl h)))
    · exact .inr (.inr (.inr (.inr ⟨v, blk_back h e, hv⟩)))
  · rintro (h | h | h | h | ⟨v, h, hv⟩)
    · exact .inl h
    · exact .inr (.inl h)
    · exact .inr (.inr (.inl h))
    · exact .inr (.inr (.inr (.inl h)))
    · exact .inr (.inr (.inr (.inr ⟨v, blk_back h e.symm, hv⟩)))
theorem OnlyD.of_keeps {D : World → Nat → Prop} {B : Nat} {W W' : World} (hk : Keeps D B W W') : OnlyD (fun g => B ≤ g ∧ ¬ D W g) W W' :=
  ⟨hk.below.os, hk.below.tape, hk.below.output, hk.below.size, fun k hk1 hn => by
    by_cases h : k < B
    · exact hk.below.block k h
    · by_cases hd : D W k
      · exact hk.kept k hd
      · exact absurd ⟨by omega, hd⟩ hn⟩
section
variable {gn gl gs base cl n B7 : Nat} {Al : Option Addr} {l : List Pat} {bn : Option Nat} {w : World} {g5 g6 g7 g8 g9 g10 : Nat} {p : Pat} {v6 : Value} {p7 : Pat} {f8 : Nat → Bool} {b9 : Bool} {n1 : Nat} {A1 : Option Addr} {c1 : Nat} {ys : List Nat} {W W' : World}
theorem SkAll.keeps {B : Nat} (h : SkAll gn gl gs base cl n B7 Al l bn w g5 g6 g7 g8 g9 g10 p v6 p7 f8 b9 n1 A1 c1 ys W) (hk : Keeps (SkD gn g7 g8 g9) B W W') (hB : B7 ≤ B) : SkAll gn gl gs base cl n B7 Al l bn w g5 g6 g7 g8 g9 g10 p v6 p7 f8 b9 n1 A1 c1 ys W' :=
  h.fresh (OnlyD.of_keeps hk) (fun g hg => ⟨Nat.le_trans hB hg.1, fun e => hg.2 (.inr (.inr (.inr (.inr ⟨_, h.near.bn, e⟩))))⟩)
theorem SkAll.real (h : SkAll gn gl gs base cl n B7 Al l bn w g5 g6 g7 g8 g9 g10 p v6 p7 f8 b9 n1 A1 c1 ys W) : Real (SkD gn g7 g8 g9) W := by
  rintro g (e | e | e | e | ⟨v, hv, e⟩)
  · rw [e]; exact h.near.bn.lt
  · rw [e]; exact h.sk.b7.lt
  · rw [e]; exact h.sk.b8.lt
  · rw [e]; exact h.sk.b9.lt
  · rw [blk_inj hv h.near.bn] at e
    exact (h.near.own.lt g e).2
/-- A change of what belongs to the body, so that the stack stays in its row or moves to a new one. -/
theorem SkAll.turns {v6' : Value} {p7' : Pat} {f8' : Nat → Bool} {b9' : Bool} {A2 : Option Addr} {c2 : Nat} (h : SkAll gn gl gs base cl n B7 Al l bn w g5 g6 g7 g8 g9 g10 p v6 p7 f8 b9 n1 A1 c1 ys W) (h' : SkAll gn gl gs base cl n B7 Al l bn w g5 g6 g7 g8 g9 g10 p v6' p7' f8' b9' n1 A2 c2 ys W')
    (ho : OnlyD (SkD gn g7 g8 g9 W) W W') (hor : (Value.slice A2 n1 c2).ownBlock = (Value.slice A1 n1 c1).ownBlock ∨ ∀ g, (Value.slice A2 n1 c2).ownBlock = some g → W.heap.size ≤ g) : Turns (SkD gn g7 g8 g9) W W' := by
  refine ⟨ho, ?_, h'.real⟩
  rintro g (e | e | e | e | ⟨v, hv, e⟩)
  · exact .inl (.inl e)
  · exact .inl (.inr (.inl e))
  · exact .inl (.inr (.inr (.inl e)))
  · exact .inl (.inr (.inr (.inr (.inl e))))
  · rw [blk_inj hv h'.near.bn] at e
    rcases hor with h1 | h1
    · exact .inl (.inr (.inr (.inr (.inr ⟨_, h.near.bn, h1 ▸ e⟩))))
    · exact .inr (h1 g e)
/-- Numbers behind the n-th of the stack's row. -/
def CellsK (gA n : Nat) (K1 : List Nat) (W : World) : Prop := ∀ (j k : Nat), K1[j]? = some k → W.cell? ⟨gA, n + j, none⟩ = some (.int .i64 (k : Int))
theorem CellsK.onlyD {gA : Nat} {K1 : List Nat} {D : Nat → Prop} (h : CellsK gA n K1 W) (ho : OnlyD D W W') (hD : ¬ D gA) : CellsK gA n K1 W' := fun j k hj => by
  have hc := h j k hj
  rw [World.cell?_of_block (a := ⟨gA, n + j, none⟩) (ho.block gA (World.block_lt_of_cell? W _ hc) hD)]; exact hc
theorem CellsK.frS {gA : Nat} {K1 : List Nat} {b' : Option Nat} (h : CellsK gA n K1 W) (hf : FrS gn b' n1 W W') (hn : gA ≠ gn) (hle : n + K1.length ≤ n1) : CellsK gA n K1 W' := fun j k hj => by
  have hc := h j k hj
  have hjl := (List.getElem?_eq_some_iff.1 hj).1
  by_cases e : b' = some gA
  · exact hf.low gA e _ _ (by omega) hc
  · rw [World.cell?_of_block (a := ⟨gA, n + j, none⟩) (hf.only.block gA (World.block_lt_of_cell? W _ hc) (fun hd => by
      rcases hd with hd | hd
      · exact hn hd
      · exact e hd))]; exact hc
theorem CellsK.safe {gA : Nat} {K1 : List Nat} {b' : Option Nat} (h : CellsK gA n K1 W) (hle : n + K1.length ≤ n1) : SafeAt W (some ⟨gA, n, none⟩) K1 b' n1 := fun j k hj => ⟨gA, n, rfl, h j k hj, fun _ => by
  have hjl := (List.getElem?_eq_some_iff.1 hj).1
  omega⟩
end
theorem piece_over {p q r : Pat} {s : Nat} (ho : p.only q s = true) (h : (p.piece q s).over r) : p.over r := by
  rw [Pat.over_iff] at h ⊢
  intro i hi h1 h2
  have h3 := Pat.piece_sub ho h2
  exact h3.2.symm.trans (h i hi h1 h3.1)
theorem pat_at {w : World} {g o k : Nat} {l : List Pat} {q : Pat} (h : PatsAt w (some ⟨g, o, none⟩) l) (hq : l[k]? = some q) : w.rangeAt g (o + k * 20) q.cells := by
  obtain ⟨g', o', e, hc⟩ := h k q hq
  cases e
  exact hc
theorem piece_mem {p q x : Pat} {pre : List Pat} (h : pre ++ [x] <+: p.pieces q) : ∃ s, s < 160 ∧ p.only q s = true ∧ x = p.piece q s := by
  have hm : x ∈ p.pieces q := h.subset (List.mem_append_right _ (List.mem_singleton.2 rfl))
  unfold Pat.pieces onesTo at hm
  obtain ⟨s, hs, rfl⟩ := List.mem_map.1 hm
  have := List.mem_filter.1 hs
  exact ⟨s, List.mem_range.1 this.1, this.2, rfl⟩
end Go.Proofs.YtkkgfdfjgfigcaaDoor

/-
  Contract of the walk over seek, which calls itself. Conditions: right patterns; the stack and the rows lie there; all elements that overlap the pattern are among the given.
-/
namespace Go.Proofs.YtkkgfdfjgfigcaaDoor
set_option linter.unusedVariables false
set_option linter.unusedSimpArgs false
open Go.RowKit

attribute [local go_sem] Oper.semAt_some
theorem Tryd.zeroBo : (Tryd.prog.info? 4).map (·.zero) = some (some (.bool false)) := by kernel_rfl
theorem Tryd.zeroIn : (Tryd.prog.info? 3).map (·.zero) = some (some (.int .i64 0)) := by kernel_rfl
theorem run_buildH0 (w : World) : (Instr.build 23 #[]).run Tryd.prog w = .ok (.agg (H no).toArray) w := by kernel_rfl
theorem wpListIn_build {F : Fence} {n : Nat} {P : Program} {ops : Array Oper} {rest : List Oper} {o : Oper} {a : Act} {w : World} {Q : Exit → Act → World → Prop} (hgd : o.guard = none) (ty : TypeId) (ps : Array (Nat × Operand)) (ho : o.op = .build ty ps)
    (vs : Array (Nat × Value)) (hx : (ps.map fun p => (p.1, a.eval p.2)) = vs) (v : Value) (hr : ∀ w : World, (Instr.build ty vs).run P w = .ok v w) (h : wpListIn F n P ops Q rest (a.put o.dst v) w) : wpListIn F n P ops Q (o :: rest) a w := by
  refine wpListIn_plain hgd fun K hK => ?_
  unfold Oper.wpIn
  refine ⟨fun f hf => ?_, ?_⟩
  · simp [Oper.about, ho] at hf
  · have hne : ∀ c, o.op ≠ .defer c := fun c h => by rw [ho] at h; cases h
    rw [Oper.semAt_eq _ _ _ hne]
    unfold execOp
    simp only [ho]
    rw [show (ps.map fun x => (x.1, a.eval x.2)) = vs from hx]
    simp [hr]
    exact hK _ _ h
theorem range_m {w : World} {g o : Nat} {p : Pat} (h : w.rangeAt g o p.cells) : w.rangeAt g o (H p.m) := fun j v hv => h j v (by unfold Pat.cells; rw [List.getElem?_append_left (List.getElem?_eq_some_iff.1 hv).1]; exact hv)
set_option maxRecDepth 100000 in
set_option maxHeartbeats 3200000 in
theorem seek_any (gn gl gs base cl : Nat) (Al : Option Addr) (l : List Pat) (hok : ∀ q, q ∈ l → q.ok) (hll : l.length ≤ 1000000) : ∀ (fuel : Nat) (p : Pat) (K : List Nat) (Ak A : Option Addr) (ck n c : Nat) (xs : List Nat) (w : World), freeN p < fuel → p.ok → base ≤ w.heap.size → n + fuel * K.length ≤ 1000000 → K.length ≤ 1000000 →
    SkEnv gn gl gs Al cl l w → SkNear base gn gl gs Al n A c xs w → SafeAt w Ak K (Value.slice A n c).ownBlock n → (∀ g o, Ak = some ⟨g, o, none⟩ → g ≠ gn) → (∀ k, k ∈ K → k < l.length) → (∀ k q, l[k]? = some q → p.over q → k ∈ K) →
    Calls Tryd.prog 241 #[.agg p.cells.toArray, .slice Ak K.length ck, .pointer (some ⟨gn, 0, none⟩), .pointer (some ⟨gl, 0, none⟩), .pointer (some ⟨gs, 0, none⟩)] w (SeekPost gn gl gs base n Al A c xs l p w) := by
  intro fuel
  induction fuel with
  | zero => intro p _ _ _ _ _ _ _ _ h; exact absurd h (Nat.not_lt_zero _)
  | succ fuel ih =>
  intro p K Ak A ck n c xs w hfree hp hbase hbound hKl henv hnear hsafe hAkn hKb hcov
  have IH := Lib.hid ih
  have HOK := Lib.hid hok
  have HCOV := Lib.hid hcov
  have HKB := Lib.hid hKb
  have HP := Lib.hid hp
  have HFREE := Lib.hid hfree
  have HAKN := Lib.hid hAkn
  have HBASE := Lib.hid hbase
  have HBND := Lib.hid hbound
  have HLL := Lib.hid hll
  obtain ⟨m, hm⟩ : ∃ m, Hid (K.length = m) := ⟨_, rfl⟩
  obtain ⟨bn, hbn⟩ : ∃ bn, Hid ((Value.slice A n c).ownBlock = bn) := ⟨_, rfl⟩
  have HBN : Hid (∀ g, bn = some g → g ≠ gn ∧ g < w.heap.size) := by
    have : ∀ g, bn = some g → g ≠ gn ∧ g < w.heap.size := fun g hg => by
      rw [← hbn.out] at hg
      exact ⟨(hnear.apart g hg).1, (hnear.own.lt g hg).2⟩
    exact this
  rw [hm.out] at hKl ⊢
  have HKL := Lib.hid hKl
  have HE0 := Lib.hid henv
  have HN0 := Lib.hid hnear
  have HS0 := Lib.hid hsafe
  clear ih hok hcov hKb hp hfree hAkn hbase hbound hll hKl henv hnear hsafe
  refine callsIn_wide.1 (callsIn_of_wp_marks (n := 5) Tryd.func241 rfl trivial (wpIn_wide.2 (wp_calm ?_)) rfl)
  simp only [Tryd.ntmps241, List.size_toArray, List.length_cons, List.length_nil, Nat.reduceAdd, Nat.reduceSub, Array.replicate_succ, Array.replicate_zero, List.push_toArray, List.append_toArray, List.nil_append, List.cons_append]
  go_wp2_with (with_reducible refine wpList_box (o := ⟨some 5, .box 25 (.tmp 0), _, _, _, _⟩) ?g1 25 (.tmp 0) ?o1 (.agg p.cells.toArray) p.cells ?x1 ?c1 ?_)
  try (case g1 => rfl)
  try (case o1 => rfl)
  try (case x1 => rfl)
  try (case c1 => rfl)
  intro g5 w1 hg5 hs1 hb1 hB5
  have hl5 : w.heap.size ≤ g5 := Nat.le_of_eq hg5.out.symm
  have hb1' : Below w.heap.size w w1 := hb1.mono hl5
  clear hb1 hs1 hg5
  go_wp2_with (with_reducible refine wpList_box (o := ⟨some 6, .box 138 (.tmp 1), _, _, _, _⟩) ?g2 138 (.tmp 1) ?o2 (.slice Ak m ck) [.slice Ak m ck] ?x2 ?c2 ?_)
  try (case g2 => rfl)
  try (case o2 => rfl)
  try (case x2 => rfl)
  try (case c2 => rfl)
  intro g6 w2 hg6 hs2 hb2 hB6
  have hb2' : Below w1.heap.size w1 w2 := hb2.mono (Nat.le_of_eq hg6.out.symm)
  have hn6 : g5 < g6 := by have := hB5.lt; have := hg6.out; omega
  have hB5 := hB5.next hb2' hB5.lt
  have hb2'' := below_join hb1' hb2'
  clear hb1' hb2 hb2' hs2 hg6
  go_wp2_with (with_reducible refine wpList_alloc (o := ⟨some 7, .alloc 25, _, _, _, _⟩) (by with_unfolding_all rfl) 25 (by with_unfolding_all rfl) (.agg (H no ++ H no).toArray) (H no ++ H no) (by exact Tryd.zeroPt) (by with_unfolding_all rfl) ?_)
  intro g7 w3 hg7 hs3 hb3 hB7
  rw [cells_zero] at hB7
  have hb3' : Below w2.heap.size w2 w3 := hb3.mono (Nat.le_of_eq hg7.out.symm)
  have hn7 : g6 < g7 := by have := hB6.lt; have := hg7.out; omega
  have hB5 := hB5.next hb3' hB5.lt
  have hB6 := hB6.next hb3' hB6.lt
  have hb3'' := below_join hb2'' hb3'
  clear hb2'' hb3 hb3' hs3 hg7
  go_wp2_with (with_reducible refine wpList_alloc (o := ⟨some 8, .alloc 23, _, _, _, _⟩) (by with_unfolding_all rfl) 23 (by with_unfolding_all rfl) (.agg (H no).toArray) (H no) (by exact Tryd.zeroH) (by with_unfolding_all rfl) ?_)
  intro g8 w4 hg8 hs4 hb4 hB8
  have hb4' : Below w3.heap.size w3 w4 := hb4.mono (Nat.le_of_eq hg8.out.symm)
  have hn8 : g7 < g8 := by have := hB7.lt; have := hg8.out; omega
  have hB5 := hB5.next hb4' hB5.lt
  have hB6 := hB6.next hb4' hB6.lt
  have hB7 := hB7.next hb4' hB7.lt
  have hb4'' := below_join hb3'' hb4'
  clear hb3'' hb4 hb4' hs4 hg8
  go_wp2_with (with_reducible refine wpList_alloc (o := ⟨some 9, .alloc 4, _, _, _, _⟩) (by with_unfolding_all rfl) 4 (by with_unfolding_all rfl) (.bool false) [.bool false] (by exact Tryd.zeroBo) (by with_unfolding_all rfl) ?_)
  intro g9 w5 hg9 hs5 hb5 hB9
  have hb5' : Below w4.heap.size w4 w5 := hb5.mono (Nat.le_of_eq hg9.out.symm)
  have hn9 : g8 < g9 := by have := hB8.lt; have := hg9.out; omega
  have hB5 := hB5.next hb5' hB5.lt
  have hB6 := hB6.next hb5' hB6.lt
  have hB7 := hB7.next hb5' hB7.lt
  have hB8 := hB8.next hb5' hB8.lt
  have hb5'' := below_join hb4'' hb5'
  clear hb4'' hb5 hb5' hs5 hg9
  have HNear := Lib.hid (HN0.out.next hb5'')
  have cn := HNear.out.bn.cell (k := 0) rfl
  go_wp2_with (with_reducible refine wpList_alloc (o := ⟨some 10, .alloc 3, _, _, _, _⟩) (by with_unfolding_all rfl) 3 (by with_unfolding_all rfl) (.int .i64 0) [.int .i64 0] (by exact Tryd.zeroIn) (by with_unfolding_all rfl) ?_)
  intro g10 w6 hg10 hs6 hb6 hB10
  have hl10 : w.heap.size ≤ g10 := by rw [hg10.out]; exact hb5''.size
  have hb6' : Below w5.heap.size w5 w6 := hb6.mono (Nat.le_of_eq hg10.out.symm)
  have hn10 : g9 < g10 := by have := hB9.lt; have := hg10.out; omega
  have hB5 := hB5.next hb6' hB5.lt
  have hB6 := hB6.next hb6' hB6.lt
  have hB7 := hB7.next hb6' hB7.lt
  have hB8 := hB8.next hb6' hB8.lt
  have hB9 := hB9.next hb6' hB9.lt
  have hb6'' := below_join hb5'' hb6'
  clear hb5'' hb6 hb6' hs6 hg10 cn HNear
  go_wp2_with (with_reducible refine wpList_put (o := ⟨none, .store 3 (.tmp 10) (.tmp 17), _, _, _, _⟩) (by with_unfolding_all rfl) 3 (.tmp 10) (.tmp 17) (by with_unfolding_all rfl) g10 0 (by with_unfolding_all rfl) (.int .i64 (n : Int)) (by with_unfolding_all rfl) hB10 [(.int .i64 (n : Int))] (by with_unfolding_all rfl) (by with_unfolding_all exact Tryd.szI) (by with_unfolding_all simp) (by with_unfolding_all exact one_cell1 rfl) ?_)
  intro w7 hu7 hB10'
  have hB10 : Blk w7 g10 3 [.int .i64 (n : Int)] := hB10'
  have hb7 : Below w.heap.size w w7 := hb6''.trans (hu7.below (B := w.heap.size) hl10)
  have HSK : Hid (Sk6 w.heap.size g5 g6 g7 g8 g9 g10 p (.slice Ak m ck) Pat.zero no false n w7) := by
    have : Sk6 w.heap.size g5 g6 g7 g8 g9 g10 p (.slice Ak m ck) Pat.zero no false n w7 := ⟨hB5.upd hu7 (by omega), hB6.upd hu7 (by omega), hB7.upd hu7 (by omega), hB8.upd hu7 (by omega), hB9.upd hu7 (by omega), hB10, by omega, by omega⟩
    exact this
  clear hb6'' hu7 hB10' hB10 hB5 hB6 hB7 hB8 hB9 hl5 hl10 hn6 hn7 hn8 hn9 hn10
  have HNear := Lib.hid (HN0.out.next hb7)
  have HEnv := Lib.hid (HE0.out.next hb7)
  have HSafe := Lib.hid (HS0.out.next hb7)
  have HFS := Lib.hid ((FrS.refl gn bn n w).below hb7)
  have cn := HNear.out.bn.cell (k := 0) rfl
  have cl' := HEnv.out.bl.cell (k := 0) rfl
  have ck' := HSK.out.b6.cell (k := 0) rfl
  have hgnl : gn < w.heap.size := HN0.out.bn.lt
  obtain ⟨B7, hB7⟩ : ∃ B7, Hid (w7.heap.size = B7) := ⟨_, rfl⟩
  have hg10B : g10 < B7 := by rw [← hB7.out]; exact HSK.out.b10.lt
  have hwB : w.heap.size ≤ B7 := by rw [← hB7.out]; exact hb7.size
  have hov := overlapping_any base n c g5 0 cl ck A Al Ak xs l K p w7 (by have := HBASE.out; have := hb7.size; omega) (by have := HBND.out; omega) (by rw [hm.out]; exact HKL.out) HLL.out HNear.out.own (blk_range HSK.out.b5) (by
    rw [hbn.out]
    intro e
    have := (HBN.out g5 e).2
    have := HSK.out.lo
    omega) HEnv.out.pats (fun g o e h => by
    have := (HNear.out.apart g h).2.2.2 o
    exact this e) HSafe.out HKB.out
  rw [hbn.out, hm.out] at hov
  have HOV := Lib.hid hov
  clear hov
  go_wp2_with fail
  (with_reducible refine HOV.out.mono ?_)
  rintro e w8 ⟨A1, c1, K1, b, rfl, hown8, hor8, hfr8, hovr, hK1l⟩
  obtain ⟨n1, hn1⟩ : ∃ n1, Hid (n + K1.length = n1) := ⟨_, rfl⟩
  rw [hn1.out] at hown8 hor8 ⊢
  have hBn8 : Blk w8 gn 138 [.slice A n c] := HNear.out.bn.onlyD hfr8.only (fun e => (HBN.out gn e).1 rfl)
  have HSK8 := Lib.hid (HSK.out.onlyD hfr8.only (fun g e => (HBN.out g e).2))
  have HEnv8 := Lib.hid (HEnv.out.onlyD hfr8.only (fun e => by have := HNear.out.apart gl (by rw [hbn.out]; exact e); exact this.2.1 rfl) (fun e => by have := HNear.out.apart gs (by rw [hbn.out]; exact e); exact this.2.2.1 rfl) (fun g o ea e => by have := HNear.out.apart g (by rw [hbn.out]; exact e); exact this.2.2.2 o ea))
  have hs7 := hb7.size
  have HFS8 := Lib.hid (HFS.out.join (FrS.of_fr hfr8) (Nat.le_refl _) (.inl rfl) HBN.out)
  have HOW8 := Lib.hid hown8
  have HOVR := Lib.hid hovr
  have HOR8 : Hid ((Value.slice A1 n1 c1).ownBlock = bn ∨ ∀ g, (Value.slice A1 n1 c1).ownBlock = some g → w.heap.size ≤ g) := by
    have : (Value.slice A1 n1 c1).ownBlock = bn ∨ ∀ g, (Value.slice A1 n1 c1).ownBlock = some g → w.heap.size ≤ g := by
      rcases hor8 with h | h
      · exact .inl h
      · exact .inr fun g hg => by have := h g hg; omega
    exact this
  have HOR7 : Hid ((Value.slice A1 n1 c1).ownBlock = bn ∨ ∀ g, (Value.slice A1 n1 c1).ownBlock = some g → B7 ≤ g) := by
    have : (Value.slice A1 n1 c1).ownBlock = bn ∨ ∀ g, (Value.slice A1 n1 c1).ownBlock = some g → B7 ≤ g := by
      rcases hor8 with h | h
      · exact .inl h
      · exact .inr fun g hg => by rw [← hB7.out]; exact h g hg
    exact this
  have hw8B : B7 ≤ w8.heap.size := by rw [← hB7.out]; exact hfr8.only.size
  have HNB : Hid (∀ g, (Value.slice A1 n1 c1).ownBlock = some g → g < w.heap.size ∨ B7 ≤ g) := by
    have : ∀ g, (Value.slice A1 n1 c1).ownBlock = some g → g < w.heap.size ∨ B7 ≤ g := fun g hg => by
      rcases hor8 with h | h
      · exact .inl (HBN.out g (by rw [← h]; exact hg)).2
      · rw [← hB7.out]; exact .inr (h g hg)
    exact this
  have HK1L := Lib.hid hK1l
  clear hown8 hor8 hfr8 hovr hK1l HNear HSafe HFS HEnv HSK cn cl' ck' HOV hs7
  go_wp2_with (with_reducible refine wpList_put (o := ⟨none, .store 138 (.tmp 2) (.tmp 24), _, _, _, _⟩) (by with_unfolding_all rfl) 138 (.tmp 2) (.tmp 24) (by with_unfolding_all rfl) gn 0 (by with_unfolding_all rfl) (.slice A1 n1 c1) (by with_unfolding_all rfl) hBn8 [(.slice A1 n1 c1)] (by with_unfolding_all rfl) (by with_unfolding_all exact Tryd.szLi) (by with_unfolding_all simp) (by with_unfolding_all exact one_cell1 rfl) ?_)
  intro w9 hu9 hBn9'
  have hap1 : ∀ g, (Value.slice A1 n1 c1).ownBlock = some g → g ≠ gn ∧ g ≠ gl ∧ g ≠ gs ∧ ∀ o, Al ≠ some ⟨g, o, none⟩ := fun g hg => by
    rcases HOR8.out with h | h
    · exact HN0.out.apart g (by rw [hbn.out, ← h]; exact hg)
    · have h1 := h g hg
      have h2 := HE0.out.bl.lt
      have h3 := HE0.out.bs.lt
      exact ⟨by omega, by omega, by omega, fun o e => by have := HE0.out.nb g o e; omega⟩
  have hoN : OnlyD (fun g => g = gn) w8 w9 := OnlyD.of_upd hu9 rfl
  have HSK := Lib.hid (HSK8.out.onlyD hoN (fun g e => by omega))
  have HEnv := Lib.hid (HEnv8.out.onlyD hoN (fun e => HE0.out.nl e.symm) (fun e => HE0.out.ns e.symm) (fun g o ea e => HE0.out.na g o ea e))
  have HFS := Lib.hid (HFS8.out.turn hoN (fun g e => .inl e) HBN.out)
  have HNear : Hid (SkNear base gn gl gs Al n1 A1 c1 (xs ++ K1) w9) := by
    have : SkNear base gn gl gs Al n1 A1 c1 (xs ++ K1) w9 := ⟨hBn9', own_keep HOW8.out (fun g hg => hu9.block g (hap1 g hg).1), hap1⟩
    exact this
  have hs9 : w.heap.size ≤ w9.heap.size := HFS.out.only.size
  have hB9 : B7 ≤ w9.heap.size := by rw [hu9.size]; exact hw8B
  clear hu9 hBn9' hap1 hoN HSK8 HEnv8 HFS8 HOW8 hBn8
  rcases HOVR.out.best with ⟨hK0, rfl, hnone⟩ | ⟨bq, q, rfl, hq, ho, hbK, hall⟩
  · have hn10 : n1 = n := by rw [← hn1.out, hK0]; rfl
    have HNONE := Lib.hid hnone
    subst hn10
    clear hK0 hnone
    have h5 := HSK.out.b5
    have h7 := HSK.out.b7
    have hlo := Lib.hid HSK.out.lo
    have hne := Lib.hid HSK.out.ne
    go_wp2_with (first | (with_reducible refine wpList_get (o := ⟨some 28, .load 25 (.tmp 5), _, _, _, _⟩) (by with_unfolding_all rfl) 25 (.tmp 5) (by with_unfolding_all rfl) g5 0 (by with_unfolding_all rfl) h5 p.cells (cs_all _) _ (by exact Tryd.underlying25) (by with_unfolding_all rfl) (by rw [Pat.cells_length]; exact Tryd.szP) ?_) | (with_reducible refine wpList_build (o := ⟨some 29, .build 23 #[], _, _, _, _⟩) (by with_unfolding_all rfl) 23 #[] (by with_unfolding_all rfl) #[] (by with_unfolding_all rfl) (.agg (H no).toArray) (by with_unfolding_all exact fun w => run_buildH0 w) ?_) | (with_reducible refine wpList_put (o := ⟨none, .store 25 (.tmp 7) (.tmp 28), _, _, _, _⟩) (by with_unfolding_all rfl) 25 (.tmp 7) (.tmp 28) (by with_unfolding_all rfl) g7 0 (by with_unfolding_all rfl) (.agg p.cells.toArray) (by with_unfolding_all rfl) h7 p.cells (by with_unfolding_all rfl) (by with_unfolding_all (rw [Pat.cells_length]; exact Tryd.szP)) (by with_unfolding_all (rw [Pat.cells_length, Pat.cells_length]; omega)) (by with_unfolding_all (exact cells_one _)) ?_))
    intro w10 hu10 hB10
    rw [splice_all _ _ (by rw [Pat.cells_length, Pat.cells_length])] at hB10
    have HSKa := Lib.hid (HSK.out.put7 hu10 hB10)
    have HNa := Lib.hid (HNear.out.upd hu10 (by have := hlo.out; omega) (fun g hg => by have := HNB.out g hg; have := hlo.out; have := hne.out; omega))
    have HFa := Lib.hid (HFS.out.turn (OnlyD.of_upd (D := fun g => g = g7) hu10 rfl) (fun g e => .inr (by have := hlo.out; omega)) HBN.out)
    have h8 := HSKa.out.b8
    clear hu10 hB10 h5 h7 HSK HFS
    go_wp2_with (with_reducible refine wpList_put (o := ⟨none, .store 23 (.tmp 8) (.tmp 29), _, _, _, _⟩) (by with_unfolding_all rfl) 23 (.tmp 8) (.tmp 29) (by with_unfolding_all rfl) g8 0 (by with_unfolding_all rfl) (.agg (H no).toArray) (by with_unfolding_all rfl) h8 (H no) (by with_unfolding_all rfl) (by with_unfolding_all (rw [H_length]; exact Tryd.szH)) (by with_unfolding_all (rw [H_length]; omega)) (by with_unfolding_all (exact H_one _)) ?_)
    intro w11 hu11 hB11
    rw [splice_all _ _ rfl] at hB11
    have HSKb := Lib.hid (HSKa.out.put8 hu11 hB11)
    have HNb := Lib.hid (HNa.out.upd hu11 (by have := hlo.out; omega) (fun g hg => by have := HNB.out g hg; have := hlo.out; have := hne.out; omega))
    have HFb := Lib.hid (HFa.out.turn (OnlyD.of_upd (D := fun g => g = g8) hu11 rfl) (fun g e => .inr (by have := hlo.out; omega)) HBN.out)
    have h9 := HSKb.out.b9
    clear hu11 hB11 h8 HSKa HNa HFa
    go_wp2_with (with_reducible refine wpList_put (o := ⟨none, .store 4 (.tmp 9) (.const (.bool true)), _, _, _, _⟩) (by with_unfolding_all rfl) 4 (.tmp 9) (.const (.bool true)) (by with_unfolding_all rfl) g9 0 (by with_unfolding_all rfl) (.bool true) (by with_unfolding_all rfl) h9 [(.bool true)] (by with_unfolding_all rfl) (by with_unfolding_all exact Tryd.szBo) (by with_unfolding_all simp) (by with_unfolding_all exact one_cell1 rfl) ?_)
    intro w12 hu12 hB12
    have hB12' : Blk w12 g9 4 [.bool true] := hB12
    have HSKc := Lib.hid (HSKb.out.put9 hu12 hB12')
    have HNc := Lib.hid (HNb.out.upd hu12 (by have := hlo.out; omega) (fun g hg => by have := HNB.out g hg; have := hlo.out; have := hne.out; omega))
    have HFc := Lib.hid (HFb.out.turn (OnlyD.of_upd (D := fun g => g = g9) hu12 rfl) (fun g e => .inr (by have := hlo.out; omega)) HBN.out)
    clear hu12 hB12 hB12' h9 HSKb HNb HFb
    go_wp2
    refine cut_ret (gn := gn) (g10 := g10) (Nat.le_refl _) HNc.out.own HNc.out.bn HSKc.out.b10 (fun w' hB' hu => ?_)
    have HSKd := HSKc.out.onlyD (OnlyD.of_upd (D := fun g => g = gn) hu rfl) (fun g e => by omega)
    refine ⟨_, results_seek rfl _ _ rfl rfl rfl HSKd.b7 HSKd.b8 HSKd.b9, ?_⟩
    refine seek_fin (by rw [hbn.out]; exact HBN.out) (by rw [hbn.out]; exact HFc.out) HNc.out (Nat.le_refl _) ?_ (by rw [hbn.out]; exact HOR8.out) (.inl ⟨rfl, ?_⟩) hB' hu
    · have e1 : K1 = [] := List.eq_nil_of_length_eq_zero (by have := hn1.out; omega)
      rw [e1, List.append_nil]
      exact List.take_of_length_le (by have := HN0.out.own.1; rw [List.length_map] at this; omega)
    · refine Pat.clear_self HP.out (fun q hq hov => ?_)
      obtain ⟨k, hk, e⟩ := List.getElem_of_mem hq
      have hk' : l[k]? = some q := by rw [List.getElem?_eq_getElem hk, e]
      have hov' := Pat.over_symm hov
      exact HNONE.out k (HCOV.out k q hk' hov') q hk' hov'
  · obtain ⟨A1', c1', hv, hsh⟩ := own_shape HNear.out.own
    cases hv
    have hk1 : 1 ≤ K1.length := by
      rcases K1 with _ | ⟨_, _⟩
      · cases hbK
      · rw [List.length_cons]; omega
    have hnn1 : n < n1 := by rw [← hn1.out]; omega
    obtain ⟨gA, rfl, hgAb, hgAl⟩ : ∃ gA, A1 = some ⟨gA, 0, none⟩ ∧ base ≤ gA ∧ gA < w9.heap.size := by
      rcases hsh with ⟨_, _, h⟩ | h
      · omega
      · exact h
    have hcap : n1 ≤ c1 := by
      rcases HNear.out.own.2 with ⟨hv, _⟩ | ⟨_, _, _, hv, _, _, h, _⟩
      · cases hv
      · cases hv; exact h
    obtain ⟨gL, oL, rfl, hcl⟩ := HEnv.out.pats bq q hq
    have hbql : bq < l.length := (List.getElem?_eq_some_iff.1 hq).1
    obtain ⟨ll, hl1⟩ : ∃ ll, Hid (l.length = ll) := ⟨_, rfl⟩
    rw [hl1.out] at hbql
    have hbqi : (bq : Int) < (ll : Int) := by omega
    have hni1 : (n : Int) ≤ (n1 : Int) := by omega
    have hni2 : (n1 : Int) ≤ (c1 : Int) := by omega
    have hni3 : n ≤ n1 := by omega
    have hgLn : gL ≠ gn := HE0.out.na gL oL rfl
    have hgLl : gL < w.heap.size := HE0.out.nb gL oL rfl
    have HQ := Lib.hid hq
    have HO := Lib.hid ho
    have HBK := Lib.hid hbK
    have HALL := Lib.hid hall
    have HA9 := Lib.hid (SkAll.mk HEnv.out HNear.out HSK.out HFS.out HNB.out hg10B hgnl HE0.out.bl.lt HE0.out.bs.lt HE0.out.nb HBN.out)
    have HAd := Lib.hid (HA9.out.next (below_drew w9))
    have hlo := Lib.hid HSK.out.lo
    have hne := Lib.hid HSK.out.ne
    have hcne : ¬ c1 = n := by omega
    have hkk : K1.length = n1 - n := by have := hn1.out; omega
    obtain ⟨k1, hk1e⟩ : ∃ k1, n1 - n = k1 := ⟨_, rfl⟩
    obtain ⟨c2, hc2e⟩ : ∃ c2, c1 - n = c2 := ⟨_, rfl⟩
    rw [hk1e] at hkk
    have HKK := Lib.hid hkk
    have HCK : Hid (CellsK gA n K1 w9) := by
      have : CellsK gA n K1 w9 := fun j k hj => by
        have hj2 : ((xs ++ K1).map nV)[n + j]? = some (nV k) := by
          have hxl : xs.length = n := by have := HN0.out.own.1; rw [List.length_map] at this; omega
          rw [List.getElem?_map, List.getElem?_append_right (by omega), hxl, show n + j - n = j by omega, hj]; rfl
        have := HNear.out.own.cells (g := gA) rfl (n + j) _ hj2
        rwa [addr_mid, Nat.zero_add] at this
      exact this
    clear hq ho hbK hall hsh HSK HFS hkk hk1
    have cS : ∀ W v6 p7 f8 b9, SkAll gn gl gs base cl n B7 (some ⟨gL, oL, none⟩) l bn w g5 g6 g7 g8 g9 g10 p v6 p7 f8 b9 n1 (some ⟨gA, 0, none⟩) c1 (xs ++ K1) W → (W.cell? ⟨gl, 0, none⟩ = some (.slice (some ⟨gL, oL, none⟩) ll cl) ∧ W.cell? ⟨gn, 0, none⟩ = some (.slice (some ⟨gA, 0, none⟩) n1 c1) ∧ W.cell? ⟨g10, 0, none⟩ = some (.int .i64 (n : Int)) ∧ W.rangeAt gL (oL + bq * 20) (H q.m)) := fun W v6 p7 f8 b9 h => by
      have h1 := h.env.bl.cell (k := 0) rfl
      rw [hl1.out] at h1
      exact ⟨h1, h.near.bn.cell (k := 0) rfl, h.sk.b10.cell (k := 0) rfl, range_m (pat_at h.env.pats HQ.out)⟩
    have CS := Lib.hid cS
    clear cS
    go_wp2
    have hun := Tryd.underlying23
    have hz1 : (Tryd.prog.info? 23).map (·.size) = some (H q.m).length := by rw [H_length]; exact Tryd.szH
    refine wp_region_held_drew (S := fun w' => w'.cell? ⟨gl, 0, none⟩ = some (.slice (some ⟨gL, oL, none⟩) ll cl) ∧ w'.cell? ⟨gn, 0, none⟩ = some (.slice (some ⟨gA, 0, none⟩) n1 c1) ∧ w'.cell? ⟨g10, 0, none⟩ = some (.int .i64 (n : Int)) ∧ w'.rangeAt gL (oL + bq * 20) (H q.m)) (by kernel_rfl) (CS.out _ _ _ _ _ HAd.out) (fun hHeld => ?_)
    have hCd : CellsK gA n K1 w9.drew := HCK.out
    have hBd : B7 ≤ w9.drew.heap.size := hB9
    have HCKd := Lib.hid hCd
    clear hCd HCK
    generalize w9.drew = wd at HAd HCKd hHeld hBd ⊢
    refine wpAnyH_take (i := 0) (v := ?vv0) rfl (by kernel_rfl) (by kernel_rfl) (by kernel_rfl) (fun _ _ _ h => h) (Or.inl ⟨by rfl, ?yv0⟩) (by assumption) ?rv0
    case yv0 => intro w hSw; (try dsimp only at hSw); go_simp <;> (try with_reducible rfl)
    (try simp only [List.getElem_toArray, List.getElem_cons_zero, Act.put, List.setIfInBounds_toArray, List.set_cons_zero, List.set_cons_succ])
    refine wpAnyH_take (i := 1) (v := ?vv1) rfl (by kernel_rfl) (by kernel_rfl) (by kernel_rfl) (fun _ _ _ h => h) (Or.inl ⟨by rfl, ?yv1⟩) (by assumption) ?rv1
    case yv1 => intro w hSw; (try dsimp only at hSw); go_simp <;> (try with_reducible rfl)
    (try simp only [List.getElem_toArray, List.getElem_cons_succ, List.getElem_cons_zero, Act.put, List.setIfInBounds_toArray, List.set_cons_zero, List.set_cons_succ])
    refine wpAnyH_take (i := 2) (v := ?vv2) rfl (by kernel_rfl) (by kernel_rfl) (by kernel_rfl) (fun _ _ _ h => h) (Or.inl ⟨by rfl, ?yv2⟩) (by assumption) ?rv2
    case yv2 => intro w hSw; (try dsimp only at hSw); go_simp <;> (try with_reducible rfl)
    (try simp only [List.getElem_toArray, List.getElem_cons_succ, List.getElem_cons_zero, Act.put, List.setIfInBounds_toArray, List.set_cons_zero, List.set_cons_succ])
    refine wpAnyH_take (i := 3) (v := ?vv3) rfl (by kernel_rfl) (by kernel_rfl) (by kernel_rfl) (fun _ _ _ h => h) (Or.inl ⟨by rfl, ?yv3⟩) (by assumption) ?rv3
    case yv3 => intro w hSw; (try dsimp only at hSw); go_simp <;> (try with_reducible rfl)
    (try simp only [List.getElem_toArray, List.getElem_cons_succ, List.getElem_cons_zero, Act.put, List.setIfInBounds_toArray, List.set_cons_zero, List.set_cons_succ])
    refine' wpAnyH_take (i := 4) (v := _) rfl (by kernel_rfl) (by kernel_rfl) (by kernel_rfl) (fun _ _ _ h => h) (yieldsIf_load_mid (by rfl) _ _ (by rfl) _ _ (by rfl) _ _ ?Sv4 ?uv4 ?dv4 ?iv4) (by assumption) ?rv4
    case Sv4 => exact (by intro w h; exact h.2.2.2)
    case uv4 => exact hun
    case dv4 => rfl
    case iv4 => exact hz1
    (try simp only [List.getElem_toArray, List.getElem_cons_succ, List.getElem_cons_zero, Act.put, List.setIfInBounds_toArray, List.set_cons_zero, List.set_cons_succ])
    refine wpAnyH_take (i := 5) (v := ?vv5) rfl (by kernel_rfl) (by kernel_rfl) (by kernel_rfl) (fun _ _ _ h => h) (Or.inl ⟨by rfl, ?yv5⟩) (by assumption) ?rv5
    case yv5 => intro w hSw; (try dsimp only at hSw); go_simp <;> (try with_reducible rfl)
    (try simp only [List.getElem_toArray, List.getElem_cons_succ, List.getElem_cons_zero, Act.put, List.setIfInBounds_toArray, List.set_cons_zero, List.set_cons_succ])
    refine wpAnyH_take (i := 6) (v := ?vv6) rfl (by kernel_rfl) (by kernel_rfl) (by kernel_rfl) (fun _ _ _ h => h) (Or.inl ⟨by rfl, ?yv6⟩) (by assumption) ?rv6
    case yv6 => intro w hSw; (try dsimp only at hSw); go_simp <;> (try with_reducible rfl)
    (try simp only [List.getElem_toArray, List.getElem_cons_succ, List.getElem_cons_zero, Act.put, List.setIfInBounds_toArray, List.set_cons_zero, List.set_cons_succ])
    refine wpAnyH_take (i := 7) (v := ?vv7) rfl (by kernel_rfl) (by kernel_rfl) (by kernel_rfl) (fun _ _ _ h => h) (Or.inl ⟨by rfl, ?yv7⟩) (by assumption) ?rv7
    case yv7 => intro w hSw; (try dsimp only at hSw); go_simp <;> (try with_reducible rfl)
    (try simp only [List.getElem_toArray, List.getElem_cons_succ, List.getElem_cons_zero, Act.put, List.setIfInBounds_toArray, List.set_cons_zero, List.set_cons_succ])
    clear hk1e hc2e hcne
    refine wpAnyH_ready (rs := [8]) (by kernel_rfl) (by simp) ?_
    refine AllReadyH.cons rfl (fun K hK => ?_) AllReadyH.nil
    rw [if_pos (by rfl)]
    refine wp_put 23 (.tmp 8) (.tmp 34) rfl g8 0 rfl (.agg (H q.m).toArray) rfl HAd.out.sk.b8 (H q.m) rfl (by rw [H_length]; exact Tryd.szH) (by rw [H_length, H_length]; omega) (H_one _) ?_
    intro wa hua hBa
    rw [splice_all _ _ (by rw [H_length, H_length])] at hBa
    have HAa := Lib.hid (HAd.out.put8 hua hBa)
    have HCKa := Lib.hid (HCKd.out.onlyD (OnlyD.of_upd (D := fun g => g = g8) hua rfl) (by have := HNB.out gA rfl; have := hlo.out; have := hne.out; omega))
    have hBa' : B7 ≤ wa.heap.size := by rw [hua.size]; exact hBd
    refine hK.out _ _ (CS.out _ _ _ _ _ HAa.out) (fun hHeld => ?_)
    clear hK K hua hBa HAd HCKd
    refine wpAnyH_ready (rs := [9]) (by kernel_rfl) (by simp) ?_
    refine AllReadyH.cons rfl (fun K hK => ?_) AllReadyH.nil
    rw [if_pos (by rfl)]
    refine wp_put 138 (.tmp 6) (.tmp 37) rfl g6 0 rfl (.slice (some ⟨gA, n, none⟩) k1 c2) rfl HAa.out.sk.b6 [.slice (some ⟨gA, n, none⟩) k1 c2] rfl (by exact Tryd.szLi) (by simp) (one_cell1 rfl) ?_
    intro wb hub hBb
    have hBb' : Blk wb g6 138 [.slice (some ⟨gA, n, none⟩) k1 c2] := hBb
    have HAb := Lib.hid (HAa.out.put6 hub hBb')
    have HCKb := Lib.hid (HCKa.out.onlyD (OnlyD.of_upd (D := fun g => g = g6) hub rfl) (by have := HNB.out gA rfl; have := hlo.out; have := hne.out; omega))
    have hBb2 : B7 ≤ wb.heap.size := by rw [hub.size]; exact hBa'
    refine hK.out _ _ (CS.out _ _ _ _ _ HAb.out) (fun hHeld => ?_)
    clear hK K hub hBb hBb' HAa HCKa
    refine wpAnyH_done (by kernel_rfl) ?_ _
    have HAb2 := Lib.hid (HAb.out.next (below_drew wb))
    have HCK2 : Hid (CellsK gA n K1 wb.drew) := HCKb
    have cS : ∀ W v6 p7 f8 b9, SkAll gn gl gs base cl n B7 (some ⟨gL, oL, none⟩) l bn w g5 g6 g7 g8 g9 g10 p v6 p7 f8 b9 n1 (some ⟨gA, 0, none⟩) c1 (xs ++ K1) W → (W.rangeAt g5 0 p.cells ∧ W.cell? ⟨gl, 0, none⟩ = some (.slice (some ⟨gL, oL, none⟩) ll cl) ∧ W.rangeAt gL (oL + bq * 20) q.cells) := fun W v6 p7 f8 b9 h => by
      have h1 := h.env.bl.cell (k := 0) rfl
      rw [hl1.out] at h1
      exact ⟨blk_range h.sk.b5, h1, pat_at h.env.pats HQ.out⟩
    have CS2 := Lib.hid cS
    clear cS CS
    go_wp2
    have hunP := Tryd.underlying25
    have hzp : (Tryd.prog.info? 25).map (·.size) = some p.cells.length := by rw [Pat.cells_length]; exact Tryd.szP
    have hzq : (Tryd.prog.info? 25).map (·.size) = some q.cells.length := by rw [Pat.cells_length]; exact Tryd.szP
    refine wp_region_held_drew (S := fun w' => w'.rangeAt g5 0 p.cells ∧ w'.cell? ⟨gl, 0, none⟩ = some (.slice (some ⟨gL, oL, none⟩) ll cl) ∧ w'.rangeAt gL (oL + bq * 20) q.cells) (by kernel_rfl) (CS2.out _ _ _ _ _ HAb2.out) (fun hHeld => ?_)
    have hBc : B7 ≤ wb.drew.heap.size := hBb2
    have hgAc : gA < wb.drew.heap.size := by
      obtain ⟨j, hj, e⟩ := List.getElem_of_mem HBK.out
      exact World.block_lt_of_cell? (a := ⟨gA, n + j, none⟩) _ (HCK2.out j bq (by rw [List.getElem?_eq_getElem hj, e]))
    clear HAb HCKb
    generalize wb.drew = wc at HAb2 HCK2 hHeld hBc hgAc ⊢
    refine' wpAnyH_take (i := 0) (v := _) rfl (by kernel_rfl) (by kernel_rfl) (by kernel_rfl) (fun _ _ _ h => h) (yieldsIf_load_mid (by rfl) _ _ (by rfl) _ _ (by rfl) _ _ ?Su0 ?uu0 ?du0 ?iu0) (by assumption) ?ru0
    case Su0 => exact (by intro w h; exact h.1)
    case uu0 => exact hunP
    case du0 => rfl
    case iu0 => exact hzp
    (try simp only [List.getElem_toArray, List.getElem_cons_zero, Act.put, List.setIfInBounds_toArray, List.set_cons_zero, List.set_cons_succ])
    refine wpAnyH_take (i := 1) (v := ?vu1) rfl (by kernel_rfl) (by kernel_rfl) (by kernel_rfl) (fun _ _ _ h => h) (Or.inl ⟨by rfl, ?yu1⟩) (by assumption) ?ru1
    case yu1 => intro w hSw; (try dsimp only at hSw); go_simp <;> (try with_reducible rfl)
    (try simp only [List.getElem_toArray, List.getElem_cons_succ, List.getElem_cons_zero, Act.put, List.setIfInBounds_toArray, List.set_cons_zero, List.set_cons_succ])
    refine wpAnyH_take (i := 2) (v := ?vu2) rfl (by kernel_rfl) (by kernel_rfl) (by kernel_rfl) (fun _ _ _ h => h) (Or.inl ⟨by rfl, ?yu2⟩) (by assumption) ?ru2
    case yu2 => intro w hSw; (try dsimp only at hSw); go_simp <;> (try with_reducible rfl)
    (try simp only [List.getElem_toArray, List.getElem_cons_succ, List.getElem_cons_zero, Act.put, List.setIfInBounds_toArray, List.set_cons_zero, List.set_cons_succ])
    refine wpAnyH_take (i := 3) (v := ?vu3) rfl (by kernel_rfl) (by kernel_rfl) (by kernel_rfl) (fun _ _ _ h => h) (Or.inl ⟨by rfl, ?yu3⟩) (by assumption) ?ru3
    case yu3 => intro w hSw; (try dsimp only at hSw); go_simp <;> (try with_reducible rfl)
    (try simp only [List.getElem_toArray, List.getElem_cons_succ, List.getElem_cons_zero, Act.put, List.setIfInBounds_toArray, List.set_cons_zero, List.set_cons_succ])
    refine' wpAnyH_take (i := 4) (v := _) rfl (by kernel_rfl) (by kernel_rfl) (by kernel_rfl) (fun _ _ _ h => h) (yieldsIf_load_mid (by rfl) _ _ (by rfl) _ _ (by rfl) _ _ ?Su4 ?uu4 ?du4 ?iu4) (by assumption) ?ru4
    case Su4 => exact (by intro w h; exact h.2.2)
    case uu4 => exact hunP
    case du4 => rfl
    case iu4 => exact hzq
    (try simp only [List.getElem_toArray, List.getElem_cons_succ, List.getElem_cons_zero, Act.put, List.setIfInBounds_toArray, List.set_cons_zero, List.set_cons_succ])
    refine wpAnyH_ready (rs := [5]) (by kernel_rfl) (by simp) ?_
    refine AllReadyH.cons rfl (fun K hK => ?_) AllReadyH.nil
    go_simp
    go_wp2_with fail
    (with_reducible refine (pieces_any p q _).mono ?_)
    rintro e wd2 ⟨ga, gb, rfl, hBa2, hBb3, hbd2, hga, hgb⟩
    have hgAd : gA < wd2.heap.size := by have := hbd2.size; omega
    have hgAa : gA < ga ∧ gA < gb := ⟨by omega, by omega⟩
    have HAc := Lib.hid (HAb2.out.next hbd2)
    have HCKc := Lib.hid (HCK2.out.onlyD (OnlyD.of_below (D := fun _ => False) hbd2) (fun h => h))
    have hBd2 : B7 ≤ wd2.heap.size := by have := hbd2.size; omega
    refine hK.out _ _ (CS2.out _ _ _ _ _ HAc.out) (fun hHeld => ?_)
    clear hK K HAb2 HCK2 hbd2
    refine wpAnyH_done (by kernel_rfl) ?_ _
    go_wp2
    clear hHeld
    have hgaB : B7 ≤ ga := by omega
    have hgbB : B7 ≤ gb := by omega
    clear hga hgb hBc hBb2 hbqi hni1 hni2
    have hws : gn < wd2.heap.size := by omega
    refine wpIn_wide.1 (range_walkA (n := 5) (gf := 205) (lb := #[.pointer (some ⟨ga, 0, none⟩), .pointer (some ⟨gb, 0, none⟩)]) rfl (enters_of Tryd.func205 (by kernel_rfl) rfl) (encs := encP) (fun _ => rfl) (SkD gn g7 g8 g9) ?hL (skD_stays hws) (p.pieces q)
      (fun s W => ∃ (A2 : Option Addr) (c3 : Nat) (R : Nat → Bool), SkAll gn gl gs base cl n B7 (some ⟨gL, oL, none⟩) l bn w g5 g6 g7 g8 g9 g10 p (.slice (some ⟨gA, n, none⟩) k1 c2) Pat.zero R false n1 A2 c3 (xs ++ K1) W ∧ ((Value.slice A2 n1 c3).ownBlock = bn ∨ ∀ g, (Value.slice A2 n1 c3).ownBlock = some g → B7 ≤ g) ∧ CellsK gA n K1 W ∧ (∀ i, i < 160 → q.m i = true → R i = true) ∧ ∀ x, x ∈ s → ∃ R', Pat.why l x R' ∧ ∀ i, i < 160 → R' i = true → R i = true)
      (fun co s W => co = .ret ∧ ∃ (A2 : Option Addr) (c3 : Nat) (part : Pat) (R : Nat → Bool) (ok : Bool), SkAll gn gl gs base cl n B7 (some ⟨gL, oL, none⟩) l bn w g5 g6 g7 g8 g9 g10 p (.slice (some ⟨gA, n, none⟩) k1 c2) part R ok n1 A2 c3 (xs ++ K1) W ∧ ((Value.slice A2 n1 c3).ownBlock = bn ∨ ∀ g, (Value.slice A2 n1 c3).ownBlock = some g → B7 ≤ g) ∧ SeekR l p part R ok)
      ?hI ?hIx ⟨_, _, q.m, HAc.out, HOR7.out, HCKc.out, fun _ _ h => h, fun _ h => (by cases h)⟩ (fun x a W => ∃ g12, a = { tmps := #[.agg p.cells.toArray, .slice Ak m ck, .pointer (some ⟨gn, 0, none⟩), .pointer (some ⟨gl, 0, none⟩), .pointer (some ⟨gs, 0, none⟩), .pointer (some ⟨g5, 0, none⟩), .pointer (some ⟨g6, 0, none⟩), .pointer (some ⟨g7, 0, none⟩), .pointer (some ⟨g8, 0, none⟩), .pointer (some ⟨g9, 0, none⟩), .pointer (some ⟨g10, 0, none⟩), .int .i64 (bq : Int), .pointer (some ⟨g12, 0, none⟩), undef, undef, undef, .slice A n c, .int .i64 (n : Int), .func (.func 242) #[] #[.pointer (some ⟨gn, 0, none⟩), .pointer (some ⟨g10, 0, none⟩)], .tuple #[.slice (some ⟨gA, 0, none⟩) n1 c1, .int .i64 (bq : Int)], .slice A n c, .slice (some ⟨gL, oL, none⟩) l.length cl, .slice Ak m ck, .tuple #[.slice (some ⟨gA, 0, none⟩) n1 c1, .int .i64 (bq : Int)], .slice (some ⟨gA, 0, none⟩) n1 c1, .int .i64 (bq : Int), .int .i64 (bq : Int), .bool (decide ((bq : Int) < 0)), undef, undef, .slice (some ⟨gL, oL, none⟩) ll cl, .int .i64 (bq : Int), .pointer (some ⟨gL, oL + bq * 20, none⟩), .pointer (some ⟨gL, oL + bq * 20, none⟩), .agg (H q.m).toArray, .slice (some ⟨gA, 0, none⟩) n1 c1, .int .i64 (n : Int), .slice (some ⟨gA, n, none⟩) k1 c2, .agg p.cells.toArray, .slice (some ⟨gL, oL, none⟩) ll cl, .int .i64 (bq : Int), .pointer (some ⟨gL, oL + bq * 20, none⟩), .agg q.cells.toArray, .func (.func 205) #[] #[.pointer (some ⟨ga, 0, none⟩), .pointer (some ⟨gb, 0, none⟩)], .agg x.cells.toArray, undef, undef, undef, undef, undef, undef, undef, undef, undef, undef, undef, undef, undef, undef, undef, undef, undef, undef, undef, undef, undef, undef, undef, undef, undef, undef, undef], defers := [] } ∧ wd2.heap.size + 2 ≤ g12 ∧ Blk W g12 25 x.cells) ?asg ?assign ?body ?iter ?done ?stop)
    case hL => exact HAc.out.real
    case hI =>
      rintro s W W' ⟨A2, c3, R, h1, h2, h3, h4, h5⟩ hs hkp
      exact ⟨A2, c3, R, h1.keeps hkp hBd2, h2, fun j k hj => by
        have hc := h3 j k hj
        rw [World.cell?_of_block (a := ⟨gA, n + j, none⟩) (hkp.below.block gA (by omega))]; exact hc, h4, h5⟩
    case hIx =>
      rintro co s W W' ⟨h0, A2, c3, part, R, ok, h1, h2, h3⟩ hs hkp
      exact ⟨h0, A2, c3, part, R, ok, h1.keeps hkp hBd2, h2, h3⟩
    case asg =>
      rintro x a W W' ⟨g12, h1, h2, h3⟩ ho
      exact ⟨g12, h1, h2, h3.only ho (by simp; omega)⟩
    case assign =>
      intro l' x W K hsW hK
      have HK := Lib.hid hK
      clear hK
      rw [show encP x = #[.agg x.cells.toArray] from rfl]
      gi_wp2_with (with_reducible refine wpListIn_alloc (o := ⟨some 12, .alloc 25, _, _, _, _⟩) (by with_unfolding_all rfl) 25 (by with_unfolding_all rfl) (.agg (H no ++ H no).toArray) (H no ++ H no) (by exact Tryd.zeroPt) (by with_unfolding_all rfl) ?_)
      intro g12 wa hg12 hsa hba hB12
      rw [cells_zero] at hB12
      have hle12 : W.heap.size ≤ g12 := Nat.le_of_eq hg12.out.symm
      have hba' : Below W.heap.size W wa := hba.mono hle12
      clear hba hsa hg12
      gi_wp2_with (with_reducible refine wpListIn_put (o := ⟨none, .store 25 (.tmp 12) (.tmp 44), _, _, _, _⟩) (by with_unfolding_all rfl) 25 (.tmp 12) (.tmp 44) (by with_unfolding_all rfl) g12 0 (by with_unfolding_all rfl) (.agg x.cells.toArray) (by with_unfolding_all rfl) hB12 x.cells (by with_unfolding_all rfl) (by with_unfolding_all (rw [Pat.cells_length]; exact Tryd.szP)) (by with_unfolding_all (rw [Pat.cells_length, Pat.cells_length]; omega)) (by with_unfolding_all (exact cells_one _)) ?_)
      intro wb2 hub hB12b
      rw [splice_all _ _ (by rw [Pat.cells_length, Pat.cells_length])] at hB12b
      gi_wp2
      exact HK.out _ _ ⟨g12, rfl, by omega, hB12b⟩ (hba'.trans (hub.below (B := W.heap.size) hle12))
    case iter =>
      intro W1' hb1 hs1
      have hkp : Keeps (SkD gn g7 g8 g9) wd2.heap.size wd2 W1' := ⟨hb1, fun g hg => hb1.block g (HAc.out.real g hg)⟩
      have hst := skD_stays hws wd2 W1' (Nat.le_refl _) hkp
      have hno : ∀ g, B7 ≤ g → gA < g → ¬ SkD gn g7 g8 g9 W1' g := fun g h1 h2 h => by
        have l := hlo.out
        have e := hne.out
        rcases (hst g).1 h with h | h | h | h | ⟨v, h, hv⟩
        · omega
        · omega
        · omega
        · omega
        · rw [blk_inj h HAc.out.near.bn] at hv
          have : gA = g := by simpa [Value.ownBlock] using hv
          omega
      refine pieces1_in 4 _ ga gb p q _ W1' HP.out (hBa2.next hb1 hBa2.lt) (hBb3.next hb1 hBb3.lt) (by have := hBa2.lt; omega) (by have := hBb3.lt; omega) (by omega) (hno ga hgaB hgAa.1) (hno gb hgbB hgAa.2) (fun g hg => ?_) ((skD_stays hws).mono hb1.size)
      have := HAc.out.real g ((hst g).1 hg)
      omega
    case body =>
      rintro l' pre x a W ⟨g12, rfl, hle12, hB12⟩ ⟨A2, c3, R, hA, hor, hck, hqR, hdn⟩ hWs hre hpx
      obtain ⟨s, hs160, hos, hxs⟩ := piece_mem hpx
      have hKle : n + K1.length ≤ n1 := Nat.le_of_eq hn1.out
      have hn3 := hn1.out
      have hwW : w.heap.size ≤ W.heap.size := by omega
      have hBW : B7 ≤ W.heap.size := by omega
      have hgAn : gA ≠ gn := (HNear.out.apart gA rfl).1
      have h789 : g7 < B7 ∧ g8 < B7 ∧ g9 < B7 := by have := hne.out; omega
      have hmul : fuel * K1.length ≤ fuel * m := Nat.mul_le_mul_left _ HK1L.out
      have hbnd := HBND.out
      rw [hm.out, Nat.add_mul, Nat.one_mul] at hbnd
      have hkm := HK1L.out
      have hcall := IH.out x K1 (some ⟨gA, n, none⟩) A2 c2 n1 c3 (xs ++ K1) W (by rw [hxs]; have := piece_free hs160 hos; have := HFREE.out; omega) (by rw [hxs]; exact Pat.piece_ok HP.out (HOK.out q (List.mem_of_getElem? HQ.out))) (by have := HBASE.out; omega) (by omega) (by have := HKL.out; omega) hA.env hA.near (hck.safe hKle) (fun g o e => by cases e; exact hgAn) (fun k hk => HKB.out k (HOVR.out.sub k hk)) (fun k q' hk ho' => by
        rw [hxs] at ho'
        rcases HALL.out with h | h
        · have := exc_zero h HO.out s hs160
          rw [this] at hos; cases hos
        · exact h k (HCOV.out k q' hk (piece_over hos ho')) q' hk (piece_over hos ho'))
      rw [HKK.out] at hcall
      have HCALL := Lib.hid hcall
      have HA := Lib.hid hA
      have HOR := Lib.hid hor
      have HCK := Lib.hid hck
      have HQR := Lib.hid hqR
      have HDN := Lib.hid hdn
      have HOS := Lib.hid hos
      have HXS := Lib.hid hxs
      have c6 := hA.sk.b6.cell (k := 0) rfl
      have cs := hA.env.bs.cell (k := 0) rfl
      clear hcall hA hor hck hqR hdn hos hxs hmul hbnd hkm hre hpx
      gi_wp2_with (first | (with_reducible refine wpListIn_get (o := ⟨some 47, .load 25 (.tmp 12), _, _, _, _⟩) (by with_unfolding_all rfl) 25 (.tmp 12) (by with_unfolding_all rfl) g12 0 (by with_unfolding_all rfl) hB12 x.cells (cs_all _) _ (by exact Tryd.underlying25) (by with_unfolding_all rfl) (by rw [Pat.cells_length]; exact Tryd.szP) ?_) | fail)
      refine ⟨trivial, ((callsIn_wide).2 HCALL.out).mono ?_⟩
      rintro e W2 ⟨part, R', ok, A3, c4, rfl, hsr, hn4, hor4, hf4⟩
      obtain ⟨hA3, hor5⟩ := HA.out.call hn4 hf4 (by omega) hBW HOR.out hor4
      have ho2 : OnlyD (SkD gn g7 g8 g9 W) W W2 := hf4.only.mono (fun g hg => by
        rcases hg with e | e
        · exact .inl e
        · exact .inr (.inr (.inr (.inr ⟨_, HA.out.near.bn, e⟩))))
      have hck2 := HCK.out.frS hf4 hgAn hKle
      have HA3 := Lib.hid hA3
      have HOR5 := Lib.hid hor5
      have HO2 := Lib.hid ho2
      have HCK2' := Lib.hid hck2
      have HSR := Lib.hid hsr
      have HOR4 := Lib.hid hor4
      have hs2 : W.heap.size ≤ W2.heap.size := ho2.size
      clear hA3 hor5 ho2 hck2 hsr hn4 hf4 hor4 c6 cs HCALL hB12
      gi_wp2_with (with_reducible refine wpListIn_alloc (o := ⟨some 13, .alloc 25, _, _, _, _⟩) (by with_unfolding_all rfl) 25 (by with_unfolding_all rfl) (.agg (H no ++ H no).toArray) (H no ++ H no) (by exact Tryd.zeroPt) (by with_unfolding_all rfl) ?_)
      intro g13 W3 hg13 hs3 hb3 hB13
      rw [cells_zero] at hB13
      have hle13 : W2.heap.size ≤ g13 := Nat.le_of_eq hg13.out.symm
      have hb3' : Below W2.heap.size W2 W3 := hb3.mono hle13
      have HA4 := Lib.hid (HA3.out.next hb3')
      have HO3 := Lib.hid (HO2.out.trans (OnlyD.of_below hb3'))
      have HCK3 := Lib.hid (HCK2'.out.onlyD (OnlyD.of_below (D := fun _ => False) hb3') (fun h => h))
      have hlt13 : ∀ g, (Value.slice A3 n1 c4).ownBlock = some g → g < W2.heap.size := fun g hg => (HA3.out.near.own.lt g hg).2
      have HLT13 := Lib.hid hlt13
      have hs23 := hb3'.size
      clear hb3 hb3' hs3 hg13 HA3 HO2 HCK2' hlt13
      gi_wp2_with (with_reducible refine wpListIn_alloc (o := ⟨some 14, .alloc 23, _, _, _, _⟩) (by with_unfolding_all rfl) 23 (by with_unfolding_all rfl) (.agg (H no).toArray) (H no) (by exact Tryd.zeroH) (by with_unfolding_all rfl) ?_)
      intro g14 W4 hg14 hs4 hb4 hB14
      have hle14 : W3.heap.size ≤ g14 := Nat.le_of_eq hg14.out.symm
      have hn1314 : g13 < g14 := by have := hB13.lt; omega
      have hb4' : Below W3.heap.size W3 W4 := hb4.mono hle14
      have HA5 := Lib.hid (HA4.out.next hb4')
      have HO4 := Lib.hid (HO3.out.trans (OnlyD.of_below hb4'))
      have HCK4 := Lib.hid (HCK3.out.onlyD (OnlyD.of_below (D := fun _ => False) hb4') (fun h => h))
      have hB13 := hB13.next hb4' hB13.lt
      clear hb4 hb4' hs4 hg14 HA4 HO3 HCK3
      gi_wp2_with (with_reducible refine wpListIn_put (o := ⟨none, .store 25 (.tmp 13) (.tmp 50), _, _, _, _⟩) (by with_unfolding_all rfl) 25 (.tmp 13) (.tmp 50) (by with_unfolding_all rfl) g13 0 (by with_unfolding_all rfl) (.agg part.cells.toArray) (by with_unfolding_all rfl) hB13 part.cells (by with_unfolding_all rfl) (by with_unfolding_all (rw [Pat.cells_length]; exact Tryd.szP)) (by with_unfolding_all (rw [Pat.cells_length, Pat.cells_length]; omega)) (by with_unfolding_all (exact cells_one _)) ?_)
      intro W5 hu5 hB13'
      rw [splice_all _ _ (by rw [Pat.cells_length, Pat.cells_length])] at hB13'
      have HA6 := Lib.hid (HA5.out.fresh (D := fun g => g = g13) (OnlyD.of_upd hu5 rfl) (fun g e => ⟨by omega, fun h => by have := HLT13.out g h; omega⟩))
      have HO5 := Lib.hid (HO4.out.of_new hu5 (by omega))
      have HCK5 := Lib.hid (HCK4.out.onlyD (OnlyD.of_upd (D := fun g => g = g13) hu5 rfl) (by omega))
      have hB14 := hB14.upd hu5 (by omega)
      clear hu5 HA5 HO4 HCK4
      gi_wp2_with (with_reducible refine wpListIn_put (o := ⟨none, .store 23 (.tmp 14) (.tmp 51), _, _, _, _⟩) (by with_unfolding_all rfl) 23 (.tmp 14) (.tmp 51) (by with_unfolding_all rfl) g14 0 (by with_unfolding_all rfl) (.agg (H R').toArray) (by with_unfolding_all rfl) hB14 (H R') (by with_unfolding_all rfl) (by with_unfolding_all (rw [H_length]; exact Tryd.szH)) (by with_unfolding_all (rw [H_length, H_length]; omega)) (by with_unfolding_all (exact H_one _)) ?_)
      intro W6 hu6 hB14'
      rw [splice_all _ _ (by rw [H_length, H_length])] at hB14'
      have HA7 := Lib.hid (HA6.out.fresh (D := fun g => g = g14) (OnlyD.of_upd hu6 rfl) (fun g e => ⟨by omega, fun h => by have := HLT13.out g h; omega⟩))
      have HO6 := Lib.hid (HO5.out.of_new hu6 (by omega))
      have HCK6 := Lib.hid (HCK5.out.onlyD (OnlyD.of_upd (D := fun g => g = g14) hu6 rfl) (by omega))
      have hB13 := hB13'.upd hu6 (by omega)
      have HB13 := Lib.hid hB13
      have HB14 := Lib.hid hB14'
      clear hu6 HA6 HO5 HCK5 hB13' hB14' hB13 hB14
      have d7 : SkD gn g7 g8 g9 W g7 := .inr (.inl rfl)
      have d8 : SkD gn g7 g8 g9 W g8 := .inr (.inr (.inl rfl))
      have d9 : SkD gn g7 g8 g9 W g9 := .inr (.inr (.inr (.inl rfl)))
      have D789 := Lib.hid (And.intro d7 (And.intro d8 d9))
      clear d7 d8 d9
      cases ok with
      | true =>
        have hcl' : Pat.clear l p part := by
          rcases HSR.out with ⟨_, h⟩ | ⟨h, _⟩
          · rw [HXS.out] at h
            exact Pat.clear_piece HOS.out h
          · cases h
        have HCL := Lib.hid hcl'
        clear hcl'
        have h13 := HB13.out
        have h7 := HA7.out.sk.b7
        gi_wp2_with (first | (with_reducible refine wpListIn_get (o := ⟨some 54, .load 25 (.tmp 13), _, _, _, _⟩) (by with_unfolding_all rfl) 25 (.tmp 13) (by with_unfolding_all rfl) g13 0 (by with_unfolding_all rfl) h13 part.cells (cs_all _) _ (by exact Tryd.underlying25) (by with_unfolding_all rfl) (by rw [Pat.cells_length]; exact Tryd.szP) ?_) | (with_reducible refine wpListIn_build (o := ⟨some 55, .build 23 #[], _, _, _, _⟩) (by with_unfolding_all rfl) 23 #[] (by with_unfolding_all rfl) #[] (by with_unfolding_all rfl) (.agg (H no).toArray) (by with_unfolding_all exact fun w => run_buildH0 w) ?_) | (with_reducible refine wpListIn_put (o := ⟨none, .store 25 (.tmp 7) (.tmp 54), _, _, _, _⟩) (by with_unfolding_all rfl) 25 (.tmp 7) (.tmp 54) (by with_unfolding_all rfl) g7 0 (by with_unfolding_all rfl) (.agg part.cells.toArray) (by with_unfolding_all rfl) h7 part.cells (by with_unfolding_all rfl) (by with_unfolding_all (rw [Pat.cells_length]; exact Tryd.szP)) (by with_unfolding_all (rw [Pat.cells_length, Pat.cells_length]; omega)) (by with_unfolding_all (exact cells_one _)) ?_))
        intro W7 hu7 hB7'
        rw [splice_all _ _ (by rw [Pat.cells_length, Pat.cells_length])] at hB7'
        have HA8 := Lib.hid (HA7.out.put7 hu7 hB7')
        have HO7 := Lib.hid (HO6.out.trans (OnlyD.of_upd hu7 D789.out.1))
        have h8 := HA8.out.sk.b8
        clear hu7 hB7' h7 h13 HA7 HO6
        gi_wp2_with (with_reducible refine wpListIn_put (o := ⟨none, .store 23 (.tmp 8) (.tmp 55), _, _, _, _⟩) (by with_unfolding_all rfl) 23 (.tmp 8) (.tmp 55) (by with_unfolding_all rfl) g8 0 (by with_unfolding_all rfl) (.agg (H no).toArray) (by with_unfolding_all rfl) h8 (H no) (by with_unfolding_all rfl) (by with_unfolding_all (rw [H_length]; exact Tryd.szH)) (by with_unfolding_all (rw [H_length, H_length]; omega)) (by with_unfolding_all (exact H_one _)) ?_)
        intro W8 hu8 hB8'
        rw [splice_all _ _ (by rw [H_length, H_length])] at hB8'
        have HA9' := Lib.hid (HA8.out.put8 hu8 hB8')
        have HO8 := Lib.hid (HO7.out.trans (OnlyD.of_upd hu8 D789.out.2.1))
        have h9 := HA9'.out.sk.b9
        clear hu8 hB8' h8 HA8 HO7
        gi_wp2_with (with_reducible refine wpListIn_put (o := ⟨none, .store 4 (.tmp 9) (.const (.bool true)), _, _, _, _⟩) (by with_unfolding_all rfl) 4 (.tmp 9) (.const (.bool true)) (by with_unfolding_all rfl) g9 0 (by with_unfolding_all rfl) (.bool true) (by with_unfolding_all rfl) h9 [(.bool true)] (by with_unfolding_all rfl) (by with_unfolding_all exact Tryd.szBo) (by with_unfolding_all simp) (by with_unfolding_all exact one_cell1 rfl) ?_)
        intro W9 hu9 hB9'
        have hB9'' : Blk W9 g9 4 [.bool true] := hB9'
        have HA10 := Lib.hid (HA9'.out.put9 hu9 hB9'')
        have HO9 := Lib.hid (HO8.out.trans (OnlyD.of_upd hu9 D789.out.2.2))
        clear hu9 hB9' hB9'' h9 HA9' HO8
        gi_wp2
        exact ⟨HA.out.turns HA10.out HO9.out HOR4.out, rfl, A3, c4, part, no, true, HA10.out, HOR5.out, .inl ⟨rfl, HCL.out⟩⟩
      | false =>
        have hwhy : Pat.why l (p.piece q s) R' := by
          rcases HSR.out with ⟨h, _⟩ | ⟨_, h⟩
          · cases h
          · rw [HXS.out] at h; exact h
        have HWHY := Lib.hid hwhy
        clear hwhy
        obtain ⟨F, hF⟩ : ∃ F : Nat → Bool, (fun i => R' i && p.m i) = F := ⟨_, rfl⟩
        obtain ⟨D, hDq⟩ : ∃ D, Hid (decide (HI F = HI R') = D) := ⟨_, rfl⟩
        have he1 : ∀ w, (binOp .eql 23 (.agg (H F).toArray) (.agg (H R').toArray)).run Tryd.prog w = .ok (.bool D) w := fun w => by rw [eqlH, hDq.out]
        have hunH := Tryd.underlying23
        have hzR : (Tryd.prog.info? 23).map (·.size) = some (H R').length := by rw [H_length]; exact Tryd.szH
        have hzM : (Tryd.prog.info? 23).map (·.size) = some (H p.m).length := by rw [H_length]; exact Tryd.szH
        gi_wp2
        have hSd : W6.drew.rangeAt g14 0 (H R') ∧ W6.drew.rangeAt g5 0 (H p.m) := ⟨blk_range (HB14.out.next (below_drew W6) HB14.out.lt), range_m (blk_range (HA7.out.next (below_drew W6)).sk.b5)⟩
        refine wpIn_round_held (S := fun w' => w'.rangeAt g14 0 (H R') ∧ w'.rangeAt g5 0 (H p.m)) (by kernel_rfl) (by kernel_rfl) (fun ⟨_, _, h⟩ => h) hSd (fun hHeld => ?_)
        have HA8 := Lib.hid (HA7.out.next (below_drew W6))
        have HO7 := Lib.hid (HO6.out.trans (OnlyD.of_below (below_drew W6)))
        have HCK7 := Lib.hid (HCK6.out.onlyD (OnlyD.of_below (D := fun _ => False) (below_drew W6)) (fun h => h))
        have HB14' := Lib.hid (HB14.out.next (below_drew W6) HB14.out.lt)
        clear hSd HA7 HO6 HCK6 HB14 HB13
        generalize W6.drew = W7 at hHeld HA8 HO7 HCK7 HB14' ⊢
        refine' wpAnyH_take (i := 0) (v := _) rfl (by kernel_rfl) (by kernel_rfl) (by kernel_rfl) (fun _ _ _ h => h) (yieldsIf_load_mid (by rfl) _ _ (by rfl) _ _ (by rfl) _ _ ?Sr0 ?ur0 ?dr0 ?ir0) (by assumption) ?rr0
        case Sr0 => exact (by intro w h; exact h.1)
        case ur0 => exact hunH
        case dr0 => rfl
        case ir0 => exact hzR
        (try simp only [List.getElem_toArray, List.getElem_cons_zero, Act.put, List.setIfInBounds_toArray, List.set_cons_zero, List.set_cons_succ])
        refine wpAnyH_take (i := 1) (v := ?vr1) rfl (by kernel_rfl) (by kernel_rfl) (by kernel_rfl) (fun _ _ _ h => h) (Or.inl ⟨by rfl, ?yr1⟩) (by assumption) ?rr1
        case yr1 => intro w hSw; (try dsimp only at hSw); go_simp <;> (try with_reducible rfl)
        (try simp only [List.getElem_toArray, List.getElem_cons_succ, List.getElem_cons_zero, Act.put, List.setIfInBounds_toArray, List.set_cons_zero, List.set_cons_succ])
        refine' wpAnyH_take (i := 2) (v := _) rfl (by kernel_rfl) (by kernel_rfl) (by kernel_rfl) (fun _ _ _ h => h) (yieldsIf_load_mid (by rfl) _ _ (by rfl) _ _ (by rfl) _ _ ?Sr2 ?ur2 ?dr2 ?ir2) (by assumption) ?rr2
        case Sr2 => exact (by intro w h; exact h.2)
        case ur2 => exact hunH
        case dr2 => rfl
        case ir2 => exact hzM
        (try simp only [List.getElem_toArray, List.getElem_cons_succ, List.getElem_cons_zero, Act.put, List.setIfInBounds_toArray, List.set_cons_zero, List.set_cons_succ])
        refine' wpAnyH_take (i := 4) (v := _) rfl (by kernel_rfl) (by kernel_rfl) (by kernel_rfl) (fun _ _ _ h => h) (yieldsIf_load_mid (by rfl) _ _ (by rfl) _ _ (by rfl) _ _ ?Sr4 ?ur4 ?dr4 ?ir4) (by assumption) ?rr4
        case Sr4 => exact (by intro w h; exact h.1)
        case ur4 => exact hunH
        case dr4 => rfl
        case ir4 => exact hzR
        (try simp only [List.getElem_toArray, List.getElem_cons_succ, List.getElem_cons_zero, Act.put, List.setIfInBounds_toArray, List.set_cons_zero, List.set_cons_succ])
        refine wpAnyH_ready (rs := [3]) (by kernel_rfl) (by simp) ?_
        refine AllReadyH.cons rfl (fun K hK => ?_) AllReadyH.nil
        go_simp
        go_wp2_with fail
        (with_reducible refine (meet_any R' p.m _).mono ?_)
        rintro e W8 ⟨rfl, hbm⟩
        rw [hF]
        have HA9' := Lib.hid (HA8.out.next hbm)
        have HO8 := Lib.hid (HO7.out.trans (OnlyD.of_below hbm))
        have HCK8 := Lib.hid (HCK7.out.onlyD (OnlyD.of_below (D := fun _ => False) hbm) (fun h => h))
        have HB14 := Lib.hid (HB14'.out.next hbm HB14'.out.lt)
        refine hK.out _ _ ⟨blk_range HB14.out, range_m (blk_range HA9'.out.sk.b5)⟩ (fun hHeld => ?_)
        clear hK K hbm HA8 HO7 HCK7 HB14'
        refine wpAnyH_take (i := 5) (v := ?vr5) rfl (by kernel_rfl) (by kernel_rfl) (by kernel_rfl) (fun _ _ _ h => h) (Or.inl ⟨by rfl, ?yr5⟩) (by assumption) ?rr5
        case yr5 => intro w hSw; (try dsimp only at hSw); go_simp <;> (try with_reducible rfl)
        (try simp only [List.getElem_toArray, List.getElem_cons_succ, List.getElem_cons_zero, Act.put, List.setIfInBounds_toArray, List.set_cons_zero, List.set_cons_succ])
        refine wpAnyH_done (by kernel_rfl) ?_ _
        clear hHeld he1
        cases D with
        | true =>
          have hsub : ∀ i, i < 160 → R' i = true → p.m i = true := fun i hi hr => by
            have e := of_decide_eq_true hDq.out
            have e2 := HI_inj e i hi
            rw [← hF, hr] at e2
            have e3 : R' i = true ∧ p.m i = true := by simpa using e2
            exact e3.2
          have HW2 := Lib.hid (Pat.why_one HOS.out HWHY.out hsub)
          clear hsub
          gi_wp2
          have hSd : W8.drew.rangeAt g14 0 (H R') := blk_range (HB14.out.next (below_drew W8) HB14.out.lt)
          refine wpIn_round_held (S := fun w' => w'.rangeAt g14 0 (H R')) (by kernel_rfl) (by kernel_rfl) (fun ⟨_, _, h⟩ => h) hSd (fun hHeld => ?_)
          have HAa' := Lib.hid (HA9'.out.next (below_drew W8))
          have HO9 := Lib.hid (HO8.out.trans (OnlyD.of_below (below_drew W8)))
          have HB14a := Lib.hid (HB14.out.next (below_drew W8) HB14.out.lt)
          clear hSd HA9' HO8 HB14 HCK8
          generalize W8.drew = W9 at hHeld HAa' HO9 HB14a ⊢
          refine wpAnyH_take (i := 0) (v := .agg Pat.zero.cells.toArray) rfl (by kernel_rfl) (by kernel_rfl) (by kernel_rfl) (fun _ _ _ h => h) (Or.inl ⟨by rfl, ?yb⟩) (by assumption) ?rb
          case yb =>
            intro w _
            exact run_execBuild (T := 25) (ps := #[]) w (by with_unfolding_all rfl) (by with_unfolding_all rfl) (fun w => run_buildP0 w)
          (try simp only [List.getElem_toArray, List.getElem_cons_zero, Act.put, List.setIfInBounds_toArray, List.set_cons_zero, List.set_cons_succ])
          refine' wpAnyH_take (i := 1) (v := _) rfl (by kernel_rfl) (by kernel_rfl) (by kernel_rfl) (fun _ _ _ h => h) (yieldsIf_load_mid (by rfl) _ _ (by rfl) _ _ (by rfl) _ _ ?St1 ?ut1 ?dt1 ?it1) (by assumption) ?rt1
          case St1 => exact (by intro w h; exact h)
          case ut1 => exact hunH
          case dt1 => rfl
          case it1 => exact hzR
          (try simp only [List.getElem_toArray, List.getElem_cons_succ, List.getElem_cons_zero, Act.put, List.setIfInBounds_toArray, List.set_cons_zero, List.set_cons_succ])
          refine wpAnyH_ready (rs := [2]) (by kernel_rfl) (by simp) ?_
          refine AllReadyH.cons rfl (fun K hK => ?_) AllReadyH.nil
          rw [if_pos (by rfl)]
          refine wp_put 25 (.tmp 7) (.tmp 62) rfl g7 0 rfl (.agg Pat.zero.cells.toArray) rfl HAa'.out.sk.b7 Pat.zero.cells rfl (by rw [Pat.cells_length]; exact Tryd.szP) (by rw [Pat.cells_length]; omega) (cells_one _) ?_
          intro Wa hua hBa7
          rw [splice_all _ _ (by rw [Pat.cells_length])] at hBa7
          have HAb' := Lib.hid (HAa'.out.put7 hua hBa7)
          have HOa := Lib.hid (HO9.out.trans (OnlyD.of_upd hua D789.out.1))
          have HB14b := Lib.hid (HB14a.out.upd hua (by omega))
          refine hK.out _ _ (blk_range HB14b.out) (fun hHeld => ?_)
          clear hK K hua hBa7 HAa' HO9 HB14a
          refine wpAnyH_ready (rs := [3]) (by kernel_rfl) (by simp) ?_
          refine AllReadyH.cons rfl (fun K hK => ?_) AllReadyH.nil
          rw [if_pos (by rfl)]
          refine wp_put 23 (.tmp 8) (.tmp 63) rfl g8 0 rfl (.agg (H R').toArray) rfl HAb'.out.sk.b8 (H R') rfl (by rw [H_length]; exact Tryd.szH) (by rw [H_length, H_length]; omega) (H_one _) ?_
          intro Wb hub hBb8
          rw [splice_all _ _ (by rw [H_length, H_length])] at hBb8
          have HAc' := Lib.hid (HAb'.out.put8 hub hBb8)
          have HOb := Lib.hid (HOa.out.trans (OnlyD.of_upd hub D789.out.2.1))
          have HB14c := Lib.hid (HB14b.out.upd hub (by omega))
          refine hK.out _ _ (blk_range HB14c.out) (fun hHeld => ?_)
          clear hK K hub hBb8 HAb' HOa HB14b
          refine wpAnyH_ready (rs := [4]) (by kernel_rfl) (by simp) ?_
          refine AllReadyH.cons rfl (fun K hK => ?_) AllReadyH.nil
          rw [if_pos (by rfl)]
          refine wp_put 4 (.tmp 9) (.const (.bool false)) rfl g9 0 rfl (.bool false) rfl HAc'.out.sk.b9 [.bool false] rfl (by exact Tryd.szBo) (by simp) (one_cell1 rfl) ?_
          intro Wc huc hBc9
          have hBc9' : Blk Wc g9 4 [.bool false] := hBc9
          have HAd' := Lib.hid (HAc'.out.put9 huc hBc9')
          have HOc := Lib.hid (HOb.out.trans (OnlyD.of_upd huc D789.out.2.2))
          refine hK.out _ _ (blk_range (HB14c.out.upd huc (by omega))) (fun hHeld => ?_)
          clear hK K huc hBc9 hBc9' HAc' HOb HB14c
          refine wpAnyH_done (by kernel_rfl) ?_ _
          clear hHeld
          gi_wp2
          exact ⟨HA.out.turns HAd'.out HOc.out HOR4.out, rfl, A3, c4, Pat.zero, R', false, HAd'.out, HOR5.out, .inr ⟨rfl, HW2.out⟩⟩
        | false =>
          have h14 := HB14.out
          have h8 := HA9'.out.sk.b8
          gi_wp2_with (first | (with_reducible refine wpListIn_get (o := ⟨some 64, .load 23 (.tmp 8), _, _, _, _⟩) (by with_unfolding_all rfl) 23 (.tmp 8) (by with_unfolding_all rfl) g8 0 (by with_unfolding_all rfl) h8 (H R) (cs_all _) _ (by exact Tryd.underlying23) (by with_unfolding_all rfl) (by rw [H_length]; exact Tryd.szH) ?_) | (with_reducible refine wpListIn_get (o := ⟨some 65, .load 23 (.tmp 14), _, _, _, _⟩) (by with_unfolding_all rfl) 23 (.tmp 14) (by with_unfolding_all rfl) g14 0 (by with_unfolding_all rfl) h14 (H R') (cs_all _) _ (by exact Tryd.underlying23) (by with_unfolding_all rfl) (by rw [H_length]; exact Tryd.szH) ?_) | fail)
          refine ⟨trivial, ((callsIn_wide).2 (join_any R R' _)).mono ?_⟩
          rintro e W9 ⟨rfl, hbj⟩
          have HAa' := Lib.hid (HA9'.out.next hbj)
          have HO9 := Lib.hid (HO8.out.trans (OnlyD.of_below hbj))
          have HCK9 := Lib.hid (HCK8.out.onlyD (OnlyD.of_below (D := fun _ => False) hbj) (fun h => h))
          have h8' := HAa'.out.sk.b8
          clear h8 h14 hbj HA9' HO8 HCK8 HB14
          gi_wp2_with (with_reducible refine wpListIn_put (o := ⟨none, .store 23 (.tmp 8) (.tmp 66), _, _, _, _⟩) (by with_unfolding_all rfl) 23 (.tmp 8) (.tmp 66) (by with_unfolding_all rfl) g8 0 (by with_unfolding_all rfl) (.agg (H fun i => R i || R' i).toArray) (by with_unfolding_all rfl) h8' (H fun i => R i || R' i) (by with_unfolding_all rfl) (by with_unfolding_all (rw [H_length]; exact Tryd.szH)) (by with_unfolding_all (rw [H_length, H_length]; omega)) (by with_unfolding_all (exact H_one _)) ?_)
          intro Wa hua hBa8
          rw [splice_all _ _ (by rw [H_length, H_length])] at hBa8
          have HAb' := Lib.hid (HAa'.out.put8 hua hBa8)
          have HOa := Lib.hid (HO9.out.trans (OnlyD.of_upd hua D789.out.2.1))
          have HCKa := Lib.hid (HCK9.out.onlyD (OnlyD.of_upd (D := fun g => g = g8) hua rfl) (by have := HNB.out gA rfl; have := hlo.out; have := hne.out; omega))
          clear hua hBa8 h8' HAa' HO9 HCK9
          gi_wp2
          refine ⟨HA.out.turns HAb'.out HOa.out HOR4.out, A3, c4, _, HAb'.out, HOR5.out, HCKa.out, fun i hi hm => by show (R i || R' i) = true; rw [HQR.out i hi hm]; rfl, fun y hy => ?_⟩
          rcases List.mem_append.1 hy with hy | hy
          · obtain ⟨R2, h1, h2⟩ := HDN.out y hy
            exact ⟨R2, h1, fun i hi hr => by show (R i || R' i) = true; rw [h2 i hi hr]; rfl⟩
          · rw [List.mem_singleton.1 hy, HXS.out]
            exact ⟨R', HWHY.out, fun i hi hr => by show (R i || R' i) = true; rw [hr, Bool.or_true]⟩
    case done =>
      rintro W ⟨A2, c3, R, hA, hor, hck, hqR, hdn⟩ hs hD hnD
      have hnn : n ≤ n1 := by omega
      have h789 : g7 < B7 ∧ g8 < B7 ∧ g9 < B7 := by have := hne.out; omega
      have HA := Lib.hid hA
      have HOR := Lib.hid hor
      have HQR := Lib.hid hqR
      have HDN := Lib.hid hdn
      have HND := Lib.hid hnD
      have HD := Lib.hid hD
      have h8 := hA.sk.b8
      have h5 := hA.sk.b5
      clear hA hor hck hqR hdn hnD hD
      go_wp2_with (first | (with_reducible refine wpList_build (o := ⟨some 67, .build 25 #[], _, _, _, _⟩) (by with_unfolding_all rfl) 25 #[] (by with_unfolding_all rfl) #[] (by with_unfolding_all rfl) (.agg Pat.zero.cells.toArray) (by with_unfolding_all exact fun w => run_buildP0 w) ?_) | (with_reducible refine wpList_get (o := ⟨some 68, .load 23 (.tmp 8), _, _, _, _⟩) (by with_unfolding_all rfl) 23 (.tmp 8) (by with_unfolding_all rfl) g8 0 (by with_unfolding_all rfl) h8 (H R) (cs_all _) _ (by exact Tryd.underlying23) (by with_unfolding_all rfl) (by rw [H_length]; exact Tryd.szH) ?_) | (with_reducible refine wpList_get (o := ⟨some 70, .load 23 (.tmp 69), _, _, _, _⟩) (by with_unfolding_all rfl) 23 (.tmp 69) (by with_unfolding_all rfl) g5 0 (by with_unfolding_all rfl) h5 (H p.m) (cells_take_m p) _ (by exact Tryd.underlying23) (by with_unfolding_all rfl) (by rw [H_length]; exact Tryd.szH) ?_) | fail)
      (with_reducible refine (meet_any R p.m _).mono ?_)
      rintro e W2 ⟨rfl, hbm⟩
      have HA2 := Lib.hid (HA.out.next hbm)
      have HD2 := Lib.hid ((hbm.block _ (Array.getElem?_eq_some_iff.1 HD.out).1).trans HD.out)
      have h7 := HA2.out.sk.b7
      clear h8 h5 hbm
      go_wp2_with (with_reducible refine wpList_put (o := ⟨none, .store 25 (.tmp 7) (.tmp 67), _, _, _, _⟩) (by with_unfolding_all rfl) 25 (.tmp 7) (.tmp 67) (by with_unfolding_all rfl) g7 0 (by with_unfolding_all rfl) (.agg Pat.zero.cells.toArray) (by with_unfolding_all rfl) h7 Pat.zero.cells (by with_unfolding_all rfl) (by with_unfolding_all (rw [Pat.cells_length]; exact Tryd.szP)) (by with_unfolding_all (rw [Pat.cells_length]; omega)) (by with_unfolding_all (exact cells_one _)) ?_)
      intro W3 hu3 hB3
      rw [splice_all _ _ (by rw [Pat.cells_length])] at hB3
      have HA3 := Lib.hid (HA2.out.put7 hu3 hB3)
      have HD3 := Lib.hid ((hu3.block _ (by omega)).trans HD2.out)
      have h8 := HA3.out.sk.b8
      clear h7 hu3 hB3 HA2 HD2
      go_wp2_with (with_reducible refine wpList_put (o := ⟨none, .store 23 (.tmp 8) (.tmp 71), _, _, _, _⟩) (by with_unfolding_all rfl) 23 (.tmp 8) (.tmp 71) (by with_unfolding_all rfl) g8 0 (by with_unfolding_all rfl) (.agg (H fun i => R i && p.m i).toArray) (by with_unfolding_all rfl) h8 (H fun i => R i && p.m i) (by with_unfolding_all rfl) (by with_unfolding_all (rw [H_length]; exact Tryd.szH)) (by with_unfolding_all (rw [H_length, H_length]; omega)) (by with_unfolding_all (exact H_one _)) ?_)
      intro W4 hu4 hB4
      rw [splice_all _ _ (by rw [H_length, H_length])] at hB4
      have HA4 := Lib.hid (HA3.out.put8 hu4 hB4)
      have HD4 := Lib.hid ((hu4.block _ (by omega)).trans HD3.out)
      have h9 := HA4.out.sk.b9
      clear h8 hu4 hB4 HA3 HD3
      go_wp2_with (with_reducible refine wpList_put (o := ⟨none, .store 4 (.tmp 9) (.const (.bool false)), _, _, _, _⟩) (by with_unfolding_all rfl) 4 (.tmp 9) (.const (.bool false)) (by with_unfolding_all rfl) g9 0 (by with_unfolding_all rfl) (.bool false) (by with_unfolding_all rfl) h9 [(.bool false)] (by with_unfolding_all rfl) (by with_unfolding_all exact Tryd.szBo) (by with_unfolding_all simp) (by with_unfolding_all exact one_cell1 rfl) ?_)
      intro W5 hu5 hB5x
      have hB5' : Blk W5 g9 4 [.bool false] := hB5x
      have HA5 := Lib.hid (HA4.out.put9 hu5 hB5')
      have HD5 := Lib.hid ((hu5.block _ (by omega)).trans HD4.out)
      clear h9 hu5 hB5x hB5' HA4 HD4
      have hwhy := Pat.why_all (l := l) (p := p) (q := q) (R := R) (List.mem_of_getElem? HQ.out) HO.out HQR.out (fun s hs hos => HDN.out (p.piece q s) (by
        unfold Pat.pieces onesTo
        exact List.mem_map.2 ⟨s, List.mem_filter.2 ⟨List.mem_range.2 hs, hos⟩, rfl⟩))
      have HWHY := Lib.hid hwhy
      clear hwhy
      have hDn : (Value.slice A2 n1 c3).ownBlock ≠ some wd2.heap.size := fun e => HND.out (.inr (.inr (.inr (.inr ⟨_, HA.out.near.bn, e⟩))))
      go_wp2
      refine cut_ret2 (gn := gn) (g10 := g10) HD5.out hDn (by omega) (by omega) hnn HA5.out.near.own HA5.out.near.bn HA5.out.sk.b10 (fun w' hB' hu => ?_)
      have hP := HA5.out.fresh (D := fun g => g = wd2.heap.size) (OnlyD.of_only (only_put wd2.heap.size W5 (.deferred none)) |>.mono (fun g hg => by simpa using hg)) (fun g e => ⟨by rw [e]; exact hBd2, fun h => hDn (e ▸ h)⟩)
      have hS := hP.sk.onlyD (OnlyD.of_upd (D := fun g => g = gn) hu rfl) (fun g e => by omega)
      refine ⟨_, results_seek rfl _ _ rfl rfl rfl hS.b7 hS.b8 hS.b9, ?_⟩
      refine seek_fin (by rw [hbn.out]; exact HBN.out) (by rw [hbn.out]; exact hP.frs) hP.near hnn ?_ ?_ (.inr ⟨rfl, HWHY.out⟩) hB' hu
      · exact List.take_left' (by have := HN0.out.own.1; rw [List.length_map] at this; omega)
      · rw [hbn.out]
        exact HOR.out.imp id (fun h g hg => by have := h g hg; omega)
    case stop =>
      rintro co pre W hpre ⟨rfl, A2, c3, part, R, ok, hA, hor, hsr⟩ hWs hD hnD
      have hnn : n ≤ n1 := by omega
      gi_wp2
      refine cut_ret2 (gn := gn) (g10 := g10) hD (fun e => hnD (.inr (.inr (.inr (.inr ⟨_, hA.near.bn, e⟩))))) (by omega) (by omega) hnn hA.near.own hA.near.bn hA.sk.b10 (fun w' hB' hu => ?_)
      have hP := hA.fresh (D := fun g => g = wd2.heap.size) (OnlyD.of_only (only_put wd2.heap.size W (.deferred none)) |>.mono (fun g hg => by simpa using hg)) (fun g e => ⟨by rw [e]; exact hBd2, fun h => hnD (.inr (.inr (.inr (.inr ⟨_, hA.near.bn, e ▸ h⟩))))⟩)
      have hS := hP.sk.onlyD (OnlyD.of_upd (D := fun g => g = gn) hu rfl) (fun g e => by omega)
      refine ⟨_, results_seek rfl _ _ rfl rfl rfl hS.b7 hS.b8 hS.b9, ?_⟩
      refine seek_fin (by rw [hbn.out]; exact HBN.out) (by rw [hbn.out]; exact hP.frs) hP.near hnn ?_ ?_ hsr hB' hu
      · exact List.take_left' (by have := HN0.out.own.1; rw [List.length_map] at this; omega)
      · rw [hbn.out]
        exact hor.imp id (fun h g hg => by have := h g hg; omega)
end Go.Proofs.YtkkgfdfjgfigcaaDoor
