/-
  Contracts of the functions that the statement calls, part 7 of 25 (merged texts: Bu, Bv, Bw, Bx, By, Bz, Ca, Cb, Ra, Rb, Rc, Rd, Re, Rf, Rg, Rh, Ri, Rj, Rk). Conditions: as the head of each part says.
-/
import Derived.Test.YtkkgfdfjgfigcaaDoorGF
import Derived.Lib.BitFns
import Derived.Test.YtkkgfdfjgfigcaaDoorGE

/-
  Contract of the walk over math/bits.OnesCount16. Conditions: none.
-/
namespace Go.Proofs.YtkkgfdfjgfigcaaDoor
set_option linter.unusedVariables false
set_option linter.unusedSimpArgs false
open Go.RowKit

/-- How many of the k bits from b on a head has. -/
def cnt (f : Nat → Bool) (b : Nat) : Nat → Nat
  | 0 => 0
  | k + 1 => cnt f b k + (f (b + k)).toNat
theorem cnt_le (f : Nat → Bool) (b : Nat) : ∀ k, cnt f b k ≤ k
  | 0 => Nat.le_refl _
  | k + 1 => by
    have := cnt_le f b k
    have := Bool.toNat_le (f (b + k))
    unfold cnt; omega
theorem cnt_add (f : Nat → Bool) (b k : Nat) : ∀ m, cnt f b (k + m) = cnt f b k + cnt f (b + k) m
  | 0 => rfl
  | m + 1 => by
    have h1 : cnt f b (k + (m + 1)) = cnt f b (k + m) + (f (b + (k + m))).toNat := rfl
    have h2 : cnt f (b + k) (m + 1) = cnt f (b + k) m + (f (b + k + m)).toNat := rfl
    rw [h1, h2, cnt_add f b k m, Nat.add_assoc b k m]; omega
theorem pop_zero : ∀ fuel, Lib.popAux fuel 0 = 0
  | 0 => rfl
  | k + 1 => by unfold Lib.popAux; rw [show 0 / 2 = 0 from rfl, pop_zero k]
theorem pop_word (f : Nat → Bool) (b : Nat) : ∀ k fuel, k ≤ fuel → Lib.popAux fuel (wordB f b k) = cnt f b k
  | 0, fuel, _ => pop_zero fuel
  | k + 1, 0, h => absurd h (by omega)
  | k + 1, fuel + 1, h => by
    have hc := Bool.toNat_le (f (b + k))
    have e1 : (2 * wordB f b k + (f (b + k)).toNat) % 2 = (f (b + k)).toNat := by omega
    have e2 : (2 * wordB f b k + (f (b + k)).toNat) / 2 = wordB f b k := by omega
    unfold wordB Lib.popAux cnt
    rw [e1, e2, pop_word f b k fuel (by omega)]; omega
theorem count_word (f : Nat → Bool) (w : Nat) : Lib.onesCount (word f w / 256) + Lib.onesCount (word f w % 256) = cnt f (16 * w) 16 := by
  have h := wordB_add f (16 * w) 8 8
  have h1 := wordB_lt f (16 * w + 8) 8
  have h2 : word f w = wordB f (16 * w) 8 * 256 + wordB f (16 * w + 8) 8 := h
  have e1 : word f w / 256 = wordB f (16 * w) 8 := by omega
  have e2 : word f w % 256 = wordB f (16 * w + 8) 8 := by omega
  rw [e1, e2]
  unfold Lib.onesCount
  rw [pop_word f _ 8 64 (by omega), pop_word f _ 8 64 (by omega)]
  exact (cnt_add f (16 * w) 8 8).symm
theorem pop_at (u : Nat) (h : u < 256) (a : UInt8) (ea : Lib.pop8tab[u]'(by rw [Lib.pop8tab_size]; exact h) = a) : (a.toNat : Int) = (Lib.onesCount u : Int) := by
  have e := Lib.pop8_eq ⟨u, h⟩
  unfold Lib.pop8 at e
  rw [Int.toNat_natCast] at e
  have hh : u < Lib.pop8tab.size := by rw [Lib.pop8tab_size]; exact h
  rw [getElem?_pos Lib.pop8tab u hh, Option.getD_some, ea] at e
  exact e
set_option maxRecDepth 100000 in
set_option maxHeartbeats 1600000 in
theorem ones16_any (n : Nat) (w : World) (hn : n < 65536) :
    Calls Tryd.prog 207 #[.int .u16 (n : Int)] w (Reads (.int .i64 ((Lib.onesCount (n / 256) + Lib.onesCount (n % 256) : Nat) : Int)) w) := by
  have h0 : (0 : Int) ≤ (n : Int) := by omega
  have h1 : (n : Int) < 65536 := by omega
  obtain ⟨u, hu⟩ : ∃ u, n / 256 = u := ⟨_, rfl⟩
  obtain ⟨v, hv⟩ : ∃ v, n % 256 = v := ⟨_, rfl⟩
  have hu8 : u < 256 := by omega
  have hv8 : v < 256 := by omega
  have ha : bits BinOp.and IntKind.u16 (n : Int) 255 = (v : Int) := by
    show IntKind.u16.wrap (((BitVec.ofInt 16 (n : Int) &&& BitVec.ofInt 16 255).toNat : Nat) : Int) = _
    have e : (BitVec.ofInt 16 255).toNat = 2 ^ 8 - 1 := by decide
    rw [BitVec.toNat_and, e, Nat.and_two_pow_sub_one_eq_mod, BitVec.toNat_ofInt, IntKind.wrap_u16]
    omega
  have hs : (n : Int) / 256 = (u : Int) := by omega
  have u0 : (0 : Int) ≤ (u : Int) := by omega
  have u1 : (u : Int) < 256 := by omega
  have v0 : (0 : Int) ≤ (v : Int) := by omega
  have v1 : (v : Int) < 256 := by omega
  have ut : (u : Int).toNat = u := Int.toNat_natCast u
  have vt : (v : Int).toNat = v := Int.toNat_natCast v
  rw [hu, hv]
  clear hu hv
  have hsz := Lib.pop8tab_size
  obtain ⟨a, ea⟩ : ∃ a : UInt8, Lib.pop8tab[u]'(by rw [hsz]; exact hu8) = a := ⟨_, rfl⟩
  obtain ⟨b, eb⟩ : ∃ b : UInt8, Lib.pop8tab[v]'(by rw [hsz]; exact hv8) = b := ⟨_, rfl⟩
  have pa := pop_at u hu8 a ea
  have pb := pop_at v hv8 b eb
  have EA : ∀ h : u < Lib.pop8tab.size, Lib.pop8tab[u]'h = a := fun _ => ea
  have EB : ∀ h : v < Lib.pop8tab.size, Lib.pop8tab[v]'h = b := fun _ => eb
  have la := Lib.onesCount_le8 ⟨u, hu8⟩
  have lb := Lib.onesCount_le8 ⟨v, hv8⟩
  have PA := Lib.hid pa
  have PB := Lib.hid pb
  have LA : Lib.onesCount u ≤ 8 := la
  have LB : Lib.onesCount v ≤ 8 := lb
  clear ea eb pa pb la lb
  go_enter Tryd.func207, Tryd.ntmps207
  go_wp2
  go_quiet (fail)
  have e : ((a.toNat : Int) + (b.toNat : Int)) % 256 = ((Lib.onesCount u + Lib.onesCount v : Nat) : Int) := by rw [PA.out, PB.out]; omega
  rw [e]
  clear EA EB hsz
  go_wp2
  go_ret
  exact ⟨rfl, nq, rfl⟩
/-- What one word adds. -/
structure CntF (f : Nat → Bool) (k x c0 c1 : Nat) : Prop where
  one : Lib.onesCount (x / 256) + Lib.onesCount (x % 256) = c1
  all : cnt f 0 (16 * (k + 1)) = c0 + c1
def CountRel (f : Nat → Bool) (ga : Nat) (w : World) (n i : Value) (wr : World) : Prop :=
  ∃ k : Nat, k ≤ 10 ∧ i = .int .i64 k ∧ n = .int .i64 (cnt f 0 (16 * k) : Int) ∧ Blk wr ga 23 (H f) ∧ Below w.heap.size w wr
set_option maxRecDepth 1000000 in
set_option maxHeartbeats 1600000 in
theorem count_any (f : Nat → Bool) (w : World) :
    Calls Tryd.prog 148 #[.agg (H f).toArray] w fun e w' => e = .returned (.int .i64 (cnt f 0 160 : Int)) ∧ Below w.heap.size w w' := by
  go_enter Tryd.func148, Tryd.ntmps148
  go_wp2_with (with_reducible refine wpList_box (o := ⟨some 1, .box 23 (.tmp 0), _, _, _, _⟩) ?g1 23 (.tmp 0) ?o1 (.agg (H f).toArray) (H f) ?x1 ?c1 ?_)
  try (case g1 => rfl)
  try (case o1 => rfl)
  try (case x1 => rfl)
  try (case c1 => rfl)
  intro ga w1 hga hs1 hb1 hA1
  have hbel : Below w.heap.size w w1 := hb1.mono (Nat.le_of_eq hga.out.symm)
  clear hb1 hga hs1
  go_wp2_with (with_reducible refine wpList_get (o := ⟨some 6, .load 23 (.tmp 1), _, _, _, _⟩) (by with_unfolding_all rfl) 23 (.tmp 1) (by with_unfolding_all rfl) ga 0 (by with_unfolding_all rfl) hA1 (H f) (cs_all _) _ (by exact Tryd.underlying23) (by with_unfolding_all rfl) (by rw [H_length]; exact Tryd.szH) ?_)
  go_wp2
  go_loopw [3, 7] (CountRel f ga w) (fun _ i _ => 10 - (intOf i).toNat)
  case atStart => exact ⟨0, by omega, rfl, rfl, hA1, hbel⟩
  case round =>
    clear hA1 hbel
    obtain ⟨k, hk, rfl, rfl, hA, hbel⟩ := hrel
    have hcl := cnt_le f 0 (16 * k)
    by_cases hlt : k < 10
    · obtain ⟨x, hx⟩ : ∃ x, Hid (word f k = x) := ⟨_, rfl⟩
      obtain ⟨c0, hc0⟩ : ∃ c, Hid (cnt f 0 (16 * k) = c) := ⟨_, rfl⟩
      obtain ⟨c1, hc1⟩ : ∃ c, Hid (cnt f (16 * k) 16 = c) := ⟨_, rfl⟩
      have hwl := word_lt f k
      have hcw := count_word f k
      have hca := cnt_add f 0 (16 * k) 16
      have hc2 := cnt_le f (16 * k) 16
      have hHk := H_get f hlt
      rw [Nat.zero_add] at hca
      rw [hc0.out] at hcl hca ⊢
      rw [hc1.out] at hcw hca hc2
      rw [hx.out] at hwl hcw hHk
      have HHk := Lib.hid hHk
      have HC : CntF f k x c0 c1 := ⟨hcw, by rw [show 16 * (k + 1) = 16 * k + 16 by omega]; exact hca⟩
      clear hHk hcw hca hx hc0 hc1
      have hx0 : (0 : Int) ≤ (x : Int) := by omega
      have hx1 : (x : Int) < 65536 := by omega
      have HWL := Lib.hid hwl
      have HCL := Lib.hid hcl
      have HC2 := Lib.hid hc2
      clear hwl hcl hc2
      go_wp2_with (with_reducible refine wpList_idx (o := ⟨some 9, .index 23 (.tmp 6) (.tmp 7), _, _, _, _⟩) (by with_unfolding_all rfl) 23 (.tmp 6) (.tmp 7) (by with_unfolding_all rfl) 3 10 k (H f) (.int .i64 (x : Int)) (.int .i64) (by with_unfolding_all rfl) (by with_unfolding_all rfl) (by with_unfolding_all exact Tryd.underlying23) (by with_unfolding_all exact Tryd.szI) (by with_unfolding_all exact Tryd.underlying3) (by with_unfolding_all rfl) hlt HHk.out ?_)
      (with_reducible refine (ones16_any x _ HWL.out).mono ?_)
      rintro e w2 ⟨rfl, n, rfl⟩
      rw [HC.one]
      have hA2 := hA.drewN n
      have hb2 := hbel.trans ((below_drewN wr n).mono hbel.size)
      clear hA hbel
      generalize wr.drewN n = w2 at hA2 hb2 ⊢
      have k1 : c0 ≤ 160 := by have := HCL.out; omega
      have k2 := HC2.out
      go_wp2
      go_roundw
      case rel => exact ⟨k + 1, by omega, by go_num, by rw [HC.all]; go_num, hA2, hb2⟩
      case measure => simp [intOf]; omega
    · obtain rfl : k = 10 := by omega
      go_wp2
      go_ret
      exact ⟨rfl, hbel⟩
end Go.Proofs.YtkkgfdfjgfigcaaDoor

/-
  Contracts of the walks over Then, Image and Back: two halves made by two calls. Conditions: none.
-/
namespace Go.Proofs.YtkkgfdfjgfigcaaDoor
set_option linter.unusedVariables false
set_option linter.unusedSimpArgs false
open Go.RowKit

theorem at_all {w : World} {g : Nat} {t : TypeId} {p : Pat} (h : Blk w g t p.cells) : w.rangeAt g 0 p.cells := fun j v hv => by
  rw [Nat.zero_add]; exact h.cell hv
/-- The mod that does m, and then n; what a mod makes of a pattern. -/
def Pat.then (p q : Pat) : Pat := ⟨fun i => p.m i || q.m i, q.app p.b⟩
def Pat.image (p q : Pat) : Pat := ⟨fun i => p.m i || q.m i, q.app p.b⟩
set_option maxRecDepth 100000 in
set_option maxHeartbeats 1600000 in
theorem then_any (p q : Pat) (w : World) :
    Calls Tryd.prog 83 #[.agg p.cells.toArray, .agg q.cells.toArray] w fun e w' => e = .returned (.agg (p.then q).cells.toArray) ∧ Below w.heap.size w w' := by
  obtain ⟨X, hX⟩ : ∃ X, Hid (p.then q = X) := ⟨_, rfl⟩
  rw [hX.out]
  go_enter Tryd.func83, Tryd.ntmps83
  go_wp2_with (with_reducible refine wpList_box (o := ⟨some 2, .box 88 (.tmp 0), _, _, _, _⟩) ?g1 88 (.tmp 0) ?o1 (.agg p.cells.toArray) p.cells ?x1 ?c1 ?_)
  try (case g1 => rfl)
  try (case o1 => rfl)
  try (case x1 => rfl)
  try (case c1 => rfl)
  intro gp w1 hgp hs1 hb1 hP1
  go_wp2_with (with_reducible refine wpList_box (o := ⟨some 3, .box 88 (.tmp 1), _, _, _, _⟩) ?g2 88 (.tmp 1) ?o2 (.agg q.cells.toArray) q.cells ?x2 ?c2 ?_)
  try (case g2 => rfl)
  try (case o2 => rfl)
  try (case x2 => rfl)
  try (case c2 => rfl)
  intro gq w2 hgq hs2 hb2 hQ2
  go_wp2_with (with_reducible refine wpList_alloc (o := ⟨some 4, .alloc 88, _, _, _, _⟩) (by with_unfolding_all rfl) 88 (by with_unfolding_all rfl) (.agg (H no ++ H no).toArray) (H no ++ H no) (by exact Tryd.zeroMd) (by with_unfolding_all rfl) ?_)
  intro gr w3 hgr hs3 hb3 hR4
  rw [cells_zero] at hR4
  have hle : w.heap.size ≤ gp := Nat.le_of_eq hgp.out.symm
  have hab : gp < gq := by have := hgp.out; have := hs1.out; have := hgq.out; omega
  have hbr : gq < gr := by have := hgq.out; have := hs2.out; have := hgr.out; omega
  have hP4 := (hP1.next hb2 hab).next hb3 (by omega)
  have hQ4 := hQ2.next hb3 hbr
  have hb4 := ((hb1.mono hle).trans (hb2.mono (by omega))).trans (hb3.mono (by omega : w.heap.size ≤ gr))
  clear hgp hs1 hb1 hP1 hgq hs2 hb2 hQ2 hgr hs3 hb3
  go_wp2
  have hrg : ∀ w', Below w3.heap.size w3 w' → w'.rangeAt gp 0 (H p.m) ∧ w'.rangeAt gp 10 (H p.b) ∧ w'.rangeAt gq 0 (H q.m) ∧ w'.rangeAt gq 0 q.cells := fun w' h => ⟨at_m (hP4.next h hP4.lt), at_b (hP4.next h hP4.lt), at_m (hQ4.next h hQ4.lt), at_all (hQ4.next h hQ4.lt)⟩
  have hun := Tryd.underlying23
  have hunQ := Tryd.underlying88
  have hz1 : (Tryd.prog.info? 23).map (·.size) = some (H p.m).length := by rw [H_length]; exact Tryd.szH
  have hz2 : (Tryd.prog.info? 23).map (·.size) = some (H p.b).length := by rw [H_length]; exact Tryd.szH
  have hz3 : (Tryd.prog.info? 23).map (·.size) = some (H q.m).length := by rw [H_length]; exact Tryd.szH
  have hz4 : (Tryd.prog.info? 88).map (·.size) = some q.cells.length := by rw [Pat.cells_length]; exact Tryd.szM
  have HRG := Lib.hid hrg
  have hdd := below_drew w3
  have hR5 := hR4.next hdd hR4.lt
  clear hrg
  refine wp_region_held_drew (S := fun w' => w'.rangeAt gp 0 (H p.m) ∧ w'.rangeAt gp 10 (H p.b) ∧ w'.rangeAt gq 0 (H q.m) ∧ w'.rangeAt gq 0 q.cells) (by kernel_rfl) (HRG.out _ hdd) (fun hHeld => ?_)
  generalize w3.drew = wd at hdd hHeld hR5 ⊢
  refine wpAnyH_take (i := 0) (v := ?vv0) rfl (by kernel_rfl) (by kernel_rfl) (by kernel_rfl) (fun _ _ _ h => h) (Or.inl ⟨by rfl, ?yv0⟩) (by assumption) ?rv0
  case yv0 => intro w hSw; (try dsimp only at hSw); go_simp <;> (try with_reducible rfl)
  (try simp only [List.getElem_toArray, List.getElem_cons_zero, Act.put, List.setIfInBounds_toArray, List.set_cons_zero, List.set_cons_succ])
  refine' wpAnyH_take (i := 1) (v := _) rfl (by kernel_rfl) (by kernel_rfl) (by kernel_rfl) (fun _ _ _ h => h) (yieldsIf_load_mid (by rfl) _ _ (by rfl) _ _ (by rfl) _ _ ?Sv1 ?uv1 ?dv1 ?iv1) (by assumption) ?rv1
  case Sv1 => exact (by intro w h; exact h.1)
  case uv1 => exact hun
  case dv1 => rfl
  case iv1 => exact hz1
  (try simp only [List.getElem_toArray, List.getElem_cons_succ, List.getElem_cons_zero, Act.put, List.setIfInBounds_toArray, List.set_cons_zero, List.set_cons_succ])
  refine wpAnyH_take (i := 2) (v := ?vv2) rfl (by kernel_rfl) (by kernel_rfl) (by kernel_rfl) (fun _ _ _ h => h) (Or.inl ⟨by rfl, ?yv2⟩) (by assumption) ?rv2
  case yv2 => intro w hSw; (try dsimp only at hSw); go_simp <;> (try with_reducible rfl)
  (try simp only [List.getElem_toArray, List.getElem_cons_succ, List.getElem_cons_zero, Act.put, List.setIfInBounds_toArray, List.set_cons_zero, List.set_cons_succ])
  refine' wpAnyH_take (i := 3) (v := _) rfl (by kernel_rfl) (by kernel_rfl) (by kernel_rfl) (fun _ _ _ h => h) (yieldsIf_load_mid (by rfl) _ _ (by rfl) _ _ (by rfl) _ _ ?Sv3 ?uv3 ?dv3 ?iv3) (by assumption) ?rv3
  case Sv3 => exact (by intro w h; exact h.2.2.1)
  case uv3 => exact hun
  case dv3 => rfl
  case iv3 => exact hz3
  (try simp only [List.getElem_toArray, List.getElem_cons_succ, List.getElem_cons_zero, Act.put, List.setIfInBounds_toArray, List.set_cons_zero, List.set_cons_succ])
  refine' wpAnyH_take (i := 5) (v := _) rfl (by kernel_rfl) (by kernel_rfl) (by kernel_rfl) (fun _ _ _ h => h) (yieldsIf_load_mid (by rfl) _ _ (by rfl) _ _ (by rfl) _ _ ?Sv5 ?uv5 ?dv5 ?iv5) (by assumption) ?rv5
  case Sv5 => exact (by intro w h; exact h.2.2.2)
  case uv5 => exact hunQ
  case dv5 => rfl
  case iv5 => exact hz4
  (try simp only [List.getElem_toArray, List.getElem_cons_succ, List.getElem_cons_zero, Act.put, List.setIfInBounds_toArray, List.set_cons_zero, List.set_cons_succ])
  refine wpAnyH_take (i := 6) (v := ?vv6) rfl (by kernel_rfl) (by kernel_rfl) (by kernel_rfl) (fun _ _ _ h => h) (Or.inl ⟨by rfl, ?yv6⟩) (by assumption) ?rv6
  case yv6 => intro w hSw; (try dsimp only at hSw); go_simp <;> (try with_reducible rfl)
  (try simp only [List.getElem_toArray, List.getElem_cons_succ, List.getElem_cons_zero, Act.put, List.setIfInBounds_toArray, List.set_cons_zero, List.set_cons_succ])
  refine' wpAnyH_take (i := 7) (v := _) rfl (by kernel_rfl) (by kernel_rfl) (by kernel_rfl) (fun _ _ _ h => h) (yieldsIf_load_mid (by rfl) _ _ (by rfl) _ _ (by rfl) _ _ ?Sv7 ?uv7 ?dv7 ?iv7) (by assumption) ?rv7
  case Sv7 => exact (by intro w h; exact h.2.1)
  case uv7 => exact hun
  case dv7 => rfl
  case iv7 => exact hz2
  (try simp only [List.getElem_toArray, List.getElem_cons_succ, List.getElem_cons_zero, Act.put, List.setIfInBounds_toArray, List.set_cons_zero, List.set_cons_succ])
  refine wpAnyH_ready (rs := [4]) (by kernel_rfl) (by simp) ?_
  refine AllReadyH.cons rfl (fun K hK => ?_) AllReadyH.nil
  go_simp
  go_wp2_with fail
  (with_reducible refine (join_any p.m q.m _).mono ?_)
  rintro e wA ⟨rfl, hbA⟩
  have hkA := below_join hdd hbA
  have hRA := hR5.next hbA hR5.lt
  refine hK.out _ _ (HRG.out _ hkA) (fun hHeld => ?_)
  clear hK K hdd hbA hR5
  refine wpAnyH_ready (rs := [8]) (by kernel_rfl) (by simp) ?_
  refine AllReadyH.cons rfl (fun K hK => ?_) AllReadyH.nil
  go_simp
  go_wp2_with fail
  (with_reducible refine (apply_any q p.b _).mono ?_)
  rintro e wB ⟨rfl, hbB⟩
  have hkB := below_join hkA hbB
  have hRB := hRA.next hbB hRA.lt
  refine hK.out _ _ (HRG.out _ hkB) (fun hHeld => ?_)
  clear hK K hkA hbB hRA
  rw [show (fun i => p.m i || q.m i) = (p.then q).m from rfl, show q.app p.b = (p.then q).b from rfl, hX.out]
  have hbd : ∀ w, (Instr.build 88 #[(0, .agg (H X.m).toArray), (1, .agg (H X.b).toArray)]).run Tryd.prog w = .ok (.agg X.cells.toArray) w := fun w => run_buildM w _ _ (H_length _) (H_length _)
  refine wpAnyH_take (i := 9) (v := .agg X.cells.toArray) rfl (by kernel_rfl) (by kernel_rfl) (by kernel_rfl) (fun _ _ _ h => h) (Or.inl ⟨by rfl, ?yb⟩) (by assumption) ?rb
  case yb =>
    intro w _
    exact run_execBuild (T := 88) (ps := #[(0, .tmp 9), (1, .tmp 13)]) w (by with_unfolding_all rfl) (by with_unfolding_all rfl) hbd
  (try simp only [List.getElem_toArray, List.getElem_cons_succ, List.getElem_cons_zero, Act.put, List.setIfInBounds_toArray, List.set_cons_zero, List.set_cons_succ])
  refine wpAnyH_ready (rs := [10]) (by kernel_rfl) (by simp) ?_
  refine AllReadyH.cons rfl (fun K hK => ?_) AllReadyH.nil
  rw [if_pos (by rfl)]
  refine wp_put 88 (.tmp 4) (.tmp 14) rfl gr 0 rfl (.agg X.cells.toArray) rfl hRB X.cells rfl (by rw [Pat.cells_length]; exact Tryd.szM) (by rw [Pat.cells_length, Pat.cells_length]; omega) (cells_one _) ?_
  intro wC huC hRC
  rw [splice_all _ _ (by rw [Pat.cells_length, Pat.cells_length])] at hRC
  have hPC := (hP4.next hkB hP4.lt).upd huC (by omega)
  have hQC := (hQ4.next hkB hQ4.lt).upd huC (by omega)
  refine hK.out _ _ ⟨at_m hPC, at_b hPC, at_m hQC, at_all hQC⟩ (fun hHeld => ?_)
  clear hK K
  have hbC := (hb4.trans (hkB.mono hb4.size)).trans (huC.below (B := w.heap.size) (by omega))
  refine wpAnyH_done (by kernel_rfl) ?_ _
  go_wp2
  refine bodyPost_ret (results_cell_row rfl _ _ gr _ _ _ _ rfl hRC Tryd.underlying88 rfl (by rw [List.size_toArray, Pat.cells_length]; exact Tryd.szM)) rfl ⟨rfl, hbC⟩





















































































































def Pat.back (p q : Pat) : Pat := ⟨fun i => p.m i && !q.m i, fun i => p.b i && !q.m i⟩
def Pat.backV (p q : Pat) : Pat := if p.over q then p.back q else .zero
set_option maxRecDepth 100000 in
set_option maxHeartbeats 1600000 in
theorem back_any (p q : Pat) (w : World) :
    Calls Tryd.prog 84 #[.agg p.cells.toArray, .agg q.cells.toArray] w fun e w' => e = .returned (.tuple #[.agg (p.backV q).cells.toArray, .bool (decide (p.over q))]) ∧ Below w.heap.size w w' := by
  obtain ⟨D, hD⟩ : ∃ D, Hid (decide (p.over q) = D) := ⟨_, rfl⟩
  obtain ⟨X, hX⟩ : ∃ X, Hid (p.backV q = X) := ⟨_, rfl⟩
  rw [hD.out, hX.out]
  have hXv : Hid (if D = true then X = p.back q else X = .zero) := by
    have : if D = true then X = p.back q else X = .zero := by
      rw [← hX.out, ← hD.out]
      unfold Pat.backV
      by_cases h : p.over q
      · rw [if_pos h, if_pos (decide_eq_true h)]
      · rw [if_neg h, if_neg (by rw [decide_eq_false h]; decide)]
    exact this
  go_enter Tryd.func84, Tryd.ntmps84
  go_wp2_with (with_reducible refine wpList_box (o := ⟨some 2, .box 25 (.tmp 0), _, _, _, _⟩) ?g1 25 (.tmp 0) ?o1 (.agg p.cells.toArray) p.cells ?x1 ?c1 ?_)
  try (case g1 => rfl)
  try (case o1 => rfl)
  try (case x1 => rfl)
  try (case c1 => rfl)
  intro gp w1 hgp hs1 hb1 hP1
  go_wp2_with (with_reducible refine wpList_box (o := ⟨some 3, .box 88 (.tmp 1), _, _, _, _⟩) ?g2 88 (.tmp 1) ?o2 (.agg q.cells.toArray) q.cells ?x2 ?c2 ?_)
  try (case g2 => rfl)
  try (case o2 => rfl)
  try (case x2 => rfl)
  try (case c2 => rfl)
  intro gq w2 hgq hs2 hb2 hQ2
  go_wp2_with (with_reducible refine wpList_alloc (o := ⟨some 4, .alloc 25, _, _, _, _⟩) (by with_unfolding_all rfl) 25 (by with_unfolding_all rfl) (.agg (H no ++ H no).toArray) (H no ++ H no) (by exact Tryd.zeroPt) (by with_unfolding_all rfl) ?_)
  intro gr w3 hgr hs3 hb3 hR3
  rw [cells_zero] at hR3
  have hle : w.heap.size ≤ gp := Nat.le_of_eq hgp.out.symm
  have hab : gp < gq := by have := hgp.out; have := hs1.out; have := hgq.out; omega
  have hbr : gq < gr := by have := hgq.out; have := hs2.out; have := hgr.out; omega
  have hP3 := (hP1.next hb2 hab).next hb3 (by omega)
  have hQ3 := hQ2.next hb3 hbr
  have hbel := ((hb1.mono hle).trans (hb2.mono (by omega))).trans (hb3.mono (by omega : w.heap.size ≤ gr))
  clear hgp hs1 hb1 hP1 hgq hs2 hb2 hQ2 hgr hs3 hb3
  go_wp2_with (first | (with_reducible refine wpList_get (o := ⟨some 6, .load 25 (.tmp 2), _, _, _, _⟩) (by with_unfolding_all rfl) 25 (.tmp 2) (by with_unfolding_all rfl) gp 0 (by with_unfolding_all rfl) hP3 p.cells (cs_all _) _ (by exact Tryd.underlying25) (by with_unfolding_all rfl) (by rw [Pat.cells_length]; exact Tryd.szP) ?_) | (with_reducible refine wpList_get (o := ⟨some 7, .load 88 (.tmp 3), _, _, _, _⟩) (by with_unfolding_all rfl) 88 (.tmp 3) (by with_unfolding_all rfl) gq 0 (by with_unfolding_all rfl) hQ3 q.cells (cs_all _) _ (by exact Tryd.underlying88) (by with_unfolding_all rfl) (by rw [Pat.cells_length]; exact Tryd.szM) ?_))
  (with_reducible refine (overlapV_any p q _).mono ?_)
  rintro e w4 ⟨rfl, hb⟩
  rw [hD.out]
  have hP4 := hP3.next hb hP3.lt
  have hQ4 := hQ3.next hb hQ3.lt
  have hR4 := hR3.next hb hR3.lt
  have hb4 := hbel.trans (hb.mono hbel.size)
  clear hP3 hQ3 hR3 hbel hb
  rcases D with _ | _
  · have hXe : Hid (X = .zero) := hXv.out
    clear hXv hX hD hP4 hQ4
    go_wp2_with (first | (with_reducible refine wpList_build (o := ⟨some 10, .build 25 #[], _, _, _, _⟩) (by with_unfolding_all rfl) 25 #[] (by with_unfolding_all rfl) #[] (by with_unfolding_all rfl) (.agg Pat.zero.cells.toArray) (by with_unfolding_all exact fun w => run_buildP0 w) ?_) | (with_reducible refine wpList_put (o := ⟨none, .store 25 (.tmp 4) (.tmp 10), _, _, _, _⟩) (by with_unfolding_all rfl) 25 (.tmp 4) (.tmp 10) (by with_unfolding_all rfl) gr 0 (by with_unfolding_all rfl) (.agg Pat.zero.cells.toArray) (by with_unfolding_all rfl) hR4 Pat.zero.cells (by with_unfolding_all rfl) (by with_unfolding_all (rw [Pat.cells_length]; exact Tryd.szP)) (by with_unfolding_all (rw [Pat.cells_length]; omega)) (by with_unfolding_all (exact cells_one _)) ?_))
    intro w5 hu5 hR5
    rw [splice_all _ _ rfl, ← hXe.out] at hR5
    have hb5 := hb4.trans (hu5.below (B := w.heap.size) (by omega))
    go_wp2
    exact bodyPost_ret (results_cell_two rfl _ _ gr _ _ _ _ _ rfl rfl hR5 Tryd.underlying25 rfl (by rw [List.size_toArray, Pat.cells_length]; exact Tryd.szP)) rfl ⟨rfl, hb5⟩
  · have hXe : Hid (X = p.back q) := hXv.out
    clear hXv hX hD
    go_wp2
    have hrg : ∀ w', Below w4.heap.size w4 w' → w'.rangeAt gp 0 (H p.m) ∧ w'.rangeAt gp 10 (H p.b) ∧ w'.rangeAt gq 0 (H q.m) ∧ w'.rangeAt gq 0 q.cells := fun w' h => ⟨at_m (hP4.next h hP4.lt), at_b (hP4.next h hP4.lt), at_m (hQ4.next h hQ4.lt), at_all (hQ4.next h hQ4.lt)⟩
    have hun := Tryd.underlying23
    have hunQ := Tryd.underlying88
    have hz1 : (Tryd.prog.info? 23).map (·.size) = some (H p.m).length := by rw [H_length]; exact Tryd.szH
    have hz2 : (Tryd.prog.info? 23).map (·.size) = some (H p.b).length := by rw [H_length]; exact Tryd.szH
    have hz3 : (Tryd.prog.info? 23).map (·.size) = some (H q.m).length := by rw [H_length]; exact Tryd.szH
    have hz4 : (Tryd.prog.info? 88).map (·.size) = some q.cells.length := by rw [Pat.cells_length]; exact Tryd.szM
    have HRG := Lib.hid hrg
    have hdd := below_drew w4
    have hR5 := hR4.next hdd hR4.lt
    clear hrg
    refine wp_region_held_drew (S := fun w' => w'.rangeAt gp 0 (H p.m) ∧ w'.rangeAt gp 10 (H p.b) ∧ w'.rangeAt gq 0 (H q.m) ∧ w'.rangeAt gq 0 q.cells) (by kernel_rfl) (HRG.out _ hdd) (fun hHeld => ?_)
    generalize w4.drew = wd at hdd hHeld hR5 ⊢
    refine wpAnyH_take (i := 0) (v := ?vv0) rfl (by kernel_rfl) (by kernel_rfl) (by kernel_rfl) (fun _ _ _ h => h) (Or.inl ⟨by rfl, ?yv0⟩) (by assumption) ?rv0
    case yv0 => intro w hSw; (try dsimp only at hSw); go_simp <;> (try with_reducible rfl)
    (try simp only [List.getElem_toArray, List.getElem_cons_zero, Act.put, List.setIfInBounds_toArray, List.set_cons_zero, List.set_cons_succ])
    refine' wpAnyH_take (i := 1) (v := _) rfl (by kernel_rfl) (by kernel_rfl) (by kernel_rfl) (fun _ _ _ h => h) (yieldsIf_load_mid (by rfl) _ _ (by rfl) _ _ (by rfl) _ _ ?Sv1 ?uv1 ?dv1 ?iv1) (by assumption) ?rv1
    case Sv1 => exact (by intro w h; exact h.1)
    case uv1 => exact hun
    case dv1 => rfl
    case iv1 => exact hz1
    (try simp only [List.getElem_toArray, List.getElem_cons_succ, List.getElem_cons_zero, Act.put, List.setIfInBounds_toArray, List.set_cons_zero, List.set_cons_succ])
    refine wpAnyH_take (i := 2) (v := ?vv2) rfl (by kernel_rfl) (by kernel_rfl) (by kernel_rfl) (fun _ _ _ h => h) (Or.inl ⟨by rfl, ?yv2⟩) (by assumption) ?rv2
    case yv2 => intro w hSw; (try dsimp only at hSw); go_simp <;> (try with_reducible rfl)
    (try simp only [List.getElem_toArray, List.getElem_cons_succ, List.getElem_cons_zero, Act.put, List.setIfInBounds_toArray, List.set_cons_zero, List.set_cons_succ])
    refine' wpAnyH_take (i := 3) (v := _) rfl (by kernel_rfl) (by kernel_rfl) (by kernel_rfl) (fun _ _ _ h => h) (yieldsIf_load_mid (by rfl) _ _ (by rfl) _ _ (by rfl) _ _ ?Sv3 ?uv3 ?dv3 ?iv3) (by assumption) ?rv3
    case Sv3 => exact (by intro w h; exact h.2.2.1)
    case uv3 => exact hun
    case dv3 => rfl
    case iv3 => exact hz3
    (try simp only [List.getElem_toArray, List.getElem_cons_succ, List.getElem_cons_zero, Act.put, List.setIfInBounds_toArray, List.set_cons_zero, List.set_cons_succ])
    refine wpAnyH_take (i := 5) (v := ?vv5) rfl (by kernel_rfl) (by kernel_rfl) (by kernel_rfl) (fun _ _ _ h => h) (Or.inl ⟨by rfl, ?yv5⟩) (by assumption) ?rv5
    case yv5 => intro w hSw; (try dsimp only at hSw); go_simp <;> (try with_reducible rfl)
    (try simp only [List.getElem_toArray, List.getElem_cons_succ, List.getElem_cons_zero, Act.put, List.setIfInBounds_toArray, List.set_cons_zero, List.set_cons_succ])
    refine' wpAnyH_take (i := 6) (v := _) rfl (by kernel_rfl) (by kernel_rfl) (by kernel_rfl) (fun _ _ _ h => h) (yieldsIf_load_mid (by rfl) _ _ (by rfl) _ _ (by rfl) _ _ ?Sv6 ?uv6 ?dv6 ?iv6) (by assumption) ?rv6
    case Sv6 => exact (by intro w h; exact h.2.1)
    case uv6 => exact hun
    case dv6 => rfl
    case iv6 => exact hz2
    (try simp only [List.getElem_toArray, List.getElem_cons_succ, List.getElem_cons_zero, Act.put, List.setIfInBounds_toArray, List.set_cons_zero, List.set_cons_succ])
    refine wpAnyH_take (i := 7) (v := ?vv7) rfl (by kernel_rfl) (by kernel_rfl) (by kernel_rfl) (fun _ _ _ h => h) (Or.inl ⟨by rfl, ?yv7⟩) (by assumption) ?rv7
    case yv7 => intro w hSw; (try dsimp only at hSw); go_simp <;> (try with_reducible rfl)
    (try simp only [List.getElem_toArray, List.getElem_cons_succ, List.getElem_cons_zero, Act.put, List.setIfInBounds_toArray, List.set_cons_zero, List.set_cons_succ])
    refine' wpAnyH_take (i := 8) (v := _) rfl (by kernel_rfl) (by kernel_rfl) (by kernel_rfl) (fun _ _ _ h => h) (yieldsIf_load_mid (by rfl) _ _ (by rfl) _ _ (by rfl) _ _ ?Sw8 ?uw8 ?dw8 ?iw8) (by assumption) ?rw8
    case Sw8 => exact (by intro w h; exact h.2.2.1)
    case uw8 => exact hun
    case dw8 => rfl
    case iw8 => exact hz3
    (try simp only [List.getElem_toArray, List.getElem_cons_succ, List.getElem_cons_zero, Act.put, List.setIfInBounds_toArray, List.set_cons_zero, List.set_cons_succ])
    refine wpAnyH_ready (rs := [4]) (by kernel_rfl) (by simp) ?_
    refine AllReadyH.cons rfl (fun K hK => ?_) AllReadyH.nil
    go_simp
    go_wp2_with fail
    (with_reducible refine (without_any p.m q.m _).mono ?_)
    rintro e wA ⟨rfl, hbA⟩
    have hkA := below_join hdd hbA
    have hRA := hR5.next hbA hR5.lt
    refine hK.out _ _ (HRG.out _ hkA) (fun hHeld => ?_)
    clear hK K hdd hbA hR5
    refine wpAnyH_ready (rs := [9]) (by kernel_rfl) (by simp) ?_
    refine AllReadyH.cons rfl (fun K hK => ?_) AllReadyH.nil
    go_simp
    go_wp2_with fail
    (with_reducible refine (without_any p.b q.m _).mono ?_)
    rintro e wB ⟨rfl, hbB⟩
    have hkB := below_join hkA hbB
    have hRB := hRA.next hbB hRA.lt
    refine hK.out _ _ (HRG.out _ hkB) (fun hHeld => ?_)
    clear hK K hkA hbB hRA
    rw [show (fun i => p.m i && !q.m i) = (p.back q).m from rfl, show (fun i => p.b i && !q.m i) = (p.back q).b from rfl, ← hXe.out]
    have hbd : ∀ w, (Instr.build 25 #[(0, .agg (H X.m).toArray), (1, .agg (H X.b).toArray)]).run Tryd.prog w = .ok (.agg X.cells.toArray) w := fun w => run_buildP w _ _ (H_length _) (H_length _)
    refine wpAnyH_take (i := 10) (v := .agg X.cells.toArray) rfl (by kernel_rfl) (by kernel_rfl) (by kernel_rfl) (fun _ _ _ h => h) (Or.inl ⟨by rfl, ?yb⟩) (by assumption) ?rb
    case yb =>
      intro w _
      exact run_execBuild (T := 25) (ps := #[(0, .tmp 15), (1, .tmp 20)]) w (by with_unfolding_all rfl) (by with_unfolding_all rfl) hbd
    (try simp only [List.getElem_toArray, List.getElem_cons_succ, List.getElem_cons_zero, Act.put, List.setIfInBounds_toArray, List.set_cons_zero, List.set_cons_succ])
    refine wpAnyH_ready (rs := [11]) (by kernel_rfl) (by simp) ?_
    refine AllReadyH.cons rfl (fun K hK => ?_) AllReadyH.nil
    rw [if_pos (by rfl)]
    refine wp_put 25 (.tmp 4) (.tmp 21) rfl gr 0 rfl (.agg X.cells.toArray) rfl hRB X.cells rfl (by rw [Pat.cells_length]; exact Tryd.szP) (by rw [Pat.cells_length, Pat.cells_length]; omega) (cells_one _) ?_
    intro wC huC hRC
    rw [splice_all _ _ (by rw [Pat.cells_length, Pat.cells_length])] at hRC
    have hPC := (hP4.next hkB hP4.lt).upd huC (by omega)
    have hQC := (hQ4.next hkB hQ4.lt).upd huC (by omega)
    refine hK.out _ _ ⟨at_m hPC, at_b hPC, at_m hQC, at_all hQC⟩ (fun hHeld => ?_)
    clear hK K
    have hbC := (hb4.trans (hkB.mono hb4.size)).trans (huC.below (B := w.heap.size) (by omega))
    refine wpAnyH_take (i := 12) (v := ?vv12) rfl (by kernel_rfl) (by kernel_rfl) (by kernel_rfl) (fun _ _ _ h => h) (Or.inl ⟨by rfl, ?yv12⟩) (by assumption) ?rv12
    case yv12 => intro w hSw; (try dsimp only at hSw); go_simp <;> (try with_reducible rfl)
    (try simp only [List.getElem_toArray, List.getElem_cons_succ, List.getElem_cons_zero, Act.put, List.setIfInBounds_toArray, List.set_cons_zero, List.set_cons_succ])
    refine wpAnyH_done (by kernel_rfl) ?_ _
    go_wp2
    exact bodyPost_ret (results_cell_two rfl _ _ gr _ _ _ _ _ rfl rfl hRC Tryd.underlying25 rfl (by rw [List.size_toArray, Pat.cells_length]; exact Tryd.szP)) rfl ⟨rfl, hbC⟩
end Go.Proofs.YtkkgfdfjgfigcaaDoor

/-
  Contracts of the walks over Join, Exact, Free, Covers and the tests of right patterns. Conditions: none.
-/
namespace Go.Proofs.YtkkgfdfjgfigcaaDoor
set_option linter.unusedVariables false
set_option linter.unusedSimpArgs false
open Go.RowKit

theorem neqH (w : World) (f g : Nat → Bool) : (binOp .neq 23 (.agg (H f).toArray) (.agg (H g).toArray)).run Tryd.prog w = .ok (.bool (!decide (HI f = HI g))) w := by
  rw [H_iV, H_iV]; exact neq_head w _ _ (HI_length _) (HI_length _)
theorem eqlH (w : World) (f g : Nat → Bool) : (binOp .eql 23 (.agg (H f).toArray) (.agg (H g).toArray)).run Tryd.prog w = .ok (.bool (decide (HI f = HI g))) w := by
  rw [H_iV, H_iV]; exact eql_head w _ _ (HI_length _) (HI_length _)
def Pat.odd (p q : Pat) : Nat → Bool := fun i => p.b i != q.b i
def Pat.joins (p q : Pat) : Bool := decide (HI p.m = HI q.m) && decide (cnt (p.odd q) 0 160 = 1)
def Pat.join (p q : Pat) : Pat := ⟨fun i => p.m i && !p.odd q i, fun i => p.b i && !p.odd q i⟩
def Pat.joinV (p q : Pat) : Pat := if p.joins q = true then p.join q else .zero
set_option maxRecDepth 100000 in
set_option maxHeartbeats 1600000 in
theorem join2_any (p q : Pat) (w : World) :
    Calls Tryd.prog 80 #[.agg p.cells.toArray, .agg q.cells.toArray] w fun e w' => e = .returned (.tuple #[.agg (p.joinV q).cells.toArray, .bool (p.joins q)]) ∧ Below w.heap.size w w' := by
  obtain ⟨D1, hD1⟩ : ∃ D, Hid (decide (HI p.m = HI q.m) = D) := ⟨_, rfl⟩
  obtain ⟨N, hN⟩ : ∃ N : Nat, Hid (N = cnt (p.odd q) 0 160) := ⟨_, rfl⟩
  obtain ⟨D, hD⟩ : ∃ D, Hid (p.joins q = D) := ⟨_, rfl⟩
  obtain ⟨X, hX⟩ : ∃ X, Hid (p.joinV q = X) := ⟨_, rfl⟩
  rw [hD.out, hX.out]
  have hXv : Hid (if D = true then X = p.join q else X = .zero) := by
    have : if D = true then X = p.join q else X = .zero := by
      rw [← hX.out, ← hD.out]
      unfold Pat.joinV
      by_cases h : p.joins q = true
      · rw [if_pos h, if_pos h]
      · rw [if_neg h, if_neg h]
    exact this
  have hDv : Hid ((D1 && decide (N = 1)) = D) := by
    have : (D1 && decide (N = 1)) = D := by rw [← hD.out, ← hD1.out, hN.out]; rfl
    exact this
  have hneq : ∀ w, (binOp .neq 23 (.agg (H p.m).toArray) (.agg (H q.m).toArray)).run Tryd.prog w = .ok (.bool (!D1)) w := fun w => by rw [neqH, hD1.out]
  have hgd := Tryd.guardH
  clear hX hD hD1
  go_enter Tryd.func80, Tryd.ntmps80
  go_wp2_with (with_reducible refine wpList_box (o := ⟨some 2, .box 25 (.tmp 0), _, _, _, _⟩) ?g1 25 (.tmp 0) ?o1 (.agg p.cells.toArray) p.cells ?x1 ?c1 ?_)
  try (case g1 => rfl)
  try (case o1 => rfl)
  try (case x1 => rfl)
  try (case c1 => rfl)
  intro gp w1 hgp hs1 hb1 hP1
  go_wp2_with (with_reducible refine wpList_box (o := ⟨some 3, .box 25 (.tmp 1), _, _, _, _⟩) ?g2 25 (.tmp 1) ?o2 (.agg q.cells.toArray) q.cells ?x2 ?c2 ?_)
  try (case g2 => rfl)
  try (case o2 => rfl)
  try (case x2 => rfl)
  try (case c2 => rfl)
  intro gq w2 hgq hs2 hb2 hQ2
  go_wp2_with (with_reducible refine wpList_alloc (o := ⟨some 4, .alloc 25, _, _, _, _⟩) (by with_unfolding_all rfl) 25 (by with_unfolding_all rfl) (.agg (H no ++ H no).toArray) (H no ++ H no) (by exact Tryd.zeroPt) (by with_unfolding_all rfl) ?_)
  intro gr w3 hgr hs3 hb3 hR3
  rw [cells_zero] at hR3
  have hle : w.heap.size ≤ gp := Nat.le_of_eq hgp.out.symm
  have hab : gp < gq := by have := hgp.out; have := hs1.out; have := hgq.out; omega
  have hbr : gq < gr := by have := hgq.out; have := hs2.out; have := hgr.out; omega
  have hP3 := (hP1.next hb2 hab).next hb3 (by omega)
  have hQ3 := hQ2.next hb3 hbr
  have hbel := ((hb1.mono hle).trans (hb2.mono (by omega))).trans (hb3.mono (by omega : w.heap.size ≤ gr))
  clear hgp hs1 hb1 hP1 hgq hs2 hb2 hQ2 hgr hs3 hb3
  go_wp2_with (first | (with_reducible refine wpList_get (o := ⟨some 8, .load 23 (.tmp 7), _, _, _, _⟩) (by with_unfolding_all rfl) 23 (.tmp 7) (by with_unfolding_all rfl) gp 10 (by with_unfolding_all rfl) hP3 (H p.b) (cells_take_b p) _ (by exact Tryd.underlying23) (by with_unfolding_all rfl) (by rw [H_length]; exact Tryd.szH) ?_) | (with_reducible refine wpList_get (o := ⟨some 10, .load 23 (.tmp 9), _, _, _, _⟩) (by with_unfolding_all rfl) 23 (.tmp 9) (by with_unfolding_all rfl) gq 10 (by with_unfolding_all rfl) hQ3 (H q.b) (cells_take_b q) _ (by exact Tryd.underlying23) (by with_unfolding_all rfl) (by rw [H_length]; exact Tryd.szH) ?_))
  (with_reducible refine (differ_any p.b q.b _).mono ?_)
  rintro e w4 ⟨rfl, hb⟩
  have hP4 := hP3.next hb hP3.lt
  have hQ4 := hQ3.next hb hQ3.lt
  have hR4 := hR3.next hb hR3.lt
  have hb4 := hbel.trans (hb.mono hbel.size)
  have grl := hR4.lt
  clear hP3 hQ3 hR3 hbel hb
  obtain ⟨O, hO⟩ : ∃ O, Hid (O = p.odd q) := ⟨_, rfl⟩
  rw [show (fun i => p.b i != q.b i) = p.odd q from rfl, ← hO.out]
  rw [← hO.out] at hN
  go_wp2_with (with_reducible refine wpList_alloc (o := ⟨some 6, .alloc 23, _, _, _, _⟩) (by with_unfolding_all rfl) 23 (by with_unfolding_all rfl) (.agg (H no).toArray) (H no) (by exact Tryd.zeroH) (by with_unfolding_all rfl) ?_)
  intro go w5 hgo hs5 hb5 hO5
  have hleo : w4.heap.size ≤ go := Nat.le_of_eq hgo.out.symm
  have hP5 := hP4.next hb5 (by omega)
  have hQ5 := hQ4.next hb5 (by omega)
  have hR5 := hR4.next hb5 (by omega)
  have hbe5 := hb4.trans (hb5.mono (by have := hb4.size; omega))
  clear hP4 hQ4 hR4 hb4 hb5 hgo hs5
  go_wp2_with (with_reducible refine wpList_put (o := ⟨none, .store 23 (.tmp 6) (.tmp 11), _, _, _, _⟩) (by with_unfolding_all rfl) 23 (.tmp 6) (.tmp 11) (by with_unfolding_all rfl) go 0 (by with_unfolding_all rfl) (.agg (H O).toArray) (by with_unfolding_all rfl) hO5 (H O) (by with_unfolding_all rfl) (by with_unfolding_all (rw [H_length]; exact Tryd.szH)) (by with_unfolding_all (rw [H_length, H_length]; omega)) (by with_unfolding_all (exact H_one O)) ?_)
  intro w6 hu6 hO6
  rw [splice_all _ _ (by rw [H_length, H_length])] at hO6
  have hP6 := hP5.upd hu6 (by omega)
  have hQ6 := hQ5.upd hu6 (by omega)
  have hR6 := hR5.upd hu6 (by omega)
  have hb6 := hbe5.trans (hu6.below (B := w.heap.size) (by omega))
  clear hP5 hQ5 hR5 hbe5 hO5 hu6
  rcases D1 with _ | _
  · obtain rfl : false = D := hDv.out
    have hXe : Hid (X = .zero) := hXv.out
    clear hXv hO6
    go_wp2_with (first | (with_reducible refine wpList_get (o := ⟨some 13, .load 23 (.tmp 12), _, _, _, _⟩) (by with_unfolding_all rfl) 23 (.tmp 12) (by with_unfolding_all rfl) gp 0 (by with_unfolding_all rfl) hP6 (H p.m) (cells_take_m p) _ (by exact Tryd.underlying23) (by with_unfolding_all rfl) (by rw [H_length]; exact Tryd.szH) ?_) | (with_reducible refine wpList_get (o := ⟨some 15, .load 23 (.tmp 14), _, _, _, _⟩) (by with_unfolding_all rfl) 23 (.tmp 14) (by with_unfolding_all rfl) gq 0 (by with_unfolding_all rfl) hQ6 (H q.m) (cells_take_m q) _ (by exact Tryd.underlying23) (by with_unfolding_all rfl) (by rw [H_length]; exact Tryd.szH) ?_) | (with_reducible refine wpList_build (o := ⟨some 22, .build 25 #[], _, _, _, _⟩) (by with_unfolding_all rfl) 25 #[] (by with_unfolding_all rfl) #[] (by with_unfolding_all rfl) (.agg Pat.zero.cells.toArray) (by with_unfolding_all exact fun w => run_buildP0 w) ?_) | (with_reducible refine wpList_put (o := ⟨none, .store 25 (.tmp 4) (.tmp 22), _, _, _, _⟩) (by with_unfolding_all rfl) 25 (.tmp 4) (.tmp 22) (by with_unfolding_all rfl) gr 0 (by with_unfolding_all rfl) (.agg Pat.zero.cells.toArray) (by with_unfolding_all rfl) hR6 Pat.zero.cells (by with_unfolding_all rfl) (by with_unfolding_all (rw [Pat.cells_length]; exact Tryd.szP)) (by with_unfolding_all (rw [Pat.cells_length]; omega)) (by with_unfolding_all (exact cells_one _)) ?_))
    intro w7 hu7 hR7
    rw [splice_all _ _ rfl, ← hXe.out] at hR7
    have hb7 := hb6.trans (hu7.below (B := w.heap.size) (by omega))
    go_wp2
    exact bodyPost_ret (results_cell_two rfl _ _ gr _ _ _ _ _ rfl rfl hR7 Tryd.underlying25 rfl (by rw [List.size_toArray, Pat.cells_length]; exact Tryd.szP)) rfl ⟨rfl, hb7⟩
  · go_wp2_with (first | (with_reducible refine wpList_get (o := ⟨some 13, .load 23 (.tmp 12), _, _, _, _⟩) (by with_unfolding_all rfl) 23 (.tmp 12) (by with_unfolding_all rfl) gp 0 (by with_unfolding_all rfl) hP6 (H p.m) (cells_take_m p) _ (by exact Tryd.underlying23) (by with_unfolding_all rfl) (by rw [H_length]; exact Tryd.szH) ?_) | (with_reducible refine wpList_get (o := ⟨some 15, .load 23 (.tmp 14), _, _, _, _⟩) (by with_unfolding_all rfl) 23 (.tmp 14) (by with_unfolding_all rfl) gq 0 (by with_unfolding_all rfl) hQ6 (H q.m) (cells_take_m q) _ (by exact Tryd.underlying23) (by with_unfolding_all rfl) (by rw [H_length]; exact Tryd.szH) ?_) | (with_reducible refine wpList_getg (o := ⟨some 18, .load 23 (.tmp 6), _, _, _, _⟩) (by with_unfolding_all rfl) 23 (.tmp 6) (by with_unfolding_all rfl) go 0 (by with_unfolding_all rfl) hO6 (H O) (cs_all _) _ (by exact Tryd.underlying23) (by with_unfolding_all rfl) (by rw [H_length]; exact Tryd.szH) ?_))
    (with_reducible refine (count_any O _).mono ?_)
    rintro e w6 ⟨rfl, hbz⟩
    rw [← hN.out]
    replace hP6 := hP6.next hbz hP6.lt
    replace hQ6 := hQ6.next hbz hQ6.lt
    replace hR6 := hR6.next hbz hR6.lt
    replace hO6 := hO6.next hbz hO6.lt
    replace hb6 := hb6.trans (hbz.mono hb6.size)
    clear hbz
    by_cases h1 : N = 1
    · have hne : ((N : Int) != 1) = false := by rw [h1]; rfl
      have hDe := hDv.out
      rw [Bool.true_and, decide_eq_true h1] at hDe
      subst hDe
      have hXe : Hid (X = p.join q) := hXv.out
      clear hXv h1 hDv
      go_wp2
      have hrg : ∀ w', Below w6.heap.size w6 w' → w'.rangeAt gp 0 (H p.m) ∧ w'.rangeAt gp 10 (H p.b) ∧ w'.rangeAt go 0 (H O) := fun w' h => ⟨at_m (hP6.next h hP6.lt), at_b (hP6.next h hP6.lt), blk_range (hO6.next h hO6.lt)⟩
      have hun := Tryd.underlying23
      have hz1 : (Tryd.prog.info? 23).map (·.size) = some (H p.m).length := by rw [H_length]; exact Tryd.szH
      have hz2 : (Tryd.prog.info? 23).map (·.size) = some (H p.b).length := by rw [H_length]; exact Tryd.szH
      have hz3 : (Tryd.prog.info? 23).map (·.size) = some (H O).length := by rw [H_length]; exact Tryd.szH
      have HRG := Lib.hid hrg
      have hdd := below_drew w6
      have hR7 := hR6.next hdd hR6.lt
      clear hrg
      refine wp_region_held_drew (S := fun w' => w'.rangeAt gp 0 (H p.m) ∧ w'.rangeAt gp 10 (H p.b) ∧ w'.rangeAt go 0 (H O)) (by kernel_rfl) (HRG.out _ hdd) (fun hHeld => ?_)
      generalize w6.drew = wd at hdd hHeld hR7 ⊢
      refine wpAnyH_take (i := 0) (v := ?vv0) rfl (by kernel_rfl) (by kernel_rfl) (by kernel_rfl) (fun _ _ _ h => h) (Or.inl ⟨by rfl, ?yv0⟩) (by assumption) ?rv0
      case yv0 => intro w hSw; (try dsimp only at hSw); go_simp <;> (try with_reducible rfl)
      (try simp only [List.getElem_toArray, List.getElem_cons_zero, Act.put, List.setIfInBounds_toArray, List.set_cons_zero, List.set_cons_succ])
      refine' wpAnyH_take (i := 1) (v := _) rfl (by kernel_rfl) (by kernel_rfl) (by kernel_rfl) (fun _ _ _ h => h) (yieldsIf_load_mid (by rfl) _ _ (by rfl) _ _ (by rfl) _ _ ?Sv1 ?uv1 ?dv1 ?iv1) (by assumption) ?rv1
      case Sv1 => exact (by intro w h; exact h.1)
      case uv1 => exact hun
      case dv1 => rfl
      case iv1 => exact hz1
      (try simp only [List.getElem_toArray, List.getElem_cons_succ, List.getElem_cons_zero, Act.put, List.setIfInBounds_toArray, List.set_cons_zero, List.set_cons_succ])
      refine' wpAnyH_take (i := 2) (v := _) rfl (by kernel_rfl) (by kernel_rfl) (by kernel_rfl) (fun _ _ _ h => h) (yieldsIf_load_mid (by rfl) _ _ (by rfl) _ _ (by rfl) _ _ ?Sv2 ?uv2 ?dv2 ?iv2) (by assumption) ?rv2
      case Sv2 => exact (by intro w h; exact h.2.2)
      case uv2 => exact hun
      case dv2 => rfl
      case iv2 => exact hz3
      (try simp only [List.getElem_toArray, List.getElem_cons_succ, List.getElem_cons_zero, Act.put, List.setIfInBounds_toArray, List.set_cons_zero, List.set_cons_succ])
      refine wpAnyH_take (i := 4) (v := ?vv4) rfl (by kernel_rfl) (by kernel_rfl) (by kernel_rfl) (fun _ _ _ h => h) (Or.inl ⟨by rfl, ?yv4⟩) (by assumption) ?rv4
      case yv4 => intro w hSw; (try dsimp only at hSw); go_simp <;> (try with_reducible rfl)
      (try simp only [List.getElem_toArray, List.getElem_cons_succ, List.getElem_cons_zero, Act.put, List.setIfInBounds_toArray, List.set_cons_zero, List.set_cons_succ])
      refine' wpAnyH_take (i := 5) (v := _) rfl (by kernel_rfl) (by kernel_rfl) (by kernel_rfl) (fun _ _ _ h => h) (yieldsIf_load_mid (by rfl) _ _ (by rfl) _ _ (by rfl) _ _ ?Sv5 ?uv5 ?dv5 ?iv5) (by assumption) ?rv5
      case Sv5 => exact (by intro w h; exact h.2.1)
      case uv5 => exact hun
      case dv5 => rfl
      case iv5 => exact hz2
      (try simp only [List.getElem_toArray, List.getElem_cons_succ, List.getElem_cons_zero, Act.put, List.setIfInBounds_toArray, List.set_cons_zero, List.set_cons_succ])
      refine' wpAnyH_take (i := 6) (v := _) rfl (by kernel_rfl) (by kernel_rfl) (by kernel_rfl) (fun _ _ _ h => h) (yieldsIf_load_mid (by rfl) _ _ (by rfl) _ _ (by rfl) _ _ ?Sv6 ?uv6 ?dv6 ?iv6) (by assumption) ?rv6
      case Sv6 => exact (by intro w h; exact h.2.2)
      case uv6 => exact hun
      case dv6 => rfl
      case iv6 => exact hz3
      (try simp only [List.getElem_toArray, List.getElem_cons_succ, List.getElem_cons_zero, Act.put, List.setIfInBounds_toArray, List.set_cons_zero, List.set_cons_succ])
      refine wpAnyH_ready (rs := [3]) (by kernel_rfl) (by simp) ?_
      refine AllReadyH.cons rfl (fun K hK => ?_) AllReadyH.nil
      go_simp
      go_wp2_with fail
      (with_reducible refine (without_any p.m O _).mono ?_)
      rintro e wA ⟨rfl, hbA⟩
      have hkA := below_join hdd hbA
      have hRA := hR7.next hbA hR7.lt
      refine hK.out _ _ (HRG.out _ hkA) (fun hHeld => ?_)
      clear hK K hdd hbA hR7
      refine wpAnyH_ready (rs := [7]) (by kernel_rfl) (by simp) ?_
      refine AllReadyH.cons rfl (fun K hK => ?_) AllReadyH.nil
      go_simp
      go_wp2_with fail
      (with_reducible refine (without_any p.b O _).mono ?_)
      rintro e wB ⟨rfl, hbB⟩
      have hkB := below_join hkA hbB
      have hRB := hRA.next hbB hRA.lt
      refine hK.out _ _ (HRG.out _ hkB) (fun hHeld => ?_)
      clear hK K hkA hbB hRA
      rw [show (fun i => p.m i && !O i) = (p.join q).m by rw [hO.out]; rfl, show (fun i => p.b i && !O i) = (p.join q).b by rw [hO.out]; rfl, ← hXe.out]
      have hbd : ∀ w, (Instr.build 25 #[(0, .agg (H X.m).toArray), (1, .agg (H X.b).toArray)]).run Tryd.prog w = .ok (.agg X.cells.toArray) w := fun w => run_buildP w _ _ (H_length _) (H_length _)
      refine wpAnyH_take (i := 8) (v := .agg X.cells.toArray) rfl (by kernel_rfl) (by kernel_rfl) (by kernel_rfl) (fun _ _ _ h => h) (Or.inl ⟨by rfl, ?yb⟩) (by assumption) ?rb
      case yb =>
        intro w _
        exact run_execBuild (T := 25) (ps := #[(0, .tmp 26), (1, .tmp 30)]) w (by with_unfolding_all rfl) (by with_unfolding_all rfl) hbd
      (try simp only [List.getElem_toArray, List.getElem_cons_succ, List.getElem_cons_zero, Act.put, List.setIfInBounds_toArray, List.set_cons_zero, List.set_cons_succ])
      refine wpAnyH_ready (rs := [9]) (by kernel_rfl) (by simp) ?_
      refine AllReadyH.cons rfl (fun K hK => ?_) AllReadyH.nil
      rw [if_pos (by rfl)]
      refine wp_put 25 (.tmp 4) (.tmp 31) rfl gr 0 rfl (.agg X.cells.toArray) rfl hRB X.cells rfl (by rw [Pat.cells_length]; exact Tryd.szP) (by rw [Pat.cells_length, Pat.cells_length]; omega) (cells_one _) ?_
      intro wC huC hRC
      rw [splice_all _ _ (by rw [Pat.cells_length, Pat.cells_length])] at hRC
      have hPC := (hP6.next hkB hP6.lt).upd huC (by omega)
      have hOC := (hO6.next hkB hO6.lt).upd huC (by omega)
      refine hK.out _ _ ⟨at_m hPC, at_b hPC, blk_range hOC⟩ (fun hHeld => ?_)
      clear hK K
      have hbC := (hb6.trans (hkB.mono hb6.size)).trans (huC.below (B := w.heap.size) (by omega))
      refine wpAnyH_take (i := 10) (v := ?vv10) rfl (by kernel_rfl) (by kernel_rfl) (by kernel_rfl) (fun _ _ _ h => h) (Or.inl ⟨by rfl, ?yv10⟩) (by assumption) ?rv10
      case yv10 => intro w hSw; (try dsimp only at hSw); go_simp <;> (try with_reducible rfl)
      (try simp only [List.getElem_toArray, List.getElem_cons_succ, List.getElem_cons_zero, Act.put, List.setIfInBounds_toArray, List.set_cons_zero, List.set_cons_succ])
      refine wpAnyH_done (by kernel_rfl) ?_ _
      go_wp2
      exact bodyPost_ret (results_cell_two rfl _ _ gr _ _ _ _ _ rfl rfl hRC Tryd.underlying25 rfl (by rw [List.size_toArray, Pat.cells_length]; exact Tryd.szP)) rfl ⟨rfl, hbC⟩
    · have hne : ((N : Int) != 1) = true := bne_iff_ne.2 (by omega)
      have hDe := hDv.out
      rw [Bool.true_and, decide_eq_false h1] at hDe
      subst hDe
      clear h1 hDv
      have hXe : Hid (X = .zero) := hXv.out
      clear hXv hP6 hQ6 hO6
      go_wp2_with (first | (with_reducible refine wpList_build (o := ⟨some 22, .build 25 #[], _, _, _, _⟩) (by with_unfolding_all rfl) 25 #[] (by with_unfolding_all rfl) #[] (by with_unfolding_all rfl) (.agg Pat.zero.cells.toArray) (by with_unfolding_all exact fun w => run_buildP0 w) ?_) | (with_reducible refine wpList_put (o := ⟨none, .store 25 (.tmp 4) (.tmp 22), _, _, _, _⟩) (by with_unfolding_all rfl) 25 (.tmp 4) (.tmp 22) (by with_unfolding_all rfl) gr 0 (by with_unfolding_all rfl) (.agg Pat.zero.cells.toArray) (by with_unfolding_all rfl) hR6 Pat.zero.cells (by with_unfolding_all rfl) (by with_unfolding_all (rw [Pat.cells_length]; exact Tryd.szP)) (by with_unfolding_all (rw [Pat.cells_length]; omega)) (by with_unfolding_all (exact cells_one _)) ?_))
      intro w7 hu7 hR7
      rw [splice_all _ _ rfl, ← hXe.out] at hR7
      have hb7 := hb6.trans (hu7.below (B := w.heap.size) (by omega))
      go_wp2
      exact bodyPost_ret (results_cell_two rfl _ _ gr _ _ _ _ _ rfl rfl hR7 Tryd.underlying25 rfl (by rw [List.size_toArray, Pat.cells_length]; exact Tryd.szP)) rfl ⟨rfl, hb7⟩
end Go.Proofs.YtkkgfdfjgfigcaaDoor

/-
  Contracts of the walks over Covers, rightPair, Right and RightMod. Conditions: none.
-/
namespace Go.Proofs.YtkkgfdfjgfigcaaDoor
set_option linter.unusedVariables false
set_option linter.unusedSimpArgs false
open Go.RowKit

def Pat.covers (p q : Pat) : Bool := decide (HI (fun i => p.m i && q.m i) = HI p.m) && decide (HI (fun i => q.b i && p.m i) = HI p.b)












































































































































































end Go.Proofs.YtkkgfdfjgfigcaaDoor

/-
  Contracts of the walks over meet at whatever words, rightPair, Right and RightMod. Conditions: none.
-/
namespace Go.Proofs.YtkkgfdfjgfigcaaDoor
set_option linter.unusedVariables false
set_option linter.unusedSimpArgs false
open Go.RowKit

/-- The words of both, and-ed. -/
def zipA (l r : List Int) : List Int := List.zipWith (fun a b => bits .and .i64 a b) l r
theorem zipA_length {l r : List Int} (hl : l.length = 10) (hr : r.length = 10) : (zipA l r).length = 10 := by unfold zipA; rw [List.length_zipWith, hl, hr]; rfl
/-- The first k words are and-ed. -/
def zipTo (l r : List Int) (k : Nat) : List Int := (zipA l r).take k ++ l.drop k
theorem zipTo_length {l r : List Int} (hl : l.length = 10) (hr : r.length = 10) {k : Nat} (hk : k ≤ 10) : (zipTo l r k).length = 10 := by
  unfold zipTo
  rw [List.length_append, List.length_take, zipA_length hl hr, List.length_drop, hl]; omega
theorem zipTo_zero (l r : List Int) : zipTo l r 0 = l := by unfold zipTo; simp
theorem zipTo_all {l r : List Int} (hl : l.length = 10) (hr : r.length = 10) : zipTo l r 10 = zipA l r := by
  unfold zipTo
  rw [List.take_of_length_le (by rw [zipA_length hl hr]; exact Nat.le_refl _), List.drop_eq_nil_of_le (by omega), List.append_nil]
theorem zipA_get {l r : List Int} {k : Nat} {a b : Int} (ha : l[k]? = some a) (hb : r[k]? = some b) : (zipA l r)[k]? = some (bits .and .i64 a b) := by
  unfold zipA
  rw [List.getElem?_zipWith, ha, hb]
theorem zipTo_at {l r : List Int} (hl : l.length = 10) (hr : r.length = 10) {k : Nat} (hk : k < 10) : (zipTo l r k)[k]? = l[k]? := by
  unfold zipTo
  have h1 : ((zipA l r).take k).length = k := by rw [List.length_take, zipA_length hl hr]; omega
  rw [List.getElem?_append_right (by omega), h1, Nat.sub_self, List.getElem?_drop, Nat.add_zero]
theorem zipTo_set {l r : List Int} (hl : l.length = 10) (hr : r.length = 10) {k : Nat} (hk : k < 10) {a b : Int} (ha : l[k]? = some a) (hb : r[k]? = some b) : ((zipTo l r k).map iV).set k (iV (bits .and .i64 a b)) = (zipTo l r (k + 1)).map iV := by
  rw [← List.map_set]
  congr 1
  have h1 : ((zipA l r).take k).length = k := by rw [List.length_take, zipA_length hl hr]; omega
  have hz := zipA_get ha hb
  obtain ⟨hk2, he⟩ := List.getElem?_eq_some_iff.1 hz
  unfold zipTo
  rw [List.set_append_right _ _ (by omega), h1, Nat.sub_self, List.take_succ_eq_append_getElem hk2, he, List.append_assoc]
  congr 1
  rw [List.drop_eq_getElem_cons (by omega : k < l.length)]
  rfl
theorem iV_one : ∀ l : List Int, ∀ u ∈ l.map iV, u.oneCell' = true := by
  intro l u hu; simp only [List.mem_map] at hu; obtain ⟨c, _, rfl⟩ := hu; rfl
def MeetI (l r : List Int) (ga gb gr : Nat) (w : World) (i : Value) (wr : World) : Prop :=
  ∃ k : Nat, k ≤ 10 ∧ i = .int .i64 k ∧ Blk wr ga 23 ((zipTo l r k).map iV) ∧ Blk wr gb 23 (r.map iV) ∧ Blk wr gr 23 (H no) ∧ Below w.heap.size w wr
set_option maxRecDepth 100000 in
set_option maxHeartbeats 1600000 in
theorem meetI_any (l r : List Int) (w : World) (hl : l.length = 10) (hr : r.length = 10) :
    Calls Tryd.prog 213 #[.agg (l.map iV).toArray, .agg (r.map iV).toArray] w fun e w' => e = .returned (.agg ((zipA l r).map iV).toArray) ∧ Below w.heap.size w w' := by
  have HL := Lib.hid hl
  have HR := Lib.hid hr
  have hlm : ∀ k, k ≤ 10 → ((zipTo l r k).map iV).length = 10 := fun k hk => by rw [List.length_map]; exact zipTo_length hl hr hk
  have HLM := Lib.hid hlm
  have HZ : Hid (((zipA l r).map iV).length = 10) := by
    have : ((zipA l r).map iV).length = 10 := by rw [List.length_map]; exact zipA_length hl hr
    exact this
  clear hl hr hlm
  go_enter Tryd.func213, Tryd.ntmps213
  go_wp2_with (with_reducible refine wpList_box (o := ⟨some 2, .box 23 (.tmp 0), _, _, _, _⟩) ?g1 23 (.tmp 0) ?o1 (.agg (l.map iV).toArray) (l.map iV) ?x1 ?c1 ?_)
  try (case g1 => rfl)
  try (case o1 => rfl)
  try (case x1 => rfl)
  try (case c1 => rfl)
  intro ga w1 hga hs1 hb1 hA1
  go_wp2_with (with_reducible refine wpList_box (o := ⟨some 3, .box 23 (.tmp 1), _, _, _, _⟩) ?g2 23 (.tmp 1) ?o2 (.agg (r.map iV).toArray) (r.map iV) ?x2 ?c2 ?_)
  try (case g2 => rfl)
  try (case o2 => rfl)
  try (case x2 => rfl)
  try (case c2 => rfl)
  intro gb w2 hgb hs2 hb2 hB2
  go_wp2_with (with_reducible refine wpList_alloc (o := ⟨some 4, .alloc 23, _, _, _, _⟩) (by with_unfolding_all rfl) 23 (by with_unfolding_all rfl) (.agg (H no).toArray) (H no) (by exact Tryd.zeroH) (by with_unfolding_all rfl) ?_)
  intro gr w3 hgr hs3 hb3 hR3
  have hle : w.heap.size ≤ ga := Nat.le_of_eq hga.out.symm
  have hab : ga < gb := by have := hga.out; have := hs1.out; have := hgb.out; omega
  have hbr : gb < gr := by have := hgb.out; have := hs2.out; have := hgr.out; omega
  have hA3 := (hA1.next hb2 hab).next hb3 (by omega)
  have hB3 := hB2.next hb3 hbr
  have hbel := ((hb1.mono hle).trans (hb2.mono (by omega))).trans (hb3.mono (by omega : w.heap.size ≤ gr))
  clear hga hs1 hb1 hA1 hgb hs2 hb2 hB2 hgr hs3 hb3
  go_wp2
  go_loopw [6] (MeetI l r ga gb gr w) (fun i _ => 10 - (intOf i).toNat)
  case atStart => exact ⟨0, by omega, rfl, by rw [zipTo_zero]; exact hA3, hB3, hR3, hbel⟩
  case round =>
    clear hA3 hB3 hR3 hbel
    obtain ⟨k, hk, rfl, hA, hB, hR, hbel⟩ := hrel
    by_cases hlt : k < 10
    · obtain ⟨a, ha⟩ : ∃ a, l[k]? = some a := ⟨_, List.getElem?_eq_getElem (by rw [HL.out]; exact hlt)⟩
      obtain ⟨b, hb⟩ : ∃ b, r[k]? = some b := ⟨_, List.getElem?_eq_getElem (by rw [HR.out]; exact hlt)⟩
      have ca : wr.cell? ⟨ga, k, none⟩ = some (.int .i64 a) := hA.cell (by rw [List.getElem?_map, zipTo_at HL.out HR.out hlt, ha]; rfl)
      have cb : wr.cell? ⟨gb, k, none⟩ = some (.int .i64 b) := hB.cell (by rw [List.getElem?_map, hb]; rfl)
      have HST := Lib.hid (zipTo_set HL.out HR.out hlt ha hb)
      clear ha hb
      obtain ⟨c, hc⟩ : ∃ c, Hid (bits .and .i64 a b = c) := ⟨_, rfl⟩
      go_wp2
      go_still_tail 8, (by kernel_rfl)
      rw [hc.out]
      rw [hc.out] at HST
      have hA' : Blk { wr with drawn := wr.drawn + 1 } ga 23 ((zipTo l r k).map iV) := hA
      have hB' : Blk { wr with drawn := wr.drawn + 1 } gb 23 (r.map iV) := hB
      have hR' : Blk { wr with drawn := wr.drawn + 1 } gr 23 (H no) := hR
      have hb' : Below w.heap.size w { wr with drawn := wr.drawn + 1 } := hbel.trans ((below_drew wr).mono hbel.size)
      clear ca cb hA hB hR hbel
      go_wp2_with (with_reducible refine wpList_put (o := ⟨none, .store 3 (.tmp 16) (.tmp 15), _, _, _, _⟩) (by with_unfolding_all rfl) 3 (.tmp 16) (.tmp 15) (by with_unfolding_all rfl) ga k (by with_unfolding_all rfl) (.int .i64 c) (by with_unfolding_all rfl) hA' [.int .i64 c] (by with_unfolding_all rfl) (by with_unfolding_all (exact Tryd.szI)) (by with_unfolding_all (rw [HLM.out k hk]; exact hlt)) (by with_unfolding_all (exact one_cell1 rfl)) ?_)
      intro w4 hu4 hA4
      have e4 : splice ((zipTo l r k).map iV) k [.int .i64 c] = (zipTo l r (k + 1)).map iV := by rw [splice_set _ _ _ (by rw [HLM.out k hk]; exact hlt)]; exact HST.out
      rw [e4] at hA4
      have hB4 := hB'.upd hu4 (by omega)
      have hR4 := hR'.upd hu4 (by omega)
      have hb4 := hb'.trans (hu4.below (B := w.heap.size) hle)
      clear hA' hB' hR' hb' hu4 e4
      go_wp2
      go_roundw
      case rel => exact ⟨k + 1, by omega, by go_num, hA4, hB4, hR4, hb4⟩
      case measure => simp [intOf]; omega
    · obtain rfl : k = 10 := by omega
      have hA' : Blk wr ga 23 ((zipA l r).map iV) := by rw [zipTo_all HL.out HR.out] at hA; exact hA
      clear hA hk
      go_wp2_with (first | (with_reducible refine wpList_get (o := ⟨some 18, .load 23 (.tmp 2), _, _, _, _⟩) (by with_unfolding_all rfl) 23 (.tmp 2) (by with_unfolding_all rfl) ga 0 (by with_unfolding_all rfl) hA' ((zipA l r).map iV) (cs_all _) _ (by exact Tryd.underlying23) (by with_unfolding_all rfl) (by rw [HZ.out]; exact Tryd.szH) ?_) | (with_reducible refine wpList_put (o := ⟨none, .store 23 (.tmp 4) (.tmp 18), _, _, _, _⟩) (by with_unfolding_all rfl) 23 (.tmp 4) (.tmp 18) (by with_unfolding_all rfl) gr 0 (by with_unfolding_all rfl) (.agg ((zipA l r).map iV).toArray) (by with_unfolding_all rfl) hR ((zipA l r).map iV) (by with_unfolding_all rfl) (by with_unfolding_all (rw [HZ.out]; exact Tryd.szH)) (by with_unfolding_all (rw [HZ.out, H_length]; omega)) (by with_unfolding_all (exact iV_one _)) ?_))
      intro w4 hu4 hR4
      rw [splice_all _ _ (by rw [HZ.out, H_length])] at hR4
      have hb4 := hbel.trans (hu4.below (B := w.heap.size) (by omega))
      go_wp2
      refine bodyPost_ret (results_cell_row rfl _ _ gr _ _ _ _ rfl hR4 Tryd.underlying23 rfl (by rw [List.size_toArray, HZ.out]; exact Tryd.szH)) rfl ⟨rfl, hb4⟩
/-- The words of a right pattern: of its mask, of its bits. -/
def pairI (m b : List Int) : Bool := decide (rightI m) && decide (zipA b m = b)
set_option maxRecDepth 100000 in
set_option maxHeartbeats 1600000 in
theorem rightPair_any (m b : List Int) (w : World) (hm : m.length = 10) (hb : b.length = 10) :
    Calls Tryd.prog 155 #[.agg (m.map iV).toArray, .agg (b.map iV).toArray] w fun e w' => e = .returned (.bool (pairI m b)) ∧ Below w.heap.size w w' := by
  obtain ⟨D1, hD1⟩ : ∃ D, Hid (decide (rightI m) = D) := ⟨_, rfl⟩
  obtain ⟨D2, hD2⟩ : ∃ D, Hid (decide (zipA b m = b) = D) := ⟨_, rfl⟩
  obtain ⟨D, hD⟩ : ∃ D, Hid (pairI m b = D) := ⟨_, rfl⟩
  have hDv : Hid ((D1 && D2) = D) := by
    have : (D1 && D2) = D := by rw [← hD.out, ← hD1.out, ← hD2.out]; rfl
    exact this
  rw [hD.out]
  have he2 : ∀ w, (binOp .eql 23 (.agg ((zipA b m).map iV).toArray) (.agg (b.map iV).toArray)).run Tryd.prog w = .ok (.bool D2) w := fun w => by rw [eql_head w _ _ (zipA_length hb hm) hb, hD2.out]
  have hgd := Tryd.guardH
  have HM := Lib.hid hm
  have HB := Lib.hid hb
  have hz1 : (Tryd.prog.info? 23).map (·.size) = some (m.map iV).length := by rw [List.length_map, hm]; exact Tryd.szH
  have hz2 : (Tryd.prog.info? 23).map (·.size) = some (b.map iV).length := by rw [List.length_map, hb]; exact Tryd.szH
  clear hD hD2 hm hb
  go_enter Tryd.func155, Tryd.ntmps155
  go_wp2_with (with_reducible refine wpList_box (o := ⟨some 2, .box 23 (.tmp 0), _, _, _, _⟩) ?g1 23 (.tmp 0) ?o1 (.agg (m.map iV).toArray) (m.map iV) ?x1 ?c1 ?_)
  try (case g1 => rfl)
  try (case o1 => rfl)
  try (case x1 => rfl)
  try (case c1 => rfl)
  intro gp w1 hgp hs1 hb1 hP1
  go_wp2_with (with_reducible refine wpList_box (o := ⟨some 3, .box 23 (.tmp 1), _, _, _, _⟩) ?g2 23 (.tmp 1) ?o2 (.agg (b.map iV).toArray) (b.map iV) ?x2 ?c2 ?_)
  try (case g2 => rfl)
  try (case o2 => rfl)
  try (case x2 => rfl)
  try (case c2 => rfl)
  intro gq w2 hgq hs2 hb2 hQ2
  have hle : w.heap.size ≤ gp := Nat.le_of_eq hgp.out.symm
  have hab : gp < gq := by have := hgp.out; have := hs1.out; have := hgq.out; omega
  have hP2 := hP1.next hb2 hab
  have hbel := (hb1.mono hle).trans (hb2.mono (by omega))
  clear hgp hs1 hb1 hP1 hgq hs2 hb2
  go_wp2
  have hrg : ∀ w', Below w2.heap.size w2 w' → w'.rangeAt gp 0 (m.map iV) ∧ w'.rangeAt gq 0 (b.map iV) := fun w' h => ⟨blk_range (hP2.next h hP2.lt), blk_range (hQ2.next h hQ2.lt)⟩
  have hun := Tryd.underlying23
  have HRG := Lib.hid hrg
  have hdd := below_drew w2
  clear hrg
  refine wp_region_held_drew (S := fun w' => w'.rangeAt gp 0 (m.map iV) ∧ w'.rangeAt gq 0 (b.map iV)) (by kernel_rfl) (HRG.out _ hdd) (fun hHeld => ?_)
  generalize w2.drew = wd at hdd hHeld ⊢
  refine' wpAnyH_take (i := 0) (v := _) rfl (by kernel_rfl) (by kernel_rfl) (by kernel_rfl) (fun _ _ _ h => h) (yieldsIf_load_mid (by rfl) _ _ (by rfl) _ _ (by rfl) _ _ ?Sv0 ?uv0 ?dv0 ?iv0) (by assumption) ?rv0
  case Sv0 => exact (by intro w h; exact h.1)
  case uv0 => exact hun
  case dv0 => rfl
  case iv0 => exact hz1
  (try simp only [List.getElem_toArray, List.getElem_cons_zero, Act.put, List.setIfInBounds_toArray, List.set_cons_zero, List.set_cons_succ])
  refine wpAnyH_ready (rs := [1]) (by kernel_rfl) (by simp) ?_
  refine AllReadyH.cons rfl (fun K hK => ?_) AllReadyH.nil
  go_simp
  go_wp2_with fail
  (with_reducible refine (rightHead_any m _ HM.out).mono ?_)
  rintro e wA ⟨rfl, hbA⟩
  rw [hD1.out]
  have hkA := below_join hdd hbA
  refine hK.out _ _ (HRG.out _ hkA) (fun hHeld => ?_)
  clear hK K hdd hbA hD1
  refine wpAnyH_take (i := 2) (v := ?vv2) rfl (by kernel_rfl) (by kernel_rfl) (by kernel_rfl) (fun _ _ _ h => h) (Or.inl ⟨by rfl, ?yv2⟩) (by assumption) ?rv2
  case yv2 => intro w hSw; (try dsimp only at hSw); go_simp <;> (try with_reducible rfl)
  (try simp only [List.getElem_toArray, List.getElem_cons_succ, List.getElem_cons_zero, Act.put, List.setIfInBounds_toArray, List.set_cons_zero, List.set_cons_succ])
  rcases D1 with _ | _
  · obtain rfl : false = D := hDv.out
    refine wpAnyH_take (i := 3) (v := undef) rfl (by kernel_rfl) (by kernel_rfl) (by kernel_rfl) (fun _ _ _ h => h) (Or.inr ⟨by rfl, rfl⟩) (by assumption) ?rs3
    (try simp only [List.getElem_toArray, List.getElem_cons_succ, List.getElem_cons_zero, Act.put, List.setIfInBounds_toArray, List.set_cons_zero, List.set_cons_succ])
    refine wpAnyH_take (i := 4) (v := undef) rfl (by kernel_rfl) (by kernel_rfl) (by kernel_rfl) (fun _ _ _ h => h) (Or.inr ⟨by rfl, rfl⟩) (by assumption) ?rs4
    (try simp only [List.getElem_toArray, List.getElem_cons_succ, List.getElem_cons_zero, Act.put, List.setIfInBounds_toArray, List.set_cons_zero, List.set_cons_succ])
    refine wpAnyH_take (i := 5) (v := undef) rfl (by kernel_rfl) (by kernel_rfl) (by kernel_rfl) (fun _ _ _ h => h) (Or.inr ⟨by rfl, rfl⟩) (by assumption) ?rs5
    (try simp only [List.getElem_toArray, List.getElem_cons_succ, List.getElem_cons_zero, Act.put, List.setIfInBounds_toArray, List.set_cons_zero, List.set_cons_succ])
    refine wpAnyH_take (i := 6) (v := undef) rfl (by kernel_rfl) (by kernel_rfl) (by kernel_rfl) (fun _ _ _ h => h) (Or.inr ⟨by rfl, rfl⟩) (by assumption) ?rs6
    (try simp only [List.getElem_toArray, List.getElem_cons_succ, List.getElem_cons_zero, Act.put, List.setIfInBounds_toArray, List.set_cons_zero, List.set_cons_succ])
    refine wpAnyH_take (i := 7) (v := undef) rfl (by kernel_rfl) (by kernel_rfl) (by kernel_rfl) (fun _ _ _ h => h) (Or.inr ⟨by rfl, rfl⟩) (by assumption) ?rs7
    (try simp only [List.getElem_toArray, List.getElem_cons_succ, List.getElem_cons_zero, Act.put, List.setIfInBounds_toArray, List.set_cons_zero, List.set_cons_succ])
    refine wpAnyH_take (i := 8) (v := ?vs8) rfl (by kernel_rfl) (by kernel_rfl) (by kernel_rfl) (fun _ _ _ h => h) (Or.inl ⟨by rfl, ?ys8⟩) (by assumption) ?rs8
    case ys8 => intro w hSw; (try dsimp only at hSw); go_simp <;> (try with_reducible rfl)
    (try simp only [List.getElem_toArray, List.getElem_cons_succ, List.getElem_cons_zero, Act.put, List.setIfInBounds_toArray, List.set_cons_zero, List.set_cons_succ])
    refine wpAnyH_take (i := 9) (v := ?vs9) rfl (by kernel_rfl) (by kernel_rfl) (by kernel_rfl) (fun _ _ _ h => h) (Or.inl ⟨by rfl, ?ys9⟩) (by assumption) ?rs9
    case ys9 => intro w hSw; (try dsimp only at hSw); go_simp <;> (try with_reducible rfl)
    (try simp only [List.getElem_toArray, List.getElem_cons_succ, List.getElem_cons_zero, Act.put, List.setIfInBounds_toArray, List.set_cons_zero, List.set_cons_succ])
    refine wpAnyH_done (by kernel_rfl) ?_ _
    have hfin := hbel.trans (hkA.mono hbel.size)
    go_wp2
    go_ret
    exact ⟨rfl, hfin⟩
  · skip
    refine' wpAnyH_take (i := 3) (v := _) rfl (by kernel_rfl) (by kernel_rfl) (by kernel_rfl) (fun _ _ _ h => h) (yieldsIf_load_mid (by rfl) _ _ (by rfl) _ _ (by rfl) _ _ ?St3 ?ut3 ?dt3 ?it3) (by assumption) ?rt3
    case St3 => exact (by intro w h; exact h.2)
    case ut3 => exact hun
    case dt3 => rfl
    case it3 => exact hz2
    (try simp only [List.getElem_toArray, List.getElem_cons_succ, List.getElem_cons_zero, Act.put, List.setIfInBounds_toArray, List.set_cons_zero, List.set_cons_succ])
    refine' wpAnyH_take (i := 4) (v := _) rfl (by kernel_rfl) (by kernel_rfl) (by kernel_rfl) (fun _ _ _ h => h) (yieldsIf_load_mid (by rfl) _ _ (by rfl) _ _ (by rfl) _ _ ?St4 ?ut4 ?dt4 ?it4) (by assumption) ?rt4
    case St4 => exact (by intro w h; exact h.1)
    case ut4 => exact hun
    case dt4 => rfl
    case it4 => exact hz1
    (try simp only [List.getElem_toArray, List.getElem_cons_succ, List.getElem_cons_zero, Act.put, List.setIfInBounds_toArray, List.set_cons_zero, List.set_cons_succ])
    refine' wpAnyH_take (i := 6) (v := _) rfl (by kernel_rfl) (by kernel_rfl) (by kernel_rfl) (fun _ _ _ h => h) (yieldsIf_load_mid (by rfl) _ _ (by rfl) _ _ (by rfl) _ _ ?St6 ?ut6 ?dt6 ?it6) (by assumption) ?rt6
    case St6 => exact (by intro w h; exact h.2)
    case ut6 => exact hun
    case dt6 => rfl
    case it6 => exact hz2
    (try simp only [List.getElem_toArray, List.getElem_cons_succ, List.getElem_cons_zero, Act.put, List.setIfInBounds_toArray, List.set_cons_zero, List.set_cons_succ])
    refine wpAnyH_ready (rs := [5]) (by kernel_rfl) (by simp) ?_
    refine AllReadyH.cons rfl (fun K hK => ?_) AllReadyH.nil
    go_simp
    go_wp2_with fail
    (with_reducible refine (meetI_any b m _ HB.out HM.out).mono ?_)
    rintro e wB ⟨rfl, hbB⟩
    have hkB := below_join hkA hbB
    refine hK.out _ _ (HRG.out _ hkB) (fun hHeld => ?_)
    clear hK K hkA hbB
    obtain rfl : D2 = D := hDv.out
    refine wpAnyH_take (i := 7) (v := ?vt7) rfl (by kernel_rfl) (by kernel_rfl) (by kernel_rfl) (fun _ _ _ h => h) (Or.inl ⟨by rfl, ?yt7⟩) (by assumption) ?rt7
    case yt7 => intro w hSw; (try dsimp only at hSw); go_simp <;> (try with_reducible rfl)
    (try simp only [List.getElem_toArray, List.getElem_cons_succ, List.getElem_cons_zero, Act.put, List.setIfInBounds_toArray, List.set_cons_zero, List.set_cons_succ])
    refine wpAnyH_take (i := 8) (v := ?vt8) rfl (by kernel_rfl) (by kernel_rfl) (by kernel_rfl) (fun _ _ _ h => h) (Or.inl ⟨by rfl, ?yt8⟩) (by assumption) ?rt8
    case yt8 => intro w hSw; (try dsimp only at hSw); go_simp <;> (try with_reducible rfl)
    (try simp only [List.getElem_toArray, List.getElem_cons_succ, List.getElem_cons_zero, Act.put, List.setIfInBounds_toArray, List.set_cons_zero, List.set_cons_succ])
    refine wpAnyH_take (i := 9) (v := ?vt9) rfl (by kernel_rfl) (by kernel_rfl) (by kernel_rfl) (fun _ _ _ h => h) (Or.inl ⟨by rfl, ?yt9⟩) (by assumption) ?rt9
    case yt9 => intro w hSw; (try dsimp only at hSw); go_simp <;> (try with_reducible rfl)
    (try simp only [List.getElem_toArray, List.getElem_cons_succ, List.getElem_cons_zero, Act.put, List.setIfInBounds_toArray, List.set_cons_zero, List.set_cons_succ])
    refine wpAnyH_done (by kernel_rfl) ?_ _
    have hfin := hbel.trans (hkB.mono hbel.size)
    go_wp2
    go_ret
    exact ⟨rfl, hfin⟩
end Go.Proofs.YtkkgfdfjgfigcaaDoor

/-
  Contracts of the walks over Right, RightMod, Exact, Free, Least and Bit. Conditions: none.
-/
namespace Go.Proofs.YtkkgfdfjgfigcaaDoor
set_option linter.unusedVariables false
set_option linter.unusedSimpArgs false
open Go.RowKit

set_option maxRecDepth 100000 in
set_option maxHeartbeats 1600000 in
theorem right_any (m b : List Int) (w : World) (hm : m.length = 10) (hb : b.length = 10) :
    Calls Tryd.prog 86 #[.agg (m.map iV ++ b.map iV).toArray] w fun e w' => e = .returned (.bool (pairI m b)) ∧ Below w.heap.size w w' := by
  have HM := Lib.hid hm
  have HB := Lib.hid hb
  have HL : Hid ((m.map iV ++ b.map iV).length = 20) := by
    have : (m.map iV ++ b.map iV).length = 20 := by rw [List.length_append, List.length_map, List.length_map, hm, hb]
    exact this
  have e1 : ((m.map iV ++ b.map iV).drop 0).take (m.map iV).length = m.map iV := by rw [List.drop_zero, List.take_left' rfl]
  have e2 : ((m.map iV ++ b.map iV).drop 10).take (b.map iV).length = b.map iV := by rw [List.drop_left' (by rw [List.length_map]; exact hm), List.take_of_length_le (Nat.le_refl _)]
  have E1 := Lib.hid e1
  have E2 := Lib.hid e2
  have hz1 : (Tryd.prog.info? 23).map (·.size) = some (m.map iV).length := by rw [List.length_map, hm]; exact Tryd.szH
  have hz2 : (Tryd.prog.info? 23).map (·.size) = some (b.map iV).length := by rw [List.length_map, hb]; exact Tryd.szH
  clear hm hb e1 e2
  go_enter Tryd.func86, Tryd.ntmps86
  go_wp2_with (with_reducible refine wpList_box (o := ⟨some 1, .box 25 (.tmp 0), _, _, _, _⟩) ?g1 25 (.tmp 0) ?o1 (.agg (m.map iV ++ b.map iV).toArray) (m.map iV ++ b.map iV) ?x1 ?c1 ?_)
  try (case g1 => rfl)
  try (case o1 => rfl)
  try (case x1 => rfl)
  try (case c1 => rfl)
  intro gp w1 hgp hs1 hb1 hP1
  have hbel : Below w.heap.size w w1 := hb1.mono (Nat.le_of_eq hgp.out.symm)
  clear hgp hs1 hb1
  go_wp2_with (first | (with_reducible refine wpList_get (o := ⟨some 4, .load 23 (.tmp 3), _, _, _, _⟩) (by with_unfolding_all rfl) 23 (.tmp 3) (by with_unfolding_all rfl) gp 0 (by with_unfolding_all rfl) hP1 (m.map iV) E1.out _ (by exact Tryd.underlying23) (by with_unfolding_all rfl) hz1 ?_) | (with_reducible refine wpList_get (o := ⟨some 6, .load 23 (.tmp 5), _, _, _, _⟩) (by with_unfolding_all rfl) 23 (.tmp 5) (by with_unfolding_all rfl) gp 10 (by with_unfolding_all rfl) hP1 (b.map iV) E2.out _ (by exact Tryd.underlying23) (by with_unfolding_all rfl) hz2 ?_))
  (with_reducible refine (rightPair_any m b _ HM.out HB.out).mono ?_)
  rintro e w2 ⟨rfl, hb2⟩
  have hfin := hbel.trans (hb2.mono hbel.size)
  go_wp2
  go_ret
  exact ⟨rfl, hfin⟩

























































set_option maxRecDepth 100000 in
set_option maxHeartbeats 1600000 in
theorem least_any (p : Pat) (w : World) :
    Calls Tryd.prog 209 #[.agg p.cells.toArray] w fun e w' => e = .returned (.agg (H p.b).toArray) ∧ Below w.heap.size w w' := by
  go_enter Tryd.func209, Tryd.ntmps209
  go_wp2_with (with_reducible refine wpList_box (o := ⟨some 1, .box 25 (.tmp 0), _, _, _, _⟩) ?g1 25 (.tmp 0) ?o1 (.agg p.cells.toArray) p.cells ?x1 ?c1 ?_)
  try (case g1 => rfl)
  try (case o1 => rfl)
  try (case x1 => rfl)
  try (case c1 => rfl)
  intro gp w1 hgp hs1 hb1 hP1
  go_wp2_with (with_reducible refine wpList_alloc (o := ⟨some 2, .alloc 23, _, _, _, _⟩) (by with_unfolding_all rfl) 23 (by with_unfolding_all rfl) (.agg (H no).toArray) (H no) (by exact Tryd.zeroH) (by with_unfolding_all rfl) ?_)
  intro gr w2 hgr hs2 hb2 hR2
  have hle : w.heap.size ≤ gp := Nat.le_of_eq hgp.out.symm
  have hab : gp < gr := by have := hgp.out; have := hs1.out; have := hgr.out; omega
  have hP2 := hP1.next hb2 hab
  have hbel := (hb1.mono hle).trans (hb2.mono (by omega : w.heap.size ≤ gr))
  clear hgp hs1 hb1 hP1 hgr hs2 hb2
  go_wp2_with (first | (with_reducible refine wpList_get (o := ⟨some 4, .load 23 (.tmp 3), _, _, _, _⟩) (by with_unfolding_all rfl) 23 (.tmp 3) (by with_unfolding_all rfl) gp 10 (by with_unfolding_all rfl) hP2 (H p.b) (cells_take_b p) _ (by exact Tryd.underlying23) (by with_unfolding_all rfl) (by rw [H_length]; exact Tryd.szH) ?_) | (with_reducible refine wpList_put (o := ⟨none, .store 23 (.tmp 2) (.tmp 4), _, _, _, _⟩) (by with_unfolding_all rfl) 23 (.tmp 2) (.tmp 4) (by with_unfolding_all rfl) gr 0 (by with_unfolding_all rfl) (.agg (H p.b).toArray) (by with_unfolding_all rfl) hR2 (H p.b) (by with_unfolding_all rfl) (by with_unfolding_all (rw [H_length]; exact Tryd.szH)) (by with_unfolding_all (rw [H_length, H_length]; omega)) (by with_unfolding_all (exact H_one p.b)) ?_))
  intro w4 hu4 hR4
  rw [splice_all _ _ (by rw [H_length, H_length])] at hR4
  have hb4 := hbel.trans (hu4.below (B := w.heap.size) (by omega))
  go_wp2
  refine bodyPost_ret (results_cell_row rfl _ _ gr _ _ _ _ rfl hR4 Tryd.underlying23 rfl (by rw [List.size_toArray, H_length]; exact Tryd.szH)) rfl ⟨rfl, hb4⟩
def Pat.exact (h : Nat → Bool) : Pat := ⟨yes, h⟩


































































end Go.Proofs.YtkkgfdfjgfigcaaDoor

/-
  Contracts of the walks over Bit, cmp.Compare, slices.Compare and CompareHeads. Conditions: none.
-/
namespace Go.Proofs.YtkkgfdfjgfigcaaDoor
set_option linter.unusedVariables false
set_option linter.unusedSimpArgs false
open Go.RowKit

/-- How two rows of numbers compare. -/
def cmpL : List Nat → List Nat → Int
  | a :: l, b :: r => if a < b then -1 else if b < a then 1 else cmpL l r
  | _, _ => 0
def val : List Nat → Nat
  | [] => 0
  | a :: l => a * 65536 ^ l.length + val l
theorem val_lt : ∀ {l : List Nat}, (∀ x ∈ l, x < 65536) → val l < 65536 ^ l.length
  | [], _ => by decide
  | a :: l, h => by
    have h1 := val_lt (fun x hx => h x (List.mem_cons_of_mem _ hx))
    have h2 : a + 1 ≤ 65536 := h a (List.mem_cons_self ..)
    unfold val
    rw [List.length_cons, Nat.pow_succ]
    have h3 := Nat.mul_le_mul_left (65536 ^ l.length) h2
    rw [Nat.mul_add, Nat.mul_one, Nat.mul_comm _ a] at h3
    omega
theorem cmpL_val : ∀ {l r : List Nat}, l.length = r.length → (∀ x ∈ l, x < 65536) → (∀ x ∈ r, x < 65536) → cmpL l r = if val l < val r then -1 else if val r < val l then 1 else 0
  | [], [], _, _, _ => by decide
  | [], _ :: _, h, _, _ => by cases h
  | _ :: _, [], h, _, _ => by cases h
  | a :: l, b :: r, h, hl, hr => by
    have hlen : l.length = r.length := by simpa using h
    have ih := cmpL_val hlen (fun x hx => hl x (List.mem_cons_of_mem _ hx)) (fun x hx => hr x (List.mem_cons_of_mem _ hx))
    have h1 := val_lt (fun x hx => hl x (List.mem_cons_of_mem _ hx))
    have h2 := val_lt (fun x hx => hr x (List.mem_cons_of_mem _ hx))
    unfold cmpL val
    rw [hlen] at h1 ⊢
    generalize 65536 ^ r.length = W at h1 h2 ⊢
    by_cases c1 : a < b
    · have := Nat.mul_le_mul_right W (show a + 1 ≤ b from c1)
      rw [Nat.add_mul, Nat.one_mul] at this
      rw [if_pos c1, if_pos (by omega)]
    · by_cases c2 : b < a
      · have := Nat.mul_le_mul_right W (show b + 1 ≤ a from c2)
        rw [Nat.add_mul, Nat.one_mul] at this
        rw [if_neg c1, if_pos c2, if_neg (by omega), if_pos (by omega)]
      · obtain rfl : a = b := by omega
        have e1 : (a * W + val l < a * W + val r) = (val l < val r) := propext ⟨fun h => by omega, fun h => by omega⟩
        have e2 : (a * W + val r < a * W + val l) = (val r < val l) := propext ⟨fun h => by omega, fun h => by omega⟩
        rw [if_neg c1, if_neg c2, ih]
        simp only [e1, e2]
theorem val_words (f : Nat → Bool) : ∀ k s, val ((List.range' s k).map (word f)) = wordB f (16 * s) (16 * k)
  | 0, s => rfl
  | k + 1, s => by
    rw [List.range'_succ, List.map_cons]
    unfold val
    rw [val_words f k (s + 1), List.length_map, List.length_range', show 16 * (k + 1) = 16 + 16 * k by omega, wordB_add, show 16 * (s + 1) = 16 * s + 16 by omega, show (65536 : Nat) = 2 ^ 16 from rfl, ← Nat.pow_mul]
    rfl
theorem val_head (f : Nat → Bool) : val (HN f) = num f := by
  unfold HN
  rw [List.range_eq_range']
  exact val_words f 10 0
theorem HN_lt (f : Nat → Bool) : ∀ x ∈ HN f, x < 65536 := by
  intro x hx
  obtain ⟨w, _, rfl⟩ := List.mem_map.1 hx
  exact word_lt f w
/-- How two heads compare. -/
def cmpH (f g : Nat → Bool) : Int := if num f < num g then -1 else if num g < num f then 1 else 0
theorem cmpL_head (f g : Nat → Bool) : cmpL (HN f) (HN g) = cmpH f g := by
  rw [cmpL_val (by rw [HN_length, HN_length]) (HN_lt f) (HN_lt g), val_head, val_head]; rfl
theorem cmpL_skip : ∀ {l r : List Nat} {k : Nat} {a b : Nat}, l.take k = r.take k → l[k]? = some a → r[k]? = some b → a ≠ b → cmpL l r = if a < b then -1 else 1
  | [], _, k, a, b, _, ha, _, _ => by cases k <;> cases ha
  | _ :: _, [], k, a, b, _, _, hb, _ => by cases k <;> cases hb
  | x :: l, y :: r, 0, a, b, _, ha, hb, hne => by
    cases ha; cases hb
    unfold cmpL
    by_cases c : x < y
    · rw [if_pos c, if_pos c]
    · rw [if_neg c, if_pos (by omega), if_neg c]
  | x :: l, y :: r, k + 1, a, b, ht, ha, hb, hne => by
    rw [List.take_succ_cons, List.take_succ_cons, List.cons.injEq] at ht
    obtain ⟨rfl, ht⟩ := ht
    unfold cmpL
    rw [if_neg (Nat.lt_irrefl _), if_neg (Nat.lt_irrefl _)]
    exact cmpL_skip ht (by simpa using ha) (by simpa using hb) hne
theorem cmpL_self : ∀ l : List Nat, cmpL l l = 0
  | [] => rfl
  | a :: l => by
    unfold cmpL
    rw [if_neg (Nat.lt_irrefl _), if_neg (Nat.lt_irrefl _)]
    exact cmpL_self l
set_option maxRecDepth 100000 in
theorem isNaN_any (x : Int) (w : World) : Calls Tryd.prog 196 #[.int .i64 x] w fun e w' => e = .returned (.bool false) ∧ w = w' := by
  go_enter Tryd.func196, Tryd.ntmps196
  go_wp2
  go_ret
  exact ⟨by simp, rfl⟩
def cmpI (x y : Int) : Int := if x < y then -1 else if y < x then 1 else 0
set_option maxRecDepth 100000 in
set_option maxHeartbeats 1600000 in
theorem cmpI_any (x y : Int) (w : World) : Calls Tryd.prog 131 #[.int .i64 x, .int .i64 y] w fun e w' => e = .returned (.int .i64 (cmpI x y)) ∧ w = w' := by
  obtain ⟨c, hc⟩ : ∃ c, Hid (cmpI x y = c) := ⟨_, rfl⟩
  rw [hc.out]
  rcases (by omega : x < y ∨ y < x ∨ x = y) with h | h | h
  · have hcv : Hid (c = -1) := by
      have : c = -1 := by rw [← hc.out]; unfold cmpI; rw [if_pos h]
      exact this
    clear hc
    go_enter Tryd.func131, Tryd.ntmps131
    go_wp2_with (go_at_call 196; refine (isNaN_any _ _).mono ?_; rintro e w' ⟨rfl, rfl⟩)
    go_ret
    exact ⟨by rw [hcv.out]; rfl, rfl⟩
  · have hcv : Hid (c = 1) := by
      have : c = 1 := by rw [← hc.out]; unfold cmpI; rw [if_neg (by omega), if_pos h]
      exact this
    have h2 : y ≤ x := by omega
    clear hc
    go_enter Tryd.func131, Tryd.ntmps131
    go_wp2_with (go_at_call 196; refine (isNaN_any _ _).mono ?_; rintro e w' ⟨rfl, rfl⟩)
    go_ret
    exact ⟨by rw [hcv.out]; rfl, rfl⟩
  · subst h
    have hcv : Hid (c = 0) := by
      have : c = 0 := by rw [← hc.out]; unfold cmpI; rw [if_neg (by omega), if_neg (by omega)]
      exact this
    clear hc
    go_enter Tryd.func131, Tryd.ntmps131
    go_wp2_with (go_at_call 196; refine (isNaN_any _ _).mono ?_; rintro e w' ⟨rfl, rfl⟩)
    go_ret
    exact ⟨by rw [hcv.out]; rfl, rfl⟩
end Go.Proofs.YtkkgfdfjgfigcaaDoor

/-
  Contracts of the walks over slices.Compare, CompareHeads, cmp.Or and Compare; Bit. Conditions: none.
-/
namespace Go.Proofs.YtkkgfdfjgfigcaaDoor
set_option linter.unusedVariables false
set_option linter.unusedSimpArgs false
open Go.RowKit

theorem cmpI_nat (a b : Nat) : cmpI (a : Int) (b : Int) = if a < b then -1 else if b < a then 1 else 0 := by
  unfold cmpI
  by_cases h : a < b
  · rw [if_pos h, if_pos (by omega)]
  · rw [if_neg h, if_neg (by omega)]
    by_cases h2 : b < a
    · rw [if_pos h2, if_pos (by omega)]
    · rw [if_neg h2, if_neg (by omega)]
def CmpRel (l r : List Nat) (i : Value) : Prop := ∃ k : Nat, k ≤ 10 ∧ i = .int .i64 k ∧ l.take k = r.take k
set_option maxRecDepth 100000 in
set_option maxHeartbeats 1600000 in
theorem scompare_any (l r : List Nat) (ga gb : Nat) (w : World) (hl : l.length = 10) (hr : r.length = 10) (hp : w.rangeAt ga 0 (l.map nV)) (hq : w.rangeAt gb 0 (r.map nV)) :
    Calls Tryd.prog 240 #[.slice (some ⟨ga, 0, none⟩) 10 10, .slice (some ⟨gb, 0, none⟩) 10 10] w fun e w' => e = .returned (.int .i64 (cmpL l r)) ∧ w = w' := by
  obtain ⟨C, hC⟩ : ∃ C, Hid (cmpL l r = C) := ⟨_, rfl⟩
  rw [hC.out]
  have HL := Lib.hid hl
  have HR := Lib.hid hr
  have HP := Lib.hid hp
  have HQ := Lib.hid hq
  clear hl hr hp hq
  go_enter Tryd.func240, Tryd.ntmps240
  go_wp2
  go_loop [11] (CmpRel l r) (fun i => 10 - (intOf i).toNat)
  case atStart => exact ⟨0, by omega, rfl, rfl⟩
  case round =>
    obtain ⟨k, hk, rfl, ht⟩ := hrel
    have HT := Lib.hid ht
    clear ht
    by_cases hlt : k < 10
    · obtain ⟨a, ha⟩ : ∃ a, l[k]? = some a := ⟨_, List.getElem?_eq_getElem (by rw [HL.out]; exact hlt)⟩
      obtain ⟨b, hb⟩ : ∃ b, r[k]? = some b := ⟨_, List.getElem?_eq_getElem (by rw [HR.out]; exact hlt)⟩
      have ca : w.cell? ⟨ga, k, none⟩ = some (.int .i64 (a : Int)) := by
        have := HP.out k (nV a) (by rw [List.getElem?_map, ha]; rfl)
        rwa [Nat.zero_add] at this
      have cb : w.cell? ⟨gb, k, none⟩ = some (.int .i64 (b : Int)) := by
        have := HQ.out k (nV b) (by rw [List.getElem?_map, hb]; rfl)
        rwa [Nat.zero_add] at this
      have HA := Lib.hid ha
      have HB := Lib.hid hb
      clear ha hb
      go_wp2_with fail
      (with_reducible refine (cmpI_any (a : Int) (b : Int) _).mono ?_)
      rintro e w' ⟨rfl, rfl⟩
      rw [cmpI_nat]
      by_cases h1 : a < b
      · have hcv : Hid (C = -1) := by
          have : C = -1 := by rw [← hC.out, cmpL_skip HT.out HA.out HB.out (by omega), if_pos h1]
          exact this
        rw [if_pos h1]
        clear h1
        go_wp2
        go_ret
        exact ⟨by rw [hcv.out]; rfl, rfl⟩
      · by_cases h2 : b < a
        · have hcv : Hid (C = 1) := by
            have : C = 1 := by rw [← hC.out, cmpL_skip HT.out HA.out HB.out (by omega), if_neg h1]
            exact this
          rw [if_neg h1, if_pos h2]
          clear h1 h2
          go_wp2
          go_ret
          exact ⟨by rw [hcv.out]; rfl, rfl⟩
        · obtain rfl : a = b := by omega
          have hnx : Hid (l.take (k + 1) = r.take (k + 1)) := by
            have : l.take (k + 1) = r.take (k + 1) := by
              obtain ⟨k1, e1⟩ := List.getElem?_eq_some_iff.1 HA.out
              obtain ⟨k2, e2⟩ := List.getElem?_eq_some_iff.1 HB.out
              rw [List.take_succ_eq_append_getElem k1, List.take_succ_eq_append_getElem k2, HT.out, e1, e2]
            exact this
          rw [if_neg h1, if_neg h2]
          clear h1 h2
          go_wp2
          go_round
          case rel => exact ⟨k + 1, by omega, by go_num, hnx.out⟩
          case measure => simp [intOf]; omega
    · obtain rfl : k = 10 := by omega
      have hcv : Hid (C = 0) := by
        have : C = 0 := by
          have h := HT.out
          rw [List.take_of_length_le (by rw [HL.out]; exact Nat.le_refl _), List.take_of_length_le (by rw [HR.out]; exact Nat.le_refl _)] at h
          rw [← hC.out, h]
          exact cmpL_self r
        exact this
      go_wp2
      go_ret
      exact ⟨by rw [hcv.out]; rfl, rfl⟩
theorem run_cutH (g : Nat) (w : World) : (Instr.sliceAt 23 (.pointer (some ⟨g, 0, none⟩)) none none none).run Tryd.prog w = .ok (.slice (some ⟨g, 0, none⟩) 10 10) w := by
  have hu := Tryd.underlying23
  obtain ⟨e1, e2⟩ := arrayLen_of hu
  have hrun := run_sliceAt_array_all (P := Tryd.prog) w 23 ⟨g, 0, none⟩ (by rw [e1, e2]; exact hu)
  have hs := Tryd.szI
  cases hq : Tryd.prog.info? 3 with
  | none => simp [hq] at hs
  | some i =>
    have hz : i.size = 1 := by simpa [hq] using hs
    rw [e1, e2] at hrun
    simp [sizeOf, typeInfo, hq, hz, slicedAt, addr_mid] at hrun
    exact hrun
set_option maxRecDepth 100000 in
set_option maxHeartbeats 1600000 in
theorem compareHeads_any (f g : Nat → Bool) (w : World) :
    Calls Tryd.prog 208 #[.agg (H f).toArray, .agg (H g).toArray] w fun e w' => e = .returned (.int .i64 (cmpH f g)) ∧ Below w.heap.size w w' := by
  obtain ⟨C, hC⟩ : ∃ C, Hid (cmpH f g = C) := ⟨_, rfl⟩
  rw [hC.out]
  have hC2 : Hid (cmpL (HN f) (HN g) = C) := by
    have : cmpL (HN f) (HN g) = C := by rw [cmpL_head, hC.out]
    exact this
  clear hC
  go_enter Tryd.func208, Tryd.ntmps208
  go_wp2_with (with_reducible refine wpList_box (o := ⟨some 2, .box 23 (.tmp 0), _, _, _, _⟩) ?g1 23 (.tmp 0) ?o1 (.agg (H f).toArray) (H f) ?x1 ?c1 ?_)
  try (case g1 => rfl)
  try (case o1 => rfl)
  try (case x1 => rfl)
  try (case c1 => rfl)
  intro gp w1 hgp hs1 hb1 hP1
  go_wp2_with (with_reducible refine wpList_box (o := ⟨some 3, .box 23 (.tmp 1), _, _, _, _⟩) ?g2 23 (.tmp 1) ?o2 (.agg (H g).toArray) (H g) ?x2 ?c2 ?_)
  try (case g2 => rfl)
  try (case o2 => rfl)
  try (case x2 => rfl)
  try (case c2 => rfl)
  intro gq w2 hgq hs2 hb2 hQ2
  have hle : w.heap.size ≤ gp := Nat.le_of_eq hgp.out.symm
  have hab : gp < gq := by have := hgp.out; have := hs1.out; have := hgq.out; omega
  have hP2 := hP1.next hb2 hab
  have hbel := (hb1.mono hle).trans (hb2.mono (by omega))
  clear hgp hs1 hb1 hP1 hgq hs2 hb2
  have hcut : ∀ (g : Nat) (w : World), (Instr.sliceAt 23 (.pointer (some ⟨g, 0, none⟩)) none none none).run Tryd.prog w = .ok (.slice (some ⟨g, 0, none⟩) 10 10) w := fun g w => run_cutH g w
  go_wp2
  go_quiet ((go_at_call 240; exact (scompare_any (HN f) (HN g) gp gq _ (HN_length f) (HN_length g) (blk_range (hP2.drewN _)) (blk_range (hQ2.drewN _))).mono fun _ _ h => ⟨h.1, _, h.2.symm⟩))
  rw [hC2.out]
  have hfin := hbel.trans ((below_drewN w2 nq).mono hbel.size)
  go_wp2
  go_ret
  exact ⟨rfl, hfin⟩
/-- The first of two numbers that is not 0. -/
def orI (a b : Int) : Int := if a = 0 then b else a
def OrRel (a b : Int) (i : Value) : Prop := ∃ k : Nat, k ≤ 2 ∧ i = .int .i64 k ∧ (1 ≤ k → a = 0) ∧ (k = 2 → b = 0)


























































theorem mul_pow_lt {x q : Nat} (h : x < 65536) : x / 2 ^ q < 65536 := Nat.lt_of_le_of_lt (Nat.div_le_self _ _) h
theorem and_one (n : Nat) (h : n < 65536) : bits .and .i64 (n : Int) 1 = ((n % 2 : Nat) : Int) := by
  have := and_nat n 1 h (by decide)
  rw [Nat.and_one_is_mod] at this
  exact this










































end Go.Proofs.YtkkgfdfjgfigcaaDoor

/-
  Contracts of the walks over the reference's value, Bit and set. Conditions: the bit is one of a head.
-/
namespace Go.Proofs.YtkkgfdfjgfigcaaDoor
set_option linter.unusedVariables false
set_option linter.unusedSimpArgs false
open Go.RowKit

def ValRel (m : Nat) (v i : Value) : Prop := ∃ k : Nat, k ≤ m ∧ i = .int .i64 k ∧ v = .int .i64 ((2 ^ (15 - k) : Nat) : Int)
theorem pow_half {k : Nat} (h : k < 15) : 2 ^ (15 - k) / 2 = 2 ^ (15 - (k + 1)) := by
  rw [show 15 - k = 15 - (k + 1) + 1 by omega, Nat.pow_succ, Nat.mul_div_cancel _ (by decide)]







































theorem rbit_eq {f : Nat → Bool} {i q s x : Nat} (_hi : i < 160) (hq : i / 16 = q) (hs : 15 - i % 16 = s) (hx : word f q = x) : (f i).toNat = x / 2 ^ s % 2 := by
  have h1 := word_test f q s
  rw [hx, decide_eq_true (show s < 16 by omega), Bool.true_and, show 16 * q + (15 - s) = i by omega] at h1
  rw [← h1, Nat.testBit_eq_decide_div_mod_eq]
  have h2 : x / 2 ^ s % 2 < 2 := Nat.mod_lt _ (by decide)
  rcases (by omega : x / 2 ^ s % 2 = 0 ∨ x / 2 ^ s % 2 = 1) with h3 | h3 <;> rw [h3] <;> rfl
















































/-- A head with one bit turned. -/
def upd (f : Nat → Bool) (i : Nat) (b : Bool) : Nat → Bool := fun j => if j = i then b else f j
theorem upd_word {f : Nat → Bool} {i q s : Nat} (_hi : i < 160) (hq : i / 16 = q) (hs : 15 - i % 16 = s) (b : Bool) : (word (upd f i b) q : Int) = (word f q : Int) + ((b.toNat : Int) - ((f i).toNat : Int)) * ((2 ^ s : Nat) : Int) := by
  have key : ∀ g : Nat → Bool, (∀ j, j ≠ i → g j = f j) → word g q = wordB f (16 * q) (15 - s) * 2 ^ (s + 1) + (g i).toNat * 2 ^ s + wordB f (i + 1) s := by
    intro g hg
    have h1 := wordB_add g (16 * q) (15 - s + 1) s
    rw [show 15 - s + 1 + s = 16 by omega] at h1
    have h2 : wordB g (16 * q) (15 - s + 1) = 2 * wordB g (16 * q) (15 - s) + (g (16 * q + (15 - s))).toNat := rfl
    rw [show 16 * q + (15 - s) = i by omega] at h2
    have h3 : wordB g (16 * q) (15 - s) = wordB f (16 * q) (15 - s) := wordB_congr fun j hj => hg _ (by omega)
    have h4 : wordB g (16 * q + (15 - s + 1)) s = wordB f (i + 1) s := by
      rw [show 16 * q + (15 - s + 1) = i + 1 by omega]
      exact wordB_congr fun j hj => hg _ (by omega)
    show wordB g (16 * q) 16 = _
    rw [h1, h2, h3, h4, Nat.add_mul, Nat.pow_succ, Nat.mul_comm (2 ^ s) 2, ← Nat.mul_assoc, Nat.mul_comm _ 2]
  have e1 := key f (fun _ _ => rfl)
  have e2 := key (upd f i b) (fun j hj => by unfold upd; rw [if_neg hj])
  have e3 : upd f i b i = b := by unfold upd; rw [if_pos rfl]
  rw [e3] at e2
  have c1 : (word f q : Int) = (wordB f (16 * q) (15 - s) * 2 ^ (s + 1) : Nat) + ((f i).toNat : Int) * ((2 ^ s : Nat) : Int) + (wordB f (i + 1) s : Int) := by rw [e1, Int.natCast_add, Int.natCast_add, Int.natCast_mul (f i).toNat]
  have c2 : (word (upd f i b) q : Int) = (wordB f (16 * q) (15 - s) * 2 ^ (s + 1) : Nat) + (b.toNat : Int) * ((2 ^ s : Nat) : Int) + (wordB f (i + 1) s : Int) := by rw [e2, Int.natCast_add, Int.natCast_add, Int.natCast_mul b.toNat]
  rw [c1, c2, Int.sub_mul]
  omega
theorem upd_H {f : Nat → Bool} {i q : Nat} (hi : i < 160) (hq : i / 16 = q) (b : Bool) : (H f).set q (.int .i64 (word (upd f i b) q : Int)) = H (upd f i b) := by
  rw [H_set f _ (by omega)]
  refine H_congr fun j _ => ?_
  by_cases h : j / 16 = q
  · rw [if_pos h]
  · rw [if_neg h]
    unfold upd
    rw [if_neg (by omega)]
















































































































































































































































































end Go.Proofs.YtkkgfdfjgfigcaaDoor

/-
  Contracts of the walks over the reference's RightHead, within, Right, CompareHeads. Conditions: none.
-/
namespace Go.Proofs.YtkkgfdfjgfigcaaDoor
set_option linter.unusedVariables false
set_option linter.unusedSimpArgs false
open Go.RowKit

set_option maxRecDepth 100000 in
set_option maxHeartbeats 1600000 in
theorem rrightHead_any (l : List Int) (w : World) (hl : l.length = 10) :
    Calls Tryd.prog 88 #[.agg (l.map iV).toArray] w fun e w' => e = .returned (.bool (decide (rightI l))) ∧ Below w.heap.size w w' := by
  have HL := Lib.hid hl
  clear hl
  go_enter Tryd.func88, Tryd.ntmps88
  go_wp2_with (with_reducible refine wpList_box (o := ⟨some 1, .box 23 (.tmp 0), _, _, _, _⟩) ?g1 23 (.tmp 0) ?o1 (.agg (l.map iV).toArray) (l.map iV) ?x1 ?c1 ?_)
  try (case g1 => rfl)
  try (case o1 => rfl)
  try (case x1 => rfl)
  try (case c1 => rfl)
  intro ga w1 hga hs1 hb1 hA1
  have hbel : Below w.heap.size w w1 := hb1.mono (Nat.le_of_eq hga.out.symm)
  clear hb1 hga hs1
  go_wp2
  go_loop [3] (RightRel l) (fun i => 10 - (intOf i).toNat)
  case atStart => exact ⟨0, by omega, rfl, fun x hx => by simp at hx⟩
  case round =>
    obtain ⟨k, hk, rfl, hr⟩ := hrel
    have HR := Lib.hid hr
    clear hr
    by_cases hlt : k < 10
    · obtain ⟨x, hx⟩ : ∃ x, l[k]? = some x := ⟨_, List.getElem?_eq_getElem (by rw [HL.out]; exact hlt)⟩
      have cx : w1.cell? ⟨ga, k, none⟩ = some (.int .i64 x) := hA1.cell (by rw [List.getElem?_map, hx]; rfl)
      have HX := Lib.hid hx
      clear hx
      have hst : Hid (x ∈ l) := List.mem_of_getElem? HX.out
      by_cases h0 : x < 0
      · have hno : Hid (decide (rightI l) = false) := by
          have : decide (rightI l) = false := decide_eq_false fun h => by have := (h x hst.out).1; omega
          exact this
        go_wp2
        go_ret
        exact ⟨(by rw [hno.out]; rfl), hbel⟩
      · by_cases h1 : 65535 < x
        · have hno : Hid (decide (rightI l) = false) := by
            have : decide (rightI l) = false := decide_eq_false fun h => by have := (h x hst.out).2; omega
            exact this
          have h0' : 0 ≤ x := by omega
          go_wp2
          go_ret
          exact ⟨(by rw [hno.out]; rfl), hbel⟩
        · have h0' : 0 ≤ x := by omega
          have h1' : x ≤ 65535 := by omega
          go_wp2
          go_round
          case rel => exact ⟨k + 1, by omega, by go_num, right_step HR.out HX.out h0' h1'⟩
          case measure => simp [intOf]; omega
    · obtain rfl : k = 10 := by omega
      have hyes : Hid (decide (rightI l) = true) := by
        have : decide (rightI l) = true := decide_eq_true (by have := HR.out; rwa [List.take_of_length_le (by rw [HL.out]; exact Nat.le_refl _)] at this)
        exact this
      go_wp2
      go_ret
      exact ⟨(by rw [hyes.out]; rfl), hbel⟩
def WithinRel (l r : List Int) (_ga _gb : Nat) (w : World) (i : Value) (wr : World) : Prop :=
  ∃ k : Nat, k ≤ 10 ∧ i = .int .i64 k ∧ (zipA l r).take k = l.take k ∧ ∃ n, wr = w.drewN n
set_option maxRecDepth 100000 in
set_option maxHeartbeats 1600000 in
theorem rwithin_any (l r : List Int) (w : World) (hl : l.length = 10) (hr : r.length = 10) :
    Calls Tryd.prog 89 #[.agg (l.map iV).toArray, .agg (r.map iV).toArray] w fun e w' => e = .returned (.bool (decide (zipA l r = l))) ∧ Below w.heap.size w w' := by
  have HL := Lib.hid hl
  have HR := Lib.hid hr
  clear hl hr
  go_enter Tryd.func89, Tryd.ntmps89
  go_wp2_with (with_reducible refine wpList_box (o := ⟨some 2, .box 23 (.tmp 0), _, _, _, _⟩) ?g1 23 (.tmp 0) ?o1 (.agg (l.map iV).toArray) (l.map iV) ?x1 ?c1 ?_)
  try (case g1 => rfl)
  try (case o1 => rfl)
  try (case x1 => rfl)
  try (case c1 => rfl)
  intro ga w1 hga hs1 hb1 hA1
  go_wp2_with (with_reducible refine wpList_box (o := ⟨some 3, .box 23 (.tmp 1), _, _, _, _⟩) ?g2 23 (.tmp 1) ?o2 (.agg (r.map iV).toArray) (r.map iV) ?x2 ?c2 ?_)
  try (case g2 => rfl)
  try (case o2 => rfl)
  try (case x2 => rfl)
  try (case c2 => rfl)
  intro gb w2 hgb hs2 hb2 hB2
  have hle : w.heap.size ≤ ga := Nat.le_of_eq hga.out.symm
  have hab : ga < gb := by have := hga.out; have := hs1.out; have := hgb.out; omega
  have hA2 := hA1.next hb2 hab
  have hbel := (hb1.mono hle).trans (hb2.mono (by omega : w.heap.size ≤ gb))
  have HA := Lib.hid hA2
  have HB := Lib.hid hB2
  clear hga hs1 hb1 hA1 hgb hs2 hb2 hA2 hB2
  go_wp2
  go_loopw [5] (WithinRel l r ga gb w2) (fun i _ => 10 - (intOf i).toNat)
  case atStart => exact ⟨0, by omega, rfl, rfl, 0, rfl⟩
  case round =>
    obtain ⟨k, hk, rfl, ht, n, rfl⟩ := hrel
    have HT := Lib.hid ht
    clear ht
    by_cases hlt : k < 10
    · obtain ⟨a, ha⟩ : ∃ a, l[k]? = some a := ⟨_, List.getElem?_eq_getElem (by rw [HL.out]; exact hlt)⟩
      obtain ⟨b, hb⟩ : ∃ b, r[k]? = some b := ⟨_, List.getElem?_eq_getElem (by rw [HR.out]; exact hlt)⟩
      have ca : w2.cell? ⟨ga, k, none⟩ = some (.int .i64 a) := HA.out.cell (by rw [List.getElem?_map, ha]; rfl)
      have cb : w2.cell? ⟨gb, k, none⟩ = some (.int .i64 b) := HB.out.cell (by rw [List.getElem?_map, hb]; rfl)
      have HZ := Lib.hid (zipA_get ha hb)
      have HX := Lib.hid ha
      clear ha hb
      go_wp2
      go_quiet (fail)
      obtain ⟨c, hc⟩ : ∃ c, bits .and .i64 a b = c := ⟨_, rfl⟩
      rw [hc] at HZ ⊢
      clear hc ca cb
      by_cases h0 : c = a
      · subst h0
        have hnx : Hid ((zipA l r).take (k + 1) = l.take (k + 1)) := by
          have : (zipA l r).take (k + 1) = l.take (k + 1) := by
            obtain ⟨k1, e1⟩ := List.getElem?_eq_some_iff.1 HZ.out
            obtain ⟨k2, e2⟩ := List.getElem?_eq_some_iff.1 HX.out
            rw [List.take_succ_eq_append_getElem k1, List.take_succ_eq_append_getElem k2, HT.out, e1, e2]
          exact this
        go_wp2
        go_roundw
        case rel => exact ⟨k + 1, by omega, by go_num, hnx.out, _, rfl⟩
        case measure => simp [intOf]; omega
      · have h0' : (c != a) = true := bne_iff_ne.2 h0
        have hno : Hid (decide (zipA l r = l) = false) := by
          have : decide (zipA l r = l) = false := decide_eq_false fun h => h0 (by
            have e := HZ.out
            rw [h, HX.out] at e
            injection e with e; exact e.symm)
          exact this
        clear h0
        go_wp2
        go_ret
        refine ⟨(by rw [hno.out]; rfl), ?_⟩
        rw [World.drewN_drewN]
        exact hbel.trans ((below_drewN w2 _).mono hbel.size)
    · obtain rfl : k = 10 := by omega
      have hyes : Hid (decide (zipA l r = l) = true) := by
        have : decide (zipA l r = l) = true := decide_eq_true (by
          have := HT.out
          rwa [List.take_of_length_le (by rw [zipA_length HL.out HR.out]; exact Nat.le_refl _), List.take_of_length_le (by rw [HL.out]; exact Nat.le_refl _)] at this)
        exact this
      go_wp2
      go_ret
      exact ⟨(by rw [hyes.out]; rfl), hbel.trans ((below_drewN w2 _).mono hbel.size)⟩
def RCmpRel (l r : List Nat) (w : World) (i : Value) (wr : World) : Prop := ∃ k : Nat, k ≤ 10 ∧ i = .int .i64 k ∧ l.take k = r.take k ∧ ∃ n, wr = w.drewN n

































































































end Go.Proofs.YtkkgfdfjgfigcaaDoor

/-
  Contracts of the walks over the reference's Right, RightMod, Compare and the law's heads. Conditions: none.
-/
namespace Go.Proofs.YtkkgfdfjgfigcaaDoor
set_option linter.unusedVariables false
set_option linter.unusedSimpArgs false
open Go.RowKit

theorem and_right (x y : Int) (h0 : 0 ≤ y) (h1 : y ≤ 65535) : 0 ≤ bits .and .i64 x y ∧ bits .and .i64 x y ≤ 65535 := by
  obtain ⟨n, rfl⟩ := Int.eq_ofNat_of_zero_le h0
  have e : (BitVec.ofInt 64 x &&& BitVec.ofInt 64 (n : Int)).toNat ≤ n := by
    rw [BitVec.toNat_and, ofInt_nat, BitVec.toNat_ofNat, Nat.mod_eq_of_lt (by omega)]
    exact Nat.and_le_right
  have e2 : bits .and .i64 x (n : Int) = (((BitVec.ofInt 64 x &&& BitVec.ofInt 64 (n : Int)).toNat : Nat) : Int) := i64_nat ((BitVec.ofInt 64 x &&& BitVec.ofInt 64 (n : Int)).toNat) (by omega)
  rw [e2]
  omega
/-- Bits within a right mask are right. -/
theorem right_within {m b : List Int} (hm : m.length = 10) (hb : b.length = 10) (h : rightI m) (hz : zipA b m = b) : rightI b := by
  intro x hx
  obtain ⟨k, hk⟩ := List.getElem?_of_mem hx
  have hk10 : k < 10 := by rw [← hb]; exact (List.getElem?_eq_some_iff.1 hk).1
  obtain ⟨y, hy⟩ : ∃ y, m[k]? = some y := ⟨_, List.getElem?_eq_getElem (by rw [hm]; exact hk10)⟩
  have e := zipA_get hk hy
  rw [hz, hk] at e
  injection e with e
  rw [e]
  obtain ⟨h0, h1⟩ := h y (List.mem_of_getElem? hy)
  exact and_right x y h0 h1
theorem pairI_eq {m b : List Int} (hm : m.length = 10) (hb : b.length = 10) : ((decide (rightI m) && decide (rightI b)) && decide (zipA b m = b)) = pairI m b := by
  unfold pairI
  by_cases h1 : rightI m
  · by_cases h2 : zipA b m = b
    · rw [decide_eq_true h1, decide_eq_true h2, decide_eq_true (right_within hm hb h1 h2)]; rfl
    · rw [decide_eq_false h2, Bool.and_false, Bool.and_false]
  · rw [decide_eq_false h1]; rfl
set_option maxRecDepth 100000 in
set_option maxHeartbeats 1600000 in
theorem rright_any (m b : List Int) (w : World) (hm : m.length = 10) (hb : b.length = 10) :
    Calls Tryd.prog 15 #[.agg (m.map iV ++ b.map iV).toArray] w fun e w' => e = .returned (.bool (pairI m b)) ∧ Below w.heap.size w w' := by
  obtain ⟨D1, hD1⟩ : ∃ D, Hid (decide (rightI m) = D) := ⟨_, rfl⟩
  obtain ⟨D2, hD2⟩ : ∃ D, Hid (decide (rightI b) = D) := ⟨_, rfl⟩
  obtain ⟨D3, hD3⟩ : ∃ D, Hid (decide (zipA b m = b) = D) := ⟨_, rfl⟩
  obtain ⟨D, hD⟩ : ∃ D, Hid (pairI m b = D) := ⟨_, rfl⟩
  have hDv : Hid (((D1 && D2) && D3) = D) := by
    have : ((D1 && D2) && D3) = D := by rw [← hD.out, ← hD1.out, ← hD2.out, ← hD3.out]; exact pairI_eq hm hb
    exact this
  rw [hD.out]
  clear hD
  have HM := Lib.hid hm
  have HB := Lib.hid hb
  have HL : Hid ((m.map iV ++ b.map iV).length = 20) := by
    have : (m.map iV ++ b.map iV).length = 20 := by rw [List.length_append, List.length_map, List.length_map, hm, hb]
    exact this
  have e1 : ((m.map iV ++ b.map iV).drop 0).take (m.map iV).length = m.map iV := by rw [List.drop_zero, List.take_left' rfl]
  have e2 : ((m.map iV ++ b.map iV).drop 10).take (b.map iV).length = b.map iV := by rw [List.drop_left' (by rw [List.length_map]; exact hm), List.take_of_length_le (Nat.le_refl _)]
  have E1 := Lib.hid e1
  have E2 := Lib.hid e2
  have hz1 : (Tryd.prog.info? 23).map (·.size) = some (m.map iV).length := by rw [List.length_map, hm]; exact Tryd.szH
  have hz2 : (Tryd.prog.info? 23).map (·.size) = some (b.map iV).length := by rw [List.length_map, hb]; exact Tryd.szH
  clear hm hb e1 e2
  go_enter Tryd.func15, Tryd.ntmps15
  go_wp2_with (with_reducible refine wpList_box (o := ⟨some 1, .box 25 (.tmp 0), _, _, _, _⟩) ?g1 25 (.tmp 0) ?o1 (.agg (m.map iV ++ b.map iV).toArray) (m.map iV ++ b.map iV) ?x1 ?c1 ?_)
  try (case g1 => rfl)
  try (case o1 => rfl)
  try (case x1 => rfl)
  try (case c1 => rfl)
  intro gp w1 hgp hs1 hb1 hP1
  have hbel : Below w.heap.size w w1 := hb1.mono (Nat.le_of_eq hgp.out.symm)
  clear hgp hs1 hb1
  go_wp2_with (with_reducible refine wpList_get (o := ⟨some 6, .load 23 (.tmp 5), _, _, _, _⟩) (by with_unfolding_all rfl) 23 (.tmp 5) (by with_unfolding_all rfl) gp 0 (by with_unfolding_all rfl) hP1 (m.map iV) E1.out _ (by exact Tryd.underlying23) (by with_unfolding_all rfl) hz1 ?_)
  (with_reducible refine (rrightHead_any m _ HM.out).mono ?_)
  rintro e w2 ⟨rfl, hb2⟩
  rw [hD1.out]
  have hP2 := hP1.next hb2 hP1.lt
  have hbel2 := hbel.trans (hb2.mono hbel.size)
  clear hP1 hb2 hbel
  go_wp2_with (with_reducible refine wpList_get (o := ⟨some 9, .load 23 (.tmp 8), _, _, _, _⟩) (by with_unfolding_all rfl) 23 (.tmp 8) (by with_unfolding_all rfl) gp 10 (by with_unfolding_all rfl) hP2 (b.map iV) E2.out _ (by exact Tryd.underlying23) (by with_unfolding_all rfl) hz2 ?_)
  (with_reducible refine (rrightHead_any b _ HB.out).mono ?_)
  rintro e w3 ⟨rfl, hb3⟩
  rw [hD2.out]
  have hP3 := hP2.next hb3 hP2.lt
  have hbel3 := hbel2.trans (hb3.mono hbel2.size)
  clear hP2 hb3 hbel2 hD1 hD2
  rcases D1 with _ | _
  · obtain rfl : false = D := hDv.out
    go_wp2
    go_ret
    exact ⟨rfl, hbel3⟩
  · rcases D2 with _ | _
    · obtain rfl : false = D := hDv.out
      go_wp2
      go_ret
      exact ⟨rfl, hbel3⟩
    · obtain rfl : D3 = D := hDv.out
      go_wp2_with (first | (with_reducible refine wpList_getg (o := ⟨some 17, .load 23 (.tmp 16), _, _, _, _⟩) (by with_unfolding_all rfl) 23 (.tmp 16) (by with_unfolding_all rfl) gp 10 (by with_unfolding_all rfl) hP3 (b.map iV) E2.out _ (by exact Tryd.underlying23) (by with_unfolding_all rfl) hz2 ?_) | (with_reducible refine wpList_getg (o := ⟨some 19, .load 23 (.tmp 18), _, _, _, _⟩) (by with_unfolding_all rfl) 23 (.tmp 18) (by with_unfolding_all rfl) gp 0 (by with_unfolding_all rfl) hP3 (m.map iV) E1.out _ (by exact Tryd.underlying23) (by with_unfolding_all rfl) hz1 ?_))
      (with_reducible refine (rwithin_any b m _ HB.out HM.out).mono ?_)
      rintro e w4 ⟨rfl, hb4⟩
      rw [hD3.out]
      have hbel4 := hbel3.trans (hb4.mono hbel3.size)
      go_wp2
      go_ret
      exact ⟨rfl, hbel4⟩

































end Go.Proofs.YtkkgfdfjgfigcaaDoor

/-
  Contracts of the walks over the reference's Compare, Match, Free and the law's heads. Conditions: none.
-/
namespace Go.Proofs.YtkkgfdfjgfigcaaDoor
set_option linter.unusedVariables false
set_option linter.unusedSimpArgs false
open Go.RowKit

theorem cmpH_cases (f g : Nat → Bool) : cmpH f g = -1 ∨ cmpH f g = 0 ∨ cmpH f g = 1 := by
  unfold cmpH
  split
  · exact .inl rfl
  · split
    · exact .inr (.inr rfl)
    · exact .inr (.inl rfl)
/-- How two patterns compare. -/
def Pat.cmp (p q : Pat) : Int := orI (cmpH p.m q.m) (cmpH p.b q.b)














































































































def RFreeRel (p : Pat) (gp : Nat) (w : World) (v i : Value) (wr : World) : Prop :=
  ∃ k : Nat, k ≤ 160 ∧ i = .int .i64 k ∧ v = .int .i64 ((k - cnt p.m 0 k : Nat) : Int) ∧ Blk wr gp 25 p.cells ∧ Below w.heap.size w wr




















































end Go.Proofs.YtkkgfdfjgfigcaaDoor

/-
  Contract of the walk over the reference's Match. Conditions: none.
-/
namespace Go.Proofs.YtkkgfdfjgfigcaaDoor
set_option linter.unusedVariables false
set_option linter.unusedSimpArgs false
open Go.RowKit

theorem toNat_ne {b c : Bool} (h : ¬ b = c) : (b.toNat : Int) ≠ (c.toNat : Int) := by
  cases b <;> cases c <;> first | exact absurd rfl h | decide
instance (p : Pat) (h : Nat → Bool) : Decidable (p.hit h) := by unfold Pat.hit; exact inferInstance
def RMatchRel (p : Pat) (h : Nat → Bool) (gp gh : Nat) (w : World) (i : Value) (wr : World) : Prop :=
  ∃ k : Nat, k ≤ 160 ∧ i = .int .i64 k ∧ (∀ j, j < k → p.m j = true → p.b j = h j) ∧ Blk wr gp 25 p.cells ∧ Blk wr gh 23 (H h) ∧ Below w.heap.size w wr
















































































































































































































end Go.Proofs.YtkkgfdfjgfigcaaDoor

/-
  Contract of the walk over the reference's And. Conditions: right patterns.
-/
namespace Go.Proofs.YtkkgfdfjgfigcaaDoor
set_option linter.unusedVariables false
set_option linter.unusedSimpArgs false
open Go.RowKit

theorem splice_m (p : Pat) (M : Nat → Bool) : splice p.cells 0 (H M) = (⟨M, p.b⟩ : Pat).cells := by
  unfold splice Pat.cells
  rw [List.take_zero, List.nil_append, Nat.zero_add, List.drop_left' (by rw [H_length, H_length])]
theorem splice_b (p : Pat) (B : Nat → Bool) : splice p.cells 10 (H B) = (⟨p.m, B⟩ : Pat).cells := by
  unfold splice Pat.cells
  rw [List.take_left' (H_length _), List.drop_eq_nil_of_le (by rw [List.length_append, H_length, H_length, H_length]; omega), List.append_nil]
/-- The first k bits are taken over. -/
def Pat.andTo (p q : Pat) (k : Nat) : Pat := ⟨fun i => p.m i || (decide (i < k) && q.m i), fun i => if i < k ∧ q.m i = true then q.b i else p.b i⟩
theorem Pat.andTo_zero (p q : Pat) : (p.andTo q 0).cells = p.cells := cells_congr ⟨fun i _ => by simp [Pat.andTo], fun i _ => by simp [Pat.andTo]⟩
theorem Pat.andTo_skip {p q : Pat} {k : Nat} (h : q.m k = false) : (p.andTo q k).cells = (p.andTo q (k + 1)).cells := by
  refine cells_congr ⟨fun i _ => ?_, fun i _ => ?_⟩
  · unfold Pat.andTo
    by_cases e : i = k
    · subst e; simp [h]
    · simp [show (i < k + 1) = (i < k) by simp; omega]
  · unfold Pat.andTo
    by_cases e : i = k
    · subst e; simp [h]
    · simp [show (i < k + 1) = (i < k) by simp; omega]
theorem Pat.andTo_next {p q : Pat} {k : Nat} (h : q.m k = true) : (⟨upd (p.andTo q k).m k true, upd (p.andTo q k).b k (q.b k)⟩ : Pat).cells = (p.andTo q (k + 1)).cells := by
  refine cells_congr ⟨fun i _ => ?_, fun i _ => ?_⟩
  · unfold Pat.andTo upd
    by_cases e : i = k
    · subst e; simp [h]
    · simp [e, show (i < k + 1) = (i < k) by simp; omega]
  · unfold Pat.andTo upd
    by_cases e : i = k
    · subst e; simp [h]
    · simp [e, show (i < k + 1) = (i < k) by simp; omega]
theorem Pat.andTo_m (p q : Pat) (k : Nat) : (p.andTo q k).m k = p.m k := by simp [Pat.andTo]
theorem Pat.andTo_b (p q : Pat) (k : Nat) : (p.andTo q k).b k = p.b k := by simp [Pat.andTo]
theorem Pat.over_iff {p q : Pat} : p.over q ↔ ∀ i, i < 160 → q.m i = true → p.m i = true → p.b i = q.b i := by
  unfold Pat.over Pat.lap
  refine forall_congr' fun i => forall_congr' fun _ => ?_
  cases p.m i <;> cases q.m i <;> cases p.b i <;> cases q.b i <;> decide
theorem Pat.andTo_all {p q : Pat} (hp : p.ok) (hq : q.ok) (h : p.over q) : (p.andTo q 160).cells = (p.and q).cells := by
  have ho := Pat.over_iff.1 h
  refine cells_congr ⟨fun i hi => ?_, fun i hi => ?_⟩
  · simp [Pat.andTo, Pat.and, hi]
  · have h1 := hp i hi
    have h2 := hq i hi
    have h3 := ho i hi
    unfold Pat.andTo Pat.and
    simp only [hi, true_and]
    revert h1 h2 h3
    cases p.m i <;> cases q.m i <;> cases p.b i <;> cases q.b i <;> decide
def RAndRel (p q : Pat) (gp gq gr : Nat) (w : World) (i : Value) (wr : World) : Prop :=
  ∃ k : Nat, k ≤ 160 ∧ i = .int .i64 k ∧ (∀ j, j < k → q.m j = true → p.m j = true → p.b j = q.b j) ∧ Blk wr gp 25 (p.andTo q k).cells ∧ Blk wr gq 25 q.cells ∧ Blk wr gr 25 Pat.zero.cells ∧ Below w.heap.size w wr





























































































































































































































































































































































































































































































































































end Go.Proofs.YtkkgfdfjgfigcaaDoor

/-
  Contracts of the walks over the reference's Overlap, Covers and Apply. Conditions: right patterns.
-/
namespace Go.Proofs.YtkkgfdfjgfigcaaDoor
set_option linter.unusedVariables false
set_option linter.unusedSimpArgs false
open Go.RowKit















































theorem Pat.covers_iff {p q : Pat} : p.covers q = true ↔ ∀ i, i < 160 → (p.m i && q.m i) = p.m i ∧ (q.b i && p.m i) = p.b i := by
  unfold Pat.covers
  rw [Bool.and_eq_true, decide_eq_true_eq, decide_eq_true_eq]
  exact ⟨fun h i hi => ⟨HI_inj h.1 i hi, HI_inj h.2 i hi⟩, fun h => ⟨HI_congr fun i hi => (h i hi).1, HI_congr fun i hi => (h i hi).2⟩⟩
theorem Pat.covers_and {p q : Pat} (hp : p.ok) (hq : q.ok) : (decide (p.over q) && (p.andV q).same q) = p.covers q := by
  rw [Bool.eq_iff_iff, Bool.and_eq_true, decide_eq_true_eq, Pat.covers_iff]
  constructor
  · rintro ⟨ho, hs⟩ i hi
    unfold Pat.andV at hs
    rw [if_pos ho] at hs
    obtain ⟨h1, h2⟩ := Pat.same_iff.1 hs
    have h3 := h1 i hi
    have h4 := h2 i hi
    have h5 := hp i hi
    have h6 := hq i hi
    have h7 := Pat.over_iff.1 ho i hi
    unfold Pat.and at h3 h4
    simp only at h3 h4
    revert h3 h4 h5 h6 h7
    cases p.m i <;> cases q.m i <;> cases p.b i <;> cases q.b i <;> decide
  · intro h
    have ho : p.over q := Pat.over_iff.2 fun i hi h1 h2 => by
      have := (h i hi).2
      rw [h2, Bool.and_true] at this
      exact this.symm
    refine ⟨ho, ?_⟩
    unfold Pat.andV
    rw [if_pos ho, Pat.same_iff]
    refine ⟨fun i hi => ?_, fun i hi => ?_⟩
    · have h3 := (h i hi).1
      show (p.m i || q.m i) = q.m i
      revert h3
      cases p.m i <;> cases q.m i <;> decide
    · have h3 := (h i hi).2
      show (p.b i || q.b i) = q.b i
      revert h3
      cases p.m i <;> cases p.b i <;> cases q.b i <;> decide

































































end Go.Proofs.YtkkgfdfjgfigcaaDoor

/-
  Contract of the walk over the reference's Apply. Conditions: a right mod.
-/
namespace Go.Proofs.YtkkgfdfjgfigcaaDoor
set_option linter.unusedVariables false
set_option linter.unusedSimpArgs false
open Go.RowKit

/-- The first k bits of the mod are set. -/
def Pat.appTo (m : Pat) (f : Nat → Bool) (k : Nat) : Nat → Bool := fun i => if i < k ∧ m.m i = true then m.b i else f i
theorem Pat.appTo_zero (m : Pat) (f : Nat → Bool) : H (m.appTo f 0) = H f := H_congr fun i _ => by simp [Pat.appTo]
theorem Pat.appTo_skip {m : Pat} {f : Nat → Bool} {k : Nat} (h : m.m k = false) : H (m.appTo f k) = H (m.appTo f (k + 1)) := by
  refine H_congr fun i _ => ?_
  unfold Pat.appTo
  by_cases e : i = k
  · subst e; simp [h]
  · simp [show (i < k + 1) = (i < k) by simp; omega]
theorem Pat.appTo_next {m : Pat} {f : Nat → Bool} {k : Nat} (h : m.m k = true) : H (upd (m.appTo f k) k (m.b k)) = H (m.appTo f (k + 1)) := by
  refine H_congr fun i _ => ?_
  unfold Pat.appTo upd
  by_cases e : i = k
  · subst e; simp [h]
  · simp [e, show (i < k + 1) = (i < k) by simp; omega]
theorem Pat.appTo_all {m : Pat} (hm : m.ok) (f : Nat → Bool) : H (m.appTo f 160) = H (m.app f) := by
  refine H_congr fun i hi => ?_
  have h1 := hm i hi
  unfold Pat.appTo Pat.app
  simp only [hi, true_and]
  revert h1
  cases m.m i <;> cases m.b i <;> cases f i <;> decide
def RAppRel (m : Pat) (f : Nat → Bool) (gm gf gr : Nat) (w : World) (i : Value) (wr : World) : Prop :=
  ∃ k : Nat, k ≤ 160 ∧ i = .int .i64 k ∧ Blk wr gm 88 m.cells ∧ Blk wr gf 23 (H (m.appTo f k)) ∧ Blk wr gr 23 (H no) ∧ Below w.heap.size w wr





























































































































































































end Go.Proofs.YtkkgfdfjgfigcaaDoor

/-
  Contracts of the walks over the reference's Then and Image. Conditions: a right mod.
-/
namespace Go.Proofs.YtkkgfdfjgfigcaaDoor
set_option linter.unusedVariables false
set_option linter.unusedSimpArgs false
open Go.RowKit














































































































































end Go.Proofs.YtkkgfdfjgfigcaaDoor

/-
  Contract of the walk over the reference's Back. Conditions: right pattern and mod.
-/
namespace Go.Proofs.YtkkgfdfjgfigcaaDoor
set_option linter.unusedVariables false
set_option linter.unusedSimpArgs false
open Go.RowKit

/-- The first k bits are given back. -/
def Pat.backTo (p q : Pat) (k : Nat) : Pat := ⟨fun i => if i < k ∧ q.m i = true ∧ p.m i = true then false else p.m i, fun i => if i < k ∧ q.m i = true ∧ p.m i = true then false else p.b i⟩
theorem Pat.backTo_zero (p q : Pat) : (p.backTo q 0).cells = p.cells := cells_congr ⟨fun i _ => by simp [Pat.backTo], fun i _ => by simp [Pat.backTo]⟩
theorem Pat.backTo_skip {p q : Pat} {k : Nat} (h : ¬ (q.m k = true ∧ p.m k = true)) : (p.backTo q k).cells = (p.backTo q (k + 1)).cells := by
  have key : ∀ i, (i < k ∧ q.m i = true ∧ p.m i = true) ↔ (i < k + 1 ∧ q.m i = true ∧ p.m i = true) := fun i => by
    by_cases e : i = k
    · subst e; exact ⟨fun hh => absurd hh.1 (by omega), fun hh => absurd hh.2 h⟩
    · exact ⟨fun hh => ⟨by omega, hh.2⟩, fun hh => ⟨by omega, hh.2⟩⟩
  refine cells_congr ⟨fun i _ => ?_, fun i _ => ?_⟩
  · unfold Pat.backTo
    simp only [key i]
  · unfold Pat.backTo
    simp only [key i]
theorem Pat.backTo_next {p q : Pat} {k : Nat} (h : q.m k = true) (h2 : p.m k = true) : (⟨upd (p.backTo q k).m k false, upd (p.backTo q k).b k false⟩ : Pat).cells = (p.backTo q (k + 1)).cells := by
  refine cells_congr ⟨fun i _ => ?_, fun i _ => ?_⟩
  · unfold Pat.backTo upd
    by_cases e : i = k
    · subst e; simp [h]
    · simp [e, show (i < k + 1) = (i < k) by simp; omega]
  · unfold Pat.backTo upd
    by_cases e : i = k
    · subst e; simp [h, h2]
    · simp [e, show (i < k + 1) = (i < k) by simp; omega]
theorem Pat.backTo_m (p q : Pat) (k : Nat) : (p.backTo q k).m k = p.m k := by simp [Pat.backTo]
theorem Pat.backTo_b (p q : Pat) (k : Nat) : (p.backTo q k).b k = p.b k := by simp [Pat.backTo]
theorem Pat.backTo_all {p q : Pat} (hp : p.ok) : (p.backTo q 160).cells = (p.back q).cells := by
  refine cells_congr ⟨fun i hi => ?_, fun i hi => ?_⟩
  · unfold Pat.backTo Pat.back
    simp only [hi, true_and]
    cases p.m i <;> cases q.m i <;> decide
  · have h1 := hp i hi
    unfold Pat.backTo Pat.back
    simp only [hi, true_and]
    revert h1
    cases p.m i <;> cases q.m i <;> cases p.b i <;> decide
def RBackRel (p q : Pat) (gp gq gr : Nat) (w : World) (i : Value) (wr : World) : Prop :=
  ∃ k : Nat, k ≤ 160 ∧ i = .int .i64 k ∧ (∀ j, j < k → q.m j = true → p.m j = true → p.b j = q.b j) ∧ Blk wr gp 25 (p.backTo q k).cells ∧ Blk wr gq 88 q.cells ∧ Blk wr gr 25 Pat.zero.cells ∧ Below w.heap.size w wr













































































































































































































































































end Go.Proofs.YtkkgfdfjgfigcaaDoor

/-
  Contract of the walk over the reference's Join. Conditions: none.
-/
namespace Go.Proofs.YtkkgfdfjgfigcaaDoor
set_option linter.unusedVariables false
set_option linter.unusedSimpArgs false
open Go.RowKit

/-- What is known of the last place that is odd. -/
structure One (o : Nat → Bool) (k : Nat) (a : Int) : Prop where
  zero : cnt o 0 k = 0 → ∀ j, j < k → o j = false
  one : cnt o 0 k = 1 → ∃ s, s < k ∧ a = (s : Int) ∧ o s = true ∧ ∀ j, j < k → j ≠ s → o j = false
theorem cnt_next (o : Nat → Bool) (k : Nat) : cnt o 0 (k + 1) = cnt o 0 k + (o k).toNat := by
  show cnt o 0 k + (o (0 + k)).toNat = _
  rw [Nat.zero_add]
theorem One.skip {o : Nat → Bool} {k : Nat} {a : Int} (h : One o k a) (ho : o k = false) : One o (k + 1) a := by
  have e := cnt_next o k
  rw [ho] at e
  have e2 : cnt o 0 (k + 1) = cnt o 0 k := e
  refine ⟨fun hc j hj => ?_, fun hc => ?_⟩
  · by_cases hjk : j = k
    · rw [hjk]; exact ho
    · exact h.zero (by omega) j (by omega)
  · obtain ⟨s, h1, h2, h3, h4⟩ := h.one (by omega)
    refine ⟨s, by omega, h2, h3, fun j hj hne => ?_⟩
    by_cases hjk : j = k
    · rw [hjk]; exact ho
    · exact h4 j (by omega) hne
theorem One.take {o : Nat → Bool} {k : Nat} {a : Int} (h : One o k a) (ho : o k = true) : One o (k + 1) (k : Int) := by
  have e := cnt_next o k
  rw [ho] at e
  have e2 : cnt o 0 (k + 1) = cnt o 0 k + 1 := e
  refine ⟨fun hc => by omega, fun hc => ⟨k, by omega, rfl, ho, fun j hj hne => h.zero (by omega) j (by omega)⟩⟩
theorem Pat.join_one {p q : Pat} {s : Nat} (hs : p.odd q s = true) (h : ∀ j, j < 160 → j ≠ s → p.odd q j = false) : (⟨upd p.m s false, upd p.b s false⟩ : Pat).cells = (p.join q).cells := by
  refine cells_congr ⟨fun i hi => ?_, fun i hi => ?_⟩
  · show upd p.m s false i = (p.m i && !p.odd q i)
    unfold upd
    by_cases e : i = s
    · rw [if_pos e, e, hs]; simp
    · rw [if_neg e, h i hi e]; simp
  · show upd p.b s false i = (p.b i && !p.odd q i)
    unfold upd
    by_cases e : i = s
    · rw [if_pos e, e, hs]; simp
    · rw [if_neg e, h i hi e]; simp
def RJoinRel (p q : Pat) (gp gq gr : Nat) (w : World) (a n i : Value) (wr : World) : Prop :=
  ∃ (k N : Nat) (A : Int), k ≤ 160 ∧ a = .int .i64 A ∧ n = .int .i64 (N : Int) ∧ i = .int .i64 (k : Int) ∧ cnt (p.odd q) 0 k = N ∧ One (p.odd q) k A ∧ Blk wr gp 25 p.cells ∧ Blk wr gq 25 q.cells ∧ Blk wr gr 25 Pat.zero.cells ∧ Below w.heap.size w wr









































































































































































































































end Go.Proofs.YtkkgfdfjgfigcaaDoor
